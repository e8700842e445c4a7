/-
  DERIVED. GIVEN WITH THE SEED: THE CARDS: each row of YtopfallmpbjbaaaDoorRows.lean that lists a variable, with what it lists TIED to the program's text (the seventh form; the later family's looks); each row that meets fmt, with fmt's text TOLD by the authors' own Lean function (tested against real Go, not proved from fmt's source: count such statements apart). THE CARD IS WHAT COUNTS. Prove the row's statement (the work); the ties are given (YtopfallmpbjbaaaDoorTie.lean); close each card by the builder's one call (the guide's Derived/Test/ToyasCard.lean, 'card_holds'). Laid BY PROGRAM, IN A SANDBOX (cutbox-door.mjs). By AI agents, Wed Nov 11 2026. No macro, syntax, notation, axiom, sorry.
-/
import Derived.Test.YtopfallmpbjbaaaDoorRows
import GoSem.ClaimSeven
namespace Go.Proofs.YtopfallmpbjbaaaDoor
namespace Rows

/-- THE TIED CARD OF 'scullerylaw02.BareTells'. -/
def bareTellsCard : Claim7 := { stood := { row := bareTellsRow, standIns := [], harness := (true, "5783c5445f91f418bbac48fb76eadd620db11973ea478541fef85de18194789c"), looks := false }, kinds := [], alts := [], laidByText := true, laidKinds := [.data, .data, .data, .data, .data, .pinned], laidTests := true, laidLooks := .later }
def BareTellsCardSaid : Prop := Claim7.holds Tryd.pinned (.plain (OpenSpec.ofChange bareTellsSpec)) bareTellsCard

/-- THE TIED CARD OF 'scullerylaw02.BareBack'. -/
def bareBackCard : Claim7 := { stood := { row := bareBackRow, standIns := [], harness := (true, "5783c5445f91f418bbac48fb76eadd620db11973ea478541fef85de18194789c"), looks := false }, kinds := [], alts := [], laidByText := true, laidKinds := [.data, .data, .data, .data, .data, .pinned], laidTests := true, laidLooks := .later }
def BareBackCardSaid : Prop := Claim7.holds Tryd.pinned (.plain (OpenSpec.ofChange bareBackSpec)) bareBackCard

/-- THE TIED CARD OF 'scullerylaw02.BareSigns'. -/
def bareSignsCard : Claim7 := { stood := { row := bareSignsRow, standIns := [], harness := (true, "5783c5445f91f418bbac48fb76eadd620db11973ea478541fef85de18194789c"), looks := false }, kinds := [], alts := [], laidByText := true, laidKinds := [.data, .data, .data, .data, .data, .pinned], laidTests := true, laidLooks := .later }
def BareSignsCardSaid : Prop := Claim7.holds Tryd.pinned (.plain (OpenSpec.ofChange bareSignsSpec)) bareSignsCard

/-- THE TIED CARD OF 'scullerylaw02.BareMore'. -/
def bareMoreCard : Claim7 := { stood := { row := bareMoreRow, standIns := [], harness := (true, "5783c5445f91f418bbac48fb76eadd620db11973ea478541fef85de18194789c"), looks := false }, kinds := [], alts := [], laidByText := true, laidKinds := [.data, .data, .data, .data, .data, .pinned], laidTests := true, laidLooks := .later }
def BareMoreCardSaid : Prop := Claim7.holds Tryd.pinned (.plain (OpenSpec.ofChange bareMoreSpec)) bareMoreCard

/-- THE TIED CARD OF 'scullerylaw03.ItemBack'. -/
def itemBackCard : Claim7 := { stood := { row := itemBackRow, standIns := [], harness := (true, "5783c5445f91f418bbac48fb76eadd620db11973ea478541fef85de18194789c"), looks := false }, kinds := [], alts := [], laidByText := true, laidKinds := [.data, .data, .data, .data, .data, .pinned], laidTests := true, laidLooks := .later }
def ItemBackCardSaid : Prop := Claim7.holds Tryd.pinned (.plain (OpenSpec.ofChange itemBackSpec)) itemBackCard

/-- THE TIED CARD OF 'scullerylaw03.ItemLast'. -/
def itemLastCard : Claim7 := { stood := { row := itemLastRow, standIns := [], harness := (true, "5783c5445f91f418bbac48fb76eadd620db11973ea478541fef85de18194789c"), looks := false }, kinds := [], alts := [], laidByText := true, laidKinds := [.data, .data, .data, .data, .data, .pinned], laidTests := true, laidLooks := .later }
def ItemLastCardSaid : Prop := Claim7.holds Tryd.pinned (.plain (OpenSpec.ofChange itemLastSpec)) itemLastCard

/-- THE SECOND FORM's CARD OF 'scullerylaw02.BareTells'. -/
def bareTellsUptoCard : Claim7 := { stood := { row := bareTellsUptoRow, standIns := [], harness := (true, "5783c5445f91f418bbac48fb76eadd620db11973ea478541fef85de18194789c"), looks := false }, kinds := [], alts := [], laidByText := true, laidKinds := [.data, .data, .data, .data, .data, .pinned], laidTests := true, laidLooks := .later }
def BareTellsUptoCardSaid : Prop := Claim7.holds Tryd.pinned (.plain (OpenSpec.upto bareTellsSpec)) bareTellsUptoCard

/-- THE SECOND FORM's CARD OF 'scullerylaw02.BareBack'. -/
def bareBackUptoCard : Claim7 := { stood := { row := bareBackUptoRow, standIns := [], harness := (true, "5783c5445f91f418bbac48fb76eadd620db11973ea478541fef85de18194789c"), looks := false }, kinds := [], alts := [], laidByText := true, laidKinds := [.data, .data, .data, .data, .data, .pinned], laidTests := true, laidLooks := .later }
def BareBackUptoCardSaid : Prop := Claim7.holds Tryd.pinned (.plain (OpenSpec.upto bareBackSpec)) bareBackUptoCard

/-- THE SECOND FORM's CARD OF 'scullerylaw02.BareSigns'. -/
def bareSignsUptoCard : Claim7 := { stood := { row := bareSignsUptoRow, standIns := [], harness := (true, "5783c5445f91f418bbac48fb76eadd620db11973ea478541fef85de18194789c"), looks := false }, kinds := [], alts := [], laidByText := true, laidKinds := [.data, .data, .data, .data, .data, .pinned], laidTests := true, laidLooks := .later }
def BareSignsUptoCardSaid : Prop := Claim7.holds Tryd.pinned (.plain (OpenSpec.upto bareSignsSpec)) bareSignsUptoCard

/-- THE SECOND FORM's CARD OF 'scullerylaw02.BareMore'. -/
def bareMoreUptoCard : Claim7 := { stood := { row := bareMoreUptoRow, standIns := [], harness := (true, "5783c5445f91f418bbac48fb76eadd620db11973ea478541fef85de18194789c"), looks := false }, kinds := [], alts := [], laidByText := true, laidKinds := [.data, .data, .data, .data, .data, .pinned], laidTests := true, laidLooks := .later }
def BareMoreUptoCardSaid : Prop := Claim7.holds Tryd.pinned (.plain (OpenSpec.upto bareMoreSpec)) bareMoreUptoCard

/-- THE SECOND FORM's CARD OF 'scullerylaw03.ItemBack'. -/
def itemBackUptoCard : Claim7 := { stood := { row := itemBackUptoRow, standIns := [], harness := (true, "5783c5445f91f418bbac48fb76eadd620db11973ea478541fef85de18194789c"), looks := false }, kinds := [], alts := [], laidByText := true, laidKinds := [.data, .data, .data, .data, .data, .pinned], laidTests := true, laidLooks := .later }
def ItemBackUptoCardSaid : Prop := Claim7.holds Tryd.pinned (.plain (OpenSpec.upto itemBackSpec)) itemBackUptoCard

/-- THE SECOND FORM's CARD OF 'scullerylaw03.ItemLast'. -/
def itemLastUptoCard : Claim7 := { stood := { row := itemLastUptoRow, standIns := [], harness := (true, "5783c5445f91f418bbac48fb76eadd620db11973ea478541fef85de18194789c"), looks := false }, kinds := [], alts := [], laidByText := true, laidKinds := [.data, .data, .data, .data, .data, .pinned], laidTests := true, laidLooks := .later }
def ItemLastUptoCardSaid : Prop := Claim7.holds Tryd.pinned (.plain (OpenSpec.upto itemLastSpec)) itemLastUptoCard
end Rows
end Go.Proofs.YtopfallmpbjbaaaDoor
