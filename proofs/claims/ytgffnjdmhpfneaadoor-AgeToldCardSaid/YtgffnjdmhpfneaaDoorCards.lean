/-
  DERIVED. GIVEN WITH THE SEED: THE CARDS: each row of YtgffnjdmhpfneaaDoorRows.lean that lists a variable, with what it lists TIED to the program's text (the seventh form; the later family's looks); each row that meets fmt, with fmt's text TOLD by the authors' own Lean function (tested against real Go, not proved from fmt's source: count such statements apart). THE CARD IS WHAT COUNTS. Prove the row's statement (the work); the ties are given (YtgffnjdmhpfneaaDoorTie.lean); close each card by the builder's one call (the guide's Derived/Test/ToyasCard.lean, 'card_holds'). Laid BY PROGRAM, IN A SANDBOX (cutbox-door.mjs). By AI agents, Wed Nov 11 2026. No macro, syntax, notation, axiom, sorry.
-/
import Derived.Test.YtgffnjdmhpfneaaDoorRows
import GoSem.ClaimSeven
namespace Go.Proofs.YtgffnjdmhpfneaaDoor
namespace Rows

/-- THE TIED CARD OF 'scullerylaw13.AgeTells'. -/
def ageTellsCard : Claim7 := { stood := { row := ageTellsRow, standIns := [], harness := (true, "e17deb5b9fc5428965027a9f9d101963a8ff689da60748975cac0f069ada2e80"), looks := false }, kinds := [], alts := [], laidByText := true, laidKinds := [.data, .data, .data], laidTests := true, laidLooks := .later }
def AgeTellsCardSaid : Prop := Claim7.holds Tryd.pinned (.plain (OpenSpec.ofChange ageTellsSpec)) ageTellsCard

/-- THE TIED CARD OF 'scullerylaw13.AgeGrows'. -/
def ageGrowsCard : Claim7 := { stood := { row := ageGrowsRow, standIns := [], harness := (true, "e17deb5b9fc5428965027a9f9d101963a8ff689da60748975cac0f069ada2e80"), looks := false }, kinds := [], alts := [], laidByText := true, laidKinds := [.data, .data, .data], laidTests := true, laidLooks := .later }
def AgeGrowsCardSaid : Prop := Claim7.holds Tryd.pinned (.plain (OpenSpec.ofChange ageGrowsSpec)) ageGrowsCard

/-- THE TIED CARD OF 'scullerylaw13.AgeTold'. -/
def ageToldCard : Claim7 := { stood := { row := ageToldRow, standIns := [], harness := (true, "e17deb5b9fc5428965027a9f9d101963a8ff689da60748975cac0f069ada2e80"), looks := false }, kinds := [], alts := [], laidByText := true, laidKinds := [.data, .data, .data], laidTests := true, laidLooks := .later }
def AgeToldCardSaid : Prop := Claim7.holds Tryd.pinned (.plain (OpenSpec.ofChange ageToldSpec)) ageToldCard

/-- THE SECOND FORM's CARD OF 'scullerylaw13.AgeTells'. -/
def ageTellsUptoCard : Claim7 := { stood := { row := ageTellsUptoRow, standIns := [], harness := (true, "e17deb5b9fc5428965027a9f9d101963a8ff689da60748975cac0f069ada2e80"), looks := false }, kinds := [], alts := [], laidByText := true, laidKinds := [.data, .data, .data], laidTests := true, laidLooks := .later }
def AgeTellsUptoCardSaid : Prop := Claim7.holds Tryd.pinned (.plain (OpenSpec.upto ageTellsSpec)) ageTellsUptoCard

/-- THE SECOND FORM's CARD OF 'scullerylaw13.AgeGrows'. -/
def ageGrowsUptoCard : Claim7 := { stood := { row := ageGrowsUptoRow, standIns := [], harness := (true, "e17deb5b9fc5428965027a9f9d101963a8ff689da60748975cac0f069ada2e80"), looks := false }, kinds := [], alts := [], laidByText := true, laidKinds := [.data, .data, .data], laidTests := true, laidLooks := .later }
def AgeGrowsUptoCardSaid : Prop := Claim7.holds Tryd.pinned (.plain (OpenSpec.upto ageGrowsSpec)) ageGrowsUptoCard

/-- THE SECOND FORM's CARD OF 'scullerylaw13.AgeTold'. -/
def ageToldUptoCard : Claim7 := { stood := { row := ageToldUptoRow, standIns := [], harness := (true, "e17deb5b9fc5428965027a9f9d101963a8ff689da60748975cac0f069ada2e80"), looks := false }, kinds := [], alts := [], laidByText := true, laidKinds := [.data, .data, .data], laidTests := true, laidLooks := .later }
def AgeToldUptoCardSaid : Prop := Claim7.holds Tryd.pinned (.plain (OpenSpec.upto ageToldSpec)) ageToldUptoCard
end Rows
end Go.Proofs.YtgffnjdmhpfneaaDoor
