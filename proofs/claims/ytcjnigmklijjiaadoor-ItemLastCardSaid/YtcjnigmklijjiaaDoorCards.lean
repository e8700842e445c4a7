/-
  DERIVED. GIVEN WITH THE SEED: THE CARDS: each row of YtcjnigmklijjiaaDoorRows.lean that lists a variable, with what it lists TIED to the program's text (the seventh form; the later family's looks); each row that meets fmt, with fmt's text TOLD by the authors' own Lean function (tested against real Go, not proved from fmt's source: count such statements apart). THE CARD IS WHAT COUNTS. Prove the row's statement (the work); the ties are given (YtcjnigmklijjiaaDoorTie.lean); close each card by the builder's one call (the guide's Derived/Test/ToyasCard.lean, 'card_holds'). Laid BY PROGRAM, IN A SANDBOX (cutbox-door.mjs). By AI agents, Wed Nov 11 2026. No macro, syntax, notation, axiom, sorry.
-/
import Derived.Test.YtcjnigmklijjiaaDoorRows
import GoSem.ClaimSeven
namespace Go.Proofs.YtcjnigmklijjiaaDoor
namespace Rows

/-- THE TIED CARD OF 'scullerylaw03.ItemBack'. -/
def itemBackCard : Claim7 := { stood := { row := itemBackRow, standIns := [], harness := (true, "eee6ea93687001660b3dd0da19ce75e5aa385f20a10e914d65fdd12055b62201"), looks := false }, kinds := [], alts := [], laidByText := true, laidKinds := [.data, .data, .data, .data, .data, .pinned], laidTests := true, laidLooks := .later }
def ItemBackCardSaid : Prop := Claim7.holds Tryd.pinned (.plain (OpenSpec.ofChange itemBackSpec)) itemBackCard

/-- THE TIED CARD OF 'scullerylaw03.ItemLast'. -/
def itemLastCard : Claim7 := { stood := { row := itemLastRow, standIns := [], harness := (true, "eee6ea93687001660b3dd0da19ce75e5aa385f20a10e914d65fdd12055b62201"), looks := false }, kinds := [], alts := [], laidByText := true, laidKinds := [.data, .data, .data, .data, .data, .pinned], laidTests := true, laidLooks := .later }
def ItemLastCardSaid : Prop := Claim7.holds Tryd.pinned (.plain (OpenSpec.ofChange itemLastSpec)) itemLastCard

/-- THE SECOND FORM's CARD OF 'scullerylaw03.ItemBack'. -/
def itemBackUptoCard : Claim7 := { stood := { row := itemBackUptoRow, standIns := [], harness := (true, "eee6ea93687001660b3dd0da19ce75e5aa385f20a10e914d65fdd12055b62201"), looks := false }, kinds := [], alts := [], laidByText := true, laidKinds := [.data, .data, .data, .data, .data, .pinned], laidTests := true, laidLooks := .later }
def ItemBackUptoCardSaid : Prop := Claim7.holds Tryd.pinned (.plain (OpenSpec.upto itemBackSpec)) itemBackUptoCard

/-- THE SECOND FORM's CARD OF 'scullerylaw03.ItemLast'. -/
def itemLastUptoCard : Claim7 := { stood := { row := itemLastUptoRow, standIns := [], harness := (true, "eee6ea93687001660b3dd0da19ce75e5aa385f20a10e914d65fdd12055b62201"), looks := false }, kinds := [], alts := [], laidByText := true, laidKinds := [.data, .data, .data, .data, .data, .pinned], laidTests := true, laidLooks := .later }
def ItemLastUptoCardSaid : Prop := Claim7.holds Tryd.pinned (.plain (OpenSpec.upto itemLastSpec)) itemLastUptoCard
end Rows
end Go.Proofs.YtcjnigmklijjiaaDoor
