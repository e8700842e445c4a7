/-
  DERIVED. GIVEN WITH THE SEED: THE CARDS: each row of YtclgdmcbbphbcaaDoorRows.lean that lists a variable, with what it lists TIED to the program's text (the seventh form; the later family's looks); each row that meets fmt, with fmt's text TOLD by the authors' own Lean function (tested against real Go, not proved from fmt's source: count such statements apart). THE CARD IS WHAT COUNTS. Prove the row's statement (the work); the ties are given (YtclgdmcbbphbcaaDoorTie.lean); close each card by the builder's one call (the guide's Derived/Test/ToyasCard.lean, 'card_holds'). Laid BY PROGRAM, IN A SANDBOX (cutbox-door.mjs). By AI agents, Wed Nov 11 2026. No macro, syntax, notation, axiom, sorry.
-/
import Derived.Test.YtclgdmcbbphbcaaDoorRows
import GoSem.ClaimSeven
namespace Go.Proofs.YtclgdmcbbphbcaaDoor
namespace Rows

/-- THE TIED CARD OF 'scullerylaw12.EtagBack'. -/
def etagBackCard : Claim7 := { stood := { row := etagBackRow, standIns := [], harness := (true, "47e08b86f34eb6928a365dc20dcab86cad613f27003d77f03c00d276c534b793"), looks := false }, kinds := [], alts := [], laidByText := true, laidKinds := [.data, .data, .data, .data, .pinned], laidTests := true, laidLooks := .later }
def EtagBackCardSaid : Prop := Claim7.holds Tryd.pinned (.plain (OpenSpec.ofChange etagBackSpec)) etagBackCard

/-- THE TIED CARD OF 'scullerylaw12.EtagHeld'. -/
def etagHeldCard : Claim7 := { stood := { row := etagHeldRow, standIns := [], harness := (true, "47e08b86f34eb6928a365dc20dcab86cad613f27003d77f03c00d276c534b793"), looks := false }, kinds := [], alts := [], laidByText := true, laidKinds := [.data, .data, .data, .data, .pinned], laidTests := true, laidLooks := .later }
def EtagHeldCardSaid : Prop := Claim7.holds Tryd.pinned (.plain (OpenSpec.ofChange etagHeldSpec)) etagHeldCard

/-- THE SECOND FORM's CARD OF 'scullerylaw12.EtagBack'. -/
def etagBackUptoCard : Claim7 := { stood := { row := etagBackUptoRow, standIns := [], harness := (true, "47e08b86f34eb6928a365dc20dcab86cad613f27003d77f03c00d276c534b793"), looks := false }, kinds := [], alts := [], laidByText := true, laidKinds := [.data, .data, .data, .data, .pinned], laidTests := true, laidLooks := .later }
def EtagBackUptoCardSaid : Prop := Claim7.holds Tryd.pinned (.plain (OpenSpec.upto etagBackSpec)) etagBackUptoCard

/-- THE SECOND FORM's CARD OF 'scullerylaw12.EtagHeld'. -/
def etagHeldUptoCard : Claim7 := { stood := { row := etagHeldUptoRow, standIns := [], harness := (true, "47e08b86f34eb6928a365dc20dcab86cad613f27003d77f03c00d276c534b793"), looks := false }, kinds := [], alts := [], laidByText := true, laidKinds := [.data, .data, .data, .data, .pinned], laidTests := true, laidLooks := .later }
def EtagHeldUptoCardSaid : Prop := Claim7.holds Tryd.pinned (.plain (OpenSpec.upto etagHeldSpec)) etagHeldUptoCard
end Rows
end Go.Proofs.YtclgdmcbbphbcaaDoor
