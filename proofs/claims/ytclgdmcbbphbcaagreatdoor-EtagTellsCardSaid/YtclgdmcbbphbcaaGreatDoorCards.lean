/-
  DERIVED. GIVEN WITH THE SEED: THE CARDS: each row of YtclgdmcbbphbcaaGreatDoorRows.lean that lists a variable, with what it lists TIED to the program's text (the seventh form; the later family's looks); each row that meets fmt, with fmt's text TOLD by the authors' own Lean function (tested against real Go, not proved from fmt's source: count such statements apart). THE CARD IS WHAT COUNTS. Prove the row's statement (the work); the ties are given (YtclgdmcbbphbcaaGreatDoorTie.lean); close each card by the builder's one call (the guide's Derived/Test/ToyasCard.lean, 'card_holds'). Laid BY PROGRAM, IN A SANDBOX (cutbox-door.mjs). By AI agents, Wed Nov 11 2026. No macro, syntax, notation, axiom, sorry.
-/
import Derived.Test.YtclgdmcbbphbcaaGreatDoorRows
import GoSem.ClaimSeven
namespace Go.Proofs.YtclgdmcbbphbcaaGreatDoor
namespace Rows

/-- THE TIED CARD OF 'scullerylaw12.EtagTells'. -/
def etagTellsCard : Claim7 := { stood := { row := etagTellsRow, standIns := [], harness := (true, "033f9c184d12f9017f8ed0712b3240b12c31b71182e9b550f57a3ceeda27b1f0"), looks := false }, kinds := [], alts := [], laidByText := true, laidKinds := [.data, .data, .data, .data, .pinned], laidTests := true, laidLooks := .later }
def EtagTellsCardSaid : Prop := Claim7.holds Tryz.pinned (.plain (OpenSpec.ofChange etagTellsSpec)) etagTellsCard

/-- THE SECOND FORM's CARD OF 'scullerylaw12.EtagTells'. -/
def etagTellsUptoCard : Claim7 := { stood := { row := etagTellsUptoRow, standIns := [], harness := (true, "033f9c184d12f9017f8ed0712b3240b12c31b71182e9b550f57a3ceeda27b1f0"), looks := false }, kinds := [], alts := [], laidByText := true, laidKinds := [.data, .data, .data, .data, .pinned], laidTests := true, laidLooks := .later }
def EtagTellsUptoCardSaid : Prop := Claim7.holds Tryz.pinned (.plain (OpenSpec.upto etagTellsSpec)) etagTellsUptoCard
end Rows
end Go.Proofs.YtclgdmcbbphbcaaGreatDoor
