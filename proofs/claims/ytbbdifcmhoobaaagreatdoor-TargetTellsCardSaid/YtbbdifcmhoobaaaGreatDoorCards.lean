/-
  DERIVED. GIVEN WITH THE SEED: THE CARDS: each row of YtbbdifcmhoobaaaGreatDoorRows.lean that lists a variable, with what it lists TIED to the program's text (the seventh form; the later family's looks); each row that meets fmt, with fmt's text TOLD by the authors' own Lean function (tested against real Go, not proved from fmt's source: count such statements apart). THE CARD IS WHAT COUNTS. Prove the row's statement (the work); the ties are given (YtbbdifcmhoobaaaGreatDoorTie.lean); close each card by the builder's one call (the guide's Derived/Test/ToyasCard.lean, 'card_holds'). Laid BY PROGRAM, IN A SANDBOX (cutbox-door.mjs). By AI agents, Wed Nov 11 2026. No macro, syntax, notation, axiom, sorry.
-/
import Derived.Test.YtbbdifcmhoobaaaGreatDoorRows
import GoSem.ClaimSeven
namespace Go.Proofs.YtbbdifcmhoobaaaGreatDoor
namespace Rows

/-- THE TIED CARD OF 'scullerylaw09.TargetTells'. -/
def targetTellsCard : Claim7 := { stood := { row := targetTellsRow, standIns := [], harness := (true, "8ea8e070680afcca2cd89bb82c2da5ab6e0c6cd8058f03678df0953fe93b4b66"), looks := true }, kinds := [], alts := [], laidByText := true, laidKinds := [.data, .data, .data, .data, .sentinel, .sentinel, .pinned, .pinned], laidTests := true, laidLooks := .later }
def TargetTellsCardSaid : Prop := Claim7.holds Tryz.pinned (.plain (OpenSpec.ofChange targetTellsSpec)) targetTellsCard

/-- THE SECOND FORM's CARD OF 'scullerylaw09.TargetTells'. -/
def targetTellsUptoCard : Claim7 := { stood := { row := targetTellsUptoRow, standIns := [], harness := (true, "8ea8e070680afcca2cd89bb82c2da5ab6e0c6cd8058f03678df0953fe93b4b66"), looks := true }, kinds := [], alts := [], laidByText := true, laidKinds := [.data, .data, .data, .data, .sentinel, .sentinel, .pinned, .pinned], laidTests := true, laidLooks := .later }
def TargetTellsUptoCardSaid : Prop := Claim7.holds Tryz.pinned (.plain (OpenSpec.upto targetTellsSpec)) targetTellsUptoCard
end Rows
end Go.Proofs.YtbbdifcmhoobaaaGreatDoor
