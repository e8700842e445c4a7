/-
  DERIVED. GIVEN WITH THE SEED: THE CARDS: each row of YtfhpgobdnhlpcaaDoorRows.lean that lists a variable, with what it lists TIED to the program's text (the seventh form; the later family's looks); each row that meets fmt, with fmt's text TOLD by the authors' own Lean function (tested against real Go, not proved from fmt's source: count such statements apart). THE CARD IS WHAT COUNTS. Prove the row's statement (the work); the ties are given (YtfhpgobdnhlpcaaDoorTie.lean); close each card by the builder's one call (the guide's Derived/Test/ToyasCard.lean, 'card_holds'). Laid BY PROGRAM, IN A SANDBOX (cutbox-door.mjs). By AI agents, Wed Nov 11 2026. No macro, syntax, notation, axiom, sorry.
-/
import Derived.Test.YtfhpgobdnhlpcaaDoorRows
import GoSem.ClaimSeven
namespace Go.Proofs.YtfhpgobdnhlpcaaDoor
namespace Rows

/-- THE TIED CARD OF 'scullerylaw06.HeadTells'. -/
def headTellsCard : Claim7 := { stood := { row := headTellsRow, standIns := [], harness := (true, "7b56fc450823295c55399360d80bba56905263940ad98bd04a0b38f43b7f6966"), looks := true }, kinds := [], alts := [], laidByText := true, laidKinds := [.data, .pinned], laidTests := true, laidLooks := .later }
def HeadTellsCardSaid : Prop := Claim7.holds Tryd.pinned (.plain (OpenSpec.ofChange headTellsSpec)) headTellsCard

/-- THE TIED CARD OF 'scullerylaw06.HeadLess'. -/
def headLessCard : Claim7 := { stood := { row := headLessRow, standIns := [], harness := (true, "7b56fc450823295c55399360d80bba56905263940ad98bd04a0b38f43b7f6966"), looks := true }, kinds := [], alts := [], laidByText := true, laidKinds := [.data, .pinned], laidTests := true, laidLooks := .later }
def HeadLessCardSaid : Prop := Claim7.holds Tryd.pinned (.plain (OpenSpec.ofChange headLessSpec)) headLessCard

/-- THE TIED CARD OF 'scullerylaw06.HeadBack'. -/
def headBackCard : Claim7 := { stood := { row := headBackRow, standIns := [], harness := (true, "7b56fc450823295c55399360d80bba56905263940ad98bd04a0b38f43b7f6966"), looks := true }, kinds := [], alts := [], laidByText := true, laidKinds := [.data, .pinned], laidTests := true, laidLooks := .later }
def HeadBackCardSaid : Prop := Claim7.holds Tryd.pinned (.plain (OpenSpec.ofChange headBackSpec)) headBackCard

/-- THE TIED CARD OF 'scullerylaw07.ChunkBack'. -/
def chunkBackCard : Claim7 := { stood := { row := chunkBackRow, standIns := [], harness := (true, "7b56fc450823295c55399360d80bba56905263940ad98bd04a0b38f43b7f6966"), looks := true }, kinds := [], alts := [], laidByText := true, laidKinds := [.data, .data, .data, .data, .sentinel, .sentinel, .pinned], laidTests := true, laidLooks := .later }
def ChunkBackCardSaid : Prop := Claim7.holds Tryd.pinned (.plain (OpenSpec.ofChange chunkBackSpec)) chunkBackCard

/-- THE TIED CARD OF 'scullerylaw07.ChunkJoin'. -/
def chunkJoinCard : Claim7 := { stood := { row := chunkJoinRow, standIns := [], harness := (true, "7b56fc450823295c55399360d80bba56905263940ad98bd04a0b38f43b7f6966"), looks := true }, kinds := [], alts := [], laidByText := true, laidKinds := [.data, .data, .data, .data, .sentinel, .sentinel, .pinned], laidTests := true, laidLooks := .later }
def ChunkJoinCardSaid : Prop := Claim7.holds Tryd.pinned (.plain (OpenSpec.ofChange chunkJoinSpec)) chunkJoinCard

/-- THE SECOND FORM's CARD OF 'scullerylaw06.HeadTells'. -/
def headTellsUptoCard : Claim7 := { stood := { row := headTellsUptoRow, standIns := [], harness := (true, "7b56fc450823295c55399360d80bba56905263940ad98bd04a0b38f43b7f6966"), looks := true }, kinds := [], alts := [], laidByText := true, laidKinds := [.data, .pinned], laidTests := true, laidLooks := .later }
def HeadTellsUptoCardSaid : Prop := Claim7.holds Tryd.pinned (.plain (OpenSpec.upto headTellsSpec)) headTellsUptoCard

/-- THE SECOND FORM's CARD OF 'scullerylaw06.HeadLess'. -/
def headLessUptoCard : Claim7 := { stood := { row := headLessUptoRow, standIns := [], harness := (true, "7b56fc450823295c55399360d80bba56905263940ad98bd04a0b38f43b7f6966"), looks := true }, kinds := [], alts := [], laidByText := true, laidKinds := [.data, .pinned], laidTests := true, laidLooks := .later }
def HeadLessUptoCardSaid : Prop := Claim7.holds Tryd.pinned (.plain (OpenSpec.upto headLessSpec)) headLessUptoCard

/-- THE SECOND FORM's CARD OF 'scullerylaw06.HeadBack'. -/
def headBackUptoCard : Claim7 := { stood := { row := headBackUptoRow, standIns := [], harness := (true, "7b56fc450823295c55399360d80bba56905263940ad98bd04a0b38f43b7f6966"), looks := true }, kinds := [], alts := [], laidByText := true, laidKinds := [.data, .pinned], laidTests := true, laidLooks := .later }
def HeadBackUptoCardSaid : Prop := Claim7.holds Tryd.pinned (.plain (OpenSpec.upto headBackSpec)) headBackUptoCard

/-- THE SECOND FORM's CARD OF 'scullerylaw07.ChunkBack'. -/
def chunkBackUptoCard : Claim7 := { stood := { row := chunkBackUptoRow, standIns := [], harness := (true, "7b56fc450823295c55399360d80bba56905263940ad98bd04a0b38f43b7f6966"), looks := true }, kinds := [], alts := [], laidByText := true, laidKinds := [.data, .data, .data, .data, .sentinel, .sentinel, .pinned], laidTests := true, laidLooks := .later }
def ChunkBackUptoCardSaid : Prop := Claim7.holds Tryd.pinned (.plain (OpenSpec.upto chunkBackSpec)) chunkBackUptoCard

/-- THE SECOND FORM's CARD OF 'scullerylaw07.ChunkJoin'. -/
def chunkJoinUptoCard : Claim7 := { stood := { row := chunkJoinUptoRow, standIns := [], harness := (true, "7b56fc450823295c55399360d80bba56905263940ad98bd04a0b38f43b7f6966"), looks := true }, kinds := [], alts := [], laidByText := true, laidKinds := [.data, .data, .data, .data, .sentinel, .sentinel, .pinned], laidTests := true, laidLooks := .later }
def ChunkJoinUptoCardSaid : Prop := Claim7.holds Tryd.pinned (.plain (OpenSpec.upto chunkJoinSpec)) chunkJoinUptoCard
end Rows
end Go.Proofs.YtfhpgobdnhlpcaaDoor
