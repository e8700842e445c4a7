/- Plain: a text, or none, as the calls of package target answer it. -/
import Derived.Test.YtbbdifcmhoobaaaGreatDoorRows
import Derived.Test.YtbbdifcmhoobaaaGreatDoorBasP
import Derived.WalkKit
namespace Go.Proofs.YtbbdifcmhoobaaaGreatDoor
open Go.RowKit

/-- A text, or none, as the calls answer it. -/
def errV : Option (List UInt8) → Value
  | some p => .tuple #[.string (strB p), .int .i64 0]
  | none => .tuple #[.string ⟨#[]⟩, .int .i64 2]
def errPost (o : Option (List UInt8)) (w : World) (e : Ending) (w' : World) : Prop := e = .returned (errV o) ∧ Below w.heap.size w w'
theorem errV_form (o : Option (List UInt8)) : ∃ (A : ByteArray) (E : Int), errV o = .tuple #[.string A, .int .i64 E] := by
  cases o with
  | none => exact ⟨_, _, rfl⟩
  | some p => exact ⟨_, _, rfl⟩

end Go.Proofs.YtbbdifcmhoobaaaGreatDoor
