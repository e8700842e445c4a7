/- The library's error values; what ParseUint at sixteen tells. -/
import Derived.Test.YtbbdifcmhoobaaaGreatDoorRows
import Derived.Test.YtbbdifcmhoobaaaGreatDoorChP
import Derived.WalkKit
namespace Go.Proofs.YtbbdifcmhoobaaaGreatDoor
open Go.RowKit Go.Lib

/-- The library's error values lie. -/
def Errs (w : World) : Prop := (∃ ev, w.cell? ⟨1, 0, none⟩ = some ev ∧ (ev = .nilIface ∨ ∃ te pe, ev = .iface te pe)) ∧ (∃ ev, w.cell? ⟨2, 0, none⟩ = some ev ∧ (ev = .nilIface ∨ ∃ te pe, ev = .iface te pe))
theorem Errs.below {w w' : World} (h : Errs w) (hb : Below w.heap.size w w') : Errs w' := by
  obtain ⟨⟨e1, h1, g1⟩, e2, h2, g2⟩ := h
  exact ⟨⟨e1, (hb.cell (p := ⟨_, 0, none⟩) (lt_of_cell h1)).trans h1, g1⟩, e2, (hb.cell (p := ⟨_, 0, none⟩) (lt_of_cell h2)).trans h2, g2⟩

/-- The number that a text tells by sixteen; or the library's error. -/
def num16 (l : List UInt8) : Except Bool Nat := if l = [] then .error true else par16 0 l
def puiPost (o : Except Bool Nat) (w : World) (e : Ending) (w' : World) : Prop := Below w.heap.size w w' ∧ match o with
  | .ok n => e = .returned (.tuple #[.int .u64 n, .nilIface])
  | _ => ∃ (x : Int) (N : Nat), e = .returned (.tuple #[.int .u64 x, .iface 81 (.pointer (some ⟨N, 0, none⟩))])

end Go.Proofs.YtbbdifcmhoobaaaGreatDoor
