/- The contract of ascii.Lower. · (for a seat with head) ascii's small functions and Lower together. -/
import Derived.Test.YtgffnjdmhpfneaaDoorZAscN
import Derived.Test.YtgffnjdmhpfneaaDoorZMBasP
import Derived.Test.YtgffnjdmhpfneaaDoorRows
import Derived.Test.YtgffnjdmhpfneaaDoorZAscPlain
import Derived.Laws.IdiomStrings
import Derived.WalkKit
import Derived.WalkSpells
import Derived.WalkLawsBesides
import Derived.Lib.Hide

namespace Go.Proofs.YtgffnjdmhpfneaaDoor
open Go.RowKit

/-- A row of memory that holds just these bytes, and may be written. -/
def RowIs (w : World) (b : Nat) (l : List UInt8) : Prop := ∀ j, j < l.length → w.cell? ⟨b, j, none⟩ = some (.int .u8 ((l.getD j 0).toNat : Int)) ∧ w.frozen? ⟨b, j, none⟩ = false

theorem RowIs.set {w : World} {b : Nat} {l : List UInt8} (h : RowIs w b l) (k : Nat) (c : UInt8) (n : Int) (hn : (c.toNat : Int) = n) : RowIs (w.setCell ⟨b, k, none⟩ (.int .u8 n)) b (l.set k c) := by
  intro j hj
  rw [List.length_set] at hj
  refine ⟨?_, by rw [World.frozen?_setCell]; exact (h j hj).2⟩
  by_cases e : k = j
  · subst e
    rw [World.cell?_setCell_same w _ _ (h k hj).1, ← hn]
    simp [hj]
  · rw [World.cell?_setCell_other w _ _ _ (by intro q; exact e (by injection q)), (h j hj).1]
    simp [e]

theorem RowIs.of_bytes (w : World) (s : ByteArray) (cap : Nat) (e : TypeId) (h : s.size ≤ cap) : RowIs (w.drew.alloc (.cells (bytesRow s cap) e ((bytesRow s cap).size, (bytesRow s cap).size + 1))) w.heap.size s.data.toList := by
  intro j hj
  have hj' : j < s.data.size := by simpa using hj
  have hz : (bytesRow s cap).size = cap := by
    unfold bytesRow
    have : s.data.size = s.size := rfl
    simp
    omega
  refine ⟨?_, ?_⟩
  · rw [show w.heap.size = w.drew.heap.size from rfl, World.cell?_alloc_mark, bytesRow_at s cap j hj']
    rw [List.getD_eq_getElem?_getD, Array.getElem?_toList, Array.getElem?_eq_getElem hj', Option.getD_some]
  · rw [show w.heap.size = w.drew.heap.size from rfl, World.frozen?_alloc_mark, hz]
    have : s.data.size = s.size := rfl
    simp
    omega

end Go.Proofs.YtgffnjdmhpfneaaDoor


