/- Plain: texts are the same just where their bytes are. · Plain: however many cells at a block, to be written to. -/
import Derived.Test.YtjnagifolheloaaDoorMBasP

namespace Go.Proofs.YtjnagifolheloaaDoor
open Go.RowKit

theorem name_eq (a b : List UInt8) : ((strB a).toList == (strB b).toList) = decide (b = a) := by
  rewrite [Lib.toList_data, Lib.toList_data, strB_data, strB_data]
  by_cases h : b = a
  · subst h; simp
  · rewrite [decide_eq_false h, beq_eq_false_iff_ne]
    exact fun e => h e.symm

end Go.Proofs.YtjnagifolheloaaDoor

namespace Go.Proofs.YtjnagifolheloaaDoor
open Go.RowKit Go.Lib

/-- Cells that lie at a block, to be written to. -/
def BoxN (W : World) (c : Nat) (vs : List Value) : Prop := c < W.heap.size ∧ ∀ k v, vs[k]? = some v → W.cell? ⟨c, k, none⟩ = some v ∧ W.frozen? ⟨c, k, none⟩ = false
theorem BoxN.made (w : World) (vs : List Value) (T : TypeId) : BoxN (w.alloc (.cells vs.toArray T)) w.heap.size vs := ⟨by simp, fun k v h => by
  have hk : k < vs.length := (List.getElem?_eq_some_iff.1 h).1
  constructor
  · simp [h]
  · simp⟩
theorem BoxN.next {W W1 : World} {c : Nat} {vs : List Value} (h : BoxN W c vs) (hb : Below W.heap.size W W1) : BoxN W1 c vs :=
  ⟨Nat.lt_of_lt_of_le h.1 hb.size, fun k v e => ⟨(hb.cell (p := ⟨c, k, none⟩) h.1).trans (h.2 k v e).1, (hb.frozen (p := ⟨c, k, none⟩) h.1).trans (h.2 k v e).2⟩⟩
theorem BoxN.set {W : World} {c : Nat} {vs : List Value} (h : BoxN W c vs) (k : Nat) (u : Value) (hk : k < vs.length) : BoxN (W.setCell ⟨c, k, none⟩ u) c (vs.set k u) :=
  ⟨by have := h.1; simpa using this, fun j v e => by
    rewrite [World.frozen?_setCell]
    by_cases hj : k = j
    · subst hj
      rw [List.getElem?_set_self hk] at e
      cases e
      exact ⟨World.cell?_setCell_same W ⟨c, k, none⟩ u (h.2 k _ (List.getElem?_eq_getElem hk)).1, (h.2 k _ (List.getElem?_eq_getElem hk)).2⟩
    · rw [List.getElem?_set_ne hj] at e
      exact ⟨(World.cell?_setCell_other W ⟨c, k, none⟩ ⟨c, j, none⟩ u (by simp <;> omega)).trans (h.2 j v e).1, (h.2 j v e).2⟩⟩
theorem BoxN.other {W : World} {c d k : Nat} {vs : List Value} (h : BoxN W c vs) (hd : d ≠ c) (u : Value) : BoxN (W.setCell ⟨d, k, none⟩ u) c vs :=
  ⟨by have := h.1; simpa using this, fun j v e => by
    rewrite [World.frozen?_setCell]
    exact ⟨(World.cell?_setCell_other W ⟨d, k, none⟩ ⟨c, j, none⟩ u (by simp <;> omega)).trans (h.2 j v e).1, (h.2 j v e).2⟩⟩

end Go.Proofs.YtjnagifolheloaaDoor
