/- The contract of the document's own Read (sculleryref02). -/
import Derived.Test.YtopfallmpbjbaaaDoorRfC
import Derived.Test.YtopfallmpbjbaaaDoorRfD
import Derived.Test.YtopfallmpbjbaaaDoorRfE
import Derived.Test.YtopfallmpbjbaaaDoorRfF
namespace Go.Proofs.YtopfallmpbjbaaaDoor
open Go.RowKit

theorem no_cells3 (w : World) (o : Obj) (w1 : World) (hb : Below ((w.alloc zeroBare).alloc o).heap.size ((w.alloc zeroBare).alloc o) w1) : (w1.cell? ⟨w.heap.size, 0, none⟩ = some (.int .i64 0) ∧ w1.cell? ⟨w.heap.size, 1, none⟩ = some (.int .i64 0) ∧ w1.cell? ⟨w.heap.size, 2, none⟩ = some (.string ⟨#[]⟩)) ∧ (w1.frozen? ⟨w.heap.size, 0, none⟩ = false ∧ w1.frozen? ⟨w.heap.size, 1, none⟩ = false ∧ w1.frozen? ⟨w.heap.size, 2, none⟩ = false) := by
  have h1 : Below (w.alloc zeroBare).heap.size (w.alloc zeroBare) ((w.alloc zeroBare).alloc o) := (Below.refl _ _).alloc (Nat.le_refl _) _
  exact no_cells w w1 (h1.trans (hb.mono h1.size))

theorem none_cells (w w1 : World) (hb : Below ((w.alloc zeroBare).alloc zeroBare).heap.size ((w.alloc zeroBare).alloc zeroBare) w1) : w1.cell? ⟨w.heap.size + 1, 0, none⟩ = some (.int .i64 0) ∧ w1.cell? ⟨w.heap.size + 1, 1, none⟩ = some (.int .i64 0) ∧ w1.cell? ⟨w.heap.size + 1, 2, none⟩ = some (.string ⟨#[]⟩) := by
  have := no_cells (w.alloc zeroBare) w1 hb
  simpa using this.1

theorem indexByte_drop (l : List UInt8) (k : Nat) (hk : 1 ≤ k) (hno : ∀ j, 1 ≤ j → j < k → l[j]? ≠ some 58) (h : l[k]? = some 58) : Lib.indexByte (l.drop 1) 58 = ((k - 1 : Nat) : Int) := by
  have hl : k < l.length := (List.getElem?_eq_some_iff.1 h).1
  have e : l.drop 1 = (l.drop 1).take (k - 1) ++ 58 :: (l.drop 1).drop (k - 1 + 1) := by
    have h2 : (l.drop 1).drop (k - 1) = 58 :: (l.drop 1).drop (k - 1 + 1) := by
      rw [List.drop_drop, List.drop_drop, show 1 + (k - 1) = k by omega, show 1 + (k - 1 + 1) = k + 1 by omega, List.drop_eq_getElem_cons hl]
      congr 1
      have := List.getElem?_eq_getElem hl
      rw [this] at h
      exact Option.some.inj h
    rw [← h2, List.take_append_drop]
  have hlen : ((l.drop 1).take (k - 1)).length = k - 1 := by rw [List.length_take, List.length_drop]; omega
  rw [e, indexByte_at 58 _ _ (fun x hx => ?_), hlen]
  intro ex
  subst ex
  obtain ⟨j, hj, hx2⟩ := List.mem_iff_getElem.1 hx
  rw [hlen] at hj
  rw [List.getElem_take, List.getElem_drop] at hx2
  refine hno (1 + j) (by omega) (by omega) ?_
  rw [List.getElem?_eq_getElem (by omega), hx2]

theorem indexByte_no (l : List UInt8) (hno : ∀ j, 1 ≤ j → j < l.length → l[j]? ≠ some 58) : Lib.indexByte (l.drop 1) 58 = -1 := by
  by_cases h : Lib.indexByte (l.drop 1) 58 = -1
  · exact h
  · exfalso
    obtain ⟨h0, h1⟩ := index_le _ _ h
    obtain ⟨o, ho⟩ := Int.eq_ofNat_of_zero_le h0
    obtain ⟨h3, _⟩ := Lib.indexByte_some (l := l.drop 1) (c := 58) (o := o) ho
    rw [ho, Int.toNat_natCast, List.length_drop] at h1
    rw [List.getElem?_drop] at h3
    exact hno (1 + o) (by omega) (by omega) h3

theorem tlen_scan (s : ByteArray) (k : Nat) (h0 : 0 < s.size) (hb : btI (s[0]'h0).toNat = true) (hk : 1 ≤ k) (hks : k ≤ s.size) (hall : ∀ j (hj : j < s.size), 1 ≤ j → j < k → ttI (s[j]'hj).toNat = true) (hend : ∀ hlt : k < s.size, ttI (s[k]'hlt).toNat = false) : tlen s.data.toList = k := by
  have e0 := drop_cons_at s 0 h0
  rw [List.drop_zero] at e0
  have hr : (s.data.toList.drop 1).takeWhile (fun c => ttI c.toNat) = (s.data.toList.drop 1).take (k - 1) := by
    have hsplit : s.data.toList.drop 1 = (s.data.toList.drop 1).take (k - 1) ++ s.data.toList.drop k := by
      conv => lhs; rw [← List.take_append_drop (k - 1) (s.data.toList.drop 1)]
      rw [List.drop_drop, show 1 + (k - 1) = k by omega]
    have hta : ((s.data.toList.drop 1).take (k - 1)).all (fun c => ttI c.toNat) = true := by
      rw [List.all_eq_true]
      intro x hx
      obtain ⟨j, hj, rfl⟩ := List.mem_iff_getElem.1 hx
      rw [List.length_take, List.length_drop] at hj
      rw [List.getElem_take, List.getElem_drop]
      exact hall (1 + j) (by rw [Lib.size_eq]; omega) (by omega) (by omega)
    conv => lhs; rw [hsplit]
    rw [takeWhile_all _ _ _ hta]
    have : (s.data.toList.drop k).takeWhile (fun c => ttI c.toNat) = [] := by
      by_cases hlt : k < s.size
      · rw [drop_cons_at s k hlt, List.takeWhile_cons, hend hlt]; rfl
      · rw [List.drop_of_length_le (by rw [← Lib.size_eq]; omega)]; rfl
    rw [this, List.append_nil]
  rw [e0, tlen, if_pos hb, show (0 + 1) = 1 from rfl, hr, List.length_take, List.length_drop, ← Lib.size_eq]
  omega

end Go.Proofs.YtopfallmpbjbaaaDoor
