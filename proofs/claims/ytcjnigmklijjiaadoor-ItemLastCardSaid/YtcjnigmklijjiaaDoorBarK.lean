/- The contract of bare.readBytes. -/
import Derived.Test.YtcjnigmklijjiaaDoorBarJ
import Derived.Test.YtcjnigmklijjiaaDoorBarE
namespace Go.Proofs.YtcjnigmklijjiaaDoor
open Go.RowKit

abbrev zeroBare : Obj := .cells #[.int .i64 0, .int .i64 0, .string ⟨#[]⟩] 23

theorem no_cells (w w1 : World) (hb : Below (w.alloc zeroBare).heap.size (w.alloc zeroBare) w1) : (w1.cell? ⟨w.heap.size, 0, none⟩ = some (.int .i64 0) ∧ w1.cell? ⟨w.heap.size, 1, none⟩ = some (.int .i64 0) ∧ w1.cell? ⟨w.heap.size, 2, none⟩ = some (.string ⟨#[]⟩)) ∧ (w1.frozen? ⟨w.heap.size, 0, none⟩ = false ∧ w1.frozen? ⟨w.heap.size, 1, none⟩ = false ∧ w1.frozen? ⟨w.heap.size, 2, none⟩ = false) := by
  refine ⟨⟨?_, ?_, ?_⟩, ?_, ?_, ?_⟩
  · rw [hb.cell (p := ⟨w.heap.size, 0, none⟩) (by simp)]; simp
  · rw [hb.cell (p := ⟨w.heap.size, 1, none⟩) (by simp)]; simp
  · rw [hb.cell (p := ⟨w.heap.size, 2, none⟩) (by simp)]; simp
  · rw [hb.frozen (p := ⟨w.heap.size, 0, none⟩) (by simp)]; simp
  · rw [hb.frozen (p := ⟨w.heap.size, 1, none⟩) (by simp)]; simp
  · rw [hb.frozen (p := ⟨w.heap.size, 2, none⟩) (by simp)]; simp

def readBytesL (l : List UInt8) : Option Got :=
  if Lib.indexByte (l.drop 1) 58 = -1 then none
  else match decL ((l.drop 1).take (Lib.indexByte (l.drop 1) 58).toNat) with
    | none => none
    | some b => some ⟨5, 0, b, (Lib.indexByte (l.drop 1) 58).toNat + 2⟩

set_option maxRecDepth 100000 in
set_option maxHeartbeats 4000000 in
theorem readBytes_any (s : ByteArray) (w : World) (h0 : 0 < s.size) (hs : s.size ≤ 100000) (hA : Alph w) :
    Calls Tryd.prog 70 #[.string s] w (gotPost (gotV (readBytesL s.data.toList)) w) := by
  have HA := Lib.hid hA
  clear hA
  have cN := fun W => noItem_any W
  have hb0 : Below w.heap.size w (w.alloc zeroBare) := (Below.refl _ _).alloc (Nat.le_refl _) _
  have hx : (s.extract 1 s.size).data.toList = s.data.toList.drop 1 := Lib.extract_to_end s 1
  have hxs : (s.extract 1 s.size).size ≤ 100000 := by rw [Lib.size_eq, hx, List.length_drop, ← Lib.size_eq]; omega
  have cC := fun W => cut_any (s.extract 1 s.size) 58 W hxs
  rw [hx] at cC
  by_cases hi : Lib.indexByte (s.data.toList.drop 1) 58 = -1
  · have hr : readBytesL s.data.toList = none := by rw [readBytesL, if_pos hi]
    have hv : cutV (s.data.toList.drop 1) 58 = .tuple #[.string (s.extract 1 s.size), .string ⟨#[]⟩, .bool false] := by rw [cutV, if_pos hi, ← hx, strB_of]
    rw [hr]
    rw [hv] at cC
    clear hr hv hi hx hxs
    go_enter Tryd.func70, Tryd.ntmps70
    go_wp2_with fail
    refine (cC _).mono ?_
    rintro e w1 ⟨rfl, hb1⟩
    go_wp2_with fail
    refine (cN _).mono ?_
    rintro e w2 ⟨rfl, hb2⟩
    have hb12 := hb1.trans (hb2.mono hb1.size)
    obtain ⟨⟨p0, p1, p2⟩, f0, f1, f2⟩ := no_cells w w2 hb12
    have hb3 := hb0.trans (hb12.mono hb0.size)
    clear hb1 hb2 hb12
    simp only [gotV]
    go_wp2
    exact bodyPost_ret (v := gotV none) (by simp [results, Tryd.results70, go_sem, gotV, p0, p1, p2]) rfl ⟨rfl, ((hb3.setCell (by simp) _).setCell (by simp) _).setCell (by simp) _⟩
  · obtain ⟨i0, i1⟩ := index_le _ _ hi
    obtain ⟨o, ho⟩ := Int.eq_ofNat_of_zero_le i0
    have hv : cutV (s.data.toList.drop 1) 58 = .tuple #[.string (strB ((s.data.toList.drop 1).take o)), .string (strB ((s.data.toList.drop 1).drop (o + 1))), .bool true] := by
      rw [cutV, if_neg hi, ho, Int.toNat_natCast]
    rw [hv] at cC
    have hr : readBytesL s.data.toList = match decL ((s.data.toList.drop 1).take o) with
        | none => none
        | some b => some ⟨5, 0, b, o + 2⟩ := by rw [readBytesL, if_neg hi, ho, Int.toNat_natCast]
    rw [hr]
    have hol : ((s.data.toList.drop 1).take o).length = o := by
      rw [ho, Int.toNat_natCast] at i1
      rw [List.length_take]; omega
    have hoz : (strB ((s.data.toList.drop 1).take o)).size = o := by rw [strB_size, hol]
    have hob : o ≤ 100000 := by
      rw [ho, Int.toNat_natCast, ← hx, ← Lib.size_eq] at i1; omega
    have cD := fun W hW => decode_any (strB ((s.data.toList.drop 1).take o)) W (by omega) hW
    rw [strB_data] at cD
    generalize strB ((s.data.toList.drop 1).drop (o + 1)) = z at cC
    generalize decL ((s.data.toList.drop 1).take o) = r at cD
    generalize strB ((s.data.toList.drop 1).take o) = t at cC cD hoz
    have Hoz := Lib.hid hoz
    clear hv hr hi i0 i1 ho hol hx hxs hoz
    cases r with
    | none =>
      simp only [decV] at cD
      show Calls _ _ _ _ (gotPost (gotV none) w)
      go_enter Tryd.func70, Tryd.ntmps70
      go_wp2_with fail
      refine (cC _).mono ?_
      rintro e w1 ⟨rfl, hb1⟩
      go_wp2_with fail
      refine (cD _ (HA.out.below (hb0.trans (hb1.mono hb0.size)))).mono ?_
      rintro e w2 ⟨rfl, hb2⟩
      go_wp2_with fail
      refine (cN _).mono ?_
      rintro e w3 ⟨rfl, hb3⟩
      have hb12 := hb1.trans (hb2.mono hb1.size)
      have hb13 := hb12.trans (hb3.mono hb12.size)
      obtain ⟨⟨p0, p1, p2⟩, f0, f1, f2⟩ := no_cells w w3 hb13
      have hb4 := hb0.trans (hb13.mono hb0.size)
      clear hb1 hb2 hb3 hb12 hb13
      simp only [gotV]
      go_wp2
      exact bodyPost_ret (v := gotV none) (by simp [results, Tryd.results70, go_sem, gotV, p0, p1, p2]) rfl ⟨rfl, ((hb4.setCell (by simp) _).setCell (by simp) _).setCell (by simp) _⟩
    | some b =>
      simp only [decV] at cD
      show Calls _ _ _ _ (gotPost (gotV (some ⟨5, 0, b, o + 2⟩)) w)
      have ho2 := Hoz.out
      go_enter Tryd.func70, Tryd.ntmps70
      go_wp2_with fail
      refine (cC _).mono ?_
      rintro e w1 ⟨rfl, hb1⟩
      go_wp2_with fail
      refine (cD _ (HA.out.below (hb0.trans (hb1.mono hb0.size)))).mono ?_
      rintro e w2 ⟨rfl, hb2⟩
      have hb12 := hb1.trans (hb2.mono hb1.size)
      obtain ⟨⟨p0, p1, p2⟩, f0, f1, f2⟩ := no_cells w w2 hb12
      have hb4 := hb0.trans (hb12.mono hb0.size)
      clear hb1 hb2 hb12
      go_wp2
      exact bodyPost_ret (v := gotV (some ⟨5, 0, b, o + 2⟩)) (by simp [results, Tryd.results70, go_sem, gotV, p0, p1, p2]) rfl ⟨rfl, ((hb4.setCell (by simp) _).setCell (by simp) _).setCell (by simp) _⟩

end Go.Proofs.YtcjnigmklijjiaaDoor
