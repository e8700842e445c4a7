/- The document's own ReadResponse (sculleryref08), behind a right first line: wrong fields, wrong length, no body. -/
import Derived.Test.YthbfcamfapgodaaGreatDoorHK

namespace Go.Proofs.YthbfcamfapgodaaGreatDoor
open Go.RowKit Go.Shelf Go.Lib

set_option maxRecDepth 100000 in
set_option maxHeartbeats 8000000 in
theorem rreadp_parse (s me : ByteArray) (w : World) (n : Int) (hs : s.size ≤ 90000) (h1 : (lineL s.data.toList).2 = 0) (h2 : frP (lineL s.data.toList).1 = some n) (x : Int) (h3 : parseH (s.data.toList.drop ((lineL s.data.toList).1.length + 2)) = .error x) :
    Calls Tryz.prog 11 #[.string s, .string me] w (rpPost (rdP s.data.toList me) w) := by
  have cL := fun W => rline_any s W (by omega)
  have HA0 := Lib.hid ((Nil3.made w).next ((Below.refl (w.heap.size + 1) (w.alloc nilP)).alloc (by simp) nilP) (by omega))
  have HZ0 : Hid (Nil3 ((w.alloc nilP).alloc nilP) (w.heap.size + 1)) := Lib.hid (by have := Nil3.made (w.alloc nilP); simpa using this)
  have HB0 := Lib.hid (((Below.refl w.heap.size w).alloc (Nat.le_refl _) nilP).alloc (by simp) nilP)
  have hle := lineL_le _ h1
  rw [← Lib.size_eq] at hle
  have hlv : rlnV (lineL s.data.toList) = .tuple #[.string (strB (lineL s.data.toList).1), .int .i64 (((lineL s.data.toList).1.length + 2 : Nat) : Int), .int .i64 0] := by rw [rlnV, if_pos h1, h1] <;> rfl
  rw [hlv] at cL
  clear hlv
  have hl1 := (cut32_len (lineL s.data.toList).1).2
  have hl2 := (cut32_len (cut32 (lineL s.data.toList).1).2.1).1
  have hl3 := (cut32_len (cut32 (lineL s.data.toList).1).2.1).2
  have cC1 := fun W => rcut_any (strB (lineL s.data.toList).1) W (by rewrite [strB_size]; omega)
  have cC2 := fun W => rcut_any (strB (cut32 (lineL s.data.toList).1).2.1) W (by rewrite [strB_size]; omega)
  have cS := fun W => rstatus_any (strB (cut32 (cut32 (lineL s.data.toList).1).2.1).1) W (by rewrite [strB_size]; omega)
  have cX := fun W => rtext_any (strB (cut32 (cut32 (lineL s.data.toList).1).2.1).2.1) W (by rewrite [strB_size]; unfold maxLen; omega)
  rw [strB_data, cutV_32] at cC1 cC2
  rw [strB_data] at cS cX
  have hxd : (s.extract ((lineL s.data.toList).1.length + 2) s.size).data.toList = s.data.toList.drop ((lineL s.data.toList).1.length + 2) := Lib.extract_to_end s _
  have hxs : (s.extract ((lineL s.data.toList).1.length + 2) s.size).size = s.size - ((lineL s.data.toList).1.length + 2) := by rw [Lib.size_eq, hxd, List.length_drop, ← Lib.size_eq]
  have cP := fun W => rparse_any (s.extract ((lineL s.data.toList).1.length + 2) s.size) W (by omega)
  rw [hxd] at cP
  clear hxd hxs
  have HV : Hid (rdP s.data.toList me = .error x) := Lib.hid (by rewrite [rdP, if_neg (by simp [h1]), h2]; simp only [h3])
  have hne : (x != 0) = true := by rcases parseH_no h3 with h | h | h <;> rw [h] <;> rfl
  rw [h3] at cP
  clear h3
  have hfr : (cut32 (lineL s.data.toList).1).2.2 = true ∧ (cut32 (cut32 (lineL s.data.toList).1).2.1).2.2 = true ∧ (cut32 (lineL s.data.toList).1).1 = h11 ∧ stB (cut32 (cut32 (lineL s.data.toList).1).2.1).1 = true ∧ txtL (cut32 (cut32 (lineL s.data.toList).1).2.1).2.1 = true ∧ digitsN (cut32 (cut32 (lineL s.data.toList).1).2.1).1 = n := by
    unfold frP at h2
    split at h2
    · rename_i hh
      simp only [Bool.and_eq_true, decide_eq_true_eq] at hh
      simp only [Option.some.injEq] at h2
      exact ⟨hh.1.1.1.1, hh.1.1.1.2, hh.1.1.2, hh.1.2, hh.2, h2⟩
    · cases h2
  obtain ⟨f1, f2, f3, f4, f5, f6⟩ := hfr
  rw [f1, f3] at cC1
  rw [f2] at cC2
  rw [f4, f6] at cS
  rw [f5] at cX
  have hve : ((strB h11).toList == [72, 84, 84, 80, 47, 49, 46, 49]) = true := by
    rewrite [Lib.toList_data, strB_data]
    exact beq_self_eq_true h11
  clear hl1 hl2 hl3 h1 h2 f1 f2 f3 f4 f5 f6
  generalize (lineL s.data.toList).1.length + 2 = K at *
  generalize (cut32 (cut32 (lineL s.data.toList).1).2.1).1 = c at *
  generalize (cut32 (cut32 (lineL s.data.toList).1).2.1).2.1 = r at *
  generalize (cut32 (lineL s.data.toList).1).2.1 = R at *
  generalize strB (lineL s.data.toList).1 = SL at *
  generalize strB R = SR at *
  generalize strB c = SC at *
  generalize strB r = SX at *
  generalize strB h11 = SV at *
  go_enter Tryz.func11, Tryz.ntmps11
  go_wp2_with fail
  refine (cL _).mono ?_
  rintro e _ ⟨rfl, rfl⟩
  go_wp2_with fail
  refine (cC1 _).mono ?_
  rintro e w1 ⟨rfl, hb1⟩
  have HA1 := Lib.hid (HA0.out.next hb1 HA0.out.lt)
  have HZ1 := Lib.hid (HZ0.out.next hb1 HZ0.out.lt)
  have HB1 := Lib.hid (HB0.out.trans (hb1.mono HB0.out.size))
  clear hb1
  go_wp2_with fail
  refine (cC2 _).mono ?_
  rintro e w2 ⟨rfl, hb2⟩
  have HA2 := Lib.hid (HA1.out.next hb2 HA1.out.lt)
  have HZ2 := Lib.hid (HZ1.out.next hb2 HZ1.out.lt)
  have HB2 := Lib.hid (HB1.out.trans (hb2.mono HB1.out.size))
  clear hb2
  go_wp2_with fail
  refine (cS _).mono ?_
  rintro e _ ⟨rfl, rfl⟩
  go_wp2_with fail
  refine (cX _).mono ?_
  rintro e _ ⟨rfl, rfl⟩
  go_wp2_with fail
  refine (cP _).mono ?_
  rintro e w3 ⟨hb3, rfl⟩
  have HA3 := Lib.hid (HA2.out.next hb3 HA2.out.lt)
  have HZ3 := Lib.hid (HZ2.out.next hb3 HZ2.out.lt)
  have HB3 := Lib.hid (HB2.out.trans (hb3.mono HB2.out.size))
  clear hb3
  have hla := HA3.out.lt
  have hlz := HZ3.out.lt
  obtain ⟨a0, a1, a2, e0, e1, e2⟩ := HA3.out
  obtain ⟨z0, z1, z2, _, _, _⟩ := HZ3.out
  go_wp2_with fail
  refine bodyPost_ret (v := .tuple #[.agg #[.int .i64 0, .slice none 0 0, .slice none 0 0], .int .i64 x]) (by simp [results, Tryz.results11, go_sem, a0, a1, a2]) rfl ?_
  rewrite [HV.out]
  refine ⟨?_, rfl⟩
  repeat (first | with_reducible refine Below.alloc ?_ (by simp; omega) _ | with_reducible refine Below.setCell ?_ (by simp) _)
  exact HB3.out

set_option maxRecDepth 100000 in
set_option maxHeartbeats 8000000 in
theorem rreadp_length (s me : ByteArray) (w : World) (n : Int) (hs : s.size ≤ 90000) (h1 : (lineL s.data.toList).2 = 0) (h2 : frP (lineL s.data.toList).1 = some n) (fs : List Fld) (m : Nat) (h3 : parseH (s.data.toList.drop ((lineL s.data.toList).1.length + 2)) = .ok (fs, m)) (x : Int) (h5 : lngL fs = .error x) :
    Calls Tryz.prog 11 #[.string s, .string me] w (rpPost (rdP s.data.toList me) w) := by
  have cL := fun W => rline_any s W (by omega)
  have HA0 := Lib.hid ((Nil3.made w).next ((Below.refl (w.heap.size + 1) (w.alloc nilP)).alloc (by simp) nilP) (by omega))
  have HZ0 : Hid (Nil3 ((w.alloc nilP).alloc nilP) (w.heap.size + 1)) := Lib.hid (by have := Nil3.made (w.alloc nilP); simpa using this)
  have HB0 := Lib.hid (((Below.refl w.heap.size w).alloc (Nat.le_refl _) nilP).alloc (by simp) nilP)
  have hle := lineL_le _ h1
  rw [← Lib.size_eq] at hle
  have hlv : rlnV (lineL s.data.toList) = .tuple #[.string (strB (lineL s.data.toList).1), .int .i64 (((lineL s.data.toList).1.length + 2 : Nat) : Int), .int .i64 0] := by rw [rlnV, if_pos h1, h1] <;> rfl
  rw [hlv] at cL
  clear hlv
  have hl1 := (cut32_len (lineL s.data.toList).1).2
  have hl2 := (cut32_len (cut32 (lineL s.data.toList).1).2.1).1
  have hl3 := (cut32_len (cut32 (lineL s.data.toList).1).2.1).2
  have cC1 := fun W => rcut_any (strB (lineL s.data.toList).1) W (by rewrite [strB_size]; omega)
  have cC2 := fun W => rcut_any (strB (cut32 (lineL s.data.toList).1).2.1) W (by rewrite [strB_size]; omega)
  have cS := fun W => rstatus_any (strB (cut32 (cut32 (lineL s.data.toList).1).2.1).1) W (by rewrite [strB_size]; omega)
  have cX := fun W => rtext_any (strB (cut32 (cut32 (lineL s.data.toList).1).2.1).2.1) W (by rewrite [strB_size]; unfold maxLen; omega)
  rw [strB_data, cutV_32] at cC1 cC2
  rw [strB_data] at cS cX
  have hxd : (s.extract ((lineL s.data.toList).1.length + 2) s.size).data.toList = s.data.toList.drop ((lineL s.data.toList).1.length + 2) := Lib.extract_to_end s _
  have hxs : (s.extract ((lineL s.data.toList).1.length + 2) s.size).size = s.size - ((lineL s.data.toList).1.length + 2) := by rw [Lib.size_eq, hxd, List.length_drop, ← Lib.size_eq]
  have cP := fun W => rparse_any (s.extract ((lineL s.data.toList).1.length + 2) s.size) W (by omega)
  rw [hxd] at cP
  clear hxd hxs
  have HV : Hid (rdP s.data.toList me = .error x) := Lib.hid (by rewrite [rdP, if_neg (by simp [h1]), h2]; simp only [h3, h5])
  have hK2 := parseH_ok h3
  rw [List.length_drop, ← Lib.size_eq] at hK2
  rw [h3] at cP
  have hfk : FldsOk fs := ⟨by omega, fun p hp => by have := hK2.2.2 p hp; omega⟩
  have hn := hK2.1
  have hfl := hK2.2.1
  have cN := fun v W h => rlength_any 0 v fs W h hfk
  have cW := fun v W h => rless_any 0 v fs W h hfk
  have hnx : (x != 0) = true := by rw [lngL_no h5] <;> rfl
  rw [h5, show lngV (.error x) = .tuple #[.int .i64 0, .int .i64 x] from rfl] at cN
  clear h3 h5 hfk hK2 cW
  have hfr : (cut32 (lineL s.data.toList).1).2.2 = true ∧ (cut32 (cut32 (lineL s.data.toList).1).2.1).2.2 = true ∧ (cut32 (lineL s.data.toList).1).1 = h11 ∧ stB (cut32 (cut32 (lineL s.data.toList).1).2.1).1 = true ∧ txtL (cut32 (cut32 (lineL s.data.toList).1).2.1).2.1 = true ∧ digitsN (cut32 (cut32 (lineL s.data.toList).1).2.1).1 = n := by
    unfold frP at h2
    split at h2
    · rename_i hh
      simp only [Bool.and_eq_true, decide_eq_true_eq] at hh
      simp only [Option.some.injEq] at h2
      exact ⟨hh.1.1.1.1, hh.1.1.1.2, hh.1.1.2, hh.1.2, hh.2, h2⟩
    · cases h2
  obtain ⟨f1, f2, f3, f4, f5, f6⟩ := hfr
  rw [f1, f3] at cC1
  rw [f2] at cC2
  rw [f4, f6] at cS
  rw [f5] at cX
  have hve : ((strB h11).toList == [72, 84, 84, 80, 47, 49, 46, 49]) = true := by
    rewrite [Lib.toList_data, strB_data]
    exact beq_self_eq_true h11
  clear hl1 hl2 hl3 h1 h2 f1 f2 f3 f4 f5 f6
  generalize (lineL s.data.toList).1.length + 2 = K at *
  generalize (cut32 (cut32 (lineL s.data.toList).1).2.1).1 = c at *
  generalize (cut32 (cut32 (lineL s.data.toList).1).2.1).2.1 = r at *
  generalize (cut32 (lineL s.data.toList).1).2.1 = R at *
  generalize strB (lineL s.data.toList).1 = SL at *
  generalize strB R = SR at *
  generalize strB c = SC at *
  generalize strB r = SX at *
  generalize strB h11 = SV at *
  go_enter Tryz.func11, Tryz.ntmps11
  go_wp2_with fail
  refine (cL _).mono ?_
  rintro e _ ⟨rfl, rfl⟩
  go_wp2_with fail
  refine (cC1 _).mono ?_
  rintro e w1 ⟨rfl, hb1⟩
  have HA1 := Lib.hid (HA0.out.next hb1 HA0.out.lt)
  have HZ1 := Lib.hid (HZ0.out.next hb1 HZ0.out.lt)
  have HB1 := Lib.hid (HB0.out.trans (hb1.mono HB0.out.size))
  clear hb1
  go_wp2_with fail
  refine (cC2 _).mono ?_
  rintro e w2 ⟨rfl, hb2⟩
  have HA2 := Lib.hid (HA1.out.next hb2 HA1.out.lt)
  have HZ2 := Lib.hid (HZ1.out.next hb2 HZ1.out.lt)
  have HB2 := Lib.hid (HB1.out.trans (hb2.mono HB1.out.size))
  clear hb2
  go_wp2_with fail
  refine (cS _).mono ?_
  rintro e _ ⟨rfl, rfl⟩
  go_wp2_with fail
  refine (cX _).mono ?_
  rintro e _ ⟨rfl, rfl⟩
  go_wp2_with fail
  refine (cP _).mono ?_
  rintro e w3 ⟨hb3, v3, rfl, hown3⟩
  have HA3 := Lib.hid (HA2.out.next hb3 HA2.out.lt)
  have HZ3 := Lib.hid (HZ2.out.next hb3 HZ2.out.lt)
  have HB3 := Lib.hid (HB2.out.trans (hb3.mono HB2.out.size))
  clear hb3
  have HF3 := Lib.hid (Flds.of_own hown3 (Nat.zero_le _))
  obtain ⟨b3, k3, rfl⟩ := owns_formF hown3
  clear hown3
  go_wp2_with fail
  refine (cN _ _ HF3.out).mono ?_
  rintro e w4 ⟨rfl, hb4⟩
  have HA4 := Lib.hid (HA3.out.next hb4 HA3.out.lt)
  have HZ4 := Lib.hid (HZ3.out.next hb4 HZ3.out.lt)
  have HB4 := Lib.hid (HB3.out.trans (hb4.mono HB3.out.size))
  have HF4 := Lib.hid (HF3.out.below hb4)
  clear hb4
  have hla := HA4.out.lt
  have hlz := HZ4.out.lt
  obtain ⟨a0, a1, a2, e0, e1, e2⟩ := HA4.out
  obtain ⟨z0, z1, z2, _, _, _⟩ := HZ4.out
  go_wp2_with fail
  refine bodyPost_ret (v := .tuple #[.agg #[.int .i64 0, .slice none 0 0, .slice none 0 0], .int .i64 x]) (by simp [results, Tryz.results11, go_sem, a0, a1, a2]) rfl ?_
  rewrite [HV.out]
  refine ⟨?_, rfl⟩
  repeat (first | with_reducible refine Below.alloc ?_ (by simp; omega) _ | with_reducible refine Below.setCell ?_ (by simp) _)
  exact HB4.out

set_option maxRecDepth 100000 in
set_option maxHeartbeats 8000000 in
theorem rreadp_more (s me : ByteArray) (w : World) (n : Int) (hs : s.size ≤ 90000) (h1 : (lineL s.data.toList).2 = 0) (h2 : frP (lineL s.data.toList).1 = some n) (fs : List Fld) (m : Nat) (h3 : parseH (s.data.toList.drop ((lineL s.data.toList).1.length + 2)) = .ok (fs, m)) (k : Int) (h5 : lngL fs = .ok k) (h6 : bareB n me = true) (h7 : s.data.toList.drop ((lineL s.data.toList).1.length + 2 + m) ≠ []) :
    Calls Tryz.prog 11 #[.string s, .string me] w (rpPost (rdP s.data.toList me) w) := by
  have cL := fun W => rline_any s W (by omega)
  have HA0 := Lib.hid ((Nil3.made w).next ((Below.refl (w.heap.size + 1) (w.alloc nilP)).alloc (by simp) nilP) (by omega))
  have HZ0 : Hid (Nil3 ((w.alloc nilP).alloc nilP) (w.heap.size + 1)) := Lib.hid (by have := Nil3.made (w.alloc nilP); simpa using this)
  have HB0 := Lib.hid (((Below.refl w.heap.size w).alloc (Nat.le_refl _) nilP).alloc (by simp) nilP)
  have hle := lineL_le _ h1
  rw [← Lib.size_eq] at hle
  have hlv : rlnV (lineL s.data.toList) = .tuple #[.string (strB (lineL s.data.toList).1), .int .i64 (((lineL s.data.toList).1.length + 2 : Nat) : Int), .int .i64 0] := by rw [rlnV, if_pos h1, h1] <;> rfl
  rw [hlv] at cL
  clear hlv
  have hl1 := (cut32_len (lineL s.data.toList).1).2
  have hl2 := (cut32_len (cut32 (lineL s.data.toList).1).2.1).1
  have hl3 := (cut32_len (cut32 (lineL s.data.toList).1).2.1).2
  have cC1 := fun W => rcut_any (strB (lineL s.data.toList).1) W (by rewrite [strB_size]; omega)
  have cC2 := fun W => rcut_any (strB (cut32 (lineL s.data.toList).1).2.1) W (by rewrite [strB_size]; omega)
  have cS := fun W => rstatus_any (strB (cut32 (cut32 (lineL s.data.toList).1).2.1).1) W (by rewrite [strB_size]; omega)
  have cX := fun W => rtext_any (strB (cut32 (cut32 (lineL s.data.toList).1).2.1).2.1) W (by rewrite [strB_size]; unfold maxLen; omega)
  rw [strB_data, cutV_32] at cC1 cC2
  rw [strB_data] at cS cX
  have hxd : (s.extract ((lineL s.data.toList).1.length + 2) s.size).data.toList = s.data.toList.drop ((lineL s.data.toList).1.length + 2) := Lib.extract_to_end s _
  have hxs : (s.extract ((lineL s.data.toList).1.length + 2) s.size).size = s.size - ((lineL s.data.toList).1.length + 2) := by rw [Lib.size_eq, hxd, List.length_drop, ← Lib.size_eq]
  have cP := fun W => rparse_any (s.extract ((lineL s.data.toList).1.length + 2) s.size) W (by omega)
  rw [hxd] at cP
  clear hxd hxs
  have HV : Hid (rdP s.data.toList me = .error 2) := Lib.hid (by rewrite [rdP, if_neg (by simp [h1]), h2]; simp only [h3, h5, h6, if_true, if_neg h7])
  have hK2 := parseH_ok h3
  rw [List.length_drop, ← Lib.size_eq] at hK2
  rw [h3] at cP
  have hfk : FldsOk fs := ⟨by omega, fun p hp => by have := hK2.2.2 p hp; omega⟩
  have hn := hK2.1
  have hfl := hK2.2.1
  have cN := fun v W h => rlength_any 0 v fs W h hfk
  have cW := fun v W h => rless_any 0 v fs W h hfk
  rw [h5, show lngV (.ok k) = .tuple #[.int .i64 k, .int .i64 0] from rfl] at cN
  have cR := fun W => rbare_any n me W
  have hbd : (s.extract ((lineL s.data.toList).1.length + 2 + m) s.size).data.toList = s.data.toList.drop ((lineL s.data.toList).1.length + 2 + m) := Lib.extract_to_end s _
  have hbs : (s.extract ((lineL s.data.toList).1.length + 2 + m) s.size).size = s.size - ((lineL s.data.toList).1.length + 2 + m) := by rw [Lib.size_eq, hbd, List.length_drop, ← Lib.size_eq]
  have hem : (s.extract ((lineL s.data.toList).1.length + 2 + m) s.size).toList.isEmpty = (s.data.toList.drop ((lineL s.data.toList).1.length + 2 + m)).isEmpty := by rw [Lib.toList_data, hbd]
  rw [List.isEmpty_eq_false_iff.2 h7] at hem
  rw [h6] at cR
  clear h3 h5 h6 h7 hfk hK2 hbd hbs cW
  have hfr : (cut32 (lineL s.data.toList).1).2.2 = true ∧ (cut32 (cut32 (lineL s.data.toList).1).2.1).2.2 = true ∧ (cut32 (lineL s.data.toList).1).1 = h11 ∧ stB (cut32 (cut32 (lineL s.data.toList).1).2.1).1 = true ∧ txtL (cut32 (cut32 (lineL s.data.toList).1).2.1).2.1 = true ∧ digitsN (cut32 (cut32 (lineL s.data.toList).1).2.1).1 = n := by
    unfold frP at h2
    split at h2
    · rename_i hh
      simp only [Bool.and_eq_true, decide_eq_true_eq] at hh
      simp only [Option.some.injEq] at h2
      exact ⟨hh.1.1.1.1, hh.1.1.1.2, hh.1.1.2, hh.1.2, hh.2, h2⟩
    · cases h2
  obtain ⟨f1, f2, f3, f4, f5, f6⟩ := hfr
  rw [f1, f3] at cC1
  rw [f2] at cC2
  rw [f4, f6] at cS
  rw [f5] at cX
  have hve : ((strB h11).toList == [72, 84, 84, 80, 47, 49, 46, 49]) = true := by
    rewrite [Lib.toList_data, strB_data]
    exact beq_self_eq_true h11
  clear hl1 hl2 hl3 h1 h2 f1 f2 f3 f4 f5 f6
  generalize (lineL s.data.toList).1.length + 2 = K at *
  generalize (cut32 (cut32 (lineL s.data.toList).1).2.1).1 = c at *
  generalize (cut32 (cut32 (lineL s.data.toList).1).2.1).2.1 = r at *
  generalize (cut32 (lineL s.data.toList).1).2.1 = R at *
  generalize strB (lineL s.data.toList).1 = SL at *
  generalize strB R = SR at *
  generalize strB c = SC at *
  generalize strB r = SX at *
  generalize strB h11 = SV at *
  go_enter Tryz.func11, Tryz.ntmps11
  go_wp2_with fail
  refine (cL _).mono ?_
  rintro e _ ⟨rfl, rfl⟩
  go_wp2_with fail
  refine (cC1 _).mono ?_
  rintro e w1 ⟨rfl, hb1⟩
  have HA1 := Lib.hid (HA0.out.next hb1 HA0.out.lt)
  have HZ1 := Lib.hid (HZ0.out.next hb1 HZ0.out.lt)
  have HB1 := Lib.hid (HB0.out.trans (hb1.mono HB0.out.size))
  clear hb1
  go_wp2_with fail
  refine (cC2 _).mono ?_
  rintro e w2 ⟨rfl, hb2⟩
  have HA2 := Lib.hid (HA1.out.next hb2 HA1.out.lt)
  have HZ2 := Lib.hid (HZ1.out.next hb2 HZ1.out.lt)
  have HB2 := Lib.hid (HB1.out.trans (hb2.mono HB1.out.size))
  clear hb2
  go_wp2_with fail
  refine (cS _).mono ?_
  rintro e _ ⟨rfl, rfl⟩
  go_wp2_with fail
  refine (cX _).mono ?_
  rintro e _ ⟨rfl, rfl⟩
  go_wp2_with fail
  refine (cP _).mono ?_
  rintro e w3 ⟨hb3, v3, rfl, hown3⟩
  have HA3 := Lib.hid (HA2.out.next hb3 HA2.out.lt)
  have HZ3 := Lib.hid (HZ2.out.next hb3 HZ2.out.lt)
  have HB3 := Lib.hid (HB2.out.trans (hb3.mono HB2.out.size))
  clear hb3
  have HF3 := Lib.hid (Flds.of_own hown3 (Nat.zero_le _))
  obtain ⟨b3, k3, rfl⟩ := owns_formF hown3
  clear hown3
  go_wp2_with fail
  refine (cN _ _ HF3.out).mono ?_
  rintro e w4 ⟨rfl, hb4⟩
  have HA4 := Lib.hid (HA3.out.next hb4 HA3.out.lt)
  have HZ4 := Lib.hid (HZ3.out.next hb4 HZ3.out.lt)
  have HB4 := Lib.hid (HB3.out.trans (hb4.mono HB3.out.size))
  have HF4 := Lib.hid (HF3.out.below hb4)
  clear hb4
  have hla := HA4.out.lt
  have hlz := HZ4.out.lt
  obtain ⟨a0, a1, a2, e0, e1, e2⟩ := HA4.out
  obtain ⟨z0, z1, z2, _, _, _⟩ := HZ4.out
  go_wp2_with fail
  refine (cR _).mono ?_
  rintro e _ ⟨rfl, rfl⟩
  go_wp2_with fail
  refine bodyPost_ret (v := .tuple #[.agg #[.int .i64 0, .slice none 0 0, .slice none 0 0], .int .i64 2]) (by simp [results, Tryz.results11, go_sem, a0, a1, a2]) rfl ?_
  rewrite [HV.out]
  refine ⟨?_, rfl⟩
  repeat (first | with_reducible refine Below.alloc ?_ (by simp; omega) _ | with_reducible refine Below.setCell ?_ (by simp) _)
  exact HB4.out

set_option maxRecDepth 100000 in
set_option maxHeartbeats 8000000 in
theorem rreadp_bare (s me : ByteArray) (w : World) (n : Int) (hs : s.size ≤ 90000) (h1 : (lineL s.data.toList).2 = 0) (h2 : frP (lineL s.data.toList).1 = some n) (fs : List Fld) (m : Nat) (h3 : parseH (s.data.toList.drop ((lineL s.data.toList).1.length + 2)) = .ok (fs, m)) (k : Int) (h5 : lngL fs = .ok k) (h6 : bareB n me = true) (h7 : s.data.toList.drop ((lineL s.data.toList).1.length + 2 + m) = []) :
    Calls Tryz.prog 11 #[.string s, .string me] w (rpPost (rdP s.data.toList me) w) := by
  have cL := fun W => rline_any s W (by omega)
  have HA0 := Lib.hid ((Nil3.made w).next ((Below.refl (w.heap.size + 1) (w.alloc nilP)).alloc (by simp) nilP) (by omega))
  have HZ0 : Hid (Nil3 ((w.alloc nilP).alloc nilP) (w.heap.size + 1)) := Lib.hid (by have := Nil3.made (w.alloc nilP); simpa using this)
  have HB0 := Lib.hid (((Below.refl w.heap.size w).alloc (Nat.le_refl _) nilP).alloc (by simp) nilP)
  have hle := lineL_le _ h1
  rw [← Lib.size_eq] at hle
  have hlv : rlnV (lineL s.data.toList) = .tuple #[.string (strB (lineL s.data.toList).1), .int .i64 (((lineL s.data.toList).1.length + 2 : Nat) : Int), .int .i64 0] := by rw [rlnV, if_pos h1, h1] <;> rfl
  rw [hlv] at cL
  clear hlv
  have hl1 := (cut32_len (lineL s.data.toList).1).2
  have hl2 := (cut32_len (cut32 (lineL s.data.toList).1).2.1).1
  have hl3 := (cut32_len (cut32 (lineL s.data.toList).1).2.1).2
  have cC1 := fun W => rcut_any (strB (lineL s.data.toList).1) W (by rewrite [strB_size]; omega)
  have cC2 := fun W => rcut_any (strB (cut32 (lineL s.data.toList).1).2.1) W (by rewrite [strB_size]; omega)
  have cS := fun W => rstatus_any (strB (cut32 (cut32 (lineL s.data.toList).1).2.1).1) W (by rewrite [strB_size]; omega)
  have cX := fun W => rtext_any (strB (cut32 (cut32 (lineL s.data.toList).1).2.1).2.1) W (by rewrite [strB_size]; unfold maxLen; omega)
  rw [strB_data, cutV_32] at cC1 cC2
  rw [strB_data] at cS cX
  have hxd : (s.extract ((lineL s.data.toList).1.length + 2) s.size).data.toList = s.data.toList.drop ((lineL s.data.toList).1.length + 2) := Lib.extract_to_end s _
  have hxs : (s.extract ((lineL s.data.toList).1.length + 2) s.size).size = s.size - ((lineL s.data.toList).1.length + 2) := by rw [Lib.size_eq, hxd, List.length_drop, ← Lib.size_eq]
  have cP := fun W => rparse_any (s.extract ((lineL s.data.toList).1.length + 2) s.size) W (by omega)
  rw [hxd] at cP
  clear hxd hxs
  have HV : Hid (rdP s.data.toList me = .ok ⟨n, lesL fs, []⟩) := Lib.hid (by rewrite [rdP, if_neg (by simp [h1]), h2]; simp only [h3, h5, h6, if_true, if_pos h7])
  have hK2 := parseH_ok h3
  rw [List.length_drop, ← Lib.size_eq] at hK2
  rw [h3] at cP
  have hfk : FldsOk fs := ⟨by omega, fun p hp => by have := hK2.2.2 p hp; omega⟩
  have hn := hK2.1
  have hfl := hK2.2.1
  have cN := fun v W h => rlength_any 0 v fs W h hfk
  have cW := fun v W h => rless_any 0 v fs W h hfk
  rw [h5, show lngV (.ok k) = .tuple #[.int .i64 k, .int .i64 0] from rfl] at cN
  have cR := fun W => rbare_any n me W
  have hbd : (s.extract ((lineL s.data.toList).1.length + 2 + m) s.size).data.toList = s.data.toList.drop ((lineL s.data.toList).1.length + 2 + m) := Lib.extract_to_end s _
  have hbs : (s.extract ((lineL s.data.toList).1.length + 2 + m) s.size).size = s.size - ((lineL s.data.toList).1.length + 2 + m) := by rw [Lib.size_eq, hbd, List.length_drop, ← Lib.size_eq]
  have hem : (s.extract ((lineL s.data.toList).1.length + 2 + m) s.size).toList.isEmpty = (s.data.toList.drop ((lineL s.data.toList).1.length + 2 + m)).isEmpty := by rw [Lib.toList_data, hbd]
  rw [h7] at hem
  have hem : (s.extract ((lineL s.data.toList).1.length + 2 + m) s.size).toList.isEmpty = true := hem
  rw [h6] at cR
  clear h3 h5 h6 h7 hfk hK2 hbd hbs
  have hfr : (cut32 (lineL s.data.toList).1).2.2 = true ∧ (cut32 (cut32 (lineL s.data.toList).1).2.1).2.2 = true ∧ (cut32 (lineL s.data.toList).1).1 = h11 ∧ stB (cut32 (cut32 (lineL s.data.toList).1).2.1).1 = true ∧ txtL (cut32 (cut32 (lineL s.data.toList).1).2.1).2.1 = true ∧ digitsN (cut32 (cut32 (lineL s.data.toList).1).2.1).1 = n := by
    unfold frP at h2
    split at h2
    · rename_i hh
      simp only [Bool.and_eq_true, decide_eq_true_eq] at hh
      simp only [Option.some.injEq] at h2
      exact ⟨hh.1.1.1.1, hh.1.1.1.2, hh.1.1.2, hh.1.2, hh.2, h2⟩
    · cases h2
  obtain ⟨f1, f2, f3, f4, f5, f6⟩ := hfr
  rw [f1, f3] at cC1
  rw [f2] at cC2
  rw [f4, f6] at cS
  rw [f5] at cX
  have hve : ((strB h11).toList == [72, 84, 84, 80, 47, 49, 46, 49]) = true := by
    rewrite [Lib.toList_data, strB_data]
    exact beq_self_eq_true h11
  clear hl1 hl2 hl3 h1 h2 f1 f2 f3 f4 f5 f6
  generalize (lineL s.data.toList).1.length + 2 = K at *
  generalize (cut32 (cut32 (lineL s.data.toList).1).2.1).1 = c at *
  generalize (cut32 (cut32 (lineL s.data.toList).1).2.1).2.1 = r at *
  generalize (cut32 (lineL s.data.toList).1).2.1 = R at *
  generalize strB (lineL s.data.toList).1 = SL at *
  generalize strB R = SR at *
  generalize strB c = SC at *
  generalize strB r = SX at *
  generalize strB h11 = SV at *
  go_enter Tryz.func11, Tryz.ntmps11
  go_wp2_with fail
  refine (cL _).mono ?_
  rintro e _ ⟨rfl, rfl⟩
  go_wp2_with fail
  refine (cC1 _).mono ?_
  rintro e w1 ⟨rfl, hb1⟩
  have HA1 := Lib.hid (HA0.out.next hb1 HA0.out.lt)
  have HZ1 := Lib.hid (HZ0.out.next hb1 HZ0.out.lt)
  have HB1 := Lib.hid (HB0.out.trans (hb1.mono HB0.out.size))
  clear hb1
  go_wp2_with fail
  refine (cC2 _).mono ?_
  rintro e w2 ⟨rfl, hb2⟩
  have HA2 := Lib.hid (HA1.out.next hb2 HA1.out.lt)
  have HZ2 := Lib.hid (HZ1.out.next hb2 HZ1.out.lt)
  have HB2 := Lib.hid (HB1.out.trans (hb2.mono HB1.out.size))
  clear hb2
  go_wp2_with fail
  refine (cS _).mono ?_
  rintro e _ ⟨rfl, rfl⟩
  go_wp2_with fail
  refine (cX _).mono ?_
  rintro e _ ⟨rfl, rfl⟩
  go_wp2_with fail
  refine (cP _).mono ?_
  rintro e w3 ⟨hb3, v3, rfl, hown3⟩
  have HA3 := Lib.hid (HA2.out.next hb3 HA2.out.lt)
  have HZ3 := Lib.hid (HZ2.out.next hb3 HZ2.out.lt)
  have HB3 := Lib.hid (HB2.out.trans (hb3.mono HB2.out.size))
  clear hb3
  have HF3 := Lib.hid (Flds.of_own hown3 (Nat.zero_le _))
  obtain ⟨b3, k3, rfl⟩ := owns_formF hown3
  clear hown3
  go_wp2_with fail
  refine (cN _ _ HF3.out).mono ?_
  rintro e w4 ⟨rfl, hb4⟩
  have HA4 := Lib.hid (HA3.out.next hb4 HA3.out.lt)
  have HZ4 := Lib.hid (HZ3.out.next hb4 HZ3.out.lt)
  have HB4 := Lib.hid (HB3.out.trans (hb4.mono HB3.out.size))
  have HF4 := Lib.hid (HF3.out.below hb4)
  clear hb4
  go_wp2_with fail
  refine (cR _).mono ?_
  rintro e _ ⟨rfl, rfl⟩
  go_wp2_with fail
  refine (cW _ _ HF4.out).mono ?_
  rintro e w5 ⟨⟨u5, rfl, hown5⟩, hb5⟩
  have HA5 := Lib.hid (HA4.out.next hb5 HA4.out.lt)
  have HZ5 := Lib.hid (HZ4.out.next hb5 HZ4.out.lt)
  have HB5 := Lib.hid (HB4.out.trans (hb5.mono HB4.out.size))
  obtain ⟨b5, k5, rfl⟩ := owns_formF hown5
  have HF5 : Hid (Flds w4.heap.size w5 (.slice b5 (lesL fs).length k5) (lesL fs)) := Lib.hid (Flds.of_own hown5 (Nat.le_refl _))
  have hl4 := HA4.out.lt
  clear hown5 hb5
  have hla := HA5.out.lt
  have hlz := HZ5.out.lt
  obtain ⟨a0, a1, a2, e0, e1, e2⟩ := HA5.out
  obtain ⟨z0, z1, z2, _, _, _⟩ := HZ5.out
  go_wp2_with fail
  refine bodyPost_ret (v := .tuple #[.agg #[.int .i64 n, .slice b5 (lesL fs).length k5, .slice none 0 0], .int .i64 0]) (by simp [results, Tryz.results11, go_sem, a0, a1, a2]) rfl ?_
  rewrite [HV.out]
  have hm : Moved w.heap.size w5 _ := (((Moved.refl w.heap.size w5).setCell (o := 0) (.int .i64 n)).setCell (o := 1) (.slice b5 (lesL fs).length k5)).setCell (o := 2) (.slice none 0 0)
  refine ⟨?_, _, _, rfl, (HF5.out.moved hm hl4).low HB4.out.size, ⟨none, 0, rfl, .inl rfl⟩⟩
  repeat (first | with_reducible refine Below.alloc ?_ (by simp; omega) _ | with_reducible refine Below.setCell ?_ (by simp) _)
  exact HB5.out


end Go.Proofs.YthbfcamfapgodaaGreatDoor
