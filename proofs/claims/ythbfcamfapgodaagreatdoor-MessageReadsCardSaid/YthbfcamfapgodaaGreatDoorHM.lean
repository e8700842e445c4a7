/- The document's own ReadResponse (sculleryref08): with a body. -/
import Derived.Test.YthbfcamfapgodaaGreatDoorHK

namespace Go.Proofs.YthbfcamfapgodaaGreatDoor
open Go.RowKit Go.Shelf Go.Lib

set_option maxRecDepth 100000 in
set_option maxHeartbeats 8000000 in
theorem rreadp_body (s me : ByteArray) (w : World) (n : Int) (hs : s.size ≤ 90000) (h1 : (lineL s.data.toList).2 = 0) (h2 : frP (lineL s.data.toList).1 = some n) (fs : List Fld) (m : Nat) (h3 : parseH (s.data.toList.drop ((lineL s.data.toList).1.length + 2)) = .ok (fs, m)) (k : Int) (h5 : lngL fs = .ok k) (h6 : ¬ bareB n me = true) (h7 : ¬ k = -1) (x : Int) (h8 : bodL (s.data.toList.drop ((lineL s.data.toList).1.length + 2 + m)) k = .error x) :
    Calls Tryz.prog 11 #[.string s, .string me] w (rpPost (rdP s.data.toList me) w) := by
  have cL := fun W => rline_any s W (by omega)
  have HA0 := Lib.hid ((Nil3.made w).next ((Below.refl (w.heap.size + 1) (w.alloc nilP)).alloc (by simp) nilP) (by omega))
  have HZ0 : Hid (Nil3 ((w.alloc nilP).alloc nilP) (w.heap.size + 1)) := Lib.hid (by have := Nil3.made (w.alloc nilP); simpa using this)
  have HB0 := Lib.hid (((Below.refl w.heap.size w).alloc (Nat.le_refl _) nilP).alloc (by simp) nilP)
  have hle := lineL_le _ h1
  rw [← Lib.size_eq] at hle
  have hlv : rlnV (lineL s.data.toList) = .tuple #[.string (strB (lineL s.data.toList).1), .int .i64 (((lineL s.data.toList).1.length + 2 : Nat) : Int), .int .i64 0] := by rw [rlnV, if_pos h1, h1] <;> rfl
  rw [hlv] at cL
  clear hlv
  have hl1 := (cut32_len (lineL s.data.toList).1).2
  have hl2 := (cut32_len (cut32 (lineL s.data.toList).1).2.1).1
  have hl3 := (cut32_len (cut32 (lineL s.data.toList).1).2.1).2
  have cC1 := fun W => rcut_any (strB (lineL s.data.toList).1) W (by rewrite [strB_size]; omega)
  have cC2 := fun W => rcut_any (strB (cut32 (lineL s.data.toList).1).2.1) W (by rewrite [strB_size]; omega)
  have cS := fun W => rstatus_any (strB (cut32 (cut32 (lineL s.data.toList).1).2.1).1) W (by rewrite [strB_size]; omega)
  have cX := fun W => rtext_any (strB (cut32 (cut32 (lineL s.data.toList).1).2.1).2.1) W (by rewrite [strB_size]; unfold maxLen; omega)
  rw [strB_data, cutV_32] at cC1 cC2
  rw [strB_data] at cS cX
  have hxd : (s.extract ((lineL s.data.toList).1.length + 2) s.size).data.toList = s.data.toList.drop ((lineL s.data.toList).1.length + 2) := Lib.extract_to_end s _
  have hxs : (s.extract ((lineL s.data.toList).1.length + 2) s.size).size = s.size - ((lineL s.data.toList).1.length + 2) := by rw [Lib.size_eq, hxd, List.length_drop, ← Lib.size_eq]
  have cP := fun W => rparse_any (s.extract ((lineL s.data.toList).1.length + 2) s.size) W (by omega)
  rw [hxd] at cP
  clear hxd hxs
  have HV : Hid (rdP s.data.toList me = .error x) := Lib.hid (by rewrite [rdP, if_neg (by simp [h1]), h2]; simp only [h3, h5, if_neg h6, if_neg h7, h8])
  have hK2 := parseH_ok h3
  rw [List.length_drop, ← Lib.size_eq] at hK2
  rw [h3] at cP
  have hfk : FldsOk fs := ⟨by omega, fun p hp => by have := hK2.2.2 p hp; omega⟩
  have hn := hK2.1
  have hfl := hK2.2.1
  have cN := fun v W h => rlength_any 0 v fs W h hfk
  have cW := fun v W h => rless_any 0 v fs W h hfk
  rw [h5, show lngV (.ok k) = .tuple #[.int .i64 k, .int .i64 0] from rfl] at cN
  have cR := fun W => rbare_any n me W
  have hbd : (s.extract ((lineL s.data.toList).1.length + 2 + m) s.size).data.toList = s.data.toList.drop ((lineL s.data.toList).1.length + 2 + m) := Lib.extract_to_end s _
  have hbs : (s.extract ((lineL s.data.toList).1.length + 2 + m) s.size).size = s.size - ((lineL s.data.toList).1.length + 2 + m) := by rw [Lib.size_eq, hbd, List.length_drop, ← Lib.size_eq]
  have hem : (s.extract ((lineL s.data.toList).1.length + 2 + m) s.size).toList.isEmpty = (s.data.toList.drop ((lineL s.data.toList).1.length + 2 + m)).isEmpty := by rw [Lib.toList_data, hbd]
  have hbn : bareB n me = false := by simpa using h6
  rw [hbn] at cR
  have hkn : (k == -1) = false := by rewrite [beq_eq_false_iff_ne]; exact h7
  have cB := fun W => rbody_any (s.extract ((lineL s.data.toList).1.length + 2 + m) s.size) k W (by omega) (lngL_ok h5)
  rw [hbd, h8] at cB
  rw [show decV (.error x) = .tuple #[.string ⟨#[]⟩, .int .i64 0, .int .i64 x] from rfl] at cB
  have hnx : (x != 0) = true := by rcases bodL_no h8 with h | h | h <;> rw [h] <;> rfl
  clear h3 h5 h6 h7 h8 hfk hK2 hbd hbs hem hbn cW
  have hfr : (cut32 (lineL s.data.toList).1).2.2 = true ∧ (cut32 (cut32 (lineL s.data.toList).1).2.1).2.2 = true ∧ (cut32 (lineL s.data.toList).1).1 = h11 ∧ stB (cut32 (cut32 (lineL s.data.toList).1).2.1).1 = true ∧ txtL (cut32 (cut32 (lineL s.data.toList).1).2.1).2.1 = true ∧ digitsN (cut32 (cut32 (lineL s.data.toList).1).2.1).1 = n := by
    unfold frP at h2
    split at h2
    · rename_i hh
      simp only [Bool.and_eq_true, decide_eq_true_eq] at hh
      simp only [Option.some.injEq] at h2
      exact ⟨hh.1.1.1.1, hh.1.1.1.2, hh.1.1.2, hh.1.2, hh.2, h2⟩
    · cases h2
  obtain ⟨f1, f2, f3, f4, f5, f6⟩ := hfr
  rw [f1, f3] at cC1
  rw [f2] at cC2
  rw [f4, f6] at cS
  rw [f5] at cX
  have hve : ((strB h11).toList == [72, 84, 84, 80, 47, 49, 46, 49]) = true := by
    rewrite [Lib.toList_data, strB_data]
    exact beq_self_eq_true h11
  clear hl1 hl2 hl3 h1 h2 f1 f2 f3 f4 f5 f6
  generalize (lineL s.data.toList).1.length + 2 = K at *
  generalize (cut32 (cut32 (lineL s.data.toList).1).2.1).1 = c at *
  generalize (cut32 (cut32 (lineL s.data.toList).1).2.1).2.1 = r at *
  generalize (cut32 (lineL s.data.toList).1).2.1 = R at *
  generalize strB (lineL s.data.toList).1 = SL at *
  generalize strB R = SR at *
  generalize strB c = SC at *
  generalize strB r = SX at *
  generalize strB h11 = SV at *
  go_enter Tryz.func11, Tryz.ntmps11
  go_wp2_with fail
  refine (cL _).mono ?_
  rintro e _ ⟨rfl, rfl⟩
  go_wp2_with fail
  refine (cC1 _).mono ?_
  rintro e w1 ⟨rfl, hb1⟩
  have HA1 := Lib.hid (HA0.out.next hb1 HA0.out.lt)
  have HZ1 := Lib.hid (HZ0.out.next hb1 HZ0.out.lt)
  have HB1 := Lib.hid (HB0.out.trans (hb1.mono HB0.out.size))
  clear hb1
  go_wp2_with fail
  refine (cC2 _).mono ?_
  rintro e w2 ⟨rfl, hb2⟩
  have HA2 := Lib.hid (HA1.out.next hb2 HA1.out.lt)
  have HZ2 := Lib.hid (HZ1.out.next hb2 HZ1.out.lt)
  have HB2 := Lib.hid (HB1.out.trans (hb2.mono HB1.out.size))
  clear hb2
  go_wp2_with fail
  refine (cS _).mono ?_
  rintro e _ ⟨rfl, rfl⟩
  go_wp2_with fail
  refine (cX _).mono ?_
  rintro e _ ⟨rfl, rfl⟩
  go_wp2_with fail
  refine (cP _).mono ?_
  rintro e w3 ⟨hb3, v3, rfl, hown3⟩
  have HA3 := Lib.hid (HA2.out.next hb3 HA2.out.lt)
  have HZ3 := Lib.hid (HZ2.out.next hb3 HZ2.out.lt)
  have HB3 := Lib.hid (HB2.out.trans (hb3.mono HB2.out.size))
  clear hb3
  have HF3 := Lib.hid (Flds.of_own hown3 (Nat.zero_le _))
  obtain ⟨b3, k3, rfl⟩ := owns_formF hown3
  clear hown3
  go_wp2_with fail
  refine (cN _ _ HF3.out).mono ?_
  rintro e w4 ⟨rfl, hb4⟩
  have HA4 := Lib.hid (HA3.out.next hb4 HA3.out.lt)
  have HZ4 := Lib.hid (HZ3.out.next hb4 HZ3.out.lt)
  have HB4 := Lib.hid (HB3.out.trans (hb4.mono HB3.out.size))
  have HF4 := Lib.hid (HF3.out.below hb4)
  clear hb4
  go_wp2_with fail
  refine (cR _).mono ?_
  rintro e _ ⟨rfl, rfl⟩
  go_wp2_with fail
  refine (cB _).mono ?_
  rintro e w5 ⟨rfl, hb5⟩
  have HA5 := Lib.hid (HA4.out.next hb5 HA4.out.lt)
  have HZ5 := Lib.hid (HZ4.out.next hb5 HZ4.out.lt)
  have HB5 := Lib.hid (HB4.out.trans (hb5.mono HB4.out.size))
  have HF5 := Lib.hid (HF4.out.below hb5)
  clear hb5
  have hla := HA5.out.lt
  have hlz := HZ5.out.lt
  obtain ⟨a0, a1, a2, e0, e1, e2⟩ := HA5.out
  obtain ⟨z0, z1, z2, _, _, _⟩ := HZ5.out
  go_wp2_with fail
  refine bodyPost_ret (v := .tuple #[.agg #[.int .i64 0, .slice none 0 0, .slice none 0 0], .int .i64 x]) (by simp [results, Tryz.results11, go_sem, a0, a1, a2]) rfl ?_
  rewrite [HV.out]
  refine ⟨?_, rfl⟩
  repeat (first | with_reducible refine Below.alloc ?_ (by simp; omega) _ | with_reducible refine Below.setCell ?_ (by simp) _)
  exact HB5.out

set_option maxRecDepth 100000 in
set_option maxHeartbeats 8000000 in
theorem rreadp_rest (s me : ByteArray) (w : World) (n : Int) (hs : s.size ≤ 90000) (h1 : (lineL s.data.toList).2 = 0) (h2 : frP (lineL s.data.toList).1 = some n) (fs : List Fld) (m : Nat) (h3 : parseH (s.data.toList.drop ((lineL s.data.toList).1.length + 2)) = .ok (fs, m)) (k : Int) (h5 : lngL fs = .ok k) (h6 : ¬ bareB n me = true) (h7 : ¬ k = -1) (b : List UInt8) (u : Nat) (h8 : bodL (s.data.toList.drop ((lineL s.data.toList).1.length + 2 + m)) k = .ok (b, u)) (h9 : ¬ u = (s.data.toList.drop ((lineL s.data.toList).1.length + 2 + m)).length) :
    Calls Tryz.prog 11 #[.string s, .string me] w (rpPost (rdP s.data.toList me) w) := by
  have cL := fun W => rline_any s W (by omega)
  have HA0 := Lib.hid ((Nil3.made w).next ((Below.refl (w.heap.size + 1) (w.alloc nilP)).alloc (by simp) nilP) (by omega))
  have HZ0 : Hid (Nil3 ((w.alloc nilP).alloc nilP) (w.heap.size + 1)) := Lib.hid (by have := Nil3.made (w.alloc nilP); simpa using this)
  have HB0 := Lib.hid (((Below.refl w.heap.size w).alloc (Nat.le_refl _) nilP).alloc (by simp) nilP)
  have hle := lineL_le _ h1
  rw [← Lib.size_eq] at hle
  have hlv : rlnV (lineL s.data.toList) = .tuple #[.string (strB (lineL s.data.toList).1), .int .i64 (((lineL s.data.toList).1.length + 2 : Nat) : Int), .int .i64 0] := by rw [rlnV, if_pos h1, h1] <;> rfl
  rw [hlv] at cL
  clear hlv
  have hl1 := (cut32_len (lineL s.data.toList).1).2
  have hl2 := (cut32_len (cut32 (lineL s.data.toList).1).2.1).1
  have hl3 := (cut32_len (cut32 (lineL s.data.toList).1).2.1).2
  have cC1 := fun W => rcut_any (strB (lineL s.data.toList).1) W (by rewrite [strB_size]; omega)
  have cC2 := fun W => rcut_any (strB (cut32 (lineL s.data.toList).1).2.1) W (by rewrite [strB_size]; omega)
  have cS := fun W => rstatus_any (strB (cut32 (cut32 (lineL s.data.toList).1).2.1).1) W (by rewrite [strB_size]; omega)
  have cX := fun W => rtext_any (strB (cut32 (cut32 (lineL s.data.toList).1).2.1).2.1) W (by rewrite [strB_size]; unfold maxLen; omega)
  rw [strB_data, cutV_32] at cC1 cC2
  rw [strB_data] at cS cX
  have hxd : (s.extract ((lineL s.data.toList).1.length + 2) s.size).data.toList = s.data.toList.drop ((lineL s.data.toList).1.length + 2) := Lib.extract_to_end s _
  have hxs : (s.extract ((lineL s.data.toList).1.length + 2) s.size).size = s.size - ((lineL s.data.toList).1.length + 2) := by rw [Lib.size_eq, hxd, List.length_drop, ← Lib.size_eq]
  have cP := fun W => rparse_any (s.extract ((lineL s.data.toList).1.length + 2) s.size) W (by omega)
  rw [hxd] at cP
  clear hxd hxs
  have HV : Hid (rdP s.data.toList me = .error 2) := Lib.hid (by rewrite [rdP, if_neg (by simp [h1]), h2]; simp only [h3, h5, if_neg h6, if_neg h7, h8, if_neg h9])
  have hK2 := parseH_ok h3
  rw [List.length_drop, ← Lib.size_eq] at hK2
  rw [h3] at cP
  have hfk : FldsOk fs := ⟨by omega, fun p hp => by have := hK2.2.2 p hp; omega⟩
  have hn := hK2.1
  have hfl := hK2.2.1
  have cN := fun v W h => rlength_any 0 v fs W h hfk
  have cW := fun v W h => rless_any 0 v fs W h hfk
  rw [h5, show lngV (.ok k) = .tuple #[.int .i64 k, .int .i64 0] from rfl] at cN
  have cR := fun W => rbare_any n me W
  have hbd : (s.extract ((lineL s.data.toList).1.length + 2 + m) s.size).data.toList = s.data.toList.drop ((lineL s.data.toList).1.length + 2 + m) := Lib.extract_to_end s _
  have hbs : (s.extract ((lineL s.data.toList).1.length + 2 + m) s.size).size = s.size - ((lineL s.data.toList).1.length + 2 + m) := by rw [Lib.size_eq, hbd, List.length_drop, ← Lib.size_eq]
  have hem : (s.extract ((lineL s.data.toList).1.length + 2 + m) s.size).toList.isEmpty = (s.data.toList.drop ((lineL s.data.toList).1.length + 2 + m)).isEmpty := by rw [Lib.toList_data, hbd]
  have hbn : bareB n me = false := by simpa using h6
  rw [hbn] at cR
  have hkn : (k == -1) = false := by rewrite [beq_eq_false_iff_ne]; exact h7
  have cB := fun W => rbody_any (s.extract ((lineL s.data.toList).1.length + 2 + m) s.size) k W (by omega) (lngL_ok h5)
  rw [hbd, h8] at cB
  rw [show decV (.ok (b, u)) = .tuple #[.string (strB b), .int .i64 (u : Int), .int .i64 0] from rfl] at cB
  have hul := bodL_ok h8
  rw [List.length_drop, ← Lib.size_eq] at hul
  rw [List.length_drop, ← Lib.size_eq] at h9
  have hun : ((u : Int) != ((s.size - ((lineL s.data.toList).1.length + 2 + m) : Nat) : Int)) = true := by rewrite [bne_iff_ne]; omega
  clear h3 h5 h6 h7 h8 h9 hfk hK2 hbd hem hbn cW
  have hfr : (cut32 (lineL s.data.toList).1).2.2 = true ∧ (cut32 (cut32 (lineL s.data.toList).1).2.1).2.2 = true ∧ (cut32 (lineL s.data.toList).1).1 = h11 ∧ stB (cut32 (cut32 (lineL s.data.toList).1).2.1).1 = true ∧ txtL (cut32 (cut32 (lineL s.data.toList).1).2.1).2.1 = true ∧ digitsN (cut32 (cut32 (lineL s.data.toList).1).2.1).1 = n := by
    unfold frP at h2
    split at h2
    · rename_i hh
      simp only [Bool.and_eq_true, decide_eq_true_eq] at hh
      simp only [Option.some.injEq] at h2
      exact ⟨hh.1.1.1.1, hh.1.1.1.2, hh.1.1.2, hh.1.2, hh.2, h2⟩
    · cases h2
  obtain ⟨f1, f2, f3, f4, f5, f6⟩ := hfr
  rw [f1, f3] at cC1
  rw [f2] at cC2
  rw [f4, f6] at cS
  rw [f5] at cX
  have hve : ((strB h11).toList == [72, 84, 84, 80, 47, 49, 46, 49]) = true := by
    rewrite [Lib.toList_data, strB_data]
    exact beq_self_eq_true h11
  clear hl1 hl2 hl3 h1 h2 f1 f2 f3 f4 f5 f6
  generalize (lineL s.data.toList).1.length + 2 = K at *
  generalize (cut32 (cut32 (lineL s.data.toList).1).2.1).1 = c at *
  generalize (cut32 (cut32 (lineL s.data.toList).1).2.1).2.1 = r at *
  generalize (cut32 (lineL s.data.toList).1).2.1 = R at *
  generalize strB (lineL s.data.toList).1 = SL at *
  generalize strB R = SR at *
  generalize strB c = SC at *
  generalize strB r = SX at *
  generalize strB h11 = SV at *
  generalize strB b = SB at *
  go_enter Tryz.func11, Tryz.ntmps11
  go_wp2_with fail
  refine (cL _).mono ?_
  rintro e _ ⟨rfl, rfl⟩
  go_wp2_with fail
  refine (cC1 _).mono ?_
  rintro e w1 ⟨rfl, hb1⟩
  have HA1 := Lib.hid (HA0.out.next hb1 HA0.out.lt)
  have HZ1 := Lib.hid (HZ0.out.next hb1 HZ0.out.lt)
  have HB1 := Lib.hid (HB0.out.trans (hb1.mono HB0.out.size))
  clear hb1
  go_wp2_with fail
  refine (cC2 _).mono ?_
  rintro e w2 ⟨rfl, hb2⟩
  have HA2 := Lib.hid (HA1.out.next hb2 HA1.out.lt)
  have HZ2 := Lib.hid (HZ1.out.next hb2 HZ1.out.lt)
  have HB2 := Lib.hid (HB1.out.trans (hb2.mono HB1.out.size))
  clear hb2
  go_wp2_with fail
  refine (cS _).mono ?_
  rintro e _ ⟨rfl, rfl⟩
  go_wp2_with fail
  refine (cX _).mono ?_
  rintro e _ ⟨rfl, rfl⟩
  go_wp2_with fail
  refine (cP _).mono ?_
  rintro e w3 ⟨hb3, v3, rfl, hown3⟩
  have HA3 := Lib.hid (HA2.out.next hb3 HA2.out.lt)
  have HZ3 := Lib.hid (HZ2.out.next hb3 HZ2.out.lt)
  have HB3 := Lib.hid (HB2.out.trans (hb3.mono HB2.out.size))
  clear hb3
  have HF3 := Lib.hid (Flds.of_own hown3 (Nat.zero_le _))
  obtain ⟨b3, k3, rfl⟩ := owns_formF hown3
  clear hown3
  go_wp2_with fail
  refine (cN _ _ HF3.out).mono ?_
  rintro e w4 ⟨rfl, hb4⟩
  have HA4 := Lib.hid (HA3.out.next hb4 HA3.out.lt)
  have HZ4 := Lib.hid (HZ3.out.next hb4 HZ3.out.lt)
  have HB4 := Lib.hid (HB3.out.trans (hb4.mono HB3.out.size))
  have HF4 := Lib.hid (HF3.out.below hb4)
  clear hb4
  go_wp2_with fail
  refine (cR _).mono ?_
  rintro e _ ⟨rfl, rfl⟩
  go_wp2_with fail
  refine (cB _).mono ?_
  rintro e w5 ⟨rfl, hb5⟩
  have HA5 := Lib.hid (HA4.out.next hb5 HA4.out.lt)
  have HZ5 := Lib.hid (HZ4.out.next hb5 HZ4.out.lt)
  have HB5 := Lib.hid (HB4.out.trans (hb5.mono HB4.out.size))
  have HF5 := Lib.hid (HF4.out.below hb5)
  clear hb5
  have hla := HA5.out.lt
  have hlz := HZ5.out.lt
  obtain ⟨a0, a1, a2, e0, e1, e2⟩ := HA5.out
  obtain ⟨z0, z1, z2, _, _, _⟩ := HZ5.out
  go_wp2_with fail
  refine bodyPost_ret (v := .tuple #[.agg #[.int .i64 0, .slice none 0 0, .slice none 0 0], .int .i64 2]) (by simp [results, Tryz.results11, go_sem, a0, a1, a2]) rfl ?_
  rewrite [HV.out]
  refine ⟨?_, rfl⟩
  repeat (first | with_reducible refine Below.alloc ?_ (by simp; omega) _ | with_reducible refine Below.setCell ?_ (by simp) _)
  exact HB5.out


end Go.Proofs.YthbfcamfapgodaaGreatDoor
