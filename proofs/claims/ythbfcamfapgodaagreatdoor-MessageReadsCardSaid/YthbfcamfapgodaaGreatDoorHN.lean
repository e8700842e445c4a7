/- The document's own ReadResponse (sculleryref08): a response that is right. -/
import Derived.Test.YthbfcamfapgodaaGreatDoorHL
import Derived.Test.YthbfcamfapgodaaGreatDoorHM

namespace Go.Proofs.YthbfcamfapgodaaGreatDoor
open Go.RowKit Go.Shelf Go.Lib

theorem bodL_all (l : List UInt8) (h : l.length ≤ 100000) : bodL l (l.length : Int) = .ok (l, l.length) := by
  rw [bodL, if_neg (by omega), if_neg (by omega), if_neg (by omega), Int.toNat_natCast, List.take_length]

set_option maxRecDepth 100000 in
set_option maxHeartbeats 8000000 in
theorem rreadp_good (s me : ByteArray) (w : World) (n : Int) (hs : s.size ≤ 90000) (h1 : (lineL s.data.toList).2 = 0) (h2 : frP (lineL s.data.toList).1 = some n) (fs : List Fld) (m : Nat) (h3 : parseH (s.data.toList.drop ((lineL s.data.toList).1.length + 2)) = .ok (fs, m)) (k : Int) (h5 : lngL fs = .ok k) (h6 : ¬ bareB n me = true) (h7 : ¬ k = -1) (b : List UInt8) (u : Nat) (h8 : bodL (s.data.toList.drop ((lineL s.data.toList).1.length + 2 + m)) k = .ok (b, u)) (h9 : u = (s.data.toList.drop ((lineL s.data.toList).1.length + 2 + m)).length) :
    Calls Tryz.prog 11 #[.string s, .string me] w (rpPost (rdP s.data.toList me) w) := by
  have cL := fun W => rline_any s W (by omega)
  have HA0 := Lib.hid ((Nil3.made w).next ((Below.refl (w.heap.size + 1) (w.alloc nilP)).alloc (by simp) nilP) (by omega))
  have HZ0 : Hid (Nil3 ((w.alloc nilP).alloc nilP) (w.heap.size + 1)) := Lib.hid (by have := Nil3.made (w.alloc nilP); simpa using this)
  have HB0 := Lib.hid (((Below.refl w.heap.size w).alloc (Nat.le_refl _) nilP).alloc (by simp) nilP)
  have hle := lineL_le _ h1
  rw [← Lib.size_eq] at hle
  have hlv : rlnV (lineL s.data.toList) = .tuple #[.string (strB (lineL s.data.toList).1), .int .i64 (((lineL s.data.toList).1.length + 2 : Nat) : Int), .int .i64 0] := by rw [rlnV, if_pos h1, h1] <;> rfl
  rw [hlv] at cL
  clear hlv
  have hl1 := (cut32_len (lineL s.data.toList).1).2
  have hl2 := (cut32_len (cut32 (lineL s.data.toList).1).2.1).1
  have hl3 := (cut32_len (cut32 (lineL s.data.toList).1).2.1).2
  have cC1 := fun W => rcut_any (strB (lineL s.data.toList).1) W (by rewrite [strB_size]; omega)
  have cC2 := fun W => rcut_any (strB (cut32 (lineL s.data.toList).1).2.1) W (by rewrite [strB_size]; omega)
  have cS := fun W => rstatus_any (strB (cut32 (cut32 (lineL s.data.toList).1).2.1).1) W (by rewrite [strB_size]; omega)
  have cX := fun W => rtext_any (strB (cut32 (cut32 (lineL s.data.toList).1).2.1).2.1) W (by rewrite [strB_size]; unfold maxLen; omega)
  rw [strB_data, cutV_32] at cC1 cC2
  rw [strB_data] at cS cX
  have hxd : (s.extract ((lineL s.data.toList).1.length + 2) s.size).data.toList = s.data.toList.drop ((lineL s.data.toList).1.length + 2) := Lib.extract_to_end s _
  have hxs : (s.extract ((lineL s.data.toList).1.length + 2) s.size).size = s.size - ((lineL s.data.toList).1.length + 2) := by rw [Lib.size_eq, hxd, List.length_drop, ← Lib.size_eq]
  have cP := fun W => rparse_any (s.extract ((lineL s.data.toList).1.length + 2) s.size) W (by omega)
  rw [hxd] at cP
  clear hxd hxs
  have HV : Hid (rdP s.data.toList me = .ok ⟨n, lesL fs, b⟩) := Lib.hid (by rewrite [rdP, if_neg (by simp [h1]), h2]; simp only [h3, h5, if_neg h6, if_neg h7, h8, if_pos h9])
  have hK2 := parseH_ok h3
  rw [List.length_drop, ← Lib.size_eq] at hK2
  rw [h3] at cP
  have hfk : FldsOk fs := ⟨by omega, fun p hp => by have := hK2.2.2 p hp; omega⟩
  have hn := hK2.1
  have hfl := hK2.2.1
  have cN := fun v W h => rlength_any 0 v fs W h hfk
  have cW := fun v W h => rless_any 0 v fs W h hfk
  rw [h5, show lngV (.ok k) = .tuple #[.int .i64 k, .int .i64 0] from rfl] at cN
  have cR := fun W => rbare_any n me W
  have hbd : (s.extract ((lineL s.data.toList).1.length + 2 + m) s.size).data.toList = s.data.toList.drop ((lineL s.data.toList).1.length + 2 + m) := Lib.extract_to_end s _
  have hbs : (s.extract ((lineL s.data.toList).1.length + 2 + m) s.size).size = s.size - ((lineL s.data.toList).1.length + 2 + m) := by rw [Lib.size_eq, hbd, List.length_drop, ← Lib.size_eq]
  have hem : (s.extract ((lineL s.data.toList).1.length + 2 + m) s.size).toList.isEmpty = (s.data.toList.drop ((lineL s.data.toList).1.length + 2 + m)).isEmpty := by rw [Lib.toList_data, hbd]
  have hbn : bareB n me = false := by simpa using h6
  rw [hbn] at cR
  have hkn : (k == -1) = false := by rewrite [beq_eq_false_iff_ne]; exact h7
  have cB := fun W => rbody_any (s.extract ((lineL s.data.toList).1.length + 2 + m) s.size) k W (by omega) (lngL_ok h5)
  rw [hbd, h8] at cB
  rw [show decV (.ok (b, u)) = .tuple #[.string (strB b), .int .i64 (u : Int), .int .i64 0] from rfl] at cB
  have hul := bodL_ok h8
  rw [List.length_drop, ← Lib.size_eq] at hul
  rw [List.length_drop, ← Lib.size_eq] at h9
  have hun : ((u : Int) != ((s.size - ((lineL s.data.toList).1.length + 2 + m) : Nat) : Int)) = false := by rewrite [bne_eq_false_iff_eq]; omega
  have hbz := strB_size b
  have hbd2 := strB_data b
  clear h3 h5 h6 h7 h8 h9 hfk hK2 hbd hem hbn
  have hfr : (cut32 (lineL s.data.toList).1).2.2 = true ∧ (cut32 (cut32 (lineL s.data.toList).1).2.1).2.2 = true ∧ (cut32 (lineL s.data.toList).1).1 = h11 ∧ stB (cut32 (cut32 (lineL s.data.toList).1).2.1).1 = true ∧ txtL (cut32 (cut32 (lineL s.data.toList).1).2.1).2.1 = true ∧ digitsN (cut32 (cut32 (lineL s.data.toList).1).2.1).1 = n := by
    unfold frP at h2
    split at h2
    · rename_i hh
      simp only [Bool.and_eq_true, decide_eq_true_eq] at hh
      simp only [Option.some.injEq] at h2
      exact ⟨hh.1.1.1.1, hh.1.1.1.2, hh.1.1.2, hh.1.2, hh.2, h2⟩
    · cases h2
  obtain ⟨f1, f2, f3, f4, f5, f6⟩ := hfr
  rw [f1, f3] at cC1
  rw [f2] at cC2
  rw [f4, f6] at cS
  rw [f5] at cX
  have hve : ((strB h11).toList == [72, 84, 84, 80, 47, 49, 46, 49]) = true := by
    rewrite [Lib.toList_data, strB_data]
    exact beq_self_eq_true h11
  clear hl1 hl2 hl3 h1 h2 f1 f2 f3 f4 f5 f6
  generalize (lineL s.data.toList).1.length + 2 = K at *
  generalize (cut32 (cut32 (lineL s.data.toList).1).2.1).1 = c at *
  generalize (cut32 (cut32 (lineL s.data.toList).1).2.1).2.1 = r at *
  generalize (cut32 (lineL s.data.toList).1).2.1 = R at *
  generalize strB (lineL s.data.toList).1 = SL at *
  generalize strB R = SR at *
  generalize strB c = SC at *
  generalize strB r = SX at *
  generalize strB h11 = SV at *
  generalize strB b = SB at *
  go_enter Tryz.func11, Tryz.ntmps11
  go_wp2_with fail
  refine (cL _).mono ?_
  rintro e _ ⟨rfl, rfl⟩
  go_wp2_with fail
  refine (cC1 _).mono ?_
  rintro e w1 ⟨rfl, hb1⟩
  have HA1 := Lib.hid (HA0.out.next hb1 HA0.out.lt)
  have HZ1 := Lib.hid (HZ0.out.next hb1 HZ0.out.lt)
  have HB1 := Lib.hid (HB0.out.trans (hb1.mono HB0.out.size))
  clear hb1
  go_wp2_with fail
  refine (cC2 _).mono ?_
  rintro e w2 ⟨rfl, hb2⟩
  have HA2 := Lib.hid (HA1.out.next hb2 HA1.out.lt)
  have HZ2 := Lib.hid (HZ1.out.next hb2 HZ1.out.lt)
  have HB2 := Lib.hid (HB1.out.trans (hb2.mono HB1.out.size))
  clear hb2
  go_wp2_with fail
  refine (cS _).mono ?_
  rintro e _ ⟨rfl, rfl⟩
  go_wp2_with fail
  refine (cX _).mono ?_
  rintro e _ ⟨rfl, rfl⟩
  go_wp2_with fail
  refine (cP _).mono ?_
  rintro e w3 ⟨hb3, v3, rfl, hown3⟩
  have HA3 := Lib.hid (HA2.out.next hb3 HA2.out.lt)
  have HZ3 := Lib.hid (HZ2.out.next hb3 HZ2.out.lt)
  have HB3 := Lib.hid (HB2.out.trans (hb3.mono HB2.out.size))
  clear hb3
  have HF3 := Lib.hid (Flds.of_own hown3 (Nat.zero_le _))
  obtain ⟨b3, k3, rfl⟩ := owns_formF hown3
  clear hown3
  go_wp2_with fail
  refine (cN _ _ HF3.out).mono ?_
  rintro e w4 ⟨rfl, hb4⟩
  have HA4 := Lib.hid (HA3.out.next hb4 HA3.out.lt)
  have HZ4 := Lib.hid (HZ3.out.next hb4 HZ3.out.lt)
  have HB4 := Lib.hid (HB3.out.trans (hb4.mono HB3.out.size))
  have HF4 := Lib.hid (HF3.out.below hb4)
  clear hb4
  go_wp2_with fail
  refine (cR _).mono ?_
  rintro e _ ⟨rfl, rfl⟩
  go_wp2_with fail
  refine (cB _).mono ?_
  rintro e w5 ⟨rfl, hb5⟩
  have HA5 := Lib.hid (HA4.out.next hb5 HA4.out.lt)
  have HZ5 := Lib.hid (HZ4.out.next hb5 HZ4.out.lt)
  have HB5 := Lib.hid (HB4.out.trans (hb5.mono HB4.out.size))
  have HF5 := Lib.hid (HF4.out.below hb5)
  clear hb5
  go_wp2_with fail
  refine (cW _ _ HF5.out).mono ?_
  rintro e w6 ⟨⟨u6, rfl, hown6⟩, hb6⟩
  have HA6 := Lib.hid (HA5.out.next hb6 HA5.out.lt)
  have HZ6 := Lib.hid (HZ5.out.next hb6 HZ5.out.lt)
  have HB6 := Lib.hid (HB5.out.trans (hb6.mono HB5.out.size))
  obtain ⟨b6, k6, rfl⟩ := owns_formF hown6
  have hF6 : Flds w5.heap.size w6 (.slice b6 (lesL fs).length k6) (lesL fs) := Flds.of_own hown6 (Nat.le_refl _)
  have hcv := Lib.run_convert_string_bytes (P := Tryz.prog) w6 9 24 5 SB (u := .string) Tryz.underlying9 Tryz.underlying24 Tryz.underlying5
  have hb7 : Below w6.heap.size w6 (Lib.bytesWorld w6 5 SB) := Go.Joins.below_bytesWorld _ w6 5 SB (Nat.le_refl _)
  have hB7 := BytF.made w6 SB
  obtain ⟨W7, hW7⟩ : ∃ W7, Lib.bytesWorld w6 5 SB = W7 := ⟨_, rfl⟩
  generalize grownCap w6 SB.size 0 5 = cp at *
  rw [hW7] at hcv hb7 hB7
  rw [hbd2, hbz] at hB7
  rw [hbz] at hcv
  have HA7 := Lib.hid (HA6.out.next hb7 HA6.out.lt)
  have HZ7 := Lib.hid (HZ6.out.next hb7 HZ6.out.lt)
  have HB7 := Lib.hid (HB6.out.trans (hb7.mono HB6.out.size))
  have HF7 := Lib.hid (hF6.below hb7)
  have HY7 := Lib.hid hB7
  have hl4 := HA5.out.lt
  have hlw := HA6.out.lt
  clear hown6 hb6 hb7 hW7 hF6 hB7 hbd2
  have hla := HA7.out.lt
  have hlz := HZ7.out.lt
  obtain ⟨a0, a1, a2, e0, e1, e2⟩ := HA7.out
  obtain ⟨z0, z1, z2, _, _, _⟩ := HZ7.out
  go_wp2_with fail
  refine bodyPost_ret (v := .tuple #[.agg #[.int .i64 n, .slice b6 (lesL fs).length k6, .slice (some ⟨w6.heap.size, 0, none⟩) b.length cp], .int .i64 0]) (by simp [results, Tryz.results11, go_sem, a0, a1, a2]) rfl ?_
  rewrite [HV.out]
  have hm : Moved w.heap.size W7 _ := (((Moved.refl w.heap.size W7).setCell (o := 0) (.int .i64 n)).setCell (o := 1) (.slice b6 (lesL fs).length k6)).setCell (o := 2) (.slice (some ⟨w6.heap.size, 0, none⟩) b.length cp)
  refine ⟨?_, _, _, rfl, (HF7.out.moved hm hl4).low HB5.out.size, (HY7.out.moved hm hlw).low HB6.out.size⟩
  repeat (first | with_reducible refine Below.alloc ?_ (by simp; omega) _ | with_reducible refine Below.setCell ?_ (by simp) _)
  exact HB7.out

set_option maxRecDepth 100000 in
set_option maxHeartbeats 8000000 in
theorem rreadp_all (s me : ByteArray) (w : World) (n : Int) (hs : s.size ≤ 90000) (h1 : (lineL s.data.toList).2 = 0) (h2 : frP (lineL s.data.toList).1 = some n) (fs : List Fld) (m : Nat) (h3 : parseH (s.data.toList.drop ((lineL s.data.toList).1.length + 2)) = .ok (fs, m)) (h5 : lngL fs = .ok (-1)) (h6 : ¬ bareB n me = true) :
    Calls Tryz.prog 11 #[.string s, .string me] w (rpPost (rdP s.data.toList me) w) := by
  have cL := fun W => rline_any s W (by omega)
  have HA0 := Lib.hid ((Nil3.made w).next ((Below.refl (w.heap.size + 1) (w.alloc nilP)).alloc (by simp) nilP) (by omega))
  have HZ0 : Hid (Nil3 ((w.alloc nilP).alloc nilP) (w.heap.size + 1)) := Lib.hid (by have := Nil3.made (w.alloc nilP); simpa using this)
  have HB0 := Lib.hid (((Below.refl w.heap.size w).alloc (Nat.le_refl _) nilP).alloc (by simp) nilP)
  have hle := lineL_le _ h1
  rw [← Lib.size_eq] at hle
  have hlv : rlnV (lineL s.data.toList) = .tuple #[.string (strB (lineL s.data.toList).1), .int .i64 (((lineL s.data.toList).1.length + 2 : Nat) : Int), .int .i64 0] := by rw [rlnV, if_pos h1, h1] <;> rfl
  rw [hlv] at cL
  clear hlv
  have hl1 := (cut32_len (lineL s.data.toList).1).2
  have hl2 := (cut32_len (cut32 (lineL s.data.toList).1).2.1).1
  have hl3 := (cut32_len (cut32 (lineL s.data.toList).1).2.1).2
  have cC1 := fun W => rcut_any (strB (lineL s.data.toList).1) W (by rewrite [strB_size]; omega)
  have cC2 := fun W => rcut_any (strB (cut32 (lineL s.data.toList).1).2.1) W (by rewrite [strB_size]; omega)
  have cS := fun W => rstatus_any (strB (cut32 (cut32 (lineL s.data.toList).1).2.1).1) W (by rewrite [strB_size]; omega)
  have cX := fun W => rtext_any (strB (cut32 (cut32 (lineL s.data.toList).1).2.1).2.1) W (by rewrite [strB_size]; unfold maxLen; omega)
  rw [strB_data, cutV_32] at cC1 cC2
  rw [strB_data] at cS cX
  have hxd : (s.extract ((lineL s.data.toList).1.length + 2) s.size).data.toList = s.data.toList.drop ((lineL s.data.toList).1.length + 2) := Lib.extract_to_end s _
  have hxs : (s.extract ((lineL s.data.toList).1.length + 2) s.size).size = s.size - ((lineL s.data.toList).1.length + 2) := by rw [Lib.size_eq, hxd, List.length_drop, ← Lib.size_eq]
  have cP := fun W => rparse_any (s.extract ((lineL s.data.toList).1.length + 2) s.size) W (by omega)
  rw [hxd] at cP
  clear hxd hxs
  have hal : (s.data.toList.drop ((lineL s.data.toList).1.length + 2 + m)).length ≤ 100000 := by rewrite [List.length_drop, ← Lib.size_eq]; omega
  have HV : Hid (rdP s.data.toList me = .ok ⟨n, lesL fs, (s.data.toList.drop ((lineL s.data.toList).1.length + 2 + m))⟩) := Lib.hid (by rewrite [rdP, if_neg (by simp [h1]), h2]; simp only [h3, h5, if_neg h6, if_true, bodL_all _ hal])
  have hK2 := parseH_ok h3
  rw [List.length_drop, ← Lib.size_eq] at hK2
  rw [h3] at cP
  have hfk : FldsOk fs := ⟨by omega, fun p hp => by have := hK2.2.2 p hp; omega⟩
  have hn := hK2.1
  have hfl := hK2.2.1
  have cN := fun v W h => rlength_any 0 v fs W h hfk
  have cW := fun v W h => rless_any 0 v fs W h hfk
  rw [h5, show lngV (.ok (-1)) = .tuple #[.int .i64 (-1), .int .i64 0] from rfl] at cN
  have cR := fun W => rbare_any n me W
  have hbd : (s.extract ((lineL s.data.toList).1.length + 2 + m) s.size).data.toList = s.data.toList.drop ((lineL s.data.toList).1.length + 2 + m) := Lib.extract_to_end s _
  have hbs : (s.extract ((lineL s.data.toList).1.length + 2 + m) s.size).size = s.size - ((lineL s.data.toList).1.length + 2 + m) := by rw [Lib.size_eq, hbd, List.length_drop, ← Lib.size_eq]
  have hem : (s.extract ((lineL s.data.toList).1.length + 2 + m) s.size).toList.isEmpty = (s.data.toList.drop ((lineL s.data.toList).1.length + 2 + m)).isEmpty := by rw [Lib.toList_data, hbd]
  have hbn : bareB n me = false := by simpa using h6
  rw [hbn] at cR
  have hln : (s.data.toList.drop ((lineL s.data.toList).1.length + 2 + m)).length = s.size - ((lineL s.data.toList).1.length + 2 + m) := by rw [List.length_drop, ← Lib.size_eq]
  have cB := fun W => rbody_any (s.extract ((lineL s.data.toList).1.length + 2 + m) s.size) (((s.size - ((lineL s.data.toList).1.length + 2 + m) : Nat)) : Int) W (by omega) (by omega)
  rw [hbd, show bodL (s.data.toList.drop ((lineL s.data.toList).1.length + 2 + m)) (((s.size - ((lineL s.data.toList).1.length + 2 + m) : Nat)) : Int) = .ok ((s.data.toList.drop ((lineL s.data.toList).1.length + 2 + m)), (s.data.toList.drop ((lineL s.data.toList).1.length + 2 + m)).length) from by rewrite [← hln]; exact bodL_all _ hal] at cB
  rw [show decV (.ok ((s.data.toList.drop ((lineL s.data.toList).1.length + 2 + m)), (s.data.toList.drop ((lineL s.data.toList).1.length + 2 + m)).length)) = .tuple #[.string (strB (s.data.toList.drop ((lineL s.data.toList).1.length + 2 + m))), .int .i64 ((s.data.toList.drop ((lineL s.data.toList).1.length + 2 + m)).length : Int), .int .i64 0] from rfl, hln] at cB
  have hbz := strB_size (s.data.toList.drop ((lineL s.data.toList).1.length + 2 + m))
  have hbd2 := strB_data (s.data.toList.drop ((lineL s.data.toList).1.length + 2 + m))
  rw [hln] at hbz
  clear h3 h5 h6 hfk hK2 hbd hem hbn hal
  have hfr : (cut32 (lineL s.data.toList).1).2.2 = true ∧ (cut32 (cut32 (lineL s.data.toList).1).2.1).2.2 = true ∧ (cut32 (lineL s.data.toList).1).1 = h11 ∧ stB (cut32 (cut32 (lineL s.data.toList).1).2.1).1 = true ∧ txtL (cut32 (cut32 (lineL s.data.toList).1).2.1).2.1 = true ∧ digitsN (cut32 (cut32 (lineL s.data.toList).1).2.1).1 = n := by
    unfold frP at h2
    split at h2
    · rename_i hh
      simp only [Bool.and_eq_true, decide_eq_true_eq] at hh
      simp only [Option.some.injEq] at h2
      exact ⟨hh.1.1.1.1, hh.1.1.1.2, hh.1.1.2, hh.1.2, hh.2, h2⟩
    · cases h2
  obtain ⟨f1, f2, f3, f4, f5, f6⟩ := hfr
  rw [f1, f3] at cC1
  rw [f2] at cC2
  rw [f4, f6] at cS
  rw [f5] at cX
  have hve : ((strB h11).toList == [72, 84, 84, 80, 47, 49, 46, 49]) = true := by
    rewrite [Lib.toList_data, strB_data]
    exact beq_self_eq_true h11
  clear hl1 hl2 hl3 h1 h2 f1 f2 f3 f4 f5 f6
  generalize (lineL s.data.toList).1.length + 2 = K at *
  generalize (cut32 (cut32 (lineL s.data.toList).1).2.1).1 = c at *
  generalize (cut32 (cut32 (lineL s.data.toList).1).2.1).2.1 = r at *
  generalize (cut32 (lineL s.data.toList).1).2.1 = R at *
  generalize strB (lineL s.data.toList).1 = SL at *
  generalize strB R = SR at *
  generalize strB c = SC at *
  generalize strB r = SX at *
  generalize strB h11 = SV at *
  generalize s.data.toList.drop (K + m) = LB at *
  generalize strB LB = SB at *
  go_enter Tryz.func11, Tryz.ntmps11
  go_wp2_with fail
  refine (cL _).mono ?_
  rintro e _ ⟨rfl, rfl⟩
  go_wp2_with fail
  refine (cC1 _).mono ?_
  rintro e w1 ⟨rfl, hb1⟩
  have HA1 := Lib.hid (HA0.out.next hb1 HA0.out.lt)
  have HZ1 := Lib.hid (HZ0.out.next hb1 HZ0.out.lt)
  have HB1 := Lib.hid (HB0.out.trans (hb1.mono HB0.out.size))
  clear hb1
  go_wp2_with fail
  refine (cC2 _).mono ?_
  rintro e w2 ⟨rfl, hb2⟩
  have HA2 := Lib.hid (HA1.out.next hb2 HA1.out.lt)
  have HZ2 := Lib.hid (HZ1.out.next hb2 HZ1.out.lt)
  have HB2 := Lib.hid (HB1.out.trans (hb2.mono HB1.out.size))
  clear hb2
  go_wp2_with fail
  refine (cS _).mono ?_
  rintro e _ ⟨rfl, rfl⟩
  go_wp2_with fail
  refine (cX _).mono ?_
  rintro e _ ⟨rfl, rfl⟩
  go_wp2_with fail
  refine (cP _).mono ?_
  rintro e w3 ⟨hb3, v3, rfl, hown3⟩
  have HA3 := Lib.hid (HA2.out.next hb3 HA2.out.lt)
  have HZ3 := Lib.hid (HZ2.out.next hb3 HZ2.out.lt)
  have HB3 := Lib.hid (HB2.out.trans (hb3.mono HB2.out.size))
  clear hb3
  have HF3 := Lib.hid (Flds.of_own hown3 (Nat.zero_le _))
  obtain ⟨b3, k3, rfl⟩ := owns_formF hown3
  clear hown3
  go_wp2_with fail
  refine (cN _ _ HF3.out).mono ?_
  rintro e w4 ⟨rfl, hb4⟩
  have HA4 := Lib.hid (HA3.out.next hb4 HA3.out.lt)
  have HZ4 := Lib.hid (HZ3.out.next hb4 HZ3.out.lt)
  have HB4 := Lib.hid (HB3.out.trans (hb4.mono HB3.out.size))
  have HF4 := Lib.hid (HF3.out.below hb4)
  clear hb4
  go_wp2_with fail
  refine (cR _).mono ?_
  rintro e _ ⟨rfl, rfl⟩
  go_wp2_with fail
  refine (cB _).mono ?_
  rintro e w5 ⟨rfl, hb5⟩
  have HA5 := Lib.hid (HA4.out.next hb5 HA4.out.lt)
  have HZ5 := Lib.hid (HZ4.out.next hb5 HZ4.out.lt)
  have HB5 := Lib.hid (HB4.out.trans (hb5.mono HB4.out.size))
  have HF5 := Lib.hid (HF4.out.below hb5)
  clear hb5
  go_wp2_with fail
  refine (cW _ _ HF5.out).mono ?_
  rintro e w6 ⟨⟨u6, rfl, hown6⟩, hb6⟩
  have HA6 := Lib.hid (HA5.out.next hb6 HA5.out.lt)
  have HZ6 := Lib.hid (HZ5.out.next hb6 HZ5.out.lt)
  have HB6 := Lib.hid (HB5.out.trans (hb6.mono HB5.out.size))
  obtain ⟨b6, k6, rfl⟩ := owns_formF hown6
  have hF6 : Flds w5.heap.size w6 (.slice b6 (lesL fs).length k6) (lesL fs) := Flds.of_own hown6 (Nat.le_refl _)
  have hcv := Lib.run_convert_string_bytes (P := Tryz.prog) w6 9 24 5 SB (u := .string) Tryz.underlying9 Tryz.underlying24 Tryz.underlying5
  have hb7 : Below w6.heap.size w6 (Lib.bytesWorld w6 5 SB) := Go.Joins.below_bytesWorld _ w6 5 SB (Nat.le_refl _)
  have hB7 := BytF.made w6 SB
  obtain ⟨W7, hW7⟩ : ∃ W7, Lib.bytesWorld w6 5 SB = W7 := ⟨_, rfl⟩
  generalize grownCap w6 SB.size 0 5 = cp at *
  rw [hW7] at hcv hb7 hB7
  rw [hbd2, hbz] at hB7
  rw [hbz] at hcv
  have HA7 := Lib.hid (HA6.out.next hb7 HA6.out.lt)
  have HZ7 := Lib.hid (HZ6.out.next hb7 HZ6.out.lt)
  have HB7 := Lib.hid (HB6.out.trans (hb7.mono HB6.out.size))
  have HF7 := Lib.hid (hF6.below hb7)
  have HY7 := Lib.hid hB7
  have hl4 := HA5.out.lt
  have hlw := HA6.out.lt
  clear hown6 hb6 hb7 hW7 hF6 hB7 hbd2
  have hla := HA7.out.lt
  have hlz := HZ7.out.lt
  obtain ⟨a0, a1, a2, e0, e1, e2⟩ := HA7.out
  obtain ⟨z0, z1, z2, _, _, _⟩ := HZ7.out
  go_wp2_with fail
  refine bodyPost_ret (v := .tuple #[.agg #[.int .i64 n, .slice b6 (lesL fs).length k6, .slice (some ⟨w6.heap.size, 0, none⟩) (s.size - (K + m)) cp], .int .i64 0]) (by simp [results, Tryz.results11, go_sem, a0, a1, a2]) rfl ?_
  rewrite [HV.out]
  have hm : Moved w.heap.size W7 _ := (((Moved.refl w.heap.size W7).setCell (o := 0) (.int .i64 n)).setCell (o := 1) (.slice b6 (lesL fs).length k6)).setCell (o := 2) (.slice (some ⟨w6.heap.size, 0, none⟩) (s.size - (K + m)) cp)
  refine ⟨?_, _, _, rfl, (HF7.out.moved hm hl4).low HB5.out.size, (HY7.out.moved hm hlw).low HB6.out.size⟩
  repeat (first | with_reducible refine Below.alloc ?_ (by simp; omega) _ | with_reducible refine Below.setCell ?_ (by simp) _)
  exact HB7.out

theorem rreadp_any (s me : ByteArray) (w : World) (hs : s.size ≤ 90000) :
    Calls Tryz.prog 11 #[.string s, .string me] w (rpPost (rdP s.data.toList me) w) := by
  by_cases h1 : (lineL s.data.toList).2 = 0
  · cases h2 : frP (lineL s.data.toList).1 with
    | none => exact rreadp_first s me w hs h1 h2
    | some n =>
      cases h3 : parseH (s.data.toList.drop ((lineL s.data.toList).1.length + 2)) with
      | error x => exact rreadp_parse s me w n hs h1 h2 x h3
      | ok p =>
        obtain ⟨fs, m⟩ := p
        cases h5 : lngL fs with
        | error x => exact rreadp_length s me w n hs h1 h2 fs m h3 x h5
        | ok k =>
          by_cases h6 : bareB n me = true
          · by_cases h7 : s.data.toList.drop ((lineL s.data.toList).1.length + 2 + m) = []
            · exact rreadp_bare s me w n hs h1 h2 fs m h3 k h5 h6 h7
            · exact rreadp_more s me w n hs h1 h2 fs m h3 k h5 h6 h7
          · by_cases h7 : k = -1
            · subst h7
              exact rreadp_all s me w n hs h1 h2 fs m h3 h5 h6
            · cases h8 : bodL (s.data.toList.drop ((lineL s.data.toList).1.length + 2 + m)) k with
              | error x => exact rreadp_body s me w n hs h1 h2 fs m h3 k h5 h6 h7 x h8
              | ok p =>
                obtain ⟨b, u⟩ := p
                by_cases h9 : u = (s.data.toList.drop ((lineL s.data.toList).1.length + 2 + m)).length
                · exact rreadp_good s me w n hs h1 h2 fs m h3 k h5 h6 h7 b u h8 h9
                · exact rreadp_rest s me w n hs h1 h2 fs m h3 k h5 h6 h7 b u h8 h9
  · exact rreadp_line s me w hs h1

end Go.Proofs.YthbfcamfapgodaaGreatDoor
