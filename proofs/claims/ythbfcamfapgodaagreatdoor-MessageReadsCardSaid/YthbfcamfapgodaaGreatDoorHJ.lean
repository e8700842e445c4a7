/- The document's own ReadRequest (sculleryref08): a request that is right. -/
import Derived.Test.YthbfcamfapgodaaGreatDoorGL
import Derived.Test.YthbfcamfapgodaaGreatDoorHI
import Derived.Lib.SmallJoins

namespace Go.Proofs.YthbfcamfapgodaaGreatDoor
open Go.RowKit Go.Shelf Go.Lib

set_option maxRecDepth 100000 in
set_option maxHeartbeats 8000000 in
theorem rreadq_good (s : ByteArray) (w : World) (m t : List UInt8) (hs : s.size ≤ 90000) (h1 : (lineL s.data.toList).2 = 0) (h2 : frL (lineL s.data.toList).1 = some (m, t)) (fs : List Fld) (n : Nat) (h3 : parseH (s.data.toList.drop ((lineL s.data.toList).1.length + 2)) = .ok (fs, n)) (h4 : (allH fs hoN).length = 1) (k : Int) (h5 : lngL fs = .ok k) (b : List UInt8) (u : Nat) (h6 : bodL (s.data.toList.drop ((lineL s.data.toList).1.length + 2 + n)) k = .ok (b, u)) :
    Calls Tryz.prog 9 #[.string s] w (rqPost (rdQ s.data.toList) w) := by
  have cL := fun W => rline_any s W (by omega)
  have HA0 := Lib.hid ((Nil4.made w).next ((Below.refl (w.heap.size + 1) (w.alloc nilQ)).alloc (by simp) nilQ) (by omega))
  have HZ0 : Hid (Nil4 ((w.alloc nilQ).alloc nilQ) (w.heap.size + 1)) := Lib.hid (by have := Nil4.made (w.alloc nilQ); simpa using this)
  have HB0 := Lib.hid (((Below.refl w.heap.size w).alloc (Nat.le_refl _) nilQ).alloc (by simp) nilQ)
  have hle := lineL_le _ h1
  rw [← Lib.size_eq] at hle
  have hlv : rlnV (lineL s.data.toList) = .tuple #[.string (strB (lineL s.data.toList).1), .int .i64 (((lineL s.data.toList).1.length + 2 : Nat) : Int), .int .i64 0] := by rw [rlnV, if_pos h1, h1] <;> rfl
  rw [hlv] at cL
  clear hlv
  have hl1 := (cut32_len (lineL s.data.toList).1).1
  have hl2 := (cut32_len (lineL s.data.toList).1).2
  have hl3 := (cut32_len (cut32 (lineL s.data.toList).1).2.1).1
  have cC1 := fun W => rcut_any (strB (lineL s.data.toList).1) W (by rewrite [strB_size]; omega)
  have cC2 := fun W => rcut_any (strB (cut32 (lineL s.data.toList).1).2.1) W (by rewrite [strB_size]; omega)
  have cT := fun W => rtoken_any (strB (cut32 (lineL s.data.toList).1).1) W (by rewrite [strB_size]; unfold maxLen; omega)
  have cG := fun W => rtarget_any (strB (cut32 (cut32 (lineL s.data.toList).1).2.1).1) W (by rewrite [strB_size]; omega)
  rw [strB_data, cutV_32] at cC1 cC2
  rw [strB_data] at cT cG
  have hxd : (s.extract ((lineL s.data.toList).1.length + 2) s.size).data.toList = s.data.toList.drop ((lineL s.data.toList).1.length + 2) := Lib.extract_to_end s _
  have hxs : (s.extract ((lineL s.data.toList).1.length + 2) s.size).size = s.size - ((lineL s.data.toList).1.length + 2) := by rw [Lib.size_eq, hxd, List.length_drop, ← Lib.size_eq]
  have cP := fun W => rparse_any (s.extract ((lineL s.data.toList).1.length + 2) s.size) W (by omega)
  rw [hxd] at cP
  clear hxd hxs
  have HV : Hid (rdQ s.data.toList = .ok (⟨m, t, lesL fs, b⟩, (lineL s.data.toList).1.length + 2 + n + u)) := Lib.hid (by rewrite [rdQ, if_neg (by simp [h1]), h2]; simp only [h3, if_neg (show ¬ (allH fs hoN).length ≠ 1 from fun h => h h4), h5, h6])
  have hK2 := parseH_ok h3
  rw [List.length_drop, ← Lib.size_eq] at hK2
  rw [h3] at cP
  have hfk : FldsOk fs := ⟨by omega, fun p hp => by have := hK2.2.2 p hp; omega⟩
  have cH := fun v W h => rall_any 0 v fs hoN W h hfk.1
  rw [show strB hoN = (⟨#[104, 111, 115, 116]⟩ : ByteArray) from rfl] at cH
  have hn := hK2.1
  have hfl := hK2.2.1
  have hne : (((allH fs hoN).length : Int) != 1) = false := by rw [h4] <;> rfl
  have hul := bodL_ok h6
  rw [List.length_drop, ← Lib.size_eq] at hul
  have cN := fun v W h => rlength_any 0 v fs W h hfk
  rw [h5, show lngV (.ok k) = .tuple #[.int .i64 k, .int .i64 0] from rfl] at cN
  have hbd : (s.extract ((lineL s.data.toList).1.length + 2 + n) s.size).data.toList = s.data.toList.drop ((lineL s.data.toList).1.length + 2 + n) := Lib.extract_to_end s _
  have hbs : (s.extract ((lineL s.data.toList).1.length + 2 + n) s.size).size = s.size - ((lineL s.data.toList).1.length + 2 + n) := by rw [Lib.size_eq, hbd, List.length_drop, ← Lib.size_eq]
  have cB := fun W => rbody_any (s.extract ((lineL s.data.toList).1.length + 2 + n) s.size) k W (by omega) (lngL_ok h5)
  rw [hbd, h6] at cB
  rw [show decV (.ok (b, u)) = .tuple #[.string (strB b), .int .i64 (u : Int), .int .i64 0] from rfl] at cB
  have cW := fun v W h => rless_any 0 v fs W h hfk
  have hbz := strB_size b
  have hbd2 := strB_data b
  clear h3 h4 h5 h6 hfk hK2 hbd hbs
  have hfr : (cut32 (lineL s.data.toList).1).2.2 = true ∧ (cut32 (cut32 (lineL s.data.toList).1).2.1).2.2 = true ∧ tokL (cut32 (lineL s.data.toList).1).1 = true ∧ tgtL (cut32 (cut32 (lineL s.data.toList).1).2.1).1 = true ∧ (cut32 (cut32 (lineL s.data.toList).1).2.1).2.1 = h11 ∧ (cut32 (lineL s.data.toList).1).1 = m ∧ (cut32 (cut32 (lineL s.data.toList).1).2.1).1 = t := by
    unfold frL at h2
    split at h2
    · rename_i hh
      simp only [Bool.and_eq_true, decide_eq_true_eq] at hh
      simp only [Option.some.injEq, Prod.mk.injEq] at h2
      exact ⟨hh.1.1.1.1, hh.1.1.1.2, hh.1.1.2, hh.1.2, hh.2, h2.1, h2.2⟩
    · cases h2
  obtain ⟨f1, f2, f3, f4, f5, f6, f7⟩ := hfr
  rw [f1] at cC1
  rw [f2, f5] at cC2
  rw [f3] at cT
  rw [f4] at cG
  rw [f6] at cC1 cT
  rw [f7] at cC2 cG
  have hve : ((strB h11).toList == [72, 84, 84, 80, 47, 49, 46, 49]) = true := by
    rewrite [Lib.toList_data, strB_data]
    exact beq_self_eq_true h11
  clear hl1 hl2 hl3 h1 h2 f1 f2 f3 f4 f5 f6 f7
  generalize (lineL s.data.toList).1.length + 2 = K at *
  generalize (cut32 (lineL s.data.toList).1).2.1 = R at *
  generalize strB (lineL s.data.toList).1 = SL at *
  generalize hSM : strB m = SM at cC1 cT
  generalize strB R = SR at *
  generalize hST : strB t = ST at cC2 cG
  generalize strB h11 = SV at *
  generalize hSB : strB b = SB at *
  have HSM := Lib.hid hSM
  have HST := Lib.hid hST
  have HSB := Lib.hid hSB
  clear hSM hST hSB
  generalize allH fs hoN = hs4 at *
  go_enter Tryz.func9, Tryz.ntmps9
  go_wp2_with fail
  refine (cL _).mono ?_
  rintro e _ ⟨rfl, rfl⟩
  go_wp2_with fail
  refine (cC1 _).mono ?_
  rintro e w1 ⟨rfl, hb1⟩
  have HA1 := Lib.hid (HA0.out.next hb1 HA0.out.lt)
  have HZ1 := Lib.hid (HZ0.out.next hb1 HZ0.out.lt)
  have HB1 := Lib.hid (HB0.out.trans (hb1.mono HB0.out.size))
  clear hb1
  go_wp2_with fail
  refine (cC2 _).mono ?_
  rintro e w2 ⟨rfl, hb2⟩
  have HA2 := Lib.hid (HA1.out.next hb2 HA1.out.lt)
  have HZ2 := Lib.hid (HZ1.out.next hb2 HZ1.out.lt)
  have HB2 := Lib.hid (HB1.out.trans (hb2.mono HB1.out.size))
  clear hb2
  go_wp2_with fail
  refine (cT _).mono ?_
  rintro e _ ⟨rfl, rfl⟩
  go_wp2_with fail
  refine (cG _).mono ?_
  rintro e _ ⟨rfl, rfl⟩
  go_wp2_with fail
  refine (cP _).mono ?_
  rintro e w3 ⟨hb3, v3, rfl, hown3⟩
  have HA3 := Lib.hid (HA2.out.next hb3 HA2.out.lt)
  have HZ3 := Lib.hid (HZ2.out.next hb3 HZ2.out.lt)
  have HB3 := Lib.hid (HB2.out.trans (hb3.mono HB2.out.size))
  clear hb3
  have HF3 := Lib.hid (Flds.of_own hown3 (Nat.zero_le _))
  have HO3 := Lib.hid hown3
  obtain ⟨b3, k3, rfl⟩ := owns_formF hown3
  clear hown3
  go_wp2_with fail
  refine (cH _ _ HF3.out).mono ?_
  rintro e w4 ⟨⟨u4, rfl, hown4⟩, hb4⟩
  have HA4 := Lib.hid (HA3.out.next hb4 HA3.out.lt)
  have HZ4 := Lib.hid (HZ3.out.next hb4 HZ3.out.lt)
  have HB4 := Lib.hid (HB3.out.trans (hb4.mono HB3.out.size))
  have HF4 := Lib.hid (HF3.out.below hb4)
  obtain ⟨b4, k4, rfl⟩ := owns_formF hown4
  clear hown4 hb4
  go_wp2_with fail
  refine (cN _ _ HF4.out).mono ?_
  rintro e w5 ⟨rfl, hb5⟩
  have HA5 := Lib.hid (HA4.out.next hb5 HA4.out.lt)
  have HZ5 := Lib.hid (HZ4.out.next hb5 HZ4.out.lt)
  have HB5 := Lib.hid (HB4.out.trans (hb5.mono HB4.out.size))
  have HF5 := Lib.hid (HF4.out.below hb5)
  clear hb5
  go_wp2_with fail
  refine (cB _).mono ?_
  rintro e w6 ⟨rfl, hb6⟩
  have HA6 := Lib.hid (HA5.out.next hb6 HA5.out.lt)
  have HZ6 := Lib.hid (HZ5.out.next hb6 HZ5.out.lt)
  have HB6 := Lib.hid (HB5.out.trans (hb6.mono HB5.out.size))
  have HF6 := Lib.hid (HF5.out.below hb6)
  clear hb6
  go_wp2_with fail
  refine (cW _ _ HF6.out).mono ?_
  rintro e w7 ⟨⟨u7, rfl, hown7⟩, hb7⟩
  have HA7 := Lib.hid (HA6.out.next hb7 HA6.out.lt)
  have HZ7 := Lib.hid (HZ6.out.next hb7 HZ6.out.lt)
  have HB7 := Lib.hid (HB6.out.trans (hb7.mono HB6.out.size))
  obtain ⟨b7, k7, rfl⟩ := owns_formF hown7
  have hF7 : Flds w6.heap.size w7 (.slice b7 (lesL fs).length k7) (lesL fs) := Flds.of_own hown7 (Nat.le_refl _)
  have hcv := Lib.run_convert_string_bytes (P := Tryz.prog) w7 9 24 5 SB (u := .string) Tryz.underlying9 Tryz.underlying24 Tryz.underlying5
  have hb8 : Below w7.heap.size w7 (Lib.bytesWorld w7 5 SB) := Go.Joins.below_bytesWorld _ w7 5 SB (Nat.le_refl _)
  have hB8 := BytF.made w7 SB
  obtain ⟨W8, hW8⟩ : ∃ W8, Lib.bytesWorld w7 5 SB = W8 := ⟨_, rfl⟩
  generalize grownCap w7 SB.size 0 5 = cp at *
  rw [hW8] at hcv hb8 hB8
  rw [hbd2, hbz] at hB8
  have hF8 := hF7.below hb8
  have HA8 := Lib.hid (HA7.out.next hb8 HA7.out.lt)
  have HZ8 := Lib.hid (HZ7.out.next hb8 HZ7.out.lt)
  have HB8 := Lib.hid (HB7.out.trans (hb8.mono HB7.out.size))
  have HF8 := Lib.hid hF8
  have HY8 := Lib.hid hB8
  have hlw := HA7.out.lt
  have hl6 := HA6.out.lt
  clear hown7 hb7 hb8 hW8 hF7 hF8 hB8 hbd2
  have hla := HA8.out.lt
  have hlz := HZ8.out.lt
  obtain ⟨a0, a1, a2, a3, e0, e1, e2, e3⟩ := HA8.out
  obtain ⟨z0, z1, z2, z3, _, _, _, _⟩ := HZ8.out
  go_wp2_with fail
  refine bodyPost_ret (v := .tuple #[.agg #[.string SM, .string ST, .slice b7 (lesL fs).length k7, .slice (some ⟨w7.heap.size, 0, none⟩) b.length cp], .int .i64 ((K + n + u : Nat) : Int), .int .i64 0]) (by simp [results, Tryz.results9, go_sem, a0, a1, a2, a3]) rfl ?_
  rewrite [HV.out]
  have hm : Moved w.heap.size W8 _ := ((((Moved.refl w.heap.size W8).setCell (o := 0) (.string SM)).setCell (o := 1) (.string ST)).setCell (o := 2) (.slice b7 (lesL fs).length k7)).setCell (o := 3) (.slice (some ⟨w7.heap.size, 0, none⟩) b.length cp)
  refine ⟨?_, _, _, by rw [HSM.out, HST.out], (HF8.out.moved hm hl6).low HB6.out.size, (HY8.out.moved hm hlw).low HB7.out.size⟩
  repeat (first | with_reducible refine Below.alloc ?_ (by simp; omega) _ | with_reducible refine Below.setCell ?_ (by simp) _)
  exact HB8.out

theorem rreadq_any (s : ByteArray) (w : World) (hs : s.size ≤ 90000) :
    Calls Tryz.prog 9 #[.string s] w (rqPost (rdQ s.data.toList) w) := by
  by_cases h1 : (lineL s.data.toList).2 = 0
  · cases h2 : frL (lineL s.data.toList).1 with
    | none => exact rreadq_first s w hs h1 h2
    | some p =>
      obtain ⟨m, t⟩ := p
      cases h3 : parseH (s.data.toList.drop ((lineL s.data.toList).1.length + 2)) with
      | error x => exact rreadq_parse s w m t hs h1 h2 x h3
      | ok p =>
        obtain ⟨fs, n⟩ := p
        by_cases h4 : (allH fs hoN).length = 1
        · cases h5 : lngL fs with
          | error x => exact rreadq_length s w m t hs h1 h2 fs n h3 h4 x h5
          | ok k =>
            cases h6 : bodL (s.data.toList.drop ((lineL s.data.toList).1.length + 2 + n)) k with
            | error x => exact rreadq_body s w m t hs h1 h2 fs n h3 h4 k h5 x h6
            | ok p =>
              obtain ⟨b, u⟩ := p
              exact rreadq_good s w m t hs h1 h2 fs n h3 h4 k h5 b u h6
        · exact rreadq_host s w m t hs h1 h2 fs n h3 h4
  · exact rreadq_line s w hs h1

end Go.Proofs.YthbfcamfapgodaaGreatDoor
