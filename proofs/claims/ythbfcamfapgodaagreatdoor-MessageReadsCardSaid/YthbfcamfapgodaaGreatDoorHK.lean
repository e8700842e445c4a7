/- The document's own ReadResponse (sculleryref08). -/
import Derived.Test.YthbfcamfapgodaaGreatDoorHJ

namespace Go.Proofs.YthbfcamfapgodaaGreatDoor
open Go.RowKit Go.Shelf Go.Lib

set_option maxRecDepth 100000 in
set_option maxHeartbeats 8000000 in
theorem rreadp_line (s me : ByteArray) (w : World) (hs : s.size ≤ 90000) (h1 : (lineL s.data.toList).2 ≠ 0) :
    Calls Tryz.prog 11 #[.string s, .string me] w (rpPost (rdP s.data.toList me) w) := by
  have cL := fun W => rline_any s W (by omega)
  have HB0 := Lib.hid (((Below.refl w.heap.size w).alloc (Nat.le_refl _) nilP).alloc (by simp) nilP)
  have HV : Hid (rdP s.data.toList me = .error (lineL s.data.toList).2) := Lib.hid (by rw [rdP, if_pos h1])
  have hlv : rlnV (lineL s.data.toList) = .tuple #[.string (strB (lineL s.data.toList).1), .int .i64 0, .int .i64 (lineL s.data.toList).2] := by rw [rlnV, if_neg h1]
  rw [hlv] at cL
  clear hlv
  have hne : ((lineL s.data.toList).2 != 0) = true := by rewrite [bne_iff_ne]; exact h1
  generalize strB (lineL s.data.toList).1 = L at *
  generalize (lineL s.data.toList).2 = x at *
  go_enter Tryz.func11, Tryz.ntmps11
  go_wp2_with fail
  refine (cL _).mono ?_
  rintro e _ ⟨rfl, rfl⟩
  go_wp2_with fail
  refine bodyPost_ret (v := .tuple #[.agg #[.int .i64 0, .slice none 0 0, .slice none 0 0], .int .i64 x]) (by simp [results, Tryz.results11, go_sem]) rfl ?_
  rewrite [HV.out]
  exact ⟨HB0.out, rfl⟩

set_option maxRecDepth 100000 in
set_option maxHeartbeats 8000000 in
theorem rreadp_first (s me : ByteArray) (w : World) (hs : s.size ≤ 90000) (h1 : (lineL s.data.toList).2 = 0) (h2 : frP (lineL s.data.toList).1 = none) :
    Calls Tryz.prog 11 #[.string s, .string me] w (rpPost (rdP s.data.toList me) w) := by
  have cL := fun W => rline_any s W (by omega)
  have HA0 := Lib.hid ((Nil3.made w).next ((Below.refl (w.heap.size + 1) (w.alloc nilP)).alloc (by simp) nilP) (by omega))
  have HZ0 : Hid (Nil3 ((w.alloc nilP).alloc nilP) (w.heap.size + 1)) := Lib.hid (by have := Nil3.made (w.alloc nilP); simpa using this)
  have HB0 := Lib.hid (((Below.refl w.heap.size w).alloc (Nat.le_refl _) nilP).alloc (by simp) nilP)
  have hle := lineL_le _ h1
  rw [← Lib.size_eq] at hle
  have hlv : rlnV (lineL s.data.toList) = .tuple #[.string (strB (lineL s.data.toList).1), .int .i64 (((lineL s.data.toList).1.length + 2 : Nat) : Int), .int .i64 0] := by rw [rlnV, if_pos h1, h1] <;> rfl
  rw [hlv] at cL
  clear hlv
  have hl1 := (cut32_len (lineL s.data.toList).1).2
  have hl2 := (cut32_len (cut32 (lineL s.data.toList).1).2.1).1
  have hl3 := (cut32_len (cut32 (lineL s.data.toList).1).2.1).2
  have cC1 := fun W => rcut_any (strB (lineL s.data.toList).1) W (by rewrite [strB_size]; omega)
  have cC2 := fun W => rcut_any (strB (cut32 (lineL s.data.toList).1).2.1) W (by rewrite [strB_size]; omega)
  have cS := fun W => rstatus_any (strB (cut32 (cut32 (lineL s.data.toList).1).2.1).1) W (by rewrite [strB_size]; omega)
  have cX := fun W => rtext_any (strB (cut32 (cut32 (lineL s.data.toList).1).2.1).2.1) W (by rewrite [strB_size]; unfold maxLen; omega)
  rw [strB_data, cutV_32] at cC1 cC2
  rw [strB_data] at cS cX
  have HV : Hid (rdP s.data.toList me = .error 2) := Lib.hid (by rw [rdP, if_neg (by simp [h1]), h2])
  unfold frP at h2
  have hve : ((strB (cut32 (lineL s.data.toList).1).1).toList == [72, 84, 84, 80, 47, 49, 46, 49]) = decide ((cut32 (lineL s.data.toList).1).1 = h11) := by
    rewrite [Lib.toList_data, strB_data]
    by_cases hh : (cut32 (lineL s.data.toList).1).1 = h11
    · rw [decide_eq_true hh, hh] <;> rfl
    · rewrite [decide_eq_false hh, beq_eq_false_iff_ne]; exact hh
  clear hl1 hl2 hl3 hle h1
  generalize (lineL s.data.toList).1.length + 2 = K at *
  generalize cut32 (cut32 (lineL s.data.toList).1).2.1 = p2 at *
  obtain ⟨c, r, two⟩ := p2
  generalize cut32 (lineL s.data.toList).1 = p1 at *
  obtain ⟨v, r1, one⟩ := p1
  simp only at cC1 cC2 cS cX h2 hve
  generalize stB c = sb at *
  generalize digitsN c = n at *
  generalize txtL r = tx at *
  generalize decide (v = h11) = vr at *
  generalize strB (lineL s.data.toList).1 = SL at *
  generalize strB v = SV at *
  generalize strB r1 = SR at *
  generalize strB c = SC at *
  generalize strB r = SX at *
  cases one
  · go_enter Tryz.func11, Tryz.ntmps11
    go_wp2_with fail
    refine (cL _).mono ?_
    rintro e _ ⟨rfl, rfl⟩
    go_wp2_with fail
    refine (cC1 _).mono ?_
    rintro e w1 ⟨rfl, hb1⟩
    have HA1 := Lib.hid (HA0.out.next hb1 HA0.out.lt)
    have HZ1 := Lib.hid (HZ0.out.next hb1 HZ0.out.lt)
    have HB1 := Lib.hid (HB0.out.trans (hb1.mono HB0.out.size))
    clear hb1
    go_wp2_with fail
    refine (cC2 _).mono ?_
    rintro e w2 ⟨rfl, hb2⟩
    have HA2 := Lib.hid (HA1.out.next hb2 HA1.out.lt)
    have HZ2 := Lib.hid (HZ1.out.next hb2 HZ1.out.lt)
    have HB2 := Lib.hid (HB1.out.trans (hb2.mono HB1.out.size))
    clear hb2
    have hla := HA2.out.lt
    have hlz := HZ2.out.lt
    obtain ⟨a0, a1, a2, e0, e1, e2⟩ := HA2.out
    obtain ⟨z0, z1, z2, _, _, _⟩ := HZ2.out
    go_wp2_with fail
    refine (cS _).mono ?_
    rintro e _ ⟨rfl, rfl⟩
    go_wp2_with fail
    refine bodyPost_ret (v := .tuple #[.agg #[.int .i64 0, .slice none 0 0, .slice none 0 0], .int .i64 2]) (by simp [results, Tryz.results11, go_sem, a0, a1, a2]) rfl ?_
    rewrite [HV.out]
    refine ⟨?_, rfl⟩
    repeat (first | with_reducible refine Below.alloc ?_ (by simp; omega) _ | with_reducible refine Below.setCell ?_ (by simp) _)
    exact HB2.out
  cases two
  · go_enter Tryz.func11, Tryz.ntmps11
    go_wp2_with fail
    refine (cL _).mono ?_
    rintro e _ ⟨rfl, rfl⟩
    go_wp2_with fail
    refine (cC1 _).mono ?_
    rintro e w1 ⟨rfl, hb1⟩
    have HA1 := Lib.hid (HA0.out.next hb1 HA0.out.lt)
    have HZ1 := Lib.hid (HZ0.out.next hb1 HZ0.out.lt)
    have HB1 := Lib.hid (HB0.out.trans (hb1.mono HB0.out.size))
    clear hb1
    go_wp2_with fail
    refine (cC2 _).mono ?_
    rintro e w2 ⟨rfl, hb2⟩
    have HA2 := Lib.hid (HA1.out.next hb2 HA1.out.lt)
    have HZ2 := Lib.hid (HZ1.out.next hb2 HZ1.out.lt)
    have HB2 := Lib.hid (HB1.out.trans (hb2.mono HB1.out.size))
    clear hb2
    have hla := HA2.out.lt
    have hlz := HZ2.out.lt
    obtain ⟨a0, a1, a2, e0, e1, e2⟩ := HA2.out
    obtain ⟨z0, z1, z2, _, _, _⟩ := HZ2.out
    go_wp2_with fail
    refine (cS _).mono ?_
    rintro e _ ⟨rfl, rfl⟩
    go_wp2_with fail
    refine bodyPost_ret (v := .tuple #[.agg #[.int .i64 0, .slice none 0 0, .slice none 0 0], .int .i64 2]) (by simp [results, Tryz.results11, go_sem, a0, a1, a2]) rfl ?_
    rewrite [HV.out]
    refine ⟨?_, rfl⟩
    repeat (first | with_reducible refine Below.alloc ?_ (by simp; omega) _ | with_reducible refine Below.setCell ?_ (by simp) _)
    exact HB2.out
  cases vr
  · go_enter Tryz.func11, Tryz.ntmps11
    go_wp2_with fail
    refine (cL _).mono ?_
    rintro e _ ⟨rfl, rfl⟩
    go_wp2_with fail
    refine (cC1 _).mono ?_
    rintro e w1 ⟨rfl, hb1⟩
    have HA1 := Lib.hid (HA0.out.next hb1 HA0.out.lt)
    have HZ1 := Lib.hid (HZ0.out.next hb1 HZ0.out.lt)
    have HB1 := Lib.hid (HB0.out.trans (hb1.mono HB0.out.size))
    clear hb1
    go_wp2_with fail
    refine (cC2 _).mono ?_
    rintro e w2 ⟨rfl, hb2⟩
    have HA2 := Lib.hid (HA1.out.next hb2 HA1.out.lt)
    have HZ2 := Lib.hid (HZ1.out.next hb2 HZ1.out.lt)
    have HB2 := Lib.hid (HB1.out.trans (hb2.mono HB1.out.size))
    clear hb2
    have hla := HA2.out.lt
    have hlz := HZ2.out.lt
    obtain ⟨a0, a1, a2, e0, e1, e2⟩ := HA2.out
    obtain ⟨z0, z1, z2, _, _, _⟩ := HZ2.out
    go_wp2_with fail
    refine (cS _).mono ?_
    rintro e _ ⟨rfl, rfl⟩
    go_wp2_with fail
    refine bodyPost_ret (v := .tuple #[.agg #[.int .i64 0, .slice none 0 0, .slice none 0 0], .int .i64 2]) (by simp [results, Tryz.results11, go_sem, a0, a1, a2]) rfl ?_
    rewrite [HV.out]
    refine ⟨?_, rfl⟩
    repeat (first | with_reducible refine Below.alloc ?_ (by simp; omega) _ | with_reducible refine Below.setCell ?_ (by simp) _)
    exact HB2.out
  cases sb
  · go_enter Tryz.func11, Tryz.ntmps11
    go_wp2_with fail
    refine (cL _).mono ?_
    rintro e _ ⟨rfl, rfl⟩
    go_wp2_with fail
    refine (cC1 _).mono ?_
    rintro e w1 ⟨rfl, hb1⟩
    have HA1 := Lib.hid (HA0.out.next hb1 HA0.out.lt)
    have HZ1 := Lib.hid (HZ0.out.next hb1 HZ0.out.lt)
    have HB1 := Lib.hid (HB0.out.trans (hb1.mono HB0.out.size))
    clear hb1
    go_wp2_with fail
    refine (cC2 _).mono ?_
    rintro e w2 ⟨rfl, hb2⟩
    have HA2 := Lib.hid (HA1.out.next hb2 HA1.out.lt)
    have HZ2 := Lib.hid (HZ1.out.next hb2 HZ1.out.lt)
    have HB2 := Lib.hid (HB1.out.trans (hb2.mono HB1.out.size))
    clear hb2
    have hla := HA2.out.lt
    have hlz := HZ2.out.lt
    obtain ⟨a0, a1, a2, e0, e1, e2⟩ := HA2.out
    obtain ⟨z0, z1, z2, _, _, _⟩ := HZ2.out
    go_wp2_with fail
    refine (cS _).mono ?_
    rintro e _ ⟨rfl, rfl⟩
    go_wp2_with fail
    refine bodyPost_ret (v := .tuple #[.agg #[.int .i64 0, .slice none 0 0, .slice none 0 0], .int .i64 2]) (by simp [results, Tryz.results11, go_sem, a0, a1, a2]) rfl ?_
    rewrite [HV.out]
    refine ⟨?_, rfl⟩
    repeat (first | with_reducible refine Below.alloc ?_ (by simp; omega) _ | with_reducible refine Below.setCell ?_ (by simp) _)
    exact HB2.out
  cases tx
  · go_enter Tryz.func11, Tryz.ntmps11
    go_wp2_with fail
    refine (cL _).mono ?_
    rintro e _ ⟨rfl, rfl⟩
    go_wp2_with fail
    refine (cC1 _).mono ?_
    rintro e w1 ⟨rfl, hb1⟩
    have HA1 := Lib.hid (HA0.out.next hb1 HA0.out.lt)
    have HZ1 := Lib.hid (HZ0.out.next hb1 HZ0.out.lt)
    have HB1 := Lib.hid (HB0.out.trans (hb1.mono HB0.out.size))
    clear hb1
    go_wp2_with fail
    refine (cC2 _).mono ?_
    rintro e w2 ⟨rfl, hb2⟩
    have HA2 := Lib.hid (HA1.out.next hb2 HA1.out.lt)
    have HZ2 := Lib.hid (HZ1.out.next hb2 HZ1.out.lt)
    have HB2 := Lib.hid (HB1.out.trans (hb2.mono HB1.out.size))
    clear hb2
    have hla := HA2.out.lt
    have hlz := HZ2.out.lt
    obtain ⟨a0, a1, a2, e0, e1, e2⟩ := HA2.out
    obtain ⟨z0, z1, z2, _, _, _⟩ := HZ2.out
    go_wp2_with fail
    refine (cS _).mono ?_
    rintro e _ ⟨rfl, rfl⟩
    go_wp2_with fail
    refine (cX _).mono ?_
    rintro e _ ⟨rfl, rfl⟩
    go_wp2_with fail
    refine bodyPost_ret (v := .tuple #[.agg #[.int .i64 0, .slice none 0 0, .slice none 0 0], .int .i64 2]) (by simp [results, Tryz.results11, go_sem, a0, a1, a2]) rfl ?_
    rewrite [HV.out]
    refine ⟨?_, rfl⟩
    repeat (first | with_reducible refine Below.alloc ?_ (by simp; omega) _ | with_reducible refine Below.setCell ?_ (by simp) _)
    exact HB2.out
  cases h2

end Go.Proofs.YthbfcamfapgodaaGreatDoor
