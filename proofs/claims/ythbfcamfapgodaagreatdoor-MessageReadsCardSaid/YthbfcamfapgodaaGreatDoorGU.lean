/- The law's own 'awake' over package message: it returns true. -/
import Derived.Test.YthbfcamfapgodaaGreatDoorGO
import Derived.Test.YthbfcamfapgodaaGreatDoorGS
import Derived.Test.YthbfcamfapgodaaGreatDoorGT

namespace Go.Proofs.YthbfcamfapgodaaGreatDoor
open Go.RowKit Go.Shelf Go.Lib

def awA : List UInt8 := [71, 69, 84, 32, 47, 97, 32, 72, 84, 84, 80, 47, 49, 46, 49, 13, 10, 72, 111, 115, 116, 58, 32, 120, 13, 10, 67, 111, 110, 116, 101, 110, 116, 45, 76, 101, 110, 103, 116, 104, 58, 32, 50, 13, 10, 13, 10, 104, 105, 120]
def awB : List UInt8 := [72, 84, 84, 80, 47, 49, 46, 49, 32, 50, 48, 48, 32, 79, 75, 13, 10, 65, 58, 32, 98, 13, 10, 13, 10, 98, 111, 100, 121]
def awC : List UInt8 := [71, 69, 84, 32, 47, 97, 32, 72, 84, 84, 80, 47, 49, 46, 48, 13, 10, 72, 111, 115, 116, 58, 32, 120, 13, 10, 13, 10]
def awS : List UInt8 := [71, 69, 84, 32, 47, 97, 32, 72, 84, 84, 80, 47, 49, 46, 49, 13, 10, 104, 111, 115, 116, 58, 32, 120, 13, 10, 99, 111, 110, 116, 101, 110, 116, 45, 108, 101, 110, 103, 116, 104, 58, 32, 50, 13, 10, 13, 10, 104, 105]
def awT : List UInt8 := [72, 84, 84, 80, 47, 49, 46, 49, 32, 50, 48, 48, 32, 13, 10, 97, 58, 32, 98, 13, 10, 99, 111, 110, 116, 101, 110, 116, 45, 108, 101, 110, 103, 116, 104, 58, 32, 52, 13, 10, 13, 10, 98, 111, 100, 121]
def awQ : Rq := ⟨[71, 69, 84], [47, 97], [([104, 111, 115, 116], [120])], [104, 105]⟩
def awP : Rp := ⟨200, [([97], [98])], [98, 111, 100, 121]⟩
def awG : ByteArray := ⟨#[71, 69, 84]⟩
theorem bare_awG (n : Int) (h : (decide (100 ≤ n) && decide (n ≤ 199) || n == 204 || n == 304) = false) : bareB n awG = false := by
  unfold bareB
  rewrite [h, Lib.toList_data]
  rfl
set_option maxRecDepth 100000 in
theorem aw_q : rdQ awA = .ok (awQ, 49) := by rfl
set_option maxRecDepth 100000 in
theorem aw_c : rdQ awC = .error 2 := by rfl
set_option maxRecDepth 100000 in
theorem aw_l : lineL awB = ([72, 84, 84, 80, 47, 49, 46, 49, 32, 50, 48, 48, 32, 79, 75], 0) := by rfl
set_option maxRecDepth 100000 in
theorem aw_f : frP [72, 84, 84, 80, 47, 49, 46, 49, 32, 50, 48, 48, 32, 79, 75] = some 200 := by rfl
set_option maxRecDepth 100000 in
theorem aw_h : parseH (awB.drop 17) = .ok (awP.fs, 8) := by rfl
theorem aw_p : rdP awB awG = .ok awP := by
  have e4 : lngL awP.fs = .ok (-1) := by rfl
  have e5 : bareB 200 awG = false := bare_awG 200 rfl
  have e6 : awB.drop 25 = awP.b := by rfl
  have e7 : bodL awP.b 4 = .ok (awP.b, 4) := by rfl
  rewrite [rdP, aw_l]
  dsimp only
  rewrite [if_neg (by simp), aw_f]
  dsimp only
  rewrite [show ([72, 84, 84, 80, 47, 49, 46, 49, 32, 50, 48, 48, 32, 79, 75] : List UInt8).length + 2 = 17 from rfl, aw_h]
  dsimp only
  rewrite [e4]
  dsimp only
  rewrite [show 17 + 8 = 25 from rfl, e6, e5, if_neg (by simp), if_pos rfl, show ((awP.b.length : Nat) : Int) = 4 from rfl, e7]
  rfl
set_option maxRecDepth 100000 in
theorem aw_s : prQ awQ = some awS := by
  have h : fieldsQ awQ = [([104, 111, 115, 116], [120]), (clN, [50])] := by
    rewrite [fieldsQ, if_neg (by decide), withCl, show awQ.b.length = 2 from rfl, dec_small 2 (by omega)]
    rfl
  rewrite [prQ, if_pos (by rfl), h]
  rfl
set_option maxRecDepth 100000 in
theorem aw_t : prP awP awG = some awT := by
  have e5 : bareB awP.n awG = false := bare_awG 200 rfl
  have h : fieldsP awP awG = [([97], [98]), (clN, [52])] := by
    rewrite [fieldsP, e5, if_neg (by decide), withCl, show awP.b.length = 4 from rfl, dec_small 4 (by omega)]
    rfl
  have hd : Lib.decDigits awP.n.toNat = [50, 48, 48] := by
    rewrite [show awP.n.toNat = 200 from rfl, dec_big 200 (by omega), dec_big (200 / 10) (by omega), dec_small (200 / 10 / 10) (by omega), dec_small (200 / 10 % 10) (by omega)]
    rfl
  rewrite [prP, e5, if_pos (by rfl), h, hd]
  rfl

/-- Three cells of a response. -/
structure BoxP (W : World) (c : Nat) (n : Int) (f y : Value) : Prop where
  r0 : W.cell? ⟨c, 0, none⟩ = some (.int .i64 n)
  r1 : W.cell? ⟨c, 1, none⟩ = some f
  r2 : W.cell? ⟨c, 2, none⟩ = some y
theorem BoxP.made (w : World) (n : Int) (f y : Value) : BoxP (w.alloc (.cells #[.int .i64 n, f, y] 31)) w.heap.size n f y := ⟨by simp, by simp, by simp⟩
theorem BoxP.lt {W : World} {c : Nat} {n : Int} {f y : Value} (h : BoxP W c n f y) : c < W.heap.size := lt_of_cell h.r0
theorem BoxP.next {W W1 : World} {c : Nat} {n : Int} {f y : Value} (h : BoxP W c n f y) (hb : Below W.heap.size W W1) : BoxP W1 c n f y :=
  ⟨(hb.cell (p := ⟨c, 0, none⟩) h.lt).trans h.r0, (hb.cell (p := ⟨c, 1, none⟩) h.lt).trans h.r1, (hb.cell (p := ⟨c, 2, none⟩) h.lt).trans h.r2⟩

set_option maxRecDepth 100000 in
set_option maxHeartbeats 8000000 in
theorem awake8_any (w : World) (hT : Tabs w) (hE : Errs w) (hP : Pow w) :
    Calls Tryz.prog 7 #[] w fun e w' => e = .returned (.bool true) ∧ Below w.heap.size w w' := by
  have HT := Lib.hid hT
  have HE := Lib.hid hE
  have HP := Lib.hid hP
  clear hT hE hP
  have c1 := fun W h1 h2 => mreadq_any (strB awA) W (by decide) h1 h2
  have c3 := fun W h1 h2 => mreadp_any (strB awB) awG W (by decide) h1 h2
  have c5 := fun W h1 h2 => mreadq_any (strB awC) W (by decide) h1 h2
  rw [strB_data] at c1 c3 c5
  rw [aw_q] at c1
  rw [aw_p] at c3
  rw [aw_c] at c5
  have c2 := fun v vb W h hb h1 h2 => mprq_any 0 0 awQ v vb W h ⟨by decide, by decide⟩ (by decide) hb (by decide) (by decide) (by decide) h1 h2
  have c4 := fun v vb W h hb h1 h2 => mprp_any 0 0 awP awG v vb W h ⟨by decide, by decide⟩ hb (by decide) h1 h2
  rw [aw_s, show textH (some awS) = .tuple #[.string (strB awS), .int .i64 0] from rfl] at c2
  rw [aw_t, show textH (some awT) = .tuple #[.string (strB awT), .int .i64 0] from rfl] at c4
  have c6 := fun W => mbare_any 304 awG W
  rw [show bareB 304 awG = true from rfl] at c6
  have k1 : ((strB awS).toList == [71, 69, 84, 32, 47, 97, 32, 72, 84, 84, 80, 47, 49, 46, 49, 13, 10, 104, 111, 115, 116, 58, 32, 120, 13, 10, 99, 111, 110, 116, 101, 110, 116, 45, 108, 101, 110, 103, 116, 104, 58, 32, 50, 13, 10, 13, 10, 104, 105]) = true := by rw [Lib.toList_data, strB_data] <;> rfl
  have k2 : ((strB awT).toList == [72, 84, 84, 80, 47, 49, 46, 49, 32, 50, 48, 48, 32, 13, 10, 97, 58, 32, 98, 13, 10, 99, 111, 110, 116, 101, 110, 116, 45, 108, 101, 110, 103, 116, 104, 58, 32, 52, 13, 10, 13, 10, 98, 111, 100, 121]) = true := by rw [Lib.toList_data, strB_data] <;> rfl
  have k3 : ((strB awQ.b).toList == [104, 105]) = true := by rw [Lib.toList_data, strB_data] <;> rfl
  rw [show strB awA = (⟨#[71, 69, 84, 32, 47, 97, 32, 72, 84, 84, 80, 47, 49, 46, 49, 13, 10, 72, 111, 115, 116, 58, 32, 120, 13, 10, 67, 111, 110, 116, 101, 110, 116, 45, 76, 101, 110, 103, 116, 104, 58, 32, 50, 13, 10, 13, 10, 104, 105, 120]⟩ : ByteArray) from rfl] at c1
  rw [show strB awB = (⟨#[72, 84, 84, 80, 47, 49, 46, 49, 32, 50, 48, 48, 32, 79, 75, 13, 10, 65, 58, 32, 98, 13, 10, 13, 10, 98, 111, 100, 121]⟩ : ByteArray) from rfl] at c3
  rw [show strB awC = (⟨#[71, 69, 84, 32, 47, 97, 32, 72, 84, 84, 80, 47, 49, 46, 48, 13, 10, 72, 111, 115, 116, 58, 32, 120, 13, 10, 13, 10]⟩ : ByteArray) from rfl] at c5
  rw [show awG = (⟨#[71, 69, 84]⟩ : ByteArray) from rfl] at c3 c4 c6
  generalize strB awS = SS at *
  generalize strB awT = ST at *
  go_enter Tryz.func7, Tryz.ntmps7
  go_wp2_with fail
  refine (c1 _ HT.out HE.out).mono ?_
  rintro e w1 ⟨hb1, vf, vb, rfl, hf, hy⟩
  have hb1b := hb1.alloc hb1.size (.cells #[.string (strB awQ.m), .string (strB awQ.t), vf, vb] 26)
  have hal1 : Below w1.heap.size w1 (w1.alloc (.cells #[.string (strB awQ.m), .string (strB awQ.t), vf, vb] 26)) := (Below.refl _ _).alloc (Nat.le_refl _) _
  have HF1 := Lib.hid ((hf.low (Nat.zero_le _)).below hal1)
  have HY1 := Lib.hid ((hy.low (Nat.zero_le _)).below hal1)
  have HB1 := Lib.hid hb1b
  have HX1 := Lib.hid (BoxQ.made w1 (strB awQ.m) (strB awQ.t) vf vb)
  obtain ⟨ao, ac, rfl, _⟩ := hf
  obtain ⟨bo, bc, rfl, _⟩ := hy
  clear hb1 hb1b hal1 c1
  go_wp2_with fail
  refine (c2 _ _ _ HF1.out HY1.out (Utf8Tabs_below HT.out HB1.out) (HP.out.below HB1.out)).mono ?_
  rintro e w2 ⟨rfl, hb2⟩
  have HB2 := Lib.hid (HB1.out.trans (hb2.mono HB1.out.size))
  have HX2 := Lib.hid (HX1.out.next hb2)
  have HY2 := Lib.hid (HY1.out.below hb2)
  clear hb2 c2 HX1 HY1 HF1
  go_wp2_with fail
  refine (c3 _ (Utf8Tabs_below HT.out HB2.out) (HE.out.below HB2.out)).mono ?_
  rintro e w3 ⟨hb3, pf, pb, rfl, hpf, hpy⟩
  have hal3 : Below w3.heap.size w3 (w3.alloc (.cells #[.int .i64 awP.n, pf, pb] 31)) := (Below.refl _ _).alloc (Nat.le_refl _) _
  have hb3b := hb3.trans (hal3.mono hb3.size)
  have HX3 := Lib.hid (HX2.out.next hb3b)
  have HY3 := Lib.hid (HY2.out.below hb3b)
  have HB3 := Lib.hid (HB2.out.trans (hb3b.mono HB2.out.size))
  have HZ3 := Lib.hid (BoxP.made w3 awP.n pf pb)
  have HF3 := Lib.hid ((hpf.low (Nat.zero_le _)).below hal3)
  have HW3 := Lib.hid ((hpy.low (Nat.zero_le _)).below hal3)
  obtain ⟨co, cc, rfl, _⟩ := hpf
  obtain ⟨do_, dc, rfl, _⟩ := hpy
  clear hb3 hb3b hal3 c3 HX2 HY2
  go_wp2_with fail
  refine (c4 _ _ _ HF3.out HW3.out (Utf8Tabs_below HT.out HB3.out) (HP.out.below HB3.out)).mono ?_
  rintro e w4 ⟨rfl, hb4⟩
  have HB4 := Lib.hid (HB3.out.trans (hb4.mono HB3.out.size))
  have HX4 := Lib.hid (HX3.out.next hb4)
  have HY4 := Lib.hid (HY3.out.below hb4)
  have HZ4 := Lib.hid (HZ3.out.next hb4)
  clear hb4 c4 HX3 HY3 HZ3 HF3 HW3
  go_wp2_with fail
  refine (c5 _ (Utf8Tabs_below HT.out HB4.out) (HE.out.below HB4.out)).mono ?_
  rintro e w5 ⟨hb5, rfl⟩
  have hal5 : Below w5.heap.size w5 (w5.alloc nilQ) := (Below.refl _ _).alloc (Nat.le_refl _) _
  have hb5b := hb5.trans (hal5.mono hb5.size)
  have HB5 := Lib.hid (HB4.out.trans (hb5b.mono HB4.out.size))
  have hX5 := HX4.out.next hb5b
  have hZ5 := HZ4.out.next hb5b
  have hcv := (HY4.out.below hb5b).conv
  obtain ⟨x0, x1, x2, x3⟩ := hX5
  obtain ⟨z0, z1, z2⟩ := hZ5
  clear hb5 hb5b hal5 c5 HX4 HY4 HZ4
  generalize strB awQ.b = SB at *
  go_wp2_with fail
  refine (c6 _).mono ?_
  rintro e w6 ⟨rfl, hb6⟩
  have HB6 := Lib.hid (HB5.out.trans (hb6.mono HB5.out.size))
  clear hb6 c6
  go_wp2_with fail
  go_ret
  exact ⟨rfl, HB6.out⟩

end Go.Proofs.YthbfcamfapgodaaGreatDoor
