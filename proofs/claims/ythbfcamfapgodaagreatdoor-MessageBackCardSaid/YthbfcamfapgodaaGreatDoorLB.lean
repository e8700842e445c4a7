/- The walk of the law MessageBack. -/
import Derived.Test.YthbfcamfapgodaaGreatDoorLA
import Derived.Test.YthbfcamfapgodaaGreatDoorIF

namespace Go.Proofs.YthbfcamfapgodaaGreatDoor
open Go.RowKit Go.Shelf Go.Lib

/-- Three cells of texts. -/
structure BoxL (W : World) (c : Nat) (a b d : ByteArray) : Prop where
  r0 : W.cell? ⟨c, 0, none⟩ = some (.string a)
  r1 : W.cell? ⟨c, 1, none⟩ = some (.string b)
  r2 : W.cell? ⟨c, 2, none⟩ = some (.string d)
theorem BoxL.made (w : World) (a b d : ByteArray) : BoxL (w.alloc (.cells #[.string a, .string b, .string d] 43)) w.heap.size a b d := ⟨by simp, by simp, by simp⟩
theorem BoxL.lt {W : World} {c : Nat} {a b d : ByteArray} (h : BoxL W c a b d) : c < W.heap.size := lt_of_cell h.r0
theorem BoxL.next {W W1 : World} {c : Nat} {a b d : ByteArray} (h : BoxL W c a b d) (hb : Below W.heap.size W W1) : BoxL W1 c a b d :=
  ⟨(hb.cell (p := ⟨c, 0, none⟩) h.lt).trans h.r0, (hb.cell (p := ⟨c, 1, none⟩) h.lt).trans h.r1, (hb.cell (p := ⟨c, 2, none⟩) h.lt).trans h.r2⟩
/-- The three arguments in their blocks. -/
structure Box3 (w W : World) (q : Rq) (p : Rp) (v vb v2 vb2 : Value) (a b d : ByteArray) : Prop where
  bq : BoxQ W w.heap.size (strB q.m) (strB q.t) v vb
  bp : BoxP W (w.heap.size + 1) p.n v2 vb2
  bl : BoxL W (w.heap.size + 2) a b d
  fq : Flds 0 W v q.fs
  yq : BytF 0 W vb q.b
  fp : Flds 0 W v2 p.fs
  yp : BytF 0 W vb2 p.b
  bw : Below w.heap.size w W
theorem Box3.next {w W W1 : World} {q : Rq} {p : Rp} {v vb v2 vb2 : Value} {a b d : ByteArray} (h : Box3 w W q p v vb v2 vb2 a b d) (hb : Below W.heap.size W W1) : Box3 w W1 q p v vb v2 vb2 a b d :=
  ⟨h.bq.next hb, h.bp.next hb, h.bl.next hb, h.fq.below hb, h.yq.below hb, h.fp.below hb, h.yp.below hb, h.bw.trans (hb.mono h.bw.size)⟩
theorem Box3.made (w : World) (q : Rq) (p : Rp) (v vb v2 vb2 : Value) (a b d : ByteArray) (h1 : Flds 0 w v q.fs) (h2 : BytF 0 w vb q.b) (h3 : Flds 0 w v2 p.fs) (h4 : BytF 0 w vb2 p.b) :
    Box3 w (((w.alloc (.cells #[.string (strB q.m), .string (strB q.t), v, vb] 26)).alloc (.cells #[.int .i64 p.n, v2, vb2] 31)).alloc (.cells #[.string a, .string b, .string d] 43)) q p v vb v2 vb2 a b d := by
  obtain ⟨W1, hW1⟩ : ∃ W1, w.alloc (.cells #[.string (strB q.m), .string (strB q.t), v, vb] 26) = W1 := ⟨_, rfl⟩
  obtain ⟨W2, hW2⟩ : ∃ W2, W1.alloc (.cells #[.int .i64 p.n, v2, vb2] 31) = W2 := ⟨_, rfl⟩
  obtain ⟨W3, hW3⟩ : ∃ W3, W2.alloc (.cells #[.string a, .string b, .string d] 43) = W3 := ⟨_, rfl⟩
  rewrite [hW1, hW2, hW3]
  have z1 : W1.heap.size = w.heap.size + 1 := by rewrite [← hW1]; simp
  have z2 : W2.heap.size = w.heap.size + 2 := by rewrite [← hW2]; simp [z1]
  have b1 : Below w.heap.size w W1 := by rewrite [← hW1]; exact (Below.refl _ w).alloc (Nat.le_refl _) _
  have b2 : Below W1.heap.size W1 W2 := by rewrite [← hW2]; exact (Below.refl _ W1).alloc (Nat.le_refl _) _
  have b3 : Below W2.heap.size W2 W3 := by rewrite [← hW3]; exact (Below.refl _ W2).alloc (Nat.le_refl _) _
  have m1 : BoxQ W1 w.heap.size (strB q.m) (strB q.t) v vb := by rewrite [← hW1]; exact BoxQ.made w _ _ _ _
  have m2 : BoxP W2 (w.heap.size + 1) p.n v2 vb2 := by rewrite [← z1, ← hW2]; exact BoxP.made W1 _ _ _
  have m3 : BoxL W3 (w.heap.size + 2) a b d := by rewrite [← z2, ← hW3]; exact BoxL.made W2 _ _ _
  have b23 := b2.trans (b3.mono b2.size)
  have b13 := b1.trans (b23.mono b1.size)
  exact ⟨m1.next b23, m2.next b3, m3, h1.below b13, h2.below b13, h3.below b13, h4.below b13, b13⟩
theorem take_str (t : List UInt8) (n : Nat) : ((strB t).extract 0 n).data.toList = t.take n := by rw [extract_take, strB_data]

set_option maxRecDepth 100000 in
set_option maxHeartbeats 8000000 in
theorem mback_big1 (q : Rq) (p : Rp) (v vb v2 vb2 : Value) (me more d : ByteArray) (w : World) (h1 : Flds 0 w v q.fs) (h2 : BytF 0 w vb q.b) (h3 : Flds 0 w v2 p.fs) (h4 : BytF 0 w vb2 p.b) (k1 : FldsIn q.fs) (k2 : FldsIn p.fs) (_ : q.m.length ≤ 140737488355328) (_ : q.t.length ≤ 140737488355328) (_ : q.b.length ≤ 140737488355328) (_ : p.b.length ≤ 140737488355328) (_ : me.size ≤ 140737488355328) (_ : more.size ≤ 140737488355328) (hT : Tabs w) (hE : Errs w) (hP : Pow w) (hz : 10000 < szH 0 q.fs) :
    Calls Tryz.prog 5 #[.agg #[.string (strB q.m), .string (strB q.t), v, vb], .agg #[.int .i64 p.n, v2, vb2], .agg #[.string me, .string more, .string d]] w fun e w' => e = .returned (.bool true) ∧ Below w.heap.size w w' := by
  have HX0 := Lib.hid (Box3.made w q p v vb v2 vb2 me more d h1 h2 h3 h4)
  have HT := Lib.hid hT
  have HE := Lib.hid hE
  have HP := Lib.hid hP
  have cS1 := fun W h => rsize_any 0 v q.fs W h k1
  have cS2 := fun W h => rsize_any 0 v2 p.fs W h k2
  obtain ⟨ao, cap, rfl, _⟩ := h1
  obtain ⟨bo, bcap, rfl, _⟩ := h2
  obtain ⟨ao2, cap2, rfl, _⟩ := h3
  obtain ⟨bo2, bcap2, rfl, _⟩ := h4
  have q1 := strB_size q.m
  have q2 := strB_size q.t
  have d1 : (10000 : Int) < ((szH 0 q.fs : Nat) : Int) := by omega
  clear hT hE hP k1 k2
  clear hz
  generalize szH 0 q.fs = Z at *
  go_enter Tryz.func5, Tryz.ntmps5
  go_wp2_with fail
  refine (awake8_any _ (Utf8Tabs_below HT.out HX0.out.bw) (HE.out.below HX0.out.bw) (HP.out.below HX0.out.bw)).mono ?_
  rintro e w1 ⟨rfl, hb1⟩
  have HX1 := Lib.hid (HX0.out.next hb1)
  clear hb1
  obtain ⟨x0, x1, x2, x3⟩ := HX1.out.bq
  obtain ⟨u0, u1, u2⟩ := HX1.out.bp
  obtain ⟨t0, t1, t2⟩ := HX1.out.bl
  go_wp2_with fail
  refine (cS1 _ HX1.out.fq).mono ?_
  rintro e w2 ⟨rfl, hb2⟩
  have HX2 := Lib.hid (HX1.out.next hb2)
  clear hb2
  clear x0 x1 x2 x3 u0 u1 u2 t0 t1 t2
  obtain ⟨x0, x1, x2, x3⟩ := HX2.out.bq
  obtain ⟨u0, u1, u2⟩ := HX2.out.bp
  obtain ⟨t0, t1, t2⟩ := HX2.out.bl
  go_wp2_with fail
  go_ret
  exact ⟨rfl, HX2.out.bw⟩

set_option maxRecDepth 100000 in
set_option maxHeartbeats 8000000 in
theorem mback_big2 (q : Rq) (p : Rp) (v vb v2 vb2 : Value) (me more d : ByteArray) (w : World) (h1 : Flds 0 w v q.fs) (h2 : BytF 0 w vb q.b) (h3 : Flds 0 w v2 p.fs) (h4 : BytF 0 w vb2 p.b) (k1 : FldsIn q.fs) (k2 : FldsIn p.fs) (_ : q.m.length ≤ 140737488355328) (_ : q.t.length ≤ 140737488355328) (_ : q.b.length ≤ 140737488355328) (_ : p.b.length ≤ 140737488355328) (_ : me.size ≤ 140737488355328) (_ : more.size ≤ 140737488355328) (hT : Tabs w) (hE : Errs w) (hP : Pow w) (hy : ¬ 10000 < szH 0 q.fs) (hz : 10000 < szH 0 p.fs) :
    Calls Tryz.prog 5 #[.agg #[.string (strB q.m), .string (strB q.t), v, vb], .agg #[.int .i64 p.n, v2, vb2], .agg #[.string me, .string more, .string d]] w fun e w' => e = .returned (.bool true) ∧ Below w.heap.size w w' := by
  have HX0 := Lib.hid (Box3.made w q p v vb v2 vb2 me more d h1 h2 h3 h4)
  have HT := Lib.hid hT
  have HE := Lib.hid hE
  have HP := Lib.hid hP
  have cS1 := fun W h => rsize_any 0 v q.fs W h k1
  have cS2 := fun W h => rsize_any 0 v2 p.fs W h k2
  obtain ⟨ao, cap, rfl, _⟩ := h1
  obtain ⟨bo, bcap, rfl, _⟩ := h2
  obtain ⟨ao2, cap2, rfl, _⟩ := h3
  obtain ⟨bo2, bcap2, rfl, _⟩ := h4
  have q1 := strB_size q.m
  have q2 := strB_size q.t
  have d1 : ¬ (10000 : Int) < ((szH 0 q.fs : Nat) : Int) := by omega
  have d2 : (10000 : Int) < ((szH 0 p.fs : Nat) : Int) := by omega
  clear hT hE hP k1 k2
  clear hy hz
  generalize szH 0 q.fs = Z at *
  generalize szH 0 p.fs = Z2 at *
  go_enter Tryz.func5, Tryz.ntmps5
  go_wp2_with fail
  refine (awake8_any _ (Utf8Tabs_below HT.out HX0.out.bw) (HE.out.below HX0.out.bw) (HP.out.below HX0.out.bw)).mono ?_
  rintro e w1 ⟨rfl, hb1⟩
  have HX1 := Lib.hid (HX0.out.next hb1)
  clear hb1
  obtain ⟨x0, x1, x2, x3⟩ := HX1.out.bq
  obtain ⟨u0, u1, u2⟩ := HX1.out.bp
  obtain ⟨t0, t1, t2⟩ := HX1.out.bl
  go_wp2_with fail
  refine (cS1 _ HX1.out.fq).mono ?_
  rintro e w2 ⟨rfl, hb2⟩
  have HX2 := Lib.hid (HX1.out.next hb2)
  clear hb2
  clear x0 x1 x2 x3 u0 u1 u2 t0 t1 t2
  obtain ⟨x0, x1, x2, x3⟩ := HX2.out.bq
  obtain ⟨u0, u1, u2⟩ := HX2.out.bp
  obtain ⟨t0, t1, t2⟩ := HX2.out.bl
  go_wp2_with fail
  refine (cS2 _ HX2.out.fp).mono ?_
  rintro e w3 ⟨rfl, hb3⟩
  have HX3 := Lib.hid (HX2.out.next hb3)
  clear hb3
  clear x0 x1 x2 x3 u0 u1 u2 t0 t1 t2
  obtain ⟨x0, x1, x2, x3⟩ := HX3.out.bq
  obtain ⟨u0, u1, u2⟩ := HX3.out.bp
  obtain ⟨t0, t1, t2⟩ := HX3.out.bl
  go_wp2_with fail
  go_ret
  exact ⟨rfl, HX3.out.bw⟩

set_option maxRecDepth 100000 in
set_option maxHeartbeats 8000000 in
theorem mback_big3 (q : Rq) (p : Rp) (v vb v2 vb2 : Value) (me more d : ByteArray) (w : World) (h1 : Flds 0 w v q.fs) (h2 : BytF 0 w vb q.b) (h3 : Flds 0 w v2 p.fs) (h4 : BytF 0 w vb2 p.b) (k1 : FldsIn q.fs) (k2 : FldsIn p.fs) (z1 : q.m.length ≤ 140737488355328) (z2 : q.t.length ≤ 140737488355328) (z3 : q.b.length ≤ 140737488355328) (z4 : p.b.length ≤ 140737488355328) (z5 : me.size ≤ 140737488355328) (z6 : more.size ≤ 140737488355328) (hT : Tabs w) (hE : Errs w) (hP : Pow w) (hy : ¬ 10000 < szH 0 q.fs) (hz : ¬ 10000 < szH 0 p.fs) (hs : 1900 < q.m.length + q.t.length + q.b.length + p.b.length + me.size + more.size) :
    Calls Tryz.prog 5 #[.agg #[.string (strB q.m), .string (strB q.t), v, vb], .agg #[.int .i64 p.n, v2, vb2], .agg #[.string me, .string more, .string d]] w fun e w' => e = .returned (.bool true) ∧ Below w.heap.size w w' := by
  have HX0 := Lib.hid (Box3.made w q p v vb v2 vb2 me more d h1 h2 h3 h4)
  have HT := Lib.hid hT
  have HE := Lib.hid hE
  have HP := Lib.hid hP
  have cS1 := fun W h => rsize_any 0 v q.fs W h k1
  have cS2 := fun W h => rsize_any 0 v2 p.fs W h k2
  obtain ⟨ao, cap, rfl, _⟩ := h1
  obtain ⟨bo, bcap, rfl, _⟩ := h2
  obtain ⟨ao2, cap2, rfl, _⟩ := h3
  obtain ⟨bo2, bcap2, rfl, _⟩ := h4
  have q1 := strB_size q.m
  have q2 := strB_size q.t
  have d1 : ¬ (10000 : Int) < ((szH 0 q.fs : Nat) : Int) := by omega
  have d2 : ¬ (10000 : Int) < ((szH 0 p.fs : Nat) : Int) := by omega
  have d3 : (1900 : Int) < ((strB q.m).size : Int) + ((strB q.t).size : Int) + (q.b.length : Int) + (p.b.length : Int) + (me.size : Int) + (more.size : Int) := by rewrite [q1, q2]; omega
  have y1 : (strB q.m).size ≤ 140737488355328 := by omega
  have y2 : (strB q.t).size ≤ 140737488355328 := by omega
  clear hT hE hP k1 k2
  clear hy hz hs q1 q2
  generalize szH 0 q.fs = Z at *
  generalize szH 0 p.fs = Z2 at *
  go_enter Tryz.func5, Tryz.ntmps5
  go_wp2_with fail
  refine (awake8_any _ (Utf8Tabs_below HT.out HX0.out.bw) (HE.out.below HX0.out.bw) (HP.out.below HX0.out.bw)).mono ?_
  rintro e w1 ⟨rfl, hb1⟩
  have HX1 := Lib.hid (HX0.out.next hb1)
  clear hb1
  obtain ⟨x0, x1, x2, x3⟩ := HX1.out.bq
  obtain ⟨u0, u1, u2⟩ := HX1.out.bp
  obtain ⟨t0, t1, t2⟩ := HX1.out.bl
  go_wp2_with fail
  refine (cS1 _ HX1.out.fq).mono ?_
  rintro e w2 ⟨rfl, hb2⟩
  have HX2 := Lib.hid (HX1.out.next hb2)
  clear hb2
  clear x0 x1 x2 x3 u0 u1 u2 t0 t1 t2
  obtain ⟨x0, x1, x2, x3⟩ := HX2.out.bq
  obtain ⟨u0, u1, u2⟩ := HX2.out.bp
  obtain ⟨t0, t1, t2⟩ := HX2.out.bl
  go_wp2_with fail
  refine (cS2 _ HX2.out.fp).mono ?_
  rintro e w3 ⟨rfl, hb3⟩
  have HX3 := Lib.hid (HX2.out.next hb3)
  clear hb3
  clear x0 x1 x2 x3 u0 u1 u2 t0 t1 t2
  obtain ⟨x0, x1, x2, x3⟩ := HX3.out.bq
  obtain ⟨u0, u1, u2⟩ := HX3.out.bp
  obtain ⟨t0, t1, t2⟩ := HX3.out.bl
  go_wp2_with fail
  go_ret
  exact ⟨rfl, HX3.out.bw⟩

set_option maxRecDepth 100000 in
set_option maxHeartbeats 8000000 in
theorem mback_nn (q : Rq) (p : Rp) (v vb v2 vb2 : Value) (me more d : ByteArray) (w : World) (h1 : Flds 0 w v q.fs) (h2 : BytF 0 w vb q.b) (h3 : Flds 0 w v2 p.fs) (h4 : BytF 0 w vb2 p.b) (k1 : FldsIn q.fs) (k2 : FldsIn p.fs) (z1 : q.m.length ≤ 140737488355328) (z2 : q.t.length ≤ 140737488355328) (z3 : q.b.length ≤ 140737488355328) (z4 : p.b.length ≤ 140737488355328) (z5 : me.size ≤ 140737488355328) (z6 : more.size ≤ 140737488355328) (hT : Tabs w) (hE : Errs w) (hP : Pow w) (hy : ¬ 10000 < szH 0 q.fs) (hz : ¬ 10000 < szH 0 p.fs) (hs : ¬ 1900 < q.m.length + q.t.length + q.b.length + p.b.length + me.size + more.size) (hq : prQ q = none) (hp : prP p me = none) :
    Calls Tryz.prog 5 #[.agg #[.string (strB q.m), .string (strB q.t), v, vb], .agg #[.int .i64 p.n, v2, vb2], .agg #[.string me, .string more, .string d]] w fun e w' => e = .returned (.bool true) ∧ Below w.heap.size w w' := by
  have HX0 := Lib.hid (Box3.made w q p v vb v2 vb2 me more d h1 h2 h3 h4)
  have HT := Lib.hid hT
  have HE := Lib.hid hE
  have HP := Lib.hid hP
  have cS1 := fun W h => rsize_any 0 v q.fs W h k1
  have cS2 := fun W h => rsize_any 0 v2 p.fs W h k2
  obtain ⟨ao, cap, rfl, _⟩ := h1
  obtain ⟨bo, bcap, rfl, _⟩ := h2
  obtain ⟨ao2, cap2, rfl, _⟩ := h3
  obtain ⟨bo2, bcap2, rfl, _⟩ := h4
  have q1 := strB_size q.m
  have q2 := strB_size q.t
  have d1 : ¬ (10000 : Int) < ((szH 0 q.fs : Nat) : Int) := by omega
  have d2 : ¬ (10000 : Int) < ((szH 0 p.fs : Nat) : Int) := by omega
  have d3 : ¬ (1900 : Int) < ((strB q.m).size : Int) + ((strB q.t).size : Int) + (q.b.length : Int) + (p.b.length : Int) + (me.size : Int) + (more.size : Int) := by rewrite [q1, q2]; omega
  have y1 : (strB q.m).size ≤ 140737488355328 := by omega
  have y2 : (strB q.t).size ≤ 140737488355328 := by omega
  obtain ⟨g1, g2⟩ := szH_ok q.fs (by omega)
  obtain ⟨g3, g4⟩ := szH_ok p.fs (by omega)
  have c1 := fun W h hb h1 h2 => mprq_any 0 0 q (.slice ao q.fs.length cap) (.slice bo q.b.length bcap) W h g1 (by have := prF_ge q.fs; omega) hb (by omega) (by omega) (by omega) h1 h2
  have c2 := fun W h hb h1 h2 => mprp_any 0 0 p me (.slice ao2 p.fs.length cap2) (.slice bo2 p.b.length bcap2) W h g3 hb (by omega) h1 h2
  rw [hq] at c1
  rw [hp] at c2
  rw [show textH none = .tuple #[.string ⟨#[]⟩, .int .i64 2] from rfl] at c1
  rw [show textH none = .tuple #[.string ⟨#[]⟩, .int .i64 2] from rfl] at c2
  clear hT hE hP k1 k2
  clear hy hz hs q1 q2 g1 g2 g3 g4 hq hp
  generalize szH 0 q.fs = Z at *
  generalize szH 0 p.fs = Z2 at *
  go_enter Tryz.func5, Tryz.ntmps5
  go_wp2_with fail
  refine (awake8_any _ (Utf8Tabs_below HT.out HX0.out.bw) (HE.out.below HX0.out.bw) (HP.out.below HX0.out.bw)).mono ?_
  rintro e w1 ⟨rfl, hb1⟩
  have HX1 := Lib.hid (HX0.out.next hb1)
  clear hb1
  obtain ⟨x0, x1, x2, x3⟩ := HX1.out.bq
  obtain ⟨u0, u1, u2⟩ := HX1.out.bp
  obtain ⟨t0, t1, t2⟩ := HX1.out.bl
  go_wp2_with fail
  refine (cS1 _ HX1.out.fq).mono ?_
  rintro e w2 ⟨rfl, hb2⟩
  have HX2 := Lib.hid (HX1.out.next hb2)
  clear hb2
  clear x0 x1 x2 x3 u0 u1 u2 t0 t1 t2
  obtain ⟨x0, x1, x2, x3⟩ := HX2.out.bq
  obtain ⟨u0, u1, u2⟩ := HX2.out.bp
  obtain ⟨t0, t1, t2⟩ := HX2.out.bl
  go_wp2_with fail
  refine (cS2 _ HX2.out.fp).mono ?_
  rintro e w3 ⟨rfl, hb3⟩
  have HX3 := Lib.hid (HX2.out.next hb3)
  clear hb3
  clear x0 x1 x2 x3 u0 u1 u2 t0 t1 t2
  obtain ⟨x0, x1, x2, x3⟩ := HX3.out.bq
  obtain ⟨u0, u1, u2⟩ := HX3.out.bp
  obtain ⟨t0, t1, t2⟩ := HX3.out.bl
  go_wp2_with fail
  refine (c1 _ HX3.out.fq HX3.out.yq (Utf8Tabs_below HT.out HX3.out.bw) (HP.out.below HX3.out.bw)).mono ?_
  rintro e w4 ⟨rfl, hb4⟩
  have HX4 := Lib.hid (HX3.out.next hb4)
  clear hb4
  clear c1
  clear x0 x1 x2 x3 u0 u1 u2 t0 t1 t2
  obtain ⟨x0, x1, x2, x3⟩ := HX4.out.bq
  obtain ⟨u0, u1, u2⟩ := HX4.out.bp
  obtain ⟨t0, t1, t2⟩ := HX4.out.bl
  go_wp2_with fail
  refine (c2 _ HX4.out.fp HX4.out.yp (Utf8Tabs_below HT.out HX4.out.bw) (HP.out.below HX4.out.bw)).mono ?_
  rintro e w5 ⟨rfl, hb5⟩
  have HX5 := Lib.hid (HX4.out.next hb5)
  clear hb5
  clear c2
  clear x0 x1 x2 x3 u0 u1 u2 t0 t1 t2
  go_wp2_with fail
  go_ret
  exact ⟨rfl, HX5.out.bw⟩

set_option maxRecDepth 100000 in
set_option maxHeartbeats 8000000 in
theorem mback_ns (q : Rq) (p : Rp) (v vb v2 vb2 : Value) (me more d : ByteArray) (w : World) (h1 : Flds 0 w v q.fs) (h2 : BytF 0 w vb q.b) (h3 : Flds 0 w v2 p.fs) (h4 : BytF 0 w vb2 p.b) (k1 : FldsIn q.fs) (k2 : FldsIn p.fs) (z1 : q.m.length ≤ 140737488355328) (z2 : q.t.length ≤ 140737488355328) (z3 : q.b.length ≤ 140737488355328) (z4 : p.b.length ≤ 140737488355328) (z5 : me.size ≤ 140737488355328) (z6 : more.size ≤ 140737488355328) (hT : Tabs w) (hE : Errs w) (hP : Pow w) (hy : ¬ 10000 < szH 0 q.fs) (hz : ¬ 10000 < szH 0 p.fs) (hs : ¬ 1900 < q.m.length + q.t.length + q.b.length + p.b.length + me.size + more.size) (hq : prQ q = none) (u : List UInt8) (hp : prP p me = some u) :
    Calls Tryz.prog 5 #[.agg #[.string (strB q.m), .string (strB q.t), v, vb], .agg #[.int .i64 p.n, v2, vb2], .agg #[.string me, .string more, .string d]] w fun e w' => e = .returned (.bool true) ∧ Below w.heap.size w w' := by
  have HX0 := Lib.hid (Box3.made w q p v vb v2 vb2 me more d h1 h2 h3 h4)
  have HT := Lib.hid hT
  have HE := Lib.hid hE
  have HP := Lib.hid hP
  have cS1 := fun W h => rsize_any 0 v q.fs W h k1
  have cS2 := fun W h => rsize_any 0 v2 p.fs W h k2
  obtain ⟨ao, cap, rfl, _⟩ := h1
  obtain ⟨bo, bcap, rfl, _⟩ := h2
  obtain ⟨ao2, cap2, rfl, _⟩ := h3
  obtain ⟨bo2, bcap2, rfl, _⟩ := h4
  have q1 := strB_size q.m
  have q2 := strB_size q.t
  have d1 : ¬ (10000 : Int) < ((szH 0 q.fs : Nat) : Int) := by omega
  have d2 : ¬ (10000 : Int) < ((szH 0 p.fs : Nat) : Int) := by omega
  have d3 : ¬ (1900 : Int) < ((strB q.m).size : Int) + ((strB q.t).size : Int) + (q.b.length : Int) + (p.b.length : Int) + (me.size : Int) + (more.size : Int) := by rewrite [q1, q2]; omega
  have y1 : (strB q.m).size ≤ 140737488355328 := by omega
  have y2 : (strB q.t).size ≤ 140737488355328 := by omega
  obtain ⟨g1, g2⟩ := szH_ok q.fs (by omega)
  obtain ⟨g3, g4⟩ := szH_ok p.fs (by omega)
  have c1 := fun W h hb h1 h2 => mprq_any 0 0 q (.slice ao q.fs.length cap) (.slice bo q.b.length bcap) W h g1 (by have := prF_ge q.fs; omega) hb (by omega) (by omega) (by omega) h1 h2
  have c2 := fun W h hb h1 h2 => mprp_any 0 0 p me (.slice ao2 p.fs.length cap2) (.slice bo2 p.b.length bcap2) W h g3 hb (by omega) h1 h2
  rw [hq] at c1
  rw [hp] at c2
  rw [show textH none = .tuple #[.string ⟨#[]⟩, .int .i64 2] from rfl] at c1
  rw [show textH (some u) = .tuple #[.string (strB u), .int .i64 0] from rfl] at c2
  have hul := prP_len hp
  have c6 := fun W h1 h2 => mreadp_any (strB u) me W (by rewrite [strB_size]; omega) h1 h2
  rw [strB_data, backP hp] at c6
  have c7 := fun f2 b2 W h1 h2 h3 h4 => rsamep_any 0 0 0 0 p p (.slice ao2 p.fs.length cap2) f2 (.slice bo2 p.b.length bcap2) b2 W h1 h2 h3 h4 k2.1 k2.1
  rw [sameP_self] at c7
  clear hT hE hP k1 k2
  clear hy hz hs q1 q2 g1 g2 g3 g4 hq hp
  clear hul
  generalize szH 0 q.fs = Z at *
  generalize szH 0 p.fs = Z2 at *
  generalize strB u = SU at *
  go_enter Tryz.func5, Tryz.ntmps5
  go_wp2_with fail
  refine (awake8_any _ (Utf8Tabs_below HT.out HX0.out.bw) (HE.out.below HX0.out.bw) (HP.out.below HX0.out.bw)).mono ?_
  rintro e w1 ⟨rfl, hb1⟩
  have HX1 := Lib.hid (HX0.out.next hb1)
  clear hb1
  obtain ⟨x0, x1, x2, x3⟩ := HX1.out.bq
  obtain ⟨u0, u1, u2⟩ := HX1.out.bp
  obtain ⟨t0, t1, t2⟩ := HX1.out.bl
  go_wp2_with fail
  refine (cS1 _ HX1.out.fq).mono ?_
  rintro e w2 ⟨rfl, hb2⟩
  have HX2 := Lib.hid (HX1.out.next hb2)
  clear hb2
  clear x0 x1 x2 x3 u0 u1 u2 t0 t1 t2
  obtain ⟨x0, x1, x2, x3⟩ := HX2.out.bq
  obtain ⟨u0, u1, u2⟩ := HX2.out.bp
  obtain ⟨t0, t1, t2⟩ := HX2.out.bl
  go_wp2_with fail
  refine (cS2 _ HX2.out.fp).mono ?_
  rintro e w3 ⟨rfl, hb3⟩
  have HX3 := Lib.hid (HX2.out.next hb3)
  clear hb3
  clear x0 x1 x2 x3 u0 u1 u2 t0 t1 t2
  obtain ⟨x0, x1, x2, x3⟩ := HX3.out.bq
  obtain ⟨u0, u1, u2⟩ := HX3.out.bp
  obtain ⟨t0, t1, t2⟩ := HX3.out.bl
  go_wp2_with fail
  refine (c1 _ HX3.out.fq HX3.out.yq (Utf8Tabs_below HT.out HX3.out.bw) (HP.out.below HX3.out.bw)).mono ?_
  rintro e w4 ⟨rfl, hb4⟩
  have HX4 := Lib.hid (HX3.out.next hb4)
  clear hb4
  clear c1
  clear x0 x1 x2 x3 u0 u1 u2 t0 t1 t2
  obtain ⟨x0, x1, x2, x3⟩ := HX4.out.bq
  obtain ⟨u0, u1, u2⟩ := HX4.out.bp
  obtain ⟨t0, t1, t2⟩ := HX4.out.bl
  go_wp2_with fail
  refine (c2 _ HX4.out.fp HX4.out.yp (Utf8Tabs_below HT.out HX4.out.bw) (HP.out.below HX4.out.bw)).mono ?_
  rintro e w5 ⟨rfl, hb5⟩
  have HX5 := Lib.hid (HX4.out.next hb5)
  clear hb5
  clear c2
  clear x0 x1 x2 x3 u0 u1 u2 t0 t1 t2
  obtain ⟨x0, x1, x2, x3⟩ := HX5.out.bq
  obtain ⟨u0, u1, u2⟩ := HX5.out.bp
  obtain ⟨t0, t1, t2⟩ := HX5.out.bl
  go_wp2_with fail
  refine (c6 _ (Utf8Tabs_below HT.out HX5.out.bw) (HE.out.below HX5.out.bw)).mono ?_
  rintro e w6 ⟨hb6, f6, b6, rfl, hf6, hy6⟩
  have ha6 := (Below.refl w6.heap.size w6).alloc (Nat.le_refl _) (.cells #[.int .i64 p.n, f6, b6] 31)
  have hc6 := hb6.trans (ha6.mono hb6.size)
  have HX6 := Lib.hid (HX5.out.next hc6)
  have HK6 := Lib.hid (BoxP.made w6 p.n f6 b6)
  have HF6 := Lib.hid ((hf6.low (Nat.zero_le _)).below ha6)
  have HY6 := Lib.hid ((hy6.low (Nat.zero_le _)).below ha6)
  obtain ⟨fo6, fc6, rfl, _⟩ := hf6
  obtain ⟨bo6, bc6, rfl, _⟩ := hy6
  clear hb6 ha6 hc6 c6
  clear x0 x1 x2 x3 u0 u1 u2 t0 t1 t2
  obtain ⟨x0, x1, x2, x3⟩ := HX6.out.bq
  obtain ⟨u0, u1, u2⟩ := HX6.out.bp
  obtain ⟨t0, t1, t2⟩ := HX6.out.bl
  obtain ⟨m0, m1, m2⟩ := HK6.out
  go_wp2_with fail
  refine (c7 _ _ _ HX6.out.fp HF6.out HX6.out.yp HY6.out).mono ?_
  rintro e w7 ⟨rfl, hb7⟩
  have HX7 := Lib.hid (HX6.out.next hb7)
  clear hb7
  clear c7 m0 m1 m2
  clear x0 x1 x2 x3 u0 u1 u2 t0 t1 t2
  go_wp2_with fail
  go_ret
  exact ⟨rfl, HX7.out.bw⟩

set_option maxRecDepth 100000 in
set_option maxHeartbeats 8000000 in
theorem mback_cn (q : Rq) (p : Rp) (v vb v2 vb2 : Value) (me more d : ByteArray) (w : World) (h1 : Flds 0 w v q.fs) (h2 : BytF 0 w vb q.b) (h3 : Flds 0 w v2 p.fs) (h4 : BytF 0 w vb2 p.b) (k1 : FldsIn q.fs) (k2 : FldsIn p.fs) (z1 : q.m.length ≤ 140737488355328) (z2 : q.t.length ≤ 140737488355328) (z3 : q.b.length ≤ 140737488355328) (z4 : p.b.length ≤ 140737488355328) (z5 : me.size ≤ 140737488355328) (z6 : more.size ≤ 140737488355328) (hT : Tabs w) (hE : Errs w) (hP : Pow w) (hy : ¬ 10000 < szH 0 q.fs) (hz : ¬ 10000 < szH 0 p.fs) (hs : ¬ 1900 < q.m.length + q.t.length + q.b.length + p.b.length + me.size + more.size) (t : List UInt8) (hq : prQ q = some t) (hc : d.size < t.length) (hp : prP p me = none) :
    Calls Tryz.prog 5 #[.agg #[.string (strB q.m), .string (strB q.t), v, vb], .agg #[.int .i64 p.n, v2, vb2], .agg #[.string me, .string more, .string d]] w fun e w' => e = .returned (.bool true) ∧ Below w.heap.size w w' := by
  have HX0 := Lib.hid (Box3.made w q p v vb v2 vb2 me more d h1 h2 h3 h4)
  have HT := Lib.hid hT
  have HE := Lib.hid hE
  have HP := Lib.hid hP
  have cS1 := fun W h => rsize_any 0 v q.fs W h k1
  have cS2 := fun W h => rsize_any 0 v2 p.fs W h k2
  obtain ⟨ao, cap, rfl, _⟩ := h1
  obtain ⟨bo, bcap, rfl, _⟩ := h2
  obtain ⟨ao2, cap2, rfl, _⟩ := h3
  obtain ⟨bo2, bcap2, rfl, _⟩ := h4
  have q1 := strB_size q.m
  have q2 := strB_size q.t
  have d1 : ¬ (10000 : Int) < ((szH 0 q.fs : Nat) : Int) := by omega
  have d2 : ¬ (10000 : Int) < ((szH 0 p.fs : Nat) : Int) := by omega
  have d3 : ¬ (1900 : Int) < ((strB q.m).size : Int) + ((strB q.t).size : Int) + (q.b.length : Int) + (p.b.length : Int) + (me.size : Int) + (more.size : Int) := by rewrite [q1, q2]; omega
  have y1 : (strB q.m).size ≤ 140737488355328 := by omega
  have y2 : (strB q.t).size ≤ 140737488355328 := by omega
  obtain ⟨g1, g2⟩ := szH_ok q.fs (by omega)
  obtain ⟨g3, g4⟩ := szH_ok p.fs (by omega)
  have c1 := fun W h hb h1 h2 => mprq_any 0 0 q (.slice ao q.fs.length cap) (.slice bo q.b.length bcap) W h g1 (by have := prF_ge q.fs; omega) hb (by omega) (by omega) (by omega) h1 h2
  have c2 := fun W h hb h1 h2 => mprp_any 0 0 p me (.slice ao2 p.fs.length cap2) (.slice bo2 p.b.length bcap2) W h g3 hb (by omega) h1 h2
  rw [hq] at c1
  rw [hp] at c2
  rw [show textH (some t) = .tuple #[.string (strB t), .int .i64 0] from rfl] at c1
  have htl := prQ_len hq
  have hts := strB_size t
  have hdt : (strB t ++ more).data.toList = t ++ more.data.toList := by simp [strB_data]
  have hzt : (strB t ++ more).size = t.length + more.size := by rw [Lib.size_eq, hdt, List.length_append, ← Lib.size_eq]
  have c3 := fun W h1 h2 => mreadq_any (strB t ++ more) W (by omega) h1 h2
  rw [hdt, backQ hq] at c3
  have c4 := fun f2 b2 W h1 h2 h3 h4 => rsameq_any 0 0 0 0 q q (.slice ao q.fs.length cap) f2 (.slice bo q.b.length bcap) b2 W h1 h2 h3 h4 k1.1 k1.1
  rw [sameQ_self] at c4
  have n0 : ¬ 9223372036854775807 < (strB t).size + more.size := by omega
  have n1 : ((t.length : Int) != ((strB t).size : Int)) = false := by rewrite [hts]; simp
  have n2 : (d.size : Int) < ((strB t).size : Int) := by rewrite [hts]; omega
  have n3 : (d.size : Int) ≤ ((strB t).size : Int) := by omega
  have n4 : (0 : Int) ≤ (d.size : Int) := by omega
  have c5 := fun W h1 h2 => mreadq_any ((strB t).extract 0 d.size) W (by rewrite [Lib.size_eq, take_str, List.length_take]; omega) h1 h2
  rw [take_str, offQ hq d.size hc] at c5
  rw [show textH none = .tuple #[.string ⟨#[]⟩, .int .i64 2] from rfl] at c2
  clear hT hE hP k1 k2
  clear hy hz hs q1 q2 g1 g2 g3 g4 hq hp
  clear htl hts hdt hzt hc
  generalize szH 0 q.fs = Z at *
  generalize szH 0 p.fs = Z2 at *
  generalize strB t = ST at *
  go_enter Tryz.func5, Tryz.ntmps5
  go_wp2_with fail
  refine (awake8_any _ (Utf8Tabs_below HT.out HX0.out.bw) (HE.out.below HX0.out.bw) (HP.out.below HX0.out.bw)).mono ?_
  rintro e w1 ⟨rfl, hb1⟩
  have HX1 := Lib.hid (HX0.out.next hb1)
  clear hb1
  obtain ⟨x0, x1, x2, x3⟩ := HX1.out.bq
  obtain ⟨u0, u1, u2⟩ := HX1.out.bp
  obtain ⟨t0, t1, t2⟩ := HX1.out.bl
  go_wp2_with fail
  refine (cS1 _ HX1.out.fq).mono ?_
  rintro e w2 ⟨rfl, hb2⟩
  have HX2 := Lib.hid (HX1.out.next hb2)
  clear hb2
  clear x0 x1 x2 x3 u0 u1 u2 t0 t1 t2
  obtain ⟨x0, x1, x2, x3⟩ := HX2.out.bq
  obtain ⟨u0, u1, u2⟩ := HX2.out.bp
  obtain ⟨t0, t1, t2⟩ := HX2.out.bl
  go_wp2_with fail
  refine (cS2 _ HX2.out.fp).mono ?_
  rintro e w3 ⟨rfl, hb3⟩
  have HX3 := Lib.hid (HX2.out.next hb3)
  clear hb3
  clear x0 x1 x2 x3 u0 u1 u2 t0 t1 t2
  obtain ⟨x0, x1, x2, x3⟩ := HX3.out.bq
  obtain ⟨u0, u1, u2⟩ := HX3.out.bp
  obtain ⟨t0, t1, t2⟩ := HX3.out.bl
  go_wp2_with fail
  refine (c1 _ HX3.out.fq HX3.out.yq (Utf8Tabs_below HT.out HX3.out.bw) (HP.out.below HX3.out.bw)).mono ?_
  rintro e w4 ⟨rfl, hb4⟩
  have HX4 := Lib.hid (HX3.out.next hb4)
  clear hb4
  clear c1
  clear x0 x1 x2 x3 u0 u1 u2 t0 t1 t2
  obtain ⟨x0, x1, x2, x3⟩ := HX4.out.bq
  obtain ⟨u0, u1, u2⟩ := HX4.out.bp
  obtain ⟨t0, t1, t2⟩ := HX4.out.bl
  go_wp2_with fail
  refine (c3 _ (Utf8Tabs_below HT.out HX4.out.bw) (HE.out.below HX4.out.bw)).mono ?_
  rintro e w5 ⟨hb5, f5, b5, rfl, hf5, hy5⟩
  have ha5 := (Below.refl w5.heap.size w5).alloc (Nat.le_refl _) (.cells #[.string (strB q.m), .string (strB q.t), f5, b5] 26)
  have hc5 := hb5.trans (ha5.mono hb5.size)
  have HX5 := Lib.hid (HX4.out.next hc5)
  have HK5 := Lib.hid (BoxQ.made w5 (strB q.m) (strB q.t) f5 b5)
  have HF5 := Lib.hid ((hf5.low (Nat.zero_le _)).below ha5)
  have HY5 := Lib.hid ((hy5.low (Nat.zero_le _)).below ha5)
  obtain ⟨fo5, fc5, rfl, _⟩ := hf5
  obtain ⟨bo5, bc5, rfl, _⟩ := hy5
  clear hb5 ha5 hc5 c3
  clear x0 x1 x2 x3 u0 u1 u2 t0 t1 t2
  obtain ⟨x0, x1, x2, x3⟩ := HX5.out.bq
  obtain ⟨u0, u1, u2⟩ := HX5.out.bp
  obtain ⟨t0, t1, t2⟩ := HX5.out.bl
  obtain ⟨m0, m1, m2, m3⟩ := HK5.out
  go_wp2_with fail
  refine (c4 _ _ _ HX5.out.fq HF5.out HX5.out.yq HY5.out).mono ?_
  rintro e w6 ⟨rfl, hb6⟩
  have HX6 := Lib.hid (HX5.out.next hb6)
  clear hb6
  clear c4 m0 m1 m2 m3
  clear x0 x1 x2 x3 u0 u1 u2 t0 t1 t2
  obtain ⟨x0, x1, x2, x3⟩ := HX6.out.bq
  obtain ⟨u0, u1, u2⟩ := HX6.out.bp
  obtain ⟨t0, t1, t2⟩ := HX6.out.bl
  go_wp2_with fail
  refine (c5 _ (Utf8Tabs_below HT.out HX6.out.bw) (HE.out.below HX6.out.bw)).mono ?_
  rintro e w7 ⟨hb7, rfl⟩
  have ha7 := (Below.refl w7.heap.size w7).alloc (Nat.le_refl _) nilQ
  have HX7 := Lib.hid (HX6.out.next (hb7.trans (ha7.mono hb7.size)))
  clear hb7 ha7 c5
  clear x0 x1 x2 x3 u0 u1 u2 t0 t1 t2
  obtain ⟨x0, x1, x2, x3⟩ := HX7.out.bq
  obtain ⟨u0, u1, u2⟩ := HX7.out.bp
  obtain ⟨t0, t1, t2⟩ := HX7.out.bl
  go_wp2_with fail
  refine (c2 _ HX7.out.fp HX7.out.yp (Utf8Tabs_below HT.out HX7.out.bw) (HP.out.below HX7.out.bw)).mono ?_
  rintro e w8 ⟨rfl, hb8⟩
  have HX8 := Lib.hid (HX7.out.next hb8)
  clear hb8
  clear c2
  clear x0 x1 x2 x3 u0 u1 u2 t0 t1 t2
  go_wp2_with fail
  go_ret
  exact ⟨rfl, HX8.out.bw⟩

set_option maxRecDepth 100000 in
set_option maxHeartbeats 8000000 in
theorem mback_cs (q : Rq) (p : Rp) (v vb v2 vb2 : Value) (me more d : ByteArray) (w : World) (h1 : Flds 0 w v q.fs) (h2 : BytF 0 w vb q.b) (h3 : Flds 0 w v2 p.fs) (h4 : BytF 0 w vb2 p.b) (k1 : FldsIn q.fs) (k2 : FldsIn p.fs) (z1 : q.m.length ≤ 140737488355328) (z2 : q.t.length ≤ 140737488355328) (z3 : q.b.length ≤ 140737488355328) (z4 : p.b.length ≤ 140737488355328) (z5 : me.size ≤ 140737488355328) (z6 : more.size ≤ 140737488355328) (hT : Tabs w) (hE : Errs w) (hP : Pow w) (hy : ¬ 10000 < szH 0 q.fs) (hz : ¬ 10000 < szH 0 p.fs) (hs : ¬ 1900 < q.m.length + q.t.length + q.b.length + p.b.length + me.size + more.size) (t : List UInt8) (hq : prQ q = some t) (hc : d.size < t.length) (u : List UInt8) (hp : prP p me = some u) :
    Calls Tryz.prog 5 #[.agg #[.string (strB q.m), .string (strB q.t), v, vb], .agg #[.int .i64 p.n, v2, vb2], .agg #[.string me, .string more, .string d]] w fun e w' => e = .returned (.bool true) ∧ Below w.heap.size w w' := by
  have HX0 := Lib.hid (Box3.made w q p v vb v2 vb2 me more d h1 h2 h3 h4)
  have HT := Lib.hid hT
  have HE := Lib.hid hE
  have HP := Lib.hid hP
  have cS1 := fun W h => rsize_any 0 v q.fs W h k1
  have cS2 := fun W h => rsize_any 0 v2 p.fs W h k2
  obtain ⟨ao, cap, rfl, _⟩ := h1
  obtain ⟨bo, bcap, rfl, _⟩ := h2
  obtain ⟨ao2, cap2, rfl, _⟩ := h3
  obtain ⟨bo2, bcap2, rfl, _⟩ := h4
  have q1 := strB_size q.m
  have q2 := strB_size q.t
  have d1 : ¬ (10000 : Int) < ((szH 0 q.fs : Nat) : Int) := by omega
  have d2 : ¬ (10000 : Int) < ((szH 0 p.fs : Nat) : Int) := by omega
  have d3 : ¬ (1900 : Int) < ((strB q.m).size : Int) + ((strB q.t).size : Int) + (q.b.length : Int) + (p.b.length : Int) + (me.size : Int) + (more.size : Int) := by rewrite [q1, q2]; omega
  have y1 : (strB q.m).size ≤ 140737488355328 := by omega
  have y2 : (strB q.t).size ≤ 140737488355328 := by omega
  obtain ⟨g1, g2⟩ := szH_ok q.fs (by omega)
  obtain ⟨g3, g4⟩ := szH_ok p.fs (by omega)
  have c1 := fun W h hb h1 h2 => mprq_any 0 0 q (.slice ao q.fs.length cap) (.slice bo q.b.length bcap) W h g1 (by have := prF_ge q.fs; omega) hb (by omega) (by omega) (by omega) h1 h2
  have c2 := fun W h hb h1 h2 => mprp_any 0 0 p me (.slice ao2 p.fs.length cap2) (.slice bo2 p.b.length bcap2) W h g3 hb (by omega) h1 h2
  rw [hq] at c1
  rw [hp] at c2
  rw [show textH (some t) = .tuple #[.string (strB t), .int .i64 0] from rfl] at c1
  have htl := prQ_len hq
  have hts := strB_size t
  have hdt : (strB t ++ more).data.toList = t ++ more.data.toList := by simp [strB_data]
  have hzt : (strB t ++ more).size = t.length + more.size := by rw [Lib.size_eq, hdt, List.length_append, ← Lib.size_eq]
  have c3 := fun W h1 h2 => mreadq_any (strB t ++ more) W (by omega) h1 h2
  rw [hdt, backQ hq] at c3
  have c4 := fun f2 b2 W h1 h2 h3 h4 => rsameq_any 0 0 0 0 q q (.slice ao q.fs.length cap) f2 (.slice bo q.b.length bcap) b2 W h1 h2 h3 h4 k1.1 k1.1
  rw [sameQ_self] at c4
  have n0 : ¬ 9223372036854775807 < (strB t).size + more.size := by omega
  have n1 : ((t.length : Int) != ((strB t).size : Int)) = false := by rewrite [hts]; simp
  have n2 : (d.size : Int) < ((strB t).size : Int) := by rewrite [hts]; omega
  have n3 : (d.size : Int) ≤ ((strB t).size : Int) := by omega
  have n4 : (0 : Int) ≤ (d.size : Int) := by omega
  have c5 := fun W h1 h2 => mreadq_any ((strB t).extract 0 d.size) W (by rewrite [Lib.size_eq, take_str, List.length_take]; omega) h1 h2
  rw [take_str, offQ hq d.size hc] at c5
  rw [show textH (some u) = .tuple #[.string (strB u), .int .i64 0] from rfl] at c2
  have hul := prP_len hp
  have c6 := fun W h1 h2 => mreadp_any (strB u) me W (by rewrite [strB_size]; omega) h1 h2
  rw [strB_data, backP hp] at c6
  have c7 := fun f2 b2 W h1 h2 h3 h4 => rsamep_any 0 0 0 0 p p (.slice ao2 p.fs.length cap2) f2 (.slice bo2 p.b.length bcap2) b2 W h1 h2 h3 h4 k2.1 k2.1
  rw [sameP_self] at c7
  clear hT hE hP k1 k2
  clear hy hz hs q1 q2 g1 g2 g3 g4 hq hp
  clear htl hts hdt hzt hc
  clear hul
  generalize szH 0 q.fs = Z at *
  generalize szH 0 p.fs = Z2 at *
  generalize strB t = ST at *
  generalize strB u = SU at *
  go_enter Tryz.func5, Tryz.ntmps5
  go_wp2_with fail
  refine (awake8_any _ (Utf8Tabs_below HT.out HX0.out.bw) (HE.out.below HX0.out.bw) (HP.out.below HX0.out.bw)).mono ?_
  rintro e w1 ⟨rfl, hb1⟩
  have HX1 := Lib.hid (HX0.out.next hb1)
  clear hb1
  obtain ⟨x0, x1, x2, x3⟩ := HX1.out.bq
  obtain ⟨u0, u1, u2⟩ := HX1.out.bp
  obtain ⟨t0, t1, t2⟩ := HX1.out.bl
  go_wp2_with fail
  refine (cS1 _ HX1.out.fq).mono ?_
  rintro e w2 ⟨rfl, hb2⟩
  have HX2 := Lib.hid (HX1.out.next hb2)
  clear hb2
  clear x0 x1 x2 x3 u0 u1 u2 t0 t1 t2
  obtain ⟨x0, x1, x2, x3⟩ := HX2.out.bq
  obtain ⟨u0, u1, u2⟩ := HX2.out.bp
  obtain ⟨t0, t1, t2⟩ := HX2.out.bl
  go_wp2_with fail
  refine (cS2 _ HX2.out.fp).mono ?_
  rintro e w3 ⟨rfl, hb3⟩
  have HX3 := Lib.hid (HX2.out.next hb3)
  clear hb3
  clear x0 x1 x2 x3 u0 u1 u2 t0 t1 t2
  obtain ⟨x0, x1, x2, x3⟩ := HX3.out.bq
  obtain ⟨u0, u1, u2⟩ := HX3.out.bp
  obtain ⟨t0, t1, t2⟩ := HX3.out.bl
  go_wp2_with fail
  refine (c1 _ HX3.out.fq HX3.out.yq (Utf8Tabs_below HT.out HX3.out.bw) (HP.out.below HX3.out.bw)).mono ?_
  rintro e w4 ⟨rfl, hb4⟩
  have HX4 := Lib.hid (HX3.out.next hb4)
  clear hb4
  clear c1
  clear x0 x1 x2 x3 u0 u1 u2 t0 t1 t2
  obtain ⟨x0, x1, x2, x3⟩ := HX4.out.bq
  obtain ⟨u0, u1, u2⟩ := HX4.out.bp
  obtain ⟨t0, t1, t2⟩ := HX4.out.bl
  go_wp2_with fail
  refine (c3 _ (Utf8Tabs_below HT.out HX4.out.bw) (HE.out.below HX4.out.bw)).mono ?_
  rintro e w5 ⟨hb5, f5, b5, rfl, hf5, hy5⟩
  have ha5 := (Below.refl w5.heap.size w5).alloc (Nat.le_refl _) (.cells #[.string (strB q.m), .string (strB q.t), f5, b5] 26)
  have hc5 := hb5.trans (ha5.mono hb5.size)
  have HX5 := Lib.hid (HX4.out.next hc5)
  have HK5 := Lib.hid (BoxQ.made w5 (strB q.m) (strB q.t) f5 b5)
  have HF5 := Lib.hid ((hf5.low (Nat.zero_le _)).below ha5)
  have HY5 := Lib.hid ((hy5.low (Nat.zero_le _)).below ha5)
  obtain ⟨fo5, fc5, rfl, _⟩ := hf5
  obtain ⟨bo5, bc5, rfl, _⟩ := hy5
  clear hb5 ha5 hc5 c3
  clear x0 x1 x2 x3 u0 u1 u2 t0 t1 t2
  obtain ⟨x0, x1, x2, x3⟩ := HX5.out.bq
  obtain ⟨u0, u1, u2⟩ := HX5.out.bp
  obtain ⟨t0, t1, t2⟩ := HX5.out.bl
  obtain ⟨m0, m1, m2, m3⟩ := HK5.out
  go_wp2_with fail
  refine (c4 _ _ _ HX5.out.fq HF5.out HX5.out.yq HY5.out).mono ?_
  rintro e w6 ⟨rfl, hb6⟩
  have HX6 := Lib.hid (HX5.out.next hb6)
  clear hb6
  clear c4 m0 m1 m2 m3
  clear x0 x1 x2 x3 u0 u1 u2 t0 t1 t2
  obtain ⟨x0, x1, x2, x3⟩ := HX6.out.bq
  obtain ⟨u0, u1, u2⟩ := HX6.out.bp
  obtain ⟨t0, t1, t2⟩ := HX6.out.bl
  go_wp2_with fail
  refine (c5 _ (Utf8Tabs_below HT.out HX6.out.bw) (HE.out.below HX6.out.bw)).mono ?_
  rintro e w7 ⟨hb7, rfl⟩
  have ha7 := (Below.refl w7.heap.size w7).alloc (Nat.le_refl _) nilQ
  have HX7 := Lib.hid (HX6.out.next (hb7.trans (ha7.mono hb7.size)))
  clear hb7 ha7 c5
  clear x0 x1 x2 x3 u0 u1 u2 t0 t1 t2
  obtain ⟨x0, x1, x2, x3⟩ := HX7.out.bq
  obtain ⟨u0, u1, u2⟩ := HX7.out.bp
  obtain ⟨t0, t1, t2⟩ := HX7.out.bl
  go_wp2_with fail
  refine (c2 _ HX7.out.fp HX7.out.yp (Utf8Tabs_below HT.out HX7.out.bw) (HP.out.below HX7.out.bw)).mono ?_
  rintro e w8 ⟨rfl, hb8⟩
  have HX8 := Lib.hid (HX7.out.next hb8)
  clear hb8
  clear c2
  clear x0 x1 x2 x3 u0 u1 u2 t0 t1 t2
  obtain ⟨x0, x1, x2, x3⟩ := HX8.out.bq
  obtain ⟨u0, u1, u2⟩ := HX8.out.bp
  obtain ⟨t0, t1, t2⟩ := HX8.out.bl
  go_wp2_with fail
  refine (c6 _ (Utf8Tabs_below HT.out HX8.out.bw) (HE.out.below HX8.out.bw)).mono ?_
  rintro e w9 ⟨hb9, f9, b9, rfl, hf9, hy9⟩
  have ha9 := (Below.refl w9.heap.size w9).alloc (Nat.le_refl _) (.cells #[.int .i64 p.n, f9, b9] 31)
  have hc9 := hb9.trans (ha9.mono hb9.size)
  have HX9 := Lib.hid (HX8.out.next hc9)
  have HK9 := Lib.hid (BoxP.made w9 p.n f9 b9)
  have HF9 := Lib.hid ((hf9.low (Nat.zero_le _)).below ha9)
  have HY9 := Lib.hid ((hy9.low (Nat.zero_le _)).below ha9)
  obtain ⟨fo9, fc9, rfl, _⟩ := hf9
  obtain ⟨bo9, bc9, rfl, _⟩ := hy9
  clear hb9 ha9 hc9 c6
  clear x0 x1 x2 x3 u0 u1 u2 t0 t1 t2
  obtain ⟨x0, x1, x2, x3⟩ := HX9.out.bq
  obtain ⟨u0, u1, u2⟩ := HX9.out.bp
  obtain ⟨t0, t1, t2⟩ := HX9.out.bl
  obtain ⟨m0, m1, m2⟩ := HK9.out
  go_wp2_with fail
  refine (c7 _ _ _ HX9.out.fp HF9.out HX9.out.yp HY9.out).mono ?_
  rintro e w10 ⟨rfl, hb10⟩
  have HX10 := Lib.hid (HX9.out.next hb10)
  clear hb10
  clear c7 m0 m1 m2
  clear x0 x1 x2 x3 u0 u1 u2 t0 t1 t2
  go_wp2_with fail
  go_ret
  exact ⟨rfl, HX10.out.bw⟩

set_option maxRecDepth 100000 in
set_option maxHeartbeats 8000000 in
theorem mback_sn (q : Rq) (p : Rp) (v vb v2 vb2 : Value) (me more d : ByteArray) (w : World) (h1 : Flds 0 w v q.fs) (h2 : BytF 0 w vb q.b) (h3 : Flds 0 w v2 p.fs) (h4 : BytF 0 w vb2 p.b) (k1 : FldsIn q.fs) (k2 : FldsIn p.fs) (z1 : q.m.length ≤ 140737488355328) (z2 : q.t.length ≤ 140737488355328) (z3 : q.b.length ≤ 140737488355328) (z4 : p.b.length ≤ 140737488355328) (z5 : me.size ≤ 140737488355328) (z6 : more.size ≤ 140737488355328) (hT : Tabs w) (hE : Errs w) (hP : Pow w) (hy : ¬ 10000 < szH 0 q.fs) (hz : ¬ 10000 < szH 0 p.fs) (hs : ¬ 1900 < q.m.length + q.t.length + q.b.length + p.b.length + me.size + more.size) (t : List UInt8) (hq : prQ q = some t) (hc : ¬ d.size < t.length) (hp : prP p me = none) :
    Calls Tryz.prog 5 #[.agg #[.string (strB q.m), .string (strB q.t), v, vb], .agg #[.int .i64 p.n, v2, vb2], .agg #[.string me, .string more, .string d]] w fun e w' => e = .returned (.bool true) ∧ Below w.heap.size w w' := by
  have HX0 := Lib.hid (Box3.made w q p v vb v2 vb2 me more d h1 h2 h3 h4)
  have HT := Lib.hid hT
  have HE := Lib.hid hE
  have HP := Lib.hid hP
  have cS1 := fun W h => rsize_any 0 v q.fs W h k1
  have cS2 := fun W h => rsize_any 0 v2 p.fs W h k2
  obtain ⟨ao, cap, rfl, _⟩ := h1
  obtain ⟨bo, bcap, rfl, _⟩ := h2
  obtain ⟨ao2, cap2, rfl, _⟩ := h3
  obtain ⟨bo2, bcap2, rfl, _⟩ := h4
  have q1 := strB_size q.m
  have q2 := strB_size q.t
  have d1 : ¬ (10000 : Int) < ((szH 0 q.fs : Nat) : Int) := by omega
  have d2 : ¬ (10000 : Int) < ((szH 0 p.fs : Nat) : Int) := by omega
  have d3 : ¬ (1900 : Int) < ((strB q.m).size : Int) + ((strB q.t).size : Int) + (q.b.length : Int) + (p.b.length : Int) + (me.size : Int) + (more.size : Int) := by rewrite [q1, q2]; omega
  have y1 : (strB q.m).size ≤ 140737488355328 := by omega
  have y2 : (strB q.t).size ≤ 140737488355328 := by omega
  obtain ⟨g1, g2⟩ := szH_ok q.fs (by omega)
  obtain ⟨g3, g4⟩ := szH_ok p.fs (by omega)
  have c1 := fun W h hb h1 h2 => mprq_any 0 0 q (.slice ao q.fs.length cap) (.slice bo q.b.length bcap) W h g1 (by have := prF_ge q.fs; omega) hb (by omega) (by omega) (by omega) h1 h2
  have c2 := fun W h hb h1 h2 => mprp_any 0 0 p me (.slice ao2 p.fs.length cap2) (.slice bo2 p.b.length bcap2) W h g3 hb (by omega) h1 h2
  rw [hq] at c1
  rw [hp] at c2
  rw [show textH (some t) = .tuple #[.string (strB t), .int .i64 0] from rfl] at c1
  have htl := prQ_len hq
  have hts := strB_size t
  have hdt : (strB t ++ more).data.toList = t ++ more.data.toList := by simp [strB_data]
  have hzt : (strB t ++ more).size = t.length + more.size := by rw [Lib.size_eq, hdt, List.length_append, ← Lib.size_eq]
  have c3 := fun W h1 h2 => mreadq_any (strB t ++ more) W (by omega) h1 h2
  rw [hdt, backQ hq] at c3
  have c4 := fun f2 b2 W h1 h2 h3 h4 => rsameq_any 0 0 0 0 q q (.slice ao q.fs.length cap) f2 (.slice bo q.b.length bcap) b2 W h1 h2 h3 h4 k1.1 k1.1
  rw [sameQ_self] at c4
  have n0 : ¬ 9223372036854775807 < (strB t).size + more.size := by omega
  have n1 : ((t.length : Int) != ((strB t).size : Int)) = false := by rewrite [hts]; simp
  have n2 : ¬ (d.size : Int) < ((strB t).size : Int) := by rewrite [hts]; omega
  rw [show textH none = .tuple #[.string ⟨#[]⟩, .int .i64 2] from rfl] at c2
  clear hT hE hP k1 k2
  clear hy hz hs q1 q2 g1 g2 g3 g4 hq hp
  clear htl hts hdt hzt hc
  generalize szH 0 q.fs = Z at *
  generalize szH 0 p.fs = Z2 at *
  generalize strB t = ST at *
  go_enter Tryz.func5, Tryz.ntmps5
  go_wp2_with fail
  refine (awake8_any _ (Utf8Tabs_below HT.out HX0.out.bw) (HE.out.below HX0.out.bw) (HP.out.below HX0.out.bw)).mono ?_
  rintro e w1 ⟨rfl, hb1⟩
  have HX1 := Lib.hid (HX0.out.next hb1)
  clear hb1
  obtain ⟨x0, x1, x2, x3⟩ := HX1.out.bq
  obtain ⟨u0, u1, u2⟩ := HX1.out.bp
  obtain ⟨t0, t1, t2⟩ := HX1.out.bl
  go_wp2_with fail
  refine (cS1 _ HX1.out.fq).mono ?_
  rintro e w2 ⟨rfl, hb2⟩
  have HX2 := Lib.hid (HX1.out.next hb2)
  clear hb2
  clear x0 x1 x2 x3 u0 u1 u2 t0 t1 t2
  obtain ⟨x0, x1, x2, x3⟩ := HX2.out.bq
  obtain ⟨u0, u1, u2⟩ := HX2.out.bp
  obtain ⟨t0, t1, t2⟩ := HX2.out.bl
  go_wp2_with fail
  refine (cS2 _ HX2.out.fp).mono ?_
  rintro e w3 ⟨rfl, hb3⟩
  have HX3 := Lib.hid (HX2.out.next hb3)
  clear hb3
  clear x0 x1 x2 x3 u0 u1 u2 t0 t1 t2
  obtain ⟨x0, x1, x2, x3⟩ := HX3.out.bq
  obtain ⟨u0, u1, u2⟩ := HX3.out.bp
  obtain ⟨t0, t1, t2⟩ := HX3.out.bl
  go_wp2_with fail
  refine (c1 _ HX3.out.fq HX3.out.yq (Utf8Tabs_below HT.out HX3.out.bw) (HP.out.below HX3.out.bw)).mono ?_
  rintro e w4 ⟨rfl, hb4⟩
  have HX4 := Lib.hid (HX3.out.next hb4)
  clear hb4
  clear c1
  clear x0 x1 x2 x3 u0 u1 u2 t0 t1 t2
  obtain ⟨x0, x1, x2, x3⟩ := HX4.out.bq
  obtain ⟨u0, u1, u2⟩ := HX4.out.bp
  obtain ⟨t0, t1, t2⟩ := HX4.out.bl
  go_wp2_with fail
  refine (c3 _ (Utf8Tabs_below HT.out HX4.out.bw) (HE.out.below HX4.out.bw)).mono ?_
  rintro e w5 ⟨hb5, f5, b5, rfl, hf5, hy5⟩
  have ha5 := (Below.refl w5.heap.size w5).alloc (Nat.le_refl _) (.cells #[.string (strB q.m), .string (strB q.t), f5, b5] 26)
  have hc5 := hb5.trans (ha5.mono hb5.size)
  have HX5 := Lib.hid (HX4.out.next hc5)
  have HK5 := Lib.hid (BoxQ.made w5 (strB q.m) (strB q.t) f5 b5)
  have HF5 := Lib.hid ((hf5.low (Nat.zero_le _)).below ha5)
  have HY5 := Lib.hid ((hy5.low (Nat.zero_le _)).below ha5)
  obtain ⟨fo5, fc5, rfl, _⟩ := hf5
  obtain ⟨bo5, bc5, rfl, _⟩ := hy5
  clear hb5 ha5 hc5 c3
  clear x0 x1 x2 x3 u0 u1 u2 t0 t1 t2
  obtain ⟨x0, x1, x2, x3⟩ := HX5.out.bq
  obtain ⟨u0, u1, u2⟩ := HX5.out.bp
  obtain ⟨t0, t1, t2⟩ := HX5.out.bl
  obtain ⟨m0, m1, m2, m3⟩ := HK5.out
  go_wp2_with fail
  refine (c4 _ _ _ HX5.out.fq HF5.out HX5.out.yq HY5.out).mono ?_
  rintro e w6 ⟨rfl, hb6⟩
  have HX6 := Lib.hid (HX5.out.next hb6)
  clear hb6
  clear c4 m0 m1 m2 m3
  clear x0 x1 x2 x3 u0 u1 u2 t0 t1 t2
  obtain ⟨x0, x1, x2, x3⟩ := HX6.out.bq
  obtain ⟨u0, u1, u2⟩ := HX6.out.bp
  obtain ⟨t0, t1, t2⟩ := HX6.out.bl
  go_wp2_with fail
  refine (c2 _ HX6.out.fp HX6.out.yp (Utf8Tabs_below HT.out HX6.out.bw) (HP.out.below HX6.out.bw)).mono ?_
  rintro e w7 ⟨rfl, hb7⟩
  have HX7 := Lib.hid (HX6.out.next hb7)
  clear hb7
  clear c2
  clear x0 x1 x2 x3 u0 u1 u2 t0 t1 t2
  go_wp2_with fail
  go_ret
  exact ⟨rfl, HX7.out.bw⟩

set_option maxRecDepth 100000 in
set_option maxHeartbeats 8000000 in
theorem mback_ss (q : Rq) (p : Rp) (v vb v2 vb2 : Value) (me more d : ByteArray) (w : World) (h1 : Flds 0 w v q.fs) (h2 : BytF 0 w vb q.b) (h3 : Flds 0 w v2 p.fs) (h4 : BytF 0 w vb2 p.b) (k1 : FldsIn q.fs) (k2 : FldsIn p.fs) (z1 : q.m.length ≤ 140737488355328) (z2 : q.t.length ≤ 140737488355328) (z3 : q.b.length ≤ 140737488355328) (z4 : p.b.length ≤ 140737488355328) (z5 : me.size ≤ 140737488355328) (z6 : more.size ≤ 140737488355328) (hT : Tabs w) (hE : Errs w) (hP : Pow w) (hy : ¬ 10000 < szH 0 q.fs) (hz : ¬ 10000 < szH 0 p.fs) (hs : ¬ 1900 < q.m.length + q.t.length + q.b.length + p.b.length + me.size + more.size) (t : List UInt8) (hq : prQ q = some t) (hc : ¬ d.size < t.length) (u : List UInt8) (hp : prP p me = some u) :
    Calls Tryz.prog 5 #[.agg #[.string (strB q.m), .string (strB q.t), v, vb], .agg #[.int .i64 p.n, v2, vb2], .agg #[.string me, .string more, .string d]] w fun e w' => e = .returned (.bool true) ∧ Below w.heap.size w w' := by
  have HX0 := Lib.hid (Box3.made w q p v vb v2 vb2 me more d h1 h2 h3 h4)
  have HT := Lib.hid hT
  have HE := Lib.hid hE
  have HP := Lib.hid hP
  have cS1 := fun W h => rsize_any 0 v q.fs W h k1
  have cS2 := fun W h => rsize_any 0 v2 p.fs W h k2
  obtain ⟨ao, cap, rfl, _⟩ := h1
  obtain ⟨bo, bcap, rfl, _⟩ := h2
  obtain ⟨ao2, cap2, rfl, _⟩ := h3
  obtain ⟨bo2, bcap2, rfl, _⟩ := h4
  have q1 := strB_size q.m
  have q2 := strB_size q.t
  have d1 : ¬ (10000 : Int) < ((szH 0 q.fs : Nat) : Int) := by omega
  have d2 : ¬ (10000 : Int) < ((szH 0 p.fs : Nat) : Int) := by omega
  have d3 : ¬ (1900 : Int) < ((strB q.m).size : Int) + ((strB q.t).size : Int) + (q.b.length : Int) + (p.b.length : Int) + (me.size : Int) + (more.size : Int) := by rewrite [q1, q2]; omega
  have y1 : (strB q.m).size ≤ 140737488355328 := by omega
  have y2 : (strB q.t).size ≤ 140737488355328 := by omega
  obtain ⟨g1, g2⟩ := szH_ok q.fs (by omega)
  obtain ⟨g3, g4⟩ := szH_ok p.fs (by omega)
  have c1 := fun W h hb h1 h2 => mprq_any 0 0 q (.slice ao q.fs.length cap) (.slice bo q.b.length bcap) W h g1 (by have := prF_ge q.fs; omega) hb (by omega) (by omega) (by omega) h1 h2
  have c2 := fun W h hb h1 h2 => mprp_any 0 0 p me (.slice ao2 p.fs.length cap2) (.slice bo2 p.b.length bcap2) W h g3 hb (by omega) h1 h2
  rw [hq] at c1
  rw [hp] at c2
  rw [show textH (some t) = .tuple #[.string (strB t), .int .i64 0] from rfl] at c1
  have htl := prQ_len hq
  have hts := strB_size t
  have hdt : (strB t ++ more).data.toList = t ++ more.data.toList := by simp [strB_data]
  have hzt : (strB t ++ more).size = t.length + more.size := by rw [Lib.size_eq, hdt, List.length_append, ← Lib.size_eq]
  have c3 := fun W h1 h2 => mreadq_any (strB t ++ more) W (by omega) h1 h2
  rw [hdt, backQ hq] at c3
  have c4 := fun f2 b2 W h1 h2 h3 h4 => rsameq_any 0 0 0 0 q q (.slice ao q.fs.length cap) f2 (.slice bo q.b.length bcap) b2 W h1 h2 h3 h4 k1.1 k1.1
  rw [sameQ_self] at c4
  have n0 : ¬ 9223372036854775807 < (strB t).size + more.size := by omega
  have n1 : ((t.length : Int) != ((strB t).size : Int)) = false := by rewrite [hts]; simp
  have n2 : ¬ (d.size : Int) < ((strB t).size : Int) := by rewrite [hts]; omega
  rw [show textH (some u) = .tuple #[.string (strB u), .int .i64 0] from rfl] at c2
  have hul := prP_len hp
  have c6 := fun W h1 h2 => mreadp_any (strB u) me W (by rewrite [strB_size]; omega) h1 h2
  rw [strB_data, backP hp] at c6
  have c7 := fun f2 b2 W h1 h2 h3 h4 => rsamep_any 0 0 0 0 p p (.slice ao2 p.fs.length cap2) f2 (.slice bo2 p.b.length bcap2) b2 W h1 h2 h3 h4 k2.1 k2.1
  rw [sameP_self] at c7
  clear hT hE hP k1 k2
  clear hy hz hs q1 q2 g1 g2 g3 g4 hq hp
  clear htl hts hdt hzt hc
  clear hul
  generalize szH 0 q.fs = Z at *
  generalize szH 0 p.fs = Z2 at *
  generalize strB t = ST at *
  generalize strB u = SU at *
  go_enter Tryz.func5, Tryz.ntmps5
  go_wp2_with fail
  refine (awake8_any _ (Utf8Tabs_below HT.out HX0.out.bw) (HE.out.below HX0.out.bw) (HP.out.below HX0.out.bw)).mono ?_
  rintro e w1 ⟨rfl, hb1⟩
  have HX1 := Lib.hid (HX0.out.next hb1)
  clear hb1
  obtain ⟨x0, x1, x2, x3⟩ := HX1.out.bq
  obtain ⟨u0, u1, u2⟩ := HX1.out.bp
  obtain ⟨t0, t1, t2⟩ := HX1.out.bl
  go_wp2_with fail
  refine (cS1 _ HX1.out.fq).mono ?_
  rintro e w2 ⟨rfl, hb2⟩
  have HX2 := Lib.hid (HX1.out.next hb2)
  clear hb2
  clear x0 x1 x2 x3 u0 u1 u2 t0 t1 t2
  obtain ⟨x0, x1, x2, x3⟩ := HX2.out.bq
  obtain ⟨u0, u1, u2⟩ := HX2.out.bp
  obtain ⟨t0, t1, t2⟩ := HX2.out.bl
  go_wp2_with fail
  refine (cS2 _ HX2.out.fp).mono ?_
  rintro e w3 ⟨rfl, hb3⟩
  have HX3 := Lib.hid (HX2.out.next hb3)
  clear hb3
  clear x0 x1 x2 x3 u0 u1 u2 t0 t1 t2
  obtain ⟨x0, x1, x2, x3⟩ := HX3.out.bq
  obtain ⟨u0, u1, u2⟩ := HX3.out.bp
  obtain ⟨t0, t1, t2⟩ := HX3.out.bl
  go_wp2_with fail
  refine (c1 _ HX3.out.fq HX3.out.yq (Utf8Tabs_below HT.out HX3.out.bw) (HP.out.below HX3.out.bw)).mono ?_
  rintro e w4 ⟨rfl, hb4⟩
  have HX4 := Lib.hid (HX3.out.next hb4)
  clear hb4
  clear c1
  clear x0 x1 x2 x3 u0 u1 u2 t0 t1 t2
  obtain ⟨x0, x1, x2, x3⟩ := HX4.out.bq
  obtain ⟨u0, u1, u2⟩ := HX4.out.bp
  obtain ⟨t0, t1, t2⟩ := HX4.out.bl
  go_wp2_with fail
  refine (c3 _ (Utf8Tabs_below HT.out HX4.out.bw) (HE.out.below HX4.out.bw)).mono ?_
  rintro e w5 ⟨hb5, f5, b5, rfl, hf5, hy5⟩
  have ha5 := (Below.refl w5.heap.size w5).alloc (Nat.le_refl _) (.cells #[.string (strB q.m), .string (strB q.t), f5, b5] 26)
  have hc5 := hb5.trans (ha5.mono hb5.size)
  have HX5 := Lib.hid (HX4.out.next hc5)
  have HK5 := Lib.hid (BoxQ.made w5 (strB q.m) (strB q.t) f5 b5)
  have HF5 := Lib.hid ((hf5.low (Nat.zero_le _)).below ha5)
  have HY5 := Lib.hid ((hy5.low (Nat.zero_le _)).below ha5)
  obtain ⟨fo5, fc5, rfl, _⟩ := hf5
  obtain ⟨bo5, bc5, rfl, _⟩ := hy5
  clear hb5 ha5 hc5 c3
  clear x0 x1 x2 x3 u0 u1 u2 t0 t1 t2
  obtain ⟨x0, x1, x2, x3⟩ := HX5.out.bq
  obtain ⟨u0, u1, u2⟩ := HX5.out.bp
  obtain ⟨t0, t1, t2⟩ := HX5.out.bl
  obtain ⟨m0, m1, m2, m3⟩ := HK5.out
  go_wp2_with fail
  refine (c4 _ _ _ HX5.out.fq HF5.out HX5.out.yq HY5.out).mono ?_
  rintro e w6 ⟨rfl, hb6⟩
  have HX6 := Lib.hid (HX5.out.next hb6)
  clear hb6
  clear c4 m0 m1 m2 m3
  clear x0 x1 x2 x3 u0 u1 u2 t0 t1 t2
  obtain ⟨x0, x1, x2, x3⟩ := HX6.out.bq
  obtain ⟨u0, u1, u2⟩ := HX6.out.bp
  obtain ⟨t0, t1, t2⟩ := HX6.out.bl
  go_wp2_with fail
  refine (c2 _ HX6.out.fp HX6.out.yp (Utf8Tabs_below HT.out HX6.out.bw) (HP.out.below HX6.out.bw)).mono ?_
  rintro e w7 ⟨rfl, hb7⟩
  have HX7 := Lib.hid (HX6.out.next hb7)
  clear hb7
  clear c2
  clear x0 x1 x2 x3 u0 u1 u2 t0 t1 t2
  obtain ⟨x0, x1, x2, x3⟩ := HX7.out.bq
  obtain ⟨u0, u1, u2⟩ := HX7.out.bp
  obtain ⟨t0, t1, t2⟩ := HX7.out.bl
  go_wp2_with fail
  refine (c6 _ (Utf8Tabs_below HT.out HX7.out.bw) (HE.out.below HX7.out.bw)).mono ?_
  rintro e w8 ⟨hb8, f8, b8, rfl, hf8, hy8⟩
  have ha8 := (Below.refl w8.heap.size w8).alloc (Nat.le_refl _) (.cells #[.int .i64 p.n, f8, b8] 31)
  have hc8 := hb8.trans (ha8.mono hb8.size)
  have HX8 := Lib.hid (HX7.out.next hc8)
  have HK8 := Lib.hid (BoxP.made w8 p.n f8 b8)
  have HF8 := Lib.hid ((hf8.low (Nat.zero_le _)).below ha8)
  have HY8 := Lib.hid ((hy8.low (Nat.zero_le _)).below ha8)
  obtain ⟨fo8, fc8, rfl, _⟩ := hf8
  obtain ⟨bo8, bc8, rfl, _⟩ := hy8
  clear hb8 ha8 hc8 c6
  clear x0 x1 x2 x3 u0 u1 u2 t0 t1 t2
  obtain ⟨x0, x1, x2, x3⟩ := HX8.out.bq
  obtain ⟨u0, u1, u2⟩ := HX8.out.bp
  obtain ⟨t0, t1, t2⟩ := HX8.out.bl
  obtain ⟨m0, m1, m2⟩ := HK8.out
  go_wp2_with fail
  refine (c7 _ _ _ HX8.out.fp HF8.out HX8.out.yp HY8.out).mono ?_
  rintro e w9 ⟨rfl, hb9⟩
  have HX9 := Lib.hid (HX8.out.next hb9)
  clear hb9
  clear c7 m0 m1 m2
  clear x0 x1 x2 x3 u0 u1 u2 t0 t1 t2
  go_wp2_with fail
  go_ret
  exact ⟨rfl, HX9.out.bw⟩

theorem mback_walk (q : Rq) (p : Rp) (v vb v2 vb2 : Value) (me more d : ByteArray) (w : World) (h1 : Flds 0 w v q.fs) (h2 : BytF 0 w vb q.b) (h3 : Flds 0 w v2 p.fs) (h4 : BytF 0 w vb2 p.b) (k1 : FldsIn q.fs) (k2 : FldsIn p.fs) (z1 : q.m.length ≤ 140737488355328) (z2 : q.t.length ≤ 140737488355328) (z3 : q.b.length ≤ 140737488355328) (z4 : p.b.length ≤ 140737488355328) (z5 : me.size ≤ 140737488355328) (z6 : more.size ≤ 140737488355328) (hT : Tabs w) (hE : Errs w) (hP : Pow w) :
    Calls Tryz.prog 5 #[.agg #[.string (strB q.m), .string (strB q.t), v, vb], .agg #[.int .i64 p.n, v2, vb2], .agg #[.string me, .string more, .string d]] w fun e w' => e = .returned (.bool true) ∧ Below w.heap.size w w' := by
  by_cases hy : 10000 < szH 0 q.fs
  · exact mback_big1 q p v vb v2 vb2 me more d w h1 h2 h3 h4 k1 k2 z1 z2 z3 z4 z5 z6 hT hE hP hy
  by_cases hz : 10000 < szH 0 p.fs
  · exact mback_big2 q p v vb v2 vb2 me more d w h1 h2 h3 h4 k1 k2 z1 z2 z3 z4 z5 z6 hT hE hP hy hz
  by_cases hs : 1900 < q.m.length + q.t.length + q.b.length + p.b.length + me.size + more.size
  · exact mback_big3 q p v vb v2 vb2 me more d w h1 h2 h3 h4 k1 k2 z1 z2 z3 z4 z5 z6 hT hE hP hy hz hs
  cases hq : prQ q with
  | none =>
    cases hp : prP p me with
    | none => exact mback_nn q p v vb v2 vb2 me more d w h1 h2 h3 h4 k1 k2 z1 z2 z3 z4 z5 z6 hT hE hP hy hz hs hq hp
    | some u => exact mback_ns q p v vb v2 vb2 me more d w h1 h2 h3 h4 k1 k2 z1 z2 z3 z4 z5 z6 hT hE hP hy hz hs hq u hp
  | some t =>
    by_cases hc : d.size < t.length
    · cases hp : prP p me with
      | none => exact mback_cn q p v vb v2 vb2 me more d w h1 h2 h3 h4 k1 k2 z1 z2 z3 z4 z5 z6 hT hE hP hy hz hs t hq hc hp
      | some u => exact mback_cs q p v vb v2 vb2 me more d w h1 h2 h3 h4 k1 k2 z1 z2 z3 z4 z5 z6 hT hE hP hy hz hs t hq hc u hp
    · cases hp : prP p me with
      | none => exact mback_sn q p v vb v2 vb2 me more d w h1 h2 h3 h4 k1 k2 z1 z2 z3 z4 z5 z6 hT hE hP hy hz hs t hq hc hp
      | some u => exact mback_ss q p v vb v2 vb2 me more d w h1 h2 h3 h4 k1 k2 z1 z2 z3 z4 z5 z6 hT hE hP hy hz hs t hq hc u hp

end Go.Proofs.YthbfcamfapgodaaGreatDoor
