/- The walk of the law MessagePrints. -/
import Derived.Test.YthbfcamfapgodaaGreatDoorIE
import Derived.Test.YthbfcamfapgodaaGreatDoorGW
import Derived.Test.YthbfcamfapgodaaGreatDoorIF
import Derived.Deep.DeepCutAuto
import Derived.Deep.RegionHeld3
import Derived.Deep.RegionWith
import Derived.Deep.AppendLies
import Derived.BigQuiet

namespace Go.Proofs.YthbfcamfapgodaaGreatDoor
open Go.RowKit Go.Shelf Go.Lib

/-- The two arguments in their blocks. -/
structure Box2 (w W : World) (q : Rq) (p : Rp) (v vb v2 vb2 : Value) : Prop where
  bq : BoxQ W w.heap.size (strB q.m) (strB q.t) v vb
  bp : BoxP W (w.heap.size + 1) p.n v2 vb2
  fq : Flds 0 W v q.fs
  yq : BytF 0 W vb q.b
  fp : Flds 0 W v2 p.fs
  yp : BytF 0 W vb2 p.b
  bw : Below w.heap.size w W
theorem Box2.next {w W W1 : World} {q : Rq} {p : Rp} {v vb v2 vb2 : Value} (h : Box2 w W q p v vb v2 vb2) (hb : Below W.heap.size W W1) : Box2 w W1 q p v vb v2 vb2 :=
  ⟨h.bq.next hb, h.bp.next hb, h.fq.below hb, h.yq.below hb, h.fp.below hb, h.yp.below hb, h.bw.trans (hb.mono h.bw.size)⟩
theorem Box2.made (w : World) (q : Rq) (p : Rp) (v vb v2 vb2 : Value) (h1 : Flds 0 w v q.fs) (h2 : BytF 0 w vb q.b) (h3 : Flds 0 w v2 p.fs) (h4 : BytF 0 w vb2 p.b) :
    Box2 w ((w.alloc (.cells #[.string (strB q.m), .string (strB q.t), v, vb] 26)).alloc (.cells #[.int .i64 p.n, v2, vb2] 31)) q p v vb v2 vb2 := by
  obtain ⟨W1, hW1⟩ : ∃ W1, w.alloc (.cells #[.string (strB q.m), .string (strB q.t), v, vb] 26) = W1 := ⟨_, rfl⟩
  obtain ⟨W2, hW2⟩ : ∃ W2, W1.alloc (.cells #[.int .i64 p.n, v2, vb2] 31) = W2 := ⟨_, rfl⟩
  rewrite [hW1, hW2]
  have z1 : W1.heap.size = w.heap.size + 1 := by rewrite [← hW1]; simp
  have b1 : Below w.heap.size w W1 := by rewrite [← hW1]; exact (Below.refl _ w).alloc (Nat.le_refl _) _
  have b2 : Below W1.heap.size W1 W2 := by rewrite [← hW2]; exact (Below.refl _ W1).alloc (Nat.le_refl _) _
  have m1 : BoxQ W1 w.heap.size (strB q.m) (strB q.t) v vb := by rewrite [← hW1]; exact BoxQ.made w _ _ _ _
  have m2 : BoxP W2 (w.heap.size + 1) p.n v2 vb2 := by rewrite [← z1, ← hW2]; exact BoxP.made W1 _ _ _
  have b12 := b1.trans (b2.mono b1.size)
  exact ⟨m1.next b2, m2, h1.below b12, h2.below b12, h3.below b12, h4.below b12, b12⟩
/-- What holds at the end: the status lies in its block. -/
abbrev heldS (w : World) (n : Int) (W : World) : Prop := W.cell? ⟨w.heap.size + 1, 0, none⟩ = some (.int .i64 n) ∧ Below w.heap.size w W ∧ w.heap.size + 1 < W.heap.size
theorem heldS_next {w W W1 : World} {n : Int} (h : heldS w n W) (hb : Below W.heap.size W W1) : heldS w n W1 :=
  ⟨(hb.cell (p := ⟨w.heap.size + 1, 0, none⟩) h.2.2).trans h.1, h.2.1.trans (hb.mono h.2.1.size), Nat.lt_of_lt_of_le h.2.2 hb.size⟩

set_option maxRecDepth 100000 in
set_option maxHeartbeats 8000000 in
theorem mprints_big1 (q : Rq) (p : Rp) (v vb v2 vb2 : Value) (me : ByteArray) (w : World) (h1 : Flds 0 w v q.fs) (h2 : BytF 0 w vb q.b) (h3 : Flds 0 w v2 p.fs) (h4 : BytF 0 w vb2 p.b) (k1 : FldsIn q.fs) (k2 : FldsIn p.fs) (_ : q.m.length ≤ 140737488355328) (_ : q.t.length ≤ 140737488355328) (_ : q.b.length ≤ 140737488355328) (_ : p.b.length ≤ 140737488355328) (_ : me.size ≤ 140737488355328) (hT : Tabs w) (hE : Errs w) (hP : Pow w) (hz : 10000 < szH 0 q.fs) :
    Calls Tryz.prog 4 #[.agg #[.string (strB q.m), .string (strB q.t), v, vb], .agg #[.int .i64 p.n, v2, vb2], .string me] w fun e w' => e = .returned (.bool true) ∧ Below w.heap.size w w' := by
  have HX0 := Lib.hid (Box2.made w q p v vb v2 vb2 h1 h2 h3 h4)
  have HT := Lib.hid hT
  have HE := Lib.hid hE
  have HP := Lib.hid hP
  have cS1 := fun W h => rsize_any 0 v q.fs W h k1
  have cS2 := fun W h => rsize_any 0 v2 p.fs W h k2
  obtain ⟨ao, cap, rfl, _⟩ := h1
  obtain ⟨bo, bcap, rfl, _⟩ := h2
  obtain ⟨ao2, cap2, rfl, _⟩ := h3
  obtain ⟨bo2, bcap2, rfl, _⟩ := h4
  have q1 := strB_size q.m
  have q2 := strB_size q.t
  have d1 : (10000 : Int) < ((szH 0 q.fs : Nat) : Int) := by omega
  clear hT hE hP k1 k2
  clear hz
  generalize szH 0 q.fs = Z at *
  go_enter Tryz.func4, Tryz.ntmps4
  go_wp2_with fail
  refine (awake8_any _ (Utf8Tabs_below HT.out HX0.out.bw) (HE.out.below HX0.out.bw) (HP.out.below HX0.out.bw)).mono ?_
  rintro e w1 ⟨rfl, hb1⟩
  have HX1 := Lib.hid (HX0.out.next hb1)
  clear hb1
  obtain ⟨x0, x1, x2, x3⟩ := HX1.out.bq
  obtain ⟨u0, u1, u2⟩ := HX1.out.bp
  go_wp2_with fail
  refine (cS1 _ HX1.out.fq).mono ?_
  rintro e w2 ⟨rfl, hb2⟩
  have HX2 := Lib.hid (HX1.out.next hb2)
  clear hb2
  clear x0 x1 x2 x3 u0 u1 u2
  obtain ⟨x0, x1, x2, x3⟩ := HX2.out.bq
  obtain ⟨u0, u1, u2⟩ := HX2.out.bp
  go_wp2_with fail
  go_ret
  exact ⟨rfl, HX2.out.bw⟩

set_option maxRecDepth 100000 in
set_option maxHeartbeats 8000000 in
theorem mprints_big2 (q : Rq) (p : Rp) (v vb v2 vb2 : Value) (me : ByteArray) (w : World) (h1 : Flds 0 w v q.fs) (h2 : BytF 0 w vb q.b) (h3 : Flds 0 w v2 p.fs) (h4 : BytF 0 w vb2 p.b) (k1 : FldsIn q.fs) (k2 : FldsIn p.fs) (_ : q.m.length ≤ 140737488355328) (_ : q.t.length ≤ 140737488355328) (_ : q.b.length ≤ 140737488355328) (_ : p.b.length ≤ 140737488355328) (_ : me.size ≤ 140737488355328) (hT : Tabs w) (hE : Errs w) (hP : Pow w) (hy : ¬ 10000 < szH 0 q.fs) (hz : 10000 < szH 0 p.fs) :
    Calls Tryz.prog 4 #[.agg #[.string (strB q.m), .string (strB q.t), v, vb], .agg #[.int .i64 p.n, v2, vb2], .string me] w fun e w' => e = .returned (.bool true) ∧ Below w.heap.size w w' := by
  have HX0 := Lib.hid (Box2.made w q p v vb v2 vb2 h1 h2 h3 h4)
  have HT := Lib.hid hT
  have HE := Lib.hid hE
  have HP := Lib.hid hP
  have cS1 := fun W h => rsize_any 0 v q.fs W h k1
  have cS2 := fun W h => rsize_any 0 v2 p.fs W h k2
  obtain ⟨ao, cap, rfl, _⟩ := h1
  obtain ⟨bo, bcap, rfl, _⟩ := h2
  obtain ⟨ao2, cap2, rfl, _⟩ := h3
  obtain ⟨bo2, bcap2, rfl, _⟩ := h4
  have q1 := strB_size q.m
  have q2 := strB_size q.t
  have d1 : ¬ (10000 : Int) < ((szH 0 q.fs : Nat) : Int) := by omega
  have d2 : (10000 : Int) < ((szH 0 p.fs : Nat) : Int) := by omega
  clear hT hE hP k1 k2
  clear hy hz
  generalize szH 0 q.fs = Z at *
  generalize szH 0 p.fs = Z2 at *
  go_enter Tryz.func4, Tryz.ntmps4
  go_wp2_with fail
  refine (awake8_any _ (Utf8Tabs_below HT.out HX0.out.bw) (HE.out.below HX0.out.bw) (HP.out.below HX0.out.bw)).mono ?_
  rintro e w1 ⟨rfl, hb1⟩
  have HX1 := Lib.hid (HX0.out.next hb1)
  clear hb1
  obtain ⟨x0, x1, x2, x3⟩ := HX1.out.bq
  obtain ⟨u0, u1, u2⟩ := HX1.out.bp
  go_wp2_with fail
  refine (cS1 _ HX1.out.fq).mono ?_
  rintro e w2 ⟨rfl, hb2⟩
  have HX2 := Lib.hid (HX1.out.next hb2)
  clear hb2
  clear x0 x1 x2 x3 u0 u1 u2
  obtain ⟨x0, x1, x2, x3⟩ := HX2.out.bq
  obtain ⟨u0, u1, u2⟩ := HX2.out.bp
  go_wp2_with fail
  refine (cS2 _ HX2.out.fp).mono ?_
  rintro e w3 ⟨rfl, hb3⟩
  have HX3 := Lib.hid (HX2.out.next hb3)
  clear hb3
  clear x0 x1 x2 x3 u0 u1 u2
  obtain ⟨x0, x1, x2, x3⟩ := HX3.out.bq
  obtain ⟨u0, u1, u2⟩ := HX3.out.bp
  go_wp2_with fail
  go_ret
  exact ⟨rfl, HX3.out.bw⟩

set_option maxRecDepth 100000 in
set_option maxHeartbeats 8000000 in
theorem mprints_big3 (q : Rq) (p : Rp) (v vb v2 vb2 : Value) (me : ByteArray) (w : World) (h1 : Flds 0 w v q.fs) (h2 : BytF 0 w vb q.b) (h3 : Flds 0 w v2 p.fs) (h4 : BytF 0 w vb2 p.b) (k1 : FldsIn q.fs) (k2 : FldsIn p.fs) (z1 : q.m.length ≤ 140737488355328) (z2 : q.t.length ≤ 140737488355328) (z3 : q.b.length ≤ 140737488355328) (z4 : p.b.length ≤ 140737488355328) (z5 : me.size ≤ 140737488355328) (hT : Tabs w) (hE : Errs w) (hP : Pow w) (hy : ¬ 10000 < szH 0 q.fs) (hz : ¬ 10000 < szH 0 p.fs) (hs : 5000 < q.m.length + q.t.length + q.b.length + p.b.length + me.size) :
    Calls Tryz.prog 4 #[.agg #[.string (strB q.m), .string (strB q.t), v, vb], .agg #[.int .i64 p.n, v2, vb2], .string me] w fun e w' => e = .returned (.bool true) ∧ Below w.heap.size w w' := by
  have HX0 := Lib.hid (Box2.made w q p v vb v2 vb2 h1 h2 h3 h4)
  have HT := Lib.hid hT
  have HE := Lib.hid hE
  have HP := Lib.hid hP
  have cS1 := fun W h => rsize_any 0 v q.fs W h k1
  have cS2 := fun W h => rsize_any 0 v2 p.fs W h k2
  obtain ⟨ao, cap, rfl, _⟩ := h1
  obtain ⟨bo, bcap, rfl, _⟩ := h2
  obtain ⟨ao2, cap2, rfl, _⟩ := h3
  obtain ⟨bo2, bcap2, rfl, _⟩ := h4
  have q1 := strB_size q.m
  have q2 := strB_size q.t
  have d1 : ¬ (10000 : Int) < ((szH 0 q.fs : Nat) : Int) := by omega
  have d2 : ¬ (10000 : Int) < ((szH 0 p.fs : Nat) : Int) := by omega
  have d3 : (5000 : Int) < ((strB q.m).size : Int) + ((strB q.t).size : Int) + (q.b.length : Int) + (p.b.length : Int) + (me.size : Int) := by rewrite [q1, q2]; omega
  have y1 : (strB q.m).size ≤ 140737488355328 := by omega
  have y2 : (strB q.t).size ≤ 140737488355328 := by omega
  clear hT hE hP k1 k2
  clear hy hz hs q1 q2
  generalize szH 0 q.fs = Z at *
  generalize szH 0 p.fs = Z2 at *
  go_enter Tryz.func4, Tryz.ntmps4
  go_wp2_with fail
  refine (awake8_any _ (Utf8Tabs_below HT.out HX0.out.bw) (HE.out.below HX0.out.bw) (HP.out.below HX0.out.bw)).mono ?_
  rintro e w1 ⟨rfl, hb1⟩
  have HX1 := Lib.hid (HX0.out.next hb1)
  clear hb1
  obtain ⟨x0, x1, x2, x3⟩ := HX1.out.bq
  obtain ⟨u0, u1, u2⟩ := HX1.out.bp
  go_wp2_with fail
  refine (cS1 _ HX1.out.fq).mono ?_
  rintro e w2 ⟨rfl, hb2⟩
  have HX2 := Lib.hid (HX1.out.next hb2)
  clear hb2
  clear x0 x1 x2 x3 u0 u1 u2
  obtain ⟨x0, x1, x2, x3⟩ := HX2.out.bq
  obtain ⟨u0, u1, u2⟩ := HX2.out.bp
  go_wp2_with fail
  refine (cS2 _ HX2.out.fp).mono ?_
  rintro e w3 ⟨rfl, hb3⟩
  have HX3 := Lib.hid (HX2.out.next hb3)
  clear hb3
  clear x0 x1 x2 x3 u0 u1 u2
  obtain ⟨x0, x1, x2, x3⟩ := HX3.out.bq
  obtain ⟨u0, u1, u2⟩ := HX3.out.bp
  go_wp2_with fail
  go_ret
  exact ⟨rfl, HX3.out.bw⟩

set_option maxRecDepth 100000 in
set_option maxHeartbeats 8000000 in
theorem mprints_small (q : Rq) (p : Rp) (v vb v2 vb2 : Value) (me : ByteArray) (w : World) (h1 : Flds 0 w v q.fs) (h2 : BytF 0 w vb q.b) (h3 : Flds 0 w v2 p.fs) (h4 : BytF 0 w vb2 p.b) (k1 : FldsIn q.fs) (k2 : FldsIn p.fs) (z1 : q.m.length ≤ 140737488355328) (z2 : q.t.length ≤ 140737488355328) (z3 : q.b.length ≤ 140737488355328) (z4 : p.b.length ≤ 140737488355328) (z5 : me.size ≤ 140737488355328) (hT : Tabs w) (hE : Errs w) (hP : Pow w) (hy : ¬ 10000 < szH 0 q.fs) (hz : ¬ 10000 < szH 0 p.fs) (hs : ¬ 5000 < q.m.length + q.t.length + q.b.length + p.b.length + me.size) :
    Calls Tryz.prog 4 #[.agg #[.string (strB q.m), .string (strB q.t), v, vb], .agg #[.int .i64 p.n, v2, vb2], .string me] w fun e w' => e = .returned (.bool true) ∧ Below w.heap.size w w' := by
  have HX0 := Lib.hid (Box2.made w q p v vb v2 vb2 h1 h2 h3 h4)
  have HT := Lib.hid hT
  have HE := Lib.hid hE
  have HP := Lib.hid hP
  have cS1 := fun W h => rsize_any 0 v q.fs W h k1
  have cS2 := fun W h => rsize_any 0 v2 p.fs W h k2
  obtain ⟨ao, cap, rfl, _⟩ := h1
  obtain ⟨bo, bcap, rfl, _⟩ := h2
  obtain ⟨ao2, cap2, rfl, _⟩ := h3
  obtain ⟨bo2, bcap2, rfl, _⟩ := h4
  have q1 := strB_size q.m
  have q2 := strB_size q.t
  have d1 : ¬ (10000 : Int) < ((szH 0 q.fs : Nat) : Int) := by omega
  have d2 : ¬ (10000 : Int) < ((szH 0 p.fs : Nat) : Int) := by omega
  have d3 : ¬ (5000 : Int) < ((strB q.m).size : Int) + ((strB q.t).size : Int) + (q.b.length : Int) + (p.b.length : Int) + (me.size : Int) := by rewrite [q1, q2]; omega
  have y1 : (strB q.m).size ≤ 140737488355328 := by omega
  have y2 : (strB q.t).size ≤ 140737488355328 := by omega
  obtain ⟨g1, g2⟩ := szH_ok q.fs (by omega)
  obtain ⟨g3, g4⟩ := szH_ok p.fs (by omega)
  have f1 := prF_ge q.fs
  have f2 := prF_ge p.fs
  have c1 := fun W h hb h1 h2 => mprq_any 0 0 q (.slice ao q.fs.length cap) (.slice bo q.b.length bcap) W h g1 (by omega) hb (by omega) (by omega) (by omega) h1 h2
  have c2 := fun W h hb => rprq_any 0 0 q (.slice ao q.fs.length cap) (.slice bo q.b.length bcap) W h g1 (by omega) hb (by omega) (by omega) (by omega)
  have c3 := fun W h hb h1 h2 => mprp_any 0 0 p me (.slice ao2 p.fs.length cap2) (.slice bo2 p.b.length bcap2) W h g3 hb (by omega) h1 h2
  have c4 := fun W h hb => rprp_any 0 0 p me (.slice ao2 p.fs.length cap2) (.slice bo2 p.b.length bcap2) W h g3 (by omega) hb (by omega)
  obtain ⟨S, E, hse⟩ : ∃ S E, textH (prQ q) = .tuple #[.string S, .int .i64 E] := by cases prQ q <;> exact ⟨_, _, rfl⟩
  obtain ⟨S2, E2, hse2⟩ : ∃ S E, textH (prP p me) = .tuple #[.string S, .int .i64 E] := by cases prP p me <;> exact ⟨_, _, rfl⟩
  rw [hse] at c1 c2
  rw [hse2] at c3 c4
  have c5 := fun W (hS : heldS w p.n W) => (mbare_any p.n me W).mono fun e w' (hh : _ ∧ Below W.heap.size W w') => (⟨hh.1, heldS_next hS hh.2⟩ : _ ∧ heldS w p.n w')
  have c6 := fun W => rbare_any p.n me W
  clear hT hE hP k1 k2
  clear hy hz hs q1 q2 g1 g2 g3 g4 f1 f2 hse hse2
  generalize szH 0 q.fs = Z at *
  generalize szH 0 p.fs = Z2 at *
  generalize bareB p.n me = ba at *
  go_enter Tryz.func4, Tryz.ntmps4
  go_wp2_with fail
  refine (awake8_any _ (Utf8Tabs_below HT.out HX0.out.bw) (HE.out.below HX0.out.bw) (HP.out.below HX0.out.bw)).mono ?_
  rintro e w1 ⟨rfl, hb1⟩
  have HX1 := Lib.hid (HX0.out.next hb1)
  clear hb1
  obtain ⟨x0, x1, x2, x3⟩ := HX1.out.bq
  obtain ⟨u0, u1, u2⟩ := HX1.out.bp
  go_wp2_with fail
  refine (cS1 _ HX1.out.fq).mono ?_
  rintro e w2 ⟨rfl, hb2⟩
  have HX2 := Lib.hid (HX1.out.next hb2)
  clear hb2
  clear x0 x1 x2 x3 u0 u1 u2
  obtain ⟨x0, x1, x2, x3⟩ := HX2.out.bq
  obtain ⟨u0, u1, u2⟩ := HX2.out.bp
  go_wp2_with fail
  refine (cS2 _ HX2.out.fp).mono ?_
  rintro e w3 ⟨rfl, hb3⟩
  have HX3 := Lib.hid (HX2.out.next hb3)
  clear hb3
  clear x0 x1 x2 x3 u0 u1 u2
  obtain ⟨x0, x1, x2, x3⟩ := HX3.out.bq
  obtain ⟨u0, u1, u2⟩ := HX3.out.bp
  go_wp2_with fail
  refine (c1 _ HX3.out.fq HX3.out.yq (Utf8Tabs_below HT.out HX3.out.bw) (HP.out.below HX3.out.bw)).mono ?_
  rintro e w4 ⟨rfl, hb4⟩
  have HX4 := Lib.hid (HX3.out.next hb4)
  clear hb4
  clear c1
  clear x0 x1 x2 x3 u0 u1 u2
  obtain ⟨x0, x1, x2, x3⟩ := HX4.out.bq
  obtain ⟨u0, u1, u2⟩ := HX4.out.bp
  go_wp2_with fail
  refine (c2 _ HX4.out.fq HX4.out.yq).mono ?_
  rintro e w5 ⟨rfl, hb5⟩
  have HX5 := Lib.hid (HX4.out.next hb5)
  clear hb5
  clear c2
  clear x0 x1 x2 x3 u0 u1 u2
  obtain ⟨x0, x1, x2, x3⟩ := HX5.out.bq
  obtain ⟨u0, u1, u2⟩ := HX5.out.bp
  go_wp2_with fail
  refine (c3 _ HX5.out.fp HX5.out.yp (Utf8Tabs_below HT.out HX5.out.bw) (HP.out.below HX5.out.bw)).mono ?_
  rintro e w6 ⟨rfl, hb6⟩
  have HX6 := Lib.hid (HX5.out.next hb6)
  clear hb6
  clear c3
  clear x0 x1 x2 x3 u0 u1 u2
  obtain ⟨x0, x1, x2, x3⟩ := HX6.out.bq
  obtain ⟨u0, u1, u2⟩ := HX6.out.bp
  go_wp2_with fail
  refine (c4 _ HX6.out.fp HX6.out.yp).mono ?_
  rintro e w7 ⟨rfl, hb7⟩
  have HX7 := Lib.hid (HX6.out.next hb7)
  clear hb7
  clear c4
  clear x0 x1 x2 x3 u0 u1 u2
  obtain ⟨u0, _, _⟩ := HX7.out.bp
  have hS0 : heldS w p.n w7 := ⟨u0, HX7.out.bw, HX7.out.bp.lt⟩
  have hS1 := heldS_next hS0 (Below.refl _ _).drew
  have r1 : (S.toList == S.toList) = true := beq_self_eq_true _
  have r2 : (E == E) = true := beq_self_eq_true _
  have r3 : (S2.toList == S2.toList) = true := beq_self_eq_true _
  have r4 : (E2 == E2) = true := beq_self_eq_true _
  clear u0 hS0
  generalize p.n = PN at *
  cases ba
  all_goals
    go_wp2_with fail
    go_region_held3 (fun W => W.cell? ⟨w.heap.size + 1, 0, none⟩ = some (.int .i64 PN) ∧ Below w.heap.size w W ∧ w.heap.size + 1 < W.heap.size) (with_reducible assumption) (first | (go_at_call 19; with_reducible refine (c5 _ (by with_reducible assumption)).mono ?_; rintro e w' ⟨rfl, hh⟩) | (go_at_call 20; refine (c6 _).mono ?_; rintro e w' ⟨rfl, rfl⟩))
    all_goals
      go_wp2_with fail
      go_ret
      exact ⟨rfl, (by assumption : heldS w PN _).2.1⟩

theorem mprints_walk (q : Rq) (p : Rp) (v vb v2 vb2 : Value) (me : ByteArray) (w : World) (h1 : Flds 0 w v q.fs) (h2 : BytF 0 w vb q.b) (h3 : Flds 0 w v2 p.fs) (h4 : BytF 0 w vb2 p.b) (k1 : FldsIn q.fs) (k2 : FldsIn p.fs) (z1 : q.m.length ≤ 140737488355328) (z2 : q.t.length ≤ 140737488355328) (z3 : q.b.length ≤ 140737488355328) (z4 : p.b.length ≤ 140737488355328) (z5 : me.size ≤ 140737488355328) (hT : Tabs w) (hE : Errs w) (hP : Pow w) :
    Calls Tryz.prog 4 #[.agg #[.string (strB q.m), .string (strB q.t), v, vb], .agg #[.int .i64 p.n, v2, vb2], .string me] w fun e w' => e = .returned (.bool true) ∧ Below w.heap.size w w' := by
  by_cases hy : 10000 < szH 0 q.fs
  · exact mprints_big1 q p v vb v2 vb2 me w h1 h2 h3 h4 k1 k2 z1 z2 z3 z4 z5 hT hE hP hy
  by_cases hz : 10000 < szH 0 p.fs
  · exact mprints_big2 q p v vb v2 vb2 me w h1 h2 h3 h4 k1 k2 z1 z2 z3 z4 z5 hT hE hP hy hz
  by_cases hs : 5000 < q.m.length + q.t.length + q.b.length + p.b.length + me.size
  · exact mprints_big3 q p v vb v2 vb2 me w h1 h2 h3 h4 k1 k2 z1 z2 z3 z4 z5 hT hE hP hy hz hs
  exact mprints_small q p v vb v2 vb2 me w h1 h2 h3 h4 k1 k2 z1 z2 z3 z4 z5 hT hE hP hy hz hs

end Go.Proofs.YthbfcamfapgodaaGreatDoor
