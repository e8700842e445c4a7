/- The contracts of parseFirst, parseSecond, parseThird of package date. -/
import Derived.Test.YtfabkceefigmhaaDoorDatG
namespace Go.Proofs.YtfabkceefigmhaaDoor
open Go.RowKit

/-- The world with two new zero moments. -/
abbrev twoMom (w : World) : World := (w.alloc (.cells #[.int .i64 0, .int .i64 0, .int .i64 0, .int .i64 0] 59)).alloc (.cells #[.int .i64 0, .int .i64 0, .int .i64 0, .int .i64 0] 59)
theorem twoMom_below (w : World) : Below w.heap.size w (twoMom w) := by
  have h1 : Below w.heap.size w (w.alloc (.cells #[.int .i64 0, .int .i64 0, .int .i64 0, .int .i64 0] 59)) := (Below.refl _ _).alloc (Nat.le_refl _) _
  exact h1.alloc (by simp) _

/-- What is known in a parser's midst: the reader, the moment and the zero one. -/
structure Mid (w W : World) (b : Nat) (s : St) (y m d c : Int) : Prop where
  t : Txt W b s
  r : Four W w.heap.size 0 0 0 0
  m : Four W (w.heap.size + 1) y m d c
  mv : Moved b w W
  lt : b < w.heap.size
theorem Mid.start {w : World} {b : Nat} {s : St} (h : Txt w b s) : Mid w (twoMom w) b s 0 0 0 0 :=
  ⟨h.below (twoMom_below w), zero_four w, zero_four2 w, Moved.of_below (twoMom_below w), h.lt⟩
theorem Mid.call {w W W' : World} {b : Nat} {s s' : St} {y m d c : Int} (h : Mid w W b s y m d c) (hT : Txt W' b s') (hM : Moved b W W') : Mid w W' b s' y m d c :=
  ⟨hT, h.r.moved hM (by have := h.lt; omega), h.m.moved hM (by have := h.lt; omega), h.mv.trans hM, h.lt⟩
theorem Mid.ne {w W : World} {b : Nat} {s : St} {y m d c : Int} (h : Mid w W b s y m d c) : w.heap.size + 1 ≠ b := by have := h.lt; omega
theorem Mid.setY {w W : World} {b : Nat} {s : St} {y m d c : Int} (h : Mid w W b s y m d c) (x : Int) : Mid w (W.setCell ⟨w.heap.size + 1, 0, none⟩ (.int .i64 x)) b s x m d c :=
  ⟨h.t.other h.ne _, h.r.other (by omega) _, h.m.set0 x, h.mv.setNew (by omega) _, h.lt⟩
theorem Mid.setM {w W : World} {b : Nat} {s : St} {y m d c : Int} (h : Mid w W b s y m d c) (x : Int) : Mid w (W.setCell ⟨w.heap.size + 1, 1, none⟩ (.int .i64 x)) b s y x d c :=
  ⟨h.t.other h.ne _, h.r.other (by omega) _, h.m.set1 x, h.mv.setNew (by omega) _, h.lt⟩
theorem Mid.setD {w W : World} {b : Nat} {s : St} {y m d c : Int} (h : Mid w W b s y m d c) (x : Int) : Mid w (W.setCell ⟨w.heap.size + 1, 2, none⟩ (.int .i64 x)) b s y m x c :=
  ⟨h.t.other h.ne _, h.r.other (by omega) _, h.m.set2 x, h.mv.setNew (by omega) _, h.lt⟩
theorem Mid.setC {w W : World} {b : Nat} {s : St} {y m d c : Int} (h : Mid w W b s y m d c) (x : Int) : Mid w (W.setCell ⟨w.heap.size + 1, 3, none⟩ (.int .i64 x)) b s y m d x :=
  ⟨h.t.other h.ne _, h.r.other (by omega) _, h.m.set3 x, h.mv.setNew (by omega) _, h.lt⟩

set_option maxRecDepth 100000 in
set_option maxHeartbeats 2000000 in
theorem parseFirst_any : Reads2 35 p0L := by
  intro b s w h hC
  have H0 := Lib.hid (Mid.start h)
  have HCw := Lib.hid (fun W (hm : Moved b w W) => hC.moved h hm)
  clear h hC
  have c1 := fun W h => skip_any b s ⟨#[44, 32]⟩ W h
  have c2 := fun W h => number_any 2 b (skL [44, 32] s) W h (by omega)
  have c3 := fun W h => skip_any b (nuL 2 (skL [44, 32] s)).2 ⟨#[32]⟩ W h
  rw [show (⟨#[44, 32]⟩ : ByteArray).data.toList = [44, 32] from rfl] at c1
  rw [show (⟨#[32]⟩ : ByteArray).data.toList = [32] from rfl] at c3
  unfold p0L
  dsimp only
  generalize skL [44, 32] s = s1 at *
  generalize nuL 2 s1 = q1 at *
  obtain ⟨n1, t1⟩ := q1
  dsimp only at *
  generalize skL [32] t1 = s2 at *
  have c4 := fun W h hC => month_read b s2 W h hC
  generalize nmL moT 1 12 s2 = q2 at *
  obtain ⟨n2, t2⟩ := q2
  dsimp only at *
  have c5 := fun W h => skip_any b t2 ⟨#[32]⟩ W h
  rw [show (⟨#[32]⟩ : ByteArray).data.toList = [32] from rfl] at c5
  generalize skL [32] t2 = s3 at *
  have c6 := fun W h => number_any 4 b s3 W h (by omega)
  generalize nuL 4 s3 = q3 at *
  obtain ⟨n3, t3⟩ := q3
  dsimp only at *
  have c7 := fun W h => skip_any b t3 ⟨#[32]⟩ W h
  rw [show (⟨#[32]⟩ : ByteArray).data.toList = [32] from rfl] at c7
  generalize skL [32] t3 = s4 at *
  have c8 := fun W h => clock_any b s4 W h
  generalize ckL s4 = q4 at *
  obtain ⟨n4, t4⟩ := q4
  dsimp only at *
  have c9 := fun W h => skip_any b t4 ⟨#[32, 71, 77, 84]⟩ W h
  rw [show (⟨#[32, 71, 77, 84]⟩ : ByteArray).data.toList = [32, 71, 77, 84] from rfl] at c9
  generalize skL [32, 71, 77, 84] t4 = s5 at *
  unfold momV
  dsimp only
  go_enter Tryd.func35, Tryd.ntmps35
  go_wp2_with fail
  refine (c1 _ H0.out.t).mono ?_
  rintro e w1 ⟨rfl, hT, hM⟩
  have H1 := Lib.hid (H0.out.call hT hM)
  clear hT hM H0
  go_wp2_with fail
  refine (c2 _ H1.out.t).mono ?_
  rintro e w2 ⟨rfl, hT, hM⟩
  have H2 := Lib.hid (H1.out.call hT hM)
  clear hT hM H1
  have k := H2.out.m.c2
  have f := H2.out.m.f2
  go_wp2_with fail
  clear k f
  have H3 := Lib.hid (H2.out.setD n1)
  clear H2
  refine (c3 _ H3.out.t).mono ?_
  rintro e w3 ⟨rfl, hT, hM⟩
  have H4 := Lib.hid (H3.out.call hT hM)
  clear hT hM H3
  go_wp2_with fail
  refine (c4 _ H4.out.t (HCw.out _ H4.out.mv)).mono ?_
  rintro e w4 ⟨rfl, hT, hM⟩
  have H5 := Lib.hid (H4.out.call hT hM)
  clear hT hM H4
  have k := H5.out.m.c1
  have f := H5.out.m.f1
  go_wp2_with fail
  clear k f
  have H6 := Lib.hid (H5.out.setM n2)
  clear H5
  refine (c5 _ H6.out.t).mono ?_
  rintro e w5 ⟨rfl, hT, hM⟩
  have H7 := Lib.hid (H6.out.call hT hM)
  clear hT hM H6
  go_wp2_with fail
  refine (c6 _ H7.out.t).mono ?_
  rintro e w6 ⟨rfl, hT, hM⟩
  have H8 := Lib.hid (H7.out.call hT hM)
  clear hT hM H7
  have k := H8.out.m.c0
  have f := H8.out.m.f0
  go_wp2_with fail
  clear k f
  have H9 := Lib.hid (H8.out.setY n3)
  clear H8
  refine (c7 _ H9.out.t).mono ?_
  rintro e w7 ⟨rfl, hT, hM⟩
  have HA := Lib.hid (H9.out.call hT hM)
  clear hT hM H9
  go_wp2_with fail
  refine (c8 _ HA.out.t).mono ?_
  rintro e w8 ⟨rfl, hT, hM⟩
  have HB := Lib.hid (HA.out.call hT hM)
  clear hT hM HA
  have k := HB.out.m.c3
  have f := HB.out.m.f3
  go_wp2_with fail
  clear k f
  have HC := Lib.hid (HB.out.setC n4)
  clear HB
  refine (c9 _ HC.out.t).mono ?_
  rintro e w9 ⟨rfl, hT, hM⟩
  have HD := Lib.hid (HC.out.call hT hM)
  clear hT hM HC
  have k0 := HD.out.m.c0
  have k1 := HD.out.m.c1
  have k2 := HD.out.m.c2
  have k3 := HD.out.m.c3
  have r0 := HD.out.r.c0
  have r1 := HD.out.r.c1
  have r2 := HD.out.r.c2
  have r3 := HD.out.r.c3
  have f0 := HD.out.r.f0
  have f1 := HD.out.r.f1
  have f2 := HD.out.r.f2
  have f3 := HD.out.r.f3
  go_wp2_with fail
  exact bodyPost_ret (v := .agg #[.int .i64 n3, .int .i64 n2, .int .i64 n1, .int .i64 n4]) (by simp [results, Tryd.results35, go_sem, r0, r1, r2, r3]) rfl ⟨rfl, (((HD.out.t.other (by have := HD.out.lt; omega) _).other (by have := HD.out.lt; omega) _).other (by have := HD.out.lt; omega) _).other (by have := HD.out.lt; omega) _, (((HD.out.mv.setNew (Nat.le_refl _) _).setNew (Nat.le_refl _) _).setNew (Nat.le_refl _) _).setNew (Nat.le_refl _) _⟩

set_option maxRecDepth 100000 in
set_option maxHeartbeats 2000000 in
theorem parseSecond_any : Reads2 37 p1L := by
  intro b s w h hC
  have H0 := Lib.hid (Mid.start h)
  have HCw := Lib.hid (fun W (hm : Moved b w W) => hC.moved h hm)
  clear h hC
  have c1 := fun W h => skip_any b s ⟨#[44, 32]⟩ W h
  have c2 := fun W h => number_any 2 b (skL [44, 32] s) W h (by omega)
  have c3 := fun W h => skip_any b (nuL 2 (skL [44, 32] s)).2 ⟨#[45]⟩ W h
  rw [show (⟨#[44, 32]⟩ : ByteArray).data.toList = [44, 32] from rfl] at c1
  rw [show (⟨#[45]⟩ : ByteArray).data.toList = [45] from rfl] at c3
  unfold p1L
  dsimp only
  generalize skL [44, 32] s = s1 at *
  generalize nuL 2 s1 = q1 at *
  obtain ⟨n1, t1⟩ := q1
  dsimp only at *
  generalize skL [45] t1 = s2 at *
  have c4 := fun W h hC => month_read b s2 W h hC
  generalize nmL moT 1 12 s2 = q2 at *
  obtain ⟨n2, t2⟩ := q2
  dsimp only at *
  have c5 := fun W h => skip_any b t2 ⟨#[45]⟩ W h
  rw [show (⟨#[45]⟩ : ByteArray).data.toList = [45] from rfl] at c5
  generalize skL [45] t2 = s3 at *
  have c6 := fun W h => number_any 2 b s3 W h (by omega)
  have hn3 := nuL_lt 2 s3
  generalize nuL 2 s3 = q3 at *
  obtain ⟨n3, t3⟩ := q3
  dsimp only at *
  have cY := fun W => fullYear_any n3 W (by omega)
  generalize fyN n3 = n5 at *
  have c7 := fun W h => skip_any b t3 ⟨#[32]⟩ W h
  rw [show (⟨#[32]⟩ : ByteArray).data.toList = [32] from rfl] at c7
  generalize skL [32] t3 = s4 at *
  have c8 := fun W h => clock_any b s4 W h
  generalize ckL s4 = q4 at *
  obtain ⟨n4, t4⟩ := q4
  dsimp only at *
  have c9 := fun W h => skip_any b t4 ⟨#[32, 71, 77, 84]⟩ W h
  rw [show (⟨#[32, 71, 77, 84]⟩ : ByteArray).data.toList = [32, 71, 77, 84] from rfl] at c9
  generalize skL [32, 71, 77, 84] t4 = s5 at *
  unfold momV
  dsimp only
  go_enter Tryd.func37, Tryd.ntmps37
  go_wp2_with fail
  refine (c1 _ H0.out.t).mono ?_
  rintro e w1 ⟨rfl, hT, hM⟩
  have H1 := Lib.hid (H0.out.call hT hM)
  clear hT hM H0
  go_wp2_with fail
  refine (c2 _ H1.out.t).mono ?_
  rintro e w2 ⟨rfl, hT, hM⟩
  have H2 := Lib.hid (H1.out.call hT hM)
  clear hT hM H1
  have k := H2.out.m.c2
  have f := H2.out.m.f2
  go_wp2_with fail
  clear k f
  have H3 := Lib.hid (H2.out.setD n1)
  clear H2
  refine (c3 _ H3.out.t).mono ?_
  rintro e w3 ⟨rfl, hT, hM⟩
  have H4 := Lib.hid (H3.out.call hT hM)
  clear hT hM H3
  go_wp2_with fail
  refine (c4 _ H4.out.t (HCw.out _ H4.out.mv)).mono ?_
  rintro e w4 ⟨rfl, hT, hM⟩
  have H5 := Lib.hid (H4.out.call hT hM)
  clear hT hM H4
  have k := H5.out.m.c1
  have f := H5.out.m.f1
  go_wp2_with fail
  clear k f
  have H6 := Lib.hid (H5.out.setM n2)
  clear H5
  refine (c5 _ H6.out.t).mono ?_
  rintro e w5 ⟨rfl, hT, hM⟩
  have H7 := Lib.hid (H6.out.call hT hM)
  clear hT hM H6
  go_wp2_with fail
  refine (c6 _ H7.out.t).mono ?_
  rintro e w6 ⟨rfl, hT, hM⟩
  have H8 := Lib.hid (H7.out.call hT hM)
  clear hT hM H7
  go_wp2_with fail
  refine (cY _).mono ?_
  rintro e wy ⟨rfl, rfl⟩
  have k := H8.out.m.c0
  have f := H8.out.m.f0
  go_wp2_with fail
  clear k f
  have H9 := Lib.hid (H8.out.setY n5)
  clear H8
  refine (c7 _ H9.out.t).mono ?_
  rintro e w7 ⟨rfl, hT, hM⟩
  have HA := Lib.hid (H9.out.call hT hM)
  clear hT hM H9
  go_wp2_with fail
  refine (c8 _ HA.out.t).mono ?_
  rintro e w8 ⟨rfl, hT, hM⟩
  have HB := Lib.hid (HA.out.call hT hM)
  clear hT hM HA
  have k := HB.out.m.c3
  have f := HB.out.m.f3
  go_wp2_with fail
  clear k f
  have HC := Lib.hid (HB.out.setC n4)
  clear HB
  refine (c9 _ HC.out.t).mono ?_
  rintro e w9 ⟨rfl, hT, hM⟩
  have HD := Lib.hid (HC.out.call hT hM)
  clear hT hM HC
  have k0 := HD.out.m.c0
  have k1 := HD.out.m.c1
  have k2 := HD.out.m.c2
  have k3 := HD.out.m.c3
  have r0 := HD.out.r.c0
  have r1 := HD.out.r.c1
  have r2 := HD.out.r.c2
  have r3 := HD.out.r.c3
  have f0 := HD.out.r.f0
  have f1 := HD.out.r.f1
  have f2 := HD.out.r.f2
  have f3 := HD.out.r.f3
  go_wp2_with fail
  exact bodyPost_ret (v := .agg #[.int .i64 n5, .int .i64 n2, .int .i64 n1, .int .i64 n4]) (by simp [results, Tryd.results37, go_sem, r0, r1, r2, r3]) rfl ⟨rfl, (((HD.out.t.other (by have := HD.out.lt; omega) _).other (by have := HD.out.lt; omega) _).other (by have := HD.out.lt; omega) _).other (by have := HD.out.lt; omega) _, (((HD.out.mv.setNew (Nat.le_refl _) _).setNew (Nat.le_refl _) _).setNew (Nat.le_refl _) _).setNew (Nat.le_refl _) _⟩

set_option maxRecDepth 100000 in
set_option maxHeartbeats 2000000 in
theorem parseThird_any : Reads2 38 p2L := by
  intro b s w h hC
  have H0 := Lib.hid (Mid.start h)
  have HCw := Lib.hid (fun W (hm : Moved b w W) => hC.moved h hm)
  clear h hC
  have c1 := fun W h => skip_any b s ⟨#[32]⟩ W h
  rw [show (⟨#[32]⟩ : ByteArray).data.toList = [32] from rfl] at c1
  unfold p2L
  dsimp only
  generalize skL [32] s = s1 at *
  have c2 := fun W h hC => month_read b s1 W h hC
  generalize nmL moT 1 12 s1 = q1 at *
  obtain ⟨n1, t1⟩ := q1
  dsimp only at *
  have c3 := fun W h => skip_any b t1 ⟨#[32]⟩ W h
  rw [show (⟨#[32]⟩ : ByteArray).data.toList = [32] from rfl] at c3
  generalize skL [32] t1 = s2 at *
  have c4 := fun W h => spacedDay_any b s2 W h
  generalize sdL s2 = q2 at *
  obtain ⟨n2, t2⟩ := q2
  dsimp only at *
  have c5 := fun W h => skip_any b t2 ⟨#[32]⟩ W h
  rw [show (⟨#[32]⟩ : ByteArray).data.toList = [32] from rfl] at c5
  generalize skL [32] t2 = s3 at *
  have c6 := fun W h => clock_any b s3 W h
  generalize ckL s3 = q3 at *
  obtain ⟨n3, t3⟩ := q3
  dsimp only at *
  have c7 := fun W h => skip_any b t3 ⟨#[32]⟩ W h
  rw [show (⟨#[32]⟩ : ByteArray).data.toList = [32] from rfl] at c7
  generalize skL [32] t3 = s4 at *
  have c8 := fun W h => number_any 4 b s4 W h (by omega)
  generalize nuL 4 s4 = q4 at *
  obtain ⟨n4, t4⟩ := q4
  dsimp only at *
  unfold momV
  dsimp only
  go_enter Tryd.func38, Tryd.ntmps38
  go_wp2_with fail
  refine (c1 _ H0.out.t).mono ?_
  rintro e w1 ⟨rfl, hT, hM⟩
  have H1 := Lib.hid (H0.out.call hT hM)
  clear hT hM H0
  go_wp2_with fail
  refine (c2 _ H1.out.t (HCw.out _ H1.out.mv)).mono ?_
  rintro e w2 ⟨rfl, hT, hM⟩
  have H2 := Lib.hid (H1.out.call hT hM)
  clear hT hM H1
  have k := H2.out.m.c1
  have f := H2.out.m.f1
  go_wp2_with fail
  clear k f
  have H3 := Lib.hid (H2.out.setM n1)
  clear H2
  refine (c3 _ H3.out.t).mono ?_
  rintro e w3 ⟨rfl, hT, hM⟩
  have H4 := Lib.hid (H3.out.call hT hM)
  clear hT hM H3
  go_wp2_with fail
  refine (c4 _ H4.out.t).mono ?_
  rintro e w4 ⟨rfl, hT, hM⟩
  have H5 := Lib.hid (H4.out.call hT hM)
  clear hT hM H4
  have k := H5.out.m.c2
  have f := H5.out.m.f2
  go_wp2_with fail
  clear k f
  have H6 := Lib.hid (H5.out.setD n2)
  clear H5
  refine (c5 _ H6.out.t).mono ?_
  rintro e w5 ⟨rfl, hT, hM⟩
  have H7 := Lib.hid (H6.out.call hT hM)
  clear hT hM H6
  go_wp2_with fail
  refine (c6 _ H7.out.t).mono ?_
  rintro e w6 ⟨rfl, hT, hM⟩
  have H8 := Lib.hid (H7.out.call hT hM)
  clear hT hM H7
  have k := H8.out.m.c3
  have f := H8.out.m.f3
  go_wp2_with fail
  clear k f
  have H9 := Lib.hid (H8.out.setC n3)
  clear H8
  refine (c7 _ H9.out.t).mono ?_
  rintro e w7 ⟨rfl, hT, hM⟩
  have HA := Lib.hid (H9.out.call hT hM)
  clear hT hM H9
  go_wp2_with fail
  refine (c8 _ HA.out.t).mono ?_
  rintro e w8 ⟨rfl, hT, hM⟩
  have HB := Lib.hid (HA.out.call hT hM)
  clear hT hM HA
  have k0 := HB.out.m.c0
  have k1 := HB.out.m.c1
  have k2 := HB.out.m.c2
  have k3 := HB.out.m.c3
  have g0 := HB.out.m.f0
  have r0 := HB.out.r.c0
  have r1 := HB.out.r.c1
  have r2 := HB.out.r.c2
  have r3 := HB.out.r.c3
  have f0 := HB.out.r.f0
  have f1 := HB.out.r.f1
  have f2 := HB.out.r.f2
  have f3 := HB.out.r.f3
  go_wp2_with fail
  exact bodyPost_ret (v := .agg #[.int .i64 n4, .int .i64 n1, .int .i64 n2, .int .i64 n3]) (by simp [results, Tryd.results38, go_sem, r0, r1, r2, r3]) rfl ⟨rfl, ((((HB.out.setY n4).t.other (by have := HB.out.lt; omega) _).other (by have := HB.out.lt; omega) _).other (by have := HB.out.lt; omega) _).other (by have := HB.out.lt; omega) _, ((((HB.out.setY n4).mv.setNew (Nat.le_refl _) _).setNew (Nat.le_refl _) _).setNew (Nat.le_refl _) _).setNew (Nat.le_refl _) _⟩

end Go.Proofs.YtfabkceefigmhaaDoor
