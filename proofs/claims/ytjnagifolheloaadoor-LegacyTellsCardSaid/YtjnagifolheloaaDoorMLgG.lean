/- The contract of legacy.Of. -/
import Derived.Test.YtjnagifolheloaaDoorMMapD
import Derived.Test.YtjnagifolheloaaDoorMNamP

namespace Go.Proofs.YtjnagifolheloaaDoor
open Go.RowKit Go.Maps Go.Lib

theorem rulV_nm2 (ds : List Dir) : rulV ds = .agg #[.bool (hasN ds nNoStore), .bool (hasN ds nNoCache), .bool (hasN ds nPrivate), .bool (hasN ds nPublic), .bool (hasN ds nMust), .bool (hasN ds nProxy), .bool (hasN ds nImmut), .bool (hasN ds nOnly), .int .i64 (nm2 ds nMaxAge), .int .i64 (nm2 ds nSMax), .int .i64 (nm2 ds nStale), .int .i64 (nm2 ds nFresh), .int .i64 (nm2 ds nIfErr)] := by
  rw [nm2_stale, nm2_other ds nMaxAge (by decide), nm2_other ds nSMax (by decide), nm2_other ds nFresh (by decide), nm2_other ds nIfErr (by decide)]
  rfl

set_option maxRecDepth 100000 in
set_option maxHeartbeats 4000000 in
theorem of_any (lo : Nat) (v : Value) (ds : List Dir) (w : World) (hv : Dirs lo w v ds) (hok : DirsOk ds) :
    Calls Tryd.prog 12 #[v] w fun e w' => e = .returned (rulV ds) ∧ Below w.heap.size w w' := by
  have cB := fun W (hb : Below w.heap.size w W) => byName_any lo v ds W (hv.below hb) hok
  obtain ⟨ao, cap, rfl, _⟩ := hv
  have HV := Lib.hid (rulV_nm2 ds)
  generalize rulV ds = R at *
  have s0 := fun B W (h : Held W B ds) => set_any B ds nNoStore W h (by decide)
  generalize hasN ds nNoStore = b0 at *
  have s1 := fun B W (h : Held W B ds) => set_any B ds nNoCache W h (by decide)
  generalize hasN ds nNoCache = b1 at *
  have s2 := fun B W (h : Held W B ds) => set_any B ds nPrivate W h (by decide)
  generalize hasN ds nPrivate = b2 at *
  have s3 := fun B W (h : Held W B ds) => set_any B ds nPublic W h (by decide)
  generalize hasN ds nPublic = b3 at *
  have s4 := fun B W (h : Held W B ds) => set_any B ds nMust W h (by decide)
  generalize hasN ds nMust = b4 at *
  have s5 := fun B W (h : Held W B ds) => set_any B ds nProxy W h (by decide)
  generalize hasN ds nProxy = b5 at *
  have s6 := fun B W (h : Held W B ds) => set_any B ds nImmut W h (by decide)
  generalize hasN ds nImmut = b6 at *
  have s7 := fun B W (h : Held W B ds) => set_any B ds nOnly W h (by decide)
  generalize hasN ds nOnly = b7 at *
  have t0 := fun B W (h : Held W B ds) => numberOf_any B ds nMaxAge W h (by decide) hok
  generalize nm2 ds nMaxAge = k0 at *
  have t1 := fun B W (h : Held W B ds) => numberOf_any B ds nSMax W h (by decide) hok
  generalize nm2 ds nSMax = k1 at *
  have t2 := fun B W (h : Held W B ds) => numberOf_any B ds nStale W h (by decide) hok
  generalize nm2 ds nStale = k2 at *
  have t3 := fun B W (h : Held W B ds) => numberOf_any B ds nFresh W h (by decide) hok
  generalize nm2 ds nFresh = k3 at *
  have t4 := fun B W (h : Held W B ds) => numberOf_any B ds nIfErr W h (by decide) hok
  generalize nm2 ds nIfErr = k4 at *
  have e1 : ∀ args W, (callFunc 23 args).run Tryd.prog W = .ok (.enter 23 args) W := enters_of Tryd.func23 (by kernel_rfl) rfl
  have e2 : ∀ args W, (callFunc 24 args).run Tryd.prog W = .ok (.enter 24 args) W := enters_of Tryd.func24 (by kernel_rfl) rfl
  have hmf : ∀ (fn : Fn) (first cap : Array Value) (w : World), (Instr.makeFunc fn first cap).run Tryd.prog w = .ok (.func fn first cap) w := fun _ _ _ _ => rfl
  have HB0 := Lib.hid ((Below.refl w.heap.size w).alloc (Nat.le_refl _) (.cells #[.bool false, .bool false, .bool false, .bool false, .bool false, .bool false, .bool false, .bool false, .int .i64 0, .int .i64 0, .int .i64 0, .int .i64 0, .int .i64 0] 34))
  have HX := Lib.hid (BoxN.made w [.bool false, .bool false, .bool false, .bool false, .bool false, .bool false, .bool false, .bool false, .int .i64 0, .int .i64 0, .int .i64 0, .int .i64 0, .int .i64 0] 34)
  go_enter Tryd.func12, Tryd.ntmps12
  go_wp2_with fail
  refine (cB _ HB0.out).mono ?_
  rintro e w1 ⟨⟨rfl, n, D, hM, hF⟩, hb1⟩
  have hz1 := hb1.size
  have HX1 := Lib.hid (HX.out.next hb1)
  have HB1 := Lib.hid (HB0.out.trans (hb1.mono HB0.out.size))
  have HH := Lib.hid (show Held (w1.alloc (.cells #[.map (some (w.heap.size + 1))] 55)) w1.heap.size ds from ⟨by simp, w.heap.size + 1, by simp, n, D, by simpa using hM.alloc _, hF⟩)
  have hal := (Below.refl w1.heap.size w1).alloc (Nat.le_refl _) (.cells #[.map (some (w.heap.size + 1))] 55)
  have HX := Lib.hid (HX1.out.next hal)
  have HB := Lib.hid (HB1.out.trans (hal.mono HB1.out.size))
  clear cB hM hF hb1 hal HX1 HB1 HB0
  go_wp2_with fail
  generalize w1.heap.size = B at *
  refine (s0 _ _ HH.out).mono ?_
  rintro e v0 ⟨rfl, hb⟩
  have HH := Lib.hid (HH.out.below hb)
  have HX := Lib.hid (HX.out.next hb)
  have HB := Lib.hid (HB.out.trans (hb.mono HB.out.size))
  clear hb s0
  go_wp2_with fail
  refine (s1 _ _ HH.out).mono ?_
  rintro e v1 ⟨rfl, hb⟩
  have HH := Lib.hid (HH.out.below hb)
  have HX := Lib.hid (HX.out.next hb)
  have HB := Lib.hid (HB.out.trans (hb.mono HB.out.size))
  clear hb s1
  go_wp2_with fail
  refine (s2 _ _ HH.out).mono ?_
  rintro e v2 ⟨rfl, hb⟩
  have HH := Lib.hid (HH.out.below hb)
  have HX := Lib.hid (HX.out.next hb)
  have HB := Lib.hid (HB.out.trans (hb.mono HB.out.size))
  clear hb s2
  go_wp2_with fail
  refine (s3 _ _ HH.out).mono ?_
  rintro e v3 ⟨rfl, hb⟩
  have HH := Lib.hid (HH.out.below hb)
  have HX := Lib.hid (HX.out.next hb)
  have HB := Lib.hid (HB.out.trans (hb.mono HB.out.size))
  clear hb s3
  go_wp2_with fail
  refine (s4 _ _ HH.out).mono ?_
  rintro e v4 ⟨rfl, hb⟩
  have HH := Lib.hid (HH.out.below hb)
  have HX := Lib.hid (HX.out.next hb)
  have HB := Lib.hid (HB.out.trans (hb.mono HB.out.size))
  clear hb s4
  go_wp2_with fail
  refine (s5 _ _ HH.out).mono ?_
  rintro e v5 ⟨rfl, hb⟩
  have HH := Lib.hid (HH.out.below hb)
  have HX := Lib.hid (HX.out.next hb)
  have HB := Lib.hid (HB.out.trans (hb.mono HB.out.size))
  clear hb s5
  go_wp2_with fail
  refine (s6 _ _ HH.out).mono ?_
  rintro e v6 ⟨rfl, hb⟩
  have HH := Lib.hid (HH.out.below hb)
  have HX := Lib.hid (HX.out.next hb)
  have HB := Lib.hid (HB.out.trans (hb.mono HB.out.size))
  clear hb s6
  go_wp2_with fail
  refine (s7 _ _ HH.out).mono ?_
  rintro e v7 ⟨rfl, hb⟩
  have HH := Lib.hid (HH.out.below hb)
  have HX := Lib.hid (HX.out.next hb)
  have HB := Lib.hid (HB.out.trans (hb.mono HB.out.size))
  clear hb s7
  go_wp2_with fail
  refine (t0 _ _ HH.out).mono ?_
  rintro e v8 ⟨rfl, hb⟩
  have HH := Lib.hid (HH.out.below hb)
  have HX := Lib.hid (HX.out.next hb)
  have HB := Lib.hid (HB.out.trans (hb.mono HB.out.size))
  clear hb t0
  go_wp2_with fail
  refine (t1 _ _ HH.out).mono ?_
  rintro e v9 ⟨rfl, hb⟩
  have HH := Lib.hid (HH.out.below hb)
  have HX := Lib.hid (HX.out.next hb)
  have HB := Lib.hid (HB.out.trans (hb.mono HB.out.size))
  clear hb t1
  go_wp2_with fail
  refine (t2 _ _ HH.out).mono ?_
  rintro e v10 ⟨rfl, hb⟩
  have HH := Lib.hid (HH.out.below hb)
  have HX := Lib.hid (HX.out.next hb)
  have HB := Lib.hid (HB.out.trans (hb.mono HB.out.size))
  clear hb t2
  go_wp2_with fail
  refine (t3 _ _ HH.out).mono ?_
  rintro e v11 ⟨rfl, hb⟩
  have HH := Lib.hid (HH.out.below hb)
  have HX := Lib.hid (HX.out.next hb)
  have HB := Lib.hid (HB.out.trans (hb.mono HB.out.size))
  clear hb t3
  go_wp2_with fail
  refine (t4 _ _ HH.out).mono ?_
  rintro e v12 ⟨rfl, hb⟩
  have HH := Lib.hid (HH.out.below hb)
  have HX := Lib.hid (HX.out.next hb)
  have HB := Lib.hid (HB.out.trans (hb.mono HB.out.size))
  clear hb t4
  have x0 := (HX.out.2 0 _ rfl).1
  have g0 := (HX.out.2 0 _ rfl).2
  have x1 := (HX.out.2 1 _ rfl).1
  have g1 := (HX.out.2 1 _ rfl).2
  have x2 := (HX.out.2 2 _ rfl).1
  have g2 := (HX.out.2 2 _ rfl).2
  have x3 := (HX.out.2 3 _ rfl).1
  have g3 := (HX.out.2 3 _ rfl).2
  have x4 := (HX.out.2 4 _ rfl).1
  have g4 := (HX.out.2 4 _ rfl).2
  have x5 := (HX.out.2 5 _ rfl).1
  have g5 := (HX.out.2 5 _ rfl).2
  have x6 := (HX.out.2 6 _ rfl).1
  have g6 := (HX.out.2 6 _ rfl).2
  have x7 := (HX.out.2 7 _ rfl).1
  have g7 := (HX.out.2 7 _ rfl).2
  have x8 := (HX.out.2 8 _ rfl).1
  have g8 := (HX.out.2 8 _ rfl).2
  have x9 := (HX.out.2 9 _ rfl).1
  have g9 := (HX.out.2 9 _ rfl).2
  have x10 := (HX.out.2 10 _ rfl).1
  have g10 := (HX.out.2 10 _ rfl).2
  have x11 := (HX.out.2 11 _ rfl).1
  have g11 := (HX.out.2 11 _ rfl).2
  have x12 := (HX.out.2 12 _ rfl).1
  have g12 := (HX.out.2 12 _ rfl).2
  clear e1 e2 hmf HH
  go_wp2_with fail
  have HP := Lib.hid (((((((((((((HX.out.set 0 (.bool b0) (by simp)).set 1 (.bool b1) (by simp)).set 2 (.bool b2) (by simp)).set 3 (.bool b3) (by simp)).set 4 (.bool b4) (by simp)).set 5 (.bool b5) (by simp)).set 6 (.bool b6) (by simp)).set 7 (.bool b7) (by simp)).set 8 (.int .i64 k0) (by simp)).set 9 (.int .i64 k1) (by simp)).set 10 (.int .i64 k2) (by simp)).set 11 (.int .i64 k3) (by simp)).set 12 (.int .i64 k4) (by simp))
  have HQ := Lib.hid (((((((((((((HB.out.setCell (p := ⟨w.heap.size, 0, none⟩) (Nat.le_refl _) (.bool b0)).setCell (p := ⟨w.heap.size, 1, none⟩) (Nat.le_refl _) (.bool b1)).setCell (p := ⟨w.heap.size, 2, none⟩) (Nat.le_refl _) (.bool b2)).setCell (p := ⟨w.heap.size, 3, none⟩) (Nat.le_refl _) (.bool b3)).setCell (p := ⟨w.heap.size, 4, none⟩) (Nat.le_refl _) (.bool b4)).setCell (p := ⟨w.heap.size, 5, none⟩) (Nat.le_refl _) (.bool b5)).setCell (p := ⟨w.heap.size, 6, none⟩) (Nat.le_refl _) (.bool b6)).setCell (p := ⟨w.heap.size, 7, none⟩) (Nat.le_refl _) (.bool b7)).setCell (p := ⟨w.heap.size, 8, none⟩) (Nat.le_refl _) (.int .i64 k0)).setCell (p := ⟨w.heap.size, 9, none⟩) (Nat.le_refl _) (.int .i64 k1)).setCell (p := ⟨w.heap.size, 10, none⟩) (Nat.le_refl _) (.int .i64 k2)).setCell (p := ⟨w.heap.size, 11, none⟩) (Nat.le_refl _) (.int .i64 k3)).setCell (p := ⟨w.heap.size, 12, none⟩) (Nat.le_refl _) (.int .i64 k4))
  clear x0 g0 x1 g1 x2 g2 x3 g3 x4 g4 x5 g5 x6 g6 x7 g7 x8 g8 x9 g9 x10 g10 x11 g11 x12 g12
  generalize (((((((((((((v12.setCell ⟨w.heap.size, 0, none⟩ (.bool b0)).setCell ⟨w.heap.size, 1, none⟩ (.bool b1)).setCell ⟨w.heap.size, 2, none⟩ (.bool b2)).setCell ⟨w.heap.size, 3, none⟩ (.bool b3)).setCell ⟨w.heap.size, 4, none⟩ (.bool b4)).setCell ⟨w.heap.size, 5, none⟩ (.bool b5)).setCell ⟨w.heap.size, 6, none⟩ (.bool b6)).setCell ⟨w.heap.size, 7, none⟩ (.bool b7)).setCell ⟨w.heap.size, 8, none⟩ (.int .i64 k0)).setCell ⟨w.heap.size, 9, none⟩ (.int .i64 k1)).setCell ⟨w.heap.size, 10, none⟩ (.int .i64 k2)).setCell ⟨w.heap.size, 11, none⟩ (.int .i64 k3)).setCell ⟨w.heap.size, 12, none⟩ (.int .i64 k4)) = W9 at *
  have p0 := (HP.out.2 0 _ rfl).1
  have p1 := (HP.out.2 1 _ rfl).1
  have p2 := (HP.out.2 2 _ rfl).1
  have p3 := (HP.out.2 3 _ rfl).1
  have p4 := (HP.out.2 4 _ rfl).1
  have p5 := (HP.out.2 5 _ rfl).1
  have p6 := (HP.out.2 6 _ rfl).1
  have p7 := (HP.out.2 7 _ rfl).1
  have p8 := (HP.out.2 8 _ rfl).1
  have p9 := (HP.out.2 9 _ rfl).1
  have p10 := (HP.out.2 10 _ rfl).1
  have p11 := (HP.out.2 11 _ rfl).1
  have p12 := (HP.out.2 12 _ rfl).1
  refine bodyPost_ret (v := .agg #[.bool b0, .bool b1, .bool b2, .bool b3, .bool b4, .bool b5, .bool b6, .bool b7, .int .i64 k0, .int .i64 k1, .int .i64 k2, .int .i64 k3, .int .i64 k4]) (by simp [results, Tryd.results12, go_sem, p0, p1, p2, p3, p4, p5, p6, p7, p8, p9, p10, p11, p12]) rfl ⟨by rw [HV.out], HQ.out⟩

end Go.Proofs.YtjnagifolheloaaDoor
