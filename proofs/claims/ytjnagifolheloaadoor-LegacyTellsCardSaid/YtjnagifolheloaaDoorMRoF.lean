/- The document's own None, Of (sculleryref10). -/
import Derived.Test.YtjnagifolheloaaDoorMRjE
import Derived.Test.YtjnagifolheloaaDoorMNamP
import Derived.Test.YtjnagifolheloaaDoorMDirQ

namespace Go.Proofs.YtjnagifolheloaaDoor
open Go.RowKit Go.Lib

theorem rulV_noneR : rulV [] = .agg #[.bool false, .bool false, .bool false, .bool false, .bool false, .bool false, .bool false, .bool false, .int .i64 (-1), .int .i64 (-1), .int .i64 (-1), .int .i64 (-1), .int .i64 (-1)] := rfl
set_option maxRecDepth 100000 in
set_option maxHeartbeats 4000000 in
theorem rnone_any (w : World) :
    Calls Tryd.prog 17 #[] w fun e w' => e = .returned (rulV []) ∧ Below w.heap.size w w' := by
  have HV := Lib.hid rulV_noneR
  generalize rulV [] = R at *
  have HB0 := Lib.hid ((Below.refl w.heap.size w).alloc (Nat.le_refl _) (.cells #[.bool false, .bool false, .bool false, .bool false, .bool false, .bool false, .bool false, .bool false, .int .i64 0, .int .i64 0, .int .i64 0, .int .i64 0, .int .i64 0] 33))
  go_enter Tryd.func17, Tryd.ntmps17
  go_wp2_with fail
  refine bodyPost_ret (v := .agg #[.bool false, .bool false, .bool false, .bool false, .bool false, .bool false, .bool false, .bool false, .int .i64 (-1), .int .i64 (-1), .int .i64 (-1), .int .i64 (-1), .int .i64 (-1)]) (by simp [results, Tryd.results17, go_sem]) rfl ⟨by rw [HV.out], ?_⟩
  exact (Below.refl w.heap.size w).alloc (Nat.le_refl _) _

set_option maxRecDepth 100000 in
set_option maxHeartbeats 4000000 in
theorem rof_0 (lo : Nat) (v : Value) (ds : List Dir) (w : World) (hv : Dirs lo w v ds) (hok : DirsOk ds) (hf : fstN ds nStale = none) :
    Calls Tryd.prog 13 #[v] w fun e w' => e = .returned (rulV ds) ∧ Below w.heap.size w w' := by
  have cF := fun W (hb : Below w.heap.size w W) => rfind_any lo v ds nStale W (hv.below hb) hok.1
  rw [hf] at cF
  have HV : Hid (rulV ds = .agg #[.bool (hasN ds nNoStore), .bool (hasN ds nNoCache), .bool (hasN ds nPrivate), .bool (hasN ds nPublic), .bool (hasN ds nMust), .bool (hasN ds nProxy), .bool (hasN ds nImmut), .bool (hasN ds nOnly), .int .i64 (numN ds nMaxAge), .int .i64 (numN ds nSMax), .int .i64 (numN ds nStale), .int .i64 (numN ds nFresh), .int .i64 (numN ds nIfErr)]) := Lib.hid (by
    have h : stlN ds nStale = numN ds nStale := by rw [stlN, hf]; rw [numN, hf]
    rw [rulV, h])
  generalize rulV ds = R at *
  have s0 := fun W (hb : Below w.heap.size w W) => rhas_any lo v ds nNoStore W (hv.below hb) hok.1
  generalize hasN ds nNoStore = b0 at *
  have s1 := fun W (hb : Below w.heap.size w W) => rhas_any lo v ds nNoCache W (hv.below hb) hok.1
  generalize hasN ds nNoCache = b1 at *
  have s2 := fun W (hb : Below w.heap.size w W) => rhas_any lo v ds nPrivate W (hv.below hb) hok.1
  generalize hasN ds nPrivate = b2 at *
  have s3 := fun W (hb : Below w.heap.size w W) => rhas_any lo v ds nPublic W (hv.below hb) hok.1
  generalize hasN ds nPublic = b3 at *
  have s4 := fun W (hb : Below w.heap.size w W) => rhas_any lo v ds nMust W (hv.below hb) hok.1
  generalize hasN ds nMust = b4 at *
  have s5 := fun W (hb : Below w.heap.size w W) => rhas_any lo v ds nProxy W (hv.below hb) hok.1
  generalize hasN ds nProxy = b5 at *
  have s6 := fun W (hb : Below w.heap.size w W) => rhas_any lo v ds nImmut W (hv.below hb) hok.1
  generalize hasN ds nImmut = b6 at *
  have s7 := fun W (hb : Below w.heap.size w W) => rhas_any lo v ds nOnly W (hv.below hb) hok.1
  generalize hasN ds nOnly = b7 at *
  have t0 := fun W (hb : Below w.heap.size w W) => rnumber_any lo v ds nMaxAge W (hv.below hb) hok
  generalize numN ds nMaxAge = k0 at *
  have t1 := fun W (hb : Below w.heap.size w W) => rnumber_any lo v ds nSMax W (hv.below hb) hok
  generalize numN ds nSMax = k1 at *
  have t2 := fun W (hb : Below w.heap.size w W) => rnumber_any lo v ds nStale W (hv.below hb) hok
  generalize numN ds nStale = k2 at *
  have t3 := fun W (hb : Below w.heap.size w W) => rnumber_any lo v ds nFresh W (hv.below hb) hok
  generalize numN ds nFresh = k3 at *
  have t4 := fun W (hb : Below w.heap.size w W) => rnumber_any lo v ds nIfErr W (hv.below hb) hok
  generalize numN ds nIfErr = k4 at *
  obtain ⟨ao, cap, rfl, _⟩ := hv
  have HB0 := Lib.hid ((Below.refl w.heap.size w).alloc (Nat.le_refl _) (.cells #[.bool false, .bool false, .bool false, .bool false, .bool false, .bool false, .bool false, .bool false, .int .i64 0, .int .i64 0, .int .i64 0, .int .i64 0, .int .i64 0] 33))
  have HX0 := Lib.hid (BoxN.made w [.bool false, .bool false, .bool false, .bool false, .bool false, .bool false, .bool false, .bool false, .int .i64 0, .int .i64 0, .int .i64 0, .int .i64 0, .int .i64 0] 33)
  clear hf
  go_enter Tryd.func13, Tryd.ntmps13
  go_wp2_with fail
  refine (s0 _ HB0.out).mono ?_
  rintro e v0 ⟨rfl, hb⟩
  have HX0 := Lib.hid (HX0.out.next hb)
  have HB0 := Lib.hid (HB0.out.trans (hb.mono HB0.out.size))
  clear hb s0
  go_wp2_with fail
  refine (s1 _ HB0.out).mono ?_
  rintro e v1 ⟨rfl, hb⟩
  have HX0 := Lib.hid (HX0.out.next hb)
  have HB0 := Lib.hid (HB0.out.trans (hb.mono HB0.out.size))
  clear hb s1
  go_wp2_with fail
  refine (s2 _ HB0.out).mono ?_
  rintro e v2 ⟨rfl, hb⟩
  have HX0 := Lib.hid (HX0.out.next hb)
  have HB0 := Lib.hid (HB0.out.trans (hb.mono HB0.out.size))
  clear hb s2
  go_wp2_with fail
  refine (s3 _ HB0.out).mono ?_
  rintro e v3 ⟨rfl, hb⟩
  have HX0 := Lib.hid (HX0.out.next hb)
  have HB0 := Lib.hid (HB0.out.trans (hb.mono HB0.out.size))
  clear hb s3
  go_wp2_with fail
  refine (s4 _ HB0.out).mono ?_
  rintro e v4 ⟨rfl, hb⟩
  have HX0 := Lib.hid (HX0.out.next hb)
  have HB0 := Lib.hid (HB0.out.trans (hb.mono HB0.out.size))
  clear hb s4
  go_wp2_with fail
  refine (s5 _ HB0.out).mono ?_
  rintro e v5 ⟨rfl, hb⟩
  have HX0 := Lib.hid (HX0.out.next hb)
  have HB0 := Lib.hid (HB0.out.trans (hb.mono HB0.out.size))
  clear hb s5
  go_wp2_with fail
  refine (s6 _ HB0.out).mono ?_
  rintro e v6 ⟨rfl, hb⟩
  have HX0 := Lib.hid (HX0.out.next hb)
  have HB0 := Lib.hid (HB0.out.trans (hb.mono HB0.out.size))
  clear hb s6
  go_wp2_with fail
  refine (s7 _ HB0.out).mono ?_
  rintro e v7 ⟨rfl, hb⟩
  have HX0 := Lib.hid (HX0.out.next hb)
  have HB0 := Lib.hid (HB0.out.trans (hb.mono HB0.out.size))
  clear hb s7
  go_wp2_with fail
  have hC : w.heap.size < v7.heap.size := HX0.out.1
  have HY := Lib.hid (BoxN.made v7 [.bool b0, .bool b1, .bool b2, .bool b3, .bool b4, .bool b5, .bool b6, .bool b7, .int .i64 0, .int .i64 0, .int .i64 0, .int .i64 0, .int .i64 0] 33)
  have hal := (Below.refl v7.heap.size v7).alloc (Nat.le_refl _) (.cells #[.bool b0, .bool b1, .bool b2, .bool b3, .bool b4, .bool b5, .bool b6, .bool b7, .int .i64 0, .int .i64 0, .int .i64 0, .int .i64 0, .int .i64 0] 33)
  have HX0 := Lib.hid (HX0.out.next hal)
  have HB0 := Lib.hid (HB0.out.trans (hal.mono HB0.out.size))
  clear hal
  generalize v7.alloc (.cells #[.bool b0, .bool b1, .bool b2, .bool b3, .bool b4, .bool b5, .bool b6, .bool b7, .int .i64 0, .int .i64 0, .int .i64 0, .int .i64 0, .int .i64 0] 33) = U at *
  generalize v7.heap.size = C at *
  refine (t0 _ HB0.out).mono ?_
  rintro e u0 ⟨rfl, hb⟩
  have HX0 := Lib.hid (HX0.out.next hb)
  have HY := Lib.hid (HY.out.next hb)
  have HB0 := Lib.hid (HB0.out.trans (hb.mono HB0.out.size))
  have y := (HY.out.2 8 _ rfl).1
  have fy := (HY.out.2 8 _ rfl).2
  clear hb t0
  go_wp2_with fail
  clear y fy
  have HY := Lib.hid (HY.out.set 8 (.int .i64 k0) (by simp))
  have HX0 := Lib.hid (HX0.out.other (Nat.ne_of_gt hC) (k := 8) (.int .i64 k0))
  have HB0 := Lib.hid (HB0.out.setCell (p := ⟨C, 8, none⟩) (Nat.le_of_lt hC) (.int .i64 k0))
  generalize u0.setCell ⟨C, 8, none⟩ (.int .i64 k0) = U0 at *
  refine (t1 _ HB0.out).mono ?_
  rintro e u1 ⟨rfl, hb⟩
  have HX0 := Lib.hid (HX0.out.next hb)
  have HY := Lib.hid (HY.out.next hb)
  have HB0 := Lib.hid (HB0.out.trans (hb.mono HB0.out.size))
  have y := (HY.out.2 9 _ rfl).1
  have fy := (HY.out.2 9 _ rfl).2
  clear hb t1
  go_wp2_with fail
  clear y fy
  have HY := Lib.hid (HY.out.set 9 (.int .i64 k1) (by simp))
  have HX0 := Lib.hid (HX0.out.other (Nat.ne_of_gt hC) (k := 9) (.int .i64 k1))
  have HB0 := Lib.hid (HB0.out.setCell (p := ⟨C, 9, none⟩) (Nat.le_of_lt hC) (.int .i64 k1))
  generalize u1.setCell ⟨C, 9, none⟩ (.int .i64 k1) = U1 at *
  refine (t2 _ HB0.out).mono ?_
  rintro e u2 ⟨rfl, hb⟩
  have HX0 := Lib.hid (HX0.out.next hb)
  have HY := Lib.hid (HY.out.next hb)
  have HB0 := Lib.hid (HB0.out.trans (hb.mono HB0.out.size))
  have y := (HY.out.2 10 _ rfl).1
  have fy := (HY.out.2 10 _ rfl).2
  clear hb t2
  go_wp2_with fail
  clear y fy
  have HY := Lib.hid (HY.out.set 10 (.int .i64 k2) (by simp))
  have HX0 := Lib.hid (HX0.out.other (Nat.ne_of_gt hC) (k := 10) (.int .i64 k2))
  have HB0 := Lib.hid (HB0.out.setCell (p := ⟨C, 10, none⟩) (Nat.le_of_lt hC) (.int .i64 k2))
  generalize u2.setCell ⟨C, 10, none⟩ (.int .i64 k2) = U2 at *
  refine (t3 _ HB0.out).mono ?_
  rintro e u3 ⟨rfl, hb⟩
  have HX0 := Lib.hid (HX0.out.next hb)
  have HY := Lib.hid (HY.out.next hb)
  have HB0 := Lib.hid (HB0.out.trans (hb.mono HB0.out.size))
  have y := (HY.out.2 11 _ rfl).1
  have fy := (HY.out.2 11 _ rfl).2
  clear hb t3
  go_wp2_with fail
  clear y fy
  have HY := Lib.hid (HY.out.set 11 (.int .i64 k3) (by simp))
  have HX0 := Lib.hid (HX0.out.other (Nat.ne_of_gt hC) (k := 11) (.int .i64 k3))
  have HB0 := Lib.hid (HB0.out.setCell (p := ⟨C, 11, none⟩) (Nat.le_of_lt hC) (.int .i64 k3))
  generalize u3.setCell ⟨C, 11, none⟩ (.int .i64 k3) = U3 at *
  refine (t4 _ HB0.out).mono ?_
  rintro e u4 ⟨rfl, hb⟩
  have HX0 := Lib.hid (HX0.out.next hb)
  have HY := Lib.hid (HY.out.next hb)
  have HB0 := Lib.hid (HB0.out.trans (hb.mono HB0.out.size))
  have y := (HY.out.2 12 _ rfl).1
  have fy := (HY.out.2 12 _ rfl).2
  clear hb t4
  go_wp2_with fail
  clear y fy
  have HY := Lib.hid (HY.out.set 12 (.int .i64 k4) (by simp))
  have HX0 := Lib.hid (HX0.out.other (Nat.ne_of_gt hC) (k := 12) (.int .i64 k4))
  have HB0 := Lib.hid (HB0.out.setCell (p := ⟨C, 12, none⟩) (Nat.le_of_lt hC) (.int .i64 k4))
  generalize u4.setCell ⟨C, 12, none⟩ (.int .i64 k4) = U4 at *
  refine (cF _ HB0.out).mono ?_
  rintro e f ⟨rfl, hb⟩
  have HX := Lib.hid (HX0.out.next hb)
  have HY := Lib.hid (HY.out.next hb)
  have HB := Lib.hid (HB0.out.trans (hb.mono HB0.out.size))
  have hlt : w.heap.size < f.heap.size := HX.out.1
  have hlt2 : C < f.heap.size := HY.out.1
  have hne : C ≠ w.heap.size := Nat.ne_of_gt hC
  clear hb cF HX0 HB0
  simp only [fndV]
  have y0 := (HY.out.2 0 _ rfl).1
  have fy0 := (HY.out.2 0 _ rfl).2
  have y1 := (HY.out.2 1 _ rfl).1
  have fy1 := (HY.out.2 1 _ rfl).2
  have y2 := (HY.out.2 2 _ rfl).1
  have fy2 := (HY.out.2 2 _ rfl).2
  have y3 := (HY.out.2 3 _ rfl).1
  have fy3 := (HY.out.2 3 _ rfl).2
  have y4 := (HY.out.2 4 _ rfl).1
  have fy4 := (HY.out.2 4 _ rfl).2
  have y5 := (HY.out.2 5 _ rfl).1
  have fy5 := (HY.out.2 5 _ rfl).2
  have y6 := (HY.out.2 6 _ rfl).1
  have fy6 := (HY.out.2 6 _ rfl).2
  have y7 := (HY.out.2 7 _ rfl).1
  have fy7 := (HY.out.2 7 _ rfl).2
  have y8 := (HY.out.2 8 _ rfl).1
  have fy8 := (HY.out.2 8 _ rfl).2
  have y9 := (HY.out.2 9 _ rfl).1
  have fy9 := (HY.out.2 9 _ rfl).2
  have y10 := (HY.out.2 10 _ rfl).1
  have fy10 := (HY.out.2 10 _ rfl).2
  have y11 := (HY.out.2 11 _ rfl).1
  have fy11 := (HY.out.2 11 _ rfl).2
  have y12 := (HY.out.2 12 _ rfl).1
  have fy12 := (HY.out.2 12 _ rfl).2
  have x0 := (HX.out.2 0 _ rfl).1
  have g0 := (HX.out.2 0 _ rfl).2
  have x1 := (HX.out.2 1 _ rfl).1
  have g1 := (HX.out.2 1 _ rfl).2
  have x2 := (HX.out.2 2 _ rfl).1
  have g2 := (HX.out.2 2 _ rfl).2
  have x3 := (HX.out.2 3 _ rfl).1
  have g3 := (HX.out.2 3 _ rfl).2
  have x4 := (HX.out.2 4 _ rfl).1
  have g4 := (HX.out.2 4 _ rfl).2
  have x5 := (HX.out.2 5 _ rfl).1
  have g5 := (HX.out.2 5 _ rfl).2
  have x6 := (HX.out.2 6 _ rfl).1
  have g6 := (HX.out.2 6 _ rfl).2
  have x7 := (HX.out.2 7 _ rfl).1
  have g7 := (HX.out.2 7 _ rfl).2
  have x8 := (HX.out.2 8 _ rfl).1
  have g8 := (HX.out.2 8 _ rfl).2
  have x9 := (HX.out.2 9 _ rfl).1
  have g9 := (HX.out.2 9 _ rfl).2
  have x10 := (HX.out.2 10 _ rfl).1
  have g10 := (HX.out.2 10 _ rfl).2
  have x11 := (HX.out.2 11 _ rfl).1
  have g11 := (HX.out.2 11 _ rfl).2
  have x12 := (HX.out.2 12 _ rfl).1
  have g12 := (HX.out.2 12 _ rfl).2
  go_wp2_with fail
  clear x0 g0 x1 g1 x2 g2 x3 g3 x4 g4 x5 g5 x6 g6 x7 g7 x8 g8 x9 g9 x10 g10 x11 g11 x12 g12
  clear y0 fy0 y1 fy1 y2 fy2 y3 fy3 y4 fy4 y5 fy5 y6 fy6 y7 fy7 y8 fy8 y9 fy9 y10 fy10 y11 fy11 y12 fy12
  have HP := Lib.hid (((((((((((((HX.out.set 0 (.bool b0) (by simp)).set 1 (.bool b1) (by simp)).set 2 (.bool b2) (by simp)).set 3 (.bool b3) (by simp)).set 4 (.bool b4) (by simp)).set 5 (.bool b5) (by simp)).set 6 (.bool b6) (by simp)).set 7 (.bool b7) (by simp)).set 8 (.int .i64 k0) (by simp)).set 9 (.int .i64 k1) (by simp)).set 10 (.int .i64 k2) (by simp)).set 11 (.int .i64 k3) (by simp)).set 12 (.int .i64 k4) (by simp))
  have HQ := Lib.hid (((((((((((((HB.out.setCell (p := ⟨w.heap.size, 0, none⟩) (Nat.le_refl _) (.bool b0)).setCell (p := ⟨w.heap.size, 1, none⟩) (Nat.le_refl _) (.bool b1)).setCell (p := ⟨w.heap.size, 2, none⟩) (Nat.le_refl _) (.bool b2)).setCell (p := ⟨w.heap.size, 3, none⟩) (Nat.le_refl _) (.bool b3)).setCell (p := ⟨w.heap.size, 4, none⟩) (Nat.le_refl _) (.bool b4)).setCell (p := ⟨w.heap.size, 5, none⟩) (Nat.le_refl _) (.bool b5)).setCell (p := ⟨w.heap.size, 6, none⟩) (Nat.le_refl _) (.bool b6)).setCell (p := ⟨w.heap.size, 7, none⟩) (Nat.le_refl _) (.bool b7)).setCell (p := ⟨w.heap.size, 8, none⟩) (Nat.le_refl _) (.int .i64 k0)).setCell (p := ⟨w.heap.size, 9, none⟩) (Nat.le_refl _) (.int .i64 k1)).setCell (p := ⟨w.heap.size, 10, none⟩) (Nat.le_refl _) (.int .i64 k2)).setCell (p := ⟨w.heap.size, 11, none⟩) (Nat.le_refl _) (.int .i64 k3)).setCell (p := ⟨w.heap.size, 12, none⟩) (Nat.le_refl _) (.int .i64 k4))
  generalize (((((((((((((f.setCell ⟨w.heap.size, 0, none⟩ (.bool b0)).setCell ⟨w.heap.size, 1, none⟩ (.bool b1)).setCell ⟨w.heap.size, 2, none⟩ (.bool b2)).setCell ⟨w.heap.size, 3, none⟩ (.bool b3)).setCell ⟨w.heap.size, 4, none⟩ (.bool b4)).setCell ⟨w.heap.size, 5, none⟩ (.bool b5)).setCell ⟨w.heap.size, 6, none⟩ (.bool b6)).setCell ⟨w.heap.size, 7, none⟩ (.bool b7)).setCell ⟨w.heap.size, 8, none⟩ (.int .i64 k0)).setCell ⟨w.heap.size, 9, none⟩ (.int .i64 k1)).setCell ⟨w.heap.size, 10, none⟩ (.int .i64 k2)).setCell ⟨w.heap.size, 11, none⟩ (.int .i64 k3)).setCell ⟨w.heap.size, 12, none⟩ (.int .i64 k4)) = W8 at *
  have hal := (Below.refl W8.heap.size W8).alloc (Nat.le_refl _) (.cells #[.string ⟨#[]⟩, .string ⟨#[]⟩, .bool false] 48)
  have HP := Lib.hid (HP.out.next hal)
  have HQ := Lib.hid (HQ.out.trans (hal.mono HQ.out.size))
  clear hal
  generalize W8.alloc (.cells #[.string ⟨#[]⟩, .string ⟨#[]⟩, .bool false] 48) = W9 at *
  have p0 := (HP.out.2 0 _ rfl).1
  have p1 := (HP.out.2 1 _ rfl).1
  have p2 := (HP.out.2 2 _ rfl).1
  have p3 := (HP.out.2 3 _ rfl).1
  have p4 := (HP.out.2 4 _ rfl).1
  have p5 := (HP.out.2 5 _ rfl).1
  have p6 := (HP.out.2 6 _ rfl).1
  have p7 := (HP.out.2 7 _ rfl).1
  have p8 := (HP.out.2 8 _ rfl).1
  have p9 := (HP.out.2 9 _ rfl).1
  have p10 := (HP.out.2 10 _ rfl).1
  have p11 := (HP.out.2 11 _ rfl).1
  have p12 := (HP.out.2 12 _ rfl).1
  refine bodyPost_ret (v := .agg #[.bool b0, .bool b1, .bool b2, .bool b3, .bool b4, .bool b5, .bool b6, .bool b7, .int .i64 k0, .int .i64 k1, .int .i64 k2, .int .i64 k3, .int .i64 k4]) (by simp [results, Tryd.results13, go_sem, p0, p1, p2, p3, p4, p5, p6, p7, p8, p9, p10, p11, p12]) rfl ⟨by rw [HV.out], HQ.out⟩

set_option maxRecDepth 100000 in
set_option maxHeartbeats 4000000 in
theorem rof_1 (lo : Nat) (v : Value) (ds : List Dir) (w : World) (hv : Dirs lo w v ds) (hok : DirsOk ds) (N V : List UInt8) (hf : fstN ds nStale = some (N, V, true)) :
    Calls Tryd.prog 13 #[v] w fun e w' => e = .returned (rulV ds) ∧ Below w.heap.size w w' := by
  have cF := fun W (hb : Below w.heap.size w W) => rfind_any lo v ds nStale W (hv.below hb) hok.1
  rw [hf] at cF
  have HV : Hid (rulV ds = .agg #[.bool (hasN ds nNoStore), .bool (hasN ds nNoCache), .bool (hasN ds nPrivate), .bool (hasN ds nPublic), .bool (hasN ds nMust), .bool (hasN ds nProxy), .bool (hasN ds nImmut), .bool (hasN ds nOnly), .int .i64 (numN ds nMaxAge), .int .i64 (numN ds nSMax), .int .i64 (numN ds nStale), .int .i64 (numN ds nFresh), .int .i64 (numN ds nIfErr)]) := Lib.hid (by
    have h : stlN ds nStale = numN ds nStale := by rw [stlN, hf]; rw [numN, hf]; rfl
    rw [rulV, h])
  generalize rulV ds = R at *
  have s0 := fun W (hb : Below w.heap.size w W) => rhas_any lo v ds nNoStore W (hv.below hb) hok.1
  generalize hasN ds nNoStore = b0 at *
  have s1 := fun W (hb : Below w.heap.size w W) => rhas_any lo v ds nNoCache W (hv.below hb) hok.1
  generalize hasN ds nNoCache = b1 at *
  have s2 := fun W (hb : Below w.heap.size w W) => rhas_any lo v ds nPrivate W (hv.below hb) hok.1
  generalize hasN ds nPrivate = b2 at *
  have s3 := fun W (hb : Below w.heap.size w W) => rhas_any lo v ds nPublic W (hv.below hb) hok.1
  generalize hasN ds nPublic = b3 at *
  have s4 := fun W (hb : Below w.heap.size w W) => rhas_any lo v ds nMust W (hv.below hb) hok.1
  generalize hasN ds nMust = b4 at *
  have s5 := fun W (hb : Below w.heap.size w W) => rhas_any lo v ds nProxy W (hv.below hb) hok.1
  generalize hasN ds nProxy = b5 at *
  have s6 := fun W (hb : Below w.heap.size w W) => rhas_any lo v ds nImmut W (hv.below hb) hok.1
  generalize hasN ds nImmut = b6 at *
  have s7 := fun W (hb : Below w.heap.size w W) => rhas_any lo v ds nOnly W (hv.below hb) hok.1
  generalize hasN ds nOnly = b7 at *
  have t0 := fun W (hb : Below w.heap.size w W) => rnumber_any lo v ds nMaxAge W (hv.below hb) hok
  generalize numN ds nMaxAge = k0 at *
  have t1 := fun W (hb : Below w.heap.size w W) => rnumber_any lo v ds nSMax W (hv.below hb) hok
  generalize numN ds nSMax = k1 at *
  have t2 := fun W (hb : Below w.heap.size w W) => rnumber_any lo v ds nStale W (hv.below hb) hok
  generalize numN ds nStale = k2 at *
  have t3 := fun W (hb : Below w.heap.size w W) => rnumber_any lo v ds nFresh W (hv.below hb) hok
  generalize numN ds nFresh = k3 at *
  have t4 := fun W (hb : Below w.heap.size w W) => rnumber_any lo v ds nIfErr W (hv.below hb) hok
  generalize numN ds nIfErr = k4 at *
  obtain ⟨ao, cap, rfl, _⟩ := hv
  have HB0 := Lib.hid ((Below.refl w.heap.size w).alloc (Nat.le_refl _) (.cells #[.bool false, .bool false, .bool false, .bool false, .bool false, .bool false, .bool false, .bool false, .int .i64 0, .int .i64 0, .int .i64 0, .int .i64 0, .int .i64 0] 33))
  have HX0 := Lib.hid (BoxN.made w [.bool false, .bool false, .bool false, .bool false, .bool false, .bool false, .bool false, .bool false, .int .i64 0, .int .i64 0, .int .i64 0, .int .i64 0, .int .i64 0] 33)
  clear hf
  go_enter Tryd.func13, Tryd.ntmps13
  go_wp2_with fail
  refine (s0 _ HB0.out).mono ?_
  rintro e v0 ⟨rfl, hb⟩
  have HX0 := Lib.hid (HX0.out.next hb)
  have HB0 := Lib.hid (HB0.out.trans (hb.mono HB0.out.size))
  clear hb s0
  go_wp2_with fail
  refine (s1 _ HB0.out).mono ?_
  rintro e v1 ⟨rfl, hb⟩
  have HX0 := Lib.hid (HX0.out.next hb)
  have HB0 := Lib.hid (HB0.out.trans (hb.mono HB0.out.size))
  clear hb s1
  go_wp2_with fail
  refine (s2 _ HB0.out).mono ?_
  rintro e v2 ⟨rfl, hb⟩
  have HX0 := Lib.hid (HX0.out.next hb)
  have HB0 := Lib.hid (HB0.out.trans (hb.mono HB0.out.size))
  clear hb s2
  go_wp2_with fail
  refine (s3 _ HB0.out).mono ?_
  rintro e v3 ⟨rfl, hb⟩
  have HX0 := Lib.hid (HX0.out.next hb)
  have HB0 := Lib.hid (HB0.out.trans (hb.mono HB0.out.size))
  clear hb s3
  go_wp2_with fail
  refine (s4 _ HB0.out).mono ?_
  rintro e v4 ⟨rfl, hb⟩
  have HX0 := Lib.hid (HX0.out.next hb)
  have HB0 := Lib.hid (HB0.out.trans (hb.mono HB0.out.size))
  clear hb s4
  go_wp2_with fail
  refine (s5 _ HB0.out).mono ?_
  rintro e v5 ⟨rfl, hb⟩
  have HX0 := Lib.hid (HX0.out.next hb)
  have HB0 := Lib.hid (HB0.out.trans (hb.mono HB0.out.size))
  clear hb s5
  go_wp2_with fail
  refine (s6 _ HB0.out).mono ?_
  rintro e v6 ⟨rfl, hb⟩
  have HX0 := Lib.hid (HX0.out.next hb)
  have HB0 := Lib.hid (HB0.out.trans (hb.mono HB0.out.size))
  clear hb s6
  go_wp2_with fail
  refine (s7 _ HB0.out).mono ?_
  rintro e v7 ⟨rfl, hb⟩
  have HX0 := Lib.hid (HX0.out.next hb)
  have HB0 := Lib.hid (HB0.out.trans (hb.mono HB0.out.size))
  clear hb s7
  go_wp2_with fail
  have hC : w.heap.size < v7.heap.size := HX0.out.1
  have HY := Lib.hid (BoxN.made v7 [.bool b0, .bool b1, .bool b2, .bool b3, .bool b4, .bool b5, .bool b6, .bool b7, .int .i64 0, .int .i64 0, .int .i64 0, .int .i64 0, .int .i64 0] 33)
  have hal := (Below.refl v7.heap.size v7).alloc (Nat.le_refl _) (.cells #[.bool b0, .bool b1, .bool b2, .bool b3, .bool b4, .bool b5, .bool b6, .bool b7, .int .i64 0, .int .i64 0, .int .i64 0, .int .i64 0, .int .i64 0] 33)
  have HX0 := Lib.hid (HX0.out.next hal)
  have HB0 := Lib.hid (HB0.out.trans (hal.mono HB0.out.size))
  clear hal
  generalize v7.alloc (.cells #[.bool b0, .bool b1, .bool b2, .bool b3, .bool b4, .bool b5, .bool b6, .bool b7, .int .i64 0, .int .i64 0, .int .i64 0, .int .i64 0, .int .i64 0] 33) = U at *
  generalize v7.heap.size = C at *
  refine (t0 _ HB0.out).mono ?_
  rintro e u0 ⟨rfl, hb⟩
  have HX0 := Lib.hid (HX0.out.next hb)
  have HY := Lib.hid (HY.out.next hb)
  have HB0 := Lib.hid (HB0.out.trans (hb.mono HB0.out.size))
  have y := (HY.out.2 8 _ rfl).1
  have fy := (HY.out.2 8 _ rfl).2
  clear hb t0
  go_wp2_with fail
  clear y fy
  have HY := Lib.hid (HY.out.set 8 (.int .i64 k0) (by simp))
  have HX0 := Lib.hid (HX0.out.other (Nat.ne_of_gt hC) (k := 8) (.int .i64 k0))
  have HB0 := Lib.hid (HB0.out.setCell (p := ⟨C, 8, none⟩) (Nat.le_of_lt hC) (.int .i64 k0))
  generalize u0.setCell ⟨C, 8, none⟩ (.int .i64 k0) = U0 at *
  refine (t1 _ HB0.out).mono ?_
  rintro e u1 ⟨rfl, hb⟩
  have HX0 := Lib.hid (HX0.out.next hb)
  have HY := Lib.hid (HY.out.next hb)
  have HB0 := Lib.hid (HB0.out.trans (hb.mono HB0.out.size))
  have y := (HY.out.2 9 _ rfl).1
  have fy := (HY.out.2 9 _ rfl).2
  clear hb t1
  go_wp2_with fail
  clear y fy
  have HY := Lib.hid (HY.out.set 9 (.int .i64 k1) (by simp))
  have HX0 := Lib.hid (HX0.out.other (Nat.ne_of_gt hC) (k := 9) (.int .i64 k1))
  have HB0 := Lib.hid (HB0.out.setCell (p := ⟨C, 9, none⟩) (Nat.le_of_lt hC) (.int .i64 k1))
  generalize u1.setCell ⟨C, 9, none⟩ (.int .i64 k1) = U1 at *
  refine (t2 _ HB0.out).mono ?_
  rintro e u2 ⟨rfl, hb⟩
  have HX0 := Lib.hid (HX0.out.next hb)
  have HY := Lib.hid (HY.out.next hb)
  have HB0 := Lib.hid (HB0.out.trans (hb.mono HB0.out.size))
  have y := (HY.out.2 10 _ rfl).1
  have fy := (HY.out.2 10 _ rfl).2
  clear hb t2
  go_wp2_with fail
  clear y fy
  have HY := Lib.hid (HY.out.set 10 (.int .i64 k2) (by simp))
  have HX0 := Lib.hid (HX0.out.other (Nat.ne_of_gt hC) (k := 10) (.int .i64 k2))
  have HB0 := Lib.hid (HB0.out.setCell (p := ⟨C, 10, none⟩) (Nat.le_of_lt hC) (.int .i64 k2))
  generalize u2.setCell ⟨C, 10, none⟩ (.int .i64 k2) = U2 at *
  refine (t3 _ HB0.out).mono ?_
  rintro e u3 ⟨rfl, hb⟩
  have HX0 := Lib.hid (HX0.out.next hb)
  have HY := Lib.hid (HY.out.next hb)
  have HB0 := Lib.hid (HB0.out.trans (hb.mono HB0.out.size))
  have y := (HY.out.2 11 _ rfl).1
  have fy := (HY.out.2 11 _ rfl).2
  clear hb t3
  go_wp2_with fail
  clear y fy
  have HY := Lib.hid (HY.out.set 11 (.int .i64 k3) (by simp))
  have HX0 := Lib.hid (HX0.out.other (Nat.ne_of_gt hC) (k := 11) (.int .i64 k3))
  have HB0 := Lib.hid (HB0.out.setCell (p := ⟨C, 11, none⟩) (Nat.le_of_lt hC) (.int .i64 k3))
  generalize u3.setCell ⟨C, 11, none⟩ (.int .i64 k3) = U3 at *
  refine (t4 _ HB0.out).mono ?_
  rintro e u4 ⟨rfl, hb⟩
  have HX0 := Lib.hid (HX0.out.next hb)
  have HY := Lib.hid (HY.out.next hb)
  have HB0 := Lib.hid (HB0.out.trans (hb.mono HB0.out.size))
  have y := (HY.out.2 12 _ rfl).1
  have fy := (HY.out.2 12 _ rfl).2
  clear hb t4
  go_wp2_with fail
  clear y fy
  have HY := Lib.hid (HY.out.set 12 (.int .i64 k4) (by simp))
  have HX0 := Lib.hid (HX0.out.other (Nat.ne_of_gt hC) (k := 12) (.int .i64 k4))
  have HB0 := Lib.hid (HB0.out.setCell (p := ⟨C, 12, none⟩) (Nat.le_of_lt hC) (.int .i64 k4))
  generalize u4.setCell ⟨C, 12, none⟩ (.int .i64 k4) = U4 at *
  refine (cF _ HB0.out).mono ?_
  rintro e f ⟨rfl, hb⟩
  have HX := Lib.hid (HX0.out.next hb)
  have HY := Lib.hid (HY.out.next hb)
  have HB := Lib.hid (HB0.out.trans (hb.mono HB0.out.size))
  have hlt : w.heap.size < f.heap.size := HX.out.1
  have hlt2 : C < f.heap.size := HY.out.1
  have hne : C ≠ w.heap.size := Nat.ne_of_gt hC
  clear hb cF HX0 HB0
  simp only [fndV, dirV]
  have y0 := (HY.out.2 0 _ rfl).1
  have fy0 := (HY.out.2 0 _ rfl).2
  have y1 := (HY.out.2 1 _ rfl).1
  have fy1 := (HY.out.2 1 _ rfl).2
  have y2 := (HY.out.2 2 _ rfl).1
  have fy2 := (HY.out.2 2 _ rfl).2
  have y3 := (HY.out.2 3 _ rfl).1
  have fy3 := (HY.out.2 3 _ rfl).2
  have y4 := (HY.out.2 4 _ rfl).1
  have fy4 := (HY.out.2 4 _ rfl).2
  have y5 := (HY.out.2 5 _ rfl).1
  have fy5 := (HY.out.2 5 _ rfl).2
  have y6 := (HY.out.2 6 _ rfl).1
  have fy6 := (HY.out.2 6 _ rfl).2
  have y7 := (HY.out.2 7 _ rfl).1
  have fy7 := (HY.out.2 7 _ rfl).2
  have y8 := (HY.out.2 8 _ rfl).1
  have fy8 := (HY.out.2 8 _ rfl).2
  have y9 := (HY.out.2 9 _ rfl).1
  have fy9 := (HY.out.2 9 _ rfl).2
  have y10 := (HY.out.2 10 _ rfl).1
  have fy10 := (HY.out.2 10 _ rfl).2
  have y11 := (HY.out.2 11 _ rfl).1
  have fy11 := (HY.out.2 11 _ rfl).2
  have y12 := (HY.out.2 12 _ rfl).1
  have fy12 := (HY.out.2 12 _ rfl).2
  have x0 := (HX.out.2 0 _ rfl).1
  have g0 := (HX.out.2 0 _ rfl).2
  have x1 := (HX.out.2 1 _ rfl).1
  have g1 := (HX.out.2 1 _ rfl).2
  have x2 := (HX.out.2 2 _ rfl).1
  have g2 := (HX.out.2 2 _ rfl).2
  have x3 := (HX.out.2 3 _ rfl).1
  have g3 := (HX.out.2 3 _ rfl).2
  have x4 := (HX.out.2 4 _ rfl).1
  have g4 := (HX.out.2 4 _ rfl).2
  have x5 := (HX.out.2 5 _ rfl).1
  have g5 := (HX.out.2 5 _ rfl).2
  have x6 := (HX.out.2 6 _ rfl).1
  have g6 := (HX.out.2 6 _ rfl).2
  have x7 := (HX.out.2 7 _ rfl).1
  have g7 := (HX.out.2 7 _ rfl).2
  have x8 := (HX.out.2 8 _ rfl).1
  have g8 := (HX.out.2 8 _ rfl).2
  have x9 := (HX.out.2 9 _ rfl).1
  have g9 := (HX.out.2 9 _ rfl).2
  have x10 := (HX.out.2 10 _ rfl).1
  have g10 := (HX.out.2 10 _ rfl).2
  have x11 := (HX.out.2 11 _ rfl).1
  have g11 := (HX.out.2 11 _ rfl).2
  have x12 := (HX.out.2 12 _ rfl).1
  have g12 := (HX.out.2 12 _ rfl).2
  go_wp2_with fail
  clear x0 g0 x1 g1 x2 g2 x3 g3 x4 g4 x5 g5 x6 g6 x7 g7 x8 g8 x9 g9 x10 g10 x11 g11 x12 g12
  clear y0 fy0 y1 fy1 y2 fy2 y3 fy3 y4 fy4 y5 fy5 y6 fy6 y7 fy7 y8 fy8 y9 fy9 y10 fy10 y11 fy11 y12 fy12
  have HP := Lib.hid (((((((((((((HX.out.set 0 (.bool b0) (by simp)).set 1 (.bool b1) (by simp)).set 2 (.bool b2) (by simp)).set 3 (.bool b3) (by simp)).set 4 (.bool b4) (by simp)).set 5 (.bool b5) (by simp)).set 6 (.bool b6) (by simp)).set 7 (.bool b7) (by simp)).set 8 (.int .i64 k0) (by simp)).set 9 (.int .i64 k1) (by simp)).set 10 (.int .i64 k2) (by simp)).set 11 (.int .i64 k3) (by simp)).set 12 (.int .i64 k4) (by simp))
  have HQ := Lib.hid (((((((((((((HB.out.setCell (p := ⟨w.heap.size, 0, none⟩) (Nat.le_refl _) (.bool b0)).setCell (p := ⟨w.heap.size, 1, none⟩) (Nat.le_refl _) (.bool b1)).setCell (p := ⟨w.heap.size, 2, none⟩) (Nat.le_refl _) (.bool b2)).setCell (p := ⟨w.heap.size, 3, none⟩) (Nat.le_refl _) (.bool b3)).setCell (p := ⟨w.heap.size, 4, none⟩) (Nat.le_refl _) (.bool b4)).setCell (p := ⟨w.heap.size, 5, none⟩) (Nat.le_refl _) (.bool b5)).setCell (p := ⟨w.heap.size, 6, none⟩) (Nat.le_refl _) (.bool b6)).setCell (p := ⟨w.heap.size, 7, none⟩) (Nat.le_refl _) (.bool b7)).setCell (p := ⟨w.heap.size, 8, none⟩) (Nat.le_refl _) (.int .i64 k0)).setCell (p := ⟨w.heap.size, 9, none⟩) (Nat.le_refl _) (.int .i64 k1)).setCell (p := ⟨w.heap.size, 10, none⟩) (Nat.le_refl _) (.int .i64 k2)).setCell (p := ⟨w.heap.size, 11, none⟩) (Nat.le_refl _) (.int .i64 k3)).setCell (p := ⟨w.heap.size, 12, none⟩) (Nat.le_refl _) (.int .i64 k4))
  generalize (((((((((((((f.setCell ⟨w.heap.size, 0, none⟩ (.bool b0)).setCell ⟨w.heap.size, 1, none⟩ (.bool b1)).setCell ⟨w.heap.size, 2, none⟩ (.bool b2)).setCell ⟨w.heap.size, 3, none⟩ (.bool b3)).setCell ⟨w.heap.size, 4, none⟩ (.bool b4)).setCell ⟨w.heap.size, 5, none⟩ (.bool b5)).setCell ⟨w.heap.size, 6, none⟩ (.bool b6)).setCell ⟨w.heap.size, 7, none⟩ (.bool b7)).setCell ⟨w.heap.size, 8, none⟩ (.int .i64 k0)).setCell ⟨w.heap.size, 9, none⟩ (.int .i64 k1)).setCell ⟨w.heap.size, 10, none⟩ (.int .i64 k2)).setCell ⟨w.heap.size, 11, none⟩ (.int .i64 k3)).setCell ⟨w.heap.size, 12, none⟩ (.int .i64 k4)) = W8 at *
  have hal := (Below.refl W8.heap.size W8).alloc (Nat.le_refl _) (.cells #[.string (strB N), .string (strB V), .bool true] 48)
  have HP := Lib.hid (HP.out.next hal)
  have HQ := Lib.hid (HQ.out.trans (hal.mono HQ.out.size))
  clear hal
  generalize W8.alloc (.cells #[.string (strB N), .string (strB V), .bool true] 48) = W9 at *
  have p0 := (HP.out.2 0 _ rfl).1
  have p1 := (HP.out.2 1 _ rfl).1
  have p2 := (HP.out.2 2 _ rfl).1
  have p3 := (HP.out.2 3 _ rfl).1
  have p4 := (HP.out.2 4 _ rfl).1
  have p5 := (HP.out.2 5 _ rfl).1
  have p6 := (HP.out.2 6 _ rfl).1
  have p7 := (HP.out.2 7 _ rfl).1
  have p8 := (HP.out.2 8 _ rfl).1
  have p9 := (HP.out.2 9 _ rfl).1
  have p10 := (HP.out.2 10 _ rfl).1
  have p11 := (HP.out.2 11 _ rfl).1
  have p12 := (HP.out.2 12 _ rfl).1
  refine bodyPost_ret (v := .agg #[.bool b0, .bool b1, .bool b2, .bool b3, .bool b4, .bool b5, .bool b6, .bool b7, .int .i64 k0, .int .i64 k1, .int .i64 k2, .int .i64 k3, .int .i64 k4]) (by simp [results, Tryd.results13, go_sem, p0, p1, p2, p3, p4, p5, p6, p7, p8, p9, p10, p11, p12]) rfl ⟨by rw [HV.out], HQ.out⟩

set_option maxRecDepth 100000 in
set_option maxHeartbeats 4000000 in
theorem rof_2 (lo : Nat) (v : Value) (ds : List Dir) (w : World) (hv : Dirs lo w v ds) (hok : DirsOk ds) (N V : List UInt8) (hf : fstN ds nStale = some (N, V, false)) :
    Calls Tryd.prog 13 #[v] w fun e w' => e = .returned (rulV ds) ∧ Below w.heap.size w w' := by
  have cF := fun W (hb : Below w.heap.size w W) => rfind_any lo v ds nStale W (hv.below hb) hok.1
  rw [hf] at cF
  have HV : Hid (rulV ds = .agg #[.bool (hasN ds nNoStore), .bool (hasN ds nNoCache), .bool (hasN ds nPrivate), .bool (hasN ds nPublic), .bool (hasN ds nMust), .bool (hasN ds nProxy), .bool (hasN ds nImmut), .bool (hasN ds nOnly), .int .i64 (numN ds nMaxAge), .int .i64 (numN ds nSMax), .int .i64 (2147483648), .int .i64 (numN ds nFresh), .int .i64 (numN ds nIfErr)]) := Lib.hid (by
    have h : stlN ds nStale = 2147483648 := by rw [stlN, hf]; rfl
    rw [rulV, h])
  generalize rulV ds = R at *
  have s0 := fun W (hb : Below w.heap.size w W) => rhas_any lo v ds nNoStore W (hv.below hb) hok.1
  generalize hasN ds nNoStore = b0 at *
  have s1 := fun W (hb : Below w.heap.size w W) => rhas_any lo v ds nNoCache W (hv.below hb) hok.1
  generalize hasN ds nNoCache = b1 at *
  have s2 := fun W (hb : Below w.heap.size w W) => rhas_any lo v ds nPrivate W (hv.below hb) hok.1
  generalize hasN ds nPrivate = b2 at *
  have s3 := fun W (hb : Below w.heap.size w W) => rhas_any lo v ds nPublic W (hv.below hb) hok.1
  generalize hasN ds nPublic = b3 at *
  have s4 := fun W (hb : Below w.heap.size w W) => rhas_any lo v ds nMust W (hv.below hb) hok.1
  generalize hasN ds nMust = b4 at *
  have s5 := fun W (hb : Below w.heap.size w W) => rhas_any lo v ds nProxy W (hv.below hb) hok.1
  generalize hasN ds nProxy = b5 at *
  have s6 := fun W (hb : Below w.heap.size w W) => rhas_any lo v ds nImmut W (hv.below hb) hok.1
  generalize hasN ds nImmut = b6 at *
  have s7 := fun W (hb : Below w.heap.size w W) => rhas_any lo v ds nOnly W (hv.below hb) hok.1
  generalize hasN ds nOnly = b7 at *
  have t0 := fun W (hb : Below w.heap.size w W) => rnumber_any lo v ds nMaxAge W (hv.below hb) hok
  generalize numN ds nMaxAge = k0 at *
  have t1 := fun W (hb : Below w.heap.size w W) => rnumber_any lo v ds nSMax W (hv.below hb) hok
  generalize numN ds nSMax = k1 at *
  have t2 := fun W (hb : Below w.heap.size w W) => rnumber_any lo v ds nStale W (hv.below hb) hok
  generalize numN ds nStale = k2 at *
  have t3 := fun W (hb : Below w.heap.size w W) => rnumber_any lo v ds nFresh W (hv.below hb) hok
  generalize numN ds nFresh = k3 at *
  have t4 := fun W (hb : Below w.heap.size w W) => rnumber_any lo v ds nIfErr W (hv.below hb) hok
  generalize numN ds nIfErr = k4 at *
  obtain ⟨ao, cap, rfl, _⟩ := hv
  have HB0 := Lib.hid ((Below.refl w.heap.size w).alloc (Nat.le_refl _) (.cells #[.bool false, .bool false, .bool false, .bool false, .bool false, .bool false, .bool false, .bool false, .int .i64 0, .int .i64 0, .int .i64 0, .int .i64 0, .int .i64 0] 33))
  have HX0 := Lib.hid (BoxN.made w [.bool false, .bool false, .bool false, .bool false, .bool false, .bool false, .bool false, .bool false, .int .i64 0, .int .i64 0, .int .i64 0, .int .i64 0, .int .i64 0] 33)
  clear hf
  go_enter Tryd.func13, Tryd.ntmps13
  go_wp2_with fail
  refine (s0 _ HB0.out).mono ?_
  rintro e v0 ⟨rfl, hb⟩
  have HX0 := Lib.hid (HX0.out.next hb)
  have HB0 := Lib.hid (HB0.out.trans (hb.mono HB0.out.size))
  clear hb s0
  go_wp2_with fail
  refine (s1 _ HB0.out).mono ?_
  rintro e v1 ⟨rfl, hb⟩
  have HX0 := Lib.hid (HX0.out.next hb)
  have HB0 := Lib.hid (HB0.out.trans (hb.mono HB0.out.size))
  clear hb s1
  go_wp2_with fail
  refine (s2 _ HB0.out).mono ?_
  rintro e v2 ⟨rfl, hb⟩
  have HX0 := Lib.hid (HX0.out.next hb)
  have HB0 := Lib.hid (HB0.out.trans (hb.mono HB0.out.size))
  clear hb s2
  go_wp2_with fail
  refine (s3 _ HB0.out).mono ?_
  rintro e v3 ⟨rfl, hb⟩
  have HX0 := Lib.hid (HX0.out.next hb)
  have HB0 := Lib.hid (HB0.out.trans (hb.mono HB0.out.size))
  clear hb s3
  go_wp2_with fail
  refine (s4 _ HB0.out).mono ?_
  rintro e v4 ⟨rfl, hb⟩
  have HX0 := Lib.hid (HX0.out.next hb)
  have HB0 := Lib.hid (HB0.out.trans (hb.mono HB0.out.size))
  clear hb s4
  go_wp2_with fail
  refine (s5 _ HB0.out).mono ?_
  rintro e v5 ⟨rfl, hb⟩
  have HX0 := Lib.hid (HX0.out.next hb)
  have HB0 := Lib.hid (HB0.out.trans (hb.mono HB0.out.size))
  clear hb s5
  go_wp2_with fail
  refine (s6 _ HB0.out).mono ?_
  rintro e v6 ⟨rfl, hb⟩
  have HX0 := Lib.hid (HX0.out.next hb)
  have HB0 := Lib.hid (HB0.out.trans (hb.mono HB0.out.size))
  clear hb s6
  go_wp2_with fail
  refine (s7 _ HB0.out).mono ?_
  rintro e v7 ⟨rfl, hb⟩
  have HX0 := Lib.hid (HX0.out.next hb)
  have HB0 := Lib.hid (HB0.out.trans (hb.mono HB0.out.size))
  clear hb s7
  go_wp2_with fail
  have hC : w.heap.size < v7.heap.size := HX0.out.1
  have HY := Lib.hid (BoxN.made v7 [.bool b0, .bool b1, .bool b2, .bool b3, .bool b4, .bool b5, .bool b6, .bool b7, .int .i64 0, .int .i64 0, .int .i64 0, .int .i64 0, .int .i64 0] 33)
  have hal := (Below.refl v7.heap.size v7).alloc (Nat.le_refl _) (.cells #[.bool b0, .bool b1, .bool b2, .bool b3, .bool b4, .bool b5, .bool b6, .bool b7, .int .i64 0, .int .i64 0, .int .i64 0, .int .i64 0, .int .i64 0] 33)
  have HX0 := Lib.hid (HX0.out.next hal)
  have HB0 := Lib.hid (HB0.out.trans (hal.mono HB0.out.size))
  clear hal
  generalize v7.alloc (.cells #[.bool b0, .bool b1, .bool b2, .bool b3, .bool b4, .bool b5, .bool b6, .bool b7, .int .i64 0, .int .i64 0, .int .i64 0, .int .i64 0, .int .i64 0] 33) = U at *
  generalize v7.heap.size = C at *
  refine (t0 _ HB0.out).mono ?_
  rintro e u0 ⟨rfl, hb⟩
  have HX0 := Lib.hid (HX0.out.next hb)
  have HY := Lib.hid (HY.out.next hb)
  have HB0 := Lib.hid (HB0.out.trans (hb.mono HB0.out.size))
  have y := (HY.out.2 8 _ rfl).1
  have fy := (HY.out.2 8 _ rfl).2
  clear hb t0
  go_wp2_with fail
  clear y fy
  have HY := Lib.hid (HY.out.set 8 (.int .i64 k0) (by simp))
  have HX0 := Lib.hid (HX0.out.other (Nat.ne_of_gt hC) (k := 8) (.int .i64 k0))
  have HB0 := Lib.hid (HB0.out.setCell (p := ⟨C, 8, none⟩) (Nat.le_of_lt hC) (.int .i64 k0))
  generalize u0.setCell ⟨C, 8, none⟩ (.int .i64 k0) = U0 at *
  refine (t1 _ HB0.out).mono ?_
  rintro e u1 ⟨rfl, hb⟩
  have HX0 := Lib.hid (HX0.out.next hb)
  have HY := Lib.hid (HY.out.next hb)
  have HB0 := Lib.hid (HB0.out.trans (hb.mono HB0.out.size))
  have y := (HY.out.2 9 _ rfl).1
  have fy := (HY.out.2 9 _ rfl).2
  clear hb t1
  go_wp2_with fail
  clear y fy
  have HY := Lib.hid (HY.out.set 9 (.int .i64 k1) (by simp))
  have HX0 := Lib.hid (HX0.out.other (Nat.ne_of_gt hC) (k := 9) (.int .i64 k1))
  have HB0 := Lib.hid (HB0.out.setCell (p := ⟨C, 9, none⟩) (Nat.le_of_lt hC) (.int .i64 k1))
  generalize u1.setCell ⟨C, 9, none⟩ (.int .i64 k1) = U1 at *
  refine (t2 _ HB0.out).mono ?_
  rintro e u2 ⟨rfl, hb⟩
  have HX0 := Lib.hid (HX0.out.next hb)
  have HY := Lib.hid (HY.out.next hb)
  have HB0 := Lib.hid (HB0.out.trans (hb.mono HB0.out.size))
  have y := (HY.out.2 10 _ rfl).1
  have fy := (HY.out.2 10 _ rfl).2
  clear hb t2
  go_wp2_with fail
  clear y fy
  have HY := Lib.hid (HY.out.set 10 (.int .i64 k2) (by simp))
  have HX0 := Lib.hid (HX0.out.other (Nat.ne_of_gt hC) (k := 10) (.int .i64 k2))
  have HB0 := Lib.hid (HB0.out.setCell (p := ⟨C, 10, none⟩) (Nat.le_of_lt hC) (.int .i64 k2))
  generalize u2.setCell ⟨C, 10, none⟩ (.int .i64 k2) = U2 at *
  refine (t3 _ HB0.out).mono ?_
  rintro e u3 ⟨rfl, hb⟩
  have HX0 := Lib.hid (HX0.out.next hb)
  have HY := Lib.hid (HY.out.next hb)
  have HB0 := Lib.hid (HB0.out.trans (hb.mono HB0.out.size))
  have y := (HY.out.2 11 _ rfl).1
  have fy := (HY.out.2 11 _ rfl).2
  clear hb t3
  go_wp2_with fail
  clear y fy
  have HY := Lib.hid (HY.out.set 11 (.int .i64 k3) (by simp))
  have HX0 := Lib.hid (HX0.out.other (Nat.ne_of_gt hC) (k := 11) (.int .i64 k3))
  have HB0 := Lib.hid (HB0.out.setCell (p := ⟨C, 11, none⟩) (Nat.le_of_lt hC) (.int .i64 k3))
  generalize u3.setCell ⟨C, 11, none⟩ (.int .i64 k3) = U3 at *
  refine (t4 _ HB0.out).mono ?_
  rintro e u4 ⟨rfl, hb⟩
  have HX0 := Lib.hid (HX0.out.next hb)
  have HY := Lib.hid (HY.out.next hb)
  have HB0 := Lib.hid (HB0.out.trans (hb.mono HB0.out.size))
  have y := (HY.out.2 12 _ rfl).1
  have fy := (HY.out.2 12 _ rfl).2
  clear hb t4
  go_wp2_with fail
  clear y fy
  have HY := Lib.hid (HY.out.set 12 (.int .i64 k4) (by simp))
  have HX0 := Lib.hid (HX0.out.other (Nat.ne_of_gt hC) (k := 12) (.int .i64 k4))
  have HB0 := Lib.hid (HB0.out.setCell (p := ⟨C, 12, none⟩) (Nat.le_of_lt hC) (.int .i64 k4))
  generalize u4.setCell ⟨C, 12, none⟩ (.int .i64 k4) = U4 at *
  refine (cF _ HB0.out).mono ?_
  rintro e f ⟨rfl, hb⟩
  have HX := Lib.hid (HX0.out.next hb)
  have HY := Lib.hid (HY.out.next hb)
  have HB := Lib.hid (HB0.out.trans (hb.mono HB0.out.size))
  have hlt : w.heap.size < f.heap.size := HX.out.1
  have hlt2 : C < f.heap.size := HY.out.1
  have hne : C ≠ w.heap.size := Nat.ne_of_gt hC
  clear hb cF HX0 HB0
  simp only [fndV, dirV]
  have y0 := (HY.out.2 0 _ rfl).1
  have fy0 := (HY.out.2 0 _ rfl).2
  have y1 := (HY.out.2 1 _ rfl).1
  have fy1 := (HY.out.2 1 _ rfl).2
  have y2 := (HY.out.2 2 _ rfl).1
  have fy2 := (HY.out.2 2 _ rfl).2
  have y3 := (HY.out.2 3 _ rfl).1
  have fy3 := (HY.out.2 3 _ rfl).2
  have y4 := (HY.out.2 4 _ rfl).1
  have fy4 := (HY.out.2 4 _ rfl).2
  have y5 := (HY.out.2 5 _ rfl).1
  have fy5 := (HY.out.2 5 _ rfl).2
  have y6 := (HY.out.2 6 _ rfl).1
  have fy6 := (HY.out.2 6 _ rfl).2
  have y7 := (HY.out.2 7 _ rfl).1
  have fy7 := (HY.out.2 7 _ rfl).2
  have y8 := (HY.out.2 8 _ rfl).1
  have fy8 := (HY.out.2 8 _ rfl).2
  have y9 := (HY.out.2 9 _ rfl).1
  have fy9 := (HY.out.2 9 _ rfl).2
  have y10 := (HY.out.2 10 _ rfl).1
  have fy10 := (HY.out.2 10 _ rfl).2
  have y11 := (HY.out.2 11 _ rfl).1
  have fy11 := (HY.out.2 11 _ rfl).2
  have y12 := (HY.out.2 12 _ rfl).1
  have fy12 := (HY.out.2 12 _ rfl).2
  have x0 := (HX.out.2 0 _ rfl).1
  have g0 := (HX.out.2 0 _ rfl).2
  have x1 := (HX.out.2 1 _ rfl).1
  have g1 := (HX.out.2 1 _ rfl).2
  have x2 := (HX.out.2 2 _ rfl).1
  have g2 := (HX.out.2 2 _ rfl).2
  have x3 := (HX.out.2 3 _ rfl).1
  have g3 := (HX.out.2 3 _ rfl).2
  have x4 := (HX.out.2 4 _ rfl).1
  have g4 := (HX.out.2 4 _ rfl).2
  have x5 := (HX.out.2 5 _ rfl).1
  have g5 := (HX.out.2 5 _ rfl).2
  have x6 := (HX.out.2 6 _ rfl).1
  have g6 := (HX.out.2 6 _ rfl).2
  have x7 := (HX.out.2 7 _ rfl).1
  have g7 := (HX.out.2 7 _ rfl).2
  have x8 := (HX.out.2 8 _ rfl).1
  have g8 := (HX.out.2 8 _ rfl).2
  have x9 := (HX.out.2 9 _ rfl).1
  have g9 := (HX.out.2 9 _ rfl).2
  have x10 := (HX.out.2 10 _ rfl).1
  have g10 := (HX.out.2 10 _ rfl).2
  have x11 := (HX.out.2 11 _ rfl).1
  have g11 := (HX.out.2 11 _ rfl).2
  have x12 := (HX.out.2 12 _ rfl).1
  have g12 := (HX.out.2 12 _ rfl).2
  go_wp2_with fail
  clear x0 g0 x1 g1 x2 g2 x3 g3 x4 g4 x5 g5 x6 g6 x7 g7 x8 g8 x9 g9 x10 g10 x11 g11 x12 g12
  clear y0 fy0 y1 fy1 y2 fy2 y3 fy3 y4 fy4 y5 fy5 y6 fy6 y7 fy7 y8 fy8 y9 fy9 y10 fy10 y11 fy11 y12 fy12
  have HX := Lib.hid (HX.out.other hne (k := 10) (.int .i64 2147483648))
  have HB := Lib.hid (HB.out.setCell (p := ⟨C, 10, none⟩) (Nat.le_of_lt hC) (.int .i64 2147483648))
  have HP := Lib.hid (((((((((((((HX.out.set 0 (.bool b0) (by simp)).set 1 (.bool b1) (by simp)).set 2 (.bool b2) (by simp)).set 3 (.bool b3) (by simp)).set 4 (.bool b4) (by simp)).set 5 (.bool b5) (by simp)).set 6 (.bool b6) (by simp)).set 7 (.bool b7) (by simp)).set 8 (.int .i64 k0) (by simp)).set 9 (.int .i64 k1) (by simp)).set 10 (.int .i64 (2147483648)) (by simp)).set 11 (.int .i64 k3) (by simp)).set 12 (.int .i64 k4) (by simp))
  have HQ := Lib.hid (((((((((((((HB.out.setCell (p := ⟨w.heap.size, 0, none⟩) (Nat.le_refl _) (.bool b0)).setCell (p := ⟨w.heap.size, 1, none⟩) (Nat.le_refl _) (.bool b1)).setCell (p := ⟨w.heap.size, 2, none⟩) (Nat.le_refl _) (.bool b2)).setCell (p := ⟨w.heap.size, 3, none⟩) (Nat.le_refl _) (.bool b3)).setCell (p := ⟨w.heap.size, 4, none⟩) (Nat.le_refl _) (.bool b4)).setCell (p := ⟨w.heap.size, 5, none⟩) (Nat.le_refl _) (.bool b5)).setCell (p := ⟨w.heap.size, 6, none⟩) (Nat.le_refl _) (.bool b6)).setCell (p := ⟨w.heap.size, 7, none⟩) (Nat.le_refl _) (.bool b7)).setCell (p := ⟨w.heap.size, 8, none⟩) (Nat.le_refl _) (.int .i64 k0)).setCell (p := ⟨w.heap.size, 9, none⟩) (Nat.le_refl _) (.int .i64 k1)).setCell (p := ⟨w.heap.size, 10, none⟩) (Nat.le_refl _) (.int .i64 (2147483648))).setCell (p := ⟨w.heap.size, 11, none⟩) (Nat.le_refl _) (.int .i64 k3)).setCell (p := ⟨w.heap.size, 12, none⟩) (Nat.le_refl _) (.int .i64 k4))
  generalize ((((((((((((((f.setCell ⟨C, 10, none⟩ (.int .i64 2147483648)).setCell ⟨w.heap.size, 0, none⟩ (.bool b0)).setCell ⟨w.heap.size, 1, none⟩ (.bool b1)).setCell ⟨w.heap.size, 2, none⟩ (.bool b2)).setCell ⟨w.heap.size, 3, none⟩ (.bool b3)).setCell ⟨w.heap.size, 4, none⟩ (.bool b4)).setCell ⟨w.heap.size, 5, none⟩ (.bool b5)).setCell ⟨w.heap.size, 6, none⟩ (.bool b6)).setCell ⟨w.heap.size, 7, none⟩ (.bool b7)).setCell ⟨w.heap.size, 8, none⟩ (.int .i64 k0)).setCell ⟨w.heap.size, 9, none⟩ (.int .i64 k1)).setCell ⟨w.heap.size, 10, none⟩ (.int .i64 (2147483648))).setCell ⟨w.heap.size, 11, none⟩ (.int .i64 k3)).setCell ⟨w.heap.size, 12, none⟩ (.int .i64 k4)) = W8 at *
  have hal := (Below.refl W8.heap.size W8).alloc (Nat.le_refl _) (.cells #[.string (strB N), .string (strB V), .bool false] 48)
  have HP := Lib.hid (HP.out.next hal)
  have HQ := Lib.hid (HQ.out.trans (hal.mono HQ.out.size))
  clear hal
  generalize W8.alloc (.cells #[.string (strB N), .string (strB V), .bool false] 48) = W9 at *
  have p0 := (HP.out.2 0 _ rfl).1
  have p1 := (HP.out.2 1 _ rfl).1
  have p2 := (HP.out.2 2 _ rfl).1
  have p3 := (HP.out.2 3 _ rfl).1
  have p4 := (HP.out.2 4 _ rfl).1
  have p5 := (HP.out.2 5 _ rfl).1
  have p6 := (HP.out.2 6 _ rfl).1
  have p7 := (HP.out.2 7 _ rfl).1
  have p8 := (HP.out.2 8 _ rfl).1
  have p9 := (HP.out.2 9 _ rfl).1
  have p10 := (HP.out.2 10 _ rfl).1
  have p11 := (HP.out.2 11 _ rfl).1
  have p12 := (HP.out.2 12 _ rfl).1
  refine bodyPost_ret (v := .agg #[.bool b0, .bool b1, .bool b2, .bool b3, .bool b4, .bool b5, .bool b6, .bool b7, .int .i64 k0, .int .i64 k1, .int .i64 (2147483648), .int .i64 k3, .int .i64 k4]) (by simp [results, Tryd.results13, go_sem, p0, p1, p2, p3, p4, p5, p6, p7, p8, p9, p10, p11, p12]) rfl ⟨by rw [HV.out], HQ.out⟩

theorem rof_any (lo : Nat) (v : Value) (ds : List Dir) (w : World) (hv : Dirs lo w v ds) (hok : DirsOk ds) :
    Calls Tryd.prog 13 #[v] w fun e w' => e = .returned (rulV ds) ∧ Below w.heap.size w w' := by
  cases hf : fstN ds nStale with
  | none => exact rof_0 lo v ds w hv hok hf
  | some d =>
    obtain ⟨N, V, H⟩ := d
    cases H
    · exact rof_2 lo v ds w hv hok N V hf
    · exact rof_1 lo v ds w hv hok N V hf

end Go.Proofs.YtjnagifolheloaaDoor
