/- The document's own Choose (sculleryref11). -/
import Derived.Test.YtpifbgefkbhopaaGreatDoorZSrB
import Derived.Test.YtpifbgefkbhopaaGreatDoorZRoG
import Derived.Test.YtpifbgefkbhopaaGreatDoorZMChsP

namespace Go.Proofs.YtpifbgefkbhopaaGreatDoor
open Go.RowKit Go.Lib

set_option maxRecDepth 100000 in
set_option maxHeartbeats 4000000 in
theorem r11choose_any (lo : Nat) (v : Value) (fs : List Fld) (w : World) (hv : Flds lo w v fs) (hk : FldsOk fs) (hj : ∀ n, (joinH (allH fs n)).length ≤ 90000) :
    Calls Tryz.prog 11 #[v] w fun e w' => e = .returned (chsA fs) ∧ Below w.heap.size w w' := by
  have cG := fun W (hb : Below w.heap.size w W) => rget_any lo v fs nCdn W (hv.below hb) hk
  have cG2 := fun W (hb : Below w.heap.size w W) => rget_any lo v fs nCtl W (hv.below hb) hk
  have cR := fun W (hb : Below w.heap.size w W) => r10read_any lo v fs W (hv.below hb) hk (Nat.le_trans (hj nCtl) (by decide))
  have cP := fun W => r11parse_any (strB (joinH (allH fs nCdn))) W (by rw [strB_size]; exact hj nCdn)
  simp only [strB_data] at cP
  have cN := rnone_any
  rw [rulV_noneR] at cN
  obtain ⟨ao, cap, rfl, _⟩ := hv
  obtain ⟨b0, b1, b2, b3, b4, b5, b6, b7, k0, k1, k2, k3, k4, hR⟩ := rulO_form_ModA (modL (joinH (allH fs nCdn)))
  obtain ⟨c0, c1, c2, c3, c4, c5, c6, c7, m0, m1, m2, m3, m4, hR2⟩ := rulV_form (ctlD fs)
  rw [hR2] at cR
  unfold modA_ModA at cP
  rw [hR] at cP
  have HA : Hid (chsA fs = if 0 < (allH fs nCdn).length ∧ (modL (joinH (allH fs nCdn))).isSome = true then .tuple #[.agg #[.bool b0, .bool b1, .bool b2, .bool b3, .bool b4, .bool b5, .bool b6, .bool b7, .int .i64 k0, .int .i64 k1, .int .i64 k2, .int .i64 k3, .int .i64 k4], .int .i64 2] else if 0 < (allH fs nCtl).length then .tuple #[.agg #[.bool c0, .bool c1, .bool c2, .bool c3, .bool c4, .bool c5, .bool c6, .bool c7, .int .i64 m0, .int .i64 m1, .int .i64 m2, .int .i64 m3, .int .i64 m4], .int .i64 1] else .tuple #[.agg #[.bool false, .bool false, .bool false, .bool false, .bool false, .bool false, .bool false, .bool false, .int .i64 (-1), .int .i64 (-1), .int .i64 (-1), .int .i64 (-1), .int .i64 (-1)], .int .i64 0]) := Lib.hid (by rw [chsA, hR, hR2]; rfl)
  have HB0 := Lib.hid ((Below.refl w.heap.size w).alloc (Nat.le_refl _) (.cells #[.bool false, .bool false, .bool false, .bool false, .bool false, .bool false, .bool false, .bool false, .int .i64 0, .int .i64 0, .int .i64 0, .int .i64 0, .int .i64 0] 29))
  have HX := Lib.hid (BoxN.made w [.bool false, .bool false, .bool false, .bool false, .bool false, .bool false, .bool false, .bool false, .int .i64 0, .int .i64 0, .int .i64 0, .int .i64 0, .int .i64 0] 29)
  obtain ⟨q, hq⟩ : ∃ q, (modL (joinH (allH fs nCdn))).isSome = q := ⟨_, rfl⟩
  rw [hq] at cP HA
  obtain ⟨p, hp⟩ : ∃ p, decide (0 < (allH fs nCdn).length) = p := ⟨_, rfl⟩
  obtain ⟨r, hr⟩ : ∃ r, decide (0 < (allH fs nCtl).length) = r := ⟨_, rfl⟩
  rw [getV, hp] at cG
  rw [getV, hr] at cG2
  generalize strB (joinH (allH fs nCdn)) = J at *
  generalize strB (joinH (allH fs nCtl)) = J2 at *
  clear hR hR2 hj hk
  cases p
  · cases r
    · cases q
      all_goals
        have HR : Hid (chsA fs = .tuple #[.agg #[.bool false, .bool false, .bool false, .bool false, .bool false, .bool false, .bool false, .bool false, .int .i64 (-1), .int .i64 (-1), .int .i64 (-1), .int .i64 (-1), .int .i64 (-1)], .int .i64 0]) := Lib.hid (by rw [HA.out, if_neg (fun e => by have := decide_eq_true e.1; rw [hp] at this; cases this), if_neg (of_decide_eq_false hr)])
        clear HA hp hr hq
        generalize chsA fs = R at *
        go_enter Tryz.func11, Tryz.ntmps11
        go_wp2_with fail
        refine (cG _ HB0.out).mono ?_
        rintro e w1 ⟨rfl, hb⟩
        have HX := Lib.hid (HX.out.next hb)
        have HB := Lib.hid (HB0.out.trans (hb.mono HB0.out.size))
        clear hb cG HB0
        go_wp2_with fail
        refine (cP _).mono ?_
        rintro e w2 ⟨rfl, hb⟩
        have HX := Lib.hid (HX.out.next hb)
        have HB := Lib.hid (HB.out.trans (hb.mono HB.out.size))
        clear hb cP
        have hlt : w.heap.size < w2.heap.size := HX.out.1
        have hal := (Below.refl w2.heap.size w2).alloc (Nat.le_refl _) (.cells #[.bool b0, .bool b1, .bool b2, .bool b3, .bool b4, .bool b5, .bool b6, .bool b7, .int .i64 k0, .int .i64 k1, .int .i64 k2, .int .i64 k3, .int .i64 k4] 29)
        have HX := Lib.hid (HX.out.next hal)
        have HB := Lib.hid (HB.out.trans (hal.mono HB.out.size))
        clear hal hlt
        go_wp2_with fail
        refine (cG2 _ HB.out).mono ?_
        rintro e w3 ⟨rfl, hb⟩
        have HX := Lib.hid (HX.out.next hb)
        have HB := Lib.hid (HB.out.trans (hb.mono HB.out.size))
        clear hb cG2
        go_wp2_with fail
        refine (cN _).mono ?_
        rintro e w4 ⟨rfl, hb⟩
        have HX := Lib.hid (HX.out.next hb)
        have HB := Lib.hid (HB.out.trans (hb.mono HB.out.size))
        clear hb cN
        have x0 := (HX.out.2 0 _ rfl).1
        have g0 := (HX.out.2 0 _ rfl).2
        have x1 := (HX.out.2 1 _ rfl).1
        have g1 := (HX.out.2 1 _ rfl).2
        have x2 := (HX.out.2 2 _ rfl).1
        have g2 := (HX.out.2 2 _ rfl).2
        have x3 := (HX.out.2 3 _ rfl).1
        have g3 := (HX.out.2 3 _ rfl).2
        have x4 := (HX.out.2 4 _ rfl).1
        have g4 := (HX.out.2 4 _ rfl).2
        have x5 := (HX.out.2 5 _ rfl).1
        have g5 := (HX.out.2 5 _ rfl).2
        have x6 := (HX.out.2 6 _ rfl).1
        have g6 := (HX.out.2 6 _ rfl).2
        have x7 := (HX.out.2 7 _ rfl).1
        have g7 := (HX.out.2 7 _ rfl).2
        have x8 := (HX.out.2 8 _ rfl).1
        have g8 := (HX.out.2 8 _ rfl).2
        have x9 := (HX.out.2 9 _ rfl).1
        have g9 := (HX.out.2 9 _ rfl).2
        have x10 := (HX.out.2 10 _ rfl).1
        have g10 := (HX.out.2 10 _ rfl).2
        have x11 := (HX.out.2 11 _ rfl).1
        have g11 := (HX.out.2 11 _ rfl).2
        have x12 := (HX.out.2 12 _ rfl).1
        have g12 := (HX.out.2 12 _ rfl).2
        go_wp2_with fail
        clear x0 g0 x1 g1 x2 g2 x3 g3 x4 g4 x5 g5 x6 g6 x7 g7 x8 g8 x9 g9 x10 g10 x11 g11 x12 g12
        have HP := Lib.hid (((((((((((((HX.out.set 0 (.bool false) (by simp)).set 1 (.bool false) (by simp)).set 2 (.bool false) (by simp)).set 3 (.bool false) (by simp)).set 4 (.bool false) (by simp)).set 5 (.bool false) (by simp)).set 6 (.bool false) (by simp)).set 7 (.bool false) (by simp)).set 8 (.int .i64 (-1)) (by simp)).set 9 (.int .i64 (-1)) (by simp)).set 10 (.int .i64 (-1)) (by simp)).set 11 (.int .i64 (-1)) (by simp)).set 12 (.int .i64 (-1)) (by simp))
        have HQ := Lib.hid (((((((((((((HB.out.setCell (p := ⟨w.heap.size, 0, none⟩) (Nat.le_refl _) (.bool false)).setCell (p := ⟨w.heap.size, 1, none⟩) (Nat.le_refl _) (.bool false)).setCell (p := ⟨w.heap.size, 2, none⟩) (Nat.le_refl _) (.bool false)).setCell (p := ⟨w.heap.size, 3, none⟩) (Nat.le_refl _) (.bool false)).setCell (p := ⟨w.heap.size, 4, none⟩) (Nat.le_refl _) (.bool false)).setCell (p := ⟨w.heap.size, 5, none⟩) (Nat.le_refl _) (.bool false)).setCell (p := ⟨w.heap.size, 6, none⟩) (Nat.le_refl _) (.bool false)).setCell (p := ⟨w.heap.size, 7, none⟩) (Nat.le_refl _) (.bool false)).setCell (p := ⟨w.heap.size, 8, none⟩) (Nat.le_refl _) (.int .i64 (-1))).setCell (p := ⟨w.heap.size, 9, none⟩) (Nat.le_refl _) (.int .i64 (-1))).setCell (p := ⟨w.heap.size, 10, none⟩) (Nat.le_refl _) (.int .i64 (-1))).setCell (p := ⟨w.heap.size, 11, none⟩) (Nat.le_refl _) (.int .i64 (-1))).setCell (p := ⟨w.heap.size, 12, none⟩) (Nat.le_refl _) (.int .i64 (-1)))
        generalize (((((((((((((w4.setCell ⟨w.heap.size, 0, none⟩ (.bool false)).setCell ⟨w.heap.size, 1, none⟩ (.bool false)).setCell ⟨w.heap.size, 2, none⟩ (.bool false)).setCell ⟨w.heap.size, 3, none⟩ (.bool false)).setCell ⟨w.heap.size, 4, none⟩ (.bool false)).setCell ⟨w.heap.size, 5, none⟩ (.bool false)).setCell ⟨w.heap.size, 6, none⟩ (.bool false)).setCell ⟨w.heap.size, 7, none⟩ (.bool false)).setCell ⟨w.heap.size, 8, none⟩ (.int .i64 (-1))).setCell ⟨w.heap.size, 9, none⟩ (.int .i64 (-1))).setCell ⟨w.heap.size, 10, none⟩ (.int .i64 (-1))).setCell ⟨w.heap.size, 11, none⟩ (.int .i64 (-1))).setCell ⟨w.heap.size, 12, none⟩ (.int .i64 (-1))) = W9 at *
        have p0 := (HP.out.2 0 _ rfl).1
        have p1 := (HP.out.2 1 _ rfl).1
        have p2 := (HP.out.2 2 _ rfl).1
        have p3 := (HP.out.2 3 _ rfl).1
        have p4 := (HP.out.2 4 _ rfl).1
        have p5 := (HP.out.2 5 _ rfl).1
        have p6 := (HP.out.2 6 _ rfl).1
        have p7 := (HP.out.2 7 _ rfl).1
        have p8 := (HP.out.2 8 _ rfl).1
        have p9 := (HP.out.2 9 _ rfl).1
        have p10 := (HP.out.2 10 _ rfl).1
        have p11 := (HP.out.2 11 _ rfl).1
        have p12 := (HP.out.2 12 _ rfl).1
        refine bodyPost_ret (v := .tuple #[.agg #[.bool false, .bool false, .bool false, .bool false, .bool false, .bool false, .bool false, .bool false, .int .i64 (-1), .int .i64 (-1), .int .i64 (-1), .int .i64 (-1), .int .i64 (-1)], .int .i64 0]) (by simp [results, Tryz.results11, go_sem, p0, p1, p2, p3, p4, p5, p6, p7, p8, p9, p10, p11, p12]) rfl ⟨by rw [HR.out], HQ.out⟩
    · cases q
      all_goals
        have HR : Hid (chsA fs = .tuple #[.agg #[.bool c0, .bool c1, .bool c2, .bool c3, .bool c4, .bool c5, .bool c6, .bool c7, .int .i64 m0, .int .i64 m1, .int .i64 m2, .int .i64 m3, .int .i64 m4], .int .i64 1]) := Lib.hid (by rw [HA.out, if_neg (fun e => by have := decide_eq_true e.1; rw [hp] at this; cases this), if_pos (of_decide_eq_true hr)])
        clear HA hp hr hq
        generalize chsA fs = R at *
        go_enter Tryz.func11, Tryz.ntmps11
        go_wp2_with fail
        refine (cG _ HB0.out).mono ?_
        rintro e w1 ⟨rfl, hb⟩
        have HX := Lib.hid (HX.out.next hb)
        have HB := Lib.hid (HB0.out.trans (hb.mono HB0.out.size))
        clear hb cG HB0
        go_wp2_with fail
        refine (cP _).mono ?_
        rintro e w2 ⟨rfl, hb⟩
        have HX := Lib.hid (HX.out.next hb)
        have HB := Lib.hid (HB.out.trans (hb.mono HB.out.size))
        clear hb cP
        have hlt : w.heap.size < w2.heap.size := HX.out.1
        have hal := (Below.refl w2.heap.size w2).alloc (Nat.le_refl _) (.cells #[.bool b0, .bool b1, .bool b2, .bool b3, .bool b4, .bool b5, .bool b6, .bool b7, .int .i64 k0, .int .i64 k1, .int .i64 k2, .int .i64 k3, .int .i64 k4] 29)
        have HX := Lib.hid (HX.out.next hal)
        have HB := Lib.hid (HB.out.trans (hal.mono HB.out.size))
        clear hal hlt
        go_wp2_with fail
        refine (cG2 _ HB.out).mono ?_
        rintro e w3 ⟨rfl, hb⟩
        have HX := Lib.hid (HX.out.next hb)
        have HB := Lib.hid (HB.out.trans (hb.mono HB.out.size))
        clear hb cG2
        go_wp2_with fail
        refine (cR _ HB.out).mono ?_
        rintro e w4 ⟨rfl, hb⟩
        have HX := Lib.hid (HX.out.next hb)
        have HB := Lib.hid (HB.out.trans (hb.mono HB.out.size))
        clear hb cR
        have x0 := (HX.out.2 0 _ rfl).1
        have g0 := (HX.out.2 0 _ rfl).2
        have x1 := (HX.out.2 1 _ rfl).1
        have g1 := (HX.out.2 1 _ rfl).2
        have x2 := (HX.out.2 2 _ rfl).1
        have g2 := (HX.out.2 2 _ rfl).2
        have x3 := (HX.out.2 3 _ rfl).1
        have g3 := (HX.out.2 3 _ rfl).2
        have x4 := (HX.out.2 4 _ rfl).1
        have g4 := (HX.out.2 4 _ rfl).2
        have x5 := (HX.out.2 5 _ rfl).1
        have g5 := (HX.out.2 5 _ rfl).2
        have x6 := (HX.out.2 6 _ rfl).1
        have g6 := (HX.out.2 6 _ rfl).2
        have x7 := (HX.out.2 7 _ rfl).1
        have g7 := (HX.out.2 7 _ rfl).2
        have x8 := (HX.out.2 8 _ rfl).1
        have g8 := (HX.out.2 8 _ rfl).2
        have x9 := (HX.out.2 9 _ rfl).1
        have g9 := (HX.out.2 9 _ rfl).2
        have x10 := (HX.out.2 10 _ rfl).1
        have g10 := (HX.out.2 10 _ rfl).2
        have x11 := (HX.out.2 11 _ rfl).1
        have g11 := (HX.out.2 11 _ rfl).2
        have x12 := (HX.out.2 12 _ rfl).1
        have g12 := (HX.out.2 12 _ rfl).2
        go_wp2_with fail
        clear x0 g0 x1 g1 x2 g2 x3 g3 x4 g4 x5 g5 x6 g6 x7 g7 x8 g8 x9 g9 x10 g10 x11 g11 x12 g12
        have HP := Lib.hid (((((((((((((HX.out.set 0 (.bool c0) (by simp)).set 1 (.bool c1) (by simp)).set 2 (.bool c2) (by simp)).set 3 (.bool c3) (by simp)).set 4 (.bool c4) (by simp)).set 5 (.bool c5) (by simp)).set 6 (.bool c6) (by simp)).set 7 (.bool c7) (by simp)).set 8 (.int .i64 m0) (by simp)).set 9 (.int .i64 m1) (by simp)).set 10 (.int .i64 m2) (by simp)).set 11 (.int .i64 m3) (by simp)).set 12 (.int .i64 m4) (by simp))
        have HQ := Lib.hid (((((((((((((HB.out.setCell (p := ⟨w.heap.size, 0, none⟩) (Nat.le_refl _) (.bool c0)).setCell (p := ⟨w.heap.size, 1, none⟩) (Nat.le_refl _) (.bool c1)).setCell (p := ⟨w.heap.size, 2, none⟩) (Nat.le_refl _) (.bool c2)).setCell (p := ⟨w.heap.size, 3, none⟩) (Nat.le_refl _) (.bool c3)).setCell (p := ⟨w.heap.size, 4, none⟩) (Nat.le_refl _) (.bool c4)).setCell (p := ⟨w.heap.size, 5, none⟩) (Nat.le_refl _) (.bool c5)).setCell (p := ⟨w.heap.size, 6, none⟩) (Nat.le_refl _) (.bool c6)).setCell (p := ⟨w.heap.size, 7, none⟩) (Nat.le_refl _) (.bool c7)).setCell (p := ⟨w.heap.size, 8, none⟩) (Nat.le_refl _) (.int .i64 m0)).setCell (p := ⟨w.heap.size, 9, none⟩) (Nat.le_refl _) (.int .i64 m1)).setCell (p := ⟨w.heap.size, 10, none⟩) (Nat.le_refl _) (.int .i64 m2)).setCell (p := ⟨w.heap.size, 11, none⟩) (Nat.le_refl _) (.int .i64 m3)).setCell (p := ⟨w.heap.size, 12, none⟩) (Nat.le_refl _) (.int .i64 m4))
        generalize (((((((((((((w4.setCell ⟨w.heap.size, 0, none⟩ (.bool c0)).setCell ⟨w.heap.size, 1, none⟩ (.bool c1)).setCell ⟨w.heap.size, 2, none⟩ (.bool c2)).setCell ⟨w.heap.size, 3, none⟩ (.bool c3)).setCell ⟨w.heap.size, 4, none⟩ (.bool c4)).setCell ⟨w.heap.size, 5, none⟩ (.bool c5)).setCell ⟨w.heap.size, 6, none⟩ (.bool c6)).setCell ⟨w.heap.size, 7, none⟩ (.bool c7)).setCell ⟨w.heap.size, 8, none⟩ (.int .i64 m0)).setCell ⟨w.heap.size, 9, none⟩ (.int .i64 m1)).setCell ⟨w.heap.size, 10, none⟩ (.int .i64 m2)).setCell ⟨w.heap.size, 11, none⟩ (.int .i64 m3)).setCell ⟨w.heap.size, 12, none⟩ (.int .i64 m4)) = W9 at *
        have p0 := (HP.out.2 0 _ rfl).1
        have p1 := (HP.out.2 1 _ rfl).1
        have p2 := (HP.out.2 2 _ rfl).1
        have p3 := (HP.out.2 3 _ rfl).1
        have p4 := (HP.out.2 4 _ rfl).1
        have p5 := (HP.out.2 5 _ rfl).1
        have p6 := (HP.out.2 6 _ rfl).1
        have p7 := (HP.out.2 7 _ rfl).1
        have p8 := (HP.out.2 8 _ rfl).1
        have p9 := (HP.out.2 9 _ rfl).1
        have p10 := (HP.out.2 10 _ rfl).1
        have p11 := (HP.out.2 11 _ rfl).1
        have p12 := (HP.out.2 12 _ rfl).1
        refine bodyPost_ret (v := .tuple #[.agg #[.bool c0, .bool c1, .bool c2, .bool c3, .bool c4, .bool c5, .bool c6, .bool c7, .int .i64 m0, .int .i64 m1, .int .i64 m2, .int .i64 m3, .int .i64 m4], .int .i64 1]) (by simp [results, Tryz.results11, go_sem, p0, p1, p2, p3, p4, p5, p6, p7, p8, p9, p10, p11, p12]) rfl ⟨by rw [HR.out], HQ.out⟩
  · cases q
    · cases r
      · have HR : Hid (chsA fs = .tuple #[.agg #[.bool false, .bool false, .bool false, .bool false, .bool false, .bool false, .bool false, .bool false, .int .i64 (-1), .int .i64 (-1), .int .i64 (-1), .int .i64 (-1), .int .i64 (-1)], .int .i64 0]) := Lib.hid (by rw [HA.out, if_neg (fun e => by cases e.2), if_neg (of_decide_eq_false hr)])
        clear HA hp hr hq
        generalize chsA fs = R at *
        go_enter Tryz.func11, Tryz.ntmps11
        go_wp2_with fail
        refine (cG _ HB0.out).mono ?_
        rintro e w1 ⟨rfl, hb⟩
        have HX := Lib.hid (HX.out.next hb)
        have HB := Lib.hid (HB0.out.trans (hb.mono HB0.out.size))
        clear hb cG HB0
        go_wp2_with fail
        refine (cP _).mono ?_
        rintro e w2 ⟨rfl, hb⟩
        have HX := Lib.hid (HX.out.next hb)
        have HB := Lib.hid (HB.out.trans (hb.mono HB.out.size))
        clear hb cP
        have hlt : w.heap.size < w2.heap.size := HX.out.1
        have hal := (Below.refl w2.heap.size w2).alloc (Nat.le_refl _) (.cells #[.bool b0, .bool b1, .bool b2, .bool b3, .bool b4, .bool b5, .bool b6, .bool b7, .int .i64 k0, .int .i64 k1, .int .i64 k2, .int .i64 k3, .int .i64 k4] 29)
        have HX := Lib.hid (HX.out.next hal)
        have HB := Lib.hid (HB.out.trans (hal.mono HB.out.size))
        clear hal hlt
        go_wp2_with fail
        refine (cG2 _ HB.out).mono ?_
        rintro e w3 ⟨rfl, hb⟩
        have HX := Lib.hid (HX.out.next hb)
        have HB := Lib.hid (HB.out.trans (hb.mono HB.out.size))
        clear hb cG2
        go_wp2_with fail
        refine (cN _).mono ?_
        rintro e w4 ⟨rfl, hb⟩
        have HX := Lib.hid (HX.out.next hb)
        have HB := Lib.hid (HB.out.trans (hb.mono HB.out.size))
        clear hb cN
        have x0 := (HX.out.2 0 _ rfl).1
        have g0 := (HX.out.2 0 _ rfl).2
        have x1 := (HX.out.2 1 _ rfl).1
        have g1 := (HX.out.2 1 _ rfl).2
        have x2 := (HX.out.2 2 _ rfl).1
        have g2 := (HX.out.2 2 _ rfl).2
        have x3 := (HX.out.2 3 _ rfl).1
        have g3 := (HX.out.2 3 _ rfl).2
        have x4 := (HX.out.2 4 _ rfl).1
        have g4 := (HX.out.2 4 _ rfl).2
        have x5 := (HX.out.2 5 _ rfl).1
        have g5 := (HX.out.2 5 _ rfl).2
        have x6 := (HX.out.2 6 _ rfl).1
        have g6 := (HX.out.2 6 _ rfl).2
        have x7 := (HX.out.2 7 _ rfl).1
        have g7 := (HX.out.2 7 _ rfl).2
        have x8 := (HX.out.2 8 _ rfl).1
        have g8 := (HX.out.2 8 _ rfl).2
        have x9 := (HX.out.2 9 _ rfl).1
        have g9 := (HX.out.2 9 _ rfl).2
        have x10 := (HX.out.2 10 _ rfl).1
        have g10 := (HX.out.2 10 _ rfl).2
        have x11 := (HX.out.2 11 _ rfl).1
        have g11 := (HX.out.2 11 _ rfl).2
        have x12 := (HX.out.2 12 _ rfl).1
        have g12 := (HX.out.2 12 _ rfl).2
        go_wp2_with fail
        clear x0 g0 x1 g1 x2 g2 x3 g3 x4 g4 x5 g5 x6 g6 x7 g7 x8 g8 x9 g9 x10 g10 x11 g11 x12 g12
        have HP := Lib.hid (((((((((((((HX.out.set 0 (.bool false) (by simp)).set 1 (.bool false) (by simp)).set 2 (.bool false) (by simp)).set 3 (.bool false) (by simp)).set 4 (.bool false) (by simp)).set 5 (.bool false) (by simp)).set 6 (.bool false) (by simp)).set 7 (.bool false) (by simp)).set 8 (.int .i64 (-1)) (by simp)).set 9 (.int .i64 (-1)) (by simp)).set 10 (.int .i64 (-1)) (by simp)).set 11 (.int .i64 (-1)) (by simp)).set 12 (.int .i64 (-1)) (by simp))
        have HQ := Lib.hid (((((((((((((HB.out.setCell (p := ⟨w.heap.size, 0, none⟩) (Nat.le_refl _) (.bool false)).setCell (p := ⟨w.heap.size, 1, none⟩) (Nat.le_refl _) (.bool false)).setCell (p := ⟨w.heap.size, 2, none⟩) (Nat.le_refl _) (.bool false)).setCell (p := ⟨w.heap.size, 3, none⟩) (Nat.le_refl _) (.bool false)).setCell (p := ⟨w.heap.size, 4, none⟩) (Nat.le_refl _) (.bool false)).setCell (p := ⟨w.heap.size, 5, none⟩) (Nat.le_refl _) (.bool false)).setCell (p := ⟨w.heap.size, 6, none⟩) (Nat.le_refl _) (.bool false)).setCell (p := ⟨w.heap.size, 7, none⟩) (Nat.le_refl _) (.bool false)).setCell (p := ⟨w.heap.size, 8, none⟩) (Nat.le_refl _) (.int .i64 (-1))).setCell (p := ⟨w.heap.size, 9, none⟩) (Nat.le_refl _) (.int .i64 (-1))).setCell (p := ⟨w.heap.size, 10, none⟩) (Nat.le_refl _) (.int .i64 (-1))).setCell (p := ⟨w.heap.size, 11, none⟩) (Nat.le_refl _) (.int .i64 (-1))).setCell (p := ⟨w.heap.size, 12, none⟩) (Nat.le_refl _) (.int .i64 (-1)))
        generalize (((((((((((((w4.setCell ⟨w.heap.size, 0, none⟩ (.bool false)).setCell ⟨w.heap.size, 1, none⟩ (.bool false)).setCell ⟨w.heap.size, 2, none⟩ (.bool false)).setCell ⟨w.heap.size, 3, none⟩ (.bool false)).setCell ⟨w.heap.size, 4, none⟩ (.bool false)).setCell ⟨w.heap.size, 5, none⟩ (.bool false)).setCell ⟨w.heap.size, 6, none⟩ (.bool false)).setCell ⟨w.heap.size, 7, none⟩ (.bool false)).setCell ⟨w.heap.size, 8, none⟩ (.int .i64 (-1))).setCell ⟨w.heap.size, 9, none⟩ (.int .i64 (-1))).setCell ⟨w.heap.size, 10, none⟩ (.int .i64 (-1))).setCell ⟨w.heap.size, 11, none⟩ (.int .i64 (-1))).setCell ⟨w.heap.size, 12, none⟩ (.int .i64 (-1))) = W9 at *
        have p0 := (HP.out.2 0 _ rfl).1
        have p1 := (HP.out.2 1 _ rfl).1
        have p2 := (HP.out.2 2 _ rfl).1
        have p3 := (HP.out.2 3 _ rfl).1
        have p4 := (HP.out.2 4 _ rfl).1
        have p5 := (HP.out.2 5 _ rfl).1
        have p6 := (HP.out.2 6 _ rfl).1
        have p7 := (HP.out.2 7 _ rfl).1
        have p8 := (HP.out.2 8 _ rfl).1
        have p9 := (HP.out.2 9 _ rfl).1
        have p10 := (HP.out.2 10 _ rfl).1
        have p11 := (HP.out.2 11 _ rfl).1
        have p12 := (HP.out.2 12 _ rfl).1
        refine bodyPost_ret (v := .tuple #[.agg #[.bool false, .bool false, .bool false, .bool false, .bool false, .bool false, .bool false, .bool false, .int .i64 (-1), .int .i64 (-1), .int .i64 (-1), .int .i64 (-1), .int .i64 (-1)], .int .i64 0]) (by simp [results, Tryz.results11, go_sem, p0, p1, p2, p3, p4, p5, p6, p7, p8, p9, p10, p11, p12]) rfl ⟨by rw [HR.out], HQ.out⟩
      · have HR : Hid (chsA fs = .tuple #[.agg #[.bool c0, .bool c1, .bool c2, .bool c3, .bool c4, .bool c5, .bool c6, .bool c7, .int .i64 m0, .int .i64 m1, .int .i64 m2, .int .i64 m3, .int .i64 m4], .int .i64 1]) := Lib.hid (by rw [HA.out, if_neg (fun e => by cases e.2), if_pos (of_decide_eq_true hr)])
        clear HA hp hr hq
        generalize chsA fs = R at *
        go_enter Tryz.func11, Tryz.ntmps11
        go_wp2_with fail
        refine (cG _ HB0.out).mono ?_
        rintro e w1 ⟨rfl, hb⟩
        have HX := Lib.hid (HX.out.next hb)
        have HB := Lib.hid (HB0.out.trans (hb.mono HB0.out.size))
        clear hb cG HB0
        go_wp2_with fail
        refine (cP _).mono ?_
        rintro e w2 ⟨rfl, hb⟩
        have HX := Lib.hid (HX.out.next hb)
        have HB := Lib.hid (HB.out.trans (hb.mono HB.out.size))
        clear hb cP
        have hlt : w.heap.size < w2.heap.size := HX.out.1
        have hal := (Below.refl w2.heap.size w2).alloc (Nat.le_refl _) (.cells #[.bool b0, .bool b1, .bool b2, .bool b3, .bool b4, .bool b5, .bool b6, .bool b7, .int .i64 k0, .int .i64 k1, .int .i64 k2, .int .i64 k3, .int .i64 k4] 29)
        have HX := Lib.hid (HX.out.next hal)
        have HB := Lib.hid (HB.out.trans (hal.mono HB.out.size))
        clear hal hlt
        go_wp2_with fail
        refine (cG2 _ HB.out).mono ?_
        rintro e w3 ⟨rfl, hb⟩
        have HX := Lib.hid (HX.out.next hb)
        have HB := Lib.hid (HB.out.trans (hb.mono HB.out.size))
        clear hb cG2
        go_wp2_with fail
        refine (cR _ HB.out).mono ?_
        rintro e w4 ⟨rfl, hb⟩
        have HX := Lib.hid (HX.out.next hb)
        have HB := Lib.hid (HB.out.trans (hb.mono HB.out.size))
        clear hb cR
        have x0 := (HX.out.2 0 _ rfl).1
        have g0 := (HX.out.2 0 _ rfl).2
        have x1 := (HX.out.2 1 _ rfl).1
        have g1 := (HX.out.2 1 _ rfl).2
        have x2 := (HX.out.2 2 _ rfl).1
        have g2 := (HX.out.2 2 _ rfl).2
        have x3 := (HX.out.2 3 _ rfl).1
        have g3 := (HX.out.2 3 _ rfl).2
        have x4 := (HX.out.2 4 _ rfl).1
        have g4 := (HX.out.2 4 _ rfl).2
        have x5 := (HX.out.2 5 _ rfl).1
        have g5 := (HX.out.2 5 _ rfl).2
        have x6 := (HX.out.2 6 _ rfl).1
        have g6 := (HX.out.2 6 _ rfl).2
        have x7 := (HX.out.2 7 _ rfl).1
        have g7 := (HX.out.2 7 _ rfl).2
        have x8 := (HX.out.2 8 _ rfl).1
        have g8 := (HX.out.2 8 _ rfl).2
        have x9 := (HX.out.2 9 _ rfl).1
        have g9 := (HX.out.2 9 _ rfl).2
        have x10 := (HX.out.2 10 _ rfl).1
        have g10 := (HX.out.2 10 _ rfl).2
        have x11 := (HX.out.2 11 _ rfl).1
        have g11 := (HX.out.2 11 _ rfl).2
        have x12 := (HX.out.2 12 _ rfl).1
        have g12 := (HX.out.2 12 _ rfl).2
        go_wp2_with fail
        clear x0 g0 x1 g1 x2 g2 x3 g3 x4 g4 x5 g5 x6 g6 x7 g7 x8 g8 x9 g9 x10 g10 x11 g11 x12 g12
        have HP := Lib.hid (((((((((((((HX.out.set 0 (.bool c0) (by simp)).set 1 (.bool c1) (by simp)).set 2 (.bool c2) (by simp)).set 3 (.bool c3) (by simp)).set 4 (.bool c4) (by simp)).set 5 (.bool c5) (by simp)).set 6 (.bool c6) (by simp)).set 7 (.bool c7) (by simp)).set 8 (.int .i64 m0) (by simp)).set 9 (.int .i64 m1) (by simp)).set 10 (.int .i64 m2) (by simp)).set 11 (.int .i64 m3) (by simp)).set 12 (.int .i64 m4) (by simp))
        have HQ := Lib.hid (((((((((((((HB.out.setCell (p := ⟨w.heap.size, 0, none⟩) (Nat.le_refl _) (.bool c0)).setCell (p := ⟨w.heap.size, 1, none⟩) (Nat.le_refl _) (.bool c1)).setCell (p := ⟨w.heap.size, 2, none⟩) (Nat.le_refl _) (.bool c2)).setCell (p := ⟨w.heap.size, 3, none⟩) (Nat.le_refl _) (.bool c3)).setCell (p := ⟨w.heap.size, 4, none⟩) (Nat.le_refl _) (.bool c4)).setCell (p := ⟨w.heap.size, 5, none⟩) (Nat.le_refl _) (.bool c5)).setCell (p := ⟨w.heap.size, 6, none⟩) (Nat.le_refl _) (.bool c6)).setCell (p := ⟨w.heap.size, 7, none⟩) (Nat.le_refl _) (.bool c7)).setCell (p := ⟨w.heap.size, 8, none⟩) (Nat.le_refl _) (.int .i64 m0)).setCell (p := ⟨w.heap.size, 9, none⟩) (Nat.le_refl _) (.int .i64 m1)).setCell (p := ⟨w.heap.size, 10, none⟩) (Nat.le_refl _) (.int .i64 m2)).setCell (p := ⟨w.heap.size, 11, none⟩) (Nat.le_refl _) (.int .i64 m3)).setCell (p := ⟨w.heap.size, 12, none⟩) (Nat.le_refl _) (.int .i64 m4))
        generalize (((((((((((((w4.setCell ⟨w.heap.size, 0, none⟩ (.bool c0)).setCell ⟨w.heap.size, 1, none⟩ (.bool c1)).setCell ⟨w.heap.size, 2, none⟩ (.bool c2)).setCell ⟨w.heap.size, 3, none⟩ (.bool c3)).setCell ⟨w.heap.size, 4, none⟩ (.bool c4)).setCell ⟨w.heap.size, 5, none⟩ (.bool c5)).setCell ⟨w.heap.size, 6, none⟩ (.bool c6)).setCell ⟨w.heap.size, 7, none⟩ (.bool c7)).setCell ⟨w.heap.size, 8, none⟩ (.int .i64 m0)).setCell ⟨w.heap.size, 9, none⟩ (.int .i64 m1)).setCell ⟨w.heap.size, 10, none⟩ (.int .i64 m2)).setCell ⟨w.heap.size, 11, none⟩ (.int .i64 m3)).setCell ⟨w.heap.size, 12, none⟩ (.int .i64 m4)) = W9 at *
        have p0 := (HP.out.2 0 _ rfl).1
        have p1 := (HP.out.2 1 _ rfl).1
        have p2 := (HP.out.2 2 _ rfl).1
        have p3 := (HP.out.2 3 _ rfl).1
        have p4 := (HP.out.2 4 _ rfl).1
        have p5 := (HP.out.2 5 _ rfl).1
        have p6 := (HP.out.2 6 _ rfl).1
        have p7 := (HP.out.2 7 _ rfl).1
        have p8 := (HP.out.2 8 _ rfl).1
        have p9 := (HP.out.2 9 _ rfl).1
        have p10 := (HP.out.2 10 _ rfl).1
        have p11 := (HP.out.2 11 _ rfl).1
        have p12 := (HP.out.2 12 _ rfl).1
        refine bodyPost_ret (v := .tuple #[.agg #[.bool c0, .bool c1, .bool c2, .bool c3, .bool c4, .bool c5, .bool c6, .bool c7, .int .i64 m0, .int .i64 m1, .int .i64 m2, .int .i64 m3, .int .i64 m4], .int .i64 1]) (by simp [results, Tryz.results11, go_sem, p0, p1, p2, p3, p4, p5, p6, p7, p8, p9, p10, p11, p12]) rfl ⟨by rw [HR.out], HQ.out⟩
    · have HR : Hid (chsA fs = .tuple #[.agg #[.bool b0, .bool b1, .bool b2, .bool b3, .bool b4, .bool b5, .bool b6, .bool b7, .int .i64 k0, .int .i64 k1, .int .i64 k2, .int .i64 k3, .int .i64 k4], .int .i64 2]) := Lib.hid (by rw [HA.out, if_pos ⟨of_decide_eq_true hp, rfl⟩])
      clear HA hp hr hq
      generalize chsA fs = R at *
      go_enter Tryz.func11, Tryz.ntmps11
      go_wp2_with fail
      refine (cG _ HB0.out).mono ?_
      rintro e w1 ⟨rfl, hb⟩
      have HX := Lib.hid (HX.out.next hb)
      have HB := Lib.hid (HB0.out.trans (hb.mono HB0.out.size))
      clear hb cG HB0
      go_wp2_with fail
      refine (cP _).mono ?_
      rintro e w2 ⟨rfl, hb⟩
      have HX := Lib.hid (HX.out.next hb)
      have HB := Lib.hid (HB.out.trans (hb.mono HB.out.size))
      clear hb cP
      have hlt : w.heap.size < w2.heap.size := HX.out.1
      have x0 := (HX.out.2 0 _ rfl).1
      have g0 := (HX.out.2 0 _ rfl).2
      have x1 := (HX.out.2 1 _ rfl).1
      have g1 := (HX.out.2 1 _ rfl).2
      have x2 := (HX.out.2 2 _ rfl).1
      have g2 := (HX.out.2 2 _ rfl).2
      have x3 := (HX.out.2 3 _ rfl).1
      have g3 := (HX.out.2 3 _ rfl).2
      have x4 := (HX.out.2 4 _ rfl).1
      have g4 := (HX.out.2 4 _ rfl).2
      have x5 := (HX.out.2 5 _ rfl).1
      have g5 := (HX.out.2 5 _ rfl).2
      have x6 := (HX.out.2 6 _ rfl).1
      have g6 := (HX.out.2 6 _ rfl).2
      have x7 := (HX.out.2 7 _ rfl).1
      have g7 := (HX.out.2 7 _ rfl).2
      have x8 := (HX.out.2 8 _ rfl).1
      have g8 := (HX.out.2 8 _ rfl).2
      have x9 := (HX.out.2 9 _ rfl).1
      have g9 := (HX.out.2 9 _ rfl).2
      have x10 := (HX.out.2 10 _ rfl).1
      have g10 := (HX.out.2 10 _ rfl).2
      have x11 := (HX.out.2 11 _ rfl).1
      have g11 := (HX.out.2 11 _ rfl).2
      have x12 := (HX.out.2 12 _ rfl).1
      have g12 := (HX.out.2 12 _ rfl).2
      go_wp2_with fail
      clear x0 g0 x1 g1 x2 g2 x3 g3 x4 g4 x5 g5 x6 g6 x7 g7 x8 g8 x9 g9 x10 g10 x11 g11 x12 g12
      have HP := Lib.hid (((((((((((((HX.out.set 0 (.bool b0) (by simp)).set 1 (.bool b1) (by simp)).set 2 (.bool b2) (by simp)).set 3 (.bool b3) (by simp)).set 4 (.bool b4) (by simp)).set 5 (.bool b5) (by simp)).set 6 (.bool b6) (by simp)).set 7 (.bool b7) (by simp)).set 8 (.int .i64 k0) (by simp)).set 9 (.int .i64 k1) (by simp)).set 10 (.int .i64 k2) (by simp)).set 11 (.int .i64 k3) (by simp)).set 12 (.int .i64 k4) (by simp))
      have HQ := Lib.hid (((((((((((((HB.out.setCell (p := ⟨w.heap.size, 0, none⟩) (Nat.le_refl _) (.bool b0)).setCell (p := ⟨w.heap.size, 1, none⟩) (Nat.le_refl _) (.bool b1)).setCell (p := ⟨w.heap.size, 2, none⟩) (Nat.le_refl _) (.bool b2)).setCell (p := ⟨w.heap.size, 3, none⟩) (Nat.le_refl _) (.bool b3)).setCell (p := ⟨w.heap.size, 4, none⟩) (Nat.le_refl _) (.bool b4)).setCell (p := ⟨w.heap.size, 5, none⟩) (Nat.le_refl _) (.bool b5)).setCell (p := ⟨w.heap.size, 6, none⟩) (Nat.le_refl _) (.bool b6)).setCell (p := ⟨w.heap.size, 7, none⟩) (Nat.le_refl _) (.bool b7)).setCell (p := ⟨w.heap.size, 8, none⟩) (Nat.le_refl _) (.int .i64 k0)).setCell (p := ⟨w.heap.size, 9, none⟩) (Nat.le_refl _) (.int .i64 k1)).setCell (p := ⟨w.heap.size, 10, none⟩) (Nat.le_refl _) (.int .i64 k2)).setCell (p := ⟨w.heap.size, 11, none⟩) (Nat.le_refl _) (.int .i64 k3)).setCell (p := ⟨w.heap.size, 12, none⟩) (Nat.le_refl _) (.int .i64 k4))
      generalize (((((((((((((w2.setCell ⟨w.heap.size, 0, none⟩ (.bool b0)).setCell ⟨w.heap.size, 1, none⟩ (.bool b1)).setCell ⟨w.heap.size, 2, none⟩ (.bool b2)).setCell ⟨w.heap.size, 3, none⟩ (.bool b3)).setCell ⟨w.heap.size, 4, none⟩ (.bool b4)).setCell ⟨w.heap.size, 5, none⟩ (.bool b5)).setCell ⟨w.heap.size, 6, none⟩ (.bool b6)).setCell ⟨w.heap.size, 7, none⟩ (.bool b7)).setCell ⟨w.heap.size, 8, none⟩ (.int .i64 k0)).setCell ⟨w.heap.size, 9, none⟩ (.int .i64 k1)).setCell ⟨w.heap.size, 10, none⟩ (.int .i64 k2)).setCell ⟨w.heap.size, 11, none⟩ (.int .i64 k3)).setCell ⟨w.heap.size, 12, none⟩ (.int .i64 k4)) = W8 at *
      have hal := (Below.refl W8.heap.size W8).alloc (Nat.le_refl _) (.cells #[.bool b0, .bool b1, .bool b2, .bool b3, .bool b4, .bool b5, .bool b6, .bool b7, .int .i64 k0, .int .i64 k1, .int .i64 k2, .int .i64 k3, .int .i64 k4] 29)
      have HP := Lib.hid (HP.out.next hal)
      have HQ := Lib.hid (HQ.out.trans (hal.mono HQ.out.size))
      clear hal
      generalize W8.alloc (.cells #[.bool b0, .bool b1, .bool b2, .bool b3, .bool b4, .bool b5, .bool b6, .bool b7, .int .i64 k0, .int .i64 k1, .int .i64 k2, .int .i64 k3, .int .i64 k4] 29) = W9 at *
      have p0 := (HP.out.2 0 _ rfl).1
      have p1 := (HP.out.2 1 _ rfl).1
      have p2 := (HP.out.2 2 _ rfl).1
      have p3 := (HP.out.2 3 _ rfl).1
      have p4 := (HP.out.2 4 _ rfl).1
      have p5 := (HP.out.2 5 _ rfl).1
      have p6 := (HP.out.2 6 _ rfl).1
      have p7 := (HP.out.2 7 _ rfl).1
      have p8 := (HP.out.2 8 _ rfl).1
      have p9 := (HP.out.2 9 _ rfl).1
      have p10 := (HP.out.2 10 _ rfl).1
      have p11 := (HP.out.2 11 _ rfl).1
      have p12 := (HP.out.2 12 _ rfl).1
      refine bodyPost_ret (v := .tuple #[.agg #[.bool b0, .bool b1, .bool b2, .bool b3, .bool b4, .bool b5, .bool b6, .bool b7, .int .i64 k0, .int .i64 k1, .int .i64 k2, .int .i64 k3, .int .i64 k4], .int .i64 2]) (by simp [results, Tryz.results11, go_sem, p0, p1, p2, p3, p4, p5, p6, p7, p8, p9, p10, p11, p12]) rfl ⟨by rw [HR.out], HQ.out⟩
end Go.Proofs.YtpifbgefkbhopaaGreatDoor
