/- The contracts of legacy.None and legacy.Read. -/
import Derived.Test.YtpifbgefkbhopaaGreatDoorZMLgE
import Derived.Test.YtpifbgefkbhopaaGreatDoorZMLgA
import Derived.Test.YtpifbgefkbhopaaGreatDoorZMDirP
import Derived.Test.YtpifbgefkbhopaaGreatDoorZHdU

namespace Go.Proofs.YtpifbgefkbhopaaGreatDoor
open Go.RowKit Go.Maps Go.Lib

theorem dirsOk_nil : DirsOk [] := ⟨Nat.zero_le _, fun d h => by cases h⟩
theorem rulV_form (ds : List Dir) : ∃ (b0 b1 b2 b3 b4 b5 b6 b7 : Bool) (k0 k1 k2 k3 k4 : Int), rulV ds = .agg #[.bool b0, .bool b1, .bool b2, .bool b3, .bool b4, .bool b5, .bool b6, .bool b7, .int .i64 k0, .int .i64 k1, .int .i64 k2, .int .i64 k3, .int .i64 k4] := ⟨_, _, _, _, _, _, _, _, _, _, _, _, _, rfl⟩
theorem dirsL_nil : dirsL [] = [] := rfl
theorem rulV_none : rulV [] = .agg #[.bool false, .bool false, .bool false, .bool false, .bool false, .bool false, .bool false, .bool false, .int .i64 (-1), .int .i64 (-1), .int .i64 (-1), .int .i64 (-1), .int .i64 (-1)] := rfl

set_option maxRecDepth 100000 in
set_option maxHeartbeats 4000000 in
theorem none_any (w : World) :
    Calls Tryz.prog 14 #[] w fun e w' => e = .returned (rulV []) ∧ Below w.heap.size w w' := by
  have cO := fun W => of_any 0 (.slice none 0 0) [] W (Dirs.nothing 0 W) dirsOk_nil
  have HV := Lib.hid rulV_none
  generalize rulV [] = R at *
  have HB0 := Lib.hid ((Below.refl w.heap.size w).alloc (Nat.le_refl _) (.cells #[.bool false, .bool false, .bool false, .bool false, .bool false, .bool false, .bool false, .bool false, .int .i64 0, .int .i64 0, .int .i64 0, .int .i64 0, .int .i64 0] 26))
  have HX := Lib.hid (BoxN.made w [.bool false, .bool false, .bool false, .bool false, .bool false, .bool false, .bool false, .bool false, .int .i64 0, .int .i64 0, .int .i64 0, .int .i64 0, .int .i64 0] 26)
  rw [HV.out] at cO
  go_enter Tryz.func14, Tryz.ntmps14
  go_wp2_with fail
  refine (cO _).mono ?_
  rintro e w1 ⟨rfl, hb⟩
  have HX := Lib.hid (HX.out.next hb)
  have HB := Lib.hid (HB0.out.trans (hb.mono HB0.out.size))
  clear hb cO HB0
  have x0 := (HX.out.2 0 _ rfl).1
  have g0 := (HX.out.2 0 _ rfl).2
  have x1 := (HX.out.2 1 _ rfl).1
  have g1 := (HX.out.2 1 _ rfl).2
  have x2 := (HX.out.2 2 _ rfl).1
  have g2 := (HX.out.2 2 _ rfl).2
  have x3 := (HX.out.2 3 _ rfl).1
  have g3 := (HX.out.2 3 _ rfl).2
  have x4 := (HX.out.2 4 _ rfl).1
  have g4 := (HX.out.2 4 _ rfl).2
  have x5 := (HX.out.2 5 _ rfl).1
  have g5 := (HX.out.2 5 _ rfl).2
  have x6 := (HX.out.2 6 _ rfl).1
  have g6 := (HX.out.2 6 _ rfl).2
  have x7 := (HX.out.2 7 _ rfl).1
  have g7 := (HX.out.2 7 _ rfl).2
  have x8 := (HX.out.2 8 _ rfl).1
  have g8 := (HX.out.2 8 _ rfl).2
  have x9 := (HX.out.2 9 _ rfl).1
  have g9 := (HX.out.2 9 _ rfl).2
  have x10 := (HX.out.2 10 _ rfl).1
  have g10 := (HX.out.2 10 _ rfl).2
  have x11 := (HX.out.2 11 _ rfl).1
  have g11 := (HX.out.2 11 _ rfl).2
  have x12 := (HX.out.2 12 _ rfl).1
  have g12 := (HX.out.2 12 _ rfl).2
  go_wp2_with fail
  clear x0 g0 x1 g1 x2 g2 x3 g3 x4 g4 x5 g5 x6 g6 x7 g7 x8 g8 x9 g9 x10 g10 x11 g11 x12 g12
  have HP := Lib.hid (((((((((((((HX.out.set 0 (.bool false) (by simp)).set 1 (.bool false) (by simp)).set 2 (.bool false) (by simp)).set 3 (.bool false) (by simp)).set 4 (.bool false) (by simp)).set 5 (.bool false) (by simp)).set 6 (.bool false) (by simp)).set 7 (.bool false) (by simp)).set 8 (.int .i64 (-1)) (by simp)).set 9 (.int .i64 (-1)) (by simp)).set 10 (.int .i64 (-1)) (by simp)).set 11 (.int .i64 (-1)) (by simp)).set 12 (.int .i64 (-1)) (by simp))
  have HQ := Lib.hid (((((((((((((HB.out.setCell (p := ⟨w.heap.size, 0, none⟩) (Nat.le_refl _) (.bool false)).setCell (p := ⟨w.heap.size, 1, none⟩) (Nat.le_refl _) (.bool false)).setCell (p := ⟨w.heap.size, 2, none⟩) (Nat.le_refl _) (.bool false)).setCell (p := ⟨w.heap.size, 3, none⟩) (Nat.le_refl _) (.bool false)).setCell (p := ⟨w.heap.size, 4, none⟩) (Nat.le_refl _) (.bool false)).setCell (p := ⟨w.heap.size, 5, none⟩) (Nat.le_refl _) (.bool false)).setCell (p := ⟨w.heap.size, 6, none⟩) (Nat.le_refl _) (.bool false)).setCell (p := ⟨w.heap.size, 7, none⟩) (Nat.le_refl _) (.bool false)).setCell (p := ⟨w.heap.size, 8, none⟩) (Nat.le_refl _) (.int .i64 (-1))).setCell (p := ⟨w.heap.size, 9, none⟩) (Nat.le_refl _) (.int .i64 (-1))).setCell (p := ⟨w.heap.size, 10, none⟩) (Nat.le_refl _) (.int .i64 (-1))).setCell (p := ⟨w.heap.size, 11, none⟩) (Nat.le_refl _) (.int .i64 (-1))).setCell (p := ⟨w.heap.size, 12, none⟩) (Nat.le_refl _) (.int .i64 (-1)))
  generalize (((((((((((((w1.setCell ⟨w.heap.size, 0, none⟩ (.bool false)).setCell ⟨w.heap.size, 1, none⟩ (.bool false)).setCell ⟨w.heap.size, 2, none⟩ (.bool false)).setCell ⟨w.heap.size, 3, none⟩ (.bool false)).setCell ⟨w.heap.size, 4, none⟩ (.bool false)).setCell ⟨w.heap.size, 5, none⟩ (.bool false)).setCell ⟨w.heap.size, 6, none⟩ (.bool false)).setCell ⟨w.heap.size, 7, none⟩ (.bool false)).setCell ⟨w.heap.size, 8, none⟩ (.int .i64 (-1))).setCell ⟨w.heap.size, 9, none⟩ (.int .i64 (-1))).setCell ⟨w.heap.size, 10, none⟩ (.int .i64 (-1))).setCell ⟨w.heap.size, 11, none⟩ (.int .i64 (-1))).setCell ⟨w.heap.size, 12, none⟩ (.int .i64 (-1))) = W9 at *
  have p0 := (HP.out.2 0 _ rfl).1
  have p1 := (HP.out.2 1 _ rfl).1
  have p2 := (HP.out.2 2 _ rfl).1
  have p3 := (HP.out.2 3 _ rfl).1
  have p4 := (HP.out.2 4 _ rfl).1
  have p5 := (HP.out.2 5 _ rfl).1
  have p6 := (HP.out.2 6 _ rfl).1
  have p7 := (HP.out.2 7 _ rfl).1
  have p8 := (HP.out.2 8 _ rfl).1
  have p9 := (HP.out.2 9 _ rfl).1
  have p10 := (HP.out.2 10 _ rfl).1
  have p11 := (HP.out.2 11 _ rfl).1
  have p12 := (HP.out.2 12 _ rfl).1
  refine bodyPost_ret (v := .agg #[.bool false, .bool false, .bool false, .bool false, .bool false, .bool false, .bool false, .bool false, .int .i64 (-1), .int .i64 (-1), .int .i64 (-1), .int .i64 (-1), .int .i64 (-1)]) (by simp [results, Tryz.results14, go_sem, p0, p1, p2, p3, p4, p5, p6, p7, p8, p9, p10, p11, p12]) rfl ⟨by rw [HV.out], HQ.out⟩

/-- The name of the field; what fields tell. -/
def nCtl : List UInt8 := [99, 97, 99, 104, 101, 45, 99, 111, 110, 116, 114, 111, 108]
def ctlD (fs : List Fld) : List Dir := dirsL (joinH (allH fs nCtl))

set_option maxRecDepth 100000 in
set_option maxHeartbeats 4000000 in
theorem lread_any (lo : Nat) (v : Value) (fs : List Fld) (w : World) (hv : Flds lo w v fs) (hk : FldsOk fs) (hj : (joinH (allH fs nCtl)).length ≤ 100000) (hT : Tabs w) :
    Calls Tryz.prog 24 #[v] w fun e w' => e = .returned (rulV (ctlD fs)) ∧ Below w.heap.size w w' := by
  have cG := fun W (hb : Below w.heap.size w W) => hget_any lo v fs nCtl W (hv.below hb) hk
  have cP := fun W (hb : Below w.heap.size w W) => lparse_any (strB (joinH (allH fs nCtl))) W (by rw [strB_size]; exact hj) (Utf8Tabs_below hT hb)
  rw [strB_data] at cP
  have cO := fun u W (h : Dirs 0 W u (ctlD fs)) => of_any 0 u (ctlD fs) W h (dirsL_ok _ hj)
  have HV : Hid (getV fs nCtl = .tuple #[.string (strB (joinH (allH fs nCtl))), .bool (decide (0 < (allH fs nCtl).length))]) := Lib.hid rfl
  have cN := none_any
  have HC : Hid (ctlD fs = dirsL (joinH (allH fs nCtl))) := Lib.hid rfl
  have HE : Hid (¬ 0 < (allH fs nCtl).length → ctlD fs = []) := Lib.hid (fun h => by
    rw [ctlD, List.eq_nil_of_length_eq_zero (show (allH fs nCtl).length = 0 by omega)]
    rfl)
  obtain ⟨ao, cap, rfl, _⟩ := hv
  rw [← HC.out] at cP
  generalize ctlD fs = DS at *
  rw [HV.out] at cG
  have HB0 := Lib.hid ((Below.refl w.heap.size w).alloc (Nat.le_refl _) (.cells #[.bool false, .bool false, .bool false, .bool false, .bool false, .bool false, .bool false, .bool false, .int .i64 0, .int .i64 0, .int .i64 0, .int .i64 0, .int .i64 0] 26))
  have HX := Lib.hid (BoxN.made w [.bool false, .bool false, .bool false, .bool false, .bool false, .bool false, .bool false, .bool false, .int .i64 0, .int .i64 0, .int .i64 0, .int .i64 0, .int .i64 0] 26)
  by_cases h : 0 < (allH fs nCtl).length
  · rw [decide_eq_true h] at cG
    clear HE h HC hj hk HV cN
    generalize strB (joinH (allH fs nCtl)) = J at *
    obtain ⟨b0, b1, b2, b3, b4, b5, b6, b7, k0, k1, k2, k3, k4, hR⟩ := rulV_form DS
    have HR := Lib.hid hR
    rw [hR] at cO
    clear hR
    generalize rulV DS = R at *
    go_enter Tryz.func24, Tryz.ntmps24
    go_wp2_with fail
    refine (cG _ HB0.out).mono ?_
    rintro e w1 ⟨rfl, hb⟩
    have HX := Lib.hid (HX.out.next hb)
    have HB := Lib.hid (HB0.out.trans (hb.mono HB0.out.size))
    clear hb cG HB0
    go_wp2_with fail
    refine (cP _ HB.out).mono ?_
    rintro e w2 ⟨⟨u, rfl, hD⟩, hb⟩
    have HX := Lib.hid (HX.out.next hb)
    have HB := Lib.hid (HB.out.trans (hb.mono HB.out.size))
    have cO2 := cO _ _ (hD.low (Nat.zero_le _))
    obtain ⟨uo, uc, rfl, _⟩ := hD
    clear hb cP cO
    go_wp2_with fail
    refine cO2.mono ?_
    rintro e w3 ⟨rfl, hb⟩
    have HX := Lib.hid (HX.out.next hb)
    have HB := Lib.hid (HB.out.trans (hb.mono HB.out.size))
    clear hb cO2
    have x0 := (HX.out.2 0 _ rfl).1
    have g0 := (HX.out.2 0 _ rfl).2
    have x1 := (HX.out.2 1 _ rfl).1
    have g1 := (HX.out.2 1 _ rfl).2
    have x2 := (HX.out.2 2 _ rfl).1
    have g2 := (HX.out.2 2 _ rfl).2
    have x3 := (HX.out.2 3 _ rfl).1
    have g3 := (HX.out.2 3 _ rfl).2
    have x4 := (HX.out.2 4 _ rfl).1
    have g4 := (HX.out.2 4 _ rfl).2
    have x5 := (HX.out.2 5 _ rfl).1
    have g5 := (HX.out.2 5 _ rfl).2
    have x6 := (HX.out.2 6 _ rfl).1
    have g6 := (HX.out.2 6 _ rfl).2
    have x7 := (HX.out.2 7 _ rfl).1
    have g7 := (HX.out.2 7 _ rfl).2
    have x8 := (HX.out.2 8 _ rfl).1
    have g8 := (HX.out.2 8 _ rfl).2
    have x9 := (HX.out.2 9 _ rfl).1
    have g9 := (HX.out.2 9 _ rfl).2
    have x10 := (HX.out.2 10 _ rfl).1
    have g10 := (HX.out.2 10 _ rfl).2
    have x11 := (HX.out.2 11 _ rfl).1
    have g11 := (HX.out.2 11 _ rfl).2
    have x12 := (HX.out.2 12 _ rfl).1
    have g12 := (HX.out.2 12 _ rfl).2
    go_wp2_with fail
    clear x0 g0 x1 g1 x2 g2 x3 g3 x4 g4 x5 g5 x6 g6 x7 g7 x8 g8 x9 g9 x10 g10 x11 g11 x12 g12
    have HP := Lib.hid (((((((((((((HX.out.set 0 (.bool b0) (by simp)).set 1 (.bool b1) (by simp)).set 2 (.bool b2) (by simp)).set 3 (.bool b3) (by simp)).set 4 (.bool b4) (by simp)).set 5 (.bool b5) (by simp)).set 6 (.bool b6) (by simp)).set 7 (.bool b7) (by simp)).set 8 (.int .i64 k0) (by simp)).set 9 (.int .i64 k1) (by simp)).set 10 (.int .i64 k2) (by simp)).set 11 (.int .i64 k3) (by simp)).set 12 (.int .i64 k4) (by simp))
    have HQ := Lib.hid (((((((((((((HB.out.setCell (p := ⟨w.heap.size, 0, none⟩) (Nat.le_refl _) (.bool b0)).setCell (p := ⟨w.heap.size, 1, none⟩) (Nat.le_refl _) (.bool b1)).setCell (p := ⟨w.heap.size, 2, none⟩) (Nat.le_refl _) (.bool b2)).setCell (p := ⟨w.heap.size, 3, none⟩) (Nat.le_refl _) (.bool b3)).setCell (p := ⟨w.heap.size, 4, none⟩) (Nat.le_refl _) (.bool b4)).setCell (p := ⟨w.heap.size, 5, none⟩) (Nat.le_refl _) (.bool b5)).setCell (p := ⟨w.heap.size, 6, none⟩) (Nat.le_refl _) (.bool b6)).setCell (p := ⟨w.heap.size, 7, none⟩) (Nat.le_refl _) (.bool b7)).setCell (p := ⟨w.heap.size, 8, none⟩) (Nat.le_refl _) (.int .i64 k0)).setCell (p := ⟨w.heap.size, 9, none⟩) (Nat.le_refl _) (.int .i64 k1)).setCell (p := ⟨w.heap.size, 10, none⟩) (Nat.le_refl _) (.int .i64 k2)).setCell (p := ⟨w.heap.size, 11, none⟩) (Nat.le_refl _) (.int .i64 k3)).setCell (p := ⟨w.heap.size, 12, none⟩) (Nat.le_refl _) (.int .i64 k4))
    generalize (((((((((((((w3.setCell ⟨w.heap.size, 0, none⟩ (.bool b0)).setCell ⟨w.heap.size, 1, none⟩ (.bool b1)).setCell ⟨w.heap.size, 2, none⟩ (.bool b2)).setCell ⟨w.heap.size, 3, none⟩ (.bool b3)).setCell ⟨w.heap.size, 4, none⟩ (.bool b4)).setCell ⟨w.heap.size, 5, none⟩ (.bool b5)).setCell ⟨w.heap.size, 6, none⟩ (.bool b6)).setCell ⟨w.heap.size, 7, none⟩ (.bool b7)).setCell ⟨w.heap.size, 8, none⟩ (.int .i64 k0)).setCell ⟨w.heap.size, 9, none⟩ (.int .i64 k1)).setCell ⟨w.heap.size, 10, none⟩ (.int .i64 k2)).setCell ⟨w.heap.size, 11, none⟩ (.int .i64 k3)).setCell ⟨w.heap.size, 12, none⟩ (.int .i64 k4)) = W9 at *
    have p0 := (HP.out.2 0 _ rfl).1
    have p1 := (HP.out.2 1 _ rfl).1
    have p2 := (HP.out.2 2 _ rfl).1
    have p3 := (HP.out.2 3 _ rfl).1
    have p4 := (HP.out.2 4 _ rfl).1
    have p5 := (HP.out.2 5 _ rfl).1
    have p6 := (HP.out.2 6 _ rfl).1
    have p7 := (HP.out.2 7 _ rfl).1
    have p8 := (HP.out.2 8 _ rfl).1
    have p9 := (HP.out.2 9 _ rfl).1
    have p10 := (HP.out.2 10 _ rfl).1
    have p11 := (HP.out.2 11 _ rfl).1
    have p12 := (HP.out.2 12 _ rfl).1
    refine bodyPost_ret (v := .agg #[.bool b0, .bool b1, .bool b2, .bool b3, .bool b4, .bool b5, .bool b6, .bool b7, .int .i64 k0, .int .i64 k1, .int .i64 k2, .int .i64 k3, .int .i64 k4]) (by simp [results, Tryz.results24, go_sem, p0, p1, p2, p3, p4, p5, p6, p7, p8, p9, p10, p11, p12]) rfl ⟨by rw [HR.out], HQ.out⟩
  · rw [decide_eq_false h] at cG
    have HR : Hid (rulV DS = .agg #[.bool false, .bool false, .bool false, .bool false, .bool false, .bool false, .bool false, .bool false, .int .i64 (-1), .int .i64 (-1), .int .i64 (-1), .int .i64 (-1), .int .i64 (-1)]) := Lib.hid (by rw [HE.out h]; rfl)
    rw [rulV_none] at cN
    clear HE h HC hj hk HV cO cP
    generalize strB (joinH (allH fs nCtl)) = J at *
    generalize rulV DS = R at *
    go_enter Tryz.func24, Tryz.ntmps24
    go_wp2_with fail
    refine (cG _ HB0.out).mono ?_
    rintro e w1 ⟨rfl, hb⟩
    have HX := Lib.hid (HX.out.next hb)
    have HB := Lib.hid (HB0.out.trans (hb.mono HB0.out.size))
    clear hb cG HB0
    go_wp2_with fail
    refine (cN _).mono ?_
    rintro e w3 ⟨rfl, hb⟩
    have HX := Lib.hid (HX.out.next hb)
    have HB := Lib.hid (HB.out.trans (hb.mono HB.out.size))
    clear hb cN
    have x0 := (HX.out.2 0 _ rfl).1
    have g0 := (HX.out.2 0 _ rfl).2
    have x1 := (HX.out.2 1 _ rfl).1
    have g1 := (HX.out.2 1 _ rfl).2
    have x2 := (HX.out.2 2 _ rfl).1
    have g2 := (HX.out.2 2 _ rfl).2
    have x3 := (HX.out.2 3 _ rfl).1
    have g3 := (HX.out.2 3 _ rfl).2
    have x4 := (HX.out.2 4 _ rfl).1
    have g4 := (HX.out.2 4 _ rfl).2
    have x5 := (HX.out.2 5 _ rfl).1
    have g5 := (HX.out.2 5 _ rfl).2
    have x6 := (HX.out.2 6 _ rfl).1
    have g6 := (HX.out.2 6 _ rfl).2
    have x7 := (HX.out.2 7 _ rfl).1
    have g7 := (HX.out.2 7 _ rfl).2
    have x8 := (HX.out.2 8 _ rfl).1
    have g8 := (HX.out.2 8 _ rfl).2
    have x9 := (HX.out.2 9 _ rfl).1
    have g9 := (HX.out.2 9 _ rfl).2
    have x10 := (HX.out.2 10 _ rfl).1
    have g10 := (HX.out.2 10 _ rfl).2
    have x11 := (HX.out.2 11 _ rfl).1
    have g11 := (HX.out.2 11 _ rfl).2
    have x12 := (HX.out.2 12 _ rfl).1
    have g12 := (HX.out.2 12 _ rfl).2
    go_wp2_with fail
    clear x0 g0 x1 g1 x2 g2 x3 g3 x4 g4 x5 g5 x6 g6 x7 g7 x8 g8 x9 g9 x10 g10 x11 g11 x12 g12
    have HP := Lib.hid (((((((((((((HX.out.set 0 (.bool false) (by simp)).set 1 (.bool false) (by simp)).set 2 (.bool false) (by simp)).set 3 (.bool false) (by simp)).set 4 (.bool false) (by simp)).set 5 (.bool false) (by simp)).set 6 (.bool false) (by simp)).set 7 (.bool false) (by simp)).set 8 (.int .i64 (-1)) (by simp)).set 9 (.int .i64 (-1)) (by simp)).set 10 (.int .i64 (-1)) (by simp)).set 11 (.int .i64 (-1)) (by simp)).set 12 (.int .i64 (-1)) (by simp))
    have HQ := Lib.hid (((((((((((((HB.out.setCell (p := ⟨w.heap.size, 0, none⟩) (Nat.le_refl _) (.bool false)).setCell (p := ⟨w.heap.size, 1, none⟩) (Nat.le_refl _) (.bool false)).setCell (p := ⟨w.heap.size, 2, none⟩) (Nat.le_refl _) (.bool false)).setCell (p := ⟨w.heap.size, 3, none⟩) (Nat.le_refl _) (.bool false)).setCell (p := ⟨w.heap.size, 4, none⟩) (Nat.le_refl _) (.bool false)).setCell (p := ⟨w.heap.size, 5, none⟩) (Nat.le_refl _) (.bool false)).setCell (p := ⟨w.heap.size, 6, none⟩) (Nat.le_refl _) (.bool false)).setCell (p := ⟨w.heap.size, 7, none⟩) (Nat.le_refl _) (.bool false)).setCell (p := ⟨w.heap.size, 8, none⟩) (Nat.le_refl _) (.int .i64 (-1))).setCell (p := ⟨w.heap.size, 9, none⟩) (Nat.le_refl _) (.int .i64 (-1))).setCell (p := ⟨w.heap.size, 10, none⟩) (Nat.le_refl _) (.int .i64 (-1))).setCell (p := ⟨w.heap.size, 11, none⟩) (Nat.le_refl _) (.int .i64 (-1))).setCell (p := ⟨w.heap.size, 12, none⟩) (Nat.le_refl _) (.int .i64 (-1)))
    generalize (((((((((((((w3.setCell ⟨w.heap.size, 0, none⟩ (.bool false)).setCell ⟨w.heap.size, 1, none⟩ (.bool false)).setCell ⟨w.heap.size, 2, none⟩ (.bool false)).setCell ⟨w.heap.size, 3, none⟩ (.bool false)).setCell ⟨w.heap.size, 4, none⟩ (.bool false)).setCell ⟨w.heap.size, 5, none⟩ (.bool false)).setCell ⟨w.heap.size, 6, none⟩ (.bool false)).setCell ⟨w.heap.size, 7, none⟩ (.bool false)).setCell ⟨w.heap.size, 8, none⟩ (.int .i64 (-1))).setCell ⟨w.heap.size, 9, none⟩ (.int .i64 (-1))).setCell ⟨w.heap.size, 10, none⟩ (.int .i64 (-1))).setCell ⟨w.heap.size, 11, none⟩ (.int .i64 (-1))).setCell ⟨w.heap.size, 12, none⟩ (.int .i64 (-1))) = W9 at *
    have p0 := (HP.out.2 0 _ rfl).1
    have p1 := (HP.out.2 1 _ rfl).1
    have p2 := (HP.out.2 2 _ rfl).1
    have p3 := (HP.out.2 3 _ rfl).1
    have p4 := (HP.out.2 4 _ rfl).1
    have p5 := (HP.out.2 5 _ rfl).1
    have p6 := (HP.out.2 6 _ rfl).1
    have p7 := (HP.out.2 7 _ rfl).1
    have p8 := (HP.out.2 8 _ rfl).1
    have p9 := (HP.out.2 9 _ rfl).1
    have p10 := (HP.out.2 10 _ rfl).1
    have p11 := (HP.out.2 11 _ rfl).1
    have p12 := (HP.out.2 12 _ rfl).1
    refine bodyPost_ret (v := .agg #[.bool false, .bool false, .bool false, .bool false, .bool false, .bool false, .bool false, .bool false, .int .i64 (-1), .int .i64 (-1), .int .i64 (-1), .int .i64 (-1), .int .i64 (-1)]) (by simp [results, Tryz.results24, go_sem, p0, p1, p2, p3, p4, p5, p6, p7, p8, p9, p10, p11, p12]) rfl ⟨by rw [HR.out], HQ.out⟩

end Go.Proofs.YtpifbgefkbhopaaGreatDoor
