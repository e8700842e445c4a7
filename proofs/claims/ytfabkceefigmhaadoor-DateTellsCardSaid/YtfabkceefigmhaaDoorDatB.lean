/- The contracts of what package date prints with: names, the day of a number, padded numbers, the time of a day. -/
import Derived.Test.YtfabkceefigmhaaDoorDatA
import Derived.Test.YtfabkceefigmhaaDoorCopyS
import Derived.OwnWalk
namespace Go.Proofs.YtfabkceefigmhaaDoor
open Go.RowKit

theorem wk_len : ∀ j : Fin 7, 3 ≤ (wkT j.val).length ∧ (wkT j.val).length ≤ 9 := by decide

set_option maxHeartbeats 1000000 in
theorem fullWeekday_any (j : Nat) (w : World) (hj : j < 7) (hC : Cal w) :
    Calls Tryd.prog 36 #[.int .i64 j] w fun e w' => e = .returned (.string (strB (wkT j))) ∧ w = w' := by
  have hc := hC.wk j hj
  clear hC
  generalize strB (wkT j) = s at *
  go_enter Tryd.func36, Tryd.ntmps36
  go_wp2
  go_ret
  exact ⟨rfl, rfl⟩

set_option maxHeartbeats 1000000 in
theorem shortWeekday_any (j : Nat) (w : World) (hj : j < 7) (hC : Cal w) :
    Calls Tryd.prog 21 #[.int .i64 j] w fun e w' => e = .returned (.string (strB (wsT j))) ∧ w = w' := by
  have hc := hC.wk j hj
  clear hC
  have hs : 3 ≤ (strB (wkT j)).size ∧ (strB (wkT j)).size ≤ 9 := by rw [strB_size]; exact wk_len ⟨j, hj⟩
  have hv : strB (wsT j) = (strB (wkT j)).extract 0 3 := (strB_take _ _).symm
  rw [hv]
  clear hv
  generalize strB (wkT j) = s at *
  obtain ⟨h3, h9⟩ := hs
  go_enter Tryd.func21, Tryd.ntmps21
  go_wp2
  go_ret
  exact ⟨rfl, rfl⟩

set_option maxHeartbeats 1000000 in
theorem monthName_any (j : Nat) (w : World) (h1 : 1 ≤ j) (h2 : j ≤ 12) (hC : Cal w) :
    Calls Tryd.prog 23 #[.int .i64 j] w fun e w' => e = .returned (.string (strB (moT j))) ∧ w = w' := by
  have hc := hC.mo (j - 1) (by omega)
  rw [show j - 1 + 1 = j by omega] at hc
  clear hC
  have e0 : ((j : Int) - 1) = ((j - 1 : Nat) : Int) := by omega
  generalize strB (moT j) = s at *
  go_enter Tryd.func23, Tryd.ntmps23
  go_wp2
  go_ret
  exact ⟨rfl, rfl⟩

theorem weekday_nat (k : Nat) (w : World) (h1 : k ≤ 3000000) :
    Calls Tryd.prog 13 #[.int .i64 k] w fun e w' => e = .returned (.int .i64 (wdN k : Nat)) ∧ w = w' := by
  refine (weekday_any k w (by omega) (by omega)).mono ?_
  rintro e w' ⟨rfl, rfl⟩
  refine ⟨?_, rfl⟩
  congr 2
theorem wdN_lt (k : Nat) : wdN k < 7 := by unfold wdN; omega

theorem db_le {z : Nat} (h : 1970 ≤ z) : dbN z ≤ 366 * (z - 1970) := by
  unfold dbN lpN
  omega

set_option maxHeartbeats 4000000 in
theorem dayOf_any (y m d : Nat) (hk : DayOk y m d) (w : World) (hC : Cal w) :
    Calls Tryd.prog 20 #[.int .i64 (daysN y m d : Nat)] w fun e w' => e = .returned (.tuple #[.int .i64 y, .int .i64 m, .int .i64 d]) ∧ Below w.heap.size w w' := by
  have HC := Lib.hid hC
  clear hC
  have hy1 := hk.y1
  have hy2 := hk.y2
  have hm1 := hk.m1
  have hm2 := hk.m2
  have hd1 := hk.d1
  have hd2 := hk.d2
  obtain ⟨hl1, hl2⟩ := days_lt hk
  have hb := days_bound hk
  have hrest : daysN y m d = dbN y + msN y (m - 1) + (d - 1) := by unfold daysN; omega
  have hup : dbN (y + 1) ≤ 366 * (y + 1 - 1970) := db_le (by omega)
  clear hk
  generalize daysN y m d = K at *
  have hq : 1970 + K / 366 ≤ y := by omega
  go_enter Tryd.func20, Tryd.ntmps20
  go_wp2_with fail
  go_loop [2] (fun x => ∃ k : Nat, x = .int .i64 k ∧ 1970 ≤ k ∧ k ≤ y) (fun x => y - (intOf x).toNat)
  case atStart => exact ⟨1970 + K / 366, by go_num, by omega, hq⟩
  case round =>
    obtain ⟨k, rfl, hk1, hk2⟩ := hrel
    have cB := fun W => daysBefore_any (k + 1) W (by omega) (by omega)
    rw [show ((k + 1 : Nat) : Int) = (k : Int) + 1 by omega] at cB
    by_cases hlt : k < y
    · have hmo := db_mono (y := k + 1) (z := y) (by omega) hlt
      clear hrest hup hq hl2
      generalize dbN (k + 1) = q at *
      generalize dbN y = u at *
      go_wp2_with fail
      refine (cB _).mono ?_
      rintro e w1 ⟨rfl, rfl⟩
      go_wp2_with fail
      go_round
      case rel => exact ⟨k + 1, by go_num, by omega, by omega⟩
      case measure => simp [intOf]; omega
    · obtain rfl : k = y := by omega
      have cB2 := fun W => daysBefore_any k W (by omega) (by omega)
      clear hup hq hlt hk2
      generalize dbN (k + 1) = q at *
      generalize dbN k = u at *
      go_wp2_with fail
      refine (cB _).mono ?_
      rintro e w1 ⟨rfl, rfl⟩
      go_wp2_with fail
      refine (cB2 _).mono ?_
      rintro e w1 ⟨rfl, rfl⟩
      go_wp2_with fail
      go_loopw [5, 3] (fun x z wr => ∃ i r : Nat, z = .int .i64 i ∧ 1 ≤ i ∧ i ≤ m ∧ x = .int .i64 r ∧ r + msN k (i - 1) = msN k (m - 1) + (d - 1) ∧ Below w.heap.size w wr) (fun _ z _ => m - (intOf z).toNat)
      case atStart => exact ⟨1, msN k (m - 1) + (d - 1), rfl, by omega, by omega, by go_num, rfl, Below.refl _ _⟩
      case round =>
        obtain ⟨i, r, rfl, hi1, hi2, rfl, hr, hb1⟩ := hrel
        have cL := fun W hW => monthLength_any k i W (by omega) (by omega) (by omega) (by omega) hW
        have hCr : Hid (Cal wr) := Lib.hid (HC.out.below hb1)
        by_cases hlt : i < m
        · have hs : msN k (i + 1 - 1) = msN k (i - 1) + mlN k i := by
            obtain ⟨j, rfl⟩ : ∃ j, i = j + 1 := ⟨i - 1, by omega⟩
            exact ms_step k j
          have hmo := ms_mono (y := k) (a := i + 1 - 1) (b := m - 1) (by omega)
          have hge : mlN k i ≤ r := by omega
          have hrr : Hid (r - mlN k i + msN k (i + 1 - 1) = msN k (m - 1) + (d - 1)) := Lib.hid (by omega)
          have hrb : r ≤ 3000000 := by omega
          clear hs hmo hr
          generalize mlN k i = l at *
          go_wp2_with fail
          refine (cL _ hCr.out).mono ?_
          rintro e w2 ⟨rfl, hb2⟩
          have hC2 : Hid (Cal w2) := Lib.hid (hCr.out.below hb2)
          have hb12 := hb1.trans (hb2.mono hb1.size)
          clear hb2
          go_wp2_with fail
          refine (cL _ hC2.out).mono ?_
          rintro e w3 ⟨rfl, hb3⟩
          go_wp2_with fail
          go_roundw
          case rel => exact ⟨i + 1, r - l, by go_num, by omega, by omega, by go_num, hrr.out, hb12.trans (hb3.mono hb12.size)⟩
          case measure => simp [intOf]; omega
        · obtain rfl : i = m := by omega
          have hrd : r = d - 1 := by omega
          subst hrd
          have hnl : ¬ (mlN k i ≤ d - 1) := by omega
          have hrr : (((d - 1 : Nat) : Int) + 1) = (d : Int) := by omega
          clear hr
          generalize mlN k i = l at *
          go_wp2_with fail
          refine (cL _ hCr.out).mono ?_
          rintro e w2 ⟨rfl, hb2⟩
          go_wp2_with fail
          exact bodyPost_ret (v := .tuple #[.int .i64 k, .int .i64 i, .int .i64 d]) (by simp [results, Tryd.results20, go_sem]) rfl ⟨rfl, hb1.trans (hb2.mono hb1.size)⟩

end Go.Proofs.YtfabkceefigmhaaDoor
