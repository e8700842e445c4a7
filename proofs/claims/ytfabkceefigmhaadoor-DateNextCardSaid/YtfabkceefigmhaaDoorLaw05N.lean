/- The walk of the law DateNext. -/
import Derived.Test.YtfabkceefigmhaaDoorAwake05
namespace Go.Proofs.YtfabkceefigmhaaDoor
open Go.RowKit

theorem lp_400 {y : Nat} (h : 1970 ≤ y) : lpN (y + 400) = lpN y + 97 := by unfold lpN; omega
theorem db_400 {y : Nat} (h : 1970 ≤ y) : dbN (y + 400) = dbN y + 146097 := by
  have h1 := lp_400 h
  have h2 := lp_ge h
  unfold dbN
  omega
theorem ml_400 {y m : Nat} (h : 1970 ≤ y) : mlN (y + 400) m = mlN y m := by
  have h1 := lp_400 h
  have h2 := lp_400 (y := y + 1) (by omega)
  unfold mlN
  rw [show y + 400 + 1 = y + 1 + 400 by omega, h1, h2]
  split <;> omega
theorem ms_400 {y : Nat} (h : 1970 ≤ y) : ∀ m, msN (y + 400) m = msN y m
  | 0 => rfl
  | m + 1 => by rw [ms_step, ms_step, ms_400 h m, ml_400 h]
theorem days_400 {y m d : Nat} (h : 1970 ≤ y) (hd : 1 ≤ d) : daysN (y + 400) m d = daysN y m d + 146097 := by
  unfold daysN
  rw [db_400 h, ms_400 h]
  omega
theorem days_next {y m d : Nat} (hd : 1 ≤ d) : daysN y m (d + 1) = daysN y m d + 1 := by
  unfold daysN
  omega
theorem wd_next (k : Nat) : wdN (k + 1) = (wdN k + 1) % 7 := by unfold wdN; omega

/-- What Days answers, in two cases. -/
theorem daysV_no {y m d : Int} (h : dayI y m d = false) : daysV y m d = .tuple #[.int .i64 0, .int .i64 1] := by
  unfold daysV
  rw [h]
  rfl
theorem daysV_yes {y m d : Int} (h : dayI y m d = true) : daysV y m d = .tuple #[.int .i64 (daysN y.toNat m.toNat d.toNat : Nat), .int .i64 0] := by
  unfold daysV
  rw [if_pos h]
theorem dayI_ok {y m d : Int} (h : dayI y m d = true) : ∃ a b c : Nat, y = a ∧ m = b ∧ d = c ∧ DayOk a b c := by
  unfold dayI at h
  obtain ⟨h1, h2, h3, hk⟩ := of_decide_eq_true h
  exact ⟨y.toNat, m.toNat, d.toNat, by omega, by omega, by omega, hk⟩

set_option maxRecDepth 100000 in
set_option maxHeartbeats 4000000 in
theorem next_walk (y m d : Int) (w : World) (hC : Cal w) :
    Calls Tryd.prog 5 #[.int .i64 y, .int .i64 m, .int .i64 d] w fun e w' => e = .returned (.bool true) ∧ Below w.heap.size w w' := by
  have cA := awake_any w hC
  have HC := Lib.hid hC
  clear hC
  have cD := fun W h => days_any y m d W h
  cases hk : dayI y m d
  · rw [daysV_no hk] at cD
    clear hk
    go_enter Tryd.func5, Tryd.ntmps5
    go_wp2_with fail
    refine cA.mono ?_
    rintro e w1 ⟨rfl, hb1⟩
    go_wp2_with fail
    refine (cD _ (HC.out.below hb1)).mono ?_
    rintro e w2 ⟨rfl, hb2⟩
    go_wp2_with fail
    go_ret
    exact ⟨rfl, hb1.trans (hb2.mono hb1.size)⟩
  · rw [daysV_yes hk] at cD
    obtain ⟨y, m, d, rfl, rfl, rfl, hK⟩ := dayI_ok hk
    simp only [Int.toNat_natCast] at cD
    have hlt := days_bound hK
    have hy1 := hK.y1
    have hy2 := hK.y2
    have hd1 := hK.d1
    have hml := ml_bounds hK.y1 hK.m1 hK.m2
    have hd2 := hK.d2
    have cW1 := fun W => weekday_nat (daysN y m d + 1) W (by omega)
    have cW0 := fun W => weekday_nat (daysN y m d) W (by omega)
    have cN := fun W h => days_any y m ((d + 1 : Nat) : Int) W h
    have cF := fun W h => days_any ((y + 400 : Nat) : Int) m d W h
    have hN : ∃ v e, daysV y m ((d + 1 : Nat) : Int) = .tuple #[.int .i64 v, .int .i64 e] ∧ (e = 1 ∨ e = 0 ∧ v = (daysN y m d : Int) + 1) := by
      cases h : dayI y m ((d + 1 : Nat) : Int)
      · exact ⟨0, 1, daysV_no h, .inl rfl⟩
      · refine ⟨_, 0, daysV_yes h, .inr ⟨rfl, ?_⟩⟩
        simp only [Int.toNat_natCast]
        rw [days_next hd1]
        rfl
    have hF : ∃ v e, daysV ((y + 400 : Nat) : Int) m d = .tuple #[.int .i64 v, .int .i64 e] ∧ (e = 1 ∨ e = 0 ∧ v = (daysN y m d : Int) + 146097) := by
      cases h : dayI ((y + 400 : Nat) : Int) m d
      · exact ⟨0, 1, daysV_no h, .inl rfl⟩
      · refine ⟨_, 0, daysV_yes h, .inr ⟨rfl, ?_⟩⟩
        simp only [Int.toNat_natCast]
        rw [days_400 hy1 hd1]
        rfl
    obtain ⟨v1, e1, h1, hN⟩ := hN
    obtain ⟨v2, e2, h2, hF⟩ := hF
    rw [h1] at cN
    rw [h2] at cF
    rw [wd_next] at cW1
    rw [show ((d + 1 : Nat) : Int) = (d : Int) + 1 by omega] at cN
    rw [show ((y + 400 : Nat) : Int) = (y : Int) + 400 by omega] at cF
    have hw7 := wdN_lt (daysN y m d)
    generalize wdN (daysN y m d) = wd at *
    rw [show ((daysN y m d + 1 : Nat) : Int) = (daysN y m d : Int) + 1 by omega] at cW1
    rw [show (((wd + 1) % 7 : Nat) : Int) = ((wd : Int) + 1) % 7 by omega] at cW1
    generalize daysN y m d = K at *
    have hK0 : decide ((K : Int) < 0) = false := by simp
    clear h1 h2 hk hK
    go_enter Tryd.func5, Tryd.ntmps5
    go_wp2_with fail
    refine cA.mono ?_
    rintro e w1 ⟨rfl, hb1⟩
    go_wp2_with fail
    refine (cD _ (HC.out.below hb1)).mono ?_
    rintro e w2 ⟨rfl, hb2⟩
    have hb2 := hb1.trans (hb2.mono hb1.size)
    clear hb1
    go_wp2_with fail
    refine (cW1 _).mono ?_
    rintro e w3 ⟨rfl, rfl⟩
    go_wp2_with fail
    refine (cW0 _).mono ?_
    rintro e w3 ⟨rfl, rfl⟩
    go_wp2_with fail
    refine (cN _ (HC.out.below hb2)).mono ?_
    rintro e w4 ⟨rfl, hb4⟩
    have hb4 := hb2.trans (hb4.mono hb2.size)
    clear hb2
    rcases hN with rfl | ⟨rfl, rfl⟩
    · go_wp2_with fail
      refine (cF _ (HC.out.below hb4)).mono ?_
      rintro e w5 ⟨rfl, hb5⟩
      have hb5 := hb4.trans (hb5.mono hb4.size)
      rcases hF with rfl | ⟨rfl, rfl⟩
      · go_wp2_with fail
        go_ret
        exact ⟨rfl, hb5⟩
      · go_wp2_with fail
        go_ret
        exact ⟨rfl, hb5⟩
    · go_wp2_with fail
      refine (cF _ (HC.out.below hb4)).mono ?_
      rintro e w5 ⟨rfl, hb5⟩
      have hb5 := hb4.trans (hb5.mono hb4.size)
      rcases hF with rfl | ⟨rfl, rfl⟩
      · go_wp2_with fail
        go_ret
        exact ⟨rfl, hb5⟩
      · go_wp2_with fail
        go_ret
        exact ⟨rfl, hb5⟩

end Go.Proofs.YtfabkceefigmhaaDoor
