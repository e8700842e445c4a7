/- The contracts of the document's own calendar (sculleryref05). -/
import Derived.Test.YtfabkceefigmhaaDoorDatB
namespace Go.Proofs.YtfabkceefigmhaaDoor
open Go.RowKit

/-- Is a year a leap year, as the document says it? -/
def leapB (y : Nat) : Bool := decide (y % 4 = 0 ∧ (y % 100 ≠ 0 ∨ y % 400 = 0))
theorem lp_leapB {y : Nat} (h : 1970 ≤ y) : lpN (y + 1) = lpN y + if leapB y then 1 else 0 := by
  rw [lp_leap h]
  unfold leapB
  simp only [decide_eq_true_eq]
theorem db_leapB {y : Nat} (h : 1970 ≤ y) : dbN (y + 1) = dbN y + 365 + if leapB y then 1 else 0 := by
  have h1 := lp_leapB h
  have h2 := lp_ge h
  unfold dbN
  omega
theorem ml_leapB {y : Nat} (h : 1970 ≤ y) : mlN y 2 = if leapB y then 29 else 28 := by
  have h1 := lp_leapB h
  unfold mlN
  rw [if_pos rfl, h1]
  split <;> omega

set_option maxHeartbeats 1000000 in
theorem rleap_any (y : Nat) (w : World) :
    Calls Tryd.prog 19 #[.int .i64 y] w fun e w' => e = .returned (.bool (leapB y)) ∧ w = w' := by
  unfold leapB
  by_cases h4 : y % 4 = 0
  · have d4 : ((y : Int) % 4 == 0) = true := by simp; omega
    by_cases h100 : y % 100 = 0
    · have d100 : ((y : Int) % 100 != 0) = false := by simp; omega
      by_cases h400 : y % 400 = 0
      · have d400 : ((y : Int) % 400 == 0) = true := by simp; omega
        rw [decide_eq_true (p := _ ∧ _) ⟨h4, .inr h400⟩]
        clear h4 h100 h400
        go_enter Tryd.func19, Tryd.ntmps19
        go_wp2_with fail
        go_ret
        exact ⟨rfl, rfl⟩
      · have d400 : ((y : Int) % 400 == 0) = false := by simp; omega
        rw [decide_eq_false (p := _ ∧ _) (by omega)]
        clear h4 h100 h400
        go_enter Tryd.func19, Tryd.ntmps19
        go_wp2_with fail
        go_ret
        exact ⟨rfl, rfl⟩
    · have d100 : ((y : Int) % 100 != 0) = true := by simp; omega
      rw [decide_eq_true (p := _ ∧ _) ⟨h4, .inl h100⟩]
      clear h4 h100
      go_enter Tryd.func19, Tryd.ntmps19
      go_wp2_with fail
      go_ret
      exact ⟨rfl, rfl⟩
  · have d4 : ((y : Int) % 4 == 0) = false := by simp; omega
    rw [decide_eq_false (p := _ ∧ _) (by omega)]
    clear h4
    go_enter Tryd.func19, Tryd.ntmps19
    go_wp2_with fail
    go_ret
    exact ⟨rfl, rfl⟩

set_option maxHeartbeats 1000000 in
theorem rweekday_any (k : Int) (w : World) (h0 : -9223372036854775808 ≤ k) (h1 : k ≤ 9223372036854775807) :
    Calls Tryd.prog 14 #[.int .i64 k] w fun e w' => e = .returned (.int .i64 (if k < 0 then 0 else (k % 7 + 4) % 7)) ∧ w = w' := by
  by_cases h : k < 0
  · rw [if_pos h]
    have d1 : decide (k < 0) = true := by simpa using h
    go_enter Tryd.func14, Tryd.ntmps14
    go_wp2
    go_ret
    exact ⟨rfl, rfl⟩
  · rw [if_neg h]
    obtain ⟨k, rfl⟩ := Int.eq_ofNat_of_zero_le (show 0 ≤ k by omega)
    have d1 : decide ((k : Int) < 0) = false := by simp
    go_enter Tryd.func14, Tryd.ntmps14
    go_wp2
    go_ret
    exact ⟨rfl, rfl⟩

end Go.Proofs.YtfabkceefigmhaaDoor
