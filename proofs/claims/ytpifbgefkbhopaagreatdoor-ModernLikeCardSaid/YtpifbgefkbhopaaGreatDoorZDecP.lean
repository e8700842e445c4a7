/- Plain: the decimal digits of a number. -/
import Derived.Test.YtpifbgefkbhopaaGreatDoorZMBasP
import Derived.Lib.ItoaNum

namespace Go.Proofs.YtpifbgefkbhopaaGreatDoor
open Go.RowKit

theorem dec_small (n : Nat) (h : n < 10) : Lib.decDigits n = [UInt8.ofNat (48 + n)] := Lib.decDigits_one h
theorem dec_big (n : Nat) (h : ¬ n < 10) : Lib.decDigits n = Lib.decDigits (n / 10) ++ Lib.decDigits (n % 10) := by
  rw [dec_small (n % 10) (by omega), Lib.decDigits, dif_neg h]
theorem dec_len : ∀ (k n : Nat), n < 10 ^ (k + 1) → (Lib.decDigits n).length ≤ k + 1
  | 0, n, h => by rw [dec_small n (by simpa using h)]; exact Nat.le_refl _
  | k + 1, n, h => by
    by_cases h1 : n < 10
    · rw [dec_small n h1]; exact Nat.succ_le_succ (Nat.zero_le _)
    · have := dec_len k (n / 10) (Nat.div_lt_of_lt_mul (by rw [Nat.pow_succ] at h; omega))
      rw [dec_big n h1, List.length_append, dec_small (n % 10) (by omega)]
      simp only [List.length_cons, List.length_nil]
      omega

theorem dig_nat (i : Nat) (h : i < 10) : (UInt8.ofNat (48 + i)).toNat = 48 + i := by
  rw [UInt8.toNat_ofNat']
  omega
theorem dec_all (n : Nat) : digAll (Lib.decDigits n) = true := by
  induction n using Nat.strongRecOn with
  | _ n ih =>
    have h1 : ∀ i, i < 10 → digAll (Lib.decDigits i) = true := fun i hi => by
      rw [dec_small i hi, digAll, List.all_cons, List.all_nil, Bool.and_true, dig_nat i hi, digI_iff]
      omega
    by_cases h : n < 10
    · exact h1 n h
    · rw [dec_big n h, digAll, List.all_append]
      have a := ih (n / 10) (by omega)
      have b := h1 (n % 10) (by omega)
      rw [digAll] at a b
      rw [a, b]
      rfl
theorem dec_ne (n : Nat) : Lib.decDigits n ≠ [] := by
  by_cases h : n < 10
  · rw [dec_small n h]; simp
  · rw [dec_big n h, dec_small (n % 10) (by omega)]; simp
theorem dec_num (n : Nat) (hn : n < 2147483648) : digN (Lib.decDigits n) = (n : Int) := by
  induction n using Nat.strongRecOn with
  | _ n ih =>
    by_cases h : n < 10
    · rw [dec_small n h]
      show digStep 0 _ = _
      unfold digStep
      rw [dig_nat n h]
      omega
    · have a := ih (n / 10) (by omega) (by omega)
      unfold digN at a ⊢
      rw [dec_big n h, dec_small (n % 10) (by omega), List.foldl_append, a]
      show digStep _ _ = _
      unfold digStep
      rw [dig_nat _ (by omega)]
      omega
theorem dec_digitsB (n : Nat) : digitsB (Lib.decDigits n) = true := by
  rw [digitsB, dec_all, Bool.true_and]
  have := dec_ne n
  cases hd : Lib.decDigits n with
  | nil => exact absurd hd this
  | cons c r => rfl
theorem dec_digitsN (n : Nat) (hn : n < 2147483648) : digitsN (Lib.decDigits n) = (n : Int) := by
  rw [digitsN, if_pos (dec_all n), dec_num n hn]

end Go.Proofs.YtpifbgefkbhopaaGreatDoor
