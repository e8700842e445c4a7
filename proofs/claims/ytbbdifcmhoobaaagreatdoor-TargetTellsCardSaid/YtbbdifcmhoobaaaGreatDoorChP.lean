/- Plain: numbers by sixteen, as texts and back. -/
import Derived.Test.YtbbdifcmhoobaaaGreatDoorBasP
import Derived.Lib.AtoiAllMem
import Derived.Lib.Hide
namespace Go.Proofs.YtbbdifcmhoobaaaGreatDoor
open Go.RowKit

/-- The number of a sign by sixteen, if it is one. -/
def hexD (c : UInt8) : Option Nat :=
  if 48 ≤ c.toNat ∧ c.toNat ≤ 57 then some (c.toNat - 48)
  else if 65 ≤ c.toNat ∧ c.toNat ≤ 70 then some (c.toNat - 55)
  else if 97 ≤ c.toNat ∧ c.toNat ≤ 102 then some (c.toNat - 87)
  else none
theorem hexD_lt (c : UInt8) (d : Nat) (h : hexD c = some d) : d < 16 := by
  unfold hexD at h
  split at h
  · have := Option.some.inj h; omega
  · split at h
    · have := Option.some.inj h; omega
    · split at h
      · have := Option.some.inj h; omega
      · cases h
/-- The number that signs by sixteen tell, behind one; or whether it is no number (true), or too great a one (false). -/
def par16 (acc : Nat) : List UInt8 → Except Bool Nat
  | [] => .ok acc
  | c :: cs => match hexD c with
    | none => .error true
    | some d => if 1152921504606846976 ≤ acc then .error false else par16 (acc * 16 + d) cs

/-- The sign of a number below sixteen. -/
def hexC (d : Nat) : UInt8 := if d < 10 then UInt8.ofNat (48 + d) else UInt8.ofNat (87 + d)
theorem hexD_hexC (d : Nat) (h : d < 16) : hexD (hexC d) = some d := by
  have : ∀ i : Fin 16, hexD (hexC i.val) = some i.val := by decide
  exact this ⟨d, h⟩
/-- A number by sixteen. -/
def hexL (n : Nat) : List UInt8 := if _ : n < 16 then [hexC n] else hexL (n / 16) ++ [hexC (n % 16)]
termination_by n
decreasing_by omega
theorem hexL_small (n : Nat) (h : n < 16) : hexL n = [hexC n] := by rw [hexL, dif_pos h]
theorem hexL_big (n : Nat) (h : ¬ n < 16) : hexL n = hexL (n / 16) ++ [hexC (n % 16)] := by rw [hexL, dif_neg h]
theorem hexL_len (j : Nat) : ∀ n, n < 16 ^ j → 0 < j → (hexL n).length ≤ j := by
  induction j with
  | zero => intro n _ h; omega
  | succ j ih =>
    intro n hn _
    by_cases h : n < 16
    · rw [hexL_small n h]; simp
    · rw [hexL_big n h, List.length_append, List.length_singleton]
      have hj : 0 < j := by
        cases j with
        | zero => simp at hn; omega
        | succ j => omega
      have := ih (n / 16) (by rw [Nat.pow_succ] at hn; omega) hj
      omega
theorem hexL_ne (n : Nat) : hexL n ≠ [] := by
  by_cases h : n < 16
  · rw [hexL_small n h]; simp
  · rw [hexL_big n h]; simp
theorem hexL_pos (n : Nat) : 0 < (hexL n).length := List.length_pos_iff.2 (hexL_ne n)
theorem hexC_hex (d : Nat) (h : d < 16) : (48 ≤ (hexC d).toNat ∧ (hexC d).toNat ≤ 57) ∨ (97 ≤ (hexC d).toNat ∧ (hexC d).toNat ≤ 102) := by
  have : ∀ i : Fin 16, (48 ≤ (hexC i.val).toNat ∧ (hexC i.val).toNat ≤ 57) ∨ (97 ≤ (hexC i.val).toNat ∧ (hexC i.val).toNat ≤ 102) := by decide
  exact this ⟨d, h⟩
theorem hexL_mem (n : Nat) : ∀ c ∈ hexL n, (48 ≤ c.toNat ∧ c.toNat ≤ 57) ∨ (97 ≤ c.toNat ∧ c.toNat ≤ 102) := by
  induction n using Nat.strongRecOn with
  | _ n ih =>
    intro c hc
    by_cases h : n < 16
    · rw [hexL_small n h, List.mem_singleton] at hc
      rw [hc]
      exact hexC_hex n h
    · rw [hexL_big n h] at hc
      rcases List.mem_append.1 hc with hc | hc
      · exact ih (n / 16) (by omega) c hc
      · rw [List.mem_singleton] at hc
        rw [hc]
        exact hexC_hex _ (by omega)

theorem par16_app : ∀ (l : List UInt8) (a n : Nat) (m : List UInt8), par16 a l = .ok n → par16 a (l ++ m) = par16 n m
  | [], a, n, m, h => by
    simp only [par16, Except.ok.injEq] at h
    rw [h, List.nil_append]
  | c :: l, a, n, m, h => by
    rw [List.cons_append, par16]
    rw [par16] at h
    cases hd : hexD c with
    | none => rw [hd] at h; cases h
    | some d =>
      rw [hd] at h
      dsimp only at h ⊢
      by_cases hr : 1152921504606846976 ≤ a
      · rw [if_pos hr] at h; cases h
      · rw [if_neg hr] at h ⊢
        exact par16_app l _ n m h
theorem par16_hexL (n : Nat) (h : n < 1152921504606846976) : par16 0 (hexL n) = .ok n := by
  induction n using Nat.strongRecOn with
  | _ n ih =>
    by_cases hs : n < 16
    · rw [hexL_small n hs, par16, hexD_hexC n hs]
      dsimp only
      rw [if_neg (by omega), par16]
      congr 1
      omega
    · rw [hexL_big n hs, par16_app _ _ _ _ (ih (n / 16) (by omega) (by omega)), par16, hexD_hexC _ (by omega)]
      dsimp only
      rw [if_neg (by omega), par16]
      congr 1
      omega
theorem par16_lt : ∀ (l : List UInt8) (a n j : Nat), par16 a l = .ok n → a < 16 ^ j → n < 16 ^ (j + l.length)
  | [], a, n, j, h, ha => by
    simp only [par16, Except.ok.injEq] at h
    rw [← h]
    exact ha
  | c :: l, a, n, j, h, ha => by
    rw [par16] at h
    cases hd : hexD c with
    | none => rw [hd] at h; cases h
    | some d =>
      rw [hd] at h
      dsimp only at h
      by_cases hr : 1152921504606846976 ≤ a
      · rw [if_pos hr] at h; cases h
      · rw [if_neg hr] at h
        have hdl := hexD_lt c d hd
        have := par16_lt l (a * 16 + d) n (j + 1) h (by rw [Nat.pow_succ]; omega)
        rw [List.length_cons, show j + (l.length + 1) = j + 1 + l.length by omega]
        exact this

/-- What the library's lower makes of a byte. -/
def lowO (c : UInt8) : Nat := c.toNat ||| 32
theorem lowO_facts : ∀ i : Fin 256, (bits .or .u8 (i.val : Int) 32 = ((i.val ||| 32 : Nat) : Int)) := by decide +kernel
theorem lowO_bits (c : UInt8) : bits .or .u8 (c.toNat : Int) 32 = (lowO c : Int) := lowO_facts ⟨c.toNat, c.toNat_lt⟩
theorem lowO_lt (c : UInt8) : lowO c < 256 := by
  have : ∀ i : Fin 256, (i.val ||| 32) < 256 := by decide +kernel
  exact this ⟨c.toNat, c.toNat_lt⟩
theorem hexD_letter (c : UInt8) (h : ¬ (48 ≤ c.toNat ∧ c.toNat ≤ 57)) : (hexD c = some (lowO c - 87) ∧ 97 ≤ lowO c ∧ lowO c ≤ 102) ∨ (hexD c = none ∧ (lowO c < 97 ∨ 103 ≤ lowO c)) := by
  have H : ∀ i : Fin 256, ¬ (48 ≤ i.val ∧ i.val ≤ 57) → ((if 65 ≤ i.val ∧ i.val ≤ 70 then some (i.val - 55) else if 97 ≤ i.val ∧ i.val ≤ 102 then some (i.val - 87) else none : Option Nat) = some ((i.val ||| 32) - 87) ∧ 97 ≤ (i.val ||| 32) ∧ (i.val ||| 32) ≤ 102) ∨ ((if 65 ≤ i.val ∧ i.val ≤ 70 then some (i.val - 55) else if 97 ≤ i.val ∧ i.val ≤ 102 then some (i.val - 87) else none : Option Nat) = none ∧ ((i.val ||| 32) < 97 ∨ 103 ≤ (i.val ||| 32))) := by decide +kernel
  have := H ⟨c.toNat, c.toNat_lt⟩ h
  unfold hexD lowO
  rw [if_neg h]
  exact this

end Go.Proofs.YtbbdifcmhoobaaaGreatDoor
