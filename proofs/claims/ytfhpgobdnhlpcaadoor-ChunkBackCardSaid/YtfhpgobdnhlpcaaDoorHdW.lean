/- Plain: the first line of a text, told by the place of its end; the first colon, told from behind. -/
import Derived.Test.YtfhpgobdnhlpcaaDoorHdX
namespace Go.Proofs.YtfhpgobdnhlpcaaDoor
open Go.RowKit

theorem index_not : ∀ (t : List UInt8) (c : UInt8), (∀ x ∈ t, x ≠ c) → Lib.indexByte t c = -1
  | [], _, _ => rfl
  | x :: t, c, h => by
    have ih := index_not t c (fun y hy => h y (List.mem_cons_of_mem _ hy))
    have hx : (x == c) = false := by simpa using h x (List.mem_cons_self ..)
    rw [Lib.indexByte, hx, ih]
    rfl
theorem not_snoc {s : ByteArray} {k : Nat} {c : UInt8} (h : ∀ x ∈ s.data.toList.take k, x ≠ c) (hk : k < s.size) (hc : ¬ s[k] = c) : ∀ x ∈ s.data.toList.take (k + 1), x ≠ c := by
  intro x hx
  rw [take_snoc s k hk] at hx
  rcases List.mem_append.1 hx with hx | hx
  · exact h x hx
  · simp only [List.mem_singleton] at hx
    rw [hx]
    exact hc
theorem index_at (s : ByteArray) (k : Nat) (c : UInt8) (h : ∀ x ∈ s.data.toList.take k, x ≠ c) (hk : k < s.size) (hc : s[k] = c) : Lib.indexByte s.data.toList c = (k : Int) := by
  have e : s.data.toList = s.data.toList.take k ++ c :: s.data.toList.drop (k + 1) := by
    rw [← hc, ← drop_cons_at s k hk, List.take_append_drop]
  have := index_mid (s.data.toList.take k) c (s.data.toList.drop (k + 1)) h
  rw [← e, List.length_take, ← Lib.size_eq] at this
  rw [this]
  congr 1
  omega

/-- A text without an end of a line. -/
theorem lineL_no (s : ByteArray) (h : ∀ x ∈ s.data.toList, x ≠ 10) : lineL s.data.toList = ([], if 2002 < s.size then 4 else 3) := by
  rw [lineL, index_not _ _ h, if_pos rfl, ← Lib.size_eq]
/-- A line's end at the very beginning. -/
theorem lineL_zero (s : ByteArray) (hk : 0 < s.size) (hc : s[0] = 10) : lineL s.data.toList = ([], 2) := by
  have hi := index_at s 0 10 (by simp) hk hc
  rw [lineL, hi, if_neg (by decide)]
  rw [show ((0 : Nat) : Int).toNat = 0 from rfl, List.take_zero, if_pos (by decide)]
/-- A line's end behind another byte. -/
theorem lineL_at (s : ByteArray) (k : Nat) (h : ∀ x ∈ s.data.toList.take (k + 1), x ≠ 10) (hk : k + 1 < s.size) (hc : s[k + 1] = 10) :
    lineL s.data.toList = if s[k] = 13 then (if 2000 < k then ([], 4) else (s.data.toList.take k, 0)) else ([], 2) := by
  have hi := index_at s (k + 1) 10 h hk hc
  have ht := take_snoc s k (by omega)
  have hl : (s.data.toList.take k).length = k := by rw [List.length_take, ← Lib.size_eq]; omega
  rw [lineL, hi, if_neg (by omega), Int.toNat_natCast, ht]
  by_cases h13 : s[k] = 13
  · have hs : Lib.trimSuffix (s.data.toList.take k ++ [13]) [13] = s.data.toList.take k := by
      unfold Lib.trimSuffix
      rw [suffix_snoc, if_pos rfl]
      simp
    rw [if_pos h13, h13, suffix_snoc, if_neg (by decide), hs, hl]
  · have hs : Lib.hasSuffix (s.data.toList.take k ++ [s[k]]) [13] = false := by
      cases hx : Lib.hasSuffix (s.data.toList.take k ++ [s[k]]) [13] with
      | false => rfl
      | true =>
        exfalso
        unfold Lib.hasSuffix at hx
        obtain ⟨t, ht2⟩ := List.isSuffixOf_iff_suffix.1 hx
        have := congrArg List.getLast? ht2
        simp only [List.getLast?_append, List.getLast?_singleton, Option.some_or, Option.some.injEq] at this
        exact h13 this.symm
    rw [if_neg h13, if_pos hs]

/-- The place of the first colon from a place on, or -1. -/
def ixF (l : List UInt8) (c : UInt8) (k : Nat) : Int := if Lib.indexByte (l.drop k) c = -1 then -1 else Lib.indexByte (l.drop k) c + k
theorem ixF_end (l : List UInt8) (c : UInt8) : ixF l c l.length = -1 := by
  rw [ixF, List.drop_length]
  rfl
theorem ixF_zero (l : List UInt8) (c : UInt8) : ixF l c 0 = Lib.indexByte l c := by
  rw [ixF, List.drop_zero]
  split
  · rename_i h
    exact h.symm
  · simp
theorem ixF_yes (s : ByteArray) (c : UInt8) (k : Nat) (h : k < s.size) (hc : s[k] = c) : ixF s.data.toList c k = k := by
  have : Lib.indexByte (s.data.toList.drop k) c = 0 := by
    rw [drop_cons_at s k h, Lib.indexByte, hc]
    simp
  rw [ixF, this, if_neg (by decide)]
  omega
theorem ixF_no (s : ByteArray) (c : UInt8) (k : Nat) (h : k < s.size) (hc : ¬ s[k] = c) : ixF s.data.toList c k = ixF s.data.toList c (k + 1) := by
  have hx : (s[k] == c) = false := by simpa using hc
  have h0 := Lib.indexByte_ge (s.data.toList.drop (k + 1)) c
  rw [ixF, ixF, drop_cons_at s k h, Lib.indexByte, hx]
  by_cases hm : Lib.indexByte (s.data.toList.drop (k + 1)) c = -1
  · rw [hm]
    rfl
  · have hb : (Lib.indexByte (s.data.toList.drop (k + 1)) c == -1) = false := by simpa using hm
    rw [hb, if_neg hm]
    simp only [Bool.false_eq_true, if_false]
    rw [if_neg (by omega)]
    omega

end Go.Proofs.YtfhpgobdnhlpcaaDoor
