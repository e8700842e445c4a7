/- Plain: the errors of what is parsed; how long it is when it is printed; what printing answers. -/
import Derived.Test.YtfhpgobdnhlpcaaDoorHdX
namespace Go.Proofs.YtfhpgobdnhlpcaaDoor
open Go.RowKit

theorem lineL_err (l : List UInt8) (h : (lineL l).2 ≠ 0) : (lineL l).2 = 2 ∨ (lineL l).2 = 3 ∨ (lineL l).2 = 4 := by
  unfold lineL at h ⊢
  split
  · dsimp only
    split <;> simp
  · split
    · simp
    · split
      · simp
      · rename_i h1 h2 h3
        rw [if_neg h1, if_neg h2, if_neg h3] at h
        exact absurd rfl h
theorem parH_err (l : List UInt8) : ∀ (f K : Nat) (acc : List Fld) (n : Int), parH f l K acc = .error n → n = 2 ∨ n = 3 ∨ n = 4
  | 0, _, _, n, h => by
    simp only [parH, Except.error.injEq] at h
    omega
  | f + 1, K, acc, n, h => by
    rw [parH] at h
    by_cases he : (lineL (l.drop K)).2 ≠ 0
    · rw [if_pos he] at h
      simp only [Except.error.injEq] at h
      rw [← h]
      exact lineL_err _ he
    · rw [if_neg he] at h
      by_cases hn : (lineL (l.drop K)).1 = []
      · rw [if_pos hn] at h; cases h
      · rw [if_neg hn] at h
        by_cases h64 : acc.length = 64
        · rw [if_pos h64] at h
          simp only [Except.error.injEq] at h
          omega
        · rw [if_neg h64] at h
          cases hf : fldL (lineL (l.drop K)).1 with
          | none =>
            rw [hf] at h
            simp only [Except.error.injEq] at h
            omega
          | some p =>
            rw [hf] at h
            exact parH_err l f _ _ n h
theorem parse_err (l : List UInt8) (n : Int) (h : parseH l = .error n) : n = 2 ∨ n = 3 ∨ n = 4 := parH_err l 65 0 [] n h

theorem fldL_sum (l : List UInt8) (p : Fld) (h : fldL l = some p) : p.1.length + p.2.length + 1 ≤ l.length := by
  unfold fldL at h
  split at h
  · cases h
  · rename_i hi
    obtain ⟨h0, h1⟩ := index_le l 58 hi
    split at h
    · obtain rfl := Option.some.inj h
      dsimp only
      have := trimL_le (l.drop ((Lib.indexByte l 58).toNat + 1))
      simp only [List.length_drop] at this
      rw [lowL_length, List.length_take]
      omega
    · cases h
theorem parH_sum (l : List UInt8) : ∀ (f K : Nat) (acc fs : List Fld) (n : Nat), parH f l K acc = .ok (fs, n) → (prF acc).length ≤ K + acc.length → acc.length ≤ 64 → (prF fs).length ≤ n + 64
  | 0, _, _, _, _, h, _, _ => by cases h
  | f + 1, K, acc, fs, n, h, hK, ha => by
    rw [parH] at h
    by_cases he : (lineL (l.drop K)).2 ≠ 0
    · rw [if_pos he] at h; cases h
    · rw [if_neg he] at h
      by_cases hn : (lineL (l.drop K)).1 = []
      · rw [if_pos hn] at h
        simp only [Except.ok.injEq, Prod.mk.injEq] at h
        obtain ⟨rfl, rfl⟩ := h
        omega
      · rw [if_neg hn] at h
        by_cases h64 : acc.length = 64
        · rw [if_pos h64] at h; cases h
        · rw [if_neg h64] at h
          cases hf : fldL (lineL (l.drop K)).1 with
          | none => rw [hf] at h; cases h
          | some p =>
            rw [hf] at h
            have hps := fldL_sum _ p hf
            refine parH_sum l f _ _ fs n h ?_ (by simp; omega)
            rw [prF_snoc, List.length_append, lineF_len, List.length_append, List.length_singleton]
            omega
theorem parse_sum (l : List UInt8) (fs : List Fld) (n : Nat) (h : parseH l = .ok (fs, n)) : (prF fs).length ≤ n + 64 :=
  parH_sum l 65 0 [] fs n h (by simp [prF]) (by simp)

theorem textH_right (fs : List Fld) : ∃ (T : List UInt8) (E : Int) (R : Bool), textH (printH fs) = .tuple #[.string (strB T), .int .i64 E] ∧ rightH fs = R ∧ (E == 0) = R ∧ ((R = true ∧ E = 0 ∧ T = prF fs ++ [13, 10]) ∨ R = false) := by
  cases h : rightH fs
  · refine ⟨[], 2, false, ?_, rfl, rfl, .inr rfl⟩
    rw [printH, h]
    rfl
  · refine ⟨prF fs ++ [13, 10], 0, true, ?_, rfl, rfl, .inl ⟨rfl, rfl, rfl⟩⟩
    rw [printH, h]
    rfl

end Go.Proofs.YtfhpgobdnhlpcaaDoor
