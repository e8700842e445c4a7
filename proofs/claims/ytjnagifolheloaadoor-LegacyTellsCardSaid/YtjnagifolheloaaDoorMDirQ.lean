/- Plain: what a text's directives are bounded by. -/
import Derived.Test.YtjnagifolheloaaDoorMDirP
import Derived.Test.YtjnagifolheloaaDoorMFldQ

namespace Go.Proofs.YtjnagifolheloaaDoor
open Go.RowKit

theorem unqF_len : ∀ (f : Nat) (l t : List UInt8), unqF f l = some t → t.length ≤ l.length
  | 0, _, _, h => by cases h
  | _ + 1, [], _, h => by cases h
  | f + 1, c :: r, t, h => by
    rw [unqF] at h
    split at h
    · split at h
      · cases h; simp
      · cases h
    · split at h
      · split at h
        · cases h
        · next hr =>
          cases hq : unqF f (r.drop 1) with
          | none => rw [hq] at h; cases h
          | some u =>
            rw [hq] at h
            cases h
            have h1 := unqF_len f (r.drop 1) u hq
            have h2 := List.length_pos_iff.2 hr
            rw [List.length_drop] at h1
            simp only [List.length_cons]
            omega
      · cases hq : unqF f r with
        | none => rw [hq] at h; cases h
        | some u =>
          rw [hq] at h
          cases h
          have h1 := unqF_len f r u hq
          simp only [List.length_cons]
          omega
theorem unqL_len (l t : List UInt8) (h : unqL l = some t) : t.length ≤ l.length := by
  cases l with
  | nil => cases h
  | cons c r =>
    rw [unqL] at h
    split at h
    · have := unqF_len _ _ _ h
      simp only [List.length_cons]
      omega
    · cases h
theorem lowL_size (l : List UInt8) : (lowL l).length = l.length := by simp [lowL]
theorem oneL_len (s : List UInt8) (d : Dir) (h : oneL s = some d) : d.1.length ≤ s.length ∧ d.2.1.length ≤ s.length := by
  rw [oneL] at h
  split at h
  · split at h
    · cases h
      exact ⟨by rw [lowL_size]; exact Nat.le_refl _, by simp⟩
    · cases h
  · split at h
    · split at h
      · cases h
        exact ⟨by rw [lowL_size, List.length_take]; omega, by rw [List.length_drop]; omega⟩
      · cases hq : unqL (s.drop ((Lib.indexByte s 61).toNat + 1)) with
        | none => rw [hq] at h; cases h
        | some t =>
          rw [hq] at h
          cases h
          have := unqL_len _ _ hq
          rw [List.length_drop] at this
          exact ⟨by rw [lowL_size, List.length_take]; omega, by dsimp only; omega⟩
    · cases h
theorem splitL_small : ∀ (n : Nat) (l : List UInt8), l.length ≤ n → (splitL l).length ≤ l.length ∧ ∀ p ∈ splitL l, p.length ≤ l.length
  | 0, l, h => by
    obtain rfl : l = [] := List.eq_nil_of_length_eq_zero (by omega)
    exact ⟨by rw [splitL_nil]; exact Nat.le_refl _, fun p hp => by rw [splitL_nil] at hp; cases hp⟩
  | n + 1, l, h => by
    by_cases hl : l = []
    · subst hl
      exact ⟨by rw [splitL_nil]; exact Nat.le_refl _, fun p hp => by rw [splitL_nil] at hp; cases hp⟩
    · have hp := List.length_pos_iff.2 hl
      have hd : (l.drop (peL l + 1)).length = l.length - (peL l + 1) := List.length_drop
      obtain ⟨h1, h2⟩ := splitL_small n (l.drop (peL l + 1)) (by omega)
      have ht : (trimL (l.take (peL l))).length ≤ l.length := Nat.le_trans (trimL_le _) (by rw [List.length_take]; omega)
      rw [splitL_step l hl]
      constructor
      · rw [List.length_append]
        split
        · simp only [List.length_nil]; omega
        · simp only [List.length_singleton]; omega
      · intro p hm
        rw [List.mem_append] at hm
        rcases hm with hm | hm
        · split at hm
          · cases hm
          · rw [List.mem_singleton] at hm
            rw [hm]; exact ht
        · have := h2 p hm
          omega
theorem dirsL_ok (s : List UInt8) (hs : s.length ≤ 100000) : DirsOk (dirsL s) := by
  obtain ⟨h1, h2⟩ := splitL_small _ s (Nat.le_refl _)
  refine ⟨Nat.le_trans (List.length_filterMap_le _ _) (Nat.le_trans h1 hs), fun d hd => ?_⟩
  obtain ⟨p, hp, ho⟩ := List.mem_filterMap.1 hd
  obtain ⟨h3, h4⟩ := oneL_len p d ho
  have := h2 p hp
  omega

end Go.Proofs.YtjnagifolheloaaDoor
