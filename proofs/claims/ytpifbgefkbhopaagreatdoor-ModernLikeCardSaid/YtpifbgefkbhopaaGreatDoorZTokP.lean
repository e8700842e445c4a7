/- Plain laws of lowered and trimmed texts and of tokens, as in the texts of package ascii. -/
import Derived.Test.YtpifbgefkbhopaaGreatDoorZMBasP
import Derived.Test.YtpifbgefkbhopaaGreatDoorZMSpP

namespace Go.Proofs.YtpifbgefkbhopaaGreatDoor

theorem tch_low (c : UInt8) (h : tchI c.toNat = true) : tchI (lowB c).toNat = true := by
  have := all_bytes (fun c => !tchI c.toNat || tchI (lowB c).toNat) (by decide +kernel) c
  simpa [h] using this
theorem tch_not (c : UInt8) (h : tchI c.toNat = true) : blkB c = false ∧ (c == 44) = false ∧ (c == 34) = false ∧ txtI c.toNat = true := by
  have := all_bytes (fun c => !tchI c.toNat || (!blkB c && !(c == 44) && !(c == 34) && txtI c.toNat)) (by decide +kernel) c
  simpa [h, and_assoc] using this


theorem tokL_iff (l : List UInt8) : tokL l = true ↔ (∀ c ∈ l, tchI c.toNat = true) ∧ l ≠ [] := by
  simp [tokL]

theorem tok_low (l : List UInt8) (h : tokL l = true) : tokL (lowL l) = true := by
  rw [tokL_iff] at h ⊢
  refine ⟨?_, by simpa [lowL] using h.2⟩
  intro c hc
  obtain ⟨d, hd, rfl⟩ := List.mem_map.1 hc
  exact tch_low d (h.1 d hd)

theorem tlL_of (l : List UInt8) (h : ∀ c ∈ l, blkB c = false) : tlL l = l := by
  cases l with
  | nil => rfl
  | cons c r => rw [tlL, List.dropWhile_cons_of_neg (by rw [h c (List.mem_cons_self ..)]; decide)]

theorem trL_eq (l : List UInt8) : trL l = (tlL l.reverse).reverse := rfl

theorem trimL_of (l : List UInt8) (h : ∀ c ∈ l, blkB c = false) : trimL l = l := by
  rw [trimL, tlL_of l h, trL_eq, tlL_of l.reverse (fun c hc => h c (List.mem_reverse.1 hc)), List.reverse_reverse]

theorem tlL_idem (l : List UInt8) : tlL (tlL l) = tlL l := by
  induction l with
  | nil => rfl
  | cons c r ih =>
    cases hb : blkB c
    · have e : tlL (c :: r) = c :: r := by rw [tlL, List.dropWhile_cons_of_neg (by rw [hb]; decide)]
      rw [e, e]
    · have e : tlL (c :: r) = tlL r := by rw [tlL, List.dropWhile_cons_of_pos hb]; rfl
      rw [e, ih]

theorem trL_idem (l : List UInt8) : trL (trL l) = trL l := by
  rw [trL_eq, trL_eq, List.reverse_reverse, tlL_idem]

theorem tlL_head (c : UInt8) (r : List UInt8) (h : tlL (c :: r) = c :: r) : blkB c = false := by
  cases hb : blkB c
  · rfl
  · have e : tlL (c :: r) = tlL r := by rw [tlL, List.dropWhile_cons_of_pos hb]; rfl
    rw [e] at h
    have h1 := dropWhile_le blkB r
    have h2 := congrArg List.length h
    simp only [List.length_cons] at h2
    unfold tlL at h2
    omega

theorem trL_prefix (l : List UInt8) : ∃ t, l = trL l ++ t := by
  obtain ⟨t, ht⟩ := List.dropWhile_suffix (l := l.reverse) blkB
  refine ⟨t.reverse, ?_⟩
  have := congrArg List.reverse ht
  rw [List.reverse_append, List.reverse_reverse] at this
  exact this.symm

theorem tl_tr (l : List UInt8) (h : tlL l = l) : tlL (trL l) = trL l := by
  obtain ⟨t, ht⟩ := trL_prefix l
  generalize hm : trL l = m at ht
  cases m with
  | nil => rfl
  | cons c r =>
    have hb : blkB c = false := tlL_head c (r ++ t) (by rw [← List.cons_append, ← ht]; exact h)
    rw [tlL, List.dropWhile_cons_of_neg (by rw [hb]; decide)]

theorem trimL_idem (l : List UInt8) : trimL (trimL l) = trimL l := by
  show trL (tlL (trL (tlL l))) = trL (tlL l)
  rw [tl_tr _ (tlL_idem l), trL_idem]

theorem tok_trim (l : List UInt8) (h : tokL l = true) : trimL l = l :=
  trimL_of l (fun c hc => (tch_not c (((tokL_iff l).1 h).1 c hc)).1)


end Go.Proofs.YtpifbgefkbhopaaGreatDoor
