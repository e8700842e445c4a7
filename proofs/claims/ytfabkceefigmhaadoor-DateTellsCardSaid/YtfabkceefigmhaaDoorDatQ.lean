/- Plain: what each reader of a date reads, said both ways. -/
import Derived.Test.YtfabkceefigmhaaDoorDatP
namespace Go.Proofs.YtfabkceefigmhaaDoor

theorem skL_iff (p : List UInt8) (s : St) (r : List UInt8) : skL p s = (r, false) ↔ s = (p ++ r, false) := by
  obtain ⟨t, x⟩ := s
  unfold skL
  constructor
  · intro h
    split at h
    · rename_i hp
      obtain ⟨q, rfl⟩ := List.isPrefixOf_iff_prefix.1 hp
      simp only [List.drop_left, Prod.mk.injEq] at h
      obtain ⟨rfl, rfl⟩ := h
      rfl
    · simp at h
  · intro h
    simp only [Prod.mk.injEq] at h
    obtain ⟨rfl, rfl⟩ := h
    rw [if_pos (List.isPrefixOf_iff_prefix.2 (List.prefix_append _ _))]
    simp

theorem digC_nat (n : Nat) : (digC n).toNat = 48 + n % 10 := by
  unfold digC
  rw [UInt8.toNat_ofNat']
  omega
theorem digC_dgt (n : Nat) : dgt (digC n) = true := by
  unfold dgt
  rw [digC_nat]
  simp
  omega
theorem dgt_digC (c : UInt8) (n : Nat) (h : dgt c = true) : digC (10 * n + (c.toNat - 48)) = c := by
  unfold dgt at h
  simp at h
  apply UInt8.toNat_inj.1
  rw [digC_nat]
  omega
theorem padL_length : ∀ (k n : Nat), (padL k n).length = k
  | 0, _ => rfl
  | k + 1, n => by rw [padL, List.length_append, padL_length k]; rfl
theorem padL_all : ∀ (k n : Nat), (padL k n).all dgt = true
  | 0, _ => rfl
  | k + 1, n => by rw [padL, List.all_append, padL_all k]; simp [digC_dgt]
theorem valL_snoc (l : List UInt8) (c : UInt8) : valL (l ++ [c]) = 10 * valL l + (c.toNat - 48) := by
  unfold valL
  rw [List.foldl_append]
  rfl
theorem valL_padL : ∀ (k n : Nat), n < 10 ^ k → valL (padL k n) = n
  | 0, n, h => by
    obtain rfl : n = 0 := by simpa using h
    rfl
  | k + 1, n, h => by
    rw [padL, valL_snoc, valL_padL k (n / 10) (by rw [Nat.pow_succ] at h; omega), digC_nat]
    omega
theorem padL_valL : ∀ (k : Nat) (l : List UInt8), l.length = k → l.all dgt = true → padL k (valL l) = l ∧ valL l < 10 ^ k
  | 0, l, h, _ => by
    obtain rfl := List.length_eq_zero_iff.1 h
    exact ⟨rfl, by decide⟩
  | k + 1, l, h, ha => by
    rcases List.eq_nil_or_concat l with rfl | ⟨q, c, rfl⟩
    · cases h
    · simp only [List.concat_eq_append, List.length_append, List.length_cons, List.length_nil, List.all_append, List.all_cons, List.all_nil, Bool.and_true, Bool.and_eq_true, Nat.add_right_cancel_iff] at h ha ⊢
      obtain ⟨h1, h2⟩ := padL_valL k q h ha.1
      have hc := ha.2
      have hd := dgt_digC c (valL q) hc
      have hc9 : c.toNat - 48 < 10 := by unfold dgt at hc; simp at hc; omega
      rw [valL_snoc]
      refine ⟨?_, by rw [Nat.pow_succ]; omega⟩
      rw [padL, hd, show (10 * valL q + (c.toNat - 48)) / 10 = valL q by omega, h1]

theorem nuL_iff (k : Nat) (s : St) (n : Nat) (r : List UInt8) : nuL k s = (n, r, false) ↔ s = (padL k n ++ r, false) ∧ n < 10 ^ k := by
  obtain ⟨t, x⟩ := s
  unfold nuL
  constructor
  · intro h
    split at h
    · rename_i hp
      simp only [Bool.and_eq_true, decide_eq_true_eq] at hp
      simp only [Prod.mk.injEq] at h
      obtain ⟨rfl, rfl, rfl⟩ := h
      obtain ⟨h1, h2⟩ := padL_valL k (t.take k) (by rw [List.length_take]; omega) hp.2
      rw [h1, List.take_append_drop]
      exact ⟨rfl, h2⟩
    · simp at h
  · rintro ⟨h, hn⟩
    simp only [Prod.mk.injEq] at h
    obtain ⟨rfl, rfl⟩ := h
    have hl := padL_length k n
    have e1 : (padL k n ++ r).take k = padL k n := by rw [List.take_append_of_le_length (by omega), List.take_of_length_le (by omega)]
    have e2 : (padL k n ++ r).drop k = r := by rw [List.drop_append_of_le_length (by omega), List.drop_of_length_le (by omega)]; rfl
    simp only [e1, e2, padL_all, valL_padL k n hn]
    rw [if_pos (by simp; omega)]

theorem upL_iff (most : Nat) (hm : most < 100) (s : St) (n : Nat) (r : List UInt8) : upL most s = (n, r, false) ↔ s = (padL 2 n ++ r, false) ∧ n ≤ most := by
  unfold upL
  constructor
  · intro h
    simp only [Prod.mk.injEq, Bool.or_eq_false_iff, decide_eq_false_iff_not, Nat.not_lt] at h
    obtain ⟨rfl, rfl, h1, h2⟩ := h
    have := (nuL_iff 2 s (nuL 2 s).1 (nuL 2 s).2.1).1 (by rw [← h1])
    exact ⟨this.1, h2⟩
  · rintro ⟨h, hn⟩
    have := (nuL_iff 2 s n r).2 ⟨h, by omega⟩
    rw [this]
    simp
    exact hn

theorem sdL_iff (s : St) (n : Nat) (r : List UInt8) : sdL s = (n, r, false) ↔ s = (spT n ++ r, false) ∧ n < 100 := by
  obtain ⟨t, x⟩ := s
  unfold sdL
  by_cases hs : t.head? = some 32
  · obtain ⟨q, rfl⟩ : ∃ q, t = 32 :: q := by
      cases t with
      | nil => cases hs
      | cons c q => obtain rfl := Option.some.inj hs; exact ⟨q, rfl⟩
    simp only [List.head?_cons, BEq.rfl, if_true, List.drop_one, List.tail_cons]
    rw [nuL_iff]
    unfold spT
    constructor
    · rintro ⟨h, hn⟩
      simp only [Prod.mk.injEq] at h
      obtain ⟨rfl, rfl⟩ := h
      rw [if_pos (by omega)]
      exact ⟨rfl, by omega⟩
    · rintro ⟨h, hn⟩
      by_cases h10 : n < 10
      · rw [if_pos h10] at h
        simp only [Prod.mk.injEq, List.cons_append, List.nil_append, List.cons.injEq, true_and] at h
        obtain ⟨rfl, rfl⟩ := h
        exact ⟨rfl, by omega⟩
      · rw [if_neg h10] at h
        simp only [Prod.mk.injEq] at h
        have h0 := congrArg List.head? h.1
        have hd := digC_dgt (n / 10)
        simp [padL] at h0
        rw [← h0] at hd
        exact absurd hd (by decide)
  · rw [if_neg (by simpa using hs), nuL_iff]
    simp only [Prod.mk.injEq, Bool.or_eq_false_iff, beq_eq_false_iff_ne, ne_eq]
    unfold spT
    constructor
    · rintro ⟨⟨rfl, rfl, h0⟩, hn⟩
      have h10 : ¬ n < 10 := by
        intro h
        apply h0
        have : digC (n / 10) = 48 := by
          apply UInt8.toNat_inj.1
          rw [digC_nat]
          have : n / 10 = 0 := by omega
          rw [this]
          rfl
        simp [padL, this]
      rw [if_neg h10]
      exact ⟨⟨rfl, rfl⟩, hn⟩
    · rintro ⟨⟨rfl, rfl⟩, hn⟩
      by_cases h10 : n < 10
      · rw [if_pos h10] at hs
        simp at hs
      · rw [if_neg h10] at hs ⊢
        refine ⟨⟨rfl, rfl, ?_⟩, by omega⟩
        intro h
        simp [padL] at h
        have := congrArg UInt8.toNat h
        rw [digC_nat] at this
        have e : ((48 : UInt8).toNat) = 48 := rfl
        rw [e] at this
        omega

/-- Names of which none begins another one. -/
def Apart (f : Nat → List UInt8) (a b : Nat) : Prop := ∀ i j, a ≤ i → i < b → a ≤ j → j < b → i ≠ j → (f i).isPrefixOf (f j) = false
theorem prefix_of_two {p q r t : List UInt8} (h1 : p <+: t) (h2 : q ++ r = t) (h3 : ¬ p <+: q) (h4 : ¬ q <+: p) : False := by
  subst h2
  rcases Nat.le_total p.length q.length with h | h
  · exact h3 (List.prefix_of_prefix_length_le h1 (List.prefix_append _ _) h)
  · exact h4 (List.prefix_of_prefix_length_le (List.prefix_append _ _) h1 h)

theorem nmL_iff (f : Nat → List UInt8) : ∀ (k a : Nat), Apart f a (a + k) → ∀ (s : St) (n : Nat) (r : List UInt8), nmL f a k s = (n, r, false) ↔ s = (f n ++ r, false) ∧ a ≤ n ∧ n < a + k
  | 0, a, _, s, n, r => by
    unfold nmL
    simp
  | k + 1, a, hA, s, n, r => by
    obtain ⟨t, x⟩ := s
    rw [nmL]
    have ih := nmL_iff f k (a + 1) (fun i j h1 h2 h3 h4 => hA i j (by omega) (by omega) (by omega) (by omega)) (t, x) n r
    by_cases hp : (f a).isPrefixOf t = true
    · rw [if_pos hp]
      obtain ⟨q, rfl⟩ := List.isPrefixOf_iff_prefix.1 hp
      simp only [List.drop_left, Prod.mk.injEq]
      constructor
      · rintro ⟨rfl, rfl, rfl⟩
        exact ⟨⟨rfl, rfl⟩, by omega, by omega⟩
      · rintro ⟨⟨h, rfl⟩, h1, h2⟩
        by_cases e : a = n
        · subst e
          exact ⟨rfl, List.append_cancel_left h, rfl⟩
        · exfalso
          have p1 := hA a n (by omega) (by omega) (by omega) (by omega) e
          have p2 := hA n a (by omega) (by omega) (by omega) (by omega) (Ne.symm e)
          exact prefix_of_two (List.prefix_append (f a) q) h.symm (fun g => by rw [List.isPrefixOf_iff_prefix.2 g] at p1; cases p1) (fun g => by rw [List.isPrefixOf_iff_prefix.2 g] at p2; cases p2)
    · rw [if_neg hp, ih]
      constructor
      · rintro ⟨h, h1, h2⟩
        exact ⟨h, by omega, by omega⟩
      · rintro ⟨h, h1, h2⟩
        refine ⟨h, ?_, by omega⟩
        by_cases e : a = n
        · subst e
          simp only [Prod.mk.injEq] at h
          rw [h.1, List.isPrefixOf_iff_prefix.2 (List.prefix_append _ _)] at hp
          exact absurd rfl hp
        · omega

theorem apart_of {f : Nat → List UInt8} {a b : Nat} (h : ∀ i : Fin b, ∀ j : Fin b, a ≤ i.val → a ≤ j.val → i ≠ j → (f i.val).isPrefixOf (f j.val) = false) : Apart f a b :=
  fun i j h1 h2 h3 h4 h5 => h ⟨i, h2⟩ ⟨j, h4⟩ h1 h3 (fun e => h5 (congrArg Fin.val e))
theorem wk_apart : Apart wkT 0 7 := apart_of (by decide)
theorem ws_apart : Apart wsT 0 7 := apart_of (by decide)
theorem mo_apart : Apart moT 1 13 := apart_of (by decide +kernel)

/-- A time of day. -/
theorem ckL_iff (s : St) (c : Nat) (r : List UInt8) : ckL s = (c, r, false) ↔ s = (ckT c ++ r, false) ∧ c < 86400 := by
  constructor
  · intro h
    unfold ckL at h
    simp only [Prod.mk.injEq] at h
    obtain ⟨hc, hr⟩ := h
    have h3 : ckC s = ((ckC s).1, r, false) := by rw [← hr]
    obtain ⟨e3, b3⟩ := (upL_iff 59 (by omega) _ _ _).1 h3
    obtain e3' := (skL_iff _ _ _).1 e3
    have h2 : ckB s = ((ckB s).1, [58] ++ (padL 2 (ckC s).1 ++ r), false) := by rw [← e3']
    obtain ⟨e2, b2⟩ := (upL_iff 59 (by omega) _ _ _).1 h2
    obtain e2' := (skL_iff _ _ _).1 e2
    have h1 : ckA s = ((ckA s).1, [58] ++ (padL 2 (ckB s).1 ++ ([58] ++ (padL 2 (ckC s).1 ++ r))), false) := by rw [← e2']
    obtain ⟨e1, b1⟩ := (upL_iff 23 (by omega) _ _ _).1 h1
    rw [e1]
    subst hc
    generalize (ckA s).1 = a at b1
    generalize (ckB s).1 = b at b2
    generalize (ckC s).1 = d at b3
    refine ⟨?_, by omega⟩
    unfold ckT
    rw [show (a * 3600 + b * 60 + d) / 3600 = a by omega, show (a * 3600 + b * 60 + d) % 3600 / 60 = b by omega, show (a * 3600 + b * 60 + d) % 60 = d by omega]
    simp
  · rintro ⟨rfl, hc⟩
    unfold ckT
    have e1 : ckA (padL 2 (c / 3600) ++ ([58] ++ (padL 2 (c % 3600 / 60) ++ ([58] ++ padL 2 (c % 60)))) ++ r, false) = (c / 3600, [58] ++ (padL 2 (c % 3600 / 60) ++ ([58] ++ (padL 2 (c % 60) ++ r))), false) :=
      (upL_iff 23 (by omega) _ _ _).2 ⟨by simp, by omega⟩
    have e2 : ckB (padL 2 (c / 3600) ++ ([58] ++ (padL 2 (c % 3600 / 60) ++ ([58] ++ padL 2 (c % 60)))) ++ r, false) = (c % 3600 / 60, [58] ++ (padL 2 (c % 60) ++ r), false) := by
      refine (upL_iff 59 (by omega) _ _ _).2 ⟨?_, by omega⟩
      rw [e1]
      exact (skL_iff _ _ _).2 rfl
    have e3 : ckC (padL 2 (c / 3600) ++ ([58] ++ (padL 2 (c % 3600 / 60) ++ ([58] ++ padL 2 (c % 60)))) ++ r, false) = (c % 60, r, false) := by
      refine (upL_iff 59 (by omega) _ _ _).2 ⟨?_, by omega⟩
      rw [e2]
      exact (skL_iff _ _ _).2 rfl
    unfold ckL
    rw [e1, e2, e3]
    simp only [Prod.mk.injEq, and_true]
    omega

end Go.Proofs.YtfabkceefigmhaaDoor
