/- Plain facts about bare items: what is read may be, and lies within the text. No program is walked. -/
import Derived.Test.YtcjnigmklijjiaaDoorBarQ
namespace Go.Proofs.YtcjnigmklijjiaaDoor

theorem numTail_right (b : Nat) (sg : Int) (l : List UInt8) (g : Got) (hb : (b = 0 ∧ sg = 1) ∨ (b = 1 ∧ sg = -1)) (hl : b ≤ l.length) (h : numTail b sg l = some g) :
    rightL g.k g.n g.s = true ∧ 1 ≤ g.m ∧ g.m ≤ l.length ∧ g.s = [] := by
  have za := ldig_all (l.drop b)
  have zl := ldig_len_le (l.drop b)
  rw [List.length_drop] at zl
  unfold numTail at h
  generalize ldig (l.drop b) = z at *
  split at h
  · cases h
  · rename_i hz
    split at h
    · have pa := ldig_all (l.drop (b + z.length + 1))
      have pl := ldig_len_le (l.drop (b + z.length + 1))
      rw [List.length_drop] at pl
      generalize ldig (l.drop (b + z.length + 1)) = p at *
      split at h
      · cases h
      · rename_i hp
        obtain rfl := Option.some.inj h
        obtain ⟨n0, n1⟩ := numL_in (z ++ (p ++ [48, 48]).take 3) (by rw [List.all_append, za, pad_all p pa]; rfl) (by rw [List.length_append, List.length_take]; omega)
        obtain ⟨s0, s1⟩ := i64_mul_sign b sg _ hb n0 n1
        refine ⟨?_, ?_, ?_, rfl⟩
        · rw [right_num _ _ _ (.inr rfl), inNum]
          simp [s0, s1]
        · show 1 ≤ _ + 1 + p.length
          omega
        · show _ + 1 + p.length ≤ l.length
          omega
    · obtain rfl := Option.some.inj h
      obtain ⟨n0, n1⟩ := numL_in z za (by omega)
      obtain ⟨s0, s1⟩ := i64_mul_sign b sg _ hb n0 n1
      refine ⟨?_, ?_, ?_, rfl⟩
      · rw [right_num _ _ _ (.inl rfl), inNum]
        simp [s0, s1]
      · show 1 ≤ b + z.length
        omega
      · show b + z.length ≤ l.length
        omega

theorem readNumL_right (l : List UInt8) (g : Got) (h : readNumL l = some g) : rightL g.k g.n g.s = true ∧ 1 ≤ g.m ∧ g.m ≤ l.length ∧ g.s = [] := by
  unfold readNumL at h
  split at h
  · rename_i hh
    exact numTail_right 1 (-1) l g (.inr ⟨rfl, rfl⟩) (by cases l with | nil => simp at hh | cons c r => simp) h
  · exact numTail_right 0 1 l g (.inl ⟨rfl, rfl⟩) (Nat.zero_le _) h

theorem esc_pr (c : UInt8) (h : escI c.toNat = true) : prI c.toNat = true := by
  have := all_bytes (fun c => !escI c.toNat || prI c.toNat) (by decide +kernel) c
  rw [h] at this
  exact this

theorem prL_snoc (acc : List UInt8) (c : UInt8) (h1 : prL acc = true) (h2 : prI c.toNat = true) : prL (acc ++ [c]) = true := by
  rw [prL] at *
  rw [List.all_append, h1, Bool.true_and, List.all_cons, h2]; rfl

theorem rsL_right : ∀ (l acc : List UInt8) (m : Nat) (g : Got), prL acc = true → rsL l acc m = some g → g.k = 3 ∧ g.n = 0 ∧ prL g.s = true ∧ m + 1 ≤ g.m ∧ g.m ≤ m + l.length ∧ g.s.length ≤ acc.length + l.length
  | [], _, _, _, _, h => by rw [rsL.eq_def] at h; cases h
  | [c], acc, m, g, ha, h => by
    by_cases h1 : c = 34
    · subst h1
      rw [rsL_quote] at h
      obtain rfl := Option.some.inj h
      exact ⟨rfl, rfl, ha, Nat.le_refl _, by simp, by simp⟩
    · by_cases h2 : c = 92
      · subst h2
        rw [rsL_esc_end] at h; cases h
      · rw [rsL_other _ _ _ _ h1 h2] at h
        split at h
        · rw [rsL.eq_def] at h; cases h
        · cases h
  | c :: d :: q, acc, m, g, ha, h => by
    by_cases h1 : c = 34
    · subst h1
      rw [rsL_quote] at h
      obtain rfl := Option.some.inj h
      exact ⟨rfl, rfl, ha, Nat.le_refl _, by simp, by simp⟩
    · by_cases h2 : c = 92
      · subst h2
        rw [rsL_esc] at h
        split at h
        · rename_i he
          obtain ⟨r1, r2, r3, r4, r5, r6⟩ := rsL_right q (acc ++ [d]) (m + 2) g (prL_snoc acc d ha (esc_pr d he)) h
          simp only [List.length_append, List.length_cons, List.length_nil] at r6 ⊢
          exact ⟨r1, r2, r3, by omega, by omega, by omega⟩
        · cases h
      · rw [rsL_other _ _ _ _ h1 h2] at h
        split at h
        · rename_i he
          obtain ⟨r1, r2, r3, r4, r5, r6⟩ := rsL_right (d :: q) (acc ++ [c]) (m + 1) g (prL_snoc acc c ha he) h
          simp only [List.length_append, List.length_cons, List.length_nil] at r5 r6 ⊢
          exact ⟨r1, r2, r3, by omega, by omega, by omega⟩
        · cases h

theorem takeWhile_again (p : UInt8 → Bool) : ∀ l : List UInt8, (l.takeWhile p).takeWhile p = l.takeWhile p
  | [] => rfl
  | c :: l => by
    rw [List.takeWhile_cons]
    split
    · rename_i h
      rw [List.takeWhile_cons, h, takeWhile_again p l]; rfl
    · rfl

theorem tok_right (c : UInt8) (r : List UInt8) (h : btI c.toNat = true) : rightL 4 0 ((c :: r).take (tlen (c :: r))) = true ∧ 1 ≤ tlen (c :: r) := by
  have e : tlen (c :: r) = (r.takeWhile (fun c => ttI c.toNat)).length + 1 := by rw [tlen, if_pos h]; omega
  rw [e, List.take_succ_cons, take_takeWhile, right_tok]
  have e2 : tlen (c :: r.takeWhile (fun c => ttI c.toNat)) = (r.takeWhile (fun c => ttI c.toNat)).length + 1 := by rw [tlen, if_pos h, takeWhile_again]; omega
  rw [e2]
  simp

/-- What is read may be, and lies within the text. -/
theorem readL_right (l : List UInt8) (g : Got) (h : readL l = some g) : rightL g.k g.n g.s = true ∧ 1 ≤ g.m ∧ g.m ≤ l.length ∧ g.s.length ≤ l.length := by
  cases l with
  | nil => cases h
  | cons c r =>
    unfold readL at h
    dsimp only at h
    split at h
    · obtain ⟨h1, h2, h3, h4⟩ := readNumL_right _ g h
      exact ⟨h1, h2, h3, by rw [h4]; simp⟩
    · split at h
      · rw [readStrL, List.drop_one, List.tail_cons] at h
        obtain ⟨r1, r2, r3, r4, r5, r6⟩ := rsL_right r [] 1 g rfl h
        simp only [List.length_cons, List.length_nil] at r6 ⊢
        exact ⟨by rw [r1, r2, right_str, r3]; rfl, by omega, by omega, by omega⟩
      · split at h
        · rename_i hb
          obtain rfl := Option.some.inj h
          obtain ⟨h1, h2⟩ := tok_right c r hb
          have h3 := tlen_le (c :: r)
          refine ⟨h1, h2, h3, ?_⟩
          show ((c :: r).take _).length ≤ _
          rw [List.length_take]; omega
        · split at h
          · unfold readBytesL at h
            rw [List.drop_one, List.tail_cons] at h
            split at h
            · cases h
            · rename_i hi
              obtain ⟨i0, i1⟩ := index_le _ _ hi
              split at h
              · cases h
              · rename_i b hb
                obtain rfl := Option.some.inj h
                have e := congrArg List.length (decL_some _ _ hb)
                rw [encL_len, List.length_take] at e
                refine ⟨by rw [right_bytes]; rfl, ?_, ?_, ?_⟩
                · show 1 ≤ _ + 2
                  omega
                · show _ + 2 ≤ _
                  simp only [List.length_cons]; omega
                · show b.length ≤ _
                  simp only [List.length_cons]; omega
          · split at h
            · unfold readBoolL at h
              split at h
              · rename_i c d q he
                split at h
                · rename_i hd
                  obtain rfl := Option.some.inj h
                  rw [List.cons.injEq] at he
                  obtain ⟨_, rfl⟩ := he
                  simp only [Bool.or_eq_true, beq_iff_eq] at hd
                  refine ⟨?_, by simp, by simp, by simp⟩
                  rw [right_bool]
                  rcases hd with rfl | rfl <;> decide
                · cases h
              · cases h
            · cases h

theorem right_n (k n : Int) (s : List UInt8) (h : rightL k n s = true) : -1000000000000000 < n ∧ n < 1000000000000000 := by
  rcases right_kind k n s h with ⟨_, _, g0, g1⟩ | ⟨_, _, g0⟩ | ⟨_, rfl, _⟩ | ⟨_, rfl, _, _⟩ | ⟨_, rfl⟩
  · exact ⟨g0, g1⟩
  · omega
  · decide
  · decide
  · decide

/-- How long a text is at most. -/
theorem textL_len (k n : Int) (s : List UInt8) (h : rightL k n s = true) : (textL k n s).length ≤ 2 * s.length + 20 := by
  rcases right_kind k n s h with ⟨rfl | rfl, rfl, g0, g1⟩ | ⟨rfl, rfl, g0⟩ | ⟨rfl, rfl, g0⟩ | ⟨rfl, rfl, g0, g1⟩ | ⟨rfl, rfl⟩
  · show (Lib.itoa n).length ≤ _
    unfold Lib.itoa
    split
    · have := decDigits_15 n.natAbs (by omega)
      simp only [List.length_cons]; omega
    · have := decDigits_15 n.toNat (by omega)
      omega
  · show (decT n).length ≤ _
    obtain ⟨p, e, _, p3, _, _⟩ := decN_is n.natAbs
    have := decDigits_12 (n.natAbs / 1000) (by omega)
    have hl : (decN n.natAbs).length ≤ 16 := by
      rw [e, List.length_append, List.length_cons]; omega
    unfold decT
    split
    · simp only [List.length_cons]; omega
    · omega
  · show (63 :: Lib.itoa n).length ≤ _
    rcases g0 with rfl | rfl
    · simp [Lib.itoa, Lib.decDigits_one]
    · simp [Lib.itoa, Lib.decDigits_one]
  · show (strT s).length ≤ _
    have := escL_len s
    simp only [strT, List.length_cons, List.length_append, List.length_nil]; omega
  · show s.length ≤ _
    omega
  · show (58 :: (encL s ++ [58])).length ≤ _
    have := encL_len s
    simp only [List.length_cons, List.length_append, List.length_nil]; omega

end Go.Proofs.YtcjnigmklijjiaaDoor
