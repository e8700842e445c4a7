/- Sizes: how long the printed text of a small item is, and that of one which was parsed (plain). -/
import Derived.Test.YtcjnigmklijjiaaDoorItmR
import Derived.Test.YtcjnigmklijjiaaDoorItmT
namespace Go.Proofs.YtcjnigmklijjiaaDoor
open Go.RowKit

/-- How much there is of parameters. -/
def szN : List Prm → Nat
  | [] => 0
  | p :: ps => p.key.length + p.s.length + 1 + szN ps

theorem szN_append : ∀ (ps qs : List Prm), szN (ps ++ qs) = szN ps + szN qs
  | [], _ => by simp [szN]
  | p :: ps, qs => by rw [List.cons_append, szN, szN, szN_append ps qs]; omega

theorem szN_set : ∀ (ps : List Prm) (i : Nat) (p : Prm), szN (ps.set i p) ≤ szN ps + (p.key.length + p.s.length + 1)
  | [], _, _ => by simp [szN]
  | q :: ps, 0, p => by simp only [List.set_cons_zero, szN]; omega
  | q :: ps, i + 1, p => by
    have := szN_set ps i p
    simp only [List.set_cons_succ, szN]; omega

theorem szN_put (acc : List Prm) (p : Prm) : szN (putL acc p) ≤ szN acc + (p.key.length + p.s.length + 1) := by
  unfold putL
  split
  · exact szN_set _ _ _
  · rw [szN_append]; simp [szN]

theorem szN_mem : ∀ (ps : List Prm) (p : Prm), p ∈ ps → p.key.length + p.s.length + 1 ≤ szN ps
  | q :: ps, p, h => by
    rcases List.mem_cons.1 h with rfl | h
    · rw [szN]; omega
    · have := szN_mem ps p h
      rw [szN]; omega

theorem szN_len : ∀ ps : List Prm, ps.length ≤ szN ps
  | [] => Nat.le_refl _
  | p :: ps => by
    have := szN_len ps
    rw [szN, List.length_cons]; omega

theorem szGo_szN : ∀ (ps : List Prm) (n : Int), 0 ≤ n → (∀ p ∈ ps, p.key.length + p.s.length ≤ 4611686018427387904) → szGo n ps ≤ 500 → n + szN ps ≤ 500
  | [], n, _, _, h => by simpa [szGo, szN] using h
  | p :: ps, n, h0, hs, h => by
    by_cases h1 : n < 100000
    · rw [szGo, if_pos h1, szStep_small n p h0 h1 (hs p (List.mem_cons_self ..))] at h
      have r1 := szGo_szN ps _ (by omega) (fun q hq => hs q (List.mem_cons_of_mem _ hq)) h
      rw [szN]
      omega
    · rw [szGo, if_neg h1] at h
      omega

theorem ppGo_szN : ∀ (ps : List Prm) (u : List UInt8), ppGo ps = some u → u.length ≤ 22 * szN ps
  | [], u, h => by
    obtain rfl := Option.some.inj h
    simp
  | p :: ps, u, h => by
    cases hp : pmT p with
    | none => rw [ppGo_none p ps hp] at h; cases h
    | some x =>
      have hx := pmT_len p x hp
      rw [ppGo_some p ps x hp] at h
      cases hq : ppGo ps with
      | none => rw [hq] at h; cases h
      | some y =>
        have := ppGo_szN ps y hq
        rw [hq] at h
        obtain rfl := Option.some.inj h
        simp only [List.length_append, szN]
        omega

theorem prT_len (k n : Int) (s u : List UInt8) (ps : List Prm) (h : prT k n s ps = some u) : u.length ≤ 2 * s.length + 20 + 22 * szN ps := by
  obtain ⟨hr, _, v, hv, rfl⟩ := prT_some k n s u ps h
  have h1 := textL_len k n s hr
  have h2 := ppGo_szN ps v hv
  rw [List.length_append]; omega

/-- What a parameter that is handed over may be. -/
def InP (ps : List Prm) : Prop := ps.length * 48 ≤ 140737488355328 ∧ ∀ p ∈ ps, p.key.length ≤ 140737488355328 ∧ p.s.length ≤ 140737488355328 ∧ -9223372036854775808 ≤ p.n ∧ p.n ≤ 9223372036854775807

theorem rsL_used : ∀ (l acc : List UInt8) (m : Nat) (g : Got), rsL l acc m = some g → g.s.length + m ≤ acc.length + g.m
  | [], _, _, _, h => by rw [rsL.eq_def] at h; cases h
  | [c], acc, m, g, h => by
    by_cases h1 : c = 34
    · subst h1
      rw [rsL_quote] at h
      obtain rfl := Option.some.inj h
      show acc.length + m ≤ acc.length + (m + 1)
      omega
    · by_cases h2 : c = 92
      · subst h2
        rw [rsL_esc_end] at h; cases h
      · rw [rsL_other _ _ _ _ h1 h2] at h
        split at h
        · rw [rsL.eq_def] at h; cases h
        · cases h
  | c :: d :: q, acc, m, g, h => by
    by_cases h1 : c = 34
    · subst h1
      rw [rsL_quote] at h
      obtain rfl := Option.some.inj h
      show acc.length + m ≤ acc.length + (m + 1)
      omega
    · by_cases h2 : c = 92
      · subst h2
        rw [rsL_esc] at h
        split at h
        · have r := rsL_used q (acc ++ [d]) (m + 2) g h
          simp only [List.length_append, List.length_cons, List.length_nil] at r
          omega
        · cases h
      · rw [rsL_other _ _ _ _ h1 h2] at h
        split at h
        · have r := rsL_used (d :: q) (acc ++ [c]) (m + 1) g h
          simp only [List.length_append, List.length_cons, List.length_nil] at r
          omega
        · cases h

/-- What is read takes at least as much of the text as it holds. -/
theorem readL_used (l : List UInt8) (g : Got) (h : readL l = some g) : g.s.length ≤ g.m := by
  cases l with
  | nil => cases h
  | cons c r =>
    unfold readL at h
    dsimp only at h
    split at h
    · obtain ⟨_, _, _, h4⟩ := readNumL_right _ g h
      rw [h4]; simp
    · split at h
      · rw [readStrL, List.drop_one, List.tail_cons] at h
        have r := rsL_used r [] 1 g h
        simp only [List.length_nil] at r
        omega
      · split at h
        · obtain rfl := Option.some.inj h
          show ((c :: r).take (tlen (c :: r))).length ≤ tlen (c :: r)
          rw [List.length_take]; omega
        · split at h
          · unfold readBytesL at h
            rw [List.drop_one, List.tail_cons] at h
            split at h
            · cases h
            · rename_i hi
              obtain ⟨i0, i1⟩ := index_le _ _ hi
              split at h
              · cases h
              · rename_i b hb
                obtain rfl := Option.some.inj h
                have e := congrArg List.length (decL_some _ _ hb)
                rw [encL_len, List.length_take] at e
                show b.length ≤ _ + 2
                omega
          · split at h
            · unfold readBoolL at h
              split at h
              · split at h
                · obtain rfl := Option.some.inj h
                  exact Nat.zero_le _
                · cases h
              · cases h
            · cases h

theorem parL_used (l : List UInt8) (p : Prm) (n : Nat) (h : parL l = some (p, n)) : p.key.length + p.s.length ≤ n := by
  unfold parL at h
  split at h
  · cases h
  · split at h
    · split at h
      · cases h
      · rename_i g hg
        have hr := readL_used _ g hg
        obtain ⟨rfl, rfl⟩ := Prod.mk.inj (Option.some.inj h)
        show (List.take _ _).length + g.s.length ≤ _
        rw [List.length_take]
        omega
    · obtain ⟨rfl, rfl⟩ := Prod.mk.inj (Option.some.inj h)
      show (List.take _ _).length + ([] : List UInt8).length ≤ _
      rw [List.length_take, List.length_nil]
      omega

theorem psL_used (n : Nat) : ∀ (l : List UInt8) (acc : List Prm) (m : Nat) (ps : List Prm) (k : Nat), l.length ≤ n → psL l acc m = some (ps, k) → szN ps + m ≤ szN acc + k := by
  induction n with
  | zero =>
    intro l acc m ps k hl h
    rw [psL_end l acc m (by rw [List.length_eq_zero_iff.1 (Nat.le_zero.1 hl)]; simp)] at h
    obtain ⟨rfl, rfl⟩ := Prod.mk.inj (Option.some.inj h)
    exact Nat.le_refl _
  | succ n ih =>
    intro l acc m ps k hl h
    by_cases hh : l.head? = some 59
    · cases hp : parL (l.drop 1) with
      | none => rw [psL_none l acc m hh hp] at h; cases h
      | some x =>
        obtain ⟨p, j⟩ := x
        rw [psL_some l acc m p j hh hp] at h
        have hu := parL_used _ _ _ hp
        have h2 := ih _ _ _ _ _ (by rw [List.length_drop]; omega) h
        have h3 := szN_put acc p
        omega
    · rw [psL_end l acc m hh] at h
      obtain ⟨rfl, rfl⟩ := Prod.mk.inj (Option.some.inj h)
      exact Nat.le_refl _

theorem itmL_used (l : List UInt8) (g : Got) (ps : List Prm) (m : Nat) (h : itmL l = some (g, ps, m)) : szN ps + g.s.length ≤ m := by
  unfold itmL at h
  split at h
  · cases h
  · rename_i g3 hg
    split at h
    · cases h
    · rename_i ps3 m3 hps
      obtain ⟨rfl, h2⟩ := Prod.mk.inj (Option.some.inj h)
      obtain ⟨rfl, rfl⟩ := Prod.mk.inj h2
      have h3 := readL_used _ _ hg
      have h4 := psL_used _ _ _ _ _ _ (Nat.le_refl _) hps
      have h5 : szN [] = 0 := rfl
      omega

theorem parseL_used (l : List UInt8) (g : Got) (ps : List Prm) (h : parseL l = some (g, ps)) : szN ps + g.s.length ≤ l.length := by
  have hb := trimB_le l 32
  unfold parseL at h
  split at h
  · cases h
  · rename_i g2 ps2 m hi
    split at h
    · cases h
    · obtain ⟨rfl, rfl⟩ := Prod.mk.inj (Option.some.inj h)
      have h1 := itmL_used _ _ _ _ hi
      have h2 := itmL_le _ _ _ _ hi
      omega

end Go.Proofs.YtcjnigmklijjiaaDoor
