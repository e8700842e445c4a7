/- What is parsed may be printed; what a parameter more does (plain). · The contract of the document's Size (sculleryref03). · Sizes: how long the printed text of a small item is, and that of one which was parsed (plain). · The contracts of slices.Equal at parameters and of item.Same. · The contract of item.Same. · The contract of the document's PrintParams (sculleryref03). -/
import Derived.Test.YtpifbgefkbhopaaGreatDoorZMItmC
import Derived.Test.YtpifbgefkbhopaaGreatDoorZMBarG

namespace Go.Proofs.YtpifbgefkbhopaaGreatDoor
open Go.RowKit

theorem keyL_take (l : List UInt8) (h : klen l ≠ 0) : keyL (l.take (klen l)) = true := by
  cases l with
  | nil => exact absurd rfl h
  | cons c r =>
    rw [klen] at h ⊢
    split at h
    · rename_i hb
      rw [if_pos hb]
      have ht : r.take (r.takeWhile (fun c => ikI c.toNat)).length = r.takeWhile (fun c => ikI c.toNat) := (List.prefix_iff_eq_take.1 (List.takeWhile_prefix _)).symm
      rw [Nat.add_comm, List.take_succ_cons, ht, keyL, klen, if_pos hb]
      have h2 : (r.takeWhile (fun c => ikI c.toNat)).takeWhile (fun c => ikI c.toNat) = r.takeWhile (fun c => ikI c.toNat) := by
        have := takeWhile_app (fun c => ikI c.toNat) (r.takeWhile (fun c => ikI c.toNat)) [] List.all_takeWhile (by intro c hc; cases hc)
        rw [List.append_nil] at this
        exact this
      rw [h2, List.length_cons, Nat.add_comm]
      simp
    · exact absurd rfl h

/-- A parameter that may be, of a text no longer than N. -/
def OkP (N : Nat) (p : Prm) : Prop := rightL p.k p.n p.s = true ∧ keyL p.key = true ∧ p.key.length ≤ N ∧ p.s.length ≤ N

theorem parL_right (l : List UInt8) (p : Prm) (n : Nat) (h : parL l = some (p, n)) : OkP l.length p := by
  have hkl := parL_key l p n h
  unfold parL at h
  split at h
  · cases h
  · rename_i hk
    split at h
    · split at h
      · cases h
      · rename_i g hg
        have hr := readL_right _ g hg
        have e := congrArg (fun o => o.map (fun x => x.1)) h
        simp only [Option.map_some, Option.some.injEq] at e
        subst e
        refine ⟨hr.1, keyL_take _ hk, hkl, ?_⟩
        have := hr.2.2.2
        rw [List.length_drop] at this
        show g.s.length ≤ _
        omega
    · have e := congrArg (fun o => o.map (fun x => x.1)) h
      simp only [Option.map_some, Option.some.injEq] at e
      subst e
      exact ⟨(rfl : rightL 6 1 [] = true), keyL_take _ hk, hkl, Nat.zero_le _⟩

theorem putL_mem (acc : List Prm) (p q : Prm) (h : q ∈ putL acc p) : q = p ∨ q ∈ acc := by
  unfold putL at h
  split at h
  · rcases List.mem_or_eq_of_mem_set h with h | h
    · exact .inr h
    · exact .inl h
  · rcases List.mem_append.1 h with h | h
    · exact .inr h
    · exact .inl (List.mem_singleton.1 h)

theorem putL_nodup (acc : List Prm) (p : Prm) (h : (acc.map Prm.key).Nodup) : ((putL acc p).map Prm.key).Nodup := by
  unfold putL
  split
  · rename_i hlt
    rw [keys_set acc p _ rfl hlt]
    exact h
  · rename_i hlt
    rw [List.map_append, List.nodup_append]
    refine ⟨h, by simp, ?_⟩
    intro a ha b hb
    have : b = p.key := by simpa using hb
    subst this
    rintro rfl
    have := (idxL_lt _ _).2 ha
    rw [List.length_map] at this
    exact hlt this

theorem psL_right (N : Nat) : ∀ (n : Nat) (l : List UInt8) (acc : List Prm) (m : Nat) (ps : List Prm) (k : Nat), l.length ≤ n → l.length ≤ N → (acc.map Prm.key).Nodup → (∀ p ∈ acc, OkP N p) → psL l acc m = some (ps, k) → (ps.map Prm.key).Nodup ∧ (∀ p ∈ ps, OkP N p) ∧ ps.length ≤ acc.length + l.length := by
  intro n
  induction n with
  | zero =>
    intro l acc m ps k hl _ hn ha h
    have : l = [] := List.eq_nil_of_length_eq_zero (by omega)
    subst this
    rw [psL_end _ _ _ (by simp)] at h
    have e := congrArg (fun o => o.map (fun x => x.1)) h
    simp only [Option.map_some, Option.some.injEq] at e
    subst e
    exact ⟨hn, ha, by simp⟩
  | succ n ih =>
    intro l acc m ps k hl hN hn ha h
    by_cases h59 : l.head? = some 59
    · cases hp : parL (l.drop 1) with
      | none => rw [psL_none _ _ _ h59 hp] at h; cases h
      | some x =>
        obtain ⟨p, j⟩ := x
        rw [psL_some _ _ _ _ _ h59 hp] at h
        have hlen : 1 ≤ l.length := by
          cases l with
          | nil => cases h59
          | cons => simp
        have hq := parL_right _ _ _ hp
        rw [List.length_drop] at hq
        obtain ⟨r1, r2, r3⟩ := ih (l.drop (1 + j)) (putL acc p) (m + 1 + j) ps k (by rw [List.length_drop]; omega) (by rw [List.length_drop]; omega) (putL_nodup _ _ hn) (by
          intro q hq2
          rcases putL_mem _ _ _ hq2 with rfl | hq2
          · exact ⟨hq.1, hq.2.1, by have := hq.2.2.1; omega, by have := hq.2.2.2; omega⟩
          · exact ha q hq2) h
        refine ⟨r1, r2, ?_⟩
        have := putL_len acc p
        rw [List.length_drop] at r3
        omega
    · rw [psL_end _ _ _ h59] at h
      have e := congrArg (fun o => o.map (fun x => x.1)) h
      simp only [Option.map_some, Option.some.injEq] at e
      subst e
      exact ⟨hn, ha, by omega⟩

theorem pmT_right (p : Prm) (h1 : rightL p.k p.n p.s = true) (h2 : keyL p.key = true) : ∃ u, pmT p = some u := by
  by_cases h3 : p.k = 6 ∧ p.n = 1
  · exact ⟨_, pmT_one p h1 h2 h3⟩
  · exact ⟨_, pmT_all p h1 h2 h3⟩

theorem ppGo_right (N : Nat) : ∀ (ps : List Prm), (∀ p ∈ ps, OkP N p) → ∃ u, ppGo ps = some u
  | [], _ => ⟨[], rfl⟩
  | p :: ps, h => by
    obtain ⟨u, hu⟩ := pmT_right p (h p (List.mem_cons_self ..)).1 (h p (List.mem_cons_self ..)).2.1
    obtain ⟨v, hv⟩ := ppGo_right N ps (fun q hq => h q (List.mem_cons_of_mem _ hq))
    exact ⟨u ++ v, by rw [ppGo_some _ _ _ hu, hv] <;> rfl⟩

/-- What is parsed may be printed, and is no longer than the text. -/
theorem parseL_right (l : List UInt8) (g : Got) (ps : List Prm) (h : parseL l = some (g, ps)) :
    (∃ u, prT g.k g.n g.s ps = some u) ∧ ps.length ≤ l.length ∧ (∀ p ∈ ps, OkP l.length p) ∧ g.s.length ≤ l.length ∧ rightL g.k g.n g.s = true := by
  have hb := trimB_le l 32
  unfold parseL at h
  split at h
  · cases h
  · rename_i g2 ps2 m hi
    split at h
    · cases h
    · have e := Option.some.inj h
      rw [Prod.mk.injEq] at e
      obtain ⟨rfl, rfl⟩ := e
      unfold itmL at hi
      split at hi
      · cases hi
      · rename_i g3 hg
        split at hi
        · cases hi
        · rename_i ps3 m3 hps
          have e := congrArg (fun o => o.map (fun x => (x.1, x.2.1))) hi
          simp only [Option.map_some, Option.some.injEq, Prod.mk.injEq] at e
          obtain ⟨rfl, rfl⟩ := e
          have hr := readL_right _ _ hg
          obtain ⟨r1, r2, r3⟩ := psL_right l.length _ _ [] 0 _ _ (Nat.le_refl _) (by rw [List.length_drop]; omega) (by simp) (by intro p hp; cases hp) hps
          rw [List.length_drop, List.length_nil] at r3
          obtain ⟨u, hu⟩ := ppGo_right _ _ r2
          refine ⟨⟨textL g3.k g3.n g3.s ++ u, ?_⟩, by omega, r2, by have := hr.2.2.2; omega, hr.1⟩
          rw [prT, if_pos hr.1, ppT, if_neg (by unfold eqK; simpa using r1), hu]
          rfl

/-! ### a parameter more -/

theorem idxL_le (ks : List (List UInt8)) (k : List UInt8) : idxL ks k ≤ ks.length := List.findIdx_le_length

theorem idx_only (ps : List Prm) (K : List UInt8) (hn : (ps.map Prm.key).Nodup) (i : Nat) (q : Prm) (hq : ps[i]? = some q) : q.key = K ↔ idxL (ps.map Prm.key) K = i := by
  have hk : (ps.map Prm.key)[i]? = some q.key := by rw [List.getElem?_map, hq] <;> rfl
  obtain ⟨hi, hv⟩ := List.getElem?_eq_some_iff.1 hk
  constructor
  · rintro rfl
    have hm : idxL (ps.map Prm.key) q.key < (ps.map Prm.key).length := (idxL_lt _ _).2 (List.mem_of_getElem? hk)
    have hf : (ps.map Prm.key)[idxL (ps.map Prm.key) q.key] = q.key := by
      have := List.findIdx_getElem (xs := ps.map Prm.key) (p := (· == q.key)) (w := hm)
      exact eq_of_beq this
    exact (List.getElem_inj hn).1 (hf.trans hv.symm)
  · intro h
    have hm : idxL (ps.map Prm.key) K < (ps.map Prm.key).length := by rw [h]; exact hi
    have hf : (ps.map Prm.key)[idxL (ps.map Prm.key) K] = K := by
      have := List.findIdx_getElem (xs := ps.map Prm.key) (p := (· == K)) (w := hm)
      exact eq_of_beq this
    rw [← hv, ← hf]
    congr 1
    exact h.symm

theorem putL_length (ps : List Prm) (p : Prm) : (putL ps p).length = max ps.length (idxL (ps.map Prm.key) p.key + 1) := by
  have := idxL_le (ps.map Prm.key) p.key
  rw [List.length_map] at this
  unfold putL
  split
  · rw [List.length_set]; omega
  · rw [List.length_append, List.length_singleton]; omega

theorem putL_at (ps : List Prm) (p : Prm) (i : Nat) : (putL ps p)[i]? = if i = idxL (ps.map Prm.key) p.key then some p else ps[i]? := by
  have hle := idxL_le (ps.map Prm.key) p.key
  rw [List.length_map] at hle
  unfold putL
  split
  · rename_i hlt
    rw [List.getElem?_set]
    by_cases h : i = idxL (ps.map Prm.key) p.key
    · rw [if_pos h, if_pos h.symm, if_pos hlt]
    · rw [if_neg h, if_neg (fun e => h e.symm)]
  · rename_i hlt
    by_cases h : i = idxL (ps.map Prm.key) p.key
    · rw [if_pos h, h, show idxL (ps.map Prm.key) p.key = ps.length by omega]
      simp
    · rw [if_neg h]
      by_cases hi : i < ps.length
      · rw [List.getElem?_append_left hi]
      · rw [List.getElem?_eq_none (by rw [List.length_append, List.length_singleton]; omega), List.getElem?_eq_none (by omega)]

end Go.Proofs.YtpifbgefkbhopaaGreatDoor

namespace Go.Proofs.YtpifbgefkbhopaaGreatDoor
open Go.RowKit

/-- What a round adds, in 64 bits. -/
def szStep (n : Int) (p : Prm) : Int := wrap64 (wrap64 (wrap64 (n + (p.key.length : Int)) + (p.s.length : Int)) + 1)
def szGo (n : Int) : List Prm → Int
  | [] => n
  | p :: ps => if n < 100000 then szGo (szStep n p) ps else n

theorem szStep_small (n : Int) (p : Prm) (h0 : 0 ≤ n) (h1 : n < 100000) (h2 : p.key.length + p.s.length ≤ 4611686018427387904) : szStep n p = n + p.key.length + p.s.length + 1 := by
  unfold szStep
  unfold wrap64
  omega

/-- What Size tells, of lengths whose sum does not leave 64 bits. -/
theorem szGo_ok : ∀ (ps : List Prm) (n : Int), 0 ≤ n → (∀ p ∈ ps, p.key.length + p.s.length ≤ 4611686018427387904) → szGo n ps ≤ 500 → n + ps.length ≤ 500 ∧ ∀ p ∈ ps, p.key.length + p.s.length ≤ 500
  | [], n, _, _, h => ⟨by simpa [szGo] using h, fun p hp => by cases hp⟩
  | p :: ps, n, h0, hs, h => by
    by_cases h1 : n < 100000
    · rw [szGo, if_pos h1, szStep_small n p h0 h1 (hs p (List.mem_cons_self ..))] at h
      obtain ⟨r1, r2⟩ := szGo_ok ps _ (by omega) (fun q hq => hs q (List.mem_cons_of_mem _ hq)) h
      refine ⟨by rw [List.length_cons]; omega, ?_⟩
      intro q hq
      rcases List.mem_cons.1 hq with rfl | hq
      · omega
      · exact r2 q hq
    · rw [szGo, if_neg h1] at h
      omega

end Go.Proofs.YtpifbgefkbhopaaGreatDoor

namespace Go.Proofs.YtpifbgefkbhopaaGreatDoor
open Go.RowKit

/-- How much there is of parameters. -/
def szN : List Prm → Nat
  | [] => 0
  | p :: ps => p.key.length + p.s.length + 1 + szN ps

theorem szN_append : ∀ (ps qs : List Prm), szN (ps ++ qs) = szN ps + szN qs
  | [], _ => by simp [szN]
  | p :: ps, qs => by rw [List.cons_append, szN, szN, szN_append ps qs]; omega

theorem szN_set : ∀ (ps : List Prm) (i : Nat) (p : Prm), szN (ps.set i p) ≤ szN ps + (p.key.length + p.s.length + 1)
  | [], _, _ => by simp [szN]
  | q :: ps, 0, p => by simp only [List.set_cons_zero, szN]; omega
  | q :: ps, i + 1, p => by
    have := szN_set ps i p
    simp only [List.set_cons_succ, szN]; omega

theorem szN_put (acc : List Prm) (p : Prm) : szN (putL acc p) ≤ szN acc + (p.key.length + p.s.length + 1) := by
  unfold putL
  split
  · exact szN_set _ _ _
  · rw [szN_append]; simp [szN]

theorem szN_mem : ∀ (ps : List Prm) (p : Prm), p ∈ ps → p.key.length + p.s.length + 1 ≤ szN ps
  | q :: ps, p, h => by
    rcases List.mem_cons.1 h with rfl | h
    · rw [szN]; omega
    · have := szN_mem ps p h
      rw [szN]; omega

theorem szN_len : ∀ ps : List Prm, ps.length ≤ szN ps
  | [] => Nat.le_refl _
  | p :: ps => by
    have := szN_len ps
    rw [szN, List.length_cons]; omega

theorem szGo_szN : ∀ (ps : List Prm) (n : Int), 0 ≤ n → (∀ p ∈ ps, p.key.length + p.s.length ≤ 4611686018427387904) → szGo n ps ≤ 500 → n + szN ps ≤ 500
  | [], n, _, _, h => by simpa [szGo, szN] using h
  | p :: ps, n, h0, hs, h => by
    by_cases h1 : n < 100000
    · rw [szGo, if_pos h1, szStep_small n p h0 h1 (hs p (List.mem_cons_self ..))] at h
      have r1 := szGo_szN ps _ (by omega) (fun q hq => hs q (List.mem_cons_of_mem _ hq)) h
      rw [szN]
      omega
    · rw [szGo, if_neg h1] at h
      omega

theorem ppGo_szN : ∀ (ps : List Prm) (u : List UInt8), ppGo ps = some u → u.length ≤ 22 * szN ps
  | [], u, h => by
    obtain rfl := Option.some.inj h
    simp
  | p :: ps, u, h => by
    cases hp : pmT p with
    | none => rw [ppGo_none p ps hp] at h; cases h
    | some x =>
      have hx := pmT_len p x hp
      rw [ppGo_some p ps x hp] at h
      cases hq : ppGo ps with
      | none => rw [hq] at h; cases h
      | some y =>
        have := ppGo_szN ps y hq
        rw [hq] at h
        obtain rfl := Option.some.inj h
        simp only [List.length_append, szN]
        omega

theorem prT_len (k n : Int) (s u : List UInt8) (ps : List Prm) (h : prT k n s ps = some u) : u.length ≤ 2 * s.length + 20 + 22 * szN ps := by
  obtain ⟨hr, _, v, hv, rfl⟩ := prT_some k n s u ps h
  have h1 := textL_len k n s hr
  have h2 := ppGo_szN ps v hv
  rw [List.length_append]; omega

/-- What a parameter that is handed over may be. -/
def InP (ps : List Prm) : Prop := ps.length * 48 ≤ 140737488355328 ∧ ∀ p ∈ ps, p.key.length ≤ 140737488355328 ∧ p.s.length ≤ 140737488355328 ∧ -9223372036854775808 ≤ p.n ∧ p.n ≤ 9223372036854775807

theorem rsL_used : ∀ (l acc : List UInt8) (m : Nat) (g : Got), rsL l acc m = some g → g.s.length + m ≤ acc.length + g.m
  | [], _, _, _, h => by rw [rsL.eq_def] at h; cases h
  | [c], acc, m, g, h => by
    by_cases h1 : c = 34
    · subst h1
      rw [rsL_quote] at h
      obtain rfl := Option.some.inj h
      show acc.length + m ≤ acc.length + (m + 1)
      omega
    · by_cases h2 : c = 92
      · subst h2
        rw [rsL_esc_end] at h; cases h
      · rw [rsL_other _ _ _ _ h1 h2] at h
        split at h
        · rw [rsL.eq_def] at h; cases h
        · cases h
  | c :: d :: q, acc, m, g, h => by
    by_cases h1 : c = 34
    · subst h1
      rw [rsL_quote] at h
      obtain rfl := Option.some.inj h
      show acc.length + m ≤ acc.length + (m + 1)
      omega
    · by_cases h2 : c = 92
      · subst h2
        rw [rsL_esc] at h
        split at h
        · have r := rsL_used q (acc ++ [d]) (m + 2) g h
          simp only [List.length_append, List.length_cons, List.length_nil] at r
          omega
        · cases h
      · rw [rsL_other _ _ _ _ h1 h2] at h
        split at h
        · have r := rsL_used (d :: q) (acc ++ [c]) (m + 1) g h
          simp only [List.length_append, List.length_cons, List.length_nil] at r
          omega
        · cases h

/-- What is read takes at least as much of the text as it holds. -/
theorem readL_used (l : List UInt8) (g : Got) (h : readL l = some g) : g.s.length ≤ g.m := by
  cases l with
  | nil => cases h
  | cons c r =>
    unfold readL at h
    dsimp only at h
    split at h
    · obtain ⟨_, _, _, h4⟩ := readNumL_right _ g h
      rw [h4]; simp
    · split at h
      · rw [readStrL, List.drop_one, List.tail_cons] at h
        have r := rsL_used r [] 1 g h
        simp only [List.length_nil] at r
        omega
      · split at h
        · obtain rfl := Option.some.inj h
          show ((c :: r).take (tlen (c :: r))).length ≤ tlen (c :: r)
          rw [List.length_take]; omega
        · split at h
          · unfold readBytesL at h
            rw [List.drop_one, List.tail_cons] at h
            split at h
            · cases h
            · rename_i hi
              obtain ⟨i0, i1⟩ := index_le _ _ hi
              split at h
              · cases h
              · rename_i b hb
                obtain rfl := Option.some.inj h
                have e := congrArg List.length (decL_some _ _ hb)
                rw [encL_len, List.length_take] at e
                show b.length ≤ _ + 2
                omega
          · split at h
            · unfold readBoolL at h
              split at h
              · split at h
                · obtain rfl := Option.some.inj h
                  exact Nat.zero_le _
                · cases h
              · cases h
            · cases h

theorem parL_used (l : List UInt8) (p : Prm) (n : Nat) (h : parL l = some (p, n)) : p.key.length + p.s.length ≤ n := by
  unfold parL at h
  split at h
  · cases h
  · split at h
    · split at h
      · cases h
      · rename_i g hg
        have hr := readL_used _ g hg
        obtain ⟨rfl, rfl⟩ := Prod.mk.inj (Option.some.inj h)
        show (List.take _ _).length + g.s.length ≤ _
        rw [List.length_take]
        omega
    · obtain ⟨rfl, rfl⟩ := Prod.mk.inj (Option.some.inj h)
      show (List.take _ _).length + ([] : List UInt8).length ≤ _
      rw [List.length_take, List.length_nil]
      omega

theorem psL_used (n : Nat) : ∀ (l : List UInt8) (acc : List Prm) (m : Nat) (ps : List Prm) (k : Nat), l.length ≤ n → psL l acc m = some (ps, k) → szN ps + m ≤ szN acc + k := by
  induction n with
  | zero =>
    intro l acc m ps k hl h
    rw [psL_end l acc m (by rw [List.length_eq_zero_iff.1 (Nat.le_zero.1 hl)]; simp)] at h
    obtain ⟨rfl, rfl⟩ := Prod.mk.inj (Option.some.inj h)
    exact Nat.le_refl _
  | succ n ih =>
    intro l acc m ps k hl h
    by_cases hh : l.head? = some 59
    · cases hp : parL (l.drop 1) with
      | none => rw [psL_none l acc m hh hp] at h; cases h
      | some x =>
        obtain ⟨p, j⟩ := x
        rw [psL_some l acc m p j hh hp] at h
        have hu := parL_used _ _ _ hp
        have h2 := ih _ _ _ _ _ (by rw [List.length_drop]; omega) h
        have h3 := szN_put acc p
        omega
    · rw [psL_end l acc m hh] at h
      obtain ⟨rfl, rfl⟩ := Prod.mk.inj (Option.some.inj h)
      exact Nat.le_refl _

theorem itmL_used (l : List UInt8) (g : Got) (ps : List Prm) (m : Nat) (h : itmL l = some (g, ps, m)) : szN ps + g.s.length ≤ m := by
  unfold itmL at h
  split at h
  · cases h
  · rename_i g3 hg
    split at h
    · cases h
    · rename_i ps3 m3 hps
      obtain ⟨rfl, h2⟩ := Prod.mk.inj (Option.some.inj h)
      obtain ⟨rfl, rfl⟩ := Prod.mk.inj h2
      have h3 := readL_used _ _ hg
      have h4 := psL_used _ _ _ _ _ _ (Nat.le_refl _) hps
      have h5 : szN [] = 0 := rfl
      omega

theorem parseL_used (l : List UInt8) (g : Got) (ps : List Prm) (h : parseL l = some (g, ps)) : szN ps + g.s.length ≤ l.length := by
  have hb := trimB_le l 32
  unfold parseL at h
  split at h
  · cases h
  · rename_i g2 ps2 m hi
    split at h
    · cases h
    · obtain ⟨rfl, rfl⟩ := Prod.mk.inj (Option.some.inj h)
      have h1 := itmL_used _ _ _ _ hi
      have h2 := itmL_le _ _ _ _ hi
      omega

end Go.Proofs.YtpifbgefkbhopaaGreatDoor

namespace Go.Proofs.YtpifbgefkbhopaaGreatDoor
open Go.RowKit

/-- Whether two parameters are the same. -/
def sameP (p q : Prm) : Bool := ((strB p.key).toList == (strB q.key).toList) && (p.k == q.k && (p.n == q.n && ((strB p.s).toList == (strB q.s).toList)))
theorem sameP_iff (p q : Prm) : sameP p q = true ↔ p = q := by
  obtain ⟨a, b, c, d⟩ := p
  obtain ⟨a', b', c', d'⟩ := q
  simp only [sameP, Lib.toList_data, strB_data, Bool.and_eq_true, beq_iff_eq, Prm.mk.injEq]

def samePs (ps qs : List Prm) : Bool := ps.length == qs.length && (ps.zip qs).all fun x => sameP x.1 x.2
theorem samePs_iff : ∀ (ps qs : List Prm), samePs ps qs = true ↔ ps = qs
  | [], [] => by simp [samePs]
  | [], _ :: _ => by simp [samePs]
  | _ :: _, [] => by simp [samePs]
  | p :: ps, q :: qs => by
    have ih := samePs_iff ps qs
    simp only [samePs, List.length_cons, List.zip_cons_cons, List.all_cons, Bool.and_eq_true, beq_iff_eq] at ih ⊢
    rw [List.cons.injEq, ← sameP_iff, ← ih]
    constructor
    · rintro ⟨h1, h2, h3⟩
      exact ⟨h2, by omega, h3⟩
    · rintro ⟨h1, h2, h3⟩
      exact ⟨by omega, h1, h3⟩

theorem samePs_len (ps qs : List Prm) (h : ps.length ≠ qs.length) : samePs ps qs = false := by
  cases hs : samePs ps qs
  · rfl
  · exact absurd (congrArg List.length ((samePs_iff _ _).1 hs)) h
theorem samePs_at (ps qs : List Prm) (j : Nat) (p q : Prm) (h1 : ps[j]? = some p) (h2 : qs[j]? = some q) (h : sameP p q = false) : samePs ps qs = false := by
  cases hs : samePs ps qs
  · rfl
  · have := (samePs_iff _ _).1 hs
    subst this
    rw [h1] at h2
    obtain rfl := Option.some.inj h2
    rw [(sameP_iff p p).2 rfl] at h; cases h
theorem samePs_all (ps qs : List Prm) (hl : ps.length = qs.length) (h : ∀ j, j < ps.length → ps[j]? = qs[j]?) : samePs ps qs = true := by
  rw [samePs_iff]
  apply List.ext_getElem?
  intro j
  by_cases hj : j < ps.length
  · exact h j hj
  · rw [List.getElem?_eq_none (by omega), List.getElem?_eq_none (by omega)]

end Go.Proofs.YtpifbgefkbhopaaGreatDoor

namespace Go.Proofs.YtpifbgefkbhopaaGreatDoor
open Go.RowKit

/-- Whether two items are the same. -/
def sameI (k n : Int) (s : List UInt8) (ps : List Prm) (k' n' : Int) (s' : List UInt8) (qs : List Prm) : Bool :=
  (k == k' && (n == n' && ((strB s).toList == (strB s').toList))) && samePs ps qs

end Go.Proofs.YtpifbgefkbhopaaGreatDoor

namespace Go.Proofs.YtpifbgefkbhopaaGreatDoor
open Go.RowKit

/-- Only the Boolean 1 has the text of it. -/
theorem text_is_one (k n : Int) (s : List UInt8) (h : rightL k n s = true) : textL k n s = [63, 49] ↔ k = 6 ∧ n = 1 := by
  constructor
  · intro e
    have h1 := readL_text k n s [] h rfl
    rw [List.append_nil, e] at h1
    have h2 : readL [63, 49] = some ⟨6, 1, [], 2⟩ := by kernel_rfl
    rw [h2] at h1
    have h3 := Option.some.inj h1
    rw [Got.mk.injEq] at h3
    exact ⟨h3.1.symm, h3.2.1.symm⟩
  · rintro ⟨rfl, rfl⟩
    show 63 :: Lib.itoa 1 = [63, 49]
    simp [Lib.itoa, Lib.decDigits_one]

theorem ppT_none_of (ps : List Prm) (i : Nat) (p : Prm) (hp : ps[i]? = some p) (h : pmT p = none) : ppT ps = none := by
  have : ∀ (l : List Prm) (i : Nat), l[i]? = some p → ppGo l = none := by
    intro l
    induction l with
    | nil => intro i hi; simp at hi
    | cons q l ih =>
      intro i hi
      cases i with
      | zero =>
        obtain rfl := Option.some.inj hi
        exact ppGo_none _ _ h
      | succ i =>
        cases hq : pmT q with
        | none => exact ppGo_none _ _ hq
        | some t =>
          rw [ppGo_some _ _ _ hq, ih i hi]
          rfl
  rw [ppT, this ps i hp]
  split <;> rfl

theorem ppT_none_dup (ps : List Prm) (i j : Nat) (p q : Prm) (hij : j < i) (hp : ps[i]? = some p) (hq : ps[j]? = some q) (h : q.key = p.key) : ppT ps = none := by
  have hd : eqK ps = true := by
    unfold eqK
    simp only [Bool.not_eq_true', decide_eq_false_iff_not]
    intro hn
    have h1 : (ps.map Prm.key)[i]? = some p.key := by rw [List.getElem?_map, hp] <;> rfl
    have h2 : (ps.map Prm.key)[j]? = some q.key := by rw [List.getElem?_map, hq] <;> rfl
    obtain ⟨hi, e1⟩ := List.getElem?_eq_some_iff.1 h1
    obtain ⟨hj, e2⟩ := List.getElem?_eq_some_iff.1 h2
    have := (List.getElem_inj (h₀ := hj) (h₁ := hi) hn).1 (by rw [e1, e2, h])
    omega
  rw [ppT, if_pos hd]

theorem take_next (ps : List Prm) (j : Nat) (p : Prm) (hp : ps[j]? = some p) : ps.take (j + 1) = ps.take j ++ [p] := by
  obtain ⟨hj, e⟩ := List.getElem?_eq_some_iff.1 hp
  rw [List.take_add_one, hp]
  rfl

theorem nodup_next (ps : List Prm) (j : Nat) (p : Prm) (hp : ps[j]? = some p) (hn : ((ps.take j).map Prm.key).Nodup) (hb : ∀ (m : Nat) (q : Prm), m < j → ps[m]? = some q → q.key ≠ p.key) : ((ps.take (j + 1)).map Prm.key).Nodup := by
  rw [take_next ps j p hp, List.map_append, List.nodup_append]
  refine ⟨hn, by simp, ?_⟩
  intro a ha b hb'
  simp only [List.map_cons, List.map_nil, List.mem_singleton] at hb'
  subst hb'
  obtain ⟨q, hq, rfl⟩ := List.mem_map.1 ha
  obtain ⟨m, hm⟩ := List.getElem?_of_mem hq
  rw [List.getElem?_take] at hm
  split at hm
  · rename_i hmj
    exact hb m q hmj hm
  · cases hm

theorem ppGo_next (ps : List Prm) (j : Nat) (p : Prm) (u v : List UInt8) (hp : ps[j]? = some p) (h : ppGo (ps.take j) = some u) (hv : pmT p = some v) : ppGo (ps.take (j + 1)) = some (u ++ v) := by
  rw [take_next ps j p hp]
  exact ppGo_snoc _ p u v h hv

theorem ppT_all (ps : List Prm) (u : List UInt8) (hn : (ps.map Prm.key).Nodup) (h : ppGo ps = some u) : ppT ps = some u := by
  have hd : eqK ps = false := by
    unfold eqK
    simp [hn]
  rw [ppT, hd, h]
  rfl

end Go.Proofs.YtpifbgefkbhopaaGreatDoor
