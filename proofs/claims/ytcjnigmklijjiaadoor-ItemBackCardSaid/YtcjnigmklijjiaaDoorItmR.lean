/- What is parsed may be printed; what a parameter more does (plain). -/
import Derived.Test.YtcjnigmklijjiaaDoorItmQ
namespace Go.Proofs.YtcjnigmklijjiaaDoor
open Go.RowKit

theorem keyL_take (l : List UInt8) (h : klen l ≠ 0) : keyL (l.take (klen l)) = true := by
  cases l with
  | nil => exact absurd rfl h
  | cons c r =>
    rw [klen] at h ⊢
    split at h
    · rename_i hb
      rw [if_pos hb]
      have ht : r.take (r.takeWhile (fun c => ikI c.toNat)).length = r.takeWhile (fun c => ikI c.toNat) := (List.prefix_iff_eq_take.1 (List.takeWhile_prefix _)).symm
      rw [Nat.add_comm, List.take_succ_cons, ht, keyL, klen, if_pos hb]
      have h2 : (r.takeWhile (fun c => ikI c.toNat)).takeWhile (fun c => ikI c.toNat) = r.takeWhile (fun c => ikI c.toNat) := by
        have := takeWhile_app (fun c => ikI c.toNat) (r.takeWhile (fun c => ikI c.toNat)) [] List.all_takeWhile (by intro c hc; cases hc)
        rw [List.append_nil] at this
        exact this
      rw [h2, List.length_cons, Nat.add_comm]
      simp
    · exact absurd rfl h

/-- A parameter that may be, of a text no longer than N. -/
def OkP (N : Nat) (p : Prm) : Prop := rightL p.k p.n p.s = true ∧ keyL p.key = true ∧ p.key.length ≤ N ∧ p.s.length ≤ N

theorem parL_right (l : List UInt8) (p : Prm) (n : Nat) (h : parL l = some (p, n)) : OkP l.length p := by
  have hkl := parL_key l p n h
  unfold parL at h
  split at h
  · cases h
  · rename_i hk
    split at h
    · split at h
      · cases h
      · rename_i g hg
        have hr := readL_right _ g hg
        have e := congrArg (fun o => o.map (fun x => x.1)) h
        simp only [Option.map_some, Option.some.injEq] at e
        subst e
        refine ⟨hr.1, keyL_take _ hk, hkl, ?_⟩
        have := hr.2.2.2
        rw [List.length_drop] at this
        show g.s.length ≤ _
        omega
    · have e := congrArg (fun o => o.map (fun x => x.1)) h
      simp only [Option.map_some, Option.some.injEq] at e
      subst e
      exact ⟨(rfl : rightL 6 1 [] = true), keyL_take _ hk, hkl, Nat.zero_le _⟩

theorem putL_mem (acc : List Prm) (p q : Prm) (h : q ∈ putL acc p) : q = p ∨ q ∈ acc := by
  unfold putL at h
  split at h
  · rcases List.mem_or_eq_of_mem_set h with h | h
    · exact .inr h
    · exact .inl h
  · rcases List.mem_append.1 h with h | h
    · exact .inr h
    · exact .inl (List.mem_singleton.1 h)

theorem putL_nodup (acc : List Prm) (p : Prm) (h : (acc.map Prm.key).Nodup) : ((putL acc p).map Prm.key).Nodup := by
  unfold putL
  split
  · rename_i hlt
    rw [keys_set acc p _ rfl hlt]
    exact h
  · rename_i hlt
    rw [List.map_append, List.nodup_append]
    refine ⟨h, by simp, ?_⟩
    intro a ha b hb
    have : b = p.key := by simpa using hb
    subst this
    rintro rfl
    have := (idxL_lt _ _).2 ha
    rw [List.length_map] at this
    exact hlt this

theorem psL_right (N : Nat) : ∀ (n : Nat) (l : List UInt8) (acc : List Prm) (m : Nat) (ps : List Prm) (k : Nat), l.length ≤ n → l.length ≤ N → (acc.map Prm.key).Nodup → (∀ p ∈ acc, OkP N p) → psL l acc m = some (ps, k) → (ps.map Prm.key).Nodup ∧ (∀ p ∈ ps, OkP N p) ∧ ps.length ≤ acc.length + l.length := by
  intro n
  induction n with
  | zero =>
    intro l acc m ps k hl _ hn ha h
    have : l = [] := List.eq_nil_of_length_eq_zero (by omega)
    subst this
    rw [psL_end _ _ _ (by simp)] at h
    have e := congrArg (fun o => o.map (fun x => x.1)) h
    simp only [Option.map_some, Option.some.injEq] at e
    subst e
    exact ⟨hn, ha, by simp⟩
  | succ n ih =>
    intro l acc m ps k hl hN hn ha h
    by_cases h59 : l.head? = some 59
    · cases hp : parL (l.drop 1) with
      | none => rw [psL_none _ _ _ h59 hp] at h; cases h
      | some x =>
        obtain ⟨p, j⟩ := x
        rw [psL_some _ _ _ _ _ h59 hp] at h
        have hlen : 1 ≤ l.length := by
          cases l with
          | nil => cases h59
          | cons => simp
        have hq := parL_right _ _ _ hp
        rw [List.length_drop] at hq
        obtain ⟨r1, r2, r3⟩ := ih (l.drop (1 + j)) (putL acc p) (m + 1 + j) ps k (by rw [List.length_drop]; omega) (by rw [List.length_drop]; omega) (putL_nodup _ _ hn) (by
          intro q hq2
          rcases putL_mem _ _ _ hq2 with rfl | hq2
          · exact ⟨hq.1, hq.2.1, by have := hq.2.2.1; omega, by have := hq.2.2.2; omega⟩
          · exact ha q hq2) h
        refine ⟨r1, r2, ?_⟩
        have := putL_len acc p
        rw [List.length_drop] at r3
        omega
    · rw [psL_end _ _ _ h59] at h
      have e := congrArg (fun o => o.map (fun x => x.1)) h
      simp only [Option.map_some, Option.some.injEq] at e
      subst e
      exact ⟨hn, ha, by omega⟩

theorem pmT_right (p : Prm) (h1 : rightL p.k p.n p.s = true) (h2 : keyL p.key = true) : ∃ u, pmT p = some u := by
  by_cases h3 : p.k = 6 ∧ p.n = 1
  · exact ⟨_, pmT_one p h1 h2 h3⟩
  · exact ⟨_, pmT_all p h1 h2 h3⟩

theorem ppGo_right (N : Nat) : ∀ (ps : List Prm), (∀ p ∈ ps, OkP N p) → ∃ u, ppGo ps = some u
  | [], _ => ⟨[], rfl⟩
  | p :: ps, h => by
    obtain ⟨u, hu⟩ := pmT_right p (h p (List.mem_cons_self ..)).1 (h p (List.mem_cons_self ..)).2.1
    obtain ⟨v, hv⟩ := ppGo_right N ps (fun q hq => h q (List.mem_cons_of_mem _ hq))
    exact ⟨u ++ v, by rw [ppGo_some _ _ _ hu, hv]; rfl⟩

/-- What is parsed may be printed, and is no longer than the text. -/
theorem parseL_right (l : List UInt8) (g : Got) (ps : List Prm) (h : parseL l = some (g, ps)) :
    (∃ u, prT g.k g.n g.s ps = some u) ∧ ps.length ≤ l.length ∧ (∀ p ∈ ps, OkP l.length p) ∧ g.s.length ≤ l.length ∧ rightL g.k g.n g.s = true := by
  have hb := trimB_le l 32
  unfold parseL at h
  split at h
  · cases h
  · rename_i g2 ps2 m hi
    split at h
    · cases h
    · have e := Option.some.inj h
      rw [Prod.mk.injEq] at e
      obtain ⟨rfl, rfl⟩ := e
      unfold itmL at hi
      split at hi
      · cases hi
      · rename_i g3 hg
        split at hi
        · cases hi
        · rename_i ps3 m3 hps
          have e := congrArg (fun o => o.map (fun x => (x.1, x.2.1))) hi
          simp only [Option.map_some, Option.some.injEq, Prod.mk.injEq] at e
          obtain ⟨rfl, rfl⟩ := e
          have hr := readL_right _ _ hg
          obtain ⟨r1, r2, r3⟩ := psL_right l.length _ _ [] 0 _ _ (Nat.le_refl _) (by rw [List.length_drop]; omega) (by simp) (by intro p hp; cases hp) hps
          rw [List.length_drop, List.length_nil] at r3
          obtain ⟨u, hu⟩ := ppGo_right _ _ r2
          refine ⟨⟨textL g3.k g3.n g3.s ++ u, ?_⟩, by omega, r2, by have := hr.2.2.2; omega, hr.1⟩
          rw [prT, if_pos hr.1, ppT, if_neg (by unfold eqK; simpa using r1), hu]
          rfl

/-! ### a parameter more -/

theorem idxL_le (ks : List (List UInt8)) (k : List UInt8) : idxL ks k ≤ ks.length := List.findIdx_le_length

theorem idx_only (ps : List Prm) (K : List UInt8) (hn : (ps.map Prm.key).Nodup) (i : Nat) (q : Prm) (hq : ps[i]? = some q) : q.key = K ↔ idxL (ps.map Prm.key) K = i := by
  have hk : (ps.map Prm.key)[i]? = some q.key := by rw [List.getElem?_map, hq]; rfl
  obtain ⟨hi, hv⟩ := List.getElem?_eq_some_iff.1 hk
  constructor
  · rintro rfl
    have hm : idxL (ps.map Prm.key) q.key < (ps.map Prm.key).length := (idxL_lt _ _).2 (List.mem_of_getElem? hk)
    have hf : (ps.map Prm.key)[idxL (ps.map Prm.key) q.key] = q.key := by
      have := List.findIdx_getElem (xs := ps.map Prm.key) (p := (· == q.key)) (w := hm)
      exact eq_of_beq this
    exact (List.getElem_inj hn).1 (hf.trans hv.symm)
  · intro h
    have hm : idxL (ps.map Prm.key) K < (ps.map Prm.key).length := by rw [h]; exact hi
    have hf : (ps.map Prm.key)[idxL (ps.map Prm.key) K] = K := by
      have := List.findIdx_getElem (xs := ps.map Prm.key) (p := (· == K)) (w := hm)
      exact eq_of_beq this
    rw [← hv, ← hf]
    congr 1
    exact h.symm

theorem putL_length (ps : List Prm) (p : Prm) : (putL ps p).length = max ps.length (idxL (ps.map Prm.key) p.key + 1) := by
  have := idxL_le (ps.map Prm.key) p.key
  rw [List.length_map] at this
  unfold putL
  split
  · rw [List.length_set]; omega
  · rw [List.length_append, List.length_singleton]; omega

theorem putL_at (ps : List Prm) (p : Prm) (i : Nat) : (putL ps p)[i]? = if i = idxL (ps.map Prm.key) p.key then some p else ps[i]? := by
  have hle := idxL_le (ps.map Prm.key) p.key
  rw [List.length_map] at hle
  unfold putL
  split
  · rename_i hlt
    rw [List.getElem?_set]
    by_cases h : i = idxL (ps.map Prm.key) p.key
    · rw [if_pos h, if_pos h.symm, if_pos hlt]
    · rw [if_neg h, if_neg (fun e => h e.symm)]
  · rename_i hlt
    by_cases h : i = idxL (ps.map Prm.key) p.key
    · rw [if_pos h, h, show idxL (ps.map Prm.key) p.key = ps.length by omega]
      simp
    · rw [if_neg h]
      by_cases hi : i < ps.length
      · rw [List.getElem?_append_left hi]
      · rw [List.getElem?_eq_none (by rw [List.length_append, List.length_singleton]; omega), List.getElem?_eq_none (by omega)]

end Go.Proofs.YtcjnigmklijjiaaDoor
