/- What item prints is parsed (plain). -/
import Derived.Test.YtcjnigmklijjiaaDoorItmH
import Derived.Test.YtcjnigmklijjiaaDoorItmM
namespace Go.Proofs.YtcjnigmklijjiaaDoor
open Go.RowKit

theorem takeWhile_app (f : UInt8 → Bool) : ∀ (l t : List UInt8), l.all f = true → (∀ c, t.head? = some c → f c = false) → (l ++ t).takeWhile f = l
  | [], [], _, _ => rfl
  | [], c :: t, _, h => by
    rw [List.nil_append, List.takeWhile_cons, if_neg (by rw [h c rfl]; simp)]
  | c :: l, t, ha, h => by
    rw [List.all_cons, Bool.and_eq_true] at ha
    rw [List.cons_append, List.takeWhile_cons, if_pos ha.1, takeWhile_app f l t ha.2 h]

theorem takeWhile_full (f : UInt8 → Bool) : ∀ l : List UInt8, (l.takeWhile f).length = l.length → l.all f = true
  | [], _ => rfl
  | c :: l, h => by
    rw [List.takeWhile_cons] at h
    split at h
    · rename_i hc
      rw [List.all_cons, hc, takeWhile_full f l (by simpa using h)]; rfl
    · simp at h

theorem key_cons (K : List UInt8) (h : keyL K = true) : ∃ c r, K = c :: r ∧ bkI c.toNat = true ∧ r.all (fun c => ikI c.toNat) = true := by
  cases K with
  | nil => cases h
  | cons c r =>
    rw [keyL, Bool.and_eq_true, beq_iff_eq] at h
    have h2 := h.2
    rw [klen] at h2
    split at h2
    · rename_i hb
      rw [List.length_cons] at h2
      exact ⟨c, r, rfl, hb, takeWhile_full _ r (by omega)⟩
    · simp at h2

theorem klen_app (K t : List UInt8) (h : keyL K = true) (ht : ∀ c, t.head? = some c → ikI c.toNat = false) : klen (K ++ t) = K.length := by
  obtain ⟨c, r, rfl, hb, hr⟩ := key_cons K h
  rw [List.cons_append, klen, if_pos hb, takeWhile_app _ r t hr ht, List.length_cons, Nat.add_comm]

theorem spc_zero (l : List UInt8) (h : ∀ c, l.head? = some c → c ≠ 32) : spcL l = 0 := by
  cases l with
  | nil => rfl
  | cons c r =>
    rw [spcL, List.takeWhile_cons, if_neg (by simpa using h c rfl)]; rfl

theorem bk_not_space (c : UInt8) (h : bkI c.toNat = true) : c ≠ 32 := by
  rintro rfl
  revert h
  decide

/-- What stands behind a parameter's text: nothing, or another's semicolon. -/
def semi : List UInt8 → Bool
  | [] => true
  | c :: _ => c == 59
theorem semi_ends (t : List UInt8) (h : semi t = true) : ends t = true := by
  cases t with
  | nil => rfl
  | cons c r =>
    have : c = 59 := by simpa [semi] using h
    subst this; rfl
theorem semi_key (t : List UInt8) (h : semi t = true) : ∀ c, t.head? = some c → ikI c.toNat = false := by
  cases t with
  | nil => intro c hc; cases hc
  | cons c r =>
    have : c = 59 := by simpa [semi] using h
    subst this
    intro d hd
    obtain rfl := Option.some.inj hd
    rfl
theorem semi_not_eq (t : List UInt8) (h : semi t = true) : t.head? ≠ some 61 := by
  cases t with
  | nil => simp
  | cons c r =>
    have : c = 59 := by simpa [semi] using h
    subst this
    simp

theorem parL_text (p : Prm) (u t : List UInt8) (h : pmT p = some u) (ht : semi t = true) : ∃ v, u = 59 :: v ∧ parL (v ++ t) = some (p, v.length) := by
  cases h1 : rightL p.k p.n p.s with
  | false => rw [pmT_none p (.inl h1)] at h; cases h
  | true =>
    cases h2 : keyL p.key with
    | false => rw [pmT_none p (.inr h2)] at h; cases h
    | true =>
      obtain ⟨c, r, hK, hb, hr⟩ := key_cons p.key h2
      have hsp : ∀ z : List UInt8, spcL (p.key ++ z) = 0 := fun z => spc_zero _ (by
        rw [hK]
        intro d hd
        obtain rfl := Option.some.inj hd
        exact bk_not_space _ hb)
      have hne : ¬ p.key.length = 0 := by rw [hK]; simp
      by_cases h3 : p.k = 6 ∧ p.n = 1
      · rw [pmT_one p h1 h2 h3] at h
        obtain rfl := Option.some.inj h
        refine ⟨p.key, rfl, ?_⟩
        have hs : p.s = [] := by
          rcases right_kind _ _ _ h1 with ⟨_, g, _⟩ | ⟨_, g, _⟩ | ⟨g, _⟩ | ⟨g, _⟩ | ⟨g, _⟩
          · exact g
          · exact g
          all_goals exfalso; have := h3.1; omega
        rw [parL, hsp, List.drop_zero, klen_app _ _ h2 (semi_key t ht), if_neg hne, Nat.zero_add, List.drop_left, if_neg (semi_not_eq t ht), List.take_left]
        obtain ⟨a, b, c, d⟩ := p
        obtain ⟨g1, g2⟩ := h3
        subst g1 g2 hs
        rfl
      · rw [pmT_all p h1 h2 h3] at h
        obtain rfl := Option.some.inj h
        refine ⟨p.key ++ 61 :: textL p.k p.n p.s, rfl, ?_⟩
        rw [List.append_assoc, List.cons_append]
        have hk : klen (p.key ++ 61 :: (textL p.k p.n p.s ++ t)) = p.key.length := klen_app _ _ h2 (by
          intro d hd
          obtain rfl := Option.some.inj hd
          rfl)
        rw [parL, hsp, List.drop_zero, hk, if_neg hne, Nat.zero_add, List.drop_left, if_pos List.head?_cons, ← List.drop_drop, List.drop_left, List.drop_one, List.tail_cons, readL_text _ _ _ _ h1 (semi_ends t ht), List.take_left]
        show some (_, _) = some (_, _)
        rw [List.length_append, List.length_cons]
        congr 2
        show p.key.length + 1 + (textL p.k p.n p.s).length = p.key.length + ((textL p.k p.n p.s).length + 1)
        omega

theorem ppGo_semi (ps : List Prm) (u : List UInt8) (h : ppGo ps = some u) : semi u = true := by
  cases ps with
  | nil =>
    obtain rfl := Option.some.inj h
    rfl
  | cons p ps =>
    cases hp : pmT p with
    | none => rw [ppGo_none _ _ hp] at h; cases h
    | some w =>
      rw [ppGo_some _ _ _ hp] at h
      obtain ⟨v, rfl, _⟩ := parL_text p w [] hp rfl
      cases hq : ppGo ps with
      | none => rw [hq] at h; cases h
      | some z =>
        rw [hq] at h
        obtain rfl := Option.some.inj h
        rfl

theorem psL_text : ∀ (ps : List Prm) (u : List UInt8) (acc : List Prm) (m : Nat), ppGo ps = some u → psL u acc m = some (ps.foldl putL acc, m + u.length)
  | [], u, acc, m, h => by
    obtain rfl := Option.some.inj h
    rw [psL_end _ _ _ (by simp)]; rfl
  | p :: ps, u, acc, m, h => by
    cases hp : pmT p with
    | none => rw [ppGo_none _ _ hp] at h; cases h
    | some w =>
      rw [ppGo_some _ _ _ hp] at h
      cases hq : ppGo ps with
      | none => rw [hq] at h; cases h
      | some z =>
        rw [hq] at h
        obtain rfl := Option.some.inj h
        obtain ⟨v, rfl, hv⟩ := parL_text p w z hp (ppGo_semi ps z hq)
        have hd : (59 :: v ++ z).drop (1 + v.length) = z := by
          rw [Nat.add_comm, List.cons_append, List.drop_succ_cons, List.drop_left]
        rw [psL_some (59 :: v ++ z) acc m p v.length rfl hv, hd, psL_text ps z _ _ hq, List.foldl_cons]
        congr 2
        simp only [List.length_append, List.length_cons]
        omega

theorem putL_new (acc : List Prm) (p : Prm) (h : p.key ∉ acc.map Prm.key) : putL acc p = acc ++ [p] := by
  unfold putL
  rw [if_neg]
  intro hlt
  exact h ((idxL_lt _ _).1 (by rw [List.length_map]; exact hlt))

theorem fold_new : ∀ (ps acc : List Prm), ((acc ++ ps).map Prm.key).Nodup → ps.foldl putL acc = acc ++ ps
  | [], acc, _ => by simp
  | p :: ps, acc, h => by
    have hp : p.key ∉ acc.map Prm.key := by
      rw [List.map_append, List.map_cons, List.nodup_append] at h
      intro hm
      exact h.2.2 _ hm _ (List.mem_cons_self ..) rfl
    rw [List.foldl_cons, putL_new acc p hp, fold_new ps (acc ++ [p]) (by rw [List.append_assoc]; exact h), List.append_assoc]; rfl

theorem ppGo_snoc : ∀ (ps : List Prm) (p : Prm) (u v : List UInt8), ppGo ps = some u → pmT p = some v → ppGo (ps ++ [p]) = some (u ++ v)
  | [], p, u, v, h, hv => by
    obtain rfl := Option.some.inj h
    rw [List.nil_append, ppGo_some _ _ _ hv]
    show some (v ++ []) = _
    rw [List.append_nil, List.nil_append]
  | q :: ps, p, u, v, h, hv => by
    cases hp : pmT q with
    | none => rw [ppGo_none _ _ hp] at h; cases h
    | some w =>
      rw [ppGo_some _ _ _ hp] at h
      cases hq : ppGo ps with
      | none => rw [hq] at h; cases h
      | some z =>
        rw [hq] at h
        obtain rfl := Option.some.inj h
        rw [List.cons_append, ppGo_some _ _ _ hp, ppGo_snoc ps p z v hq hv]
        show some _ = some _
        rw [List.append_assoc]

theorem ppT_some (ps : List Prm) (u : List UInt8) (h : ppT ps = some u) : (ps.map Prm.key).Nodup ∧ ppGo ps = some u := by
  unfold ppT at h
  split at h
  · cases h
  · rename_i he
    refine ⟨?_, h⟩
    unfold eqK at he
    simpa using he

/-- A value's text with parameters' texts behind it. -/
theorem itmL_text (k n : Int) (s u : List UInt8) (ps : List Prm) (h : rightL k n s = true) (hu : ppGo ps = some u) : itmL (textL k n s ++ u) = some (⟨k, n, s, (textL k n s).length⟩, ps.foldl putL [], (textL k n s ++ u).length) := by
  rw [itmL, readL_text _ _ _ _ h (semi_ends u (ppGo_semi ps u hu))]
  dsimp only
  rw [List.drop_left, psL_text ps u [] 0 hu]
  dsimp only
  rw [List.length_append, Nat.zero_add]

end Go.Proofs.YtcjnigmklijjiaaDoor
