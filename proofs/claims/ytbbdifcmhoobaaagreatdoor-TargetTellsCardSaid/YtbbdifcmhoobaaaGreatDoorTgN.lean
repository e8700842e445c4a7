/- Plain: targets to a host, told in one way: what is normal stays. -/
import Derived.Test.YtbbdifcmhoobaaaGreatDoorTgQ
import Derived.Test.YtbbdifcmhoobaaaGreatDoorTgR
namespace Go.Proofs.YtbbdifcmhoobaaaGreatDoor
open Go.RowKit

/-- http:// -/
def htpL : List UInt8 := [104, 116, 116, 112, 58, 47, 47]
def endB (c : UInt8) : Bool := c != 47 && c != 63
def queB (c : UInt8) : Bool := c != 63
/-- The host and the target that count. -/
def splN (host to : List UInt8) : List UInt8 × List UInt8 :=
  if 7 ≤ to.length ∧ lowL (to.take 7) = htpL then ((to.drop 7).takeWhile endB, (to.drop 7).dropWhile endB) else (host, to)
def pthN (p : List UInt8) : List UInt8 := if dotsL (p.takeWhile queB) = [] then [47] else dotsL (p.takeWhile queB)
/-- A target to a host, as it is told in one way. -/
def normL (host to : List UInt8) : Option (List UInt8) :=
  match hostL (splN host to).1, pctL (splN host to).2 with
  | some h, some p => if (splN host to).2 ≠ [] ∧ (splN host to).2.head? ≠ some 47 ∧ (splN host to).2.head? ≠ some 63 then none else some (htpL ++ h ++ pthN p ++ p.dropWhile queB)
  | _, _ => none

theorem getD_app (r s : List UInt8) (i : Nat) (h : i < r.length) : (r ++ s).getD i 0 = r.getD i 0 := by
  rw [List.getD_eq_getElem?_getD, List.getD_eq_getElem?_getD, List.getElem?_append_left h]
theorem hx2_app (r s : List UInt8) (c : UInt8) (hc : hxN c = 16) : hx2 (r ++ c :: s) = hx2 r := by
  match r with
  | [] =>
    have : hx2 [] = false := rfl
    rw [this, List.nil_append, hx2, show (c :: s).getD 0 0 = c from rfl, hc]
    simp
  | [a] =>
    have : hx2 [a] = false := rfl
    rw [this, hx2, show ([a] ++ c :: s).getD 1 0 = c from rfl, hc]
    simp
  | a :: b :: r => simp [hx2]
/-- A byte that is no digit, and no percent, parts a text. -/
theorem pct_app (c : UInt8) (s : List UInt8) (hc : hxN c = 16) (h37 : c ≠ 37) : ∀ (n : Nat) (l : List UInt8), l.length ≤ n → pctL (l ++ c :: s) = match pctL l, pctL (c :: s) with | some x, some y => some (x ++ y) | _, _ => none
  | _, [], _ => by
    rw [List.nil_append, pctL_nil]
    cases pctL (c :: s) <;> rfl
  | 0, x :: l, h => by simp at h
  | n + 1, x :: l, h => by
    simp only [List.length_cons] at h
    by_cases hx : x = 37
    · subst hx
      rw [List.cons_append, pctL_pct, pctL_pct, hx2_app l s c hc]
      cases h2 : hx2 l with
      | false =>
        rw [if_neg (by decide), if_neg (by decide)]
      | true =>
        have h3 := h2
        simp only [hx2, Bool.and_eq_true, decide_eq_true_eq] at h3
        have hl := h3.1.1
        rw [if_pos rfl, if_pos rfl, getD_app _ _ 0 (by omega), getD_app _ _ 1 (by omega), List.drop_append_of_le_length hl, pct_app c s hc h37 n (l.drop 2) (by rw [List.length_drop]; omega)]
        cases pctL (l.drop 2) <;> cases pctL (c :: s) <;> simp
    · rw [List.cons_append, pctL_cons _ _ hx, pctL_cons _ _ hx, pct_app c s hc h37 n l (by omega)]
      cases pctB x
      · rfl
      · simp only [Bool.true_eq_false, if_false]
        cases pctL l <;> cases pctL (c :: s) <;> simp
def PN (l : List UInt8) : Prop := pctL l = some l
theorem PN_app {l s : List UInt8} {c : UInt8} (hc : hxN c = 16) (h37 : c ≠ 37) : PN (l ++ c :: s) ↔ PN l ∧ PN (c :: s) := by
  unfold PN
  rw [pct_app c s hc h37 _ l (Nat.le_refl _)]
  constructor
  · intro h
    cases h1 : pctL l with
    | none => rw [h1] at h; cases h
    | some x =>
      cases h2 : pctL (c :: s) with
      | none => rw [h1, h2] at h; cases h
      | some y =>
        rw [h1, h2] at h
        have h := Option.some.inj h
        have l1 := (pct_stays _ l x (Nat.le_refl _) h1).2
        have l2 := (pct_stays _ (c :: s) y (Nat.le_refl _) h2).2
        have hl : x.length = l.length := by
          have := congrArg List.length h
          simp only [List.length_append] at this
          omega
        obtain ⟨rfl, rfl⟩ := List.append_inj h hl
        exact ⟨rfl, rfl⟩
  · rintro ⟨h1, h2⟩
    rw [h1, h2]
theorem PN_slash {s : List UInt8} : PN (47 :: s) ↔ PN s := by
  unfold PN
  rw [pctL_cons 47 s (by decide), if_neg (by decide)]
  cases h : pctL s with
  | none => simp
  | some x => simp
theorem PN_parts : ∀ (l cur : List UInt8), (∀ c ∈ cur, c ≠ 47) → PN (cur ++ l) → ∀ s ∈ partsG l cur, PN s
  | [], cur, _, h, s, hs => by
    rw [partsG, List.mem_singleton] at hs
    subst hs
    rwa [List.append_nil] at h
  | x :: r, cur, hc, h, s, hs => by
    rw [partsG] at hs
    split at hs
    · rename_i hx
      subst hx
      obtain ⟨h1, h2⟩ := (PN_app (by decide) (by decide)).1 h
      rcases List.mem_cons.1 hs with rfl | hs
      · exact h1
      · exact PN_parts r [] (by simp) (PN_slash.1 h2) s hs
    · rename_i hx
      refine PN_parts r (cur ++ [x]) (fun c h' => ?_) (by rwa [List.append_assoc, List.singleton_append]) s hs
      rcases List.mem_append.1 h' with h' | h'
      · exact hc c h'
      · rw [List.mem_singleton] at h'
        subst h'
        exact hx
theorem PN_out : ∀ ks : List (List UInt8), (∀ t ∈ ks, PN t) → PN (outL ks)
  | [], _ => rfl
  | s :: ks, h => by
    have h1 := h s (List.mem_cons_self ..)
    have h2 := PN_out ks fun t ht => h t (List.mem_cons_of_mem _ ht)
    rw [outL]
    show PN (47 :: (s ++ outL ks))
    rw [PN_slash]
    cases ks with
    | nil => rwa [outL, List.append_nil]
    | cons t ks =>
      rw [outL] at h2 ⊢
      exact (PN_app (by decide) (by decide)).2 ⟨h1, h2⟩
/-- Without dots, a path by percent is one. -/
theorem PN_dots (r : List UInt8) (h : PN (47 :: r)) : PN (dotsL (47 :: r)) := by
  have hp : ∀ s ∈ partsL r, PN s := PN_parts r [] (by simp) (PN_slash.1 h)
  have hk : ∀ t ∈ kptL r, PN t := by
    intro t ht
    unfold kptL at ht
    rcases List.mem_append.1 ht with ht | ht
    · rcases keep_mem _ _ t ht with h | h
      · cases h
      · exact hp t h
    · split at ht
      · rw [List.mem_singleton] at ht
        subst ht
        rfl
      · cases ht
  rw [dotsL, if_pos rfl]
  split
  · rfl
  · exact PN_out _ hk

theorem partsG_mem : ∀ (l cur : List UInt8), ∀ s ∈ partsG l cur, ∀ c ∈ s, c ∈ cur ∨ c ∈ l
  | [], cur, s, hs, c, hc => by
    rw [partsG, List.mem_singleton] at hs
    subst hs
    exact .inl hc
  | x :: r, cur, s, hs, c, hc => by
    rw [partsG] at hs
    split at hs
    · rcases List.mem_cons.1 hs with rfl | hs
      · exact .inl hc
      · rcases partsG_mem r [] s hs c hc with h | h
        · cases h
        · exact .inr (List.mem_cons_of_mem _ h)
    · rcases partsG_mem r _ s hs c hc with h | h
      · rcases List.mem_append.1 h with h | h
        · exact .inl h
        · rw [List.mem_singleton] at h
          subst h
          exact .inr (List.mem_cons_self ..)
      · exact .inr (List.mem_cons_of_mem _ h)
theorem outL_mem : ∀ (ks : List (List UInt8)) (c : UInt8), c ∈ outL ks → c = 47 ∨ ∃ t ∈ ks, c ∈ t
  | [], c, h => by cases h
  | s :: ks, c, h => by
    rw [outL] at h
    rcases List.mem_cons.1 h with h | h
    · exact .inl h
    · rcases List.mem_append.1 h with h | h
      · exact .inr ⟨s, List.mem_cons_self .., h⟩
      · rcases outL_mem ks c h with h | ⟨t, ht, h⟩
        · exact .inl h
        · exact .inr ⟨t, List.mem_cons_of_mem _ ht, h⟩
theorem dots_mem (r : List UInt8) (c : UInt8) (h : c ∈ dotsL (47 :: r)) : c = 47 ∨ c ∈ r := by
  rw [dotsL, if_pos rfl] at h
  split at h
  · rw [List.mem_singleton] at h
    exact .inl h
  · rcases outL_mem _ c h with h | ⟨t, ht, h⟩
    · exact .inl h
    · unfold kptL at ht
      rcases List.mem_append.1 ht with ht | ht
      · rcases keep_mem _ _ t ht with h2 | h2
        · cases h2
        · rcases partsG_mem r [] t h2 c h with h3 | h3
          · cases h3
          · exact .inr h3
      · split at ht
        · rw [List.mem_singleton] at ht
          subst ht
          cases h
        · cases ht
theorem dots_head (r : List UInt8) : ∃ s, dotsL (47 :: r) = 47 :: s := by
  obtain ⟨s, ks, h1, _⟩ := dots_form r
  exact ⟨s ++ outL ks, h1⟩
theorem take_drop_q (p : List UInt8) : p.takeWhile queB ++ p.dropWhile queB = p := List.takeWhile_append_dropWhile
theorem drop_q : ∀ p : List UInt8, p.dropWhile queB = [] ∨ ∃ s, p.dropWhile queB = 63 :: s
  | [] => .inl rfl
  | c :: p => by
    rw [List.dropWhile_cons]
    split
    · exact drop_q p
    · rename_i h
      have : c = 63 := by simpa [queB] using h
      exact .inr ⟨p, by rw [this]⟩
theorem take_q : ∀ p : List UInt8, ∀ c ∈ p.takeWhile queB, c ≠ 63
  | [], c, h => by cases h
  | x :: p, c, h => by
    rw [List.takeWhile_cons] at h
    split at h
    · rename_i hx
      rcases List.mem_cons.1 h with rfl | h
      · simpa [queB] using hx
      · exact take_q p c h
    · cases h
/-- What a path and what is behind it are, where the whole begins with a slash or a question mark, or is nothing. -/
theorem pth_form {p : List UInt8} (h : p = [] ∨ (∃ r, p = 47 :: r) ∨ ∃ r, p = 63 :: r) (hn : PN p) :
    ∃ s, pthN p = 47 :: s ∧ (∀ c ∈ pthN p, c ≠ 63) ∧ dotsL (pthN p) = pthN p ∧ PN (pthN p ++ p.dropWhile queB) := by
  have hone : ∀ q, (q = [] ∨ ∃ s, q = 63 :: s) → PN q → PN ([47] ++ q) := by
    intro q hq h
    show PN (47 :: q)
    exact PN_slash.2 h
  rcases h with rfl | ⟨r, rfl⟩ | ⟨r, rfl⟩
  · exact ⟨[], rfl, by decide, rfl, rfl⟩
  · have e : (47 :: r).takeWhile queB = 47 :: r.takeWhile queB := by rw [List.takeWhile_cons, if_pos (by decide)]
    have e2 : (47 :: r).dropWhile queB = r.dropWhile queB := by rw [List.dropWhile_cons, if_pos (by decide)]
    obtain ⟨s, hs⟩ := dots_head (r.takeWhile queB)
    have ep : pthN (47 :: r) = dotsL (47 :: r.takeWhile queB) := by rw [pthN, e, if_neg (by rw [hs]; simp)]
    rw [ep, e2]
    refine ⟨s, hs, fun c hc => ?_, dots_stays _, ?_⟩
    · rcases dots_mem _ c hc with h | h
      · rw [h]; decide
      · exact take_q r c h
    · have hsp : 47 :: r = (47 :: r.takeWhile queB) ++ r.dropWhile queB := by rw [List.cons_append, take_drop_q]
      rw [hsp] at hn
      rcases drop_q r with h | ⟨t, h⟩
      · rw [h, List.append_nil] at hn ⊢
        exact PN_dots _ hn
      · rw [h] at hn ⊢
        obtain ⟨h1, h2⟩ := (PN_app (by decide) (by decide)).1 hn
        exact (PN_app (by decide) (by decide)).2 ⟨PN_dots _ h1, h2⟩
  · have e : (63 :: r).takeWhile queB = [] := by rw [List.takeWhile_cons, if_neg (by decide)]
    have e2 : (63 :: r).dropWhile queB = 63 :: r := by rw [List.dropWhile_cons, if_neg (by decide)]
    have ep : pthN (63 :: r) = [47] := by rw [pthN, e]; rfl
    rw [ep, e2]
    exact ⟨[], rfl, by decide, rfl, PN_slash.2 hn⟩
theorem pct_head {to p : List UInt8} (h : pctL to = some p) (hc : ¬ (to ≠ [] ∧ to.head? ≠ some 47 ∧ to.head? ≠ some 63)) : p = [] ∨ (∃ r, p = 47 :: r) ∨ ∃ r, p = 63 :: r := by
  match to with
  | [] =>
    obtain rfl := Option.some.inj h
    exact .inl rfl
  | c :: r =>
    have h2 : c = 47 ∨ c = 63 := by
      by_cases h1 : c = 47
      · exact .inl h1
      · by_cases h3 : c = 63
        · exact .inr h3
        · exact absurd ⟨by simp, by simpa using h1, by simpa using h3⟩ hc
    have h3 : c ≠ 37 ∧ pctB c = true := by rcases h2 with rfl | rfl <;> decide
    rw [pctL_cons _ _ h3.1, if_neg (by rw [h3.2]; decide)] at h
    cases hr : pctL r with
    | none => rw [hr] at h; cases h
    | some x =>
      rw [hr] at h
      obtain rfl := Option.some.inj h
      rcases h2 with rfl | rfl
      · exact .inr (.inl ⟨x, rfl⟩)
      · exact .inr (.inr ⟨x, rfl⟩)
/-- What is normal stays, whatever host is told. -/
theorem norm_stays {host to other n : List UInt8} (h : normL host to = some n) : normL other n = some n := by
  unfold normL at h
  cases h1 : hostL (splN host to).1 with
  | none => rw [h1] at h; cases h
  | some hh =>
    cases h2 : pctL (splN host to).2 with
    | none => rw [h1, h2] at h; cases h
    | some p =>
      rw [h1, h2] at h
      dsimp only at h
      split at h
      · cases h
      · rename_i hc
        obtain rfl := Option.some.inj h
        have hb := host_bytes h1
        have hs := host_stays h1
        obtain ⟨s, e1, e2, e3, e4⟩ := pth_form (pct_head h2 hc) (pct_stays _ _ _ (Nat.le_refl _) h2).1
        have eq : p.dropWhile queB = [] ∨ ∃ s, p.dropWhile queB = 63 :: s := drop_q p
        generalize p.dropWhile queB = q at *
        generalize hpt : pthN p = w at *
        have hall : ∀ c ∈ hh, endB c = true := fun c hc => by
          have := hb c hc
          simp [endB, this.1, this.2]
        have hsp : splN other (htpL ++ hh ++ w ++ q) = (hh, w ++ q) := by
          have t7 : (htpL ++ hh ++ w ++ q).take 7 = htpL := by
            rw [List.append_assoc, List.append_assoc]
            rfl
          have d7 : (htpL ++ hh ++ w ++ q).drop 7 = hh ++ (w ++ q) := by
            rw [List.append_assoc, List.append_assoc]
            rfl
          have hl : 7 ≤ (htpL ++ hh ++ w ++ q).length := by
            simp only [List.length_append]
            have : htpL.length = 7 := rfl
            omega
          rw [splN, if_pos ⟨hl, by rw [t7]; rfl⟩, d7, e1, List.cons_append]
          obtain ⟨a, b⟩ := takeWhile_mid hh 47 (s ++ q) hall (by decide)
          rw [a, b]
        have hpc : pctL (w ++ q) = some (w ++ q) := e4
        have htk : (w ++ q).takeWhile queB = w ∧ (w ++ q).dropWhile queB = q := by
          have hq : ∀ c ∈ w, queB c = true := fun c hc => by simpa [queB] using e2 c hc
          rcases eq with rfl | ⟨t, rfl⟩
          · rw [List.append_nil]; exact takeWhile_all w hq
          · exact takeWhile_mid w 63 t hq (by decide)
        have hpn : pthN (w ++ q) = w := by rw [pthN, htk.1, e3, if_neg (by rw [e1]; simp)]
        unfold normL
        rw [hsp]
        dsimp only
        rw [hs, hpc]
        dsimp only
        rw [if_neg (by rw [e1]; simp), hpn, htk.2]

end Go.Proofs.YtbbdifcmhoobaaaGreatDoor
