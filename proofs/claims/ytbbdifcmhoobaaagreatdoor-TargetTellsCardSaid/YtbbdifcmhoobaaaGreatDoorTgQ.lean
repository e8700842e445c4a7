/- Plain: texts by percent, told in one way. -/
import Derived.Test.YtbbdifcmhoobaaaGreatDoorTgP
namespace Go.Proofs.YtbbdifcmhoobaaaGreatDoor
open Go.RowKit
/-- A digit's number by sixteen; 16: it is none. The digit of a number, in upper case. -/
def hxN (c : UInt8) : Nat := if 48 ≤ c.toNat ∧ c.toNat ≤ 57 then c.toNat - 48 else if 65 ≤ c.toNat ∧ c.toNat ≤ 70 then c.toNat - 55 else if 97 ≤ c.toNat ∧ c.toNat ≤ 102 then c.toNat - 87 else 16
def hxU (n : Nat) : UInt8 := UInt8.ofNat (if n < 10 then 48 + n else 55 + n)
def pctB (c : UInt8) : Bool := decide (33 ≤ c.toNat) && decide (c.toNat ≤ 126) && c != 35
/-- What two digits behind a percent come to. -/
def pctU (a b : UInt8) : List UInt8 :=
  if plnB (UInt8.ofNat (16 * hxN a + hxN b)) = true then [UInt8.ofNat (16 * hxN a + hxN b)] else [37, hxU (hxN a), hxU (hxN b)]
def hx2 (r : List UInt8) : Bool := decide (2 ≤ r.length) && decide (hxN (r.getD 0 0) < 16) && decide (hxN (r.getD 1 0) < 16)
/-- A text by percent, as it is told in one way. By so many rounds. -/
def pctG : Nat → List UInt8 → Option (List UInt8)
  | 0, _ => some []
  | _ + 1, [] => some []
  | f + 1, c :: r =>
    if pctB c = false then none
    else if c = 37 then (if hx2 r = true then (pctG f (r.drop 2)).map (pctU (r.getD 0 0) (r.getD 1 0) ++ ·) else none)
    else (pctG f r).map (c :: ·)
def pctL (l : List UInt8) : Option (List UInt8) := pctG l.length l

theorem pctG_more : ∀ (f g : Nat) (l : List UInt8), l.length ≤ f → l.length ≤ g → pctG f l = pctG g l
  | 0, g, [], _, _ => by cases g <;> rfl
  | 0, g, c :: r, h, _ => by simp at h
  | f + 1, 0, [], _, _ => rfl
  | f + 1, 0, c :: r, _, h => by simp at h
  | f + 1, g + 1, [], _, _ => rfl
  | f + 1, g + 1, c :: r, hf, hg => by
    simp only [List.length_cons] at hf hg
    rw [pctG, pctG, pctG_more f g r (by omega) (by omega), pctG_more f g (r.drop 2) (by rw [List.length_drop]; omega) (by rw [List.length_drop]; omega)]
theorem pctL_nil : pctL [] = some [] := rfl
theorem pctL_cons (c : UInt8) (r : List UInt8) (h : c ≠ 37) : pctL (c :: r) = if pctB c = false then none else (pctL r).map (c :: ·) := by
  rw [pctL, List.length_cons, pctG, if_neg h]; rfl
theorem pctL_pct (r : List UInt8) : pctL (37 :: r) = if hx2 r = true then (pctL (r.drop 2)).map (pctU (r.getD 0 0) (r.getD 1 0) ++ ·) else none := by
  rw [pctL, List.length_cons, pctG, if_neg (by decide), if_pos rfl, pctG_more _ (r.drop 2).length (r.drop 2) (by rw [List.length_drop]; omega) (Nat.le_refl _)]
  rfl
theorem pln_pct (c : UInt8) (h : plnB c = true) : pctB c = true ∧ c ≠ 37 := by
  have : ∀ x : Fin 256, plnB x.val.toUInt8 = true → pctB x.val.toUInt8 = true ∧ x.val.toUInt8 ≠ 37 := by decide +kernel
  have h2 := this ⟨c.toNat, UInt8.toNat_lt c⟩
  simpa using h2 (by simpa using h)
theorem hxU_hxN (n : Nat) (h : n < 16) : hxN (hxU n) = n := by
  have : ∀ x : Fin 16, hxN (hxU x.val) = x.val := by decide +kernel
  exact this ⟨n, h⟩
theorem pctU_up (a b : UInt8) (ha : hxN a < 16) (hb : hxN b < 16) (h : plnB (UInt8.ofNat (16 * hxN a + hxN b)) = false) : pctU (hxU (hxN a)) (hxU (hxN b)) = [37, hxU (hxN a), hxU (hxN b)] := by
  rw [pctU, hxU_hxN _ ha, hxU_hxN _ hb, if_neg (by rw [h]; decide)]
/-- What is told by percent in one way stays, and is no longer. -/
theorem pct_stays : ∀ (n : Nat) (l p : List UInt8), l.length ≤ n → pctL l = some p → pctL p = some p ∧ p.length ≤ l.length
  | _, [], p, _, h => by
    obtain rfl := Option.some.inj h
    exact ⟨rfl, Nat.le_refl _⟩
  | 0, c :: r, _, h, _ => by simp at h
  | n + 1, c :: r, p, hn, h => by
    simp only [List.length_cons] at hn
    by_cases hc : c = 37
    · subst hc
      rw [pctL_pct] at h
      split at h
      · rename_i hab
        cases hr : pctL (r.drop 2) with
        | none => rw [hr] at h; cases h
        | some q =>
          rw [hr] at h
          obtain rfl := Option.some.inj h
          obtain ⟨h1, h2⟩ := pct_stays n (r.drop 2) q (by rw [List.length_drop]; omega) hr
          rw [List.length_drop] at h2
          simp only [hx2, Bool.and_eq_true, decide_eq_true_eq] at hab
          obtain ⟨⟨h3, ha⟩, hb⟩ := hab
          generalize r.getD 0 0 = a at *
          generalize r.getD 1 0 = b at *
          cases hp : plnB (UInt8.ofNat (16 * hxN a + hxN b)) with
          | true =>
            obtain ⟨g1, g2⟩ := pln_pct _ hp
            have e : pctU a b = [UInt8.ofNat (16 * hxN a + hxN b)] := by rw [pctU, if_pos hp]
            show pctL (pctU a b ++ q) = some (pctU a b ++ q) ∧ (pctU a b ++ q).length ≤ _
            rw [e, List.singleton_append, pctL_cons _ _ g2, if_neg (by rw [g1]; decide), h1]
            refine ⟨rfl, ?_⟩
            simp only [List.length_cons]
            omega
          | false =>
            have e : pctU a b = [37, hxU (hxN a), hxU (hxN b)] := by rw [pctU, if_neg (by rw [hp]; decide)]
            show pctL (pctU a b ++ q) = some (pctU a b ++ q) ∧ (pctU a b ++ q).length ≤ _
            rw [e]
            show pctL (37 :: hxU (hxN a) :: hxU (hxN b) :: q) = _ ∧ _
            have e2 : hx2 (hxU (hxN a) :: hxU (hxN b) :: q) = true := by
              simp [hx2, hxU_hxN _ ha, hxU_hxN _ hb, ha, hb]
            rw [pctL_pct, if_pos e2, show (hxU (hxN a) :: hxU (hxN b) :: q).drop 2 = q from rfl, h1]
            refine ⟨?_, ?_⟩
            · show some (pctU (hxU (hxN a)) (hxU (hxN b)) ++ q) = _
              rw [pctU_up a b ha hb hp, List.cons_append, List.cons_append, List.cons_append, List.nil_append]
            · simp only [List.length_append, List.length_cons, List.length_nil]
              omega
      · cases h
    · rw [pctL_cons _ _ hc] at h
      split at h
      · cases h
      · rename_i hb
        cases hr : pctL r with
        | none => rw [hr] at h; cases h
        | some q =>
          rw [hr] at h
          obtain rfl := Option.some.inj h
          obtain ⟨h1, h2⟩ := pct_stays n r q (by omega) hr
          show pctL (c :: q) = some (c :: q) ∧ (c :: q).length ≤ _
          rw [pctL_cons _ _ hc, if_neg hb, h1]
          refine ⟨rfl, ?_⟩
          simp only [List.length_cons]
          omega

end Go.Proofs.YtbbdifcmhoobaaaGreatDoor
