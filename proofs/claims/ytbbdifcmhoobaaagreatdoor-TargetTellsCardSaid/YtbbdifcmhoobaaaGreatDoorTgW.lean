/- Plain: a text by percent, cut at each percent; the two digits. -/
import Derived.Test.YtbbdifcmhoobaaaGreatDoorTgQ
import Derived.Lib.Case
import Derived.Lib.IndexLaws
namespace Go.Proofs.YtbbdifcmhoobaaaGreatDoor
open Go.RowKit

def visL (l : List UInt8) : Bool := l.all pctB
theorem pct_invis : ∀ (n : Nat) (l : List UInt8), l.length ≤ n → visL l = false → pctL l = none
  | _, [], _, h => by cases h
  | 0, c :: r, h, _ => by simp at h
  | n + 1, c :: r, hn, h => by
    simp only [List.length_cons] at hn
    by_cases hc : c = 37
    · subst hc
      have h2 : visL r = false := by
        rw [visL, List.all_cons] at h
        have : pctB 37 = true := by decide
        rwa [this, Bool.true_and] at h
      rw [pctL_pct]
      split
      · rename_i hx
        have h3 : visL (r.drop 2) = false := by
          match r, hx, h2 with
          | a :: b :: t, hx, h2 =>
            simp only [hx2, Bool.and_eq_true, decide_eq_true_eq] at hx
            have hv : ∀ x : UInt8, hxN x < 16 → pctB x = true := by
              intro x
              have : ∀ y : Fin 256, hxN y.val.toUInt8 < 16 → pctB y.val.toUInt8 = true := by decide +kernel
              have h5 := this ⟨x.toNat, x.toNat_lt⟩
              simpa using h5
            have ha := hv a (by simpa using hx.1.2)
            have hb := hv b (by simpa using hx.2)
            rw [visL, List.all_cons, List.all_cons, ha, hb, Bool.true_and, Bool.true_and] at h2
            exact h2
          | [], hx, _ => cases hx
          | [a], hx, _ => cases hx
        rw [pct_invis n (r.drop 2) (by rw [List.length_drop]; omega) h3]
        rfl
      · rfl
    · rw [pctL_cons _ _ hc]
      cases hb : pctB c
      · rfl
      · rw [if_neg (by decide)]
        have h2 : visL r = false := by
          rw [visL, List.all_cons, hb, Bool.true_and] at h
          exact h
        rw [pct_invis n r (by omega) h2]
        rfl
/-- What stands ahead of a percent is told as it is. -/
theorem pct_ahead : ∀ (p r : List UInt8), visL p = true → (∀ c ∈ p, c ≠ 37) → pctL (p ++ r) = (pctL r).map (p ++ ·)
  | [], r, _, _ => by
    rw [List.nil_append]
    cases pctL r <;> rfl
  | c :: p, r, h, h37 => by
    rw [visL, List.all_cons, Bool.and_eq_true] at h
    rw [List.cons_append, pctL_cons _ _ (h37 c (List.mem_cons_self ..)), h.1, if_neg (by decide), pct_ahead p r h.2 (fun x hx => h37 x (List.mem_cons_of_mem _ hx))]
    cases pctL r <;> rfl
/-- Cut at its first percent, if there is one. -/
theorem pct_cut (l : List UInt8) (h : visL l = true) :
    (Lib.indexByte l 37 = -1 → pctL l = some l) ∧
    (∀ i : Nat, Lib.indexByte l 37 = i → i < l.length ∧ visL (l.drop (i + 1)) = true ∧ pctL l = (pctL (37 :: l.drop (i + 1))).map (l.take i ++ ·)) := by
  constructor
  · intro hi
    have h37 : ∀ c ∈ l, c ≠ 37 := by
      intro c hc he
      subst he
      obtain ⟨k, hk⟩ := List.mem_iff_getElem?.1 hc
      exact Lib.indexByte_none hi k hk
    have := pct_ahead l [] h h37
    rw [List.append_nil, pctL_nil] at this
    rw [this, Option.map_some, List.append_nil]
  · intro i hi
    obtain ⟨h1, h2⟩ := Lib.indexByte_some hi
    obtain ⟨hl, he⟩ := List.getElem?_eq_some_iff.1 h1
    have hsp : l = l.take i ++ 37 :: l.drop (i + 1) := by
      have := List.drop_eq_getElem_cons hl
      rw [he] at this
      rw [← this, List.take_append_drop]
    have hv := h
    rw [visL, List.all_eq_true] at hv
    refine ⟨hl, ?_, ?_⟩
    · rw [visL, List.all_eq_true]
      exact fun c hc => hv c (List.mem_of_mem_drop hc)
    · conv => lhs; rw [hsp]
      refine pct_ahead _ _ ?_ ?_
      · rw [visL, List.all_eq_true]
        exact fun c hc => hv c (List.mem_of_mem_take hc)
      · intro c hc he
        subst he
        obtain ⟨k, hk⟩ := List.mem_iff_getElem?.1 hc
        rw [List.getElem?_take] at hk
        split at hk
        · rename_i hki
          exact h2 k hki hk
        · cases hk
/-- Two digits in upper case. -/
theorem up_hex (c : UInt8) (h : hxN c < 16) : Lib.upperB c = hxU (hxN c) := by
  have : ∀ y : Fin 256, hxN y.val.toUInt8 < 16 → Lib.upperB y.val.toUInt8 = hxU (hxN y.val.toUInt8) := by decide +kernel
  have h5 := this ⟨c.toNat, c.toNat_lt⟩
  simpa using h5 (by simpa using h)
theorem hxN_ascii (c : UInt8) (h : hxN c < 16) : c.toNat < 128 := by
  have : ∀ y : Fin 256, hxN y.val.toUInt8 < 16 → y.val.toUInt8.toNat < 128 := by decide +kernel
  have h5 := this ⟨c.toNat, c.toNat_lt⟩
  simpa using h5 (by simpa using h)
theorem pln_ascii (c : UInt8) (h : plnB c = true) : c.toNat < 128 := by
  have : ∀ y : Fin 256, plnB y.val.toUInt8 = true → y.val.toUInt8.toNat < 128 := by decide +kernel
  have h5 := this ⟨c.toNat, c.toNat_lt⟩
  simpa using h5 (by simpa using h)

end Go.Proofs.YtbbdifcmhoobaaaGreatDoor
