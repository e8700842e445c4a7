/- Plain: a host cut at its first colon. -/
import Derived.Test.YtbbdifcmhoobaaaGreatDoorTgP
import Derived.Lib.IndexLaws
namespace Go.Proofs.YtbbdifcmhoobaaaGreatDoor
open Go.RowKit

def nmL (l : List UInt8) : Bool := l.all hstB && !l.isEmpty
def prtL (l : List UInt8) : Bool := l.isEmpty || (digitsB l && decide (l.length ≤ 5))
theorem bad_byte : ∀ l : List UInt8, l.all hstB = false → ∃ a c q, l = a ++ c :: q ∧ (∀ x ∈ a, hstB x = true) ∧ hstB c = false
  | [], h => by cases h
  | c :: l, h => by
    cases hc : hstB c
    · exact ⟨[], c, l, rfl, by simp, hc⟩
    · rw [List.all_cons, hc, Bool.true_and] at h
      obtain ⟨a, d, q, rfl, h2, h3⟩ := bad_byte l h
      refine ⟨c :: a, d, q, rfl, fun x hx => ?_, h3⟩
      rcases List.mem_cons.1 hx with rfl | hx
      · exact hc
      · exact h2 x hx
theorem host_bad (a : List UInt8) (c : UInt8) (q : List UInt8) (h : ∀ x ∈ a, hstB x = true) (hc : hstB c = false) (h58 : c ≠ 58) : hostL (a ++ c :: q) = none := by
  obtain ⟨h1, h2⟩ := takeWhile_mid a c q h hc
  rw [hostL, h1, h2]
  split
  · rfl
  · dsimp only
    have : (c != 58) = true := by simpa using h58
    rw [this]
    rfl
/-- A host by its cut at the first colon. -/
theorem host_cut {l p r : List UInt8} (h : (p = l ∧ r = [] ∧ Lib.indexByte l 58 = -1) ∨ (∃ i : Nat, Lib.indexByte l 58 = i ∧ p = l.take i ∧ r = l.drop (i + 1))) :
    hostL l = if nmL p = true ∧ prtL r = true then some (if r = [] ∨ r = [56, 48] then lowL p else lowL l) else none := by
  have hp58 : ∀ c ∈ p, c ≠ 58 := by
    intro c hc he
    subst he
    obtain ⟨k, hk⟩ := List.mem_iff_getElem?.1 hc
    rcases h with ⟨rfl, _, hi⟩ | ⟨i, hi, rfl, _⟩
    · exact Lib.indexByte_none hi k hk
    · rw [List.getElem?_take] at hk
      split at hk
      · rename_i hki
        exact (Lib.indexByte_some hi).2 k hki hk
      · cases hk
  have hl : l = p ∧ r = [] ∨ l = p ++ 58 :: r := by
    rcases h with ⟨rfl, hr, _⟩ | ⟨i, hi, rfl, rfl⟩
    · exact .inl ⟨rfl, hr⟩
    · right
      obtain ⟨hlt, he⟩ := List.getElem?_eq_some_iff.1 (Lib.indexByte_some hi).1
      have := List.drop_eq_getElem_cons hlt
      rw [he] at this
      rw [← this, List.take_append_drop]
  clear h
  cases hall : p.all hstB
  · have hn : nmL p = false := by rw [nmL, hall]; rfl
    rw [hn, if_neg (by simp)]
    obtain ⟨a, c, q, rfl, h2, h3⟩ := bad_byte p hall
    have hc : c ≠ 58 := hp58 c (by simp)
    rcases hl with ⟨rfl, _⟩ | rfl
    · exact host_bad a c q h2 h3 hc
    · rw [List.append_assoc, List.cons_append]
      exact host_bad a c _ h2 h3 hc
  · have ha : ∀ c ∈ p, hstB c = true := List.all_eq_true.1 hall
    by_cases hp0 : p = []
    · subst hp0
      rw [if_neg (by simp [nmL])]
      rcases hl with ⟨rfl, _⟩ | rfl
      · rfl
      · have e : (58 :: r).takeWhile hstB = [] := by rw [List.takeWhile_cons, if_neg (by decide)]
        rw [List.nil_append, hostL, e, if_pos rfl]
    · have hn : nmL p = true := by
        rw [nmL, hall]
        cases p with
        | nil => exact absurd rfl hp0
        | cons c t => rfl
      rw [hn]
      rcases hl with ⟨rfl, rfl⟩ | rfl
      · obtain ⟨h1, h2⟩ := takeWhile_all l ha
        rw [hostL, h1, h2, if_neg hp0, if_pos ⟨rfl, rfl⟩, if_pos (.inl rfl)]
      · obtain ⟨h1, h2⟩ := takeWhile_mid p 58 r ha (by decide)
        rw [hostL, h1, h2, if_neg hp0]
        dsimp only
        have e1 : ((58 : UInt8) != 58 || (!r.isEmpty && !digitsB r) || decide (5 < r.length)) = !prtL r := by
          rw [prtL]
          cases r with
          | nil => rfl
          | cons c t =>
            have e3 : decide (5 < (c :: t).length) = !decide ((c :: t).length ≤ 5) := by
              by_cases h : (c :: t).length ≤ 5
              · rw [decide_eq_true h, decide_eq_false (by omega)]; rfl
              · rw [decide_eq_false h, decide_eq_true (by omega)]; rfl
            rw [e3]
            cases digitsB (c :: t) <;> cases decide ((c :: t).length ≤ 5) <;> rfl
        rw [e1]
        cases hq : prtL r
        · rw [if_pos (by decide), if_neg (by simp)]
        · rw [if_neg (by decide)]
          conv => rhs; rw [if_pos (And.intro rfl rfl)]
          by_cases hr : r = [] ∨ r = [56, 48]
          · rw [if_pos hr, if_pos hr]
          · rw [if_neg hr, if_neg hr]
            have hd : digitsB r = true := by
              rw [prtL] at hq
              cases r with
              | nil => exact absurd (.inl rfl) hr
              | cons c t =>
                simp only [List.isEmpty_cons, Bool.false_or, Bool.and_eq_true] at hq
                exact hq.1
            have hlr : lowL r = r := by
              rw [digitsB, digAll, Bool.and_eq_true, List.all_eq_true] at hd
              rw [lowL]
              refine (List.map_congr_left fun c hc => ?_).trans (List.map_id' r)
              have := (digI_iff _).1 (hd.1 c hc)
              refine lowB_not c ?_
              cases hu : upI (c.toNat : Int)
              · rfl
              · have := (upI_iff _).1 hu
                omega
            have h58 : lowB 58 = 58 := by decide
            rw [show lowL (p ++ 58 :: r) = lowL p ++ lowB 58 :: lowL r by simp [lowL], hlr, h58]

end Go.Proofs.YtbbdifcmhoobaaaGreatDoor
