/- Plain: paths cut at their slashes, the parts that are kept, and joined again. -/
import Derived.Test.YtbbdifcmhoobaaaGreatDoorTgR
import Derived.Lib.SplitLaws
import Derived.Lib.IndexBytes
import Derived.Lib.Join
import Derived.Lib.SlBy
namespace Go.Proofs.YtbbdifcmhoobaaaGreatDoor
open Go.RowKit

theorem index_slash : ∀ l : List UInt8, (Lib.indexByte l 47 = -1 ∧ ∀ c ∈ l, c ≠ 47) ∨ ∃ p r, l = p ++ 47 :: r ∧ (∀ c ∈ p, c ≠ 47) ∧ Lib.indexByte l 47 = (p.length : Int)
  | [] => .inl ⟨rfl, by simp⟩
  | c :: l => by
    by_cases hc : c = 47
    · subst hc
      exact .inr ⟨[], l, rfl, by simp, by simp [Lib.indexByte]⟩
    · have hb : (c == 47) = false := by simpa using hc
      rcases index_slash l with ⟨h1, h2⟩ | ⟨p, r, h1, h2, h3⟩
      · refine .inl ⟨by rw [Lib.indexByte, hb, h1]; rfl, fun x hx => ?_⟩
        rcases List.mem_cons.1 hx with rfl | hx
        · exact hc
        · exact h2 x hx
      · refine .inr ⟨c :: p, r, by rw [h1]; rfl, fun x hx => ?_, ?_⟩
        · rcases List.mem_cons.1 hx with rfl | hx
          · exact hc
          · exact h2 x hx
        · have hne : ((p.length : Int) == -1) = false := by simp
          rw [Lib.indexByte, hb, h3, if_neg (by decide), if_neg (by rw [hne]; decide), List.length_cons]
          omega
theorem splitK_parts : ∀ (k : Nat) (l : List UInt8), l.count 47 ≤ k → Lib.splitK [47] 0 k l = partsL l := by
  intro k
  induction k with
  | zero =>
    intro l h
    have h2 : ∀ c ∈ l, c ≠ 47 := fun c hc he => by
      subst he
      have := List.count_pos_iff.2 hc
      omega
    rw [Lib.splitK, partsL, partsG_end l [] h2, List.nil_append]
  | succ k ih =>
    intro l h
    rw [Lib.splitK, Lib.index_one]
    rcases index_slash l with ⟨h1, h2⟩ | ⟨p, r, rfl, h2, h3⟩
    · rw [h1, if_pos (by decide), partsL, partsG_end l [] h2, List.nil_append]
    · have hne : ((p.length : Int) == -1) = false := by simp
      rw [h3, hne, if_neg (by decide), partsL, partsG_app p [] r h2, List.nil_append]
      rw [List.count_append, List.count_cons_self] at h
      have e1 : (p ++ 47 :: r).take ((p.length : Int).toNat + 0) = p := by simp
      have e2 : (p ++ 47 :: r).drop ((p.length : Int).toNat + [(47 : UInt8)].length) = r := by
        rw [Int.toNat_natCast, show p ++ 47 :: r = (p ++ [47]) ++ r by simp]
        rw [show p.length + [(47 : UInt8)].length = (p ++ [47]).length by simp]
        exact List.drop_left
      rw [e1, e2, ih r (by omega)]
theorem split_parts (l : List UInt8) : Lib.split l [47] = partsL l := by
  rw [Lib.split, Lib.count_one]
  exact splitK_parts _ l (Nat.le_refl _)

/-- The parts of a joined row, each behind a slash. -/
theorem join_tail : ∀ ps : List (List UInt8), Lib.joinTail [47] ps = outL ps
  | [] => rfl
  | p :: ps => by
    have := join_tail ps
    unfold Lib.joinTail at this ⊢
    rw [List.map_cons, List.flatten_cons, this, outL]
    rfl
theorem join_out (p : List UInt8) (ps : List (List UInt8)) : 47 :: Lib.join (p :: ps) [47] = outL (p :: ps) := by
  rw [Lib.join_cons, join_tail, outL]
  rfl
theorem join_nil : Lib.join ([] : List (List UInt8)) [47] = [] := rfl
/-- A path without dots, by its joined parts. -/
theorem dots_join (r : List UInt8) : 47 :: Lib.join (kptL r) [47] = dotsL (47 :: r) := by
  rw [dotsL, if_pos rfl]
  cases h : kptL r with
  | nil => rw [if_pos rfl]; rfl
  | cons p ps => rw [if_neg (by simp)]; exact join_out p ps

/-- Where the first dots stand. -/
theorem kept_ahead (ps qs : List (List UInt8)) (h : ∀ t ∈ ps, dotS t = false) : keepL (ps ++ qs) = qs.foldl keepS ps := by
  rw [keepL, List.foldl_append, keep_same ps [] h, List.nil_append]
theorem kpt_none (r : List UInt8) (h : ∀ t ∈ partsL r, dotS t = false) : kptL r = partsL r := by
  have hl : dotS ((partsL r).getLastD []) = false := by
    cases hp : partsL r with
    | nil => rfl
    | cons s ks =>
      have : (s :: ks).getLastD [] ∈ s :: ks := by
        rw [List.getLastD_eq_getLast?, List.getLast?_eq_some_getLast (List.cons_ne_nil s ks), Option.getD_some]
        exact List.getLast_mem _
      rw [hp] at h
      exact h _ this
  rw [kptL, hl, keepL, keep_same _ _ h]
  simp
theorem keepS_len (k : List (List UInt8)) (s : List UInt8) : (keepS k s).length ≤ k.length + 1 := by
  unfold keepS
  split
  · omega
  · split
    · rw [List.length_dropLast]; omega
    · simp
theorem kept_len : ∀ (ps k : List (List UInt8)), (ps.foldl keepS k).length ≤ k.length + ps.length
  | [], k => by simp
  | s :: ps, k => by
    have h1 := kept_len ps (keepS k s)
    have h2 := keepS_len k s
    rw [List.foldl_cons, List.length_cons]
    omega
theorem partsG_len : ∀ (l cur : List UInt8), (partsG l cur).length ≤ l.length + 1
  | [], cur => by simp [partsG]
  | c :: r, cur => by
    rw [partsG]
    split
    · rw [List.length_cons, List.length_cons]
      have := partsG_len r []
      omega
    · rw [List.length_cons]
      have := partsG_len r (cur ++ [c])
      omega
/-- How long the parts are together. -/
def lensP : List (List UInt8) → Nat
  | [] => 0
  | p :: ps => p.length + 1 + lensP ps
theorem lensP_app : ∀ ps qs : List (List UInt8), lensP (ps ++ qs) = lensP ps + lensP qs
  | [], qs => by simp [lensP]
  | p :: ps, qs => by rw [List.cons_append, lensP, lensP, lensP_app ps qs]; omega
theorem outL_len : ∀ ps : List (List UInt8), (outL ps).length = lensP ps
  | [] => rfl
  | p :: ps => by rw [outL, lensP, List.cons_append, List.length_cons, List.length_append, outL_len ps]; omega
theorem partsG_lens : ∀ (l cur : List UInt8), lensP (partsG l cur) = l.length + 1 + cur.length
  | [], cur => by simp [partsG, lensP]; omega
  | c :: r, cur => by
    rw [partsG]
    split
    · rw [lensP, partsG_lens r [], List.length_cons, List.length_nil]; omega
    · rw [partsG_lens r (cur ++ [c]), List.length_append, List.length_cons, List.length_cons, List.length_nil]; omega
theorem lensP_pop (ps : List (List UInt8)) : lensP ps.dropLast ≤ lensP ps := by
  rcases List.eq_nil_or_concat ps with rfl | ⟨qs, q, rfl⟩
  · exact Nat.le_refl _
  · have e : (qs ++ [q]).dropLast = qs := by simp
    rw [List.concat_eq_append, e, lensP_app]; omega
theorem keepS_lens (k : List (List UInt8)) (s : List UInt8) : lensP (keepS k s) ≤ lensP k + (s.length + 1) := by
  unfold keepS
  split
  · omega
  · split
    · have := lensP_pop k; omega
    · rw [lensP_app]; simp [lensP]
theorem kept_lens : ∀ (ps k : List (List UInt8)), lensP (ps.foldl keepS k) ≤ lensP k + lensP ps
  | [], k => by simp [lensP]
  | s :: ps, k => by
    have h1 := kept_lens ps (keepS k s)
    have h2 := keepS_lens k s
    rw [List.foldl_cons, lensP]
    omega
theorem dots_len (l : List UInt8) : (dotsL l).length ≤ l.length + 1 := by
  cases l with
  | nil => simp [dotsL]
  | cons c r =>
    rw [dotsL]
    split
    · split
      · simp
      · rw [outL_len, kptL, lensP_app]
        have h1 := kept_lens (partsL r) []
        rw [partsL, partsG_lens] at h1
        rw [keepL, partsL]
        simp only [lensP, List.length_nil] at h1
        split
        · simp only [lensP, List.length_nil, List.length_cons]; omega
        · simp only [lensP, List.length_cons]; omega
    · omega

end Go.Proofs.YtbbdifcmhoobaaaGreatDoor
