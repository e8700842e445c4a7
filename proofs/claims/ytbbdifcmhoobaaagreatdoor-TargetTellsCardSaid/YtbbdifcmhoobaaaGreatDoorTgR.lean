/- Plain: paths without dots. -/
import Derived.Test.YtbbdifcmhoobaaaGreatDoorBasP
namespace Go.Proofs.YtbbdifcmhoobaaaGreatDoor
open Go.RowKit

/-- The parts of a text between its slashes, behind one begun. -/
def partsG : List UInt8 → List UInt8 → List (List UInt8)
  | [], cur => [cur]
  | c :: r, cur => if c = 47 then cur :: partsG r [] else partsG r (cur ++ [c])
def partsL (l : List UInt8) : List (List UInt8) := partsG l []
def dotS (s : List UInt8) : Bool := s == [46] || s == [46, 46]
/-- A part more, behind those kept. -/
def keepS (k : List (List UInt8)) (s : List UInt8) : List (List UInt8) := if s = [46] then k else if s = [46, 46] then k.dropLast else k ++ [s]
def keepL (ps : List (List UInt8)) : List (List UInt8) := ps.foldl keepS []
def outL : List (List UInt8) → List UInt8
  | [] => []
  | s :: ks => 47 :: s ++ outL ks
/-- The parts that are kept of a path behind its first slash. -/
def kptL (r : List UInt8) : List (List UInt8) := keepL (partsL r) ++ (if dotS ((partsL r).getLastD []) = true then [[]] else [])
/-- A path without dots. -/
def dotsL : List UInt8 → List UInt8
  | [] => []
  | c :: r => if c = 47 then (if kptL r = [] then [47] else outL (kptL r)) else c :: r

theorem partsG_ne : ∀ (l cur : List UInt8), partsG l cur ≠ []
  | [], cur => by simp [partsG]
  | c :: r, cur => by
    rw [partsG]
    split
    · simp
    · exact partsG_ne r _
theorem partsG_slash : ∀ (l cur : List UInt8), (∀ c ∈ cur, c ≠ 47) → ∀ s ∈ partsG l cur, ∀ c ∈ s, c ≠ 47
  | [], cur, h, s, hs => by
    rw [partsG, List.mem_singleton] at hs
    subst hs
    exact h
  | x :: r, cur, h, s, hs => by
    rw [partsG] at hs
    split at hs
    · rcases List.mem_cons.1 hs with rfl | hs
      · exact h
      · exact partsG_slash r [] (by simp) s hs
    · rename_i hx
      refine partsG_slash r _ (fun c hc => ?_) s hs
      rcases List.mem_append.1 hc with hc | hc
      · exact h c hc
      · rw [List.mem_singleton] at hc
        subst hc
        exact hx
theorem partsG_app : ∀ (p cur r : List UInt8), (∀ c ∈ p, c ≠ 47) → partsG (p ++ 47 :: r) cur = (cur ++ p) :: partsL r
  | [], cur, r, _ => by
    rw [List.nil_append, partsG, if_pos rfl, List.append_nil]
    rfl
  | c :: p, cur, r, h => by
    rw [List.cons_append, partsG, if_neg (h c (List.mem_cons_self ..)), partsG_app p _ r fun x hx => h x (List.mem_cons_of_mem _ hx)]
    simp
theorem partsG_end : ∀ (p cur : List UInt8), (∀ c ∈ p, c ≠ 47) → partsG p cur = [cur ++ p]
  | [], cur, _ => by rw [partsG, List.append_nil]
  | c :: p, cur, h => by
    rw [partsG, if_neg (h c (List.mem_cons_self ..)), partsG_end p _ fun x hx => h x (List.mem_cons_of_mem _ hx)]
    simp
/-- Joined parts come apart again. -/
theorem parts_out : ∀ (s : List UInt8) (ks : List (List UInt8)), (∀ t ∈ s :: ks, ∀ c ∈ t, c ≠ 47) → partsL (s ++ outL ks) = s :: ks
  | s, [], h => by
    rw [outL, List.append_nil, partsL, partsG_end s [] (h s (List.mem_cons_self ..)), List.nil_append]
  | s, t :: ks, h => by
    rw [outL, List.cons_append, partsL, partsG_app s [] _ (h s (List.mem_cons_self ..)), parts_out t ks fun u hu => h u (List.mem_cons_of_mem _ hu), List.nil_append]
theorem keepS_dot (k : List (List UInt8)) (s : List UInt8) (h : ∀ t ∈ k, dotS t = false) : ∀ t ∈ keepS k s, dotS t = false := by
  intro t ht
  unfold keepS at ht
  split at ht
  · exact h t ht
  · split at ht
    · exact h t ((List.dropLast_sublist k).subset ht)
    · rename_i h1 h2
      rcases List.mem_append.1 ht with ht | ht
      · exact h t ht
      · rw [List.mem_singleton] at ht
        subst ht
        rw [dotS, Bool.or_eq_false_iff]
        exact ⟨by simpa using h1, by simpa using h2⟩
theorem keep_dot : ∀ (ps k : List (List UInt8)), (∀ t ∈ k, dotS t = false) → ∀ t ∈ ps.foldl keepS k, dotS t = false
  | [], _, h => h
  | s :: ps, k, h => keep_dot ps _ (keepS_dot k s h)
theorem keep_mem : ∀ (ps k : List (List UInt8)), ∀ t ∈ ps.foldl keepS k, t ∈ k ∨ t ∈ ps
  | [], _, t, h => .inl h
  | s :: ps, k, t, h => by
    rcases keep_mem ps _ t h with h | h
    · unfold keepS at h
      split at h
      · exact .inl h
      · split at h
        · exact .inl ((List.dropLast_sublist k).subset h)
        · rcases List.mem_append.1 h with h | h
          · exact .inl h
          · rw [List.mem_singleton] at h
            subst h
            exact .inr (List.mem_cons_self ..)
    · exact .inr (List.mem_cons_of_mem _ h)
theorem keep_same : ∀ (ps k : List (List UInt8)), (∀ t ∈ ps, dotS t = false) → ps.foldl keepS k = k ++ ps
  | [], k, _ => by simp
  | s :: ps, k, h => by
    have hs := h s (List.mem_cons_self ..)
    rw [dotS, Bool.or_eq_false_iff] at hs
    have e : keepS k s = k ++ [s] := by
      rw [keepS, if_neg (by simpa using hs.1), if_neg (by simpa using hs.2)]
    rw [List.foldl_cons, e, keep_same ps _ fun t ht => h t (List.mem_cons_of_mem _ ht)]
    simp
theorem kpt_ok (r : List UInt8) : ∀ t ∈ kptL r, dotS t = false ∧ ∀ c ∈ t, c ≠ 47 := by
  intro t ht
  unfold kptL at ht
  rcases List.mem_append.1 ht with ht | ht
  · refine ⟨keep_dot _ _ (by simp) t ht, ?_⟩
    rcases keep_mem _ _ t ht with h | h
    · cases h
    · exact partsG_slash r [] (by simp) t h
  · split at ht
    · rw [List.mem_singleton] at ht
      subst ht
      exact ⟨rfl, by simp⟩
    · cases ht
/-- What a path without dots is: parts, of which none is a dot or two, and none has a slash. -/
theorem dots_form (r : List UInt8) : ∃ (s : List UInt8) (ks : List (List UInt8)), dotsL (47 :: r) = outL (s :: ks) ∧ ∀ t ∈ s :: ks, dotS t = false ∧ ∀ c ∈ t, c ≠ 47 := by
  rw [dotsL, if_pos rfl]
  cases h : kptL r with
  | nil => exact ⟨[], [], by rw [if_pos rfl]; rfl, by simp [dotS]⟩
  | cons s ks =>
    refine ⟨s, ks, by rw [if_neg (by simp)], fun t ht => kpt_ok r t (by rw [h]; exact ht)⟩
theorem dots_out (s : List UInt8) (ks : List (List UInt8)) (h : ∀ t ∈ s :: ks, dotS t = false ∧ ∀ c ∈ t, c ≠ 47) : dotsL (outL (s :: ks)) = outL (s :: ks) := by
  have hp : partsL (s ++ outL ks) = s :: ks := parts_out s ks fun t ht => (h t ht).2
  have hk : kptL (s ++ outL ks) = s :: ks := by
    have hl : dotS ((s :: ks).getLastD []) = false := by
      have : (s :: ks).getLastD [] ∈ s :: ks := by
        rw [List.getLastD_eq_getLast?, List.getLast?_eq_some_getLast (List.cons_ne_nil s ks), Option.getD_some]
        exact List.getLast_mem _
      exact (h _ this).1
    rw [kptL, hp, hl, keepL, keep_same _ _ fun t ht => (h t ht).1]
    simp
  show dotsL (47 :: (s ++ outL ks)) = _
  rw [dotsL, if_pos rfl, hk, if_neg (by simp)]
/-- A path without dots stays. -/
theorem dots_stays (r : List UInt8) : dotsL (dotsL (47 :: r)) = dotsL (47 :: r) := by
  obtain ⟨s, ks, h1, h2⟩ := dots_form r
  rw [h1]
  exact dots_out s ks h2
/-- A part more that is none, ahead of two dots, changes nothing; nor does a dot. -/
theorem dots_up (p r : List UInt8) (hp : ∀ c ∈ p, c ≠ 47) (hd : dotS p = false) : dotsL (47 :: p ++ [47, 46, 46] ++ 47 :: r) = dotsL (47 :: r) := by
  have e1 : partsL (p ++ [47, 46, 46] ++ 47 :: r) = p :: [46, 46] :: partsL r := by
    rw [show p ++ [47, 46, 46] ++ 47 :: r = p ++ 47 :: ([46, 46] ++ 47 :: r) by simp, partsL, partsG_app p [] _ hp, partsL, partsG_app [46, 46] [] r (by decide)]
    simp
  have hs := hd
  rw [dotS, Bool.or_eq_false_iff] at hs
  have e2 : kptL (p ++ [47, 46, 46] ++ 47 :: r) = kptL r := by
    have hne := partsG_ne r []
    have e3 : keepS [] p = [p] := by rw [keepS, if_neg (by simpa using hs.1), if_neg (by simpa using hs.2)]; rfl
    have e4 : keepS [p] [46, 46] = [] := by rw [keepS, if_neg (by decide), if_pos rfl]; rfl
    rw [kptL, e1, keepL, List.foldl_cons, List.foldl_cons, e3, e4, kptL, keepL]
    cases hr : partsL r with
    | nil => exact absurd hr hne
    | cons a b => rfl
  show dotsL (47 :: (p ++ [47, 46, 46] ++ 47 :: r)) = _
  rw [dotsL, if_pos rfl, e2, dotsL, if_pos rfl]
theorem dots_one (r : List UInt8) : dotsL (47 :: 46 :: 47 :: r) = dotsL (47 :: r) := by
  have e1 : partsL (46 :: 47 :: r) = [46] :: partsL r := by
    rw [show 46 :: 47 :: r = [46] ++ 47 :: r from rfl, partsL, partsG_app [46] [] r (by decide)]
    rfl
  have e2 : kptL (46 :: 47 :: r) = kptL r := by
    have hne := partsG_ne r []
    have e3 : keepS [] [46] = [] := by rw [keepS, if_pos rfl]
    rw [kptL, e1, keepL, List.foldl_cons, e3, kptL, keepL]
    cases hr : partsL r with
    | nil => exact absurd hr hne
    | cons a b => rfl
  rw [dotsL, if_pos rfl, e2, dotsL, if_pos rfl]

end Go.Proofs.YtbbdifcmhoobaaaGreatDoor
