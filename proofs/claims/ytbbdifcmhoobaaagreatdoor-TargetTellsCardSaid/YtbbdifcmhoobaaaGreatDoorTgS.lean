/- Plain: no part of a path without dots is one; a name of great letters is the same host. -/
import Derived.Test.YtbbdifcmhoobaaaGreatDoorTgN
namespace Go.Proofs.YtbbdifcmhoobaaaGreatDoor
open Go.RowKit

/-! What TargetDots and TargetSame ask besides. -/
theorem partsG_split : ∀ (a cur r : List UInt8), partsG (a ++ 47 :: r) cur = partsG a cur ++ partsL r
  | [], cur, r => by
    rw [List.nil_append, show partsG (47 :: r) cur = cur :: partsG r [] from by rw [partsG, if_pos rfl], show partsG [] cur = [cur] from rfl, partsL]
    rfl
  | x :: a, cur, r => by
    rw [List.cons_append, partsG, partsG]
    split
    · rw [partsG_split a [] r, List.cons_append]
    · exact partsG_split a _ r
theorem outL_snoc : ∀ (ks : List (List UInt8)) (t : List UInt8), outL (ks ++ [t]) = outL ks ++ 47 :: t
  | [], t => by simp [outL]
  | s :: ks, t => by rw [List.cons_append, outL, outL, outL_snoc ks t]; simp
theorem no_dot_mem {ks : List (List UInt8)} (h : ∀ t ∈ ks, dotS t = false ∧ ∀ c ∈ t, c ≠ 47) (hd : List UInt8) (hdot : dotS hd = true) (hs : ∀ c ∈ hd, c ≠ 47) (a b : List UInt8) : outL ks ++ [47] ≠ a ++ 47 :: (hd ++ 47 :: b) := by
  intro he
  have h1 : partsL (outL ks ++ [47]) = [] :: (ks ++ [[]]) := by
    rw [← outL_snoc]
    exact parts_out [] (ks ++ [[]]) fun t ht => by
      rcases List.mem_cons.1 ht with rfl | ht
      · exact fun c hc => by cases hc
      · rcases List.mem_append.1 ht with ht | ht
        · exact (h t ht).2
        · rw [List.mem_singleton] at ht
          subst ht
          exact fun c hc => by cases hc
  have h2 : hd ∈ partsL (outL ks ++ [47]) := by
    rw [he, partsL, partsG_split, partsL, partsG_app hd [] b hs]
    exact List.mem_append.2 (.inr (by rw [List.nil_append]; exact List.mem_cons_self ..))
  rw [h1] at h2
  have h3 : dotS hd = false := by
    rcases List.mem_cons.1 h2 with rfl | h2
    · rfl
    · rcases List.mem_append.1 h2 with h2 | h2
      · exact (h hd h2).1
      · rw [List.mem_singleton] at h2
        subst h2
        rfl
  rw [h3] at hdot
  cases hdot
theorem at_split {l : List UInt8} {i : Nat} {c : UInt8} (h : l[i]? = some c) : l = l.take i ++ c :: l.drop (i + 1) := by
  obtain ⟨h1, h2⟩ := List.getElem?_eq_some_iff.1 h
  rw [← h2, ← List.drop_eq_getElem_cons h1, List.take_append_drop]
/-- Nowhere in a path without dots, with a slash behind it, is a part of a dot. -/
theorem no_dot_one (r : List UInt8) (i : Nat) (h0 : (dotsL (47 :: r) ++ [47])[i]? = some 47) (h1 : (dotsL (47 :: r) ++ [47])[i + 1]? = some 46) : (dotsL (47 :: r) ++ [47])[i + 2]? ≠ some 47 := by
  intro h2
  obtain ⟨s, ks, e, hk⟩ := dots_form r
  rw [e] at h0 h1 h2
  have s0 := at_split h0
  have g1 : ((outL (s :: ks) ++ [47]).drop (i + 1))[0]? = some 46 := by rw [List.getElem?_drop]; exact h1
  have s1 := at_split g1
  have g2 : (((outL (s :: ks) ++ [47]).drop (i + 1)).drop (0 + 1))[0]? = some 47 := by rw [List.getElem?_drop, List.getElem?_drop]; exact h2
  have s2 := at_split g2
  rw [List.take_zero, List.nil_append] at s1 s2
  rw [s2] at s1
  rw [s1] at s0
  exact no_dot_mem hk [46] rfl (by decide) _ _ s0
theorem no_dot_two (r : List UInt8) (i : Nat) (h0 : (dotsL (47 :: r) ++ [47])[i]? = some 47) (h1 : (dotsL (47 :: r) ++ [47])[i + 1]? = some 46) (h2 : (dotsL (47 :: r) ++ [47])[i + 2]? = some 46) : (dotsL (47 :: r) ++ [47])[i + 3]? ≠ some 47 := by
  intro h3
  obtain ⟨s, ks, e, hk⟩ := dots_form r
  rw [e] at h0 h1 h2 h3
  have s0 := at_split h0
  have g1 : ((outL (s :: ks) ++ [47]).drop (i + 1))[0]? = some 46 := by rw [List.getElem?_drop]; exact h1
  have s1 := at_split g1
  have g2 : (((outL (s :: ks) ++ [47]).drop (i + 1)).drop (0 + 1))[0]? = some 46 := by rw [List.getElem?_drop, List.getElem?_drop]; exact h2
  have s2 := at_split g2
  have g3 : ((((outL (s :: ks) ++ [47]).drop (i + 1)).drop (0 + 1)).drop (0 + 1))[0]? = some 47 := by rw [List.getElem?_drop, List.getElem?_drop, List.getElem?_drop]; exact h3
  have s3 := at_split g3
  rw [List.take_zero, List.nil_append] at s1 s2 s3
  rw [s3] at s2
  rw [s2] at s1
  rw [s1] at s0
  exact no_dot_mem hk [46, 46] rfl (by decide) _ _ s0
/-- A name of small letters, told with great ones and its port, is the same host. -/
theorem host_great (l : List UInt8) (h : ∀ c ∈ l, 97 ≤ c.toNat ∧ c.toNat ≤ 122) (hn : l ≠ []) : hostL l = some l ∧ hostL (l.map (fun c => c - 32) ++ [58, 56, 48]) = some l ∧ hostL (l ++ [58]) = some l := by
  have f1 : ∀ c : UInt8, 97 ≤ c.toNat ∧ c.toNat ≤ 122 → hstB c = true ∧ lowB c = c ∧ hstB (c - 32) = true ∧ lowB (c - 32) = c := by
    intro c hc
    have : ∀ x : Fin 256, 97 ≤ x.val.toUInt8.toNat ∧ x.val.toUInt8.toNat ≤ 122 → hstB x.val.toUInt8 = true ∧ lowB x.val.toUInt8 = x.val.toUInt8 ∧ hstB (x.val.toUInt8 - 32) = true ∧ lowB (x.val.toUInt8 - 32) = x.val.toUInt8 := by decide +kernel
    have h2 := this ⟨c.toNat, UInt8.toNat_lt c⟩
    simpa using h2 (by simpa using hc)
  have e1 : lowL l = l := by
    rw [lowL]
    exact (List.map_congr_left fun c hc => (f1 c (h c hc)).2.1).trans (List.map_id' l)
  have e2 : lowL (l.map fun c => c - 32) = l := by
    rw [lowL, List.map_map]
    exact (List.map_congr_left fun c hc => (f1 c (h c hc)).2.2.2).trans (List.map_id' l)
  have a1 : ∀ c ∈ l, hstB c = true := fun c hc => (f1 c (h c hc)).1
  have a2 : ∀ c ∈ l.map (fun c => c - 32), hstB c = true := fun c hc => by
    obtain ⟨x, hx, rfl⟩ := List.mem_map.1 hc
    exact (f1 x (h x hx)).2.2.1
  have hn2 : l.map (fun c => c - 32) ≠ [] := fun h2 => hn (List.map_eq_nil_iff.1 h2)
  refine ⟨?_, ?_, ?_⟩
  · obtain ⟨t1, t2⟩ := takeWhile_all l a1
    rw [hostL, t1, t2, if_neg hn, e1]
  · obtain ⟨t1, t2⟩ := takeWhile_mid (l.map fun c => c - 32) 58 [56, 48] a2 (by decide)
    rw [hostL, t1, t2, if_neg hn2]
    dsimp only
    rw [if_neg (by decide), if_pos (.inr rfl), e2]
  · obtain ⟨t1, t2⟩ := takeWhile_mid l 58 [] a1 (by decide)
    rw [hostL, t1, t2, if_neg hn]
    dsimp only
    rw [if_neg (by decide), if_pos (.inl rfl), e1]

end Go.Proofs.YtbbdifcmhoobaaaGreatDoor
