/- Plain: hosts and letters that are told in other ways are the same. -/
import Derived.Test.YtbbdifcmhoobaaaDoorTgS
namespace Go.Proofs.YtbbdifcmhoobaaaDoor
open Go.RowKit

theorem splN_slash (host r : List UInt8) : splN host (47 :: r) = (host, 47 :: r) := by
  rw [splN, if_neg]
  rintro ⟨_, h⟩
  rw [List.take_succ_cons, lowL, List.map_cons, htpL] at h
  have := (List.cons.inj h).1
  exact absurd this (by decide)
theorem normL_slash (host r : List UInt8) : normL host (47 :: r) = match hostL host, pctL (47 :: r) with
    | some h, some p => some (htpL ++ h ++ pthN p ++ p.dropWhile queB)
    | _, _ => none := by
  rw [normL, splN_slash]
  dsimp only
  cases hostL host <;> cases pctL (47 :: r) <;> simp
/-- A small letter told by percent is the letter. -/
theorem pct_letter (c a b : UInt8) (r : List UInt8) (hc : 97 ≤ c.toNat ∧ c.toNat ≤ 122) (ha : hxN a = c.toNat / 16) (hb : hxN b = c.toNat % 16) : pctL (37 :: a :: b :: r) = pctL (c :: r) := by
  have hp : plnB c = true := by
    have : ∀ x : Fin 256, 97 ≤ x.val.toUInt8.toNat ∧ x.val.toUInt8.toNat ≤ 122 → plnB x.val.toUInt8 = true := by decide +kernel
    have h2 := this ⟨c.toNat, UInt8.toNat_lt c⟩
    simpa using h2 (by simpa using hc)
  obtain ⟨g1, g2⟩ := pln_pct c hp
  have hn : UInt8.ofNat (16 * hxN a + hxN b) = c := by
    rw [ha, hb, show 16 * (c.toNat / 16) + c.toNat % 16 = c.toNat by omega]
    simp
  have hx : hx2 (a :: b :: r) = true := by
    have h1 : hxN a < 16 := by omega
    have h2 : hxN b < 16 := by omega
    simp [hx2, h1, h2]
  have hu : pctU a b = [c] := by rw [pctU, hn, if_pos hp]
  rw [pctL_pct, if_pos hx, pctL_cons c r g2, if_neg (by rw [g1]; decide), show (a :: b :: r).drop 2 = r from rfl, show (a :: b :: r).getD 0 0 = a from rfl, show (a :: b :: r).getD 1 0 = b from rfl, hu]
  rfl
theorem pct_slash (r : List UInt8) : pctL (47 :: r) = (pctL r).map (47 :: ·) := by
  rw [pctL_cons 47 r (by decide), if_neg (by decide)]
/-- A host of other letters, or with its own port told, is the same; so is a byte that is told by percent. -/
theorem norm_same (l path x : List UInt8) (c a b : UInt8) (h : ∀ c ∈ l, 97 ≤ c.toNat ∧ c.toNat ≤ 122) (hn : l ≠ []) (hc : 97 ≤ c.toNat ∧ c.toNat ≤ 122) (ha : hxN a = c.toNat / 16) (hb : hxN b = c.toNat % 16) :
    normL (l.map (fun c => c - 32) ++ [58, 56, 48]) (47 :: 37 :: a :: b :: path) = normL l (47 :: c :: path) ∧
    normL x ([72, 84, 84, 80, 58, 47, 47] ++ l ++ [58] ++ 47 :: c :: path) = normL l (47 :: c :: path) := by
  obtain ⟨h1, h2, h3⟩ := host_great l h hn
  refine ⟨?_, ?_⟩
  · rw [normL_slash, normL_slash, h1, h2, pct_slash, pct_slash, pct_letter c a b path hc ha hb]
  · have hall : ∀ y ∈ l ++ [58], endB y = true := fun y hy => by
      rcases List.mem_append.1 hy with hy | hy
      · have h5 := h y hy
        have h6 : y ≠ 47 := fun he => by rw [he] at h5; exact absurd h5.1 (by decide)
        have h7 : y ≠ 63 := fun he => by rw [he] at h5; exact absurd h5.1 (by decide)
        simp [endB, h6, h7]
      · rw [List.mem_singleton] at hy
        subst hy
        decide
    have hs : splN x ([72, 84, 84, 80, 58, 47, 47] ++ l ++ [58] ++ 47 :: c :: path) = (l ++ [58], 47 :: c :: path) := by
      have e : [72, 84, 84, 80, 58, 47, 47] ++ l ++ [58] ++ 47 :: c :: path = [72, 84, 84, 80, 58, 47, 47] ++ ((l ++ [58]) ++ 47 :: c :: path) := by simp
      rw [e, splN, if_pos ⟨by simp, by rfl⟩]
      show (List.takeWhile endB ((l ++ [58]) ++ 47 :: c :: path), List.dropWhile endB ((l ++ [58]) ++ 47 :: c :: path)) = _
      obtain ⟨t1, t2⟩ := takeWhile_mid (l ++ [58]) 47 (c :: path) hall (by decide)
      rw [t1, t2]
    rw [normL, hs, normL_slash, h1]
    dsimp only
    rw [h3]
    cases pctL (47 :: c :: path) <;> simp

end Go.Proofs.YtbbdifcmhoobaaaDoor
