/- Plain: what the document's own reader of dates reads at places, and that it reads the same dates. -/
import Derived.Test.YtfabkceefigmhaaDoorDatR
import Derived.Test.YtfabkceefigmhaaDoorDatA
namespace Go.Proofs.YtfabkceefigmhaaDoor

/-- The number of so many digits at a place; less than nothing where there are none. -/
def dgV (l : List UInt8) (i k : Nat) : Int := if decide (i + k ≤ l.length) && ((l.drop i).take k).all dgt then (valL ((l.drop i).take k) : Nat) else -1
/-- The month whose name stands at a place; nought where there is none. -/
def whG (p : List UInt8) : Nat → Nat → Nat
  | _, 0 => 0
  | a, k + 1 => if p = moT a then a else whG p (a + 1) k
def whV (l : List UInt8) (i : Nat) : Nat := whG ((l.drop i).take 3) 1 12
/-- Times of day at a place. -/
def tdV (l : List UInt8) (i : Nat) : Bool := decide (0 ≤ dgV l i 2 ∧ dgV l i 2 ≤ 23 ∧ 0 ≤ dgV l (i + 3) 2 ∧ dgV l (i + 3) 2 ≤ 59 ∧ 0 ≤ dgV l (i + 6) 2 ∧ dgV l (i + 6) 2 ≤ 59)
/-- The seconds that a text may tell. -/
def guV (l : List UInt8) (Y : Int) (mon : Nat) (D : Int) (ck : Nat) : Option Nat :=
  if 0 ≤ D ∧ dayI Y (whV l mon) D = true ∧ tdV l ck = true then
    some (86400 * daysN Y.toNat (whV l mon) D.toNat + (3600 * (dgV l ck 2).toNat + 60 * (dgV l (ck + 3) 2).toNat + (dgV l (ck + 6) 2).toNat))
  else none

theorem take_drop_at {A B C l : List UInt8} {i k : Nat} (hl : l = A ++ (B ++ C)) (hi : A.length = i) (hk : B.length = k) : (l.drop i).take k = B ∧ i + k ≤ l.length := by
  subst hl hi hk
  rw [List.drop_left, List.take_left]
  exact ⟨rfl, by simp⟩
theorem dg_at {A C l : List UInt8} {i k n : Nat} (hl : l = A ++ (padL k n ++ C)) (hi : A.length = i) (hn : n < 10 ^ k) : dgV l i k = (n : Int) := by
  obtain ⟨e, h⟩ := take_drop_at hl hi (padL_length k n)
  unfold dgV
  rw [e, padL_all, valL_padL k n hn, if_pos (by simpa using h)]
theorem dg_range (l : List UInt8) (i k : Nat) : -1 ≤ dgV l i k ∧ dgV l i k < 10 ^ k := by
  unfold dgV
  have h1 : (0 : Int) < 10 ^ k := Int.pow_pos (by omega)
  split
  · rename_i h
    simp only [Bool.and_eq_true, decide_eq_true_eq] at h
    have := (padL_valL k ((l.drop i).take k) (by rw [List.length_take, List.length_drop]; omega) h.2).2
    have h2 : ((valL ((l.drop i).take k) : Nat) : Int) < ((10 ^ k : Nat) : Int) := by exact_mod_cast this
    rw [Int.natCast_pow] at h2
    exact ⟨by omega, h2⟩
  · exact ⟨by omega, by omega⟩
theorem wh_names : ∀ j : Fin 13, 1 ≤ j.val → whG (moT j.val) 1 12 = j.val := by decide +kernel
theorem wh_at {A C l : List UInt8} {i m : Nat} (hl : l = A ++ (moT m ++ C)) (hi : A.length = i) (h1 : 1 ≤ m) (h2 : m < 13) : whV l i = m := by
  obtain ⟨e, _⟩ := take_drop_at hl hi (len_mo m h1 h2)
  unfold whV
  rw [e]
  exact wh_names ⟨m, h2⟩ h1
theorem whG_range (p : List UInt8) : ∀ k a, whG p a k < a + k ∨ whG p a k = 0
  | 0, _ => .inr rfl
  | k + 1, a => by
    rw [whG]
    split
    · exact .inl (by omega)
    · rcases whG_range p k (a + 1) with h | h
      · exact .inl (by omega)
      · exact .inr h
theorem wh_range (l : List UInt8) (i : Nat) : whV l i ≤ 12 := by
  have := whG_range ((l.drop i).take 3) 12 1
  unfold whV
  omega

theorem ck_at {A C l : List UInt8} {i c : Nat} (hl : l = A ++ (ckT c ++ C)) (hi : A.length = i) (hc : c < 86400) : dgV l i 2 = (c / 3600 : Nat) ∧ dgV l (i + 3) 2 = (c % 3600 / 60 : Nat) ∧ dgV l (i + 6) 2 = (c % 60 : Nat) := by
  refine ⟨dg_at (A := A) (C := [58] ++ (padL 2 (c % 3600 / 60) ++ ([58] ++ padL 2 (c % 60))) ++ C) ?_ hi (by omega), dg_at (A := A ++ (padL 2 (c / 3600) ++ [58])) (C := [58] ++ padL 2 (c % 60) ++ C) ?_ (by simp [padL_length, hi]) (by omega), dg_at (A := A ++ (padL 2 (c / 3600) ++ ([58] ++ (padL 2 (c % 3600 / 60) ++ [58])))) (C := C) ?_ (by simp [padL_length, hi]) (by omega)⟩
  all_goals (rw [hl]; simp [ckT])
theorem gu_eval {l : List UInt8} {Y D : Int} {mon ck y m d c : Nat} (hY : Y = y) (hD : D = d) (hm : whV l mon = m) (hc : dgV l ck 2 = (c / 3600 : Nat) ∧ dgV l (ck + 3) 2 = (c % 3600 / 60 : Nat) ∧ dgV l (ck + 6) 2 = (c % 60 : Nat)) (hk : DayOk y m d) (hc2 : c < 86400) :
    guV l Y mon D ck = some (86400 * daysN y m d + c) := by
  obtain ⟨h1, h2, h3⟩ := hc
  subst hY hD hm
  unfold guV tdV
  rw [h1, h2, h3, dayI_nat, if_pos ⟨by omega, by simpa using hk, decide_eq_true ⟨by omega, by omega, by omega, by omega, by omega, by omega⟩⟩]
  simp only [Int.toNat_natCast, Option.some.injEq]
  omega
theorem gu_some {l : List UInt8} {Y D : Int} {mon ck n : Nat} (h : guV l Y mon D ck = some n) : ∃ y m d c, DayOk y m d ∧ c < 86400 ∧ n = 86400 * daysN y m d + c := by
  unfold guV at h
  split at h
  · rename_i h2
    obtain ⟨h2, h3, h4⟩ := h2
    unfold dayI at h3
    have h3 := of_decide_eq_true h3
    unfold tdV at h4
    have h4 := of_decide_eq_true h4
    obtain ⟨_, _, _, hk⟩ := h3
    rw [Int.toNat_natCast] at hk
    exact ⟨_, _, _, _, hk, by omega, (Option.some.inj h).symm⟩
  · cases h

/-- The moment of some seconds. -/
noncomputable def momN (n : Nat) : Mom :=
  if h : n < 253402300800 then
    ⟨(secs_of n h).choose, (secs_of n h).choose_spec.choose, (secs_of n h).choose_spec.choose_spec.choose, (secs_of n h).choose_spec.choose_spec.choose_spec.choose⟩
  else ⟨1970, 1, 1, 0⟩
theorem mom_spec {n : Nat} (h : n < 253402300800) : DayOk (momN n).y (momN n).m (momN n).d ∧ (momN n).c < 86400 ∧ n = 86400 * daysN (momN n).y (momN n).m (momN n).d + (momN n).c := by
  unfold momN
  rw [dif_pos h]
  exact (secs_of n h).choose_spec.choose_spec.choose_spec.choose_spec
theorem secs_lt {y m d c : Nat} (hk : DayOk y m d) (hc : c < 86400) : 86400 * daysN y m d + c < 253402300800 := by
  have := days_bound hk
  omega
theorem mom_eq {y m d c : Nat} (hk : DayOk y m d) (hc : c < 86400) : momN (86400 * daysN y m d + c) = ⟨y, m, d, c⟩ := by
  obtain ⟨h1, h2, h3⟩ := mom_spec (secs_lt hk hc)
  generalize momN (86400 * daysN y m d + c) = M at *
  obtain ⟨y', m', d', c'⟩ := M
  obtain ⟨rfl, rfl, rfl, rfl⟩ := secs_inj hk h1 hc h2 h3
  rfl
/-- The three forms of some seconds; the second one is empty where its year has no two digits. -/
noncomputable def fm0 (n : Nat) : List UInt8 := tx0 (momN n).y (momN n).m (momN n).d (momN n).c
noncomputable def fm1 (n : Nat) : List UInt8 := if 2069 < (momN n).y then [] else tx1 (momN n).y (momN n).m (momN n).d (momN n).c
noncomputable def fm2 (n : Nat) : List UInt8 := tx2 (momN n).y (momN n).m (momN n).d (momN n).c
theorem gu_lt {l : List UInt8} {Y D : Int} {mon ck n : Nat} (h : guV l Y mon D ck = some n) : n < 253402300800 := by
  obtain ⟨y, m, d, c, hk, hc, rfl⟩ := gu_some h
  exact secs_lt hk hc

/-- The first form. -/
noncomputable def gu0 (l : List UInt8) : Option Nat := guV l (dgV l 12 4) 8 (dgV l 5 2) 17
theorem hit0 (l : List UInt8) (n : Nat) : gu0 l = some n ∧ fm0 n = l ↔ scL wsT p0L l = some n := by
  rw [sc0_iff]
  constructor
  · rintro ⟨hg, hf⟩
    obtain ⟨hk, hc, hn⟩ := mom_spec (gu_lt hg)
    exact ⟨_, _, _, _, hk, Nat.zero_le _, by have := hk.y2; omega, hc, hf.symm.trans (tx0_re _ _ _ _), hn⟩
  · rintro ⟨y, m, d, c, hk, _, _, hc, hl, rfl⟩
    have hw := len_ws (wdN (daysN y m d)) (by unfold wdN; omega)
    have hm := len_mo m hk.m1 (by have := hk.m2; omega)
    refine ⟨?_, ?_⟩
    · generalize wsT (wdN (daysN y m d)) = W at *
      have e5 : l = (W ++ [44, 32]) ++ (padL 2 d ++ ([32] ++ (moT m ++ ([32] ++ (padL 4 y ++ ([32] ++ (ckT c ++ [32, 71, 77, 84]))))))) := by rw [hl]; simp [re0]
      have e8 : l = (W ++ [44, 32] ++ (padL 2 d ++ [32])) ++ (moT m ++ ([32] ++ (padL 4 y ++ ([32] ++ (ckT c ++ [32, 71, 77, 84]))))) := by rw [hl]; simp [re0]
      have e12 : l = (W ++ [44, 32] ++ (padL 2 d ++ [32]) ++ (moT m ++ [32])) ++ (padL 4 y ++ ([32] ++ (ckT c ++ [32, 71, 77, 84]))) := by rw [hl]; simp [re0]
      have e17 : l = (W ++ [44, 32] ++ (padL 2 d ++ [32]) ++ (moT m ++ [32]) ++ (padL 4 y ++ [32])) ++ (ckT c ++ [32, 71, 77, 84]) := by rw [hl]; simp [re0]
      exact gu_eval (dg_at e12 (by simp [padL_length, hw, hm]) (by have := hk.y2; omega)) (dg_at e5 (by simp [hw]) (by have := ml_bounds hk.y1 hk.m1 hk.m2; have := hk.d2; omega)) (wh_at e8 (by simp [padL_length, hw]) hk.m1 (by have := hk.m2; omega)) (ck_at e17 (by simp [padL_length, hw, hm]) hc) hk hc
    · unfold fm0
      rw [mom_eq hk hc]
      exact hl.symm

/-- The second form, whose weekday ends at a place. -/
def ys1 (Y : Int) : Int := if 70 ≤ Y then Y + 1900 else Y + 2000
noncomputable def gu1 (l : List UInt8) (i : Nat) : Option Nat := guV l (ys1 (dgV l (i + 9) 2)) (i + 5) (dgV l (i + 2) 2) (i + 12)
theorem hit1 (l : List UInt8) (i n : Nat) (hg : gu1 l i = some n) (hf : fm1 n = l) (hi : i < l.length) : scL wkT p1L l = some n := by
  rw [sc1_iff]
  obtain ⟨hk, hc, hn⟩ := mom_spec (gu_lt hg)
  unfold fm1 at hf
  split at hf
  · rw [← hf] at hi
    cases hi
  · rename_i h
    exact ⟨_, _, _, _, hk, hk.y1, by omega, hc, hf.symm.trans (tx1_re _ _ _ _), hn⟩
theorem wk_comma : ∀ j : Fin 7, (wkT j.val).length < 12 ∧ ¬ (44 : UInt8) ∈ wkT j.val := by decide
theorem hit1_of {l : List UInt8} {n : Nat} (h : scL wkT p1L l = some n) : ∃ i, i < 12 ∧ l[i]? = some 44 ∧ (∀ j, j < i → l[j]? ≠ some 44) ∧ gu1 l i = some n ∧ fm1 n = l := by
  rw [sc1_iff] at h
  obtain ⟨y, m, d, c, hk, h1, h2, hc, hl, rfl⟩ := h
  obtain ⟨hw, hn⟩ := wk_comma ⟨wdN (daysN y m d), by unfold wdN; omega⟩
  have hm := len_mo m hk.m1 (by have := hk.m2; omega)
  dsimp only at hw hn
  refine ⟨(wkT (wdN (daysN y m d))).length, hw, ?_, ?_, ?_, ?_⟩
  · rw [hl, List.getElem?_append_right (Nat.le_refl _)]
    simp [re1]
  · intro j hj e
    rw [hl, List.getElem?_append_left hj] at e
    exact hn (List.mem_of_getElem? e)
  · generalize wkT (wdN (daysN y m d)) = W at *
    have e5 : l = (W ++ [44, 32]) ++ (padL 2 d ++ ([45] ++ (moT m ++ ([45] ++ (padL 2 (y % 100) ++ ([32] ++ (ckT c ++ [32, 71, 77, 84]))))))) := by rw [hl]; simp [re1]
    have e8 : l = (W ++ [44, 32] ++ (padL 2 d ++ [45])) ++ (moT m ++ ([45] ++ (padL 2 (y % 100) ++ ([32] ++ (ckT c ++ [32, 71, 77, 84]))))) := by rw [hl]; simp [re1]
    have e12 : l = (W ++ [44, 32] ++ (padL 2 d ++ [45]) ++ (moT m ++ [45])) ++ (padL 2 (y % 100) ++ ([32] ++ (ckT c ++ [32, 71, 77, 84]))) := by rw [hl]; simp [re1]
    have e17 : l = (W ++ [44, 32] ++ (padL 2 d ++ [45]) ++ (moT m ++ [45]) ++ (padL 2 (y % 100) ++ [32])) ++ (ckT c ++ [32, 71, 77, 84]) := by rw [hl]; simp [re1]
    have hy := dg_at e12 (i := W.length + 9) (by simp [padL_length, hm]) (by omega)
    exact gu_eval (by rw [hy]; unfold ys1; split <;> omega) (dg_at e5 (by simp) (by have := ml_bounds hk.y1 hk.m1 hk.m2; have := hk.d2; omega)) (wh_at e8 (by simp [padL_length]) hk.m1 (by have := hk.m2; omega)) (ck_at e17 (by simp [padL_length, hm]) hc) hk hc
  · unfold fm1
    rw [mom_eq hk hc, if_neg (by dsimp only; omega)]
    exact hl.symm

/-- The third form. -/
def ds2 (l : List UInt8) : Int := if dgV l 8 2 < 0 then dgV l 9 1 else dgV l 8 2
noncomputable def gu2 (l : List UInt8) : Option Nat := guV l (dgV l 20 4) 4 (ds2 l) 11
theorem hit2 (l : List UInt8) (n : Nat) : gu2 l = some n ∧ fm2 n = l ↔ scL wsT p2L l = some n := by
  rw [sc2_iff]
  constructor
  · rintro ⟨hg, hf⟩
    obtain ⟨hk, hc, hn⟩ := mom_spec (gu_lt hg)
    exact ⟨_, _, _, _, hk, Nat.zero_le _, by have := hk.y2; omega, hc, hf.symm.trans (tx2_re _ _ _ _), hn⟩
  · rintro ⟨y, m, d, c, hk, _, _, hc, hl, rfl⟩
    have hw := len_ws (wdN (daysN y m d)) (by unfold wdN; omega)
    have hm := len_mo m hk.m1 (by have := hk.m2; omega)
    have hs := len_sp d
    have hd100 : d < 100 := by have := ml_bounds hk.y1 hk.m1 hk.m2; have := hk.d2; omega
    refine ⟨?_, ?_⟩
    · generalize wsT (wdN (daysN y m d)) = W at *
      have e4 : l = (W ++ [32]) ++ (moT m ++ ([32] ++ (spT d ++ ([32] ++ (ckT c ++ ([32] ++ padL 4 y)))))) := by rw [hl]; simp [re2]
      have e8 : l = (W ++ [32] ++ (moT m ++ [32])) ++ (spT d ++ ([32] ++ (ckT c ++ ([32] ++ padL 4 y)))) := by rw [hl]; simp [re2]
      have e11 : l = (W ++ [32] ++ (moT m ++ [32]) ++ (spT d ++ [32])) ++ (ckT c ++ ([32] ++ padL 4 y)) := by rw [hl]; simp [re2]
      have e20 : l = (W ++ [32] ++ (moT m ++ [32]) ++ (spT d ++ [32]) ++ (ckT c ++ [32])) ++ (padL 4 y ++ []) := by rw [hl]; simp [re2]
      have hd : ds2 l = (d : Int) := by
        unfold ds2
        by_cases h10 : d < 10
        · have e9 : l = (W ++ [32] ++ (moT m ++ [32]) ++ [32]) ++ (padL 1 d ++ ([32] ++ (ckT c ++ ([32] ++ padL 4 y)))) := by rw [e8]; unfold spT; rw [if_pos h10]; simp
          have z : dgV l 8 2 = -1 := by
            obtain ⟨e, _⟩ := take_drop_at e8 (i := 8) (k := 2) (by simp [hw, hm]) hs
            unfold dgV
            rw [e, if_neg]
            unfold spT
            rw [if_pos h10]
            simp [dgt]
          rw [z, if_pos (by omega)]
          exact dg_at e9 (by simp [hw, hm]) (by omega)
        · have z : dgV l 8 2 = (d : Int) := by
            refine dg_at (A := W ++ [32] ++ (moT m ++ [32])) (C := [32] ++ (ckT c ++ ([32] ++ padL 4 y))) ?_ (by simp [hw, hm]) (by omega)
            rw [e8]
            unfold spT
            rw [if_neg h10]
          rw [z, if_neg (by omega)]
      exact gu_eval (dg_at e20 (by simp [hw, hm, hs, len_ck]) (by have := hk.y2; omega)) hd (wh_at e4 (by simp [hw]) hk.m1 (by have := hk.m2; omega)) (ck_at e11 (by simp [hw, hm, hs]) hc) hk hc
    · unfold fm2
      rw [mom_eq hk hc]
      exact hl.symm

end Go.Proofs.YtfabkceefigmhaaDoor
