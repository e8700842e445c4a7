/- Plain: which texts are dates, and of which seconds. -/
import Derived.Test.YtfabkceefigmhaaDoorDatQ
namespace Go.Proofs.YtfabkceefigmhaaDoor

/-- What stands behind the weekday, in each form. -/
def re0 (y m d c : Nat) : List UInt8 := [44, 32] ++ (padL 2 d ++ ([32] ++ (moT m ++ ([32] ++ (padL 4 y ++ ([32] ++ (ckT c ++ [32, 71, 77, 84])))))))
def re1 (y m d c : Nat) : List UInt8 := [44, 32] ++ (padL 2 d ++ ([45] ++ (moT m ++ ([45] ++ (padL 2 (y % 100) ++ ([32] ++ (ckT c ++ [32, 71, 77, 84])))))))
def re2 (y m d c : Nat) : List UInt8 := [32] ++ (moT m ++ ([32] ++ (spT d ++ ([32] ++ (ckT c ++ ([32] ++ padL 4 y))))))
theorem tx0_re (y m d c : Nat) : tx0 y m d c = wsT (wdN (daysN y m d)) ++ re0 y m d c := rfl
theorem tx1_re (y m d c : Nat) : tx1 y m d c = wkT (wdN (daysN y m d)) ++ re1 y m d c := rfl
theorem tx2_re (y m d c : Nat) : tx2 y m d c = wsT (wdN (daysN y m d)) ++ re2 y m d c := rfl

/-- Numbers that a parser may read. -/
structure MomIn (lo hi : Nat) (M : Mom) : Prop where
  y1 : lo ≤ M.y
  y2 : M.y < hi
  m1 : 1 ≤ M.m
  m2 : M.m < 13
  d : M.d < 100
  c : M.c < 86400

theorem p0_some (s : St) (M : Mom) : p0L s = (M, [], false) ↔ s = (re0 M.y M.m M.d M.c, false) ∧ MomIn 0 10000 M := by
  constructor
  · intro h
    unfold p0L at h
    dsimp only at h
    generalize hD : nuL 2 (skL [44, 32] s) = D at h
    generalize hM : nmL moT 1 12 (skL [32] D.2) = N at h
    generalize hY : nuL 4 (skL [32] N.2) = Y at h
    generalize hC : ckL (skL [32] Y.2) = C at h
    obtain ⟨d, sd⟩ := D
    obtain ⟨m, sm⟩ := N
    obtain ⟨y, sy⟩ := Y
    obtain ⟨c, sc⟩ := C
    simp only [Prod.mk.injEq] at h
    obtain ⟨rfl, h⟩ := h
    dsimp only at *
    rw [(skL_iff _ _ _).1 h] at hC
    obtain ⟨eC, bC⟩ := (ckL_iff _ _ _).1 hC
    rw [(skL_iff _ _ _).1 eC] at hY
    obtain ⟨eY, bY⟩ := (nuL_iff _ _ _ _).1 hY
    rw [(skL_iff _ _ _).1 eY] at hM
    obtain ⟨eM, bM1, bM2⟩ := (nmL_iff moT 12 1 mo_apart _ _ _).1 hM
    rw [(skL_iff _ _ _).1 eM] at hD
    obtain ⟨eD, bD⟩ := (nuL_iff _ _ _ _).1 hD
    exact ⟨(skL_iff _ _ _).1 eD, ⟨Nat.zero_le _, bY, bM1, bM2, bD, bC⟩⟩
  · obtain ⟨y, m, d, c⟩ := M
    rintro ⟨rfl, h⟩
    obtain ⟨_, hy, h1, h2, hd, hc⟩ := h
    dsimp only at *
    unfold p0L
    dsimp only
    have e1 := (skL_iff [44, 32] (re0 y m d c, false) _).2 rfl
    have e2 := (nuL_iff 2 _ d _).2 ⟨e1, hd⟩
    rw [e2]
    have e3 := (skL_iff [32] _ _).2 (rfl : (([32] ++ (moT m ++ ([32] ++ (padL 4 y ++ ([32] ++ (ckT c ++ [32, 71, 77, 84])))))), false) = _)
    have e4 := (nmL_iff moT 12 1 mo_apart _ m _).2 ⟨e3, h1, h2⟩
    rw [e4]
    have e5 := (skL_iff [32] _ _).2 (rfl : (([32] ++ (padL 4 y ++ ([32] ++ (ckT c ++ [32, 71, 77, 84])))), false) = _)
    have e6 := (nuL_iff 4 _ y _).2 ⟨e5, hy⟩
    rw [e6]
    have e7 := (skL_iff [32] _ _).2 (rfl : (([32] ++ (ckT c ++ [32, 71, 77, 84])), false) = _)
    have e8 := (ckL_iff _ c _).2 ⟨e7, hc⟩
    rw [e8]
    rfl

theorem fy_in (n : Nat) (h : n < 100) : 1970 ≤ fyN n ∧ fyN n < 2070 ∧ fyN n % 100 = n := by
  unfold fyN
  split <;> omega
theorem fy_of (y : Nat) (h1 : 1970 ≤ y) (h2 : y < 2070) : fyN (y % 100) = y := by
  unfold fyN
  split <;> omega

theorem p1_some (s : St) (M : Mom) : p1L s = (M, [], false) ↔ s = (re1 M.y M.m M.d M.c, false) ∧ MomIn 1970 2070 M := by
  constructor
  · intro h
    unfold p1L at h
    dsimp only at h
    generalize hD : nuL 2 (skL [44, 32] s) = D at h
    generalize hM : nmL moT 1 12 (skL [45] D.2) = N at h
    generalize hY : nuL 2 (skL [45] N.2) = Y at h
    generalize hC : ckL (skL [32] Y.2) = C at h
    obtain ⟨d, sd⟩ := D
    obtain ⟨m, sm⟩ := N
    obtain ⟨y, sy⟩ := Y
    obtain ⟨c, sc⟩ := C
    simp only [Prod.mk.injEq] at h
    obtain ⟨rfl, h⟩ := h
    dsimp only at *
    rw [(skL_iff _ _ _).1 h] at hC
    obtain ⟨eC, bC⟩ := (ckL_iff _ _ _).1 hC
    rw [(skL_iff _ _ _).1 eC] at hY
    obtain ⟨eY, bY⟩ := (nuL_iff _ _ _ _).1 hY
    rw [(skL_iff _ _ _).1 eY] at hM
    obtain ⟨eM, bM1, bM2⟩ := (nmL_iff moT 12 1 mo_apart _ _ _).1 hM
    rw [(skL_iff _ _ _).1 eM] at hD
    obtain ⟨eD, bD⟩ := (nuL_iff _ _ _ _).1 hD
    obtain ⟨f1, f2, f3⟩ := fy_in y bY
    refine ⟨?_, ⟨f1, f2, bM1, bM2, bD, bC⟩⟩
    unfold re1
    rw [f3]
    exact (skL_iff _ _ _).1 eD
  · obtain ⟨y, m, d, c⟩ := M
    rintro ⟨rfl, h⟩
    obtain ⟨hy1, hy2, h1, h2, hd, hc⟩ := h
    dsimp only at *
    unfold p1L
    dsimp only
    have e1 := (skL_iff [44, 32] (re1 y m d c, false) _).2 rfl
    have e2 := (nuL_iff 2 _ d _).2 ⟨e1, hd⟩
    rw [e2]
    have e3 := (skL_iff [45] _ _).2 (rfl : (([45] ++ (moT m ++ ([45] ++ (padL 2 (y % 100) ++ ([32] ++ (ckT c ++ [32, 71, 77, 84])))))), false) = _)
    have e4 := (nmL_iff moT 12 1 mo_apart _ m _).2 ⟨e3, h1, h2⟩
    rw [e4]
    have e5 := (skL_iff [45] _ _).2 (rfl : (([45] ++ (padL 2 (y % 100) ++ ([32] ++ (ckT c ++ [32, 71, 77, 84])))), false) = _)
    have e6 := (nuL_iff 2 _ (y % 100) _).2 ⟨e5, by omega⟩
    rw [e6]
    have e7 := (skL_iff [32] _ _).2 (rfl : (([32] ++ (ckT c ++ [32, 71, 77, 84])), false) = _)
    have e8 := (ckL_iff _ c _).2 ⟨e7, hc⟩
    rw [e8]
    dsimp only
    rw [fy_of y hy1 hy2]
    rfl

theorem p2_some (s : St) (M : Mom) : p2L s = (M, [], false) ↔ s = (re2 M.y M.m M.d M.c, false) ∧ MomIn 0 10000 M := by
  constructor
  · intro h
    unfold p2L at h
    dsimp only at h
    generalize hM : nmL moT 1 12 (skL [32] s) = N at h
    generalize hD : sdL (skL [32] N.2) = D at h
    generalize hC : ckL (skL [32] D.2) = C at h
    generalize hY : nuL 4 (skL [32] C.2) = Y at h
    obtain ⟨d, sd⟩ := D
    obtain ⟨m, sm⟩ := N
    obtain ⟨y, sy⟩ := Y
    obtain ⟨c, sc⟩ := C
    simp only [Prod.mk.injEq] at h
    obtain ⟨rfl, rfl⟩ := h
    dsimp only at *
    obtain ⟨eY, bY⟩ := (nuL_iff _ _ _ _).1 hY
    rw [List.append_nil] at eY
    rw [(skL_iff _ _ _).1 eY] at hC
    obtain ⟨eC, bC⟩ := (ckL_iff _ _ _).1 hC
    rw [(skL_iff _ _ _).1 eC] at hD
    obtain ⟨eD, bD⟩ := (sdL_iff _ _ _).1 hD
    rw [(skL_iff _ _ _).1 eD] at hM
    obtain ⟨eM, bM1, bM2⟩ := (nmL_iff moT 12 1 mo_apart _ _ _).1 hM
    exact ⟨(skL_iff _ _ _).1 eM, ⟨Nat.zero_le _, bY, bM1, bM2, bD, bC⟩⟩
  · obtain ⟨y, m, d, c⟩ := M
    rintro ⟨rfl, h⟩
    obtain ⟨_, hy, h1, h2, hd, hc⟩ := h
    dsimp only at *
    unfold p2L
    dsimp only
    have e3 := (skL_iff [32] (re2 y m d c, false) _).2 rfl
    have e4 := (nmL_iff moT 12 1 mo_apart _ m _).2 ⟨e3, h1, h2⟩
    rw [e4]
    have e1 := (skL_iff [32] _ _).2 (rfl : (([32] ++ (spT d ++ ([32] ++ (ckT c ++ ([32] ++ padL 4 y))))), false) = _)
    have e2 := (sdL_iff _ d _).2 ⟨e1, hd⟩
    rw [e2]
    have e7 := (skL_iff [32] _ _).2 (rfl : (([32] ++ (ckT c ++ ([32] ++ padL 4 y))), false) = _)
    have e8 := (ckL_iff _ c _).2 ⟨e7, hc⟩
    rw [e8]
    have e5 : skL [32] ([32] ++ padL 4 y, false) = (padL 4 y, false) := (skL_iff [32] _ _).2 rfl
    have e6 : nuL 4 (skL [32] ([32] ++ padL 4 y, false)) = (y, [], false) := (nuL_iff 4 _ y []).2 ⟨by rw [List.append_nil]; exact e5, hy⟩
    dsimp only
    rw [e6]

/-- A text is the date, in one form, of some seconds. -/
def IsTx (f : Nat → List UInt8) (re : Nat → Nat → Nat → Nat → List UInt8) (lo hi : Nat) (l : List UInt8) (n : Nat) : Prop :=
  ∃ y m d c, DayOk y m d ∧ lo ≤ y ∧ y < hi ∧ c < 86400 ∧ l = f (wdN (daysN y m d)) ++ re y m d c ∧ n = 86400 * daysN y m d + c

theorem sc_iff {f : Nat → List UInt8} {p : St → Mom × St} {re : Nat → Nat → Nat → Nat → List UInt8} {lo hi : Nat} (hf : Apart f 0 7)
    (hp : ∀ s M, p s = (M, [], false) ↔ s = (re M.y M.m M.d M.c, false) ∧ MomIn lo hi M) (l : List UInt8) (n : Nat) : scL f p l = some n ↔ IsTx f re lo hi l n := by
  unfold scL IsTx
  dsimp only
  constructor
  · intro h
    generalize hw : nmL f 0 7 (l, false) = w at h
    generalize hr : p w.2 = r at h
    obtain ⟨w, sw⟩ := w
    obtain ⟨M, r, x⟩ := r
    dsimp only at *
    split at h
    · cases h
    · rename_i hx
      simp only [Bool.or_eq_true, Bool.not_eq_true', not_or, Bool.not_eq_true, Bool.not_eq_false, List.isEmpty_iff] at hx
      obtain ⟨rfl, rfl⟩ := hx
      split at h
      · rename_i hk
        obtain ⟨hk, hwd⟩ := hk
        obtain ⟨e1, b⟩ := (hp _ _).1 hr
        rw [e1] at hw
        obtain ⟨e2, _⟩ := (nmL_iff f 7 0 hf _ _ _).1 hw
        simp only [Prod.mk.injEq, and_true] at e2
        refine ⟨M.y, M.m, M.d, M.c, hk, b.y1, b.y2, b.c, ?_, (Option.some.inj h).symm⟩
        rw [e2, hwd]
      · cases h
  · rintro ⟨y, m, d, c, hk, h1, h2, hc, rfl, rfl⟩
    have hb := ml_bounds hk.y1 hk.m1 hk.m2
    have e1 := (nmL_iff f 7 0 hf (f (wdN (daysN y m d)) ++ re y m d c, false) _ _).2 ⟨rfl, Nat.zero_le _, by unfold wdN; omega⟩
    rw [e1]
    have e2 := (hp (re y m d c, false) ⟨y, m, d, c⟩).2 ⟨rfl, ⟨h1, h2, hk.m1, by have := hk.m2; dsimp only; omega, by have := hk.d2; dsimp only; omega, hc⟩⟩
    dsimp only
    rw [e2]
    dsimp only
    rw [if_neg (by simp), if_pos ⟨hk, rfl⟩]

theorem sc0_iff (l : List UInt8) (n : Nat) : scL wsT p0L l = some n ↔ IsTx wsT re0 0 10000 l n := sc_iff ws_apart p0_some l n
theorem sc1_iff (l : List UInt8) (n : Nat) : scL wkT p1L l = some n ↔ IsTx wkT re1 1970 2070 l n := sc_iff wk_apart p1_some l n
theorem sc2_iff (l : List UInt8) (n : Nat) : scL wsT p2L l = some n ↔ IsTx wsT re2 0 10000 l n := sc_iff ws_apart p2_some l n

theorem par_tx0 {y m d c : Nat} (hk : DayOk y m d) (hc : c < 86400) : parL (tx0 y m d c) = some (86400 * daysN y m d + c) := by
  have := (sc0_iff (tx0 y m d c) (86400 * daysN y m d + c)).2 ⟨y, m, d, c, hk, Nat.zero_le _, by have := hk.y2; omega, hc, rfl, rfl⟩
  unfold parL
  rw [this]
theorem par_some {l : List UInt8} {n : Nat} (h : parL l = some n) : IsTx wsT re0 0 10000 l n ∨ IsTx wkT re1 1970 2070 l n ∨ IsTx wsT re2 0 10000 l n := by
  unfold parL at h
  cases h0 : scL wsT p0L l with
  | some k =>
    rw [h0] at h
    exact .inl ((sc0_iff l n).1 (h0.trans h))
  | none =>
    rw [h0] at h
    cases h1 : scL wkT p1L l with
    | some k =>
      rw [h1] at h
      exact .inr (.inl ((sc1_iff l n).1 (h1.trans h)))
    | none =>
      rw [h1] at h
      exact .inr (.inr ((sc2_iff l n).1 h))

theorem isTx_in {f : Nat → List UInt8} {re : Nat → Nat → Nat → Nat → List UInt8} {lo hi : Nat} {l : List UInt8} {n : Nat} (h : IsTx f re lo hi l n) : ∃ y m d c, DayOk y m d ∧ c < 86400 ∧ n = 86400 * daysN y m d + c := by
  obtain ⟨y, m, d, c, hk, _, _, hc, _, e⟩ := h
  exact ⟨y, m, d, c, hk, hc, e⟩
theorem par_in {l : List UInt8} {n : Nat} (h : parL l = some n) : ∃ y m d c, DayOk y m d ∧ c < 86400 ∧ n = 86400 * daysN y m d + c := by
  rcases par_some h with h | h | h <;> exact isTx_in h
/-- Any seconds that may be printed are some moment's. -/
theorem secs_of (n : Nat) (h : n < 253402300800) : ∃ y m d c, DayOk y m d ∧ c < 86400 ∧ n = 86400 * daysN y m d + c := by
  obtain ⟨y, m, d, hk, e⟩ := day_of (n / 86400) (by omega)
  exact ⟨y, m, d, n % 86400, hk, by omega, by rw [e]; omega⟩
theorem secs_inj {y m d c y' m' d' c' : Nat} (hk : DayOk y m d) (hk' : DayOk y' m' d') (hc : c < 86400) (hc' : c' < 86400) (e : 86400 * daysN y m d + c = 86400 * daysN y' m' d' + c') : y = y' ∧ m = m' ∧ d = d' ∧ c = c' := by
  obtain ⟨e1, e2, e3⟩ := days_inj hk hk' (by omega)
  subst e1 e2 e3
  exact ⟨rfl, rfl, rfl, by omega⟩

theorem len_sp (d : Nat) : (spT d).length = 2 := by
  unfold spT
  split
  · simp [padL_length]
  · exact padL_length _ _
theorem len_ck (c : Nat) : (ckT c).length = 8 := by simp [ckT, padL_length]
theorem len_mo (m : Nat) (h1 : 1 ≤ m) (h2 : m < 13) : (moT m).length = 3 := by
  have : ∀ j : Fin 13, 1 ≤ j.val → (moT j.val).length = 3 := by decide
  exact this ⟨m, h2⟩ h1
theorem len_ws (k : Nat) (h : k < 7) : (wsT k).length = 3 := by
  have : ∀ j : Fin 7, (wsT j.val).length = 3 := by decide
  exact this ⟨k, h⟩
theorem tx0_len {y m d c : Nat} (hk : DayOk y m d) : (tx0 y m d c).length = 29 := by
  have h1 := len_ws (wdN (daysN y m d)) (by unfold wdN; omega)
  have h2 := len_mo m hk.m1 (by have := hk.m2; omega)
  simp only [tx0, List.length_append, padL_length, len_ck, h1, h2, List.length_cons, List.length_nil]

/-- What may be printed and has a comma at its fourth byte, and 29 bytes, is the first form. -/
theorem tx_comma {l : List UInt8} {y m d c : Nat} (hk : DayOk y m d) (hc : c < 86400) (h : parL l = some (86400 * daysN y m d + c)) (hl : l.length = 29) (h3 : l[3]? = some 44) : l = tx0 y m d c := by
  rcases par_some h with h | h | h
  · obtain ⟨y', m', d', c', hk', _, _, hc', e, e2⟩ := h
    obtain ⟨rfl, rfl, rfl, rfl⟩ := secs_inj hk hk' hc hc' e2
    exact e
  · exfalso
    obtain ⟨y', m', d', c', hk', _, _, hc', e, e2⟩ := h
    have hw : wdN (daysN y' m' d') < 7 := by unfold wdN; omega
    generalize wdN (daysN y' m' d') = k at *
    have : ∀ j : Fin 7, 3 < (wkT j.val).length ∧ (wkT j.val)[3]? ≠ some 44 := by decide
    obtain ⟨t1, t2⟩ := this ⟨k, hw⟩
    rw [e, List.getElem?_append_left t1] at h3
    exact t2 h3
  · exfalso
    obtain ⟨y', m', d', c', hk', _, _, hc', e, e2⟩ := h
    have h1 := len_ws (wdN (daysN y' m' d')) (by unfold wdN; omega)
    have h2 := len_mo m' hk'.m1 (by have := hk'.m2; omega)
    rw [e] at hl
    simp only [re2, List.length_append, padL_length, len_ck, len_sp, h1, h2, List.length_cons, List.length_nil] at hl
    omega

end Go.Proofs.YtfabkceefigmhaaDoor
