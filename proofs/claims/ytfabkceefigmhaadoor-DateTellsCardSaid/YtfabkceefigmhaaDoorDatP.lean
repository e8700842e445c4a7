/- Plain: the calendar and the texts of dates; no program is named. -/
import Derived.Test.YtfabkceefigmhaaDoorBasP
namespace Go.Proofs.YtfabkceefigmhaaDoor

/-- How many leap years there are from the year 1 on, before a year. -/
def lpN (y : Nat) : Nat := (y - 1) / 4 - (y - 1) / 100 + (y - 1) / 400
/-- The number of the first day of a year. -/
def dbN (y : Nat) : Nat := 365 * (y - 1970) + (lpN y - 477)
/-- The lengths of the months in a year that is no leap year. -/
def mdT : List Nat := [31, 28, 31, 30, 31, 30, 31, 31, 30, 31, 30, 31]
/-- The length of a month. -/
def mlN (y m : Nat) : Nat := if m = 2 then 28 + (lpN (y + 1) - lpN y) else mdT.getD (m - 1) 0
/-- The days of a year's first months. -/
def msN (y : Nat) : Nat → Nat
  | 0 => 0
  | m + 1 => msN y m + mlN y (m + 1)
structure DayOk (y m d : Nat) : Prop where
  y1 : 1970 ≤ y
  y2 : y ≤ 9999
  m1 : 1 ≤ m
  m2 : m ≤ 12
  d1 : 1 ≤ d
  d2 : d ≤ mlN y m
instance (y m d : Nat) : Decidable (DayOk y m d) :=
  decidable_of_iff (1970 ≤ y ∧ y ≤ 9999 ∧ 1 ≤ m ∧ m ≤ 12 ∧ 1 ≤ d ∧ d ≤ mlN y m) ⟨fun ⟨a, b, c, d, e, f⟩ => ⟨a, b, c, d, e, f⟩, fun ⟨a, b, c, d, e, f⟩ => ⟨a, b, c, d, e, f⟩⟩
def daysN (y m d : Nat) : Nat := dbN y + msN y (m - 1) + d - 1
def wdN (k : Nat) : Nat := (k % 7 + 4) % 7

theorem lp_ge {y : Nat} (h : 1970 ≤ y) : 477 ≤ lpN y := by unfold lpN; omega
theorem lp_le {y : Nat} (h : 1970 ≤ y) : lpN y ≤ y := by unfold lpN; omega
theorem lp_step {y : Nat} (h : 1970 ≤ y) : lpN y ≤ lpN (y + 1) ∧ lpN (y + 1) ≤ lpN y + 1 := by unfold lpN; omega
theorem div_step (y k : Nat) (h : 1 ≤ y) (hk : k = 4 ∨ k = 100 ∨ k = 400) : y / k = (y - 1) / k + (if y % k = 0 then 1 else 0) := by
  rcases hk with rfl | rfl | rfl <;> (split <;> omega)
theorem lp_leap {y : Nat} (h : 1970 ≤ y) : lpN (y + 1) = lpN y + if y % 4 = 0 ∧ (y % 100 ≠ 0 ∨ y % 400 = 0) then 1 else 0 := by
  have h1 := div_step y 4 (by omega) (.inl rfl)
  have h2 := div_step y 100 (by omega) (.inr (.inl rfl))
  have h3 := div_step y 400 (by omega) (.inr (.inr rfl))
  have g0 := lp_ge h
  have g1 : y % 100 = 0 → y % 4 = 0 := by omega
  have g2 : y % 400 = 0 → y % 100 = 0 := by omega
  have g3 : (y - 1) / 100 ≤ (y - 1) / 4 := by omega
  unfold lpN at g0 ⊢
  rw [Nat.add_sub_cancel, h1, h2, h3]
  generalize (y - 1) / 4 = a at *
  generalize (y - 1) / 100 = b at *
  generalize (y - 1) / 400 = c at *
  clear h1 h2 h3
  by_cases e1 : y % 4 = 0 <;> by_cases e2 : y % 100 = 0 <;> by_cases e3 : y % 400 = 0 <;> simp [e1, e2, e3] at g1 g2 ⊢ <;> omega
theorem ml2_bounds {y : Nat} (h : 1970 ≤ y) : 28 ≤ mlN y 2 ∧ mlN y 2 ≤ 29 := by
  have := lp_step h
  unfold mlN
  rw [if_pos rfl]
  omega
theorem ml_table : ∀ m : Fin 13, 1 ≤ m.val → m.val ≠ 2 → 28 ≤ mdT.getD (m.val - 1) 0 ∧ mdT.getD (m.val - 1) 0 ≤ 31 := by decide
theorem ml_bounds {y m : Nat} (h : 1970 ≤ y) (h1 : 1 ≤ m) (h2 : m ≤ 12) : 28 ≤ mlN y m ∧ mlN y m ≤ 31 := by
  by_cases e : m = 2
  · subst e
    have := ml2_bounds h
    omega
  · unfold mlN
    rw [if_neg e]
    exact ml_table ⟨m, by omega⟩ h1 e
theorem ms12 {y : Nat} : msN y 12 = 337 + mlN y 2 := by
  simp [msN, mlN, mdT]
  omega
theorem db_step {y : Nat} (h : 1970 ≤ y) : dbN (y + 1) = dbN y + msN y 12 := by
  have h1 := lp_step h
  have h2 := lp_ge h
  rw [ms12]
  unfold mlN dbN
  rw [if_pos rfl]
  omega
theorem db_mono {y z : Nat} (h : 1970 ≤ y) (h2 : y ≤ z) : dbN y ≤ dbN z := by
  induction z with
  | zero => omega
  | succ z ih =>
    by_cases e : y = z + 1
    · subst e; exact Nat.le_refl _
    · have := db_step (y := z) (by omega)
      have := ih (by omega)
      omega
theorem db_first : dbN 1970 = 0 := by decide
theorem db_last : dbN 10000 = 2932897 := by decide
theorem ms_step (y m : Nat) : msN y (m + 1) = msN y m + mlN y (m + 1) := rfl
theorem ms_mono {y a b : Nat} (h2 : a ≤ b) : msN y a ≤ msN y b := by
  induction b with
  | zero => obtain rfl : a = 0 := by omega
            exact Nat.le_refl _
  | succ b ih =>
    by_cases e : a = b + 1
    · subst e; exact Nat.le_refl _
    · have := ih (by omega)
      rw [ms_step]
      omega
theorem day_in {y m d : Nat} (h : DayOk y m d) : msN y (m - 1) + d ≤ msN y m := by
  obtain ⟨m, rfl⟩ : ∃ k, m = k + 1 := ⟨m - 1, by have := h.m1; omega⟩
  rw [ms_step]
  have := h.d2
  simp only [Nat.add_sub_cancel]
  omega
theorem days_lt {y m d : Nat} (h : DayOk y m d) : dbN y ≤ daysN y m d ∧ daysN y m d < dbN (y + 1) := by
  have h1 := day_in h
  have h2 := db_step h.y1
  have h3 := ms_mono (y := y) h.m2
  have := h.d1
  unfold daysN
  omega
theorem days_bound {y m d : Nat} (h : DayOk y m d) : daysN y m d < 2932897 := by
  have h1 := days_lt h
  have h2 := db_mono (y := y + 1) (z := 10000) (by have := h.y1; omega) (by have := h.y2; omega)
  rw [db_last] at h2
  omega
theorem days_year {y m d y' m' d' : Nat} (h : DayOk y m d) (h' : DayOk y' m' d') (e : daysN y m d = daysN y' m' d') : y = y' := by
  have h1 := days_lt h
  have h2 := days_lt h'
  have hy := h.y1
  have hy' := h'.y1
  rcases Nat.lt_trichotomy y y' with c | c | c
  · have := db_mono (y := y + 1) (z := y') (by omega) c
    omega
  · exact c
  · have := db_mono (y := y' + 1) (z := y) (by omega) c
    omega
theorem days_inj {y m d y' m' d' : Nat} (h : DayOk y m d) (h' : DayOk y' m' d') (e : daysN y m d = daysN y' m' d') : y = y' ∧ m = m' ∧ d = d' := by
  obtain rfl := days_year h h' e
  have h1 := day_in h
  have h2 := day_in h'
  have hd := h.d1
  have hd' := h'.d1
  have hm := h.m1
  have hm' := h'.m1
  unfold daysN at e
  rcases Nat.lt_trichotomy m m' with c | c | c
  · have := ms_mono (y := y) (a := m) (b := m' - 1) (by omega)
    omega
  · subst c
    exact ⟨rfl, rfl, by omega⟩
  · have := ms_mono (y := y) (a := m') (b := m - 1) (by omega)
    omega
/-- Each number is some day's. -/
theorem day_of (k : Nat) (h : k < 2932897) : ∃ y m d, DayOk y m d ∧ daysN y m d = k := by
  induction k with
  | zero => exact ⟨1970, 1, 1, by decide, by decide⟩
  | succ k ih =>
    obtain ⟨y, m, d, hd, e⟩ := ih (by omega)
    have h1 := hd.d1
    have h2 := hd.m1
    have h3 := hd.y1
    have h4 := hd.m2
    have h5 := hd.y2
    by_cases c1 : d + 1 ≤ mlN y m
    · exact ⟨y, m, d + 1, ⟨hd.y1, hd.y2, hd.m1, hd.m2, by omega, c1⟩, by unfold daysN at e ⊢; omega⟩
    · have ed : d = mlN y m := by have := hd.d2; omega
      by_cases c2 : m < 12
      · have hb := ml_bounds (m := m + 1) h3 (by omega) (by omega)
        refine ⟨y, m + 1, 1, ⟨hd.y1, hd.y2, by omega, by omega, by omega, by omega⟩, ?_⟩
        obtain ⟨i, rfl⟩ : ∃ i, m = i + 1 := ⟨m - 1, by omega⟩
        unfold daysN at e ⊢
        simp only [Nat.add_sub_cancel] at e ⊢
        rw [ms_step]
        omega
      · obtain rfl : m = 12 := by omega
        have hs := db_step h3
        have hm12 : msN y 12 = msN y 11 + mlN y 12 := ms_step y 11
        unfold daysN at e
        rw [show (12 : Nat) - 1 = 11 by omega] at e
        have hy : y < 9999 := by
          by_cases c3 : y < 9999
          · exact c3
          · have e3 : dbN (y + 1) = 2932897 := by rw [show y + 1 = 10000 by omega]; exact db_last
            omega
        have hb := ml_bounds (y := y + 1) (m := 1) (by omega) (by omega) (by omega)
        refine ⟨y + 1, 1, 1, ⟨by omega, by omega, by omega, by omega, by omega, by omega⟩, ?_⟩
        have z : msN (y + 1) (1 - 1) = 0 := by rw [Nat.sub_self]; rfl
        unfold daysN
        rw [z]
        omega

/-- A number's last digit, and its last digits. -/
def digC (n : Nat) : UInt8 := UInt8.ofNat (48 + n % 10)
def padL : Nat → Nat → List UInt8
  | 0, _ => []
  | k + 1, n => padL k (n / 10) ++ [digC n]
/-- The names of weekdays, the short ones, those of months. -/
def wkT (n : Nat) : List UInt8 := ([[83, 117, 110, 100, 97, 121], [77, 111, 110, 100, 97, 121], [84, 117, 101, 115, 100, 97, 121], [87, 101, 100, 110, 101, 115, 100, 97, 121], [84, 104, 117, 114, 115, 100, 97, 121], [70, 114, 105, 100, 97, 121], [83, 97, 116, 117, 114, 100, 97, 121]] : List (List UInt8)).getD n []
def wsT (n : Nat) : List UInt8 := (wkT n).take 3
def moT (n : Nat) : List UInt8 := ([[74, 97, 110], [70, 101, 98], [77, 97, 114], [65, 112, 114], [77, 97, 121], [74, 117, 110], [74, 117, 108], [65, 117, 103], [83, 101, 112], [79, 99, 116], [78, 111, 118], [68, 101, 99]] : List (List UInt8)).getD (n - 1) []
def ckT (c : Nat) : List UInt8 := padL 2 (c / 3600) ++ ([58] ++ (padL 2 (c % 3600 / 60) ++ ([58] ++ padL 2 (c % 60))))
def spT (d : Nat) : List UInt8 := if d < 10 then [32] ++ padL 1 d else padL 2 d
/-- The three forms of a date. -/
def tx0 (y m d c : Nat) : List UInt8 := wsT (wdN (daysN y m d)) ++ ([44, 32] ++ (padL 2 d ++ ([32] ++ (moT m ++ ([32] ++ (padL 4 y ++ ([32] ++ (ckT c ++ [32, 71, 77, 84]))))))))
def tx1 (y m d c : Nat) : List UInt8 := wkT (wdN (daysN y m d)) ++ ([44, 32] ++ (padL 2 d ++ ([45] ++ (moT m ++ ([45] ++ (padL 2 (y % 100) ++ ([32] ++ (ckT c ++ [32, 71, 77, 84]))))))))
def tx2 (y m d c : Nat) : List UInt8 := wsT (wdN (daysN y m d)) ++ ([32] ++ (moT m ++ ([32] ++ (spT d ++ ([32] ++ (ckT c ++ ([32] ++ padL 4 y)))))))

/-- What is left to read, and whether something was wrong: what each of the readers makes of it. -/
abbrev St := List UInt8 × Bool
def skL (p : List UInt8) (s : St) : St := if p.isPrefixOf s.1 then (s.1.drop p.length, s.2) else (s.1, true)
def dgt (c : UInt8) : Bool := decide (48 ≤ c.toNat) && decide (c.toNat ≤ 57)
def valL (l : List UInt8) : Nat := l.foldl (fun n c => 10 * n + (c.toNat - 48)) 0
def nuL (k : Nat) (s : St) : Nat × St := if decide (k ≤ s.1.length) && (s.1.take k).all dgt then (valL (s.1.take k), s.1.drop k, s.2) else (0, s.1, true)
def sdL (s : St) : Nat × St := if s.1.head? == some 32 then nuL 1 (s.1.drop 1, s.2) else nuL 2 (s.1, s.2 || s.1.head? == some 48)
def upL (most : Nat) (s : St) : Nat × St := ((nuL 2 s).1, (nuL 2 s).2.1, (nuL 2 s).2.2 || decide (most < (nuL 2 s).1))
def ckA (s : St) : Nat × St := upL 23 s
def ckB (s : St) : Nat × St := upL 59 (skL [58] (ckA s).2)
def ckC (s : St) : Nat × St := upL 59 (skL [58] (ckB s).2)
def ckL (s : St) : Nat × St := ((ckA s).1 * 3600 + (ckB s).1 * 60 + (ckC s).1, (ckC s).2)
def nmL (f : Nat → List UInt8) : Nat → Nat → St → Nat × St
  | _, 0, s => (0, s.1, true)
  | a, k + 1, s => if (f a).isPrefixOf s.1 then (a, s.1.drop (f a).length, s.2) else nmL f (a + 1) k s

structure Mom where
  y : Nat
  m : Nat
  d : Nat
  c : Nat
def fyN (n : Nat) : Nat := if 1970 ≤ 1900 + n then 1900 + n else 2000 + n
def p0L (s : St) : Mom × St :=
  let d := nuL 2 (skL [44, 32] s)
  let m := nmL moT 1 12 (skL [32] d.2)
  let y := nuL 4 (skL [32] m.2)
  let c := ckL (skL [32] y.2)
  (⟨y.1, m.1, d.1, c.1⟩, skL [32, 71, 77, 84] c.2)
def p1L (s : St) : Mom × St :=
  let d := nuL 2 (skL [44, 32] s)
  let m := nmL moT 1 12 (skL [45] d.2)
  let y := nuL 2 (skL [45] m.2)
  let c := ckL (skL [32] y.2)
  (⟨fyN y.1, m.1, d.1, c.1⟩, skL [32, 71, 77, 84] c.2)
def p2L (s : St) : Mom × St :=
  let m := nmL moT 1 12 (skL [32] s)
  let d := sdL (skL [32] m.2)
  let c := ckL (skL [32] d.2)
  let y := nuL 4 (skL [32] c.2)
  (⟨y.1, m.1, d.1, c.1⟩, y.2)
/-- The seconds of a text, in one form: its weekday's names, and what reads what is behind. -/
def scL (f : Nat → List UInt8) (p : St → Mom × St) (s : List UInt8) : Option Nat :=
  let w := nmL f 0 7 (s, false)
  let r := p w.2
  if r.2.2 || !r.2.1.isEmpty then none
  else if DayOk r.1.y r.1.m r.1.d ∧ wdN (daysN r.1.y r.1.m r.1.d) = w.1 then some (86400 * daysN r.1.y r.1.m r.1.d + r.1.c) else none
def parL (s : List UInt8) : Option Nat :=
  match scL wsT p0L s with
  | some n => some n
  | none => match scL wkT p1L s with
    | some n => some n
    | none => scL wsT p2L s

end Go.Proofs.YtfabkceefigmhaaDoor
