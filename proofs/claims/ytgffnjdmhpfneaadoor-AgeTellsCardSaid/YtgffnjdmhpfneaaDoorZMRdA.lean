/- The contracts of the document's own calendar (sculleryref05). · The contracts of the document's own month lengths and days (sculleryref05). · The contracts of the document's own Days and day (sculleryref05). · Plain: what the document's own reader of dates reads at places, and that it reads the same dates. · The contracts of the document's own day and names (sculleryref05). · The contracts of the document's own digits and which (sculleryref05). -/
import Derived.Test.YtgffnjdmhpfneaaDoorZMDatA
import Derived.Test.YtgffnjdmhpfneaaDoorZMBasP
import Derived.Deep.RegionWith

namespace Go.Proofs.YtgffnjdmhpfneaaDoor
open Go.RowKit

/-- Is a year a leap year, as the document says it? -/
def leapB (y : Nat) : Bool := decide (y % 4 = 0 ∧ (y % 100 ≠ 0 ∨ y % 400 = 0))
theorem lp_leapB {y : Nat} (h : 1970 ≤ y) : lpN (y + 1) = lpN y + if leapB y then 1 else 0 := by
  rw [lp_leap h]
  unfold leapB
  simp only [decide_eq_true_eq]
theorem db_leapB {y : Nat} (h : 1970 ≤ y) : dbN (y + 1) = dbN y + 365 + if leapB y then 1 else 0 := by
  have h1 := lp_leapB h
  have h2 := lp_ge h
  unfold dbN
  omega
theorem ml_leapB {y : Nat} (h : 1970 ≤ y) : mlN y 2 = if leapB y then 29 else 28 := by
  have h1 := lp_leapB h
  unfold mlN
  rw [if_pos rfl, h1]
  split <;> omega

set_option maxHeartbeats 1000000 in
theorem rleap_any (y : Nat) (w : World) :
    Calls Tryd.prog 73 #[.int .i64 y] w fun e w' => e = .returned (.bool (leapB y)) ∧ w = w' := by
  unfold leapB
  by_cases h4 : y % 4 = 0
  · have d4 : ((y : Int) % 4 == 0) = true := by simp; omega
    by_cases h100 : y % 100 = 0
    · have d100 : ((y : Int) % 100 != 0) = false := by simp; omega
      by_cases h400 : y % 400 = 0
      · have d400 : ((y : Int) % 400 == 0) = true := by simp; omega
        rw [decide_eq_true (p := _ ∧ _) ⟨h4, .inr h400⟩]
        clear h4 h100 h400
        go_enter Tryd.func73, Tryd.ntmps73
        go_wp2_with fail
        go_ret
        exact ⟨rfl, rfl⟩
      · have d400 : ((y : Int) % 400 == 0) = false := by simp; omega
        rw [decide_eq_false (p := _ ∧ _) (by omega)]
        clear h4 h100 h400
        go_enter Tryd.func73, Tryd.ntmps73
        go_wp2_with fail
        go_ret
        exact ⟨rfl, rfl⟩
    · have d100 : ((y : Int) % 100 != 0) = true := by simp; omega
      rw [decide_eq_true (p := _ ∧ _) ⟨h4, .inl h100⟩]
      clear h4 h100
      go_enter Tryd.func73, Tryd.ntmps73
      go_wp2_with fail
      go_ret
      exact ⟨rfl, rfl⟩
  · have d4 : ((y : Int) % 4 == 0) = false := by simp; omega
    rw [decide_eq_false (p := _ ∧ _) (by omega)]
    clear h4
    go_enter Tryd.func73, Tryd.ntmps73
    go_wp2_with fail
    go_ret
    exact ⟨rfl, rfl⟩

set_option maxHeartbeats 1000000 in
theorem rweekday_any (k : Int) (w : World) (h0 : -9223372036854775808 ≤ k) (h1 : k ≤ 9223372036854775807) :
    Calls Tryd.prog 56 #[.int .i64 k] w fun e w' => e = .returned (.int .i64 (if k < 0 then 0 else (k % 7 + 4) % 7)) ∧ w = w' := by
  by_cases h : k < 0
  · rw [if_pos h]
    have d1 : decide (k < 0) = true := by simpa using h
    go_enter Tryd.func56, Tryd.ntmps56
    go_wp2
    go_ret
    exact ⟨rfl, rfl⟩
  · rw [if_neg h]
    obtain ⟨k, rfl⟩ := Int.eq_ofNat_of_zero_le (show 0 ≤ k by omega)
    have d1 : decide ((k : Int) < 0) = false := by simp
    go_enter Tryd.func56, Tryd.ntmps56
    go_wp2
    go_ret
    exact ⟨rfl, rfl⟩

end Go.Proofs.YtgffnjdmhpfneaaDoor

namespace Go.Proofs.YtgffnjdmhpfneaaDoor
open Go.RowKit

/-- The document's own table of months lies in memory. -/
abbrev lgC : Array Value := #[.int .i64 0, .int .i64 31, .int .i64 28, .int .i64 31, .int .i64 30, .int .i64 31, .int .i64 30, .int .i64 31, .int .i64 31, .int .i64 30, .int .i64 31, .int .i64 30, .int .i64 31]
theorem lg_at : ∀ j : Fin 13, 1 ≤ j.val → lgC[j.val]? = some (.int .i64 (mdT.getD (j.val - 1) 0 : Nat)) := by
  intro j h
  match j, h with
  | ⟨1, _⟩, _ | ⟨2, _⟩, _ | ⟨3, _⟩, _ | ⟨4, _⟩, _ | ⟨5, _⟩, _ | ⟨6, _⟩, _ | ⟨7, _⟩, _ | ⟨8, _⟩, _ | ⟨9, _⟩, _ | ⟨10, _⟩, _ | ⟨11, _⟩, _ | ⟨12, _⟩, _ => rfl
theorem alloc_at (w : World) (cs : Array Value) (T : TypeId) (m : Nat) (v : Value) (h : cs[m]? = some v) : (w.alloc (.cells cs T)).cell? ⟨w.heap.size, m, none⟩ = some v := by
  simp [h]

set_option maxHeartbeats 1000000 in
theorem rlong_any (y m : Nat) (w : World) (h1 : 1970 ≤ y) (h3 : 1 ≤ m) (h4 : m ≤ 12) :
    Calls Tryd.prog 72 #[.int .i64 y, .int .i64 m] w fun e w' => e = .returned (.int .i64 (mlN y m : Nat)) ∧ Below w.heap.size w w' := by
  have cL := fun W => rleap_any y W
  have hb : ∀ o, Below w.heap.size w (w.alloc o) := fun o => (Below.refl _ _).alloc (Nat.le_refl _) _
  by_cases hm : m = 2
  · subst hm
    rw [ml_leapB h1]
    cases hl : leapB y
    · rw [hl] at cL
      go_enter Tryd.func72, Tryd.ntmps72
      go_wp2_with fail
      refine (cL _).mono ?_
      rintro e w1 ⟨rfl, rfl⟩
      go_wp2_with fail
      go_ret
      exact ⟨rfl, hb _⟩
    · rw [hl] at cL
      go_enter Tryd.func72, Tryd.ntmps72
      go_wp2_with fail
      refine (cL _).mono ?_
      rintro e w1 ⟨rfl, rfl⟩
      go_wp2_with fail
      go_ret
      exact ⟨rfl, hb _⟩
  · have d1 : ((m : Int) == 2) = false := by simp; omega
    have hv : (mlN y m : Nat) = mdT.getD (m - 1) 0 := by unfold mlN; rw [if_neg hm]
    rw [hv]
    have hc := alloc_at w lgC 3 m _ (lg_at ⟨m, by omega⟩ h3)
    dsimp only at hc
    generalize mdT.getD (m - 1) 0 = l at *
    go_enter Tryd.func72, Tryd.ntmps72
    go_wp2_with fail
    go_ret
    exact ⟨rfl, hb _⟩

end Go.Proofs.YtgffnjdmhpfneaaDoor

namespace Go.Proofs.YtgffnjdmhpfneaaDoor
open Go.RowKit

set_option maxRecDepth 100000 in
set_option maxHeartbeats 4000000 in
theorem rdays_yes (y m d : Nat) (hk : DayOk y m d) (w : World) :
    Calls Tryd.prog 52 #[.int .i64 y, .int .i64 m, .int .i64 d] w fun e w' => e = .returned (.tuple #[.int .i64 (daysN y m d : Nat), .int .i64 0]) ∧ Below w.heap.size w w' := by
  have hy1 := hk.y1
  have hy2 := hk.y2
  have hm1 := hk.m1
  have hm2 := hk.m2
  have hd1 := hk.d1
  have hd2 := hk.d2
  have hlt := days_bound hk
  have cG := fun W => rlong_any y m W hy1 hm1 hm2
  have hH : Hid (daysN y m d = dbN y + msN y (m - 1) + d - 1) := Lib.hid rfl
  have hH2 : dbN y + msN y (m - 1) + d ≤ 3000000 := by unfold daysN at hlt; omega
  have d1 : decide ((y : Int) < 1970) = false := by simp; omega
  have d2 : decide ((y : Int) > 9999) = false := by simp; omega
  have d3 : decide ((m : Int) < 1) = false := by simp; omega
  have d4 : decide ((m : Int) > 12) = false := by simp; omega
  have d5 : decide ((d : Int) < 1) = false := by simp; omega
  clear hlt hk
  generalize mlN y m = lm at cG hd2
  have d6 : decide (lm < d) = false := by simp; omega
  go_enter Tryd.func52, Tryd.ntmps52
  go_wp2_with fail
  refine (cG _).mono ?_
  rintro e w1 ⟨rfl, hb1⟩
  go_wp2_with fail
  clear cG
  go_loopw [8, 9] (fun x i wr => ∃ k : Nat, i = .int .i64 k ∧ 1970 ≤ k ∧ k ≤ y ∧ x = .int .i64 (dbN k : Nat) ∧ Below w.heap.size w wr) (fun _ i _ => y - (intOf i).toNat)
  case atStart => exact ⟨1970, rfl, by omega, hy1, by rw [db_first] <;> rfl, hb1⟩
  case round =>
    obtain ⟨k, rfl, hk1, hk2, rfl, hb⟩ := hrel
    by_cases hlt : k < y
    · have cL := fun W => rleap_any k W
      have hs := db_leapB hk1
      have hmo := db_mono (y := k + 1) (z := y) (by omega) hlt
      cases hl : leapB k
      · rw [hl] at cL hs
        have hs2 : dbN (k + 1) = dbN k + 365 := hs
        have Hs := Lib.hid hs2
        have hq : dbN k ≤ 3000000 := by omega
        clear hs hs2 hmo hl hH hH2
        generalize dbN k = q at *
        go_wp2_with fail
        refine (cL _).mono ?_
        rintro e w3 ⟨rfl, rfl⟩
        go_wp2_with fail
        go_roundw
        case rel => exact ⟨k + 1, by go_num, by omega, by omega, by rw [Hs.out]; go_num, hb⟩
        case measure => simp [intOf]; omega
      · rw [hl] at cL hs
        have hs2 : dbN (k + 1) = dbN k + 365 + 1 := hs
        have Hs := Lib.hid hs2
        have hq : dbN k ≤ 3000000 := by omega
        clear hs hs2 hmo hl hH hH2
        generalize dbN k = q at *
        go_wp2_with fail
        refine (cL _).mono ?_
        rintro e w3 ⟨rfl, rfl⟩
        go_wp2_with fail
        go_roundw
        case rel => exact ⟨k + 1, by go_num, by omega, by omega, by rw [Hs.out]; go_num, hb⟩
        case measure => simp [intOf]; omega
    · obtain rfl : k = y := by omega
      generalize dbN k = b at *
      go_wp2_with fail
      go_loopw [8, 10] (fun x i wr2 => ∃ j : Nat, i = .int .i64 j ∧ 1 ≤ j ∧ j ≤ m ∧ x = .int .i64 (b + msN k (j - 1) : Nat) ∧ Below w.heap.size w wr2) (fun _ i _ => m - (intOf i).toNat)
      case atStart => exact ⟨1, rfl, by omega, by omega, rfl, hb⟩
      case round =>
        rename World => W1
        obtain ⟨j, rfl, hj1, hjm, rfl, hbj⟩ := hrel
        by_cases hlt : j < m
        · have cL := fun W => rlong_any k j W (by omega) (by omega) (by omega)
          have hs : msN k (j + 1 - 1) = msN k (j - 1) + mlN k j := by
            obtain ⟨i, rfl⟩ : ∃ i, j = i + 1 := ⟨j - 1, by omega⟩
            exact ms_step k i
          have hmo := ms_mono (y := k) (a := j + 1 - 1) (b := m - 1) (by omega)
          rw [hs] at hmo
          have Hs := Lib.hid hs
          clear hs
          generalize mlN k j = l at cL hmo Hs
          generalize hq : msN k (j - 1) = q at hmo Hs
          generalize msN k (m - 1) = z at hmo hH hH2
          go_wp2_with fail
          refine (cL _).mono ?_
          rintro e w3 ⟨rfl, hb3⟩
          go_wp2_with fail
          go_roundw
          case rel => exact ⟨j + 1, by go_num, by omega, by omega, by rw [Hs.out]; go_num, hbj.trans (hb3.mono hbj.size)⟩
          case measure => simp [intOf]; omega
        · obtain rfl : j = m := by omega
          go_wp2_with fail
          refine bodyPost_ret (v := .tuple #[.int .i64 (daysN k j d : Nat), .int .i64 0]) (by simp [results, Tryd.results52, go_sem]; rw [hH.out]; omega) rfl ⟨rfl, hbj⟩

set_option maxRecDepth 100000 in
set_option maxHeartbeats 4000000 in
theorem rdays_any (y m d : Int) (w : World) :
    Calls Tryd.prog 52 #[.int .i64 y, .int .i64 m, .int .i64 d] w fun e w' => e = .returned (daysV y m d) ∧ Below w.heap.size w w' := by
  cases hd : dayI y m d
  · have hv : daysV y m d = .tuple #[.int .i64 0, .int .i64 1] := by unfold daysV; rw [hd] <;> rfl
    rw [hv]
    by_cases q1 : y < 1970
    · have d1 : decide (y < 1970) = true := by simpa using q1
      clear hd hv
      go_enter Tryd.func52, Tryd.ntmps52
      go_wp2_with fail
      exact bodyPost_ret (v := .tuple #[.int .i64 0, .int .i64 1]) (by simp [results, Tryd.results52, go_sem]) rfl ⟨rfl, Below.refl _ _⟩
    · have d1 : decide (y < 1970) = false := by simpa using q1
      by_cases q2 : y > 9999
      · have d2 : decide (y > 9999) = true := by simpa using q2
        clear hd hv
        go_enter Tryd.func52, Tryd.ntmps52
        go_wp2_with fail
        exact bodyPost_ret (v := .tuple #[.int .i64 0, .int .i64 1]) (by simp [results, Tryd.results52, go_sem]) rfl ⟨rfl, Below.refl _ _⟩
      · have d2 : decide (y > 9999) = false := by simpa using q2
        by_cases q3 : m < 1
        · have d3 : decide (m < 1) = true := by simpa using q3
          clear hd hv
          go_enter Tryd.func52, Tryd.ntmps52
          go_wp2_with fail
          exact bodyPost_ret (v := .tuple #[.int .i64 0, .int .i64 1]) (by simp [results, Tryd.results52, go_sem]) rfl ⟨rfl, Below.refl _ _⟩
        · have d3 : decide (m < 1) = false := by simpa using q3
          by_cases q4 : m > 12
          · have d4 : decide (m > 12) = true := by simpa using q4
            clear hd hv
            go_enter Tryd.func52, Tryd.ntmps52
            go_wp2_with fail
            exact bodyPost_ret (v := .tuple #[.int .i64 0, .int .i64 1]) (by simp [results, Tryd.results52, go_sem]) rfl ⟨rfl, Below.refl _ _⟩
          · have d4 : decide (m > 12) = false := by simpa using q4
            by_cases q5 : d < 1
            · have d5 : decide (d < 1) = true := by simpa using q5
              clear hd hv
              go_enter Tryd.func52, Tryd.ntmps52
              go_wp2_with fail
              exact bodyPost_ret (v := .tuple #[.int .i64 0, .int .i64 1]) (by simp [results, Tryd.results52, go_sem]) rfl ⟨rfl, Below.refl _ _⟩
            · have d5 : decide (d < 1) = false := by simpa using q5
              obtain ⟨y, rfl⟩ := Int.eq_ofNat_of_zero_le (show 0 ≤ y by omega)
              obtain ⟨m, rfl⟩ := Int.eq_ofNat_of_zero_le (show 0 ≤ m by omega)
              obtain ⟨d, rfl⟩ := Int.eq_ofNat_of_zero_le (show 0 ≤ d by omega)
              have cG := fun W => rlong_any y m W (by omega) (by omega) (by omega)
              have hl : mlN y m < d := by
                rw [dayI_nat, decide_eq_false_iff_not] at hd
                by_cases h : d ≤ mlN y m
                · exact absurd ⟨by omega, by omega, by omega, by omega, by omega, h⟩ hd
                · omega
              clear hd hv
              generalize mlN y m = lm at *
              have d6 : decide (lm < d) = true := by simp; omega
              go_enter Tryd.func52, Tryd.ntmps52
              go_wp2_with fail
              refine (cG _).mono ?_
              rintro e w1 ⟨rfl, hb1⟩
              go_wp2_with fail
              exact bodyPost_ret (v := .tuple #[.int .i64 0, .int .i64 1]) (by simp [results, Tryd.results52, go_sem]) rfl ⟨rfl, hb1⟩
  · have hv : daysV y m d = .tuple #[.int .i64 (daysN y.toNat m.toNat d.toNat : Nat), .int .i64 0] := by unfold daysV; rw [if_pos hd]
    rw [hv]
    clear hv
    unfold dayI at hd
    obtain ⟨q1, q2, q3, hk⟩ := of_decide_eq_true hd
    obtain ⟨y, rfl⟩ := Int.eq_ofNat_of_zero_le q1
    obtain ⟨m, rfl⟩ := Int.eq_ofNat_of_zero_le q2
    obtain ⟨d, rfl⟩ := Int.eq_ofNat_of_zero_le q3
    exact rdays_yes y m d hk w

end Go.Proofs.YtgffnjdmhpfneaaDoor

namespace Go.Proofs.YtgffnjdmhpfneaaDoor

/-- The number of so many digits at a place; less than nothing where there are none. -/
def dgV (l : List UInt8) (i k : Nat) : Int := if decide (i + k ≤ l.length) && ((l.drop i).take k).all dgt then (valL ((l.drop i).take k) : Nat) else -1
/-- The month whose name stands at a place; nought where there is none. -/
def whG (p : List UInt8) : Nat → Nat → Nat
  | _, 0 => 0
  | a, k + 1 => if p = moT a then a else whG p (a + 1) k
def whV (l : List UInt8) (i : Nat) : Nat := whG ((l.drop i).take 3) 1 12
/-- Times of day at a place. -/
def tdV (l : List UInt8) (i : Nat) : Bool := decide (0 ≤ dgV l i 2 ∧ dgV l i 2 ≤ 23 ∧ 0 ≤ dgV l (i + 3) 2 ∧ dgV l (i + 3) 2 ≤ 59 ∧ 0 ≤ dgV l (i + 6) 2 ∧ dgV l (i + 6) 2 ≤ 59)
/-- The seconds that a text may tell. -/
def guV (l : List UInt8) (Y : Int) (mon : Nat) (D : Int) (ck : Nat) : Option Nat :=
  if 0 ≤ D ∧ dayI Y (whV l mon) D = true ∧ tdV l ck = true then
    some (86400 * daysN Y.toNat (whV l mon) D.toNat + (3600 * (dgV l ck 2).toNat + 60 * (dgV l (ck + 3) 2).toNat + (dgV l (ck + 6) 2).toNat))
  else none

theorem take_drop_at {A B C l : List UInt8} {i k : Nat} (hl : l = A ++ (B ++ C)) (hi : A.length = i) (hk : B.length = k) : (l.drop i).take k = B ∧ i + k ≤ l.length := by
  subst hl hi hk
  rw [List.drop_left, List.take_left]
  exact ⟨rfl, by simp⟩
theorem dg_at {A C l : List UInt8} {i k n : Nat} (hl : l = A ++ (padL k n ++ C)) (hi : A.length = i) (hn : n < 10 ^ k) : dgV l i k = (n : Int) := by
  obtain ⟨e, h⟩ := take_drop_at hl hi (padL_length k n)
  unfold dgV
  rw [e, padL_all, valL_padL k n hn, if_pos (by simpa using h)]
theorem dg_range (l : List UInt8) (i k : Nat) : -1 ≤ dgV l i k ∧ dgV l i k < 10 ^ k := by
  unfold dgV
  have h1 : (0 : Int) < 10 ^ k := Int.pow_pos (by omega)
  split
  · rename_i h
    simp only [Bool.and_eq_true, decide_eq_true_eq] at h
    have := (padL_valL k ((l.drop i).take k) (by rw [List.length_take, List.length_drop]; omega) h.2).2
    have h2 : ((valL ((l.drop i).take k) : Nat) : Int) < ((10 ^ k : Nat) : Int) := by exact_mod_cast this
    rw [Int.natCast_pow] at h2
    exact ⟨by omega, h2⟩
  · exact ⟨by omega, by omega⟩
theorem wh_names : ∀ j : Fin 13, 1 ≤ j.val → whG (moT j.val) 1 12 = j.val := by decide +kernel
theorem wh_at {A C l : List UInt8} {i m : Nat} (hl : l = A ++ (moT m ++ C)) (hi : A.length = i) (h1 : 1 ≤ m) (h2 : m < 13) : whV l i = m := by
  obtain ⟨e, _⟩ := take_drop_at hl hi (len_mo m h1 h2)
  unfold whV
  rw [e]
  exact wh_names ⟨m, h2⟩ h1
theorem whG_range (p : List UInt8) : ∀ k a, whG p a k < a + k ∨ whG p a k = 0
  | 0, _ => .inr rfl
  | k + 1, a => by
    rw [whG]
    split
    · exact .inl (by omega)
    · rcases whG_range p k (a + 1) with h | h
      · exact .inl (by omega)
      · exact .inr h
theorem wh_range (l : List UInt8) (i : Nat) : whV l i ≤ 12 := by
  have := whG_range ((l.drop i).take 3) 12 1
  unfold whV
  omega

theorem ck_at {A C l : List UInt8} {i c : Nat} (hl : l = A ++ (ckT c ++ C)) (hi : A.length = i) (hc : c < 86400) : dgV l i 2 = (c / 3600 : Nat) ∧ dgV l (i + 3) 2 = (c % 3600 / 60 : Nat) ∧ dgV l (i + 6) 2 = (c % 60 : Nat) := by
  refine ⟨dg_at (A := A) (C := [58] ++ (padL 2 (c % 3600 / 60) ++ ([58] ++ padL 2 (c % 60))) ++ C) ?_ hi (by omega), dg_at (A := A ++ (padL 2 (c / 3600) ++ [58])) (C := [58] ++ padL 2 (c % 60) ++ C) ?_ (by simp [padL_length, hi]) (by omega), dg_at (A := A ++ (padL 2 (c / 3600) ++ ([58] ++ (padL 2 (c % 3600 / 60) ++ [58])))) (C := C) ?_ (by simp [padL_length, hi]) (by omega)⟩
  all_goals (rw [hl]; simp [ckT])
theorem gu_eval {l : List UInt8} {Y D : Int} {mon ck y m d c : Nat} (hY : Y = y) (hD : D = d) (hm : whV l mon = m) (hc : dgV l ck 2 = (c / 3600 : Nat) ∧ dgV l (ck + 3) 2 = (c % 3600 / 60 : Nat) ∧ dgV l (ck + 6) 2 = (c % 60 : Nat)) (hk : DayOk y m d) (hc2 : c < 86400) :
    guV l Y mon D ck = some (86400 * daysN y m d + c) := by
  obtain ⟨h1, h2, h3⟩ := hc
  subst hY hD hm
  unfold guV tdV
  rw [h1, h2, h3, dayI_nat, if_pos ⟨by omega, by simpa using hk, decide_eq_true ⟨by omega, by omega, by omega, by omega, by omega, by omega⟩⟩]
  simp only [Int.toNat_natCast, Option.some.injEq]
  omega
theorem gu_some {l : List UInt8} {Y D : Int} {mon ck n : Nat} (h : guV l Y mon D ck = some n) : ∃ y m d c, DayOk y m d ∧ c < 86400 ∧ n = 86400 * daysN y m d + c := by
  unfold guV at h
  split at h
  · rename_i h2
    obtain ⟨h2, h3, h4⟩ := h2
    unfold dayI at h3
    have h3 := of_decide_eq_true h3
    unfold tdV at h4
    have h4 := of_decide_eq_true h4
    obtain ⟨_, _, _, hk⟩ := h3
    rw [Int.toNat_natCast] at hk
    exact ⟨_, _, _, _, hk, by omega, (Option.some.inj h).symm⟩
  · cases h

/-- The moment of some seconds. -/
noncomputable def momN (n : Nat) : Mom :=
  if h : n < 253402300800 then
    ⟨(secs_of n h).choose, (secs_of n h).choose_spec.choose, (secs_of n h).choose_spec.choose_spec.choose, (secs_of n h).choose_spec.choose_spec.choose_spec.choose⟩
  else ⟨1970, 1, 1, 0⟩
theorem mom_spec {n : Nat} (h : n < 253402300800) : DayOk (momN n).y (momN n).m (momN n).d ∧ (momN n).c < 86400 ∧ n = 86400 * daysN (momN n).y (momN n).m (momN n).d + (momN n).c := by
  unfold momN
  rw [dif_pos h]
  exact (secs_of n h).choose_spec.choose_spec.choose_spec.choose_spec
theorem secs_lt {y m d c : Nat} (hk : DayOk y m d) (hc : c < 86400) : 86400 * daysN y m d + c < 253402300800 := by
  have := days_bound hk
  omega
theorem mom_eq {y m d c : Nat} (hk : DayOk y m d) (hc : c < 86400) : momN (86400 * daysN y m d + c) = ⟨y, m, d, c⟩ := by
  obtain ⟨h1, h2, h3⟩ := mom_spec (secs_lt hk hc)
  generalize momN (86400 * daysN y m d + c) = M at *
  obtain ⟨y', m', d', c'⟩ := M
  obtain ⟨rfl, rfl, rfl, rfl⟩ := secs_inj hk h1 hc h2 h3
  rfl
/-- The three forms of some seconds; the second one is empty where its year has no two digits. -/
noncomputable def fm0 (n : Nat) : List UInt8 := tx0 (momN n).y (momN n).m (momN n).d (momN n).c
noncomputable def fm1 (n : Nat) : List UInt8 := if 2069 < (momN n).y then [] else tx1 (momN n).y (momN n).m (momN n).d (momN n).c
noncomputable def fm2 (n : Nat) : List UInt8 := tx2 (momN n).y (momN n).m (momN n).d (momN n).c
theorem gu_lt {l : List UInt8} {Y D : Int} {mon ck n : Nat} (h : guV l Y mon D ck = some n) : n < 253402300800 := by
  obtain ⟨y, m, d, c, hk, hc, rfl⟩ := gu_some h
  exact secs_lt hk hc

/-- The first form. -/
noncomputable def gu0 (l : List UInt8) : Option Nat := guV l (dgV l 12 4) 8 (dgV l 5 2) 17
theorem hit0 (l : List UInt8) (n : Nat) : gu0 l = some n ∧ fm0 n = l ↔ scL wsT p0L l = some n := by
  rw [sc0_iff]
  constructor
  · rintro ⟨hg, hf⟩
    obtain ⟨hk, hc, hn⟩ := mom_spec (gu_lt hg)
    exact ⟨_, _, _, _, hk, Nat.zero_le _, by have := hk.y2; omega, hc, hf.symm.trans (tx0_re _ _ _ _), hn⟩
  · rintro ⟨y, m, d, c, hk, _, _, hc, hl, rfl⟩
    have hw := len_ws (wdN (daysN y m d)) (by unfold wdN; omega)
    have hm := len_mo m hk.m1 (by have := hk.m2; omega)
    refine ⟨?_, ?_⟩
    · generalize wsT (wdN (daysN y m d)) = W at *
      have e5 : l = (W ++ [44, 32]) ++ (padL 2 d ++ ([32] ++ (moT m ++ ([32] ++ (padL 4 y ++ ([32] ++ (ckT c ++ [32, 71, 77, 84]))))))) := by rw [hl]; simp [re0]
      have e8 : l = (W ++ [44, 32] ++ (padL 2 d ++ [32])) ++ (moT m ++ ([32] ++ (padL 4 y ++ ([32] ++ (ckT c ++ [32, 71, 77, 84]))))) := by rw [hl]; simp [re0]
      have e12 : l = (W ++ [44, 32] ++ (padL 2 d ++ [32]) ++ (moT m ++ [32])) ++ (padL 4 y ++ ([32] ++ (ckT c ++ [32, 71, 77, 84]))) := by rw [hl]; simp [re0]
      have e17 : l = (W ++ [44, 32] ++ (padL 2 d ++ [32]) ++ (moT m ++ [32]) ++ (padL 4 y ++ [32])) ++ (ckT c ++ [32, 71, 77, 84]) := by rw [hl]; simp [re0]
      exact gu_eval (dg_at e12 (by simp [padL_length, hw, hm]) (by have := hk.y2; omega)) (dg_at e5 (by simp [hw]) (by have := ml_bounds hk.y1 hk.m1 hk.m2; have := hk.d2; omega)) (wh_at e8 (by simp [padL_length, hw]) hk.m1 (by have := hk.m2; omega)) (ck_at e17 (by simp [padL_length, hw, hm]) hc) hk hc
    · unfold fm0
      rw [mom_eq hk hc]
      exact hl.symm

/-- The second form, whose weekday ends at a place. -/
def ys1 (Y : Int) : Int := if 70 ≤ Y then Y + 1900 else Y + 2000
noncomputable def gu1 (l : List UInt8) (i : Nat) : Option Nat := guV l (ys1 (dgV l (i + 9) 2)) (i + 5) (dgV l (i + 2) 2) (i + 12)
theorem hit1 (l : List UInt8) (i n : Nat) (hg : gu1 l i = some n) (hf : fm1 n = l) (hi : i < l.length) : scL wkT p1L l = some n := by
  rw [sc1_iff]
  obtain ⟨hk, hc, hn⟩ := mom_spec (gu_lt hg)
  unfold fm1 at hf
  split at hf
  · rw [← hf] at hi
    cases hi
  · rename_i h
    exact ⟨_, _, _, _, hk, hk.y1, by omega, hc, hf.symm.trans (tx1_re _ _ _ _), hn⟩
theorem wk_comma : ∀ j : Fin 7, (wkT j.val).length < 12 ∧ ¬ (44 : UInt8) ∈ wkT j.val := by decide
theorem hit1_of {l : List UInt8} {n : Nat} (h : scL wkT p1L l = some n) : ∃ i, i < 12 ∧ l[i]? = some 44 ∧ (∀ j, j < i → l[j]? ≠ some 44) ∧ gu1 l i = some n ∧ fm1 n = l := by
  rw [sc1_iff] at h
  obtain ⟨y, m, d, c, hk, h1, h2, hc, hl, rfl⟩ := h
  obtain ⟨hw, hn⟩ := wk_comma ⟨wdN (daysN y m d), by unfold wdN; omega⟩
  have hm := len_mo m hk.m1 (by have := hk.m2; omega)
  dsimp only at hw hn
  refine ⟨(wkT (wdN (daysN y m d))).length, hw, ?_, ?_, ?_, ?_⟩
  · rw [hl, List.getElem?_append_right (Nat.le_refl _)]
    simp [re1]
  · intro j hj e
    rw [hl, List.getElem?_append_left hj] at e
    exact hn (List.mem_of_getElem? e)
  · generalize wkT (wdN (daysN y m d)) = W at *
    have e5 : l = (W ++ [44, 32]) ++ (padL 2 d ++ ([45] ++ (moT m ++ ([45] ++ (padL 2 (y % 100) ++ ([32] ++ (ckT c ++ [32, 71, 77, 84]))))))) := by rw [hl]; simp [re1]
    have e8 : l = (W ++ [44, 32] ++ (padL 2 d ++ [45])) ++ (moT m ++ ([45] ++ (padL 2 (y % 100) ++ ([32] ++ (ckT c ++ [32, 71, 77, 84]))))) := by rw [hl]; simp [re1]
    have e12 : l = (W ++ [44, 32] ++ (padL 2 d ++ [45]) ++ (moT m ++ [45])) ++ (padL 2 (y % 100) ++ ([32] ++ (ckT c ++ [32, 71, 77, 84]))) := by rw [hl]; simp [re1]
    have e17 : l = (W ++ [44, 32] ++ (padL 2 d ++ [45]) ++ (moT m ++ [45]) ++ (padL 2 (y % 100) ++ [32])) ++ (ckT c ++ [32, 71, 77, 84]) := by rw [hl]; simp [re1]
    have hy := dg_at e12 (i := W.length + 9) (by simp [padL_length, hm]) (by omega)
    exact gu_eval (by rw [hy]; unfold ys1; split <;> omega) (dg_at e5 (by simp) (by have := ml_bounds hk.y1 hk.m1 hk.m2; have := hk.d2; omega)) (wh_at e8 (by simp [padL_length]) hk.m1 (by have := hk.m2; omega)) (ck_at e17 (by simp [padL_length, hm]) hc) hk hc
  · unfold fm1
    rw [mom_eq hk hc, if_neg (by dsimp only; omega)]
    exact hl.symm

/-- The third form. -/
def ds2 (l : List UInt8) : Int := if dgV l 8 2 < 0 then dgV l 9 1 else dgV l 8 2
noncomputable def gu2 (l : List UInt8) : Option Nat := guV l (dgV l 20 4) 4 (ds2 l) 11
theorem hit2 (l : List UInt8) (n : Nat) : gu2 l = some n ∧ fm2 n = l ↔ scL wsT p2L l = some n := by
  rw [sc2_iff]
  constructor
  · rintro ⟨hg, hf⟩
    obtain ⟨hk, hc, hn⟩ := mom_spec (gu_lt hg)
    exact ⟨_, _, _, _, hk, Nat.zero_le _, by have := hk.y2; omega, hc, hf.symm.trans (tx2_re _ _ _ _), hn⟩
  · rintro ⟨y, m, d, c, hk, _, _, hc, hl, rfl⟩
    have hw := len_ws (wdN (daysN y m d)) (by unfold wdN; omega)
    have hm := len_mo m hk.m1 (by have := hk.m2; omega)
    have hs := len_sp d
    have hd100 : d < 100 := by have := ml_bounds hk.y1 hk.m1 hk.m2; have := hk.d2; omega
    refine ⟨?_, ?_⟩
    · generalize wsT (wdN (daysN y m d)) = W at *
      have e4 : l = (W ++ [32]) ++ (moT m ++ ([32] ++ (spT d ++ ([32] ++ (ckT c ++ ([32] ++ padL 4 y)))))) := by rw [hl]; simp [re2]
      have e8 : l = (W ++ [32] ++ (moT m ++ [32])) ++ (spT d ++ ([32] ++ (ckT c ++ ([32] ++ padL 4 y)))) := by rw [hl]; simp [re2]
      have e11 : l = (W ++ [32] ++ (moT m ++ [32]) ++ (spT d ++ [32])) ++ (ckT c ++ ([32] ++ padL 4 y)) := by rw [hl]; simp [re2]
      have e20 : l = (W ++ [32] ++ (moT m ++ [32]) ++ (spT d ++ [32]) ++ (ckT c ++ [32])) ++ (padL 4 y ++ []) := by rw [hl]; simp [re2]
      have hd : ds2 l = (d : Int) := by
        unfold ds2
        by_cases h10 : d < 10
        · have e9 : l = (W ++ [32] ++ (moT m ++ [32]) ++ [32]) ++ (padL 1 d ++ ([32] ++ (ckT c ++ ([32] ++ padL 4 y)))) := by rw [e8]; unfold spT; rw [if_pos h10]; simp
          have z : dgV l 8 2 = -1 := by
            obtain ⟨e, _⟩ := take_drop_at e8 (i := 8) (k := 2) (by simp [hw, hm]) hs
            unfold dgV
            rw [e, if_neg]
            unfold spT
            rw [if_pos h10]
            simp [dgt]
          rw [z, if_pos (by omega)]
          exact dg_at e9 (by simp [hw, hm]) (by omega)
        · have z : dgV l 8 2 = (d : Int) := by
            refine dg_at (A := W ++ [32] ++ (moT m ++ [32])) (C := [32] ++ (ckT c ++ ([32] ++ padL 4 y))) ?_ (by simp [hw, hm]) (by omega)
            rw [e8]
            unfold spT
            rw [if_neg h10]
          rw [z, if_neg (by omega)]
      exact gu_eval (dg_at e20 (by simp [hw, hm, hs, len_ck]) (by have := hk.y2; omega)) hd (wh_at e4 (by simp [hw]) hk.m1 (by have := hk.m2; omega)) (ck_at e11 (by simp [hw, hm, hs]) hc) hk hc
    · unfold fm2
      rw [mom_eq hk hc]
      exact hl.symm

end Go.Proofs.YtgffnjdmhpfneaaDoor

namespace Go.Proofs.YtgffnjdmhpfneaaDoor
open Go.RowKit

set_option maxRecDepth 100000 in
set_option maxHeartbeats 4000000 in
theorem rday_any (y m d : Nat) (hk : DayOk y m d) (w : World) :
    Calls Tryd.prog 54 #[.int .i64 (daysN y m d : Nat)] w fun e w' => e = .returned (.tuple #[.int .i64 y, .int .i64 m, .int .i64 d]) ∧ Below w.heap.size w w' := by
  have hy1 := hk.y1
  have hm1 := hk.m1
  have hm2 := hk.m2
  have hd1 := hk.d1
  have hd2 := hk.d2
  have hy2 := hk.y2
  obtain ⟨hl1, hl2⟩ := days_lt hk
  have hb := days_bound hk
  have hrest : daysN y m d = dbN y + msN y (m - 1) + (d - 1) := by unfold daysN; omega
  clear hk
  generalize daysN y m d = K at *
  go_enter Tryd.func54, Tryd.ntmps54
  go_wp2_with fail
  go_loop [0, 5] (fun x z => ∃ k r : Nat, z = .int .i64 k ∧ 1970 ≤ k ∧ k ≤ y ∧ x = .int .i64 r ∧ r + dbN k = K) (fun _ z => y - (intOf z).toNat)
  case atStart => exact ⟨1970, K, rfl, by omega, hy1, rfl, by rw [db_first] <;> rfl⟩
  case round =>
    obtain ⟨k, r, rfl, hk1, hk2, rfl, hr⟩ := hrel
    have cL := fun W => rleap_any k W
    have hs := db_leapB hk1
    by_cases hlt : k < y
    · have hmo := db_mono (y := k + 1) (z := y) (by omega) hlt
      cases hl : leapB k
      · rw [hl] at cL hs
        have hs2 : dbN (k + 1) = dbN k + 365 := hs
        have hr3 : Hid (r - 365 + dbN (k + 1) = K) := Lib.hid (by omega)
        have hr4 : ¬ r < 365 := by omega
        have hr5 : r ≤ 3000000 := by omega
        clear hs hs2 hmo hr hrest hl2
        go_wp2_with fail
        refine (cL _).mono ?_
        rintro e w1 ⟨rfl, rfl⟩
        go_wp2_with fail
        go_round
        case rel => exact ⟨k + 1, r - 365, by go_num, by omega, by omega, by go_num, hr3.out⟩
        case measure => simp [intOf]; omega
      · rw [hl] at cL hs
        have hs2 : dbN (k + 1) = dbN k + 365 + 1 := hs
        have hr3 : Hid (r - 366 + dbN (k + 1) = K) := Lib.hid (by omega)
        have hr4 : ¬ r < 366 := by omega
        have hr5 : r ≤ 3000000 := by omega
        clear hs hs2 hmo hr hrest hl2
        go_wp2_with fail
        refine (cL _).mono ?_
        rintro e w1 ⟨rfl, rfl⟩
        go_wp2_with fail
        go_round
        case rel => exact ⟨k + 1, r - 366, by go_num, by omega, by omega, by go_num, hr3.out⟩
        case measure => simp [intOf]; omega
    · obtain rfl : k = y := by omega
      have hr6 : Hid (r = msN k (m - 1) + (d - 1)) := Lib.hid (by omega)
      have hr5 : r ≤ 3000000 := by omega
      cases hl : leapB k
      · rw [hl] at cL hs
        have hs2 : dbN (k + 1) = dbN k + 365 := hs
        have hr4 : r < 365 := by omega
        have hr7 : decide ((r : Int) < 365) = true := by simp; omega
        clear hs hs2 hrest hl2 hl1 hr
        go_wp2_with fail
        refine (cL _).mono ?_
        rintro e w1 ⟨rfl, rfl⟩
        go_wp2_with fail
        go_loopw [0, 7] (fun x z wr => ∃ i r : Nat, z = .int .i64 i ∧ 1 ≤ i ∧ i ≤ m ∧ x = .int .i64 r ∧ r + msN k (i - 1) = msN k (m - 1) + (d - 1) ∧ r ≤ 3000000 ∧ Below w.heap.size w wr) (fun _ z _ => m - (intOf z).toNat)
        case atStart => exact ⟨1, r, rfl, by omega, by omega, rfl, hr6.out, hr5, Below.refl _ _⟩
        case round =>
          clear cL hr6 hr5
          obtain ⟨i, r, rfl, hi1, hi2, rfl, hr, hr5, hb1⟩ := hrel
          have cL := fun W => rlong_any k i W (by omega) (by omega) (by omega)
          by_cases hlt : i < m
          · have hs : msN k (i + 1 - 1) = msN k (i - 1) + mlN k i := by
              obtain ⟨j, rfl⟩ : ∃ j, i = j + 1 := ⟨i - 1, by omega⟩
              exact ms_step k j
            have hmo := ms_mono (y := k) (a := i + 1 - 1) (b := m - 1) (by omega)
            have hge : mlN k i ≤ r := by omega
            have hrr : Hid (r - mlN k i + msN k (i + 1 - 1) = msN k (m - 1) + (d - 1)) := Lib.hid (by omega)
            clear hs hmo hr
            generalize mlN k i = l at *
            go_wp2_with fail
            refine (cL _).mono ?_
            rintro e w2 ⟨rfl, hb2⟩
            have hb12 := hb1.trans (hb2.mono hb1.size)
            clear hb2
            go_wp2_with fail
            refine (cL _).mono ?_
            rintro e w3 ⟨rfl, hb3⟩
            go_wp2_with fail
            go_roundw
            case rel => exact ⟨i + 1, r - l, by go_num, by omega, by omega, by go_num, hrr.out, by omega, hb12.trans (hb3.mono hb12.size)⟩
            case measure => simp [intOf]; omega
          · obtain rfl : i = m := by omega
            have hrd : r = d - 1 := by omega
            subst hrd
            have hnl : ¬ (mlN k i ≤ d - 1) := by omega
            have hrr : (((d - 1 : Nat) : Int) + 1) = (d : Int) := by omega
            clear hr
            generalize mlN k i = l at *
            go_wp2_with fail
            refine (cL _).mono ?_
            rintro e w2 ⟨rfl, hb2⟩
            go_wp2_with fail
            exact bodyPost_ret (v := .tuple #[.int .i64 k, .int .i64 i, .int .i64 d]) (by simp [results, Tryd.results54, go_sem]) rfl ⟨rfl, hb1.trans (hb2.mono hb1.size)⟩
      · rw [hl] at cL hs
        have hs2 : dbN (k + 1) = dbN k + 365 + 1 := hs
        have hr4 : r < 366 := by omega
        have hr7 : decide ((r : Int) < 366) = true := by simp; omega
        clear hs hs2 hrest hl2 hl1 hr
        go_wp2_with fail
        refine (cL _).mono ?_
        rintro e w1 ⟨rfl, rfl⟩
        go_wp2_with fail
        go_loopw [0, 7] (fun x z wr => ∃ i r : Nat, z = .int .i64 i ∧ 1 ≤ i ∧ i ≤ m ∧ x = .int .i64 r ∧ r + msN k (i - 1) = msN k (m - 1) + (d - 1) ∧ r ≤ 3000000 ∧ Below w.heap.size w wr) (fun _ z _ => m - (intOf z).toNat)
        case atStart => exact ⟨1, r, rfl, by omega, by omega, rfl, hr6.out, hr5, Below.refl _ _⟩
        case round =>
          clear cL hr6 hr5
          obtain ⟨i, r, rfl, hi1, hi2, rfl, hr, hr5, hb1⟩ := hrel
          have cL := fun W => rlong_any k i W (by omega) (by omega) (by omega)
          by_cases hlt : i < m
          · have hs : msN k (i + 1 - 1) = msN k (i - 1) + mlN k i := by
              obtain ⟨j, rfl⟩ : ∃ j, i = j + 1 := ⟨i - 1, by omega⟩
              exact ms_step k j
            have hmo := ms_mono (y := k) (a := i + 1 - 1) (b := m - 1) (by omega)
            have hge : mlN k i ≤ r := by omega
            have hrr : Hid (r - mlN k i + msN k (i + 1 - 1) = msN k (m - 1) + (d - 1)) := Lib.hid (by omega)
            clear hs hmo hr
            generalize mlN k i = l at *
            go_wp2_with fail
            refine (cL _).mono ?_
            rintro e w2 ⟨rfl, hb2⟩
            have hb12 := hb1.trans (hb2.mono hb1.size)
            clear hb2
            go_wp2_with fail
            refine (cL _).mono ?_
            rintro e w3 ⟨rfl, hb3⟩
            go_wp2_with fail
            go_roundw
            case rel => exact ⟨i + 1, r - l, by go_num, by omega, by omega, by go_num, hrr.out, by omega, hb12.trans (hb3.mono hb12.size)⟩
            case measure => simp [intOf]; omega
          · obtain rfl : i = m := by omega
            have hrd : r = d - 1 := by omega
            subst hrd
            have hnl : ¬ (mlN k i ≤ d - 1) := by omega
            have hrr : (((d - 1 : Nat) : Int) + 1) = (d : Int) := by omega
            clear hr
            generalize mlN k i = l at *
            go_wp2_with fail
            refine (cL _).mono ?_
            rintro e w2 ⟨rfl, hb2⟩
            go_wp2_with fail
            exact bodyPost_ret (v := .tuple #[.int .i64 k, .int .i64 i, .int .i64 d]) (by simp [results, Tryd.results54, go_sem]) rfl ⟨rfl, hb1.trans (hb2.mono hb1.size)⟩

theorem ds_at : ∀ k : Fin 10, (⟨#[48, 49, 50, 51, 52, 53, 54, 55, 56, 57]⟩ : ByteArray).extract k.val (k.val + 1) = strB [digC k.val] := by
  intro k
  refine (one_at _ k.val (by simp [Lib.size_eq])).trans ?_
  match k with
  | ⟨0, _⟩ | ⟨1, _⟩ | ⟨2, _⟩ | ⟨3, _⟩ | ⟨4, _⟩ | ⟨5, _⟩ | ⟨6, _⟩ | ⟨7, _⟩ | ⟨8, _⟩ | ⟨9, _⟩ => rfl
theorem two_pad (a b : Nat) (hb : b < 10) : strB (padL 2 (10 * a + b)) = strB [digC a] ++ strB [digC b] := by
  rw [strB_append]
  congr 1
  have e1 : (10 * a + b) / 10 = a := by omega
  have e2 : digC (10 * a + b) = digC b := by unfold digC; rw [show (10 * a + b) % 10 = b % 10 by omega]
  rw [padL, padL, padL, e1, e2]
  rfl

set_option maxHeartbeats 1000000 in
theorem rtwo_any (n : Nat) (w : World) (hn : n < 100) :
    Calls Tryd.prog 57 #[.int .i64 n] w fun e w' => e = .returned (.string (strB (padL 2 n))) ∧ Below w.heap.size w w' := by
  obtain ⟨a, ha⟩ : ∃ a, a = n / 10 := ⟨_, rfl⟩
  obtain ⟨b, hb⟩ : ∃ b, b = n % 10 := ⟨_, rfl⟩
  have hv : strB (padL 2 n) = (⟨#[48, 49, 50, 51, 52, 53, 54, 55, 56, 57]⟩ : ByteArray).extract a (a + 1) ++ (⟨#[48, 49, 50, 51, 52, 53, 54, 55, 56, 57]⟩ : ByteArray).extract b (b + 1) := by
    rw [show n = 10 * a + b by omega, two_pad a b (by omega), ds_at ⟨a, by omega⟩, ds_at ⟨b, by omega⟩]
  rw [hv]
  have e1 : (n : Int) / 10 = (a : Int) := by omega
  have e2 : (n : Int) % 10 = (b : Int) := by omega
  have b1 : a < 10 := by omega
  have b2 : b < 10 := by omega
  have w1 := wrap_small ((a : Int) + 1) (by omega) (by omega)
  have w2 := wrap_small ((b : Int) + 1) (by omega) (by omega)
  clear ha hb hv hn
  go_enter Tryd.func57, Tryd.ntmps57
  go_wp2_with fail
  go_quiet (fail)
  go_wp2_with fail
  go_ret
  exact ⟨rfl, below_drewN _ _⟩

theorem below_alloc (w : World) (o : Obj) : Below w.heap.size w (w.alloc o) := (Below.refl _ _).alloc (Nat.le_refl _) _
abbrev wkC : Array Value := #[.string ⟨#[83, 117, 110, 100, 97, 121]⟩, .string ⟨#[77, 111, 110, 100, 97, 121]⟩, .string ⟨#[84, 117, 101, 115, 100, 97, 121]⟩, .string ⟨#[87, 101, 100, 110, 101, 115, 100, 97, 121]⟩, .string ⟨#[84, 104, 117, 114, 115, 100, 97, 121]⟩, .string ⟨#[70, 114, 105, 100, 97, 121]⟩, .string ⟨#[83, 97, 116, 117, 114, 100, 97, 121]⟩]
abbrev moC : Array Value := #[.string ⟨#[]⟩, .string ⟨#[74, 97, 110]⟩, .string ⟨#[70, 101, 98]⟩, .string ⟨#[77, 97, 114]⟩, .string ⟨#[65, 112, 114]⟩, .string ⟨#[77, 97, 121]⟩, .string ⟨#[74, 117, 110]⟩, .string ⟨#[74, 117, 108]⟩, .string ⟨#[65, 117, 103]⟩, .string ⟨#[83, 101, 112]⟩, .string ⟨#[79, 99, 116]⟩, .string ⟨#[78, 111, 118]⟩, .string ⟨#[68, 101, 99]⟩]
theorem wk_at : ∀ j : Fin 7, wkC[j.val]? = some (.string (strB (wkT j.val))) := by
  intro j
  match j with
  | ⟨0, _⟩ | ⟨1, _⟩ | ⟨2, _⟩ | ⟨3, _⟩ | ⟨4, _⟩ | ⟨5, _⟩ | ⟨6, _⟩ => rfl
theorem mo_at : ∀ j : Fin 13, 1 ≤ j.val → moC[j.val]? = some (.string (strB (moT j.val))) := by
  intro j h
  match j, h with
  | ⟨1, _⟩, _ | ⟨2, _⟩, _ | ⟨3, _⟩, _ | ⟨4, _⟩, _ | ⟨5, _⟩, _ | ⟨6, _⟩, _ | ⟨7, _⟩, _ | ⟨8, _⟩, _ | ⟨9, _⟩, _ | ⟨10, _⟩, _ | ⟨11, _⟩, _ | ⟨12, _⟩, _ => rfl

set_option maxHeartbeats 1000000 in
theorem rwkname_any (j : Nat) (w : World) (hj : j < 7) :
    Calls Tryd.prog 55 #[.int .i64 j] w fun e w' => e = .returned (.string (strB (wkT j))) ∧ Below w.heap.size w w' := by
  have hb : ∀ o, Below w.heap.size w (w.alloc o) := below_alloc w
  have hc := alloc_at w wkC 9 j _ (wk_at ⟨j, hj⟩)
  dsimp only at hc
  generalize strB (wkT j) = s at *
  go_enter Tryd.func55, Tryd.ntmps55
  go_wp2_with fail
  go_ret
  exact ⟨rfl, hb _⟩

set_option maxHeartbeats 1000000 in
theorem rmoname_any (j : Nat) (w : World) (h1 : 1 ≤ j) (h2 : j < 13) :
    Calls Tryd.prog 58 #[.int .i64 j] w fun e w' => e = .returned (.string (strB (moT j))) ∧ Below w.heap.size w w' := by
  have hb : ∀ o, Below w.heap.size w (w.alloc o) := below_alloc w
  have hc := alloc_at w moC 9 j _ (mo_at ⟨j, h2⟩ h1)
  dsimp only at hc
  generalize strB (moT j) = s at *
  go_enter Tryd.func58, Tryd.ntmps58
  go_wp2_with fail
  go_ret
  exact ⟨rfl, hb _⟩

end Go.Proofs.YtgffnjdmhpfneaaDoor

namespace Go.Proofs.YtgffnjdmhpfneaaDoor
open Go.RowKit

theorem take_next {l : List UInt8} {i p : Nat} (hi : i ≤ p) (hp : p < (strB l).size) : (l.drop i).take (p + 1 - i) = (l.drop i).take (p - i) ++ [(strB l)[p]] := by
  obtain ⟨j, rfl⟩ : ∃ j, p = i + j := ⟨p - i, by omega⟩
  rw [show i + j + 1 - i = j + 1 by omega, show i + j - i = j by omega, List.take_add_one, List.getElem?_drop, List.getElem?_eq_getElem (by rw [strB_size] at hp; exact hp)]
  rfl
theorem dgV_no {l : List UInt8} {i k : Nat} (h : ¬ (i + k ≤ l.length ∧ ((l.drop i).take k).all dgt = true)) : dgV l i k = -1 := by
  unfold dgV
  rw [if_neg]
  simp only [Bool.and_eq_true, decide_eq_true_eq]
  exact h
theorem dgV_yes {l : List UInt8} {i k : Nat} (h1 : i + k ≤ l.length) (h2 : ((l.drop i).take k).all dgt = true) : dgV l i k = (valL ((l.drop i).take k) : Nat) := by
  unfold dgV
  rw [if_pos (by rw [h2]; simpa using h1)]
theorem not_all {l : List UInt8} {i k p : Nat} (hi : i ≤ p) (hp : p < i + k) (hs : p < (strB l).size) (hd : dgt (strB l)[p] = false) : ((l.drop i).take k).all dgt = false := by
  have hsub : (l.drop i).take k = (l.drop i).take (p + 1 - i) ++ ((l.drop i).take k).drop (p + 1 - i) := by
    rw [show (l.drop i).take (p + 1 - i) = ((l.drop i).take k).take (p + 1 - i) by rw [List.take_take, Nat.min_eq_left (by omega)], List.take_append_drop]
  rw [hsub, take_next hi hs, List.all_append, List.all_append]
  simp [hd]

set_option maxRecDepth 100000 in
set_option maxHeartbeats 2000000 in
theorem rdigits_any (l : List UInt8) (i k : Nat) (w : World) (hk1 : 1 ≤ k) (hk : k ≤ 4) (hi : i ≤ 1000) (hl : l.length ≤ maxLen) :
    Calls Tryd.prog 37 #[.string (strB l), .int .i64 i, .int .i64 k] w fun e w' => e = .returned (.int .i64 (dgV l i k)) ∧ w = w' := by
  have hz := strB_size l
  unfold maxLen at hl
  have hS : ∀ p, (h1 : i ≤ p) → (h2 : p < (strB l).size) → (l.drop i).take (p + 1 - i) = (l.drop i).take (p - i) ++ [(strB l)[p]] := fun p h1 h2 => take_next h1 h2
  have hN : ∀ p, i ≤ p → p < i + k → (h : p < (strB l).size) → dgt (strB l)[p] = false → dgV l i k = -1 := fun p h1 h2 h3 h4 => dgV_no (fun h => by rw [not_all h1 h2 h3 h4] at h; cases h.2)
  generalize strB l = t at *
  go_enter Tryd.func37, Tryd.ntmps37
  go_wp2_with fail
  go_loop [7, 8] (fun x z => ∃ p : Nat, i ≤ p ∧ p ≤ i + k ∧ z = .int .i64 p ∧ x = .int .i64 (valL ((l.drop i).take (p - i)) : Nat) ∧ Hid (((l.drop i).take (p - i)).all dgt = true) ∧ (p ≤ l.length ∨ p = i)) (fun _ z => i + k - (intOf z).toNat)
  case atStart => exact ⟨i, Nat.le_refl _, by omega, rfl, by rw [Nat.sub_self] <;> rfl, Lib.hid (by rw [Nat.sub_self] <;> rfl), .inr rfl⟩
  case round =>
    obtain ⟨p, hp1, hp2, rfl, rfl, hA, hor⟩ := hrel
    by_cases hlt : p < i + k
    · have hltI : (p : Int) < (i : Int) + (k : Int) := by omega
      have g0 : decide ((p : Int) < 0) = false := by simp
      by_cases hin : p < t.size
      · have hT := hS p hp1 hin
        have hvn : valL ((l.drop i).take (p - i)) ≤ 9999 := by
          have := valL_lt _ hA.out
          have h2 : ((l.drop i).take (p - i)).length ≤ 4 := by rw [List.length_take]; omega
          have h10 : 10 ^ ((l.drop i).take (p - i)).length ≤ 10 ^ 4 := Nat.pow_le_pow_right (by omega) h2
          omega
        have hj : decide (t.size ≤ p) = false := by simp; omega
        cases hd : dgt t[p]
        · have HN := Lib.hid (hN p hp1 hlt hin hd)
          clear hS hT hN hA hor hz hvn
          unfold dgt at hd
          have hcn : (t[p].toNat : Int) < 48 ∨ (57 : Int) < t[p].toNat := by
            simp only [Bool.and_eq_false_iff, decide_eq_false_iff_not] at hd
            omega
          clear hd
          generalize valL ((l.drop i).take (p - i)) = n at *
          rcases hcn with h1 | h1
          · have g1 : decide ((t[p].toNat : Int) < 48) = true := by simpa using h1
            go_wp2_with fail
            go_ret
            exact ⟨by rw [HN.out] <;> rfl, rfl⟩
          · have g1 : decide ((t[p].toNat : Int) < 48) = false := by simp; omega
            have g2 : decide ((57 : Int) < t[p].toNat) = true := by simpa using h1
            go_wp2_with fail
            go_ret
            exact ⟨by rw [HN.out] <;> rfl, rfl⟩
        · have hv : Hid (valL ((l.drop i).take (p + 1 - i)) = 10 * valL ((l.drop i).take (p - i)) + (t[p].toNat - 48)) := Lib.hid (by rw [hT, valL_snoc])
          have hA2 : Hid (((l.drop i).take (p + 1 - i)).all dgt = true) := Lib.hid (by rw [hT, List.all_append, hA.out]; simp [hd])
          unfold dgt at hd
          simp only [Bool.and_eq_true, decide_eq_true_eq] at hd
          obtain ⟨h1, h2⟩ := hd
          have g1 : decide ((t[p].toNat : Int) < 48) = false := by simp; omega
          have g2 : decide ((57 : Int) < t[p].toNat) = false := by simp; omega
          have hw : ((t[p].toNat - 48 : Nat) : Int) = (t[p].toNat : Int) - 48 := by omega
          clear hS hT hN hA hor
          generalize valL ((l.drop i).take (p - i)) = n at *
          go_wp2_with fail
          go_round
          case rel => exact ⟨p + 1, by omega, by omega, by go_num, by rw [hv.out]; go_num, hA2, .inl (by omega)⟩
          case measure => simp [intOf]; omega
      · have hj : decide (t.size ≤ p) = true := by simp; omega
        have HN : Hid (dgV l i k = -1) := Lib.hid (dgV_no (by omega))
        clear hS hN hA hor
        generalize valL ((l.drop i).take (p - i)) = n at *
        go_wp2_with fail
        go_ret
        exact ⟨by rw [HN.out] <;> rfl, rfl⟩
    · obtain rfl : p = i + k := by omega
      rw [Nat.add_sub_cancel_left] at hA ⊢
      have HN : Hid (dgV l i k = (valL ((l.drop i).take k) : Nat)) := Lib.hid (by
        rcases hor with h | h
        · exact dgV_yes h hA.out
        · omega)
      clear hS hN hA hor
      generalize valL ((l.drop i).take k) = n at *
      go_wp2_with fail
      go_ret
      exact ⟨by rw [HN.out] <;> rfl, rfl⟩

end Go.Proofs.YtgffnjdmhpfneaaDoor
