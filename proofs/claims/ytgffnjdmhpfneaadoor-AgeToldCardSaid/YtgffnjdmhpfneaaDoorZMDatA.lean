/- The contracts of the calendar of package date. · The contracts of what package date prints with: names, the day of a number, padded numbers, the time of a day. · The contracts of padded, clockText and Print of package date. · The contracts of clockText and Print of package date. · What the law EtagHeld asks of dates and fields. · Plain: what the law's 'awake' over package age asks. · The reader of a date in memory, and the contracts of its methods skip, number, spacedDay, upTo, clock. · The contracts of named, weekday and month of package date's reader. · The contracts of the three parsers of package date. · The contracts of parseFirst, parseSecond, parseThird of package date. · The contracts of seconds, forms and Parse of package date. -/
import Derived.Test.YtgffnjdmhpfneaaDoorShelf
import Derived.Test.YtgffnjdmhpfneaaDoorRows
import Derived.Test.YtgffnjdmhpfneaaDoorZMBasP
import Derived.Test.YtgffnjdmhpfneaaDoorZMHdS
import Derived.WalkKit
import Derived.WalkSpells
import Derived.WalkLawsBesides
import Derived.Lib.Hide
import Derived.Deep.LoopGhost
import Derived.BigQuiet
import Derived.Deep.QuietTactic
import Derived.IntWalk
import Derived.Deep.RegionWith
import Derived.OwnWalk

namespace Go.Proofs.YtgffnjdmhpfneaaDoor
open Go.RowKit

/-- The tables of package date lie in memory. -/
structure Cal (w : World) : Prop where
  md : ∀ j, j < 12 → w.cell? ⟨1, j, none⟩ = some (.int .i64 (mdT.getD j 0 : Nat))
  wk : ∀ j, j < 7 → w.cell? ⟨0, j, none⟩ = some (.string (strB (wkT j)))
  mo : ∀ j, j < 12 → w.cell? ⟨3, j, none⟩ = some (.string (strB (moT (j + 1))))

theorem Cal.below {w w' : World} (h : Cal w) (hb : Below w.heap.size w w') : Cal w' :=
  ⟨fun j hj => (hb.cell (p := ⟨_, j, none⟩) (lt_of_cell (h.md j hj))).trans (h.md j hj), fun j hj => (hb.cell (p := ⟨_, j, none⟩) (lt_of_cell (h.wk j hj))).trans (h.wk j hj), fun j hj => (hb.cell (p := ⟨_, j, none⟩) (lt_of_cell (h.mo j hj))).trans (h.mo j hj)⟩
theorem Cal.drew {w : World} (h : Cal w) (n : Nat) : Cal (w.drewN n) := ⟨h.md, h.wk, h.mo⟩

/-- The number of leap years, of a year that is told as Go's number. -/
def lpI (x : Int) : Int := (x - 1) / 4 - (x - 1) / 100 + (x - 1) / 400
theorem lpI_nat (y : Nat) (h : 1 ≤ y) : lpI y = (lpN y : Nat) := by unfold lpI lpN; omega

set_option maxHeartbeats 1000000 in
theorem leapsI_any (x : Int) (w : World) (h1 : 1 ≤ x) (h2 : x ≤ 20000) :
    Calls Tryd.prog 80 #[.int .i64 x] w fun e w' => e = .returned (.int .i64 (lpI x)) ∧ w = w' := by
  unfold lpI
  go_enter Tryd.func80, Tryd.ntmps80
  go_wp2
  go_ret
  exact ⟨rfl, rfl⟩
theorem leaps_any (y : Nat) (w : World) (h1 : 1 ≤ y) (h2 : y ≤ 20000) :
    Calls Tryd.prog 80 #[.int .i64 y] w fun e w' => e = .returned (.int .i64 (lpN y : Nat)) ∧ w = w' := by
  rw [← lpI_nat y h1]
  exact leapsI_any y w (by omega) (by omega)

set_option maxHeartbeats 1000000 in
theorem daysBefore_any (y : Nat) (w : World) (h1 : 1970 ≤ y) (h2 : y ≤ 19999) :
    Calls Tryd.prog 70 #[.int .i64 y] w fun e w' => e = .returned (.int .i64 (dbN y : Nat)) ∧ w = w' := by
  have c1 := leaps_any y w (by omega) (by omega)
  have c2 := leaps_any 1970 w (by omega) (by omega)
  rw [show lpN 1970 = 477 by decide] at c2
  have hg := lp_ge h1
  have hl := lp_le h1
  have hv : (dbN y : Int) = 365 * ((y : Int) - 1970) + (lpN y : Int) - 477 := by unfold dbN; omega
  rw [hv]
  clear hv
  generalize lpN y = l at *
  go_enter Tryd.func70, Tryd.ntmps70
  go_wp2_with fail
  refine c1.mono ?_
  rintro e w1 ⟨rfl, rfl⟩
  go_wp2_with fail
  refine c2.mono ?_
  rintro e w1 ⟨rfl, rfl⟩
  go_wp2_with fail
  go_ret
  exact ⟨rfl, rfl⟩

set_option maxHeartbeats 1000000 in
theorem weekday_any (k : Int) (w : World) (h0 : -9223372036854775808 ≤ k) (h1 : k ≤ 9223372036854775807) :
    Calls Tryd.prog 51 #[.int .i64 k] w fun e w' => e = .returned (.int .i64 (if k < 0 then 0 else (k % 7 + 4) % 7)) ∧ w = w' := by
  by_cases h : k < 0
  · rw [if_pos h]
    have d1 : decide (k < 0) = true := by simpa using h
    go_enter Tryd.func51, Tryd.ntmps51
    go_wp2
    go_ret
    exact ⟨rfl, rfl⟩
  · rw [if_neg h]
    obtain ⟨k, rfl⟩ := Int.eq_ofNat_of_zero_le (show 0 ≤ k by omega)
    have d1 : decide ((k : Int) < 0) = false := by simp
    go_enter Tryd.func51, Tryd.ntmps51
    go_wp2
    go_ret
    exact ⟨rfl, rfl⟩

set_option maxHeartbeats 1000000 in
theorem fullYear_any (n : Nat) (w : World) (h : n ≤ 99) :
    Calls Tryd.prog 66 #[.int .i64 n] w fun e w' => e = .returned (.int .i64 (fyN n : Nat)) ∧ w = w' := by
  unfold fyN
  by_cases h7 : 1970 ≤ 1900 + n
  · rw [if_pos h7, show ((1900 + n : Nat) : Int) = 1900 + (n : Int) by omega]
    have d1 : (1970 : Int) ≤ 1900 + (n : Int) := by omega
    go_enter Tryd.func66, Tryd.ntmps66
    go_wp2
    go_ret
    exact ⟨rfl, rfl⟩
  · rw [if_neg h7, show ((2000 + n : Nat) : Int) = 2000 + (n : Int) by omega]
    have d1 : ¬ (1970 : Int) ≤ 1900 + (n : Int) := by omega
    go_enter Tryd.func66, Tryd.ntmps66
    go_wp2
    go_ret
    exact ⟨rfl, rfl⟩

theorem quiet_same {P : Program} {f : FuncId} {args : Array Value} {w : World} {n : Nat} {v : Value}
    (h : Calls P f args (w.drewN n) fun e w' => e = .returned v ∧ w.drewN n = w') :
    Calls P f args (w.drewN n) fun e w'' => e = .returned v ∧ ∃ m, w'' = w.drewN m :=
  h.mono fun _ _ ⟨he, hm⟩ => ⟨he, n, hm.symm⟩

theorem wrap_small (x : Int) (h0 : -9223372036854775808 ≤ x) (h1 : x ≤ 9223372036854775807) : IntKind.i64.wrap x = x := by
  rw [IntKind.wrap_i64]
  omega

set_option maxHeartbeats 2000000 in
theorem monthLength_any (y m : Nat) (w : World) (h1 : 1970 ≤ y) (h2 : y ≤ 19999) (h3 : 1 ≤ m) (h4 : m ≤ 12) (hC : Cal w) :
    Calls Tryd.prog 71 #[.int .i64 y, .int .i64 m] w fun e w' => e = .returned (.int .i64 (mlN y m : Nat)) ∧ Below w.heap.size w w' := by
  have hc := hC.md (m - 1) (by omega)
  clear hC
  have e0 : ((m : Int) - 1) = ((m - 1 : Nat) : Int) := by omega
  unfold mlN
  by_cases hm : m = 2
  · subst hm
    rw [if_pos rfl]
    have c1 := fun x W => leapsI_any x W
    have g1 := lp_step h1
    have g2 := lp_ge h1
    have g3 := lp_le h1
    have e1 : lpI ((y : Int) + 1) = (lpN (y + 1) : Nat) := by rw [← lpI_nat (y + 1) (by omega)] <;> rfl
    have e2 : lpI (y : Int) = (lpN y : Nat) := lpI_nat y (by omega)
    have hv : ((28 + (lpN (y + 1) - lpN y) : Nat) : Int) = 28 + lpI ((y : Int) + 1) - lpI (y : Int) := by rw [e1, e2]; omega
    rw [hv]
    clear hv e0
    have w3 := wrap_small (28 + lpI ((y : Int) + 1)) (by omega) (by omega)
    have w4 := wrap_small (28 + lpI ((y : Int) + 1) - lpI (y : Int)) (by omega) (by omega)
    have w2 := wrap_small ((y : Int) + 1) (by omega) (by omega)
    clear e1 e2 g1 g2 g3
    rw [show ((mdT.getD (2 - 1) 0 : Nat) : Int) = 28 by decide] at hc
    have hc2 : w.cell? ⟨1, 1, none⟩ = some (.int .i64 28) := hc
    clear hc
    show Calls Tryd.prog 71 #[.int .i64 y, .int .i64 2] w _
    have w1 : IntKind.i64.wrap 1 = 1 := by decide
    go_enter Tryd.func71, Tryd.ntmps71
    go_wp2_with fail
    go_quiet ((go_at_call 80; exact quiet_same (c1 _ _ (by omega) (by omega))))
    go_wp2_with fail
    go_ret
    exact ⟨rfl, below_drewN _ _⟩
  · rw [if_neg hm]
    have d1 : ((m : Int) == 2) = false := by simp; omega
    generalize mdT.getD (m - 1) 0 = l at *
    go_enter Tryd.func71, Tryd.ntmps71
    go_wp2
    go_ret
    exact ⟨rfl, Below.refl _ _⟩

/-- Whether three numbers are a day. -/
def dayI (y m d : Int) : Bool := decide (0 ≤ y ∧ 0 ≤ m ∧ 0 ≤ d ∧ DayOk y.toNat m.toNat d.toNat)
theorem dayI_nat (y m d : Nat) : dayI y m d = decide (DayOk y m d) := by
  unfold dayI
  rw [Bool.eq_iff_iff]
  simp only [decide_eq_true_eq, Int.toNat_natCast]
  exact ⟨fun h => h.2.2.2, fun h => ⟨by omega, by omega, by omega, h⟩⟩

theorem dayI_no {y m d : Int} (h : ¬ (1970 ≤ y ∧ y ≤ 9999 ∧ 1 ≤ m ∧ m ≤ 12 ∧ 1 ≤ d)) : dayI y m d = false := by
  unfold dayI
  rw [decide_eq_false_iff_not]
  rintro ⟨h1, h2, h3, k⟩
  have := k.y1
  have := k.y2
  have := k.m1
  have := k.m2
  have := k.d1
  omega

set_option maxHeartbeats 4000000 in
theorem isDay_any (y m d : Int) (w : World) (hC : Cal w) :
    Calls Tryd.prog 69 #[.int .i64 y, .int .i64 m, .int .i64 d] w fun e w' => e = .returned (.bool (dayI y m d)) ∧ Below w.heap.size w w' := by
  have HC := Lib.hid hC
  clear hC
  by_cases hin : 1970 ≤ y ∧ y ≤ 9999 ∧ 1 ≤ m ∧ m ≤ 12 ∧ 1 ≤ d
  · obtain ⟨q1, q2, q3, q4, q5⟩ := hin
    obtain ⟨y, rfl⟩ := Int.eq_ofNat_of_zero_le (show 0 ≤ y by omega)
    obtain ⟨m, rfl⟩ := Int.eq_ofNat_of_zero_le (show 0 ≤ m by omega)
    obtain ⟨d, rfl⟩ := Int.eq_ofNat_of_zero_le (show 0 ≤ d by omega)
    have cL := fun W hW => monthLength_any y m W (by omega) (by omega) (by omega) (by omega) hW
    have hv : dayI (y : Int) m d = decide (d ≤ mlN y m) := by
      rw [dayI_nat, Bool.eq_iff_iff]
      simp only [decide_eq_true_eq]
      exact ⟨fun h => h.d2, fun h => ⟨by omega, by omega, by omega, by omega, by omega, h⟩⟩
    rw [hv]
    clear hv
    generalize mlN y m = l at *
    have d1 : decide (1970 ≤ (y : Int)) = true := by simpa using q1
    have d2 : decide ((y : Int) ≤ 9999) = true := by simpa using q2
    have d3 : decide (1 ≤ (m : Int)) = true := by simpa using q3
    have d4 : decide ((m : Int) ≤ 12) = true := by simpa using q4
    have d5 : decide (1 ≤ (d : Int)) = true := by simpa using q5
    go_enter Tryd.func69, Tryd.ntmps69
    go_wp2_with fail
    refine (cL _ HC.out).mono ?_
    rintro e w1 ⟨rfl, hb1⟩
    go_wp2_with fail
    go_ret
    exact ⟨rfl, hb1⟩
  · rw [dayI_no hin]
    by_cases q1 : 1970 ≤ y
    · have d1 : decide (1970 ≤ y) = true := by simpa using q1
      by_cases q2 : y ≤ 9999
      · have d2 : decide (y ≤ 9999) = true := by simpa using q2
        by_cases q3 : 1 ≤ m
        · have d3 : decide (1 ≤ m) = true := by simpa using q3
          by_cases q4 : m ≤ 12
          · have d4 : decide (m ≤ 12) = true := by simpa using q4
            have d5 : decide (1 ≤ d) = false := by simp; omega
            clear hin
            go_enter Tryd.func69, Tryd.ntmps69
            go_wp2_with fail
            go_ret
            exact ⟨rfl, Below.refl _ _⟩
          · have d4 : decide (m ≤ 12) = false := by simpa using q4
            clear hin
            go_enter Tryd.func69, Tryd.ntmps69
            go_wp2_with fail
            go_ret
            exact ⟨rfl, Below.refl _ _⟩
        · have d3 : decide (1 ≤ m) = false := by simpa using q3
          clear hin
          go_enter Tryd.func69, Tryd.ntmps69
          go_wp2_with fail
          go_ret
          exact ⟨rfl, Below.refl _ _⟩
      · have d2 : decide (y ≤ 9999) = false := by simpa using q2
        clear hin
        go_enter Tryd.func69, Tryd.ntmps69
        go_wp2_with fail
        go_ret
        exact ⟨rfl, Below.refl _ _⟩
    · have d1 : decide (1970 ≤ y) = false := by simpa using q1
      clear hin
      go_enter Tryd.func69, Tryd.ntmps69
      go_wp2_with fail
      go_ret
      exact ⟨rfl, Below.refl _ _⟩

/-- What Days answers. -/
def daysV (y m d : Int) : Value := if dayI y m d then .tuple #[.int .i64 (daysN y.toNat m.toNat d.toNat : Nat), .int .i64 0] else .tuple #[.int .i64 0, .int .i64 1]

set_option maxHeartbeats 4000000 in
theorem days_any (y m d : Int) (w : World) (hC : Cal w) :
    Calls Tryd.prog 50 #[.int .i64 y, .int .i64 m, .int .i64 d] w fun e w' => e = .returned (daysV y m d) ∧ Below w.heap.size w w' := by
  have cI := isDay_any y m d w hC
  have HC := Lib.hid hC
  clear hC
  unfold daysV
  cases hd : dayI y m d
  · rw [hd] at cI
    rw [if_neg (by simp)]
    clear hd
    go_enter Tryd.func50, Tryd.ntmps50
    go_wp2_with fail
    refine cI.mono ?_
    rintro e w1 ⟨rfl, hb1⟩
    go_wp2_with fail
    exact bodyPost_ret (v := .tuple #[.int .i64 0, .int .i64 1]) (by simp [results, Tryd.results50, go_sem]) rfl ⟨rfl, hb1⟩
  · rw [hd] at cI
    rw [if_pos rfl]
    unfold dayI at hd
    obtain ⟨q1, q2, q3, hk⟩ := of_decide_eq_true hd
    clear hd
    obtain ⟨y, rfl⟩ := Int.eq_ofNat_of_zero_le q1
    obtain ⟨m, rfl⟩ := Int.eq_ofNat_of_zero_le q2
    obtain ⟨d, rfl⟩ := Int.eq_ofNat_of_zero_le q3
    simp only [Int.toNat_natCast] at hk cI ⊢
    have hy1 := hk.y1
    have hy2 := hk.y2
    have hm1 := hk.m1
    have hm2 := hk.m2
    have hd1 := hk.d1
    have hlt := days_bound hk
    have cB := fun W => daysBefore_any y W (by omega) (by omega)
    have hH : Hid (daysN y m d = dbN y + msN y (m - 1) + d - 1) := Lib.hid rfl
    have hH2 : dbN y + msN y (m - 1) + d ≤ 3000000 := by unfold daysN at hlt; omega
    clear hlt q1 q2 q3 hk
    generalize hb0 : dbN y = b at cB hH hH2
    clear hb0
    go_enter Tryd.func50, Tryd.ntmps50
    go_wp2_with fail
    refine cI.mono ?_
    rintro e w1 ⟨rfl, hb1⟩
    go_wp2_with fail
    refine (cB _).mono ?_
    rintro e w2 ⟨rfl, rfl⟩
    go_wp2_with fail
    go_loopw [8, 9] (fun x i wr => ∃ k : Nat, i = .int .i64 k ∧ 1 ≤ k ∧ k ≤ m ∧ x = .int .i64 (b + msN y (k - 1) : Nat) ∧ Below w.heap.size w wr) (fun _ i _ => m - (intOf i).toNat)
    case atStart => exact ⟨1, rfl, by omega, by omega, rfl, hb1⟩
    case round =>
      obtain ⟨k, rfl, hk1, hkm, rfl, hb⟩ := hrel
      by_cases hlt : k < m
      · have cL := fun W hW => monthLength_any y k W (by omega) (by omega) (by omega) (by omega) hW
        have hCr : Hid (Cal wr) := Lib.hid (HC.out.below hb)
        have hs : msN y (k + 1 - 1) = msN y (k - 1) + mlN y k := by
          obtain ⟨j, rfl⟩ : ∃ j, k = j + 1 := ⟨k - 1, by omega⟩
          exact ms_step y j
        have hmo := ms_mono (y := y) (a := k + 1 - 1) (b := m - 1) (by omega)
        rw [hs] at hmo
        have Hs := Lib.hid hs
        clear hs
        generalize mlN y k = l at cL hmo Hs
        generalize hq : msN y (k - 1) = q at hmo Hs
        generalize msN y (m - 1) = z at hmo hH hH2
        go_wp2_with fail
        refine (cL _ hCr.out).mono ?_
        rintro e w3 ⟨rfl, hb3⟩
        go_wp2_with fail
        go_roundw
        case rel => exact ⟨k + 1, by go_num, by omega, by omega, by rw [Hs.out]; congr 1; omega, hb.trans (hb3.mono hb.size)⟩
        case measure => simp [intOf]; omega
      · obtain rfl : k = m := by omega
        go_wp2_with fail
        refine bodyPost_ret (v := .tuple #[.int .i64 (daysN y k d : Nat), .int .i64 0]) (by simp [results, Tryd.results50, go_sem]; rw [hH.out]; omega) rfl ⟨rfl, hb⟩

end Go.Proofs.YtgffnjdmhpfneaaDoor

namespace Go.Proofs.YtgffnjdmhpfneaaDoor
open Go.RowKit

theorem wk_len : ∀ j : Fin 7, 3 ≤ (wkT j.val).length ∧ (wkT j.val).length ≤ 9 := by decide

set_option maxHeartbeats 1000000 in
theorem fullWeekday_any (j : Nat) (w : World) (hj : j < 7) (hC : Cal w) :
    Calls Tryd.prog 46 #[.int .i64 j] w fun e w' => e = .returned (.string (strB (wkT j))) ∧ w = w' := by
  have hc := hC.wk j hj
  clear hC
  generalize strB (wkT j) = s at *
  go_enter Tryd.func46, Tryd.ntmps46
  go_wp2
  go_ret
  exact ⟨rfl, rfl⟩

set_option maxHeartbeats 1000000 in
theorem shortWeekday_any (j : Nat) (w : World) (hj : j < 7) (hC : Cal w) :
    Calls Tryd.prog 44 #[.int .i64 j] w fun e w' => e = .returned (.string (strB (wsT j))) ∧ w = w' := by
  have hc := hC.wk j hj
  clear hC
  have hs : 3 ≤ (strB (wkT j)).size ∧ (strB (wkT j)).size ≤ 9 := by rw [strB_size]; exact wk_len ⟨j, hj⟩
  have hv : strB (wsT j) = (strB (wkT j)).extract 0 3 := (strB_take _ _).symm
  rw [hv]
  clear hv
  generalize strB (wkT j) = s at *
  obtain ⟨h3, h9⟩ := hs
  go_enter Tryd.func44, Tryd.ntmps44
  go_wp2
  go_ret
  exact ⟨rfl, rfl⟩

set_option maxHeartbeats 1000000 in
theorem monthName_any (j : Nat) (w : World) (h1 : 1 ≤ j) (h2 : j ≤ 12) (hC : Cal w) :
    Calls Tryd.prog 77 #[.int .i64 j] w fun e w' => e = .returned (.string (strB (moT j))) ∧ w = w' := by
  have hc := hC.mo (j - 1) (by omega)
  rw [show j - 1 + 1 = j by omega] at hc
  clear hC
  have e0 : ((j : Int) - 1) = ((j - 1 : Nat) : Int) := by omega
  generalize strB (moT j) = s at *
  go_enter Tryd.func77, Tryd.ntmps77
  go_wp2
  go_ret
  exact ⟨rfl, rfl⟩

theorem weekday_nat (k : Nat) (w : World) (h1 : k ≤ 3000000) :
    Calls Tryd.prog 51 #[.int .i64 k] w fun e w' => e = .returned (.int .i64 (wdN k : Nat)) ∧ w = w' := by
  refine (weekday_any k w (by omega) (by omega)).mono ?_
  rintro e w' ⟨rfl, rfl⟩
  refine ⟨?_, rfl⟩
  congr 2
theorem wdN_lt (k : Nat) : wdN k < 7 := by unfold wdN; omega

theorem db_le {z : Nat} (h : 1970 ≤ z) : dbN z ≤ 366 * (z - 1970) := by
  unfold dbN lpN
  omega

end Go.Proofs.YtgffnjdmhpfneaaDoor

namespace Go.Proofs.YtgffnjdmhpfneaaDoor
open Go.RowKit

theorem info_u8d : (Tryd.prog.info? 5).map (fun i => (i.zero, i.size, i.bytes)) = some (some (.int .u8 0), 1, 1) := by kernel_rfl

theorem set_mid {α : Type} (p q : List α) (x y : α) : (p ++ x :: q).set p.length y = p ++ y :: q := by
  induction p with
  | nil => rfl
  | cons c p ih => simp [ih]

theorem pad_split (j m : Nat) (D : List UInt8) : padL (j + 1) m ++ D = padL j (m / 10) ++ digC m :: D := by
  rw [padL]
  simp

/-- A row of which the last bytes are written. -/
def padR (j : Nat) (D : List UInt8) : List Value := (List.replicate j 0 ++ D).map u8V
theorem padR_set (j : Nat) (c : UInt8) (D : List UInt8) : (padR (j + 1) D).set j (u8V c) = padR j (c :: D) := by
  unfold padR
  rw [List.replicate_succ', List.append_assoc, List.map_append, List.map_append, List.map_append]
  have := set_mid ((List.replicate j (0 : UInt8)).map u8V) (D.map u8V) (u8V 0) (u8V c)
  rw [List.length_map, List.length_replicate] at this
  exact this

end Go.Proofs.YtgffnjdmhpfneaaDoor

namespace Go.Proofs.YtgffnjdmhpfneaaDoor
open Go.RowKit

theorem pad_size (k n : Nat) : (strB (padL k n)).size = k := by rw [strB_size, padL_length]
theorem eq_strB {s : ByteArray} {l : List UInt8} (h : s.data.toList = l) : s = strB l := by rw [← h, strB_of]

theorem ck_size {c : Nat} (_ : c < 86400) : (strB (ckT c)).size = 8 := by
  rw [strB_size]
  simp [ckT, padL_length]
theorem ws_size (k : Nat) (h : k < 7) : (strB (wsT k)).size = 3 := by
  have : ∀ j : Fin 7, (wsT j.val).length = 3 := by decide
  rw [strB_size]
  exact this ⟨k, h⟩
theorem mo_size (k : Nat) (h1 : 1 ≤ k) (h2 : k ≤ 12) : (strB (moT k)).size = 3 := by
  have : ∀ j : Fin 13, 1 ≤ j.val → (moT j.val).length = 3 := by decide
  rw [strB_size]
  exact this ⟨k, by omega⟩ h1

end Go.Proofs.YtgffnjdmhpfneaaDoor

namespace Go.Proofs.YtgffnjdmhpfneaaDoor
open Go.RowKit

theorem datE_of {a b : List UInt8} {n m : Nat} (h : parL a = some n) (h2 : parL b = some m) : datE a b = decide (m ≤ n) := by unfold datE; rw [h]; dsimp only; rw [h2]
theorem join_one (a b n : List UInt8) (k : Nat) (h : b.length ≤ k) : (joinH (allH [(a, b)] n)).length ≤ k := by
  unfold allH
  by_cases h1 : a = n
  · simp [h1, joinH, tailH, h]
  · simp [h1, joinH]
theorem join_two (a b c d n : List UInt8) (k : Nat) (h : b.length + d.length + 2 ≤ k) : (joinH (allH [(a, b), (c, d)] n)).length ≤ k := by
  unfold allH
  by_cases h1 : a = n <;> by_cases h2 : c = n <;> simp [h1, h2, joinH, tailH] <;> omega
theorem ok_one (a b : List UInt8) (h1 : a.length ≤ 100000) (h2 : b.length ≤ 100000) : FldsOk [(a, b)] := ⟨by simp, fun p hp => by
  obtain rfl := List.mem_singleton.1 hp
  exact ⟨h1, h2⟩⟩
theorem ok_two (a b c d : List UInt8) (h1 : a.length ≤ 100000) (h2 : b.length ≤ 100000) (h3 : c.length ≤ 100000) (h4 : d.length ≤ 100000) : FldsOk [(a, b), (c, d)] := ⟨by simp, fun p hp => by
  rcases List.mem_cons.1 hp with rfl | hp
  · exact ⟨h1, h2⟩
  · obtain rfl := List.mem_singleton.1 hp
    exact ⟨h3, h4⟩⟩
/-- Two fields that were just made. -/
theorem flds_two (W : World) (a b c d : List UInt8) (T : TypeId) : Flds 0 (W.alloc (.cells #[.string (strB a), .string (strB b), .string (strB c), .string (strB d)] T)) (.slice (some ⟨W.heap.size, 0, none⟩) 2 2) [(a, b), (c, d)] := by
  refine ⟨_, 2, rfl, .inr ⟨W.heap.size, 0, rfl, Nat.zero_le _, by simp, fun j p hj => ?_⟩⟩
  match j, hj with
  | 0, hj =>
    obtain rfl := Option.some.inj hj
    exact ⟨by simp, by simp⟩
  | 1, hj =>
    obtain rfl := Option.some.inj hj
    exact ⟨by simp, by simp⟩
  | j + 2, hj => simp at hj
theorem txtE_len (t : Tg) : t.2.length + 2 ≤ (txtE t).length ∧ (txtE t).length ≤ t.2.length + 4 := by
  unfold txtE
  cases t.1 <;> simp <;> omega
theorem vldE_x (t : Tg) (h : vldE t = true) : vldE (false, t.2 ++ [120]) = true := by
  unfold vldE at h ⊢
  rw [List.all_append, h]
  rfl

end Go.Proofs.YtgffnjdmhpfneaaDoor

namespace Go.Proofs.YtgffnjdmhpfneaaDoor
open Go.RowKit

def agF : List Fld := [(nDateA, [84, 104, 117, 44, 32, 48, 49, 32, 74, 97, 110, 32, 49, 57, 55, 48, 32, 48, 48, 58, 48, 49, 58, 48, 48, 32, 71, 77, 84]), (nAgeA, [53])]
theorem ag_1 : curA agF 100 110 130 = 70 := by decide +kernel
theorem ag_2 : toldA agF = 5 := by decide +kernel
theorem ag_3 : dateA agF 7 = 60 := by decide +kernel
theorem ag_4 : dateA [] 7 = 7 := by decide +kernel
theorem ag_5 : sumA [2147483648, 5] = 2147483648 := by decide +kernel
theorem ag_6 : sumA [3, -5] = 0 := by decide +kernel
theorem ag_7 : clA (-1) = 0 := by decide +kernel
theorem ag_ok : FldsOk agF := ok_two _ _ _ _ (by decide) (by decide) (by decide) (by decide)
theorem ag_j (n : List UInt8) : (joinH (allH agF n)).length ≤ 90000 := join_two _ _ _ _ n _ (by decide)
theorem ag_nil (n : List UInt8) : (joinH (allH [] n)).length ≤ 90000 := by simp [allH, joinH]
theorem ag_nok : FldsOk [] := ⟨by simp, fun p hp => by cases hp⟩

end Go.Proofs.YtgffnjdmhpfneaaDoor

namespace Go.Proofs.YtgffnjdmhpfneaaDoor
open Go.RowKit

/-- The world is as it was but for block b, and for new blocks. -/
structure Moved (b : Nat) (w w' : World) : Prop where
  os : w'.os = w.os
  tape : w'.tape = w.tape
  output : w'.output = w.output
  size : w.heap.size ≤ w'.heap.size
  block : ∀ k, k < w.heap.size → k ≠ b → w'.heap[k]? = w.heap[k]?

theorem Moved.refl (b : Nat) (w : World) : Moved b w w := ⟨rfl, rfl, rfl, Nat.le_refl _, fun _ _ _ => rfl⟩
theorem Moved.of_below {b : Nat} {w w' : World} (h : Below w.heap.size w w') : Moved b w w' := ⟨h.os, h.tape, h.output, h.size, fun k hk _ => h.block k hk⟩
theorem Moved.trans {b : Nat} {u v w : World} (h : Moved b u v) (k : Moved b v w) : Moved b u w :=
  ⟨k.os.trans h.os, k.tape.trans h.tape, k.output.trans h.output, Nat.le_trans h.size k.size, fun i hi hb => (k.block i (Nat.lt_of_lt_of_le hi h.size) hb).trans (h.block i hi hb)⟩
theorem Moved.below {b B : Nat} {w w' : World} (h : Moved b w w') (h1 : B ≤ b) (h2 : B ≤ w.heap.size) : Below B w w' :=
  ⟨h.os, h.tape, h.output, h.size, fun k hk => h.block k (Nat.lt_of_lt_of_le hk h2) (by omega)⟩
theorem Moved.cell {b : Nat} {w w' : World} (h : Moved b w w') {p : Addr} (h1 : p.block < w.heap.size) (h2 : p.block ≠ b) : w'.cell? p = w.cell? p := World.cell?_of_block (w := w) (h.block p.block h1 h2)
theorem Moved.frozen {b : Nat} {w w' : World} (h : Moved b w w') {p : Addr} (h1 : p.block < w.heap.size) (h2 : p.block ≠ b) : w'.frozen? p = w.frozen? p := World.frozen?_of_block (w := w) (h.block p.block h1 h2)
theorem Moved.setCell {b o : Nat} {w W : World} (h : Moved b w W) (v : Value) : Moved b w (W.setCell ⟨b, o, none⟩ v) := by
  exact ⟨h.os, h.tape, h.output, by simpa using h.size, fun k hk1 hb => (Below.heap_setCell W ⟨b, o, none⟩ v k hb).trans (h.block k hk1 hb)⟩
theorem Moved.drew {b : Nat} {w W : World} (h : Moved b w W) (n : Nat) : Moved b w (W.drewN n) := ⟨h.os, h.tape, h.output, h.size, h.block⟩

/-- A reader lies at block b: what is left, and whether something was wrong. -/
structure Txt (w : World) (b : Nat) (s : St) : Prop where
  c0 : w.cell? ⟨b, 0, none⟩ = some (.string (strB s.1))
  c1 : w.cell? ⟨b, 1, none⟩ = some (.bool s.2)
  f0 : w.frozen? ⟨b, 0, none⟩ = false
  f1 : w.frozen? ⟨b, 1, none⟩ = false
  sz : s.1.length ≤ maxLen

theorem Txt.lt {w : World} {b : Nat} {s : St} (h : Txt w b s) : b < w.heap.size := lt_of_cell h.c0
theorem Txt.drew {w : World} {b : Nat} {s : St} (h : Txt w b s) (n : Nat) : Txt (w.drewN n) b s := ⟨h.c0, h.c1, h.f0, h.f1, h.sz⟩
theorem Txt.below {w W : World} {b : Nat} {s : St} (h : Txt w b s) (hb : Below w.heap.size w W) : Txt W b s :=
  ⟨(hb.cell (p := ⟨b, 0, none⟩) h.lt).trans h.c0, (hb.cell (p := ⟨b, 1, none⟩) h.lt).trans h.c1, (hb.frozen (p := ⟨b, 0, none⟩) h.lt).trans h.f0, (hb.frozen (p := ⟨b, 1, none⟩) h.lt).trans h.f1, h.sz⟩
theorem Txt.rest {w : World} {b : Nat} {s : St} (h : Txt w b s) (r : List UInt8) (hr : r.length ≤ s.1.length) : Txt (w.setCell ⟨b, 0, none⟩ (.string (strB r))) b (r, s.2) :=
  ⟨World.cell?_setCell_same w ⟨b, 0, none⟩ _ h.c0, (World.cell?_setCell_other w ⟨b, 0, none⟩ ⟨b, 1, none⟩ _ (by simp)).trans h.c1, by rw [World.frozen?_setCell]; exact h.f0, by rw [World.frozen?_setCell]; exact h.f1, Nat.le_trans hr h.sz⟩
theorem Txt.wrong {w : World} {b : Nat} {s : St} (h : Txt w b s) : Txt (w.setCell ⟨b, 1, none⟩ (.bool true)) b (s.1, true) :=
  ⟨(World.cell?_setCell_other w ⟨b, 1, none⟩ ⟨b, 0, none⟩ _ (by simp)).trans h.c0, World.cell?_setCell_same w ⟨b, 1, none⟩ _ h.c1, by rw [World.frozen?_setCell]; exact h.f0, by rw [World.frozen?_setCell]; exact h.f1, h.sz⟩

theorem Cal.moved {w w' : World} {b : Nat} {s : St} (h : Cal w) (ht : Txt w b s) (hm : Moved b w w') : Cal w' := by
  have n1 : 1 ≠ b := by
    rintro rfl
    have := (h.md 1 (by omega)).symm.trans ht.c1
    simp at this
  have n2 : 0 ≠ b := by
    rintro rfl
    have := (h.wk 1 (by omega)).symm.trans ht.c1
    simp at this
  have n3 : 3 ≠ b := by
    rintro rfl
    have := (h.mo 1 (by omega)).symm.trans ht.c1
    simp at this
  exact ⟨fun j hj => (hm.cell (p := ⟨_, j, none⟩) (lt_of_cell (h.md j hj)) n1).trans (h.md j hj), fun j hj => (hm.cell (p := ⟨_, j, none⟩) (lt_of_cell (h.wk j hj)) n2).trans (h.wk j hj), fun j hj => (hm.cell (p := ⟨_, j, none⟩) (lt_of_cell (h.mo j hj)) n3).trans (h.mo j hj)⟩

/-- What a method of the reader leaves. -/
def txtPost (v : Value) (b : Nat) (s : St) (w : World) (e : Ending) (w' : World) : Prop := e = .returned v ∧ Txt w' b s ∧ Moved b w w'

set_option maxHeartbeats 1000000 in
theorem skip_any (b : Nat) (s : St) (p : ByteArray) (w : World) (h : Txt w b s) :
    Calls Tryd.prog 62 #[.pointer (some ⟨b, 0, none⟩), .string p] w (txtPost (.tuple #[]) b (skL p.data.toList s) w) := by
  have HT := Lib.hid h
  have c0 := h.c0
  have c1 := h.c1
  have f0 := h.f0
  have f1 := h.f1
  clear h
  have cC := fun W => Tryd.strings_CutPrefix (strB s.1) p W
  rw [strB_data, Lib.trimPrefix] at cC
  unfold skL
  have hpp : Lib.hasPrefix s.1 p.data.toList = p.data.toList.isPrefixOf s.1 := rfl
  rw [hpp] at cC
  cases hp : p.data.toList.isPrefixOf s.1
  · rw [hp] at cC
    simp only [Bool.false_eq_true, if_false] at cC ⊢
    generalize (⟨s.1.toArray⟩ : ByteArray) = q at cC
    go_enter Tryd.func62, Tryd.ntmps62
    go_wp2_with fail
    refine (cC _).mono ?_
    rintro e w1 ⟨rfl, rfl⟩
    go_wp2_with fail
    exact bodyPost_ret (v := .tuple #[]) (by simp [results, Tryd.results62, go_sem]) rfl ⟨rfl, HT.out.wrong, (Moved.refl b _).setCell _⟩
  · rw [hp] at cC
    simp only [if_true] at cC ⊢
    have hq : (⟨(s.1.drop p.data.toList.length).toArray⟩ : ByteArray) = strB (s.1.drop p.data.toList.length) := rfl
    rw [hq] at cC
    clear hq
    have hl : (s.1.drop p.data.toList.length).length ≤ s.1.length := by simp
    generalize s.1.drop p.data.toList.length = r at *
    generalize hQ : strB r = q at cC
    have HQ := Lib.hid hQ
    clear hQ
    go_enter Tryd.func62, Tryd.ntmps62
    go_wp2_with fail
    refine (cC _).mono ?_
    rintro e w1 ⟨rfl, rfl⟩
    go_wp2_with fail
    exact bodyPost_ret (v := .tuple #[]) (by simp [results, Tryd.results62, go_sem]) rfl ⟨rfl, HQ.out ▸ HT.out.rest r hl, (Moved.refl b _).setCell _⟩

theorem hasPrefix_one (s : ByteArray) (c : UInt8) (w : World) :
    Calls Tryd.prog 79 #[.string s, .string ⟨#[c]⟩] w fun e w' => e = .returned (.bool (s.data.toList.head? == some c)) ∧ w = w' := by
  refine (Tryd.strings_HasPrefix s ⟨#[c]⟩ w).mono ?_
  rintro e w' ⟨rfl, rfl⟩
  refine ⟨?_, rfl⟩
  congr 2
  rw [show (⟨#[c]⟩ : ByteArray).data.toList = [c] from rfl]
  cases hl : s.data.toList with
  | nil => rfl
  | cons d r =>
    unfold Lib.hasPrefix
    rw [Bool.eq_iff_iff]
    simp only [List.isPrefixOf, Bool.and_true, beq_iff_eq, List.head?_cons, Option.some.injEq]
    exact eq_comm

theorem valL_lt (l : List UInt8) (h : l.all dgt = true) : valL l < 10 ^ l.length := (padL_valL l.length l rfl h).2

theorem nuL_no {k : Nat} {s : St} (h : (decide (k ≤ s.1.length) && (s.1.take k).all dgt) = false) : nuL k s = (0, s.1, true) := by
  unfold nuL
  rw [h]
  rfl
theorem nuL_yes {k : Nat} {s : St} (h : (decide (k ≤ s.1.length) && (s.1.take k).all dgt) = true) : nuL k s = (valL (s.1.take k), s.1.drop k, s.2) := by
  unfold nuL
  rw [h]
  rfl
theorem nuL_lt (k : Nat) (s : St) : (nuL k s).1 < 10 ^ k := by
  cases h : (decide (k ≤ s.1.length) && (s.1.take k).all dgt)
  · rw [nuL_no h]
    exact Nat.pow_pos (by omega)
  · rw [nuL_yes h]
    simp only [Bool.and_eq_true, decide_eq_true_eq] at h
    have := valL_lt _ h.2
    rw [List.length_take, Nat.min_eq_left h.1] at this
    exact this

set_option maxRecDepth 100000 in
set_option maxHeartbeats 2000000 in
theorem number_any (k b : Nat) (s : St) (w : World) (h : Txt w b s) (hk : k ≤ 4) :
    Calls Tryd.prog 63 #[.pointer (some ⟨b, 0, none⟩), .int .i64 k] w (txtPost (.int .i64 (nuL k s).1) b (nuL k s).2 w) := by
  have HT := Lib.hid h
  have c0 := h.c0
  have c1 := h.c1
  have f0 := h.f0
  have f1 := h.f1
  have hsz := h.sz
  have hz := strB_size s.1
  clear h
  unfold maxLen at hsz
  by_cases hlen : k ≤ s.1.length
  · have hS : ∀ j, (hj : j < (strB s.1).size) → s.1.take (j + 1) = s.1.take j ++ [(strB s.1)[j]] := by
      intro j hj
      have := List.take_add_one (l := s.1) (i := j)
      rw [this, List.getElem?_eq_getElem (by rw [strB_size] at hj; exact hj)]
      rfl
    have hdr : strB (s.1.drop k) = (strB s.1).extract k (strB s.1).size := by rw [strB_size, strB_drop _ _ _ rfl]
    generalize hG : strB s.1 = t at *
    have HG := Lib.hid hG
    clear hG
    have HZ := Lib.hid hz
    have d0 : decide ((t.size : Int) < (k : Int)) = false := by simp; omega
    have hkt : k ≤ t.size := by omega
    have htm : t.size ≤ 9223372036854775807 := by omega
    clear hz
    go_enter Tryd.func63, Tryd.ntmps63
    go_wp2_with fail
    go_loop [5, 19] (fun x z => ∃ i : Nat, i ≤ k ∧ z = .int .i64 i ∧ x = .int .i64 (valL (s.1.take i)) ∧ Hid ((s.1.take i).all dgt = true)) (fun _ z => k - (intOf z).toNat)
    case atStart => exact ⟨0, Nat.zero_le _, rfl, rfl, Lib.hid rfl⟩
    case round =>
      obtain ⟨i, hik, rfl, rfl, hA⟩ := hrel
      by_cases hlt : i < k
      · have hit : i < t.size := by omega
        have hT := hS i hit
        have hvn : valL (s.1.take i) ≤ 9999 := by
          have := valL_lt _ hA.out
          rw [List.length_take, Nat.min_eq_left (by omega)] at this
          have h10 : 10 ^ i ≤ 10 ^ 4 := Nat.pow_le_pow_right (by omega) (by omega)
          omega
        cases hd : dgt t[i]
        · have hno : (decide (k ≤ s.1.length) && (s.1.take k).all dgt) = false := by
            rw [Bool.and_eq_false_iff]
            refine .inr ?_
            have hsub : s.1.take k = s.1.take (i + 1) ++ (s.1.take k).drop (i + 1) := by
              rw [show s.1.take (i + 1) = (s.1.take k).take (i + 1) by rw [List.take_take, Nat.min_eq_left (by omega)], List.take_append_drop]
            rw [hsub, hT, List.all_append, List.all_append]
            simp [hd]
          have HN := Lib.hid (nuL_no hno)
          clear hS hT hdr hno hA
          unfold dgt at hd
          have hcn : (t[i].toNat : Int) < 48 ∨ (57 : Int) < t[i].toNat := by
            simp only [Bool.and_eq_false_iff, decide_eq_false_iff_not] at hd
            omega
          clear hd
          rcases hcn with h1 | h1
          · have g1 : decide ((t[i].toNat : Int) < 48) = true := by simpa using h1
            go_wp2_with fail
            go_ret
            exact ⟨by rw [HN.out] <;> rfl, by rw [HN.out]; exact HT.out.wrong, (Moved.refl b w).setCell _⟩
          · have g1 : decide ((t[i].toNat : Int) < 48) = false := by simp; omega
            have g2 : decide ((57 : Int) < t[i].toNat) = true := by simpa using h1
            go_wp2_with fail
            go_ret
            exact ⟨by rw [HN.out] <;> rfl, by rw [HN.out]; exact HT.out.wrong, (Moved.refl b w).setCell _⟩
        · have hv : Hid (valL (s.1.take (i + 1)) = 10 * valL (s.1.take i) + (t[i].toNat - 48)) := Lib.hid (by rw [hT, valL_snoc])
          have hA2 : Hid ((s.1.take (i + 1)).all dgt = true) := Lib.hid (by rw [hT, List.all_append, hA.out]; simp [hd])
          unfold dgt at hd
          simp only [Bool.and_eq_true, decide_eq_true_eq] at hd
          obtain ⟨h1, h2⟩ := hd
          have g1 : decide ((t[i].toNat : Int) < 48) = false := by simp; omega
          have g2 : decide ((57 : Int) < t[i].toNat) = false := by simp; omega
          have hw : ((t[i].toNat - 48 : Nat) : Int) = (t[i].toNat : Int) - 48 := by omega
          clear hS hT hdr hA
          generalize valL (s.1.take i) = n at *
          go_wp2_with fail
          go_round
          case rel => exact ⟨i + 1, by omega, by go_num, by rw [hv.out]; go_num, hA2⟩
          case measure => simp [intOf]; omega
      · obtain rfl : i = k := by omega
        have hyes : (decide (i ≤ s.1.length) && (s.1.take i).all dgt) = true := by rw [hA.out]; simp; omega
        have HN := Lib.hid (nuL_yes hyes)
        have HD := Lib.hid hdr
        clear hS hA hyes hdr
        generalize valL (s.1.take i) = n at *
        go_wp2_with fail
        go_ret
        refine ⟨by rw [HN.out] <;> rfl, ?_, (Moved.refl b w).setCell _⟩
        rw [HN.out]
        have := HT.out.rest (s.1.drop i) (by simp)
        rw [HD.out] at this
        exact this
  · have hno : (decide (k ≤ s.1.length) && (s.1.take k).all dgt) = false := by simp; omega
    have HN := Lib.hid (nuL_no hno)
    clear hno
    generalize hG : strB s.1 = t at *
    clear hG
    have d0 : t.size < k := by omega
    clear hz
    go_enter Tryd.func63, Tryd.ntmps63
    go_wp2_with fail
    go_ret
    exact ⟨by rw [HN.out] <;> rfl, by rw [HN.out]; exact HT.out.wrong, (Moved.refl b w).setCell _⟩

set_option maxHeartbeats 1000000 in
theorem upTo_any (most b : Nat) (s : St) (w : World) (h : Txt w b s) (_ : most < 100) :
    Calls Tryd.prog 78 #[.pointer (some ⟨b, 0, none⟩), .int .i64 most] w (txtPost (.int .i64 (upL most s).1) b (upL most s).2 w) := by
  have cN := number_any 2 b s w h (by omega)
  have hlt := nuL_lt 2 s
  clear h
  unfold upL
  generalize nuL 2 s = q at *
  obtain ⟨n, r, x⟩ := q
  dsimp only at *
  by_cases hg : most < n
  · have hv : (x || decide (most < n)) = true := by simp [hg]
    rw [hv]
    clear hv
    go_enter Tryd.func78, Tryd.ntmps78
    go_wp2_with fail
    refine cN.mono ?_
    rintro e w1 ⟨rfl, hT1, hM1⟩
    have c1 := hT1.c1
    have f1 := hT1.f1
    have HT1 := Lib.hid hT1
    clear hT1
    go_wp2_with fail
    go_ret
    exact ⟨rfl, HT1.out.wrong, hM1.setCell _⟩
  · have hv : (x || decide (most < n)) = x := by simp [hg]
    rw [hv]
    clear hv
    go_enter Tryd.func78, Tryd.ntmps78
    go_wp2_with fail
    refine cN.mono ?_
    rintro e w1 ⟨rfl, hT1, hM1⟩
    go_wp2_with fail
    go_ret
    exact ⟨rfl, hT1, hM1⟩

theorem upL_lt (most : Nat) (s : St) : (upL most s).1 < 100 := nuL_lt 2 s

set_option maxHeartbeats 1000000 in
theorem clock_any (b : Nat) (s : St) (w : World) (h : Txt w b s) :
    Calls Tryd.prog 65 #[.pointer (some ⟨b, 0, none⟩)] w (txtPost (.int .i64 (ckL s).1) b (ckL s).2 w) := by
  have c1 := upTo_any 23 b s w h (by omega)
  have c2 := fun W (h : Txt W b (ckA s).2) => skip_any b (ckA s).2 ⟨#[58]⟩ W h
  have c3 := fun W (h : Txt W b (skL [58] (ckA s).2)) => upTo_any 59 b (skL [58] (ckA s).2) W h (by omega)
  have c4 := fun W (h : Txt W b (ckB s).2) => skip_any b (ckB s).2 ⟨#[58]⟩ W h
  have c5 := fun W (h : Txt W b (skL [58] (ckB s).2)) => upTo_any 59 b (skL [58] (ckB s).2) W h (by omega)
  rw [show (⟨#[58]⟩ : ByteArray).data.toList = [58] from rfl] at c2 c4
  change Calls _ _ _ _ (txtPost (.int .i64 (ckA s).1) b (ckA s).2 w) at c1
  change ∀ W (_ : Txt W b (skL [58] (ckA s).2)), Calls _ _ _ _ (txtPost (.int .i64 (ckB s).1) b (ckB s).2 W) at c3
  change ∀ W (_ : Txt W b (skL [58] (ckB s).2)), Calls _ _ _ _ (txtPost (.int .i64 (ckC s).1) b (ckC s).2 W) at c5
  have z1 : (ckA s).1 < 100 := upL_lt _ _
  have z2 : (ckB s).1 < 100 := upL_lt _ _
  have z3 : (ckC s).1 < 100 := upL_lt _ _
  unfold ckL
  clear h
  generalize skL [58] (ckA s).2 = s2 at *
  generalize skL [58] (ckB s).2 = s4 at *
  generalize ckA s = q1 at *
  generalize ckB s = q2 at *
  generalize ckC s = q3 at *
  obtain ⟨n1, s1⟩ := q1
  obtain ⟨n2, s3⟩ := q2
  obtain ⟨n3, s5⟩ := q3
  dsimp only at *
  have hv : ((n1 * 3600 + n2 * 60 + n3 : Nat) : Int) = (n1 : Int) * 3600 + (n2 : Int) * 60 + (n3 : Int) := by omega
  rw [hv]
  clear hv
  go_enter Tryd.func65, Tryd.ntmps65
  go_wp2_with fail
  refine c1.mono ?_
  rintro e w1 ⟨rfl, hT1, hM1⟩
  go_wp2_with fail
  refine (c2 _ hT1).mono ?_
  rintro e w2 ⟨rfl, hT2, hM2⟩
  have hM2' := hM1.trans hM2
  clear hT1 hM1 hM2
  go_wp2_with fail
  refine (c3 _ hT2).mono ?_
  rintro e w3 ⟨rfl, hT3, hM3⟩
  have hM3' := hM2'.trans hM3
  clear hT2 hM2' hM3
  go_wp2_with fail
  refine (c4 _ hT3).mono ?_
  rintro e w4 ⟨rfl, hT4, hM4⟩
  have hM4' := hM3'.trans hM4
  clear hT3 hM3' hM4
  go_wp2_with fail
  refine (c5 _ hT4).mono ?_
  rintro e w5 ⟨rfl, hT5, hM5⟩
  have hM5' := hM4'.trans hM5
  clear hT4 hM4' hM5
  go_wp2_with fail
  go_ret
  exact ⟨rfl, hT5, hM5'⟩

set_option maxHeartbeats 1000000 in
theorem spacedDay_any (b : Nat) (s : St) (w : World) (h : Txt w b s) :
    Calls Tryd.prog 67 #[.pointer (some ⟨b, 0, none⟩)] w (txtPost (.int .i64 (sdL s).1) b (sdL s).2 w) := by
  obtain ⟨r, x⟩ := s
  have HT := Lib.hid h
  have c0 := h.c0
  have c1 := h.c1
  have f1 := h.f1
  have p1 := fun W => hasPrefix_one (strB r) 32 W
  have p2 := fun W => hasPrefix_one (strB r) 48 W
  rw [strB_data] at p1 p2
  dsimp only at c0 c1
  unfold sdL
  dsimp only
  cases h32 : r.head? == some 32
  · rw [h32] at p1
    simp only [Bool.false_eq_true, if_false]
    cases h48 : r.head? == some 48
    · rw [h48] at p2
      rw [Bool.or_false]
      have c3 := number_any 2 b (r, x) w h (by omega)
      clear h h32 h48
      generalize strB r = t at *
      generalize nuL 2 (r, x) = q at *
      go_enter Tryd.func67, Tryd.ntmps67
      go_wp2_with fail
      refine (p1 _).mono ?_
      rintro e w1 ⟨rfl, rfl⟩
      go_wp2_with fail
      refine (p2 _).mono ?_
      rintro e w1 ⟨rfl, rfl⟩
      go_wp2_with fail
      refine c3.mono ?_
      rintro e w1 ⟨rfl, hT1, hM1⟩
      go_wp2_with fail
      go_ret
      exact ⟨rfl, hT1, hM1⟩
    · rw [h48] at p2
      rw [Bool.or_true]
      have c3 := fun W (h : Txt W b (r, true)) => number_any 2 b (r, true) W h (by omega)
      clear h h32 h48
      generalize strB r = t at *
      generalize nuL 2 (r, true) = q at *
      go_enter Tryd.func67, Tryd.ntmps67
      go_wp2_with fail
      refine (p1 _).mono ?_
      rintro e w1 ⟨rfl, rfl⟩
      go_wp2_with fail
      refine (p2 _).mono ?_
      rintro e w1 ⟨rfl, rfl⟩
      go_wp2_with fail
      refine (c3 _ HT.out.wrong).mono ?_
      rintro e w1 ⟨rfl, hT1, hM1⟩
      go_wp2_with fail
      go_ret
      exact ⟨rfl, hT1, ((Moved.refl b _).setCell _).trans hM1⟩
  · rw [h32] at p1
    simp only [if_true]
    have hsk : skL [32] (r, x) = (r.drop 1, x) := by
      unfold skL
      have : [32].isPrefixOf r = true := by
        cases r with
        | nil => cases h32
        | cons c q => simpa using (by simpa using h32 : c = 32).symm
      simp only [this, if_true]
      rfl
    have c2 := skip_any b (r, x) ⟨#[32]⟩ w h
    rw [show (⟨#[32]⟩ : ByteArray).data.toList = [32] from rfl, hsk] at c2
    have c3 := fun W (h : Txt W b (r.drop 1, x)) => number_any 1 b (r.drop 1, x) W h (by omega)
    clear h h32 hsk
    generalize strB r = t at *
    generalize nuL 1 (r.drop 1, x) = q at *
    generalize r.drop 1 = r1 at *
    go_enter Tryd.func67, Tryd.ntmps67
    go_wp2_with fail
    refine (p1 _).mono ?_
    rintro e w1 ⟨rfl, rfl⟩
    go_wp2_with fail
    refine c2.mono ?_
    rintro e w1 ⟨rfl, hT1, hM1⟩
    go_wp2_with fail
    refine (c3 _ hT1).mono ?_
    rintro e w2 ⟨rfl, hT2, hM2⟩
    go_wp2_with fail
    go_ret
    exact ⟨rfl, hT2, hM1.trans hM2⟩

end Go.Proofs.YtgffnjdmhpfneaaDoor

namespace Go.Proofs.YtgffnjdmhpfneaaDoor
open Go.RowKit

/-- A function of a number that returns a name. -/
def Names (F : FuncId) (f : Nat → List UInt8) (a b : Nat) : Prop :=
  ∀ n W, a ≤ n → n < b → Cal W → Calls Tryd.prog F #[.int .i64 (n : Nat)] W fun e w' => e = .returned (.string (strB (f n))) ∧ W = w'
theorem names_short : Names 44 wsT 0 7 := fun n W _ h2 hC => shortWeekday_any n W h2 hC
theorem names_full : Names 46 wkT 0 7 := fun n W _ h2 hC => fullWeekday_any n W h2 hC
theorem names_month : Names 77 moT 1 13 := fun n W h1 h2 hC => monthName_any n W h1 (by omega) hC

theorem nmL_yes {f : Nat → List UInt8} {a k : Nat} {s : St} (h : (f a).isPrefixOf s.1 = true) : nmL f a (k + 1) s = (a, skL (f a) s) := by
  rw [nmL, if_pos h]
  unfold skL
  rw [if_pos h]
theorem nmL_no {f : Nat → List UInt8} {a k : Nat} {s : St} (h : (f a).isPrefixOf s.1 = false) : nmL f a (k + 1) s = nmL f (a + 1) k s := by
  rw [nmL, if_neg (by rw [h]; simp)]

set_option maxRecDepth 100000 in
set_option maxHeartbeats 2000000 in
theorem named_any (F : FuncId) (f : Nat → List UInt8) (a k b : Nat) (s : St) (w : World) (hE : ∀ args W, (callFunc F args).run Tryd.prog W = .ok (.enter F args) W) (hF : Names F f a (a + k)) (h : Txt w b s) (hC : Cal w) (hk : a + k ≤ 1000) (L : Nat) (hL : L + 1 = a + k) :
    Calls Tryd.prog 68 #[.pointer (some ⟨b, 0, none⟩), .int .i64 a, .int .i64 L, .func (.func F) #[] #[]] w (txtPost (.int .i64 (nmL f a k s).1) b (nmL f a k s).2 w) := by
  have HT := Lib.hid h
  have HC := Lib.hid hC
  clear h hC
  go_enter Tryd.func68, Tryd.ntmps68
  go_wp2_with fail
  go_loopw [9] (fun x wr => ∃ i j : Nat, x = .int .i64 i ∧ i + j = a + k ∧ a ≤ i ∧ Txt wr b s ∧ Cal wr ∧ Moved b w wr ∧ Hid (nmL f a k s = nmL f i j s)) (fun x _ => a + k - (intOf x).toNat)
  case atStart => exact ⟨a, k, rfl, rfl, Nat.le_refl _, HT.out, HC.out, Moved.refl _ _, Lib.hid rfl⟩
  case round =>
    obtain ⟨i, j, rfl, hij, hai, hTr, hCr, hM, hH⟩ := hrel
    have c0 := hTr.c0
    have c1 := hTr.c1
    have f1 := hTr.f1
    have HTr := Lib.hid hTr
    have HCr := Lib.hid hCr
    clear hTr hCr
    by_cases hlt : i ≤ L
    · obtain ⟨j, rfl⟩ : ∃ q, j = q + 1 := ⟨j - 1, by omega⟩
      have cF := fun W hW => hF i W hai (by omega) hW
      have cP := fun W => Tryd.strings_HasPrefix (strB s.1) (strB (f i)) W
      rw [strB_data, strB_data] at cP
      have hpp : Lib.hasPrefix s.1 (f i) = (f i).isPrefixOf s.1 := rfl
      rw [hpp] at cP
      cases hp : (f i).isPrefixOf s.1
      · rw [hp] at cP
        have H2 : Hid (nmL f a k s = nmL f (i + 1) j s) := Lib.hid (by rw [hH.out, nmL_no hp])
        clear hp hpp hH
        generalize strB (f i) = p at *
        generalize strB s.1 = t at *
        go_wp2_with fail
        go_quiet (first | (go_at_call 79; exact Calls.quiet_of_same (cP _)) | (refine ⟨rfl, ?_⟩; exact quiet_same (cF _ (HCr.out.drew _))) | exact quiet_same (cF _ (HCr.out.drew _)))
        go_wp2_with fail
        go_roundw
        case rel => exact ⟨i + 1, j, by go_num, by omega, by omega, HTr.out.drew _, HCr.out.drew _, hM.drew _, H2⟩
        case measure => simp [intOf]; omega
      · rw [hp] at cP
        have H2 : Hid (nmL f a k s = (i, skL (f i) s)) := Lib.hid (by rw [hH.out, nmL_yes hp])
        have cS := fun W (h : Txt W b s) => skip_any b s (strB (f i)) W h
        rw [strB_data] at cS
        clear hp hpp hH
        generalize skL (f i) s = s2 at *
        generalize strB (f i) = p at *
        generalize hG : strB s.1 = t at c0 cP
        clear hG
        go_wp2_with fail
        go_quiet (first | (go_at_call 79; exact Calls.quiet_of_same (cP _)) | (refine ⟨rfl, ?_⟩; exact quiet_same (cF _ (HCr.out.drew _))) | exact quiet_same (cF _ (HCr.out.drew _)))
        go_wp2_with fail
        refine (cF _ (HCr.out.drew _)).mono ?_
        rintro e w1 ⟨rfl, rfl⟩
        go_wp2_with fail
        refine (cS _ (HTr.out.drew _)).mono ?_
        rintro e w1 ⟨rfl, hT1, hM1⟩
        go_wp2_with fail
        go_ret
        exact ⟨by rw [H2.out] <;> rfl, by rw [H2.out]; exact hT1, (hM.drew _).trans hM1⟩
    · obtain rfl : j = 0 := by omega
      have H2 : Hid (nmL f a k s = (0, s.1, true)) := Lib.hid (by rw [hH.out] <;> rfl)
      clear hH
      go_wp2_with fail
      go_ret
      exact ⟨by rw [H2.out] <;> rfl, by rw [H2.out]; exact HTr.out.wrong, hM.setCell _⟩

end Go.Proofs.YtgffnjdmhpfneaaDoor

namespace Go.Proofs.YtgffnjdmhpfneaaDoor
open Go.RowKit

theorem enters_short : ∀ args W, (callFunc 44 args).run Tryd.prog W = .ok (.enter 44 args) W := enters_of Tryd.func44 (by kernel_rfl) rfl
theorem enters_full : ∀ args W, (callFunc 46 args).run Tryd.prog W = .ok (.enter 46 args) W := enters_of Tryd.func46 (by kernel_rfl) rfl
theorem enters_monthName : ∀ args W, (callFunc 77 args).run Tryd.prog W = .ok (.enter 77 args) W := enters_of Tryd.func77 (by kernel_rfl) rfl

set_option maxHeartbeats 1000000 in
theorem weekday_read (F : FuncId) (f : Nat → List UInt8) (b : Nat) (s : St) (w : World) (hE : ∀ args W, (callFunc F args).run Tryd.prog W = .ok (.enter F args) W) (hF : Names F f 0 7) (h : Txt w b s) (hC : Cal w) :
    Calls Tryd.prog 49 #[.pointer (some ⟨b, 0, none⟩), .func (.func F) #[] #[]] w (txtPost (.int .i64 (nmL f 0 7 s).1) b (nmL f 0 7 s).2 w) := by
  have cN := named_any F f 0 7 b s w hE hF h hC (by omega) 6 rfl
  clear h hC hE hF
  generalize nmL f 0 7 s = q at *
  go_enter Tryd.func49, Tryd.ntmps49
  go_wp2_with fail
  refine cN.mono ?_
  rintro e w1 ⟨rfl, hT1, hM1⟩
  go_wp2_with fail
  go_ret
  exact ⟨rfl, hT1, hM1⟩

set_option maxHeartbeats 1000000 in
theorem month_read (b : Nat) (s : St) (w : World) (h : Txt w b s) (hC : Cal w) :
    Calls Tryd.prog 64 #[.pointer (some ⟨b, 0, none⟩)] w (txtPost (.int .i64 (nmL moT 1 12 s).1) b (nmL moT 1 12 s).2 w) := by
  have cN := named_any _ moT 1 12 b s w enters_monthName names_month h hC (by omega) 12 rfl
  clear h hC
  generalize nmL moT 1 12 s = q at *
  go_enter Tryd.func64, Tryd.ntmps64
  go_wp2_with fail
  refine cN.mono ?_
  rintro e w1 ⟨rfl, hT1, hM1⟩
  go_wp2_with fail
  go_ret
  exact ⟨rfl, hT1, hM1⟩

/-- Four numbers in a block. -/
structure Four (W : World) (c : Nat) (a0 a1 a2 a3 : Int) : Prop where
  c0 : W.cell? ⟨c, 0, none⟩ = some (.int .i64 a0)
  c1 : W.cell? ⟨c, 1, none⟩ = some (.int .i64 a1)
  c2 : W.cell? ⟨c, 2, none⟩ = some (.int .i64 a2)
  c3 : W.cell? ⟨c, 3, none⟩ = some (.int .i64 a3)
  f0 : W.frozen? ⟨c, 0, none⟩ = false
  f1 : W.frozen? ⟨c, 1, none⟩ = false
  f2 : W.frozen? ⟨c, 2, none⟩ = false
  f3 : W.frozen? ⟨c, 3, none⟩ = false
theorem Four.moved {W W' : World} {b c : Nat} {a0 a1 a2 a3 : Int} (h : Four W c a0 a1 a2 a3) (hM : Moved b W W') (hb : c ≠ b) : Four W' c a0 a1 a2 a3 :=
  have l := lt_of_cell h.c0
  ⟨(hM.cell (p := ⟨c, 0, none⟩) l hb).trans h.c0, (hM.cell (p := ⟨c, 1, none⟩) l hb).trans h.c1, (hM.cell (p := ⟨c, 2, none⟩) l hb).trans h.c2, (hM.cell (p := ⟨c, 3, none⟩) l hb).trans h.c3,
   (hM.frozen (p := ⟨c, 0, none⟩) l hb).trans h.f0, (hM.frozen (p := ⟨c, 1, none⟩) l hb).trans h.f1, (hM.frozen (p := ⟨c, 2, none⟩) l hb).trans h.f2, (hM.frozen (p := ⟨c, 3, none⟩) l hb).trans h.f3⟩
theorem Four.set0 {W : World} {c : Nat} {a0 a1 a2 a3 : Int} (h : Four W c a0 a1 a2 a3) (x : Int) : Four (W.setCell ⟨c, 0, none⟩ (.int .i64 x)) c x a1 a2 a3 :=
  ⟨World.cell?_setCell_same W _ _ h.c0, (World.cell?_setCell_other W _ ⟨c, 1, none⟩ _ (by simp)).trans h.c1, (World.cell?_setCell_other W _ ⟨c, 2, none⟩ _ (by simp)).trans h.c2, (World.cell?_setCell_other W _ ⟨c, 3, none⟩ _ (by simp)).trans h.c3,
   by rw [World.frozen?_setCell]; exact h.f0, by rw [World.frozen?_setCell]; exact h.f1, by rw [World.frozen?_setCell]; exact h.f2, by rw [World.frozen?_setCell]; exact h.f3⟩
theorem Four.set1 {W : World} {c : Nat} {a0 a1 a2 a3 : Int} (h : Four W c a0 a1 a2 a3) (x : Int) : Four (W.setCell ⟨c, 1, none⟩ (.int .i64 x)) c a0 x a2 a3 :=
  ⟨(World.cell?_setCell_other W _ ⟨c, 0, none⟩ _ (by simp)).trans h.c0, World.cell?_setCell_same W _ _ h.c1, (World.cell?_setCell_other W _ ⟨c, 2, none⟩ _ (by simp)).trans h.c2, (World.cell?_setCell_other W _ ⟨c, 3, none⟩ _ (by simp)).trans h.c3,
   by rw [World.frozen?_setCell]; exact h.f0, by rw [World.frozen?_setCell]; exact h.f1, by rw [World.frozen?_setCell]; exact h.f2, by rw [World.frozen?_setCell]; exact h.f3⟩
theorem Four.set2 {W : World} {c : Nat} {a0 a1 a2 a3 : Int} (h : Four W c a0 a1 a2 a3) (x : Int) : Four (W.setCell ⟨c, 2, none⟩ (.int .i64 x)) c a0 a1 x a3 :=
  ⟨(World.cell?_setCell_other W _ ⟨c, 0, none⟩ _ (by simp)).trans h.c0, (World.cell?_setCell_other W _ ⟨c, 1, none⟩ _ (by simp)).trans h.c1, World.cell?_setCell_same W _ _ h.c2, (World.cell?_setCell_other W _ ⟨c, 3, none⟩ _ (by simp)).trans h.c3,
   by rw [World.frozen?_setCell]; exact h.f0, by rw [World.frozen?_setCell]; exact h.f1, by rw [World.frozen?_setCell]; exact h.f2, by rw [World.frozen?_setCell]; exact h.f3⟩
theorem Four.set3 {W : World} {c : Nat} {a0 a1 a2 a3 : Int} (h : Four W c a0 a1 a2 a3) (x : Int) : Four (W.setCell ⟨c, 3, none⟩ (.int .i64 x)) c a0 a1 a2 x :=
  ⟨(World.cell?_setCell_other W _ ⟨c, 0, none⟩ _ (by simp)).trans h.c0, (World.cell?_setCell_other W _ ⟨c, 1, none⟩ _ (by simp)).trans h.c1, (World.cell?_setCell_other W _ ⟨c, 2, none⟩ _ (by simp)).trans h.c2, World.cell?_setCell_same W _ _ h.c3,
   by rw [World.frozen?_setCell]; exact h.f0, by rw [World.frozen?_setCell]; exact h.f1, by rw [World.frozen?_setCell]; exact h.f2, by rw [World.frozen?_setCell]; exact h.f3⟩
theorem Four.other {W : World} {c d o : Nat} {a0 a1 a2 a3 : Int} (h : Four W c a0 a1 a2 a3) (hd : d ≠ c) (v : Value) : Four (W.setCell ⟨d, o, none⟩ v) c a0 a1 a2 a3 :=
  ⟨(World.cell?_setCell_other W _ ⟨c, 0, none⟩ _ (by simp [])).trans h.c0, (World.cell?_setCell_other W _ ⟨c, 1, none⟩ _ (by simp [])).trans h.c1, (World.cell?_setCell_other W _ ⟨c, 2, none⟩ _ (by simp [])).trans h.c2, (World.cell?_setCell_other W _ ⟨c, 3, none⟩ _ (by simp [])).trans h.c3,
   by rw [World.frozen?_setCell]; exact h.f0, by rw [World.frozen?_setCell]; exact h.f1, by rw [World.frozen?_setCell]; exact h.f2, by rw [World.frozen?_setCell]; exact h.f3⟩
theorem Txt.other {W : World} {b d o : Nat} {s : St} (h : Txt W b s) (hd : d ≠ b) (v : Value) : Txt (W.setCell ⟨d, o, none⟩ v) b s :=
  ⟨(World.cell?_setCell_other W _ ⟨b, 0, none⟩ _ (by simp [])).trans h.c0, (World.cell?_setCell_other W _ ⟨b, 1, none⟩ _ (by simp [])).trans h.c1,
   by rw [World.frozen?_setCell]; exact h.f0, by rw [World.frozen?_setCell]; exact h.f1, h.sz⟩
theorem Moved.setNew {b c o : Nat} {w W : World} (h : Moved b w W) (hc : w.heap.size ≤ c) (v : Value) : Moved b w (W.setCell ⟨c, o, none⟩ v) :=
  ⟨h.os, h.tape, h.output, by simpa using h.size, fun k hk1 hb => (Below.heap_setCell W ⟨c, o, none⟩ v k (by simp; omega)).trans (h.block k hk1 hb)⟩

/-- A moment as a value; what a parser leaves. -/
def momV (m : Mom) : Value := .agg #[.int .i64 m.y, .int .i64 m.m, .int .i64 m.d, .int .i64 m.c]
def Reads2 (F : FuncId) (p : St → Mom × St) : Prop :=
  ∀ b s w, Txt w b s → Cal w → Calls Tryd.prog F #[.pointer (some ⟨b, 0, none⟩)] w (txtPost (momV (p s).1) b (p s).2 w)

theorem zero_four (w : World) : Four ((w.alloc (.cells #[.int .i64 0, .int .i64 0, .int .i64 0, .int .i64 0] 87)).alloc (.cells #[.int .i64 0, .int .i64 0, .int .i64 0, .int .i64 0] 87)) w.heap.size 0 0 0 0 := by
  constructor <;> simp
theorem zero_four2 (w : World) : Four ((w.alloc (.cells #[.int .i64 0, .int .i64 0, .int .i64 0, .int .i64 0] 87)).alloc (.cells #[.int .i64 0, .int .i64 0, .int .i64 0, .int .i64 0] 87)) (w.heap.size + 1) 0 0 0 0 := by
  constructor <;> simp

end Go.Proofs.YtgffnjdmhpfneaaDoor

namespace Go.Proofs.YtgffnjdmhpfneaaDoor
open Go.RowKit

/-- The world with two new zero moments. -/
abbrev twoMom (w : World) : World := (w.alloc (.cells #[.int .i64 0, .int .i64 0, .int .i64 0, .int .i64 0] 87)).alloc (.cells #[.int .i64 0, .int .i64 0, .int .i64 0, .int .i64 0] 87)
theorem twoMom_below (w : World) : Below w.heap.size w (twoMom w) := by
  have h1 : Below w.heap.size w (w.alloc (.cells #[.int .i64 0, .int .i64 0, .int .i64 0, .int .i64 0] 87)) := (Below.refl _ _).alloc (Nat.le_refl _) _
  exact h1.alloc (by simp) _

/-- What is known in a parser's midst: the reader, the moment and the zero one. -/
structure Mid (w W : World) (b : Nat) (s : St) (y m d c : Int) : Prop where
  t : Txt W b s
  r : Four W w.heap.size 0 0 0 0
  m : Four W (w.heap.size + 1) y m d c
  mv : Moved b w W
  lt : b < w.heap.size
theorem Mid.start {w : World} {b : Nat} {s : St} (h : Txt w b s) : Mid w (twoMom w) b s 0 0 0 0 :=
  ⟨h.below (twoMom_below w), zero_four w, zero_four2 w, Moved.of_below (twoMom_below w), h.lt⟩
theorem Mid.call {w W W' : World} {b : Nat} {s s' : St} {y m d c : Int} (h : Mid w W b s y m d c) (hT : Txt W' b s') (hM : Moved b W W') : Mid w W' b s' y m d c :=
  ⟨hT, h.r.moved hM (by have := h.lt; omega), h.m.moved hM (by have := h.lt; omega), h.mv.trans hM, h.lt⟩
theorem Mid.ne {w W : World} {b : Nat} {s : St} {y m d c : Int} (h : Mid w W b s y m d c) : w.heap.size + 1 ≠ b := by have := h.lt; omega
theorem Mid.setY {w W : World} {b : Nat} {s : St} {y m d c : Int} (h : Mid w W b s y m d c) (x : Int) : Mid w (W.setCell ⟨w.heap.size + 1, 0, none⟩ (.int .i64 x)) b s x m d c :=
  ⟨h.t.other h.ne _, h.r.other (by omega) _, h.m.set0 x, h.mv.setNew (by omega) _, h.lt⟩
theorem Mid.setM {w W : World} {b : Nat} {s : St} {y m d c : Int} (h : Mid w W b s y m d c) (x : Int) : Mid w (W.setCell ⟨w.heap.size + 1, 1, none⟩ (.int .i64 x)) b s y x d c :=
  ⟨h.t.other h.ne _, h.r.other (by omega) _, h.m.set1 x, h.mv.setNew (by omega) _, h.lt⟩
theorem Mid.setD {w W : World} {b : Nat} {s : St} {y m d c : Int} (h : Mid w W b s y m d c) (x : Int) : Mid w (W.setCell ⟨w.heap.size + 1, 2, none⟩ (.int .i64 x)) b s y m x c :=
  ⟨h.t.other h.ne _, h.r.other (by omega) _, h.m.set2 x, h.mv.setNew (by omega) _, h.lt⟩
theorem Mid.setC {w W : World} {b : Nat} {s : St} {y m d c : Int} (h : Mid w W b s y m d c) (x : Int) : Mid w (W.setCell ⟨w.heap.size + 1, 3, none⟩ (.int .i64 x)) b s y m d x :=
  ⟨h.t.other h.ne _, h.r.other (by omega) _, h.m.set3 x, h.mv.setNew (by omega) _, h.lt⟩

set_option maxRecDepth 100000 in
set_option maxHeartbeats 2000000 in
theorem parseFirst_any : Reads2 45 p0L := by
  intro b s w h hC
  have H0 := Lib.hid (Mid.start h)
  have HCw := Lib.hid (fun W (hm : Moved b w W) => hC.moved h hm)
  clear h hC
  have c1 := fun W h => skip_any b s ⟨#[44, 32]⟩ W h
  have c2 := fun W h => number_any 2 b (skL [44, 32] s) W h (by omega)
  have c3 := fun W h => skip_any b (nuL 2 (skL [44, 32] s)).2 ⟨#[32]⟩ W h
  rw [show (⟨#[44, 32]⟩ : ByteArray).data.toList = [44, 32] from rfl] at c1
  rw [show (⟨#[32]⟩ : ByteArray).data.toList = [32] from rfl] at c3
  unfold p0L
  dsimp only
  generalize skL [44, 32] s = s1 at *
  generalize nuL 2 s1 = q1 at *
  obtain ⟨n1, t1⟩ := q1
  dsimp only at *
  generalize skL [32] t1 = s2 at *
  have c4 := fun W h hC => month_read b s2 W h hC
  generalize nmL moT 1 12 s2 = q2 at *
  obtain ⟨n2, t2⟩ := q2
  dsimp only at *
  have c5 := fun W h => skip_any b t2 ⟨#[32]⟩ W h
  rw [show (⟨#[32]⟩ : ByteArray).data.toList = [32] from rfl] at c5
  generalize skL [32] t2 = s3 at *
  have c6 := fun W h => number_any 4 b s3 W h (by omega)
  generalize nuL 4 s3 = q3 at *
  obtain ⟨n3, t3⟩ := q3
  dsimp only at *
  have c7 := fun W h => skip_any b t3 ⟨#[32]⟩ W h
  rw [show (⟨#[32]⟩ : ByteArray).data.toList = [32] from rfl] at c7
  generalize skL [32] t3 = s4 at *
  have c8 := fun W h => clock_any b s4 W h
  generalize ckL s4 = q4 at *
  obtain ⟨n4, t4⟩ := q4
  dsimp only at *
  have c9 := fun W h => skip_any b t4 ⟨#[32, 71, 77, 84]⟩ W h
  rw [show (⟨#[32, 71, 77, 84]⟩ : ByteArray).data.toList = [32, 71, 77, 84] from rfl] at c9
  generalize skL [32, 71, 77, 84] t4 = s5 at *
  unfold momV
  dsimp only
  go_enter Tryd.func45, Tryd.ntmps45
  go_wp2_with fail
  refine (c1 _ H0.out.t).mono ?_
  rintro e w1 ⟨rfl, hT, hM⟩
  have H1 := Lib.hid (H0.out.call hT hM)
  clear hT hM H0
  go_wp2_with fail
  refine (c2 _ H1.out.t).mono ?_
  rintro e w2 ⟨rfl, hT, hM⟩
  have H2 := Lib.hid (H1.out.call hT hM)
  clear hT hM H1
  have k := H2.out.m.c2
  have f := H2.out.m.f2
  go_wp2_with fail
  clear k f
  have H3 := Lib.hid (H2.out.setD n1)
  clear H2
  refine (c3 _ H3.out.t).mono ?_
  rintro e w3 ⟨rfl, hT, hM⟩
  have H4 := Lib.hid (H3.out.call hT hM)
  clear hT hM H3
  go_wp2_with fail
  refine (c4 _ H4.out.t (HCw.out _ H4.out.mv)).mono ?_
  rintro e w4 ⟨rfl, hT, hM⟩
  have H5 := Lib.hid (H4.out.call hT hM)
  clear hT hM H4
  have k := H5.out.m.c1
  have f := H5.out.m.f1
  go_wp2_with fail
  clear k f
  have H6 := Lib.hid (H5.out.setM n2)
  clear H5
  refine (c5 _ H6.out.t).mono ?_
  rintro e w5 ⟨rfl, hT, hM⟩
  have H7 := Lib.hid (H6.out.call hT hM)
  clear hT hM H6
  go_wp2_with fail
  refine (c6 _ H7.out.t).mono ?_
  rintro e w6 ⟨rfl, hT, hM⟩
  have H8 := Lib.hid (H7.out.call hT hM)
  clear hT hM H7
  have k := H8.out.m.c0
  have f := H8.out.m.f0
  go_wp2_with fail
  clear k f
  have H9 := Lib.hid (H8.out.setY n3)
  clear H8
  refine (c7 _ H9.out.t).mono ?_
  rintro e w7 ⟨rfl, hT, hM⟩
  have HA := Lib.hid (H9.out.call hT hM)
  clear hT hM H9
  go_wp2_with fail
  refine (c8 _ HA.out.t).mono ?_
  rintro e w8 ⟨rfl, hT, hM⟩
  have HB := Lib.hid (HA.out.call hT hM)
  clear hT hM HA
  have k := HB.out.m.c3
  have f := HB.out.m.f3
  go_wp2_with fail
  clear k f
  have HC := Lib.hid (HB.out.setC n4)
  clear HB
  refine (c9 _ HC.out.t).mono ?_
  rintro e w9 ⟨rfl, hT, hM⟩
  have HD := Lib.hid (HC.out.call hT hM)
  clear hT hM HC
  have k0 := HD.out.m.c0
  have k1 := HD.out.m.c1
  have k2 := HD.out.m.c2
  have k3 := HD.out.m.c3
  have r0 := HD.out.r.c0
  have r1 := HD.out.r.c1
  have r2 := HD.out.r.c2
  have r3 := HD.out.r.c3
  have f0 := HD.out.r.f0
  have f1 := HD.out.r.f1
  have f2 := HD.out.r.f2
  have f3 := HD.out.r.f3
  go_wp2_with fail
  exact bodyPost_ret (v := .agg #[.int .i64 n3, .int .i64 n2, .int .i64 n1, .int .i64 n4]) (by simp [results, Tryd.results45, go_sem, r0, r1, r2, r3]) rfl ⟨rfl, (((HD.out.t.other (by have := HD.out.lt; omega) _).other (by have := HD.out.lt; omega) _).other (by have := HD.out.lt; omega) _).other (by have := HD.out.lt; omega) _, (((HD.out.mv.setNew (Nat.le_refl _) _).setNew (Nat.le_refl _) _).setNew (Nat.le_refl _) _).setNew (Nat.le_refl _) _⟩

set_option maxRecDepth 100000 in
set_option maxHeartbeats 2000000 in
theorem parseSecond_any : Reads2 47 p1L := by
  intro b s w h hC
  have H0 := Lib.hid (Mid.start h)
  have HCw := Lib.hid (fun W (hm : Moved b w W) => hC.moved h hm)
  clear h hC
  have c1 := fun W h => skip_any b s ⟨#[44, 32]⟩ W h
  have c2 := fun W h => number_any 2 b (skL [44, 32] s) W h (by omega)
  have c3 := fun W h => skip_any b (nuL 2 (skL [44, 32] s)).2 ⟨#[45]⟩ W h
  rw [show (⟨#[44, 32]⟩ : ByteArray).data.toList = [44, 32] from rfl] at c1
  rw [show (⟨#[45]⟩ : ByteArray).data.toList = [45] from rfl] at c3
  unfold p1L
  dsimp only
  generalize skL [44, 32] s = s1 at *
  generalize nuL 2 s1 = q1 at *
  obtain ⟨n1, t1⟩ := q1
  dsimp only at *
  generalize skL [45] t1 = s2 at *
  have c4 := fun W h hC => month_read b s2 W h hC
  generalize nmL moT 1 12 s2 = q2 at *
  obtain ⟨n2, t2⟩ := q2
  dsimp only at *
  have c5 := fun W h => skip_any b t2 ⟨#[45]⟩ W h
  rw [show (⟨#[45]⟩ : ByteArray).data.toList = [45] from rfl] at c5
  generalize skL [45] t2 = s3 at *
  have c6 := fun W h => number_any 2 b s3 W h (by omega)
  have hn3 := nuL_lt 2 s3
  generalize nuL 2 s3 = q3 at *
  obtain ⟨n3, t3⟩ := q3
  dsimp only at *
  have cY := fun W => fullYear_any n3 W (by omega)
  generalize fyN n3 = n5 at *
  have c7 := fun W h => skip_any b t3 ⟨#[32]⟩ W h
  rw [show (⟨#[32]⟩ : ByteArray).data.toList = [32] from rfl] at c7
  generalize skL [32] t3 = s4 at *
  have c8 := fun W h => clock_any b s4 W h
  generalize ckL s4 = q4 at *
  obtain ⟨n4, t4⟩ := q4
  dsimp only at *
  have c9 := fun W h => skip_any b t4 ⟨#[32, 71, 77, 84]⟩ W h
  rw [show (⟨#[32, 71, 77, 84]⟩ : ByteArray).data.toList = [32, 71, 77, 84] from rfl] at c9
  generalize skL [32, 71, 77, 84] t4 = s5 at *
  unfold momV
  dsimp only
  go_enter Tryd.func47, Tryd.ntmps47
  go_wp2_with fail
  refine (c1 _ H0.out.t).mono ?_
  rintro e w1 ⟨rfl, hT, hM⟩
  have H1 := Lib.hid (H0.out.call hT hM)
  clear hT hM H0
  go_wp2_with fail
  refine (c2 _ H1.out.t).mono ?_
  rintro e w2 ⟨rfl, hT, hM⟩
  have H2 := Lib.hid (H1.out.call hT hM)
  clear hT hM H1
  have k := H2.out.m.c2
  have f := H2.out.m.f2
  go_wp2_with fail
  clear k f
  have H3 := Lib.hid (H2.out.setD n1)
  clear H2
  refine (c3 _ H3.out.t).mono ?_
  rintro e w3 ⟨rfl, hT, hM⟩
  have H4 := Lib.hid (H3.out.call hT hM)
  clear hT hM H3
  go_wp2_with fail
  refine (c4 _ H4.out.t (HCw.out _ H4.out.mv)).mono ?_
  rintro e w4 ⟨rfl, hT, hM⟩
  have H5 := Lib.hid (H4.out.call hT hM)
  clear hT hM H4
  have k := H5.out.m.c1
  have f := H5.out.m.f1
  go_wp2_with fail
  clear k f
  have H6 := Lib.hid (H5.out.setM n2)
  clear H5
  refine (c5 _ H6.out.t).mono ?_
  rintro e w5 ⟨rfl, hT, hM⟩
  have H7 := Lib.hid (H6.out.call hT hM)
  clear hT hM H6
  go_wp2_with fail
  refine (c6 _ H7.out.t).mono ?_
  rintro e w6 ⟨rfl, hT, hM⟩
  have H8 := Lib.hid (H7.out.call hT hM)
  clear hT hM H7
  go_wp2_with fail
  refine (cY _).mono ?_
  rintro e wy ⟨rfl, rfl⟩
  have k := H8.out.m.c0
  have f := H8.out.m.f0
  go_wp2_with fail
  clear k f
  have H9 := Lib.hid (H8.out.setY n5)
  clear H8
  refine (c7 _ H9.out.t).mono ?_
  rintro e w7 ⟨rfl, hT, hM⟩
  have HA := Lib.hid (H9.out.call hT hM)
  clear hT hM H9
  go_wp2_with fail
  refine (c8 _ HA.out.t).mono ?_
  rintro e w8 ⟨rfl, hT, hM⟩
  have HB := Lib.hid (HA.out.call hT hM)
  clear hT hM HA
  have k := HB.out.m.c3
  have f := HB.out.m.f3
  go_wp2_with fail
  clear k f
  have HC := Lib.hid (HB.out.setC n4)
  clear HB
  refine (c9 _ HC.out.t).mono ?_
  rintro e w9 ⟨rfl, hT, hM⟩
  have HD := Lib.hid (HC.out.call hT hM)
  clear hT hM HC
  have k0 := HD.out.m.c0
  have k1 := HD.out.m.c1
  have k2 := HD.out.m.c2
  have k3 := HD.out.m.c3
  have r0 := HD.out.r.c0
  have r1 := HD.out.r.c1
  have r2 := HD.out.r.c2
  have r3 := HD.out.r.c3
  have f0 := HD.out.r.f0
  have f1 := HD.out.r.f1
  have f2 := HD.out.r.f2
  have f3 := HD.out.r.f3
  go_wp2_with fail
  exact bodyPost_ret (v := .agg #[.int .i64 n5, .int .i64 n2, .int .i64 n1, .int .i64 n4]) (by simp [results, Tryd.results47, go_sem, r0, r1, r2, r3]) rfl ⟨rfl, (((HD.out.t.other (by have := HD.out.lt; omega) _).other (by have := HD.out.lt; omega) _).other (by have := HD.out.lt; omega) _).other (by have := HD.out.lt; omega) _, (((HD.out.mv.setNew (Nat.le_refl _) _).setNew (Nat.le_refl _) _).setNew (Nat.le_refl _) _).setNew (Nat.le_refl _) _⟩

set_option maxRecDepth 100000 in
set_option maxHeartbeats 2000000 in
theorem parseThird_any : Reads2 48 p2L := by
  intro b s w h hC
  have H0 := Lib.hid (Mid.start h)
  have HCw := Lib.hid (fun W (hm : Moved b w W) => hC.moved h hm)
  clear h hC
  have c1 := fun W h => skip_any b s ⟨#[32]⟩ W h
  rw [show (⟨#[32]⟩ : ByteArray).data.toList = [32] from rfl] at c1
  unfold p2L
  dsimp only
  generalize skL [32] s = s1 at *
  have c2 := fun W h hC => month_read b s1 W h hC
  generalize nmL moT 1 12 s1 = q1 at *
  obtain ⟨n1, t1⟩ := q1
  dsimp only at *
  have c3 := fun W h => skip_any b t1 ⟨#[32]⟩ W h
  rw [show (⟨#[32]⟩ : ByteArray).data.toList = [32] from rfl] at c3
  generalize skL [32] t1 = s2 at *
  have c4 := fun W h => spacedDay_any b s2 W h
  generalize sdL s2 = q2 at *
  obtain ⟨n2, t2⟩ := q2
  dsimp only at *
  have c5 := fun W h => skip_any b t2 ⟨#[32]⟩ W h
  rw [show (⟨#[32]⟩ : ByteArray).data.toList = [32] from rfl] at c5
  generalize skL [32] t2 = s3 at *
  have c6 := fun W h => clock_any b s3 W h
  generalize ckL s3 = q3 at *
  obtain ⟨n3, t3⟩ := q3
  dsimp only at *
  have c7 := fun W h => skip_any b t3 ⟨#[32]⟩ W h
  rw [show (⟨#[32]⟩ : ByteArray).data.toList = [32] from rfl] at c7
  generalize skL [32] t3 = s4 at *
  have c8 := fun W h => number_any 4 b s4 W h (by omega)
  generalize nuL 4 s4 = q4 at *
  obtain ⟨n4, t4⟩ := q4
  dsimp only at *
  unfold momV
  dsimp only
  go_enter Tryd.func48, Tryd.ntmps48
  go_wp2_with fail
  refine (c1 _ H0.out.t).mono ?_
  rintro e w1 ⟨rfl, hT, hM⟩
  have H1 := Lib.hid (H0.out.call hT hM)
  clear hT hM H0
  go_wp2_with fail
  refine (c2 _ H1.out.t (HCw.out _ H1.out.mv)).mono ?_
  rintro e w2 ⟨rfl, hT, hM⟩
  have H2 := Lib.hid (H1.out.call hT hM)
  clear hT hM H1
  have k := H2.out.m.c1
  have f := H2.out.m.f1
  go_wp2_with fail
  clear k f
  have H3 := Lib.hid (H2.out.setM n1)
  clear H2
  refine (c3 _ H3.out.t).mono ?_
  rintro e w3 ⟨rfl, hT, hM⟩
  have H4 := Lib.hid (H3.out.call hT hM)
  clear hT hM H3
  go_wp2_with fail
  refine (c4 _ H4.out.t).mono ?_
  rintro e w4 ⟨rfl, hT, hM⟩
  have H5 := Lib.hid (H4.out.call hT hM)
  clear hT hM H4
  have k := H5.out.m.c2
  have f := H5.out.m.f2
  go_wp2_with fail
  clear k f
  have H6 := Lib.hid (H5.out.setD n2)
  clear H5
  refine (c5 _ H6.out.t).mono ?_
  rintro e w5 ⟨rfl, hT, hM⟩
  have H7 := Lib.hid (H6.out.call hT hM)
  clear hT hM H6
  go_wp2_with fail
  refine (c6 _ H7.out.t).mono ?_
  rintro e w6 ⟨rfl, hT, hM⟩
  have H8 := Lib.hid (H7.out.call hT hM)
  clear hT hM H7
  have k := H8.out.m.c3
  have f := H8.out.m.f3
  go_wp2_with fail
  clear k f
  have H9 := Lib.hid (H8.out.setC n3)
  clear H8
  refine (c7 _ H9.out.t).mono ?_
  rintro e w7 ⟨rfl, hT, hM⟩
  have HA := Lib.hid (H9.out.call hT hM)
  clear hT hM H9
  go_wp2_with fail
  refine (c8 _ HA.out.t).mono ?_
  rintro e w8 ⟨rfl, hT, hM⟩
  have HB := Lib.hid (HA.out.call hT hM)
  clear hT hM HA
  have k0 := HB.out.m.c0
  have k1 := HB.out.m.c1
  have k2 := HB.out.m.c2
  have k3 := HB.out.m.c3
  have g0 := HB.out.m.f0
  have r0 := HB.out.r.c0
  have r1 := HB.out.r.c1
  have r2 := HB.out.r.c2
  have r3 := HB.out.r.c3
  have f0 := HB.out.r.f0
  have f1 := HB.out.r.f1
  have f2 := HB.out.r.f2
  have f3 := HB.out.r.f3
  go_wp2_with fail
  exact bodyPost_ret (v := .agg #[.int .i64 n4, .int .i64 n1, .int .i64 n2, .int .i64 n3]) (by simp [results, Tryd.results48, go_sem, r0, r1, r2, r3]) rfl ⟨rfl, ((((HB.out.setY n4).t.other (by have := HB.out.lt; omega) _).other (by have := HB.out.lt; omega) _).other (by have := HB.out.lt; omega) _).other (by have := HB.out.lt; omega) _, ((((HB.out.setY n4).mv.setNew (Nat.le_refl _) _).setNew (Nat.le_refl _) _).setNew (Nat.le_refl _) _).setNew (Nat.le_refl _) _⟩

end Go.Proofs.YtgffnjdmhpfneaaDoor

namespace Go.Proofs.YtgffnjdmhpfneaaDoor
open Go.RowKit

/-- Seconds as an answer. -/
def secV : Option Nat → Value
  | some n => .tuple #[.int .i64 n, .int .i64 0]
  | none => .tuple #[.int .i64 0, .int .i64 2]

theorem isEmpty_strB (r : List UInt8) : (strB r).toList.isEmpty = r.isEmpty := by rw [Lib.toList_data, strB_data]

/-- The world of seconds when its reader lies. -/
abbrev secW (w : World) (F G : FuncId) (s : ByteArray) : World := (w.alloc (.cells #[.func (.func F) #[] #[], .func (.func G) #[] #[]] 61)).alloc (.cells #[.string s, .bool false] 84)
theorem secW_below (w : World) (F G : FuncId) (s : ByteArray) : Below w.heap.size w (secW w F G s) := by
  have h1 : Below w.heap.size w (w.alloc (.cells #[.func (.func F) #[] #[], .func (.func G) #[] #[]] 61)) := (Below.refl _ _).alloc (Nat.le_refl _) _
  exact h1.alloc (by simp) _
theorem secW_txt (w : World) (F G : FuncId) (s : List UInt8) (hs : s.length ≤ maxLen) : Txt (secW w F G (strB s)) (w.heap.size + 1) (s, false) := by
  constructor <;> simp [hs]
theorem secW_box (w : World) (F G : FuncId) (s : ByteArray) : (secW w F G s).cell? ⟨w.heap.size, 1, none⟩ = some (.func (.func G) #[] #[]) := by simp
theorem secW_size (w : World) (F G : FuncId) (s : ByteArray) : (secW w F G s).heap.size = w.heap.size + 2 := by simp

set_option maxRecDepth 100000 in
set_option maxHeartbeats 2000000 in
theorem seconds_any (F G : FuncId) (f : Nat → List UInt8) (p : St → Mom × St) (s : List UInt8) (w : World)
    (hE : ∀ args W, (callFunc F args).run Tryd.prog W = .ok (.enter F args) W) (hEG : ∀ args W, (callFunc G args).run Tryd.prog W = .ok (.enter G args) W)
    (hF : Names F f 0 7) (hG : Reads2 G p) (hp : ∀ s, (p s).1.c < 400000) (hs : s.length ≤ maxLen) (hC : Cal w) :
    Calls Tryd.prog 35 #[.agg #[.func (.func F) #[] #[], .func (.func G) #[] #[]], .string (strB s)] w fun e w' => e = .returned (secV (scL f p s)) ∧ Below w.heap.size w w' := by
  have cW := fun W h hC => weekday_read F f (w.heap.size + 1) (s, false) W hE hF h hC
  have HG := Lib.hid hG
  have HC := Lib.hid hC
  have HS := Lib.hid hs
  clear hE hF hG hC hs
  unfold scL
  dsimp only
  generalize nmL f 0 7 (s, false) = q1 at *
  obtain ⟨n1, t1⟩ := q1
  dsimp only at *
  have cP := fun W h hC => HG.out (w.heap.size + 1) t1 W h hC
  have hc := hp t1
  clear hp
  generalize p t1 = q2 at *
  obtain ⟨⟨y, m, d, c⟩, r, x⟩ := q2
  dsimp only at *
  obtain ⟨ans, hA⟩ : ∃ a, a = (if (x || !r.isEmpty) = true then none else if DayOk y m d ∧ wdN (daysN y m d) = n1 then some (86400 * daysN y m d + c) else none) := ⟨_, rfl⟩
  rw [← hA]
  have hT0 := Lib.hid (secW_txt w F G s HS.out)
  have hbx0 := Lib.hid (secW_box w F G (strB s))
  have hz0 := Lib.hid (secW_size w F G (strB s))
  have hb0 := Lib.hid (secW_below w F G (strB s))
  simp only [momV] at cP
  generalize strB s = ss at *
  go_enter Tryd.func35, Tryd.ntmps35
  go_wp2_with fail
  refine (cW _ hT0.out (HC.out.below hb0.out)).mono ?_
  rintro e w1 ⟨rfl, hT1, hM1⟩
  have hbx := (hM1.cell (p := ⟨w.heap.size, 1, none⟩) (by rw [hz0.out]; simp) (by simp)).trans hbx0.out
  have hC1 := Lib.hid ((HC.out.below hb0.out).moved hT0.out hM1)
  have HT1 := Lib.hid hT1
  have hb1 := Lib.hid (hb0.out.trans (hM1.below (B := w.heap.size) (Nat.le_succ _) (by rw [hz0.out]; omega)))
  have hz1 : w.heap.size + 2 ≤ w1.heap.size := by have := hM1.size; rw [hz0.out] at this; exact this
  clear hT1 hM1 cW hT0 hbx0
  go_wp2_with fail
  refine (cP _ HT1.out hC1.out).mono ?_
  rintro e w2 ⟨rfl, hT2, hM2⟩
  have hC2 := Lib.hid (hC1.out.moved HT1.out hM2)
  have hb2 := Lib.hid (hb1.out.trans (hM2.below (B := w.heap.size) (Nat.le_succ _) (by omega)))
  have hz2 : w.heap.size + 2 ≤ w2.heap.size := Nat.le_trans hz1 hM2.size
  have hbA : Below w2.heap.size w2 (w2.alloc (.cells #[.int .i64 (y : Int), .int .i64 (m : Int), .int .i64 (d : Int), .int .i64 (c : Int)] 87)) := (Below.refl _ _).alloc (Nat.le_refl _) _
  have hTA := hT2.below hbA
  have k0 := hTA.c0
  have k1 := hTA.c1
  have hbB := Lib.hid (hb2.out.trans (hbA.mono hb2.out.size))
  have hCB := Lib.hid (hC2.out.below hbA)
  dsimp only at k0 k1
  have he := isEmpty_strB r
  clear hT2 hM2 hbA hTA hbx cP
  cases x
  · cases hr : r.isEmpty
    · rw [hr] at he hA
      have hA2 : Hid (ans = none) := Lib.hid hA
      clear hA
      generalize strB r = q at *
      go_wp2_with fail
      go_ret2
      exact ⟨by rw [hA2.out] <;> rfl, hbB.out⟩
    · rw [hr] at he hA
      have hA' : ans = (if DayOk y m d ∧ wdN (daysN y m d) = n1 then some (86400 * daysN y m d + c) else none) := by rw [hA] <;> rfl
      clear hA
      have cD := days_any y m d _ hCB.out
      generalize hq : strB r = q at *
      clear hq
      have hz3 : (w2.alloc (.cells #[.int .i64 (y : Int), .int .i64 (m : Int), .int .i64 (d : Int), .int .i64 (c : Int)] 87)).heap.size = w2.heap.size + 1 := by simp
      have Hz3 := Lib.hid hz3
      clear hz3
      unfold daysV at cD
      rw [dayI_nat] at cD
      by_cases hk : DayOk y m d
      · rw [if_pos (by simpa using hk)] at cD
        simp only [Int.toNat_natCast] at cD
        have hlt := days_bound hk
        have cK := fun W => weekday_nat (daysN y m d) W (by omega)
        by_cases hw : wdN (daysN y m d) = n1
        · have hgo : Hid (ans = some (86400 * daysN y m d + c)) := Lib.hid (hA'.trans (if_pos ⟨hk, hw⟩))
          clear hA'
          have hne : (((wdN (daysN y m d) : Nat) : Int) != (n1 : Int)) = false := by rw [hw]; simp
          generalize wdN (daysN y m d) = wd at *
          generalize daysN y m d = K at *
          go_wp2_with fail
          refine cD.mono ?_
          rintro e w3 ⟨rfl, hb3⟩
          have kc : w3.cell? ⟨w2.heap.size, 3, none⟩ = some (.int .i64 (c : Int)) := (hb3.cell (p := ⟨w2.heap.size, 3, none⟩) (by rw [Hz3.out]; exact Nat.lt_succ_self _)).trans (by simp)
          go_wp2_with fail
          refine (cK _).mono ?_
          rintro e w4 ⟨rfl, rfl⟩
          go_wp2_with fail
          go_ret2
          refine ⟨?_, hbB.out.trans (hb3.mono hbB.out.size)⟩
          rw [hgo.out]
          have hcast : ((86400 * K + c : Nat) : Int) = (K : Int) * 86400 + (c : Int) := by omega
          simp only [secV]
          rw [hcast]
          rfl
        · have hgo : Hid (ans = none) := Lib.hid (hA'.trans (if_neg (fun h => hw h.2)))
          clear hA'
          have hne : (((wdN (daysN y m d) : Nat) : Int) != (n1 : Int)) = true := by simp; omega
          generalize wdN (daysN y m d) = wd at *
          generalize daysN y m d = K at *
          go_wp2_with fail
          refine cD.mono ?_
          rintro e w3 ⟨rfl, hb3⟩
          go_wp2_with fail
          refine (cK _).mono ?_
          rintro e w4 ⟨rfl, rfl⟩
          go_wp2_with fail
          go_ret2
          refine ⟨?_, hbB.out.trans (hb3.mono hbB.out.size)⟩
          rw [hgo.out]
          rfl
      · rw [if_neg (by simpa using hk)] at cD
        have hgo : Hid (ans = none) := Lib.hid (hA'.trans (if_neg (fun h => hk h.1)))
        clear hA'
        go_wp2_with fail
        refine cD.mono ?_
        rintro e w3 ⟨rfl, hb3⟩
        go_wp2_with fail
        go_ret2
        refine ⟨?_, hbB.out.trans (hb3.mono hbB.out.size)⟩
        rw [hgo.out]
        rfl
  · have hA2 : Hid (ans = none) := Lib.hid hA
    clear he hA
    generalize strB r = q at *
    go_wp2_with fail
    go_ret2
    exact ⟨by rw [hA2.out] <;> rfl, hbB.out⟩

end Go.Proofs.YtgffnjdmhpfneaaDoor
