/- The contracts of the calendar of package date. -/
import Derived.Test.YtfabkceefigmhaaDoorShelf
import Derived.Test.YtfabkceefigmhaaDoorRows
import Derived.WalkKit
import Derived.WalkSpells
import Derived.WalkLawsBesides
import Derived.Lib.Hide
import Derived.Deep.LoopGhost
import Derived.BigQuiet
import Derived.Deep.QuietTactic
import Derived.IntWalk
import Derived.Deep.RegionWith
import Derived.Test.YtfabkceefigmhaaDoorDatQ
namespace Go.Proofs.YtfabkceefigmhaaDoor
open Go.RowKit

/-- The tables of package date lie in memory. -/
structure Cal (w : World) : Prop where
  md : ∀ j, j < 12 → w.cell? ⟨0, j, none⟩ = some (.int .i64 (mdT.getD j 0 : Nat))
  wk : ∀ j, j < 7 → w.cell? ⟨1, j, none⟩ = some (.string (strB (wkT j)))
  mo : ∀ j, j < 12 → w.cell? ⟨2, j, none⟩ = some (.string (strB (moT (j + 1))))

theorem Cal.below {w w' : World} (h : Cal w) (hb : Below w.heap.size w w') : Cal w' :=
  ⟨fun j hj => (hb.cell (p := ⟨_, j, none⟩) (lt_of_cell (h.md j hj))).trans (h.md j hj), fun j hj => (hb.cell (p := ⟨_, j, none⟩) (lt_of_cell (h.wk j hj))).trans (h.wk j hj), fun j hj => (hb.cell (p := ⟨_, j, none⟩) (lt_of_cell (h.mo j hj))).trans (h.mo j hj)⟩
theorem Cal.drew {w : World} (h : Cal w) (n : Nat) : Cal (w.drewN n) := ⟨h.md, h.wk, h.mo⟩

/-- The number of leap years, of a year that is told as Go's number. -/
def lpI (x : Int) : Int := (x - 1) / 4 - (x - 1) / 100 + (x - 1) / 400
theorem lpI_nat (y : Nat) (h : 1 ≤ y) : lpI y = (lpN y : Nat) := by unfold lpI lpN; omega

set_option maxHeartbeats 1000000 in
theorem leapsI_any (x : Int) (w : World) (h1 : 1 ≤ x) (h2 : x ≤ 20000) :
    Calls Tryd.prog 30 #[.int .i64 x] w fun e w' => e = .returned (.int .i64 (lpI x)) ∧ w = w' := by
  unfold lpI
  go_enter Tryd.func30, Tryd.ntmps30
  go_wp2
  go_ret
  exact ⟨rfl, rfl⟩
theorem leaps_any (y : Nat) (w : World) (h1 : 1 ≤ y) (h2 : y ≤ 20000) :
    Calls Tryd.prog 30 #[.int .i64 y] w fun e w' => e = .returned (.int .i64 (lpN y : Nat)) ∧ w = w' := by
  rw [← lpI_nat y h1]
  exact leapsI_any y w (by omega) (by omega)

set_option maxHeartbeats 1000000 in
theorem daysBefore_any (y : Nat) (w : World) (h1 : 1970 ≤ y) (h2 : y ≤ 19999) :
    Calls Tryd.prog 16 #[.int .i64 y] w fun e w' => e = .returned (.int .i64 (dbN y : Nat)) ∧ w = w' := by
  have c1 := leaps_any y w (by omega) (by omega)
  have c2 := leaps_any 1970 w (by omega) (by omega)
  rw [show lpN 1970 = 477 by decide] at c2
  have hg := lp_ge h1
  have hl := lp_le h1
  have hv : (dbN y : Int) = 365 * ((y : Int) - 1970) + (lpN y : Int) - 477 := by unfold dbN; omega
  rw [hv]
  clear hv
  generalize lpN y = l at *
  go_enter Tryd.func16, Tryd.ntmps16
  go_wp2_with fail
  refine c1.mono ?_
  rintro e w1 ⟨rfl, rfl⟩
  go_wp2_with fail
  refine c2.mono ?_
  rintro e w1 ⟨rfl, rfl⟩
  go_wp2_with fail
  go_ret
  exact ⟨rfl, rfl⟩

set_option maxHeartbeats 1000000 in
theorem weekday_any (k : Int) (w : World) (h0 : -9223372036854775808 ≤ k) (h1 : k ≤ 9223372036854775807) :
    Calls Tryd.prog 13 #[.int .i64 k] w fun e w' => e = .returned (.int .i64 (if k < 0 then 0 else (k % 7 + 4) % 7)) ∧ w = w' := by
  by_cases h : k < 0
  · rw [if_pos h]
    have d1 : decide (k < 0) = true := by simpa using h
    go_enter Tryd.func13, Tryd.ntmps13
    go_wp2
    go_ret
    exact ⟨rfl, rfl⟩
  · rw [if_neg h]
    obtain ⟨k, rfl⟩ := Int.eq_ofNat_of_zero_le (show 0 ≤ k by omega)
    have d1 : decide ((k : Int) < 0) = false := by simp
    go_enter Tryd.func13, Tryd.ntmps13
    go_wp2
    go_ret
    exact ⟨rfl, rfl⟩

set_option maxHeartbeats 1000000 in
theorem fullYear_any (n : Nat) (w : World) (h : n ≤ 99) :
    Calls Tryd.prog 45 #[.int .i64 n] w fun e w' => e = .returned (.int .i64 (fyN n : Nat)) ∧ w = w' := by
  unfold fyN
  by_cases h7 : 1970 ≤ 1900 + n
  · rw [if_pos h7, show ((1900 + n : Nat) : Int) = 1900 + (n : Int) by omega]
    have d1 : (1970 : Int) ≤ 1900 + (n : Int) := by omega
    go_enter Tryd.func45, Tryd.ntmps45
    go_wp2
    go_ret
    exact ⟨rfl, rfl⟩
  · rw [if_neg h7, show ((2000 + n : Nat) : Int) = 2000 + (n : Int) by omega]
    have d1 : ¬ (1970 : Int) ≤ 1900 + (n : Int) := by omega
    go_enter Tryd.func45, Tryd.ntmps45
    go_wp2
    go_ret
    exact ⟨rfl, rfl⟩

theorem quiet_same {P : Program} {f : FuncId} {args : Array Value} {w : World} {n : Nat} {v : Value}
    (h : Calls P f args (w.drewN n) fun e w' => e = .returned v ∧ w.drewN n = w') :
    Calls P f args (w.drewN n) fun e w'' => e = .returned v ∧ ∃ m, w'' = w.drewN m :=
  h.mono fun _ _ ⟨he, hm⟩ => ⟨he, n, hm.symm⟩

theorem wrap_small (x : Int) (h0 : -9223372036854775808 ≤ x) (h1 : x ≤ 9223372036854775807) : IntKind.i64.wrap x = x := by
  rw [IntKind.wrap_i64]
  omega

set_option maxHeartbeats 2000000 in
theorem monthLength_any (y m : Nat) (w : World) (h1 : 1970 ≤ y) (h2 : y ≤ 19999) (h3 : 1 ≤ m) (h4 : m ≤ 12) (hC : Cal w) :
    Calls Tryd.prog 17 #[.int .i64 y, .int .i64 m] w fun e w' => e = .returned (.int .i64 (mlN y m : Nat)) ∧ Below w.heap.size w w' := by
  have hc := hC.md (m - 1) (by omega)
  clear hC
  have e0 : ((m : Int) - 1) = ((m - 1 : Nat) : Int) := by omega
  unfold mlN
  by_cases hm : m = 2
  · subst hm
    rw [if_pos rfl]
    have c1 := fun x W => leapsI_any x W
    have g1 := lp_step h1
    have g2 := lp_ge h1
    have g3 := lp_le h1
    have e1 : lpI ((y : Int) + 1) = (lpN (y + 1) : Nat) := by rw [← lpI_nat (y + 1) (by omega)]; rfl
    have e2 : lpI (y : Int) = (lpN y : Nat) := lpI_nat y (by omega)
    have hv : ((28 + (lpN (y + 1) - lpN y) : Nat) : Int) = 28 + lpI ((y : Int) + 1) - lpI (y : Int) := by rw [e1, e2]; omega
    rw [hv]
    clear hv e0
    have w3 := wrap_small (28 + lpI ((y : Int) + 1)) (by omega) (by omega)
    have w4 := wrap_small (28 + lpI ((y : Int) + 1) - lpI (y : Int)) (by omega) (by omega)
    have w2 := wrap_small ((y : Int) + 1) (by omega) (by omega)
    clear e1 e2 g1 g2 g3
    rw [show ((mdT.getD (2 - 1) 0 : Nat) : Int) = 28 by decide] at hc
    have hc2 : w.cell? ⟨0, 1, none⟩ = some (.int .i64 28) := hc
    clear hc
    show Calls Tryd.prog 17 #[.int .i64 y, .int .i64 2] w _
    have w1 : IntKind.i64.wrap 1 = 1 := by decide
    go_enter Tryd.func17, Tryd.ntmps17
    go_wp2_with fail
    go_quiet ((go_at_call 30; exact quiet_same (c1 _ _ (by omega) (by omega))))
    go_wp2_with fail
    go_ret
    exact ⟨rfl, below_drewN _ _⟩
  · rw [if_neg hm]
    have d1 : ((m : Int) == 2) = false := by simp; omega
    generalize mdT.getD (m - 1) 0 = l at *
    go_enter Tryd.func17, Tryd.ntmps17
    go_wp2
    go_ret
    exact ⟨rfl, Below.refl _ _⟩

/-- Whether three numbers are a day. -/
def dayI (y m d : Int) : Bool := decide (0 ≤ y ∧ 0 ≤ m ∧ 0 ≤ d ∧ DayOk y.toNat m.toNat d.toNat)
theorem dayI_nat (y m d : Nat) : dayI y m d = decide (DayOk y m d) := by
  unfold dayI
  rw [Bool.eq_iff_iff]
  simp only [decide_eq_true_eq, Int.toNat_natCast]
  exact ⟨fun h => h.2.2.2, fun h => ⟨by omega, by omega, by omega, h⟩⟩

theorem dayI_no {y m d : Int} (h : ¬ (1970 ≤ y ∧ y ≤ 9999 ∧ 1 ≤ m ∧ m ≤ 12 ∧ 1 ≤ d)) : dayI y m d = false := by
  unfold dayI
  rw [decide_eq_false_iff_not]
  rintro ⟨h1, h2, h3, k⟩
  have := k.y1
  have := k.y2
  have := k.m1
  have := k.m2
  have := k.d1
  omega

set_option maxHeartbeats 4000000 in
theorem isDay_any (y m d : Int) (w : World) (hC : Cal w) :
    Calls Tryd.prog 15 #[.int .i64 y, .int .i64 m, .int .i64 d] w fun e w' => e = .returned (.bool (dayI y m d)) ∧ Below w.heap.size w w' := by
  have HC := Lib.hid hC
  clear hC
  by_cases hin : 1970 ≤ y ∧ y ≤ 9999 ∧ 1 ≤ m ∧ m ≤ 12 ∧ 1 ≤ d
  · obtain ⟨q1, q2, q3, q4, q5⟩ := hin
    obtain ⟨y, rfl⟩ := Int.eq_ofNat_of_zero_le (show 0 ≤ y by omega)
    obtain ⟨m, rfl⟩ := Int.eq_ofNat_of_zero_le (show 0 ≤ m by omega)
    obtain ⟨d, rfl⟩ := Int.eq_ofNat_of_zero_le (show 0 ≤ d by omega)
    have cL := fun W hW => monthLength_any y m W (by omega) (by omega) (by omega) (by omega) hW
    have hv : dayI (y : Int) m d = decide (d ≤ mlN y m) := by
      rw [dayI_nat, Bool.eq_iff_iff]
      simp only [decide_eq_true_eq]
      exact ⟨fun h => h.d2, fun h => ⟨by omega, by omega, by omega, by omega, by omega, h⟩⟩
    rw [hv]
    clear hv
    generalize mlN y m = l at *
    have d1 : decide (1970 ≤ (y : Int)) = true := by simpa using q1
    have d2 : decide ((y : Int) ≤ 9999) = true := by simpa using q2
    have d3 : decide (1 ≤ (m : Int)) = true := by simpa using q3
    have d4 : decide ((m : Int) ≤ 12) = true := by simpa using q4
    have d5 : decide (1 ≤ (d : Int)) = true := by simpa using q5
    go_enter Tryd.func15, Tryd.ntmps15
    go_wp2_with fail
    refine (cL _ HC.out).mono ?_
    rintro e w1 ⟨rfl, hb1⟩
    go_wp2_with fail
    go_ret
    exact ⟨rfl, hb1⟩
  · rw [dayI_no hin]
    by_cases q1 : 1970 ≤ y
    · have d1 : decide (1970 ≤ y) = true := by simpa using q1
      by_cases q2 : y ≤ 9999
      · have d2 : decide (y ≤ 9999) = true := by simpa using q2
        by_cases q3 : 1 ≤ m
        · have d3 : decide (1 ≤ m) = true := by simpa using q3
          by_cases q4 : m ≤ 12
          · have d4 : decide (m ≤ 12) = true := by simpa using q4
            have d5 : decide (1 ≤ d) = false := by simp; omega
            clear hin
            go_enter Tryd.func15, Tryd.ntmps15
            go_wp2_with fail
            go_ret
            exact ⟨rfl, Below.refl _ _⟩
          · have d4 : decide (m ≤ 12) = false := by simpa using q4
            clear hin
            go_enter Tryd.func15, Tryd.ntmps15
            go_wp2_with fail
            go_ret
            exact ⟨rfl, Below.refl _ _⟩
        · have d3 : decide (1 ≤ m) = false := by simpa using q3
          clear hin
          go_enter Tryd.func15, Tryd.ntmps15
          go_wp2_with fail
          go_ret
          exact ⟨rfl, Below.refl _ _⟩
      · have d2 : decide (y ≤ 9999) = false := by simpa using q2
        clear hin
        go_enter Tryd.func15, Tryd.ntmps15
        go_wp2_with fail
        go_ret
        exact ⟨rfl, Below.refl _ _⟩
    · have d1 : decide (1970 ≤ y) = false := by simpa using q1
      clear hin
      go_enter Tryd.func15, Tryd.ntmps15
      go_wp2_with fail
      go_ret
      exact ⟨rfl, Below.refl _ _⟩

/-- What Days answers. -/
def daysV (y m d : Int) : Value := if dayI y m d then .tuple #[.int .i64 (daysN y.toNat m.toNat d.toNat : Nat), .int .i64 0] else .tuple #[.int .i64 0, .int .i64 1]

set_option maxHeartbeats 4000000 in
theorem days_any (y m d : Int) (w : World) (hC : Cal w) :
    Calls Tryd.prog 7 #[.int .i64 y, .int .i64 m, .int .i64 d] w fun e w' => e = .returned (daysV y m d) ∧ Below w.heap.size w w' := by
  have cI := isDay_any y m d w hC
  have HC := Lib.hid hC
  clear hC
  unfold daysV
  cases hd : dayI y m d
  · rw [hd] at cI
    rw [if_neg (by simp)]
    clear hd
    go_enter Tryd.func7, Tryd.ntmps7
    go_wp2_with fail
    refine cI.mono ?_
    rintro e w1 ⟨rfl, hb1⟩
    go_wp2_with fail
    exact bodyPost_ret (v := .tuple #[.int .i64 0, .int .i64 1]) (by simp [results, Tryd.results7, go_sem]) rfl ⟨rfl, hb1⟩
  · rw [hd] at cI
    rw [if_pos rfl]
    unfold dayI at hd
    obtain ⟨q1, q2, q3, hk⟩ := of_decide_eq_true hd
    clear hd
    obtain ⟨y, rfl⟩ := Int.eq_ofNat_of_zero_le q1
    obtain ⟨m, rfl⟩ := Int.eq_ofNat_of_zero_le q2
    obtain ⟨d, rfl⟩ := Int.eq_ofNat_of_zero_le q3
    simp only [Int.toNat_natCast] at hk cI ⊢
    have hy1 := hk.y1
    have hy2 := hk.y2
    have hm1 := hk.m1
    have hm2 := hk.m2
    have hd1 := hk.d1
    have hlt := days_bound hk
    have cB := fun W => daysBefore_any y W (by omega) (by omega)
    have hH : Hid (daysN y m d = dbN y + msN y (m - 1) + d - 1) := Lib.hid rfl
    have hH2 : dbN y + msN y (m - 1) + d ≤ 3000000 := by unfold daysN at hlt; omega
    clear hlt q1 q2 q3 hk
    generalize hb0 : dbN y = b at cB hH hH2
    clear hb0
    go_enter Tryd.func7, Tryd.ntmps7
    go_wp2_with fail
    refine cI.mono ?_
    rintro e w1 ⟨rfl, hb1⟩
    go_wp2_with fail
    refine (cB _).mono ?_
    rintro e w2 ⟨rfl, rfl⟩
    go_wp2_with fail
    go_loopw [8, 9] (fun x i wr => ∃ k : Nat, i = .int .i64 k ∧ 1 ≤ k ∧ k ≤ m ∧ x = .int .i64 (b + msN y (k - 1) : Nat) ∧ Below w.heap.size w wr) (fun _ i _ => m - (intOf i).toNat)
    case atStart => exact ⟨1, rfl, by omega, by omega, rfl, hb1⟩
    case round =>
      obtain ⟨k, rfl, hk1, hkm, rfl, hb⟩ := hrel
      by_cases hlt : k < m
      · have cL := fun W hW => monthLength_any y k W (by omega) (by omega) (by omega) (by omega) hW
        have hCr : Hid (Cal wr) := Lib.hid (HC.out.below hb)
        have hs : msN y (k + 1 - 1) = msN y (k - 1) + mlN y k := by
          obtain ⟨j, rfl⟩ : ∃ j, k = j + 1 := ⟨k - 1, by omega⟩
          exact ms_step y j
        have hmo := ms_mono (y := y) (a := k + 1 - 1) (b := m - 1) (by omega)
        rw [hs] at hmo
        have Hs := Lib.hid hs
        clear hs
        generalize mlN y k = l at cL hmo Hs
        generalize hq : msN y (k - 1) = q at hmo Hs
        generalize msN y (m - 1) = z at hmo hH hH2
        go_wp2_with fail
        refine (cL _ hCr.out).mono ?_
        rintro e w3 ⟨rfl, hb3⟩
        go_wp2_with fail
        go_roundw
        case rel => exact ⟨k + 1, by go_num, by omega, by omega, by rw [Hs.out]; congr 1; omega, hb.trans (hb3.mono hb.size)⟩
        case measure => simp [intOf]; omega
      · obtain rfl : k = m := by omega
        go_wp2_with fail
        refine bodyPost_ret (v := .tuple #[.int .i64 (daysN y k d : Nat), .int .i64 0]) (by simp [results, Tryd.results7, go_sem]; rw [hH.out]; omega) rfl ⟨rfl, hb⟩

end Go.Proofs.YtfabkceefigmhaaDoor
