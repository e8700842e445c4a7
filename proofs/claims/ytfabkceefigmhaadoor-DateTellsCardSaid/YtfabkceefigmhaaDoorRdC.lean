/- The contracts of the document's own Days and day (sculleryref05). -/
import Derived.Test.YtfabkceefigmhaaDoorRdB
namespace Go.Proofs.YtfabkceefigmhaaDoor
open Go.RowKit

set_option maxRecDepth 100000 in
set_option maxHeartbeats 4000000 in
theorem rdays_yes (y m d : Nat) (hk : DayOk y m d) (w : World) :
    Calls Tryd.prog 8 #[.int .i64 y, .int .i64 m, .int .i64 d] w fun e w' => e = .returned (.tuple #[.int .i64 (daysN y m d : Nat), .int .i64 0]) ∧ Below w.heap.size w w' := by
  have hy1 := hk.y1
  have hy2 := hk.y2
  have hm1 := hk.m1
  have hm2 := hk.m2
  have hd1 := hk.d1
  have hd2 := hk.d2
  have hlt := days_bound hk
  have cG := fun W => rlong_any y m W hy1 hm1 hm2
  have hH : Hid (daysN y m d = dbN y + msN y (m - 1) + d - 1) := Lib.hid rfl
  have hH2 : dbN y + msN y (m - 1) + d ≤ 3000000 := by unfold daysN at hlt; omega
  have d1 : decide ((y : Int) < 1970) = false := by simp; omega
  have d2 : decide ((y : Int) > 9999) = false := by simp; omega
  have d3 : decide ((m : Int) < 1) = false := by simp; omega
  have d4 : decide ((m : Int) > 12) = false := by simp; omega
  have d5 : decide ((d : Int) < 1) = false := by simp; omega
  clear hlt hk
  generalize mlN y m = lm at cG hd2
  have d6 : decide (lm < d) = false := by simp; omega
  go_enter Tryd.func8, Tryd.ntmps8
  go_wp2_with fail
  refine (cG _).mono ?_
  rintro e w1 ⟨rfl, hb1⟩
  go_wp2_with fail
  clear cG
  go_loopw [8, 9] (fun x i wr => ∃ k : Nat, i = .int .i64 k ∧ 1970 ≤ k ∧ k ≤ y ∧ x = .int .i64 (dbN k : Nat) ∧ Below w.heap.size w wr) (fun _ i _ => y - (intOf i).toNat)
  case atStart => exact ⟨1970, rfl, by omega, hy1, by rw [db_first]; rfl, hb1⟩
  case round =>
    obtain ⟨k, rfl, hk1, hk2, rfl, hb⟩ := hrel
    by_cases hlt : k < y
    · have cL := fun W => rleap_any k W
      have hs := db_leapB hk1
      have hmo := db_mono (y := k + 1) (z := y) (by omega) hlt
      cases hl : leapB k
      · rw [hl] at cL hs
        have hs2 : dbN (k + 1) = dbN k + 365 := hs
        have Hs := Lib.hid hs2
        have hq : dbN k ≤ 3000000 := by omega
        clear hs hs2 hmo hl hH hH2
        generalize dbN k = q at *
        go_wp2_with fail
        refine (cL _).mono ?_
        rintro e w3 ⟨rfl, rfl⟩
        go_wp2_with fail
        go_roundw
        case rel => exact ⟨k + 1, by go_num, by omega, by omega, by rw [Hs.out]; go_num, hb⟩
        case measure => simp [intOf]; omega
      · rw [hl] at cL hs
        have hs2 : dbN (k + 1) = dbN k + 365 + 1 := hs
        have Hs := Lib.hid hs2
        have hq : dbN k ≤ 3000000 := by omega
        clear hs hs2 hmo hl hH hH2
        generalize dbN k = q at *
        go_wp2_with fail
        refine (cL _).mono ?_
        rintro e w3 ⟨rfl, rfl⟩
        go_wp2_with fail
        go_roundw
        case rel => exact ⟨k + 1, by go_num, by omega, by omega, by rw [Hs.out]; go_num, hb⟩
        case measure => simp [intOf]; omega
    · obtain rfl : k = y := by omega
      generalize dbN k = b at *
      go_wp2_with fail
      go_loopw [8, 10] (fun x i wr2 => ∃ j : Nat, i = .int .i64 j ∧ 1 ≤ j ∧ j ≤ m ∧ x = .int .i64 (b + msN k (j - 1) : Nat) ∧ Below w.heap.size w wr2) (fun _ i _ => m - (intOf i).toNat)
      case atStart => exact ⟨1, rfl, by omega, by omega, rfl, hb⟩
      case round =>
        rename World => W1
        obtain ⟨j, rfl, hj1, hjm, rfl, hbj⟩ := hrel
        by_cases hlt : j < m
        · have cL := fun W => rlong_any k j W (by omega) (by omega) (by omega)
          have hs : msN k (j + 1 - 1) = msN k (j - 1) + mlN k j := by
            obtain ⟨i, rfl⟩ : ∃ i, j = i + 1 := ⟨j - 1, by omega⟩
            exact ms_step k i
          have hmo := ms_mono (y := k) (a := j + 1 - 1) (b := m - 1) (by omega)
          rw [hs] at hmo
          have Hs := Lib.hid hs
          clear hs
          generalize mlN k j = l at cL hmo Hs
          generalize hq : msN k (j - 1) = q at hmo Hs
          generalize msN k (m - 1) = z at hmo hH hH2
          go_wp2_with fail
          refine (cL _).mono ?_
          rintro e w3 ⟨rfl, hb3⟩
          go_wp2_with fail
          go_roundw
          case rel => exact ⟨j + 1, by go_num, by omega, by omega, by rw [Hs.out]; go_num, hbj.trans (hb3.mono hbj.size)⟩
          case measure => simp [intOf]; omega
        · obtain rfl : j = m := by omega
          go_wp2_with fail
          refine bodyPost_ret (v := .tuple #[.int .i64 (daysN k j d : Nat), .int .i64 0]) (by simp [results, Tryd.results8, go_sem]; rw [hH.out]; omega) rfl ⟨rfl, hbj⟩

set_option maxRecDepth 100000 in
set_option maxHeartbeats 4000000 in
theorem rdays_any (y m d : Int) (w : World) :
    Calls Tryd.prog 8 #[.int .i64 y, .int .i64 m, .int .i64 d] w fun e w' => e = .returned (daysV y m d) ∧ Below w.heap.size w w' := by
  cases hd : dayI y m d
  · have hv : daysV y m d = .tuple #[.int .i64 0, .int .i64 1] := by unfold daysV; rw [hd]; rfl
    rw [hv]
    by_cases q1 : y < 1970
    · have d1 : decide (y < 1970) = true := by simpa using q1
      clear hd hv
      go_enter Tryd.func8, Tryd.ntmps8
      go_wp2_with fail
      exact bodyPost_ret (v := .tuple #[.int .i64 0, .int .i64 1]) (by simp [results, Tryd.results8, go_sem]) rfl ⟨rfl, Below.refl _ _⟩
    · have d1 : decide (y < 1970) = false := by simpa using q1
      by_cases q2 : y > 9999
      · have d2 : decide (y > 9999) = true := by simpa using q2
        clear hd hv
        go_enter Tryd.func8, Tryd.ntmps8
        go_wp2_with fail
        exact bodyPost_ret (v := .tuple #[.int .i64 0, .int .i64 1]) (by simp [results, Tryd.results8, go_sem]) rfl ⟨rfl, Below.refl _ _⟩
      · have d2 : decide (y > 9999) = false := by simpa using q2
        by_cases q3 : m < 1
        · have d3 : decide (m < 1) = true := by simpa using q3
          clear hd hv
          go_enter Tryd.func8, Tryd.ntmps8
          go_wp2_with fail
          exact bodyPost_ret (v := .tuple #[.int .i64 0, .int .i64 1]) (by simp [results, Tryd.results8, go_sem]) rfl ⟨rfl, Below.refl _ _⟩
        · have d3 : decide (m < 1) = false := by simpa using q3
          by_cases q4 : m > 12
          · have d4 : decide (m > 12) = true := by simpa using q4
            clear hd hv
            go_enter Tryd.func8, Tryd.ntmps8
            go_wp2_with fail
            exact bodyPost_ret (v := .tuple #[.int .i64 0, .int .i64 1]) (by simp [results, Tryd.results8, go_sem]) rfl ⟨rfl, Below.refl _ _⟩
          · have d4 : decide (m > 12) = false := by simpa using q4
            by_cases q5 : d < 1
            · have d5 : decide (d < 1) = true := by simpa using q5
              clear hd hv
              go_enter Tryd.func8, Tryd.ntmps8
              go_wp2_with fail
              exact bodyPost_ret (v := .tuple #[.int .i64 0, .int .i64 1]) (by simp [results, Tryd.results8, go_sem]) rfl ⟨rfl, Below.refl _ _⟩
            · have d5 : decide (d < 1) = false := by simpa using q5
              obtain ⟨y, rfl⟩ := Int.eq_ofNat_of_zero_le (show 0 ≤ y by omega)
              obtain ⟨m, rfl⟩ := Int.eq_ofNat_of_zero_le (show 0 ≤ m by omega)
              obtain ⟨d, rfl⟩ := Int.eq_ofNat_of_zero_le (show 0 ≤ d by omega)
              have cG := fun W => rlong_any y m W (by omega) (by omega) (by omega)
              have hl : mlN y m < d := by
                rw [dayI_nat, decide_eq_false_iff_not] at hd
                by_cases h : d ≤ mlN y m
                · exact absurd ⟨by omega, by omega, by omega, by omega, by omega, h⟩ hd
                · omega
              clear hd hv
              generalize mlN y m = lm at *
              have d6 : decide (lm < d) = true := by simp; omega
              go_enter Tryd.func8, Tryd.ntmps8
              go_wp2_with fail
              refine (cG _).mono ?_
              rintro e w1 ⟨rfl, hb1⟩
              go_wp2_with fail
              exact bodyPost_ret (v := .tuple #[.int .i64 0, .int .i64 1]) (by simp [results, Tryd.results8, go_sem]) rfl ⟨rfl, hb1⟩
  · have hv : daysV y m d = .tuple #[.int .i64 (daysN y.toNat m.toNat d.toNat : Nat), .int .i64 0] := by unfold daysV; rw [if_pos hd]
    rw [hv]
    clear hv
    unfold dayI at hd
    obtain ⟨q1, q2, q3, hk⟩ := of_decide_eq_true hd
    obtain ⟨y, rfl⟩ := Int.eq_ofNat_of_zero_le q1
    obtain ⟨m, rfl⟩ := Int.eq_ofNat_of_zero_le q2
    obtain ⟨d, rfl⟩ := Int.eq_ofNat_of_zero_le q3
    exact rdays_yes y m d hk w

end Go.Proofs.YtfabkceefigmhaaDoor
