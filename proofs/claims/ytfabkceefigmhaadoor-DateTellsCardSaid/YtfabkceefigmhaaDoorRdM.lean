/- The contract of the document's own Parse, of a text that is no date in the first two forms (sculleryref05). -/
import Derived.Test.YtfabkceefigmhaaDoorRdL
namespace Go.Proofs.YtfabkceefigmhaaDoor
open Go.RowKit

set_option maxRecDepth 100000 in
set_option maxHeartbeats 4000000 in
theorem rparse2 (l : List UInt8) (v : Value) (w : World) (hl : l.length ≤ 60) (h0 : First l) (h1 : scL wkT p1L l = none) (h2 : Third l v) :
    Calls Tryd.prog 12 #[.string (strB l)] w fun e w' => e = .returned v ∧ Below w.heap.size w w' := by
  have hA := asks_any l (by omega)
  have hz := strB_size l
  have hsz : (strB l).size ≤ 60 := by omega
  have hS : ∀ i, i < (strB l).size → ∀ n, gu1 l i = some n → fm1 n ≠ l := fun i hi n hg hf => by
    rw [hit1 l i n hg hf (by omega)] at h1
    cases h1
  clear hz h1
  rcases h0 with hg0 | ⟨n0, hg0, hf0⟩
  · -- no
    have c1 := fun W => hA.dg 12 4 W (by omega) (by omega) (by omega)
    have c2 := fun W => hA.dg 5 2 W (by omega) (by omega) (by omega)
    have c3 := fun W => hA.gu (dgV l 12 4) (dgV l 5 2) 8 17 W (by omega) (by omega)
    rw [show guV l (dgV l 12 4) 8 (dgV l 5 2) 17 = none from hg0] at c3
    have hge : decide ((-1 : Int) ≥ 0) = false := by decide
    simp only [guI] at c3
    clear hg0
    generalize dgV l 12 4 = a1 at *
    generalize dgV l 5 2 = a2 at *
    go_enter Tryd.func12, Tryd.ntmps12
    go_wp2_with fail
    refine (c1 _).mono ?_
    rintro e w1 ⟨rfl, rfl⟩
    go_wp2_with fail
    refine (c2 _).mono ?_
    rintro e w1 ⟨rfl, rfl⟩
    go_wp2_with fail
    refine (c3 _).mono ?_
    rintro e w1 ⟨rfl, hb1⟩
    go_wp2_with fail
    clear hge
    clear c1 c2 c3
    go_loopw [5] (fun x wr => ∃ i : Nat, x = .int .i64 i ∧ i ≤ 12 ∧ i ≤ (strB l).size ∧ Below w.heap.size w wr) (fun x _ => 12 - (intOf x).toNat)
    case atStart => exact ⟨0, rfl, by omega, by omega, hb1⟩
    case round =>
      clear hb1
      obtain ⟨i, rfl, hi, hi2, hb⟩ := hrel
      by_cases hin : i < (strB l).size
      · have d1 : decide (i < (strB l).size) = true := by simpa using hin
        by_cases h12 : i < 12
        · have d2 : decide ((i : Int) < 12) = true := by simp; omega
          cases hcm : (((strB l)[i].toNat : Int) != 44)
          · have hS1 := hS i hin
            cases hg1 : gu1 l i with
            | none =>
              clear hS hS1 h2
              have cY := fun W => hA.dg (i + 9) 2 W (by omega) (by omega) (by omega)
              have cD := fun W => hA.dg (i + 2) 2 W (by omega) (by omega) (by omega)
              have cG := fun W => hA.gu (ys1 (dgV l (i + 9) 2)) (dgV l (i + 2) 2) (i + 5) (i + 12) W (by omega) (by omega)
              rw [show ((i + 9 : Nat) : Int) = (i : Int) + 9 by omega] at cY
              rw [show ((i + 2 : Nat) : Int) = (i : Int) + 2 by omega] at cD
              rw [show ((i + 5 : Nat) : Int) = (i : Int) + 5 by omega, show ((i + 12 : Nat) : Int) = (i : Int) + 12 by omega] at cG
              obtain ⟨r1, r2⟩ := dg_range l (i + 9) 2
              rw [show ((10 : Int) ^ 2) = 100 by decide] at r2
              rw [show guV l (ys1 (dgV l (i + 9) 2)) (i + 5) (dgV l (i + 2) 2) (i + 12) = none from hg1] at cG
              simp only [guI] at cG
              have hge : decide ((-1 : Int) ≥ 0) = false := by decide
              clear hg1 hA
              by_cases h70 : 70 ≤ dgV l (i + 9) 2
              · have d70 : decide (dgV l (i + 9) 2 ≥ 70) = true := by simpa using h70
                rw [show ys1 (dgV l (i + 9) 2) = dgV l (i + 9) 2 + 1900 from if_pos h70] at cG
                clear h70
                generalize dgV l (i + 9) 2 = yy at *
                generalize dgV l (i + 2) 2 = dd at *
                generalize strB l = t at *
                go_wp2_with fail
                refine (cY _).mono ?_
                rintro e w3 ⟨rfl, rfl⟩
                go_wp2_with fail
                refine (cD _).mono ?_
                rintro e w3 ⟨rfl, rfl⟩
                go_wp2_with fail
                refine (cG _).mono ?_
                rintro e w3 ⟨rfl, hb3⟩
                have hb3 := hb.trans (hb3.mono hb.size)
                go_wp2_with fail
                go_roundw
                case rel => exact ⟨i + 1, by go_num, by omega, by omega, hb3⟩
                case measure => simp [intOf]; omega
              · have d70 : decide (dgV l (i + 9) 2 ≥ 70) = false := by simpa using h70
                rw [show ys1 (dgV l (i + 9) 2) = dgV l (i + 9) 2 + 2000 from if_neg h70] at cG
                clear h70
                generalize dgV l (i + 9) 2 = yy at *
                generalize dgV l (i + 2) 2 = dd at *
                generalize strB l = t at *
                go_wp2_with fail
                refine (cY _).mono ?_
                rintro e w3 ⟨rfl, rfl⟩
                go_wp2_with fail
                refine (cD _).mono ?_
                rintro e w3 ⟨rfl, rfl⟩
                go_wp2_with fail
                refine (cG _).mono ?_
                rintro e w3 ⟨rfl, hb3⟩
                have hb3 := hb.trans (hb3.mono hb.size)
                go_wp2_with fail
                go_roundw
                case rel => exact ⟨i + 1, by go_num, by omega, by omega, hb3⟩
                case measure => simp [intOf]; omega
            | some n1 =>
              have hf1 := hS1 n1 hg1
              clear hS hS1 h2
              have cY := fun W => hA.dg (i + 9) 2 W (by omega) (by omega) (by omega)
              have cD := fun W => hA.dg (i + 2) 2 W (by omega) (by omega) (by omega)
              have cG := fun W => hA.gu (ys1 (dgV l (i + 9) 2)) (dgV l (i + 2) 2) (i + 5) (i + 12) W (by omega) (by omega)
              rw [show ((i + 9 : Nat) : Int) = (i : Int) + 9 by omega] at cY
              rw [show ((i + 2 : Nat) : Int) = (i : Int) + 2 by omega] at cD
              rw [show ((i + 5 : Nat) : Int) = (i : Int) + 5 by omega, show ((i + 12 : Nat) : Int) = (i : Int) + 12 by omega] at cG
              obtain ⟨r1, r2⟩ := dg_range l (i + 9) 2
              rw [show ((10 : Int) ^ 2) = 100 by decide] at r2
              rw [show guV l (ys1 (dgV l (i + 9) 2)) (i + 5) (dgV l (i + 2) 2) (i + 12) = some n1 from hg1] at cG
              simp only [guI] at cG
              have c4 := fun W => rforms_n n1 (gu_lt hg1) W
              have hq := cmp_ne hf1
              have hx := run_ix1 (strB (fm0 n1)) (strB (fm1 n1)) (strB (fm2 n1))
              have hge : decide ((n1 : Int) ≥ 0) = true := by simp
              clear hf1
              generalize strB (fm0 n1) = T0 at *
              generalize strB (fm1 n1) = T1 at *
              generalize strB (fm2 n1) = T2 at *
              clear hg1 hA
              by_cases h70 : 70 ≤ dgV l (i + 9) 2
              · have d70 : decide (dgV l (i + 9) 2 ≥ 70) = true := by simpa using h70
                rw [show ys1 (dgV l (i + 9) 2) = dgV l (i + 9) 2 + 1900 from if_pos h70] at cG
                clear h70
                generalize dgV l (i + 9) 2 = yy at *
                generalize dgV l (i + 2) 2 = dd at *
                generalize strB l = t at *
                go_wp2_with fail
                refine (cY _).mono ?_
                rintro e w3 ⟨rfl, rfl⟩
                go_wp2_with fail
                refine (cD _).mono ?_
                rintro e w3 ⟨rfl, rfl⟩
                go_wp2_with fail
                refine (cG _).mono ?_
                rintro e w3 ⟨rfl, hb3⟩
                have hb3 := hb.trans (hb3.mono hb.size)
                go_wp2_with fail
                refine (c4 _).mono ?_
                rintro e w4 ⟨rfl, hb4⟩
                have hb4 := hb3.trans (hb4.mono hb3.size)
                go_wp2_with fail
                go_roundw
                case rel => exact ⟨i + 1, by go_num, by omega, by omega, hb4⟩
                case measure => simp [intOf]; omega
              · have d70 : decide (dgV l (i + 9) 2 ≥ 70) = false := by simpa using h70
                rw [show ys1 (dgV l (i + 9) 2) = dgV l (i + 9) 2 + 2000 from if_neg h70] at cG
                clear h70
                generalize dgV l (i + 9) 2 = yy at *
                generalize dgV l (i + 2) 2 = dd at *
                generalize strB l = t at *
                go_wp2_with fail
                refine (cY _).mono ?_
                rintro e w3 ⟨rfl, rfl⟩
                go_wp2_with fail
                refine (cD _).mono ?_
                rintro e w3 ⟨rfl, rfl⟩
                go_wp2_with fail
                refine (cG _).mono ?_
                rintro e w3 ⟨rfl, hb3⟩
                have hb3 := hb.trans (hb3.mono hb.size)
                go_wp2_with fail
                refine (c4 _).mono ?_
                rintro e w4 ⟨rfl, hb4⟩
                have hb4 := hb3.trans (hb4.mono hb3.size)
                go_wp2_with fail
                go_roundw
                case rel => exact ⟨i + 1, by go_num, by omega, by omega, hb4⟩
                case measure => simp [intOf]; omega
          · clear hA hS h2
            generalize strB l = t at *
            go_wp2_with fail
            go_roundw
            case rel => exact ⟨i + 1, by go_num, by omega, by omega, hb⟩
            case measure => simp [intOf]; omega
        · have d2 : decide ((i : Int) < 12) = false := by simp; omega
          have e1 := fun W => hA.dg 8 2 W (by omega) (by omega) (by omega)
          have e2 := fun W => hA.dg 9 1 W (by omega) (by omega) (by omega)
          have e3 := fun W => hA.dg 20 4 W (by omega) (by omega) (by omega)
          have e4 := fun W => hA.gu (dgV l 20 4) (ds2 l) 4 11 W (by omega) (by omega)
          rcases h2 with ⟨hg2, rfl⟩ | ⟨n2, hg2, hf2, rfl⟩ | ⟨n2, hg2, hf2, rfl⟩
          · -- no
            rw [show guV l (dgV l 20 4) 4 (ds2 l) 11 = none from hg2] at e4
            have hge : decide ((-1 : Int) ≥ 0) = false := by decide
            simp only [guI] at e4
            clear hg2 hA hS
            by_cases h8 : dgV l 8 2 < 0
            · have d8 : decide (dgV l 8 2 < 0) = true := by simpa using h8
              rw [show ds2 l = dgV l 9 1 from if_pos h8] at e4
              clear h8
              generalize dgV l 8 2 = a8 at *
              generalize dgV l 9 1 = a9 at *
              generalize dgV l 20 4 = a20 at *
              generalize strB l = t at *
              go_wp2_with fail
              refine (e1 _).mono ?_
              rintro e w3 ⟨rfl, rfl⟩
              go_wp2_with fail
              refine (e2 _).mono ?_
              rintro e w3 ⟨rfl, rfl⟩
              go_wp2_with fail
              refine (e3 _).mono ?_
              rintro e w3 ⟨rfl, rfl⟩
              go_wp2_with fail
              refine (e4 _).mono ?_
              rintro e w3 ⟨rfl, hb3⟩
              have hb3 := hb.trans (hb3.mono hb.size)
              go_wp2_with fail
              go_ret2
              exact ⟨rfl, hb3⟩
            · have d8 : decide (dgV l 8 2 < 0) = false := by simpa using h8
              rw [show ds2 l = dgV l 8 2 from if_neg h8] at e4
              clear h8
              generalize dgV l 8 2 = a8 at *
              generalize dgV l 9 1 = a9 at *
              generalize dgV l 20 4 = a20 at *
              generalize strB l = t at *
              go_wp2_with fail
              refine (e1 _).mono ?_
              rintro e w3 ⟨rfl, rfl⟩
              go_wp2_with fail
              refine (e3 _).mono ?_
              rintro e w3 ⟨rfl, rfl⟩
              go_wp2_with fail
              refine (e4 _).mono ?_
              rintro e w3 ⟨rfl, hb3⟩
              have hb3 := hb.trans (hb3.mono hb.size)
              go_wp2_with fail
              go_ret2
              exact ⟨rfl, hb3⟩
          · -- other
            rw [show guV l (dgV l 20 4) 4 (ds2 l) 11 = some n2 from hg2] at e4
            have c4 := fun W => rforms_n n2 (gu_lt hg2) W
            have hq := cmp_ne hf2
            have hx := run_ix2 (strB (fm0 n2)) (strB (fm1 n2)) (strB (fm2 n2))
            have hge : decide ((n2 : Int) ≥ 0) = true := by simp
            clear hf2
            generalize strB (fm0 n2) = T0 at *
            generalize strB (fm1 n2) = T1 at *
            generalize strB (fm2 n2) = T2 at *
            simp only [guI] at e4
            clear hg2 hA hS
            by_cases h8 : dgV l 8 2 < 0
            · have d8 : decide (dgV l 8 2 < 0) = true := by simpa using h8
              rw [show ds2 l = dgV l 9 1 from if_pos h8] at e4
              clear h8
              generalize dgV l 8 2 = a8 at *
              generalize dgV l 9 1 = a9 at *
              generalize dgV l 20 4 = a20 at *
              generalize strB l = t at *
              go_wp2_with fail
              refine (e1 _).mono ?_
              rintro e w3 ⟨rfl, rfl⟩
              go_wp2_with fail
              refine (e2 _).mono ?_
              rintro e w3 ⟨rfl, rfl⟩
              go_wp2_with fail
              refine (e3 _).mono ?_
              rintro e w3 ⟨rfl, rfl⟩
              go_wp2_with fail
              refine (e4 _).mono ?_
              rintro e w3 ⟨rfl, hb3⟩
              have hb3 := hb.trans (hb3.mono hb.size)
              go_wp2_with fail
              refine (c4 _).mono ?_
              rintro e w4 ⟨rfl, hb4⟩
              have hb4 := hb3.trans (hb4.mono hb3.size)
              go_wp2_with fail
              go_ret2
              exact ⟨rfl, hb4⟩
            · have d8 : decide (dgV l 8 2 < 0) = false := by simpa using h8
              rw [show ds2 l = dgV l 8 2 from if_neg h8] at e4
              clear h8
              generalize dgV l 8 2 = a8 at *
              generalize dgV l 9 1 = a9 at *
              generalize dgV l 20 4 = a20 at *
              generalize strB l = t at *
              go_wp2_with fail
              refine (e1 _).mono ?_
              rintro e w3 ⟨rfl, rfl⟩
              go_wp2_with fail
              refine (e3 _).mono ?_
              rintro e w3 ⟨rfl, rfl⟩
              go_wp2_with fail
              refine (e4 _).mono ?_
              rintro e w3 ⟨rfl, hb3⟩
              have hb3 := hb.trans (hb3.mono hb.size)
              go_wp2_with fail
              refine (c4 _).mono ?_
              rintro e w4 ⟨rfl, hb4⟩
              have hb4 := hb3.trans (hb4.mono hb3.size)
              go_wp2_with fail
              go_ret2
              exact ⟨rfl, hb4⟩
          · -- hit
            rw [show guV l (dgV l 20 4) 4 (ds2 l) 11 = some n2 from hg2] at e4
            have c4 := fun W => rforms_n n2 (gu_lt hg2) W
            have hq := cmp_eq hf2
            have hx := run_ix2 (strB (fm0 n2)) (strB (fm1 n2)) (strB (fm2 n2))
            have hge : decide ((n2 : Int) ≥ 0) = true := by simp
            clear hf2
            generalize strB (fm0 n2) = T0 at *
            generalize strB (fm1 n2) = T1 at *
            generalize strB (fm2 n2) = T2 at *
            simp only [guI] at e4
            clear hg2 hA hS
            by_cases h8 : dgV l 8 2 < 0
            · have d8 : decide (dgV l 8 2 < 0) = true := by simpa using h8
              rw [show ds2 l = dgV l 9 1 from if_pos h8] at e4
              clear h8
              generalize dgV l 8 2 = a8 at *
              generalize dgV l 9 1 = a9 at *
              generalize dgV l 20 4 = a20 at *
              generalize strB l = t at *
              go_wp2_with fail
              refine (e1 _).mono ?_
              rintro e w3 ⟨rfl, rfl⟩
              go_wp2_with fail
              refine (e2 _).mono ?_
              rintro e w3 ⟨rfl, rfl⟩
              go_wp2_with fail
              refine (e3 _).mono ?_
              rintro e w3 ⟨rfl, rfl⟩
              go_wp2_with fail
              refine (e4 _).mono ?_
              rintro e w3 ⟨rfl, hb3⟩
              have hb3 := hb.trans (hb3.mono hb.size)
              go_wp2_with fail
              refine (c4 _).mono ?_
              rintro e w4 ⟨rfl, hb4⟩
              have hb4 := hb3.trans (hb4.mono hb3.size)
              go_wp2_with fail
              go_ret2
              exact ⟨rfl, hb4⟩
            · have d8 : decide (dgV l 8 2 < 0) = false := by simpa using h8
              rw [show ds2 l = dgV l 8 2 from if_neg h8] at e4
              clear h8
              generalize dgV l 8 2 = a8 at *
              generalize dgV l 9 1 = a9 at *
              generalize dgV l 20 4 = a20 at *
              generalize strB l = t at *
              go_wp2_with fail
              refine (e1 _).mono ?_
              rintro e w3 ⟨rfl, rfl⟩
              go_wp2_with fail
              refine (e3 _).mono ?_
              rintro e w3 ⟨rfl, rfl⟩
              go_wp2_with fail
              refine (e4 _).mono ?_
              rintro e w3 ⟨rfl, hb3⟩
              have hb3 := hb.trans (hb3.mono hb.size)
              go_wp2_with fail
              refine (c4 _).mono ?_
              rintro e w4 ⟨rfl, hb4⟩
              have hb4 := hb3.trans (hb4.mono hb3.size)
              go_wp2_with fail
              go_ret2
              exact ⟨rfl, hb4⟩
      · have d1 : decide (i < (strB l).size) = false := by simpa using hin
        have e1 := fun W => hA.dg 8 2 W (by omega) (by omega) (by omega)
        have e2 := fun W => hA.dg 9 1 W (by omega) (by omega) (by omega)
        have e3 := fun W => hA.dg 20 4 W (by omega) (by omega) (by omega)
        have e4 := fun W => hA.gu (dgV l 20 4) (ds2 l) 4 11 W (by omega) (by omega)
        rcases h2 with ⟨hg2, rfl⟩ | ⟨n2, hg2, hf2, rfl⟩ | ⟨n2, hg2, hf2, rfl⟩
        · -- no
          rw [show guV l (dgV l 20 4) 4 (ds2 l) 11 = none from hg2] at e4
          have hge : decide ((-1 : Int) ≥ 0) = false := by decide
          simp only [guI] at e4
          clear hg2 hA hS
          by_cases h8 : dgV l 8 2 < 0
          · have d8 : decide (dgV l 8 2 < 0) = true := by simpa using h8
            rw [show ds2 l = dgV l 9 1 from if_pos h8] at e4
            clear h8
            generalize dgV l 8 2 = a8 at *
            generalize dgV l 9 1 = a9 at *
            generalize dgV l 20 4 = a20 at *
            generalize strB l = t at *
            go_wp2_with fail
            refine (e1 _).mono ?_
            rintro e w3 ⟨rfl, rfl⟩
            go_wp2_with fail
            refine (e2 _).mono ?_
            rintro e w3 ⟨rfl, rfl⟩
            go_wp2_with fail
            refine (e3 _).mono ?_
            rintro e w3 ⟨rfl, rfl⟩
            go_wp2_with fail
            refine (e4 _).mono ?_
            rintro e w3 ⟨rfl, hb3⟩
            have hb3 := hb.trans (hb3.mono hb.size)
            go_wp2_with fail
            go_ret2
            exact ⟨rfl, hb3⟩
          · have d8 : decide (dgV l 8 2 < 0) = false := by simpa using h8
            rw [show ds2 l = dgV l 8 2 from if_neg h8] at e4
            clear h8
            generalize dgV l 8 2 = a8 at *
            generalize dgV l 9 1 = a9 at *
            generalize dgV l 20 4 = a20 at *
            generalize strB l = t at *
            go_wp2_with fail
            refine (e1 _).mono ?_
            rintro e w3 ⟨rfl, rfl⟩
            go_wp2_with fail
            refine (e3 _).mono ?_
            rintro e w3 ⟨rfl, rfl⟩
            go_wp2_with fail
            refine (e4 _).mono ?_
            rintro e w3 ⟨rfl, hb3⟩
            have hb3 := hb.trans (hb3.mono hb.size)
            go_wp2_with fail
            go_ret2
            exact ⟨rfl, hb3⟩
        · -- other
          rw [show guV l (dgV l 20 4) 4 (ds2 l) 11 = some n2 from hg2] at e4
          have c4 := fun W => rforms_n n2 (gu_lt hg2) W
          have hq := cmp_ne hf2
          have hx := run_ix2 (strB (fm0 n2)) (strB (fm1 n2)) (strB (fm2 n2))
          have hge : decide ((n2 : Int) ≥ 0) = true := by simp
          clear hf2
          generalize strB (fm0 n2) = T0 at *
          generalize strB (fm1 n2) = T1 at *
          generalize strB (fm2 n2) = T2 at *
          simp only [guI] at e4
          clear hg2 hA hS
          by_cases h8 : dgV l 8 2 < 0
          · have d8 : decide (dgV l 8 2 < 0) = true := by simpa using h8
            rw [show ds2 l = dgV l 9 1 from if_pos h8] at e4
            clear h8
            generalize dgV l 8 2 = a8 at *
            generalize dgV l 9 1 = a9 at *
            generalize dgV l 20 4 = a20 at *
            generalize strB l = t at *
            go_wp2_with fail
            refine (e1 _).mono ?_
            rintro e w3 ⟨rfl, rfl⟩
            go_wp2_with fail
            refine (e2 _).mono ?_
            rintro e w3 ⟨rfl, rfl⟩
            go_wp2_with fail
            refine (e3 _).mono ?_
            rintro e w3 ⟨rfl, rfl⟩
            go_wp2_with fail
            refine (e4 _).mono ?_
            rintro e w3 ⟨rfl, hb3⟩
            have hb3 := hb.trans (hb3.mono hb.size)
            go_wp2_with fail
            refine (c4 _).mono ?_
            rintro e w4 ⟨rfl, hb4⟩
            have hb4 := hb3.trans (hb4.mono hb3.size)
            go_wp2_with fail
            go_ret2
            exact ⟨rfl, hb4⟩
          · have d8 : decide (dgV l 8 2 < 0) = false := by simpa using h8
            rw [show ds2 l = dgV l 8 2 from if_neg h8] at e4
            clear h8
            generalize dgV l 8 2 = a8 at *
            generalize dgV l 9 1 = a9 at *
            generalize dgV l 20 4 = a20 at *
            generalize strB l = t at *
            go_wp2_with fail
            refine (e1 _).mono ?_
            rintro e w3 ⟨rfl, rfl⟩
            go_wp2_with fail
            refine (e3 _).mono ?_
            rintro e w3 ⟨rfl, rfl⟩
            go_wp2_with fail
            refine (e4 _).mono ?_
            rintro e w3 ⟨rfl, hb3⟩
            have hb3 := hb.trans (hb3.mono hb.size)
            go_wp2_with fail
            refine (c4 _).mono ?_
            rintro e w4 ⟨rfl, hb4⟩
            have hb4 := hb3.trans (hb4.mono hb3.size)
            go_wp2_with fail
            go_ret2
            exact ⟨rfl, hb4⟩
        · -- hit
          rw [show guV l (dgV l 20 4) 4 (ds2 l) 11 = some n2 from hg2] at e4
          have c4 := fun W => rforms_n n2 (gu_lt hg2) W
          have hq := cmp_eq hf2
          have hx := run_ix2 (strB (fm0 n2)) (strB (fm1 n2)) (strB (fm2 n2))
          have hge : decide ((n2 : Int) ≥ 0) = true := by simp
          clear hf2
          generalize strB (fm0 n2) = T0 at *
          generalize strB (fm1 n2) = T1 at *
          generalize strB (fm2 n2) = T2 at *
          simp only [guI] at e4
          clear hg2 hA hS
          by_cases h8 : dgV l 8 2 < 0
          · have d8 : decide (dgV l 8 2 < 0) = true := by simpa using h8
            rw [show ds2 l = dgV l 9 1 from if_pos h8] at e4
            clear h8
            generalize dgV l 8 2 = a8 at *
            generalize dgV l 9 1 = a9 at *
            generalize dgV l 20 4 = a20 at *
            generalize strB l = t at *
            go_wp2_with fail
            refine (e1 _).mono ?_
            rintro e w3 ⟨rfl, rfl⟩
            go_wp2_with fail
            refine (e2 _).mono ?_
            rintro e w3 ⟨rfl, rfl⟩
            go_wp2_with fail
            refine (e3 _).mono ?_
            rintro e w3 ⟨rfl, rfl⟩
            go_wp2_with fail
            refine (e4 _).mono ?_
            rintro e w3 ⟨rfl, hb3⟩
            have hb3 := hb.trans (hb3.mono hb.size)
            go_wp2_with fail
            refine (c4 _).mono ?_
            rintro e w4 ⟨rfl, hb4⟩
            have hb4 := hb3.trans (hb4.mono hb3.size)
            go_wp2_with fail
            go_ret2
            exact ⟨rfl, hb4⟩
          · have d8 : decide (dgV l 8 2 < 0) = false := by simpa using h8
            rw [show ds2 l = dgV l 8 2 from if_neg h8] at e4
            clear h8
            generalize dgV l 8 2 = a8 at *
            generalize dgV l 9 1 = a9 at *
            generalize dgV l 20 4 = a20 at *
            generalize strB l = t at *
            go_wp2_with fail
            refine (e1 _).mono ?_
            rintro e w3 ⟨rfl, rfl⟩
            go_wp2_with fail
            refine (e3 _).mono ?_
            rintro e w3 ⟨rfl, rfl⟩
            go_wp2_with fail
            refine (e4 _).mono ?_
            rintro e w3 ⟨rfl, hb3⟩
            have hb3 := hb.trans (hb3.mono hb.size)
            go_wp2_with fail
            refine (c4 _).mono ?_
            rintro e w4 ⟨rfl, hb4⟩
            have hb4 := hb3.trans (hb4.mono hb3.size)
            go_wp2_with fail
            go_ret2
            exact ⟨rfl, hb4⟩
  · -- other
    have c1 := fun W => hA.dg 12 4 W (by omega) (by omega) (by omega)
    have c2 := fun W => hA.dg 5 2 W (by omega) (by omega) (by omega)
    have c3 := fun W => hA.gu (dgV l 12 4) (dgV l 5 2) 8 17 W (by omega) (by omega)
    rw [show guV l (dgV l 12 4) 8 (dgV l 5 2) 17 = some n0 from hg0] at c3
    have c4 := fun W => rforms_n n0 (gu_lt hg0) W
    have hq := cmp_ne hf0
    have hx := run_ix0 (strB (fm0 n0)) (strB (fm1 n0)) (strB (fm2 n0))
    have hge : decide ((n0 : Int) ≥ 0) = true := by simp
    simp only [guI] at c3
    clear hg0
    clear hf0
    generalize strB (fm0 n0) = T0 at *
    generalize strB (fm1 n0) = T1 at *
    generalize strB (fm2 n0) = T2 at *
    generalize dgV l 12 4 = a1 at *
    generalize dgV l 5 2 = a2 at *
    go_enter Tryd.func12, Tryd.ntmps12
    go_wp2_with fail
    refine (c1 _).mono ?_
    rintro e w1 ⟨rfl, rfl⟩
    go_wp2_with fail
    refine (c2 _).mono ?_
    rintro e w1 ⟨rfl, rfl⟩
    go_wp2_with fail
    refine (c3 _).mono ?_
    rintro e w1 ⟨rfl, hb1⟩
    go_wp2_with fail
    refine (c4 _).mono ?_
    rintro e w2 ⟨rfl, hb2⟩
    have hb1 := hb1.trans (hb2.mono hb1.size)
    clear hb2
    go_wp2_with fail
    clear c4 hq hx hge
    clear c1 c2 c3
    go_loopw [5] (fun x wr => ∃ i : Nat, x = .int .i64 i ∧ i ≤ 12 ∧ i ≤ (strB l).size ∧ Below w.heap.size w wr) (fun x _ => 12 - (intOf x).toNat)
    case atStart => exact ⟨0, rfl, by omega, by omega, hb1⟩
    case round =>
      clear hb1
      obtain ⟨i, rfl, hi, hi2, hb⟩ := hrel
      by_cases hin : i < (strB l).size
      · have d1 : decide (i < (strB l).size) = true := by simpa using hin
        by_cases h12 : i < 12
        · have d2 : decide ((i : Int) < 12) = true := by simp; omega
          cases hcm : (((strB l)[i].toNat : Int) != 44)
          · have hS1 := hS i hin
            cases hg1 : gu1 l i with
            | none =>
              clear hS hS1 h2
              have cY := fun W => hA.dg (i + 9) 2 W (by omega) (by omega) (by omega)
              have cD := fun W => hA.dg (i + 2) 2 W (by omega) (by omega) (by omega)
              have cG := fun W => hA.gu (ys1 (dgV l (i + 9) 2)) (dgV l (i + 2) 2) (i + 5) (i + 12) W (by omega) (by omega)
              rw [show ((i + 9 : Nat) : Int) = (i : Int) + 9 by omega] at cY
              rw [show ((i + 2 : Nat) : Int) = (i : Int) + 2 by omega] at cD
              rw [show ((i + 5 : Nat) : Int) = (i : Int) + 5 by omega, show ((i + 12 : Nat) : Int) = (i : Int) + 12 by omega] at cG
              obtain ⟨r1, r2⟩ := dg_range l (i + 9) 2
              rw [show ((10 : Int) ^ 2) = 100 by decide] at r2
              rw [show guV l (ys1 (dgV l (i + 9) 2)) (i + 5) (dgV l (i + 2) 2) (i + 12) = none from hg1] at cG
              simp only [guI] at cG
              have hge : decide ((-1 : Int) ≥ 0) = false := by decide
              clear hg1 hA
              by_cases h70 : 70 ≤ dgV l (i + 9) 2
              · have d70 : decide (dgV l (i + 9) 2 ≥ 70) = true := by simpa using h70
                rw [show ys1 (dgV l (i + 9) 2) = dgV l (i + 9) 2 + 1900 from if_pos h70] at cG
                clear h70
                generalize dgV l (i + 9) 2 = yy at *
                generalize dgV l (i + 2) 2 = dd at *
                generalize strB l = t at *
                go_wp2_with fail
                refine (cY _).mono ?_
                rintro e w3 ⟨rfl, rfl⟩
                go_wp2_with fail
                refine (cD _).mono ?_
                rintro e w3 ⟨rfl, rfl⟩
                go_wp2_with fail
                refine (cG _).mono ?_
                rintro e w3 ⟨rfl, hb3⟩
                have hb3 := hb.trans (hb3.mono hb.size)
                go_wp2_with fail
                go_roundw
                case rel => exact ⟨i + 1, by go_num, by omega, by omega, hb3⟩
                case measure => simp [intOf]; omega
              · have d70 : decide (dgV l (i + 9) 2 ≥ 70) = false := by simpa using h70
                rw [show ys1 (dgV l (i + 9) 2) = dgV l (i + 9) 2 + 2000 from if_neg h70] at cG
                clear h70
                generalize dgV l (i + 9) 2 = yy at *
                generalize dgV l (i + 2) 2 = dd at *
                generalize strB l = t at *
                go_wp2_with fail
                refine (cY _).mono ?_
                rintro e w3 ⟨rfl, rfl⟩
                go_wp2_with fail
                refine (cD _).mono ?_
                rintro e w3 ⟨rfl, rfl⟩
                go_wp2_with fail
                refine (cG _).mono ?_
                rintro e w3 ⟨rfl, hb3⟩
                have hb3 := hb.trans (hb3.mono hb.size)
                go_wp2_with fail
                go_roundw
                case rel => exact ⟨i + 1, by go_num, by omega, by omega, hb3⟩
                case measure => simp [intOf]; omega
            | some n1 =>
              have hf1 := hS1 n1 hg1
              clear hS hS1 h2
              have cY := fun W => hA.dg (i + 9) 2 W (by omega) (by omega) (by omega)
              have cD := fun W => hA.dg (i + 2) 2 W (by omega) (by omega) (by omega)
              have cG := fun W => hA.gu (ys1 (dgV l (i + 9) 2)) (dgV l (i + 2) 2) (i + 5) (i + 12) W (by omega) (by omega)
              rw [show ((i + 9 : Nat) : Int) = (i : Int) + 9 by omega] at cY
              rw [show ((i + 2 : Nat) : Int) = (i : Int) + 2 by omega] at cD
              rw [show ((i + 5 : Nat) : Int) = (i : Int) + 5 by omega, show ((i + 12 : Nat) : Int) = (i : Int) + 12 by omega] at cG
              obtain ⟨r1, r2⟩ := dg_range l (i + 9) 2
              rw [show ((10 : Int) ^ 2) = 100 by decide] at r2
              rw [show guV l (ys1 (dgV l (i + 9) 2)) (i + 5) (dgV l (i + 2) 2) (i + 12) = some n1 from hg1] at cG
              simp only [guI] at cG
              have c4 := fun W => rforms_n n1 (gu_lt hg1) W
              have hq := cmp_ne hf1
              have hx := run_ix1 (strB (fm0 n1)) (strB (fm1 n1)) (strB (fm2 n1))
              have hge : decide ((n1 : Int) ≥ 0) = true := by simp
              clear hf1
              generalize strB (fm0 n1) = T0 at *
              generalize strB (fm1 n1) = T1 at *
              generalize strB (fm2 n1) = T2 at *
              clear hg1 hA
              by_cases h70 : 70 ≤ dgV l (i + 9) 2
              · have d70 : decide (dgV l (i + 9) 2 ≥ 70) = true := by simpa using h70
                rw [show ys1 (dgV l (i + 9) 2) = dgV l (i + 9) 2 + 1900 from if_pos h70] at cG
                clear h70
                generalize dgV l (i + 9) 2 = yy at *
                generalize dgV l (i + 2) 2 = dd at *
                generalize strB l = t at *
                go_wp2_with fail
                refine (cY _).mono ?_
                rintro e w3 ⟨rfl, rfl⟩
                go_wp2_with fail
                refine (cD _).mono ?_
                rintro e w3 ⟨rfl, rfl⟩
                go_wp2_with fail
                refine (cG _).mono ?_
                rintro e w3 ⟨rfl, hb3⟩
                have hb3 := hb.trans (hb3.mono hb.size)
                go_wp2_with fail
                refine (c4 _).mono ?_
                rintro e w4 ⟨rfl, hb4⟩
                have hb4 := hb3.trans (hb4.mono hb3.size)
                go_wp2_with fail
                go_roundw
                case rel => exact ⟨i + 1, by go_num, by omega, by omega, hb4⟩
                case measure => simp [intOf]; omega
              · have d70 : decide (dgV l (i + 9) 2 ≥ 70) = false := by simpa using h70
                rw [show ys1 (dgV l (i + 9) 2) = dgV l (i + 9) 2 + 2000 from if_neg h70] at cG
                clear h70
                generalize dgV l (i + 9) 2 = yy at *
                generalize dgV l (i + 2) 2 = dd at *
                generalize strB l = t at *
                go_wp2_with fail
                refine (cY _).mono ?_
                rintro e w3 ⟨rfl, rfl⟩
                go_wp2_with fail
                refine (cD _).mono ?_
                rintro e w3 ⟨rfl, rfl⟩
                go_wp2_with fail
                refine (cG _).mono ?_
                rintro e w3 ⟨rfl, hb3⟩
                have hb3 := hb.trans (hb3.mono hb.size)
                go_wp2_with fail
                refine (c4 _).mono ?_
                rintro e w4 ⟨rfl, hb4⟩
                have hb4 := hb3.trans (hb4.mono hb3.size)
                go_wp2_with fail
                go_roundw
                case rel => exact ⟨i + 1, by go_num, by omega, by omega, hb4⟩
                case measure => simp [intOf]; omega
          · clear hA hS h2
            generalize strB l = t at *
            go_wp2_with fail
            go_roundw
            case rel => exact ⟨i + 1, by go_num, by omega, by omega, hb⟩
            case measure => simp [intOf]; omega
        · have d2 : decide ((i : Int) < 12) = false := by simp; omega
          have e1 := fun W => hA.dg 8 2 W (by omega) (by omega) (by omega)
          have e2 := fun W => hA.dg 9 1 W (by omega) (by omega) (by omega)
          have e3 := fun W => hA.dg 20 4 W (by omega) (by omega) (by omega)
          have e4 := fun W => hA.gu (dgV l 20 4) (ds2 l) 4 11 W (by omega) (by omega)
          rcases h2 with ⟨hg2, rfl⟩ | ⟨n2, hg2, hf2, rfl⟩ | ⟨n2, hg2, hf2, rfl⟩
          · -- no
            rw [show guV l (dgV l 20 4) 4 (ds2 l) 11 = none from hg2] at e4
            have hge : decide ((-1 : Int) ≥ 0) = false := by decide
            simp only [guI] at e4
            clear hg2 hA hS
            by_cases h8 : dgV l 8 2 < 0
            · have d8 : decide (dgV l 8 2 < 0) = true := by simpa using h8
              rw [show ds2 l = dgV l 9 1 from if_pos h8] at e4
              clear h8
              generalize dgV l 8 2 = a8 at *
              generalize dgV l 9 1 = a9 at *
              generalize dgV l 20 4 = a20 at *
              generalize strB l = t at *
              go_wp2_with fail
              refine (e1 _).mono ?_
              rintro e w3 ⟨rfl, rfl⟩
              go_wp2_with fail
              refine (e2 _).mono ?_
              rintro e w3 ⟨rfl, rfl⟩
              go_wp2_with fail
              refine (e3 _).mono ?_
              rintro e w3 ⟨rfl, rfl⟩
              go_wp2_with fail
              refine (e4 _).mono ?_
              rintro e w3 ⟨rfl, hb3⟩
              have hb3 := hb.trans (hb3.mono hb.size)
              go_wp2_with fail
              go_ret2
              exact ⟨rfl, hb3⟩
            · have d8 : decide (dgV l 8 2 < 0) = false := by simpa using h8
              rw [show ds2 l = dgV l 8 2 from if_neg h8] at e4
              clear h8
              generalize dgV l 8 2 = a8 at *
              generalize dgV l 9 1 = a9 at *
              generalize dgV l 20 4 = a20 at *
              generalize strB l = t at *
              go_wp2_with fail
              refine (e1 _).mono ?_
              rintro e w3 ⟨rfl, rfl⟩
              go_wp2_with fail
              refine (e3 _).mono ?_
              rintro e w3 ⟨rfl, rfl⟩
              go_wp2_with fail
              refine (e4 _).mono ?_
              rintro e w3 ⟨rfl, hb3⟩
              have hb3 := hb.trans (hb3.mono hb.size)
              go_wp2_with fail
              go_ret2
              exact ⟨rfl, hb3⟩
          · -- other
            rw [show guV l (dgV l 20 4) 4 (ds2 l) 11 = some n2 from hg2] at e4
            have c4 := fun W => rforms_n n2 (gu_lt hg2) W
            have hq := cmp_ne hf2
            have hx := run_ix2 (strB (fm0 n2)) (strB (fm1 n2)) (strB (fm2 n2))
            have hge : decide ((n2 : Int) ≥ 0) = true := by simp
            clear hf2
            generalize strB (fm0 n2) = T0 at *
            generalize strB (fm1 n2) = T1 at *
            generalize strB (fm2 n2) = T2 at *
            simp only [guI] at e4
            clear hg2 hA hS
            by_cases h8 : dgV l 8 2 < 0
            · have d8 : decide (dgV l 8 2 < 0) = true := by simpa using h8
              rw [show ds2 l = dgV l 9 1 from if_pos h8] at e4
              clear h8
              generalize dgV l 8 2 = a8 at *
              generalize dgV l 9 1 = a9 at *
              generalize dgV l 20 4 = a20 at *
              generalize strB l = t at *
              go_wp2_with fail
              refine (e1 _).mono ?_
              rintro e w3 ⟨rfl, rfl⟩
              go_wp2_with fail
              refine (e2 _).mono ?_
              rintro e w3 ⟨rfl, rfl⟩
              go_wp2_with fail
              refine (e3 _).mono ?_
              rintro e w3 ⟨rfl, rfl⟩
              go_wp2_with fail
              refine (e4 _).mono ?_
              rintro e w3 ⟨rfl, hb3⟩
              have hb3 := hb.trans (hb3.mono hb.size)
              go_wp2_with fail
              refine (c4 _).mono ?_
              rintro e w4 ⟨rfl, hb4⟩
              have hb4 := hb3.trans (hb4.mono hb3.size)
              go_wp2_with fail
              go_ret2
              exact ⟨rfl, hb4⟩
            · have d8 : decide (dgV l 8 2 < 0) = false := by simpa using h8
              rw [show ds2 l = dgV l 8 2 from if_neg h8] at e4
              clear h8
              generalize dgV l 8 2 = a8 at *
              generalize dgV l 9 1 = a9 at *
              generalize dgV l 20 4 = a20 at *
              generalize strB l = t at *
              go_wp2_with fail
              refine (e1 _).mono ?_
              rintro e w3 ⟨rfl, rfl⟩
              go_wp2_with fail
              refine (e3 _).mono ?_
              rintro e w3 ⟨rfl, rfl⟩
              go_wp2_with fail
              refine (e4 _).mono ?_
              rintro e w3 ⟨rfl, hb3⟩
              have hb3 := hb.trans (hb3.mono hb.size)
              go_wp2_with fail
              refine (c4 _).mono ?_
              rintro e w4 ⟨rfl, hb4⟩
              have hb4 := hb3.trans (hb4.mono hb3.size)
              go_wp2_with fail
              go_ret2
              exact ⟨rfl, hb4⟩
          · -- hit
            rw [show guV l (dgV l 20 4) 4 (ds2 l) 11 = some n2 from hg2] at e4
            have c4 := fun W => rforms_n n2 (gu_lt hg2) W
            have hq := cmp_eq hf2
            have hx := run_ix2 (strB (fm0 n2)) (strB (fm1 n2)) (strB (fm2 n2))
            have hge : decide ((n2 : Int) ≥ 0) = true := by simp
            clear hf2
            generalize strB (fm0 n2) = T0 at *
            generalize strB (fm1 n2) = T1 at *
            generalize strB (fm2 n2) = T2 at *
            simp only [guI] at e4
            clear hg2 hA hS
            by_cases h8 : dgV l 8 2 < 0
            · have d8 : decide (dgV l 8 2 < 0) = true := by simpa using h8
              rw [show ds2 l = dgV l 9 1 from if_pos h8] at e4
              clear h8
              generalize dgV l 8 2 = a8 at *
              generalize dgV l 9 1 = a9 at *
              generalize dgV l 20 4 = a20 at *
              generalize strB l = t at *
              go_wp2_with fail
              refine (e1 _).mono ?_
              rintro e w3 ⟨rfl, rfl⟩
              go_wp2_with fail
              refine (e2 _).mono ?_
              rintro e w3 ⟨rfl, rfl⟩
              go_wp2_with fail
              refine (e3 _).mono ?_
              rintro e w3 ⟨rfl, rfl⟩
              go_wp2_with fail
              refine (e4 _).mono ?_
              rintro e w3 ⟨rfl, hb3⟩
              have hb3 := hb.trans (hb3.mono hb.size)
              go_wp2_with fail
              refine (c4 _).mono ?_
              rintro e w4 ⟨rfl, hb4⟩
              have hb4 := hb3.trans (hb4.mono hb3.size)
              go_wp2_with fail
              go_ret2
              exact ⟨rfl, hb4⟩
            · have d8 : decide (dgV l 8 2 < 0) = false := by simpa using h8
              rw [show ds2 l = dgV l 8 2 from if_neg h8] at e4
              clear h8
              generalize dgV l 8 2 = a8 at *
              generalize dgV l 9 1 = a9 at *
              generalize dgV l 20 4 = a20 at *
              generalize strB l = t at *
              go_wp2_with fail
              refine (e1 _).mono ?_
              rintro e w3 ⟨rfl, rfl⟩
              go_wp2_with fail
              refine (e3 _).mono ?_
              rintro e w3 ⟨rfl, rfl⟩
              go_wp2_with fail
              refine (e4 _).mono ?_
              rintro e w3 ⟨rfl, hb3⟩
              have hb3 := hb.trans (hb3.mono hb.size)
              go_wp2_with fail
              refine (c4 _).mono ?_
              rintro e w4 ⟨rfl, hb4⟩
              have hb4 := hb3.trans (hb4.mono hb3.size)
              go_wp2_with fail
              go_ret2
              exact ⟨rfl, hb4⟩
      · have d1 : decide (i < (strB l).size) = false := by simpa using hin
        have e1 := fun W => hA.dg 8 2 W (by omega) (by omega) (by omega)
        have e2 := fun W => hA.dg 9 1 W (by omega) (by omega) (by omega)
        have e3 := fun W => hA.dg 20 4 W (by omega) (by omega) (by omega)
        have e4 := fun W => hA.gu (dgV l 20 4) (ds2 l) 4 11 W (by omega) (by omega)
        rcases h2 with ⟨hg2, rfl⟩ | ⟨n2, hg2, hf2, rfl⟩ | ⟨n2, hg2, hf2, rfl⟩
        · -- no
          rw [show guV l (dgV l 20 4) 4 (ds2 l) 11 = none from hg2] at e4
          have hge : decide ((-1 : Int) ≥ 0) = false := by decide
          simp only [guI] at e4
          clear hg2 hA hS
          by_cases h8 : dgV l 8 2 < 0
          · have d8 : decide (dgV l 8 2 < 0) = true := by simpa using h8
            rw [show ds2 l = dgV l 9 1 from if_pos h8] at e4
            clear h8
            generalize dgV l 8 2 = a8 at *
            generalize dgV l 9 1 = a9 at *
            generalize dgV l 20 4 = a20 at *
            generalize strB l = t at *
            go_wp2_with fail
            refine (e1 _).mono ?_
            rintro e w3 ⟨rfl, rfl⟩
            go_wp2_with fail
            refine (e2 _).mono ?_
            rintro e w3 ⟨rfl, rfl⟩
            go_wp2_with fail
            refine (e3 _).mono ?_
            rintro e w3 ⟨rfl, rfl⟩
            go_wp2_with fail
            refine (e4 _).mono ?_
            rintro e w3 ⟨rfl, hb3⟩
            have hb3 := hb.trans (hb3.mono hb.size)
            go_wp2_with fail
            go_ret2
            exact ⟨rfl, hb3⟩
          · have d8 : decide (dgV l 8 2 < 0) = false := by simpa using h8
            rw [show ds2 l = dgV l 8 2 from if_neg h8] at e4
            clear h8
            generalize dgV l 8 2 = a8 at *
            generalize dgV l 9 1 = a9 at *
            generalize dgV l 20 4 = a20 at *
            generalize strB l = t at *
            go_wp2_with fail
            refine (e1 _).mono ?_
            rintro e w3 ⟨rfl, rfl⟩
            go_wp2_with fail
            refine (e3 _).mono ?_
            rintro e w3 ⟨rfl, rfl⟩
            go_wp2_with fail
            refine (e4 _).mono ?_
            rintro e w3 ⟨rfl, hb3⟩
            have hb3 := hb.trans (hb3.mono hb.size)
            go_wp2_with fail
            go_ret2
            exact ⟨rfl, hb3⟩
        · -- other
          rw [show guV l (dgV l 20 4) 4 (ds2 l) 11 = some n2 from hg2] at e4
          have c4 := fun W => rforms_n n2 (gu_lt hg2) W
          have hq := cmp_ne hf2
          have hx := run_ix2 (strB (fm0 n2)) (strB (fm1 n2)) (strB (fm2 n2))
          have hge : decide ((n2 : Int) ≥ 0) = true := by simp
          clear hf2
          generalize strB (fm0 n2) = T0 at *
          generalize strB (fm1 n2) = T1 at *
          generalize strB (fm2 n2) = T2 at *
          simp only [guI] at e4
          clear hg2 hA hS
          by_cases h8 : dgV l 8 2 < 0
          · have d8 : decide (dgV l 8 2 < 0) = true := by simpa using h8
            rw [show ds2 l = dgV l 9 1 from if_pos h8] at e4
            clear h8
            generalize dgV l 8 2 = a8 at *
            generalize dgV l 9 1 = a9 at *
            generalize dgV l 20 4 = a20 at *
            generalize strB l = t at *
            go_wp2_with fail
            refine (e1 _).mono ?_
            rintro e w3 ⟨rfl, rfl⟩
            go_wp2_with fail
            refine (e2 _).mono ?_
            rintro e w3 ⟨rfl, rfl⟩
            go_wp2_with fail
            refine (e3 _).mono ?_
            rintro e w3 ⟨rfl, rfl⟩
            go_wp2_with fail
            refine (e4 _).mono ?_
            rintro e w3 ⟨rfl, hb3⟩
            have hb3 := hb.trans (hb3.mono hb.size)
            go_wp2_with fail
            refine (c4 _).mono ?_
            rintro e w4 ⟨rfl, hb4⟩
            have hb4 := hb3.trans (hb4.mono hb3.size)
            go_wp2_with fail
            go_ret2
            exact ⟨rfl, hb4⟩
          · have d8 : decide (dgV l 8 2 < 0) = false := by simpa using h8
            rw [show ds2 l = dgV l 8 2 from if_neg h8] at e4
            clear h8
            generalize dgV l 8 2 = a8 at *
            generalize dgV l 9 1 = a9 at *
            generalize dgV l 20 4 = a20 at *
            generalize strB l = t at *
            go_wp2_with fail
            refine (e1 _).mono ?_
            rintro e w3 ⟨rfl, rfl⟩
            go_wp2_with fail
            refine (e3 _).mono ?_
            rintro e w3 ⟨rfl, rfl⟩
            go_wp2_with fail
            refine (e4 _).mono ?_
            rintro e w3 ⟨rfl, hb3⟩
            have hb3 := hb.trans (hb3.mono hb.size)
            go_wp2_with fail
            refine (c4 _).mono ?_
            rintro e w4 ⟨rfl, hb4⟩
            have hb4 := hb3.trans (hb4.mono hb3.size)
            go_wp2_with fail
            go_ret2
            exact ⟨rfl, hb4⟩
        · -- hit
          rw [show guV l (dgV l 20 4) 4 (ds2 l) 11 = some n2 from hg2] at e4
          have c4 := fun W => rforms_n n2 (gu_lt hg2) W
          have hq := cmp_eq hf2
          have hx := run_ix2 (strB (fm0 n2)) (strB (fm1 n2)) (strB (fm2 n2))
          have hge : decide ((n2 : Int) ≥ 0) = true := by simp
          clear hf2
          generalize strB (fm0 n2) = T0 at *
          generalize strB (fm1 n2) = T1 at *
          generalize strB (fm2 n2) = T2 at *
          simp only [guI] at e4
          clear hg2 hA hS
          by_cases h8 : dgV l 8 2 < 0
          · have d8 : decide (dgV l 8 2 < 0) = true := by simpa using h8
            rw [show ds2 l = dgV l 9 1 from if_pos h8] at e4
            clear h8
            generalize dgV l 8 2 = a8 at *
            generalize dgV l 9 1 = a9 at *
            generalize dgV l 20 4 = a20 at *
            generalize strB l = t at *
            go_wp2_with fail
            refine (e1 _).mono ?_
            rintro e w3 ⟨rfl, rfl⟩
            go_wp2_with fail
            refine (e2 _).mono ?_
            rintro e w3 ⟨rfl, rfl⟩
            go_wp2_with fail
            refine (e3 _).mono ?_
            rintro e w3 ⟨rfl, rfl⟩
            go_wp2_with fail
            refine (e4 _).mono ?_
            rintro e w3 ⟨rfl, hb3⟩
            have hb3 := hb.trans (hb3.mono hb.size)
            go_wp2_with fail
            refine (c4 _).mono ?_
            rintro e w4 ⟨rfl, hb4⟩
            have hb4 := hb3.trans (hb4.mono hb3.size)
            go_wp2_with fail
            go_ret2
            exact ⟨rfl, hb4⟩
          · have d8 : decide (dgV l 8 2 < 0) = false := by simpa using h8
            rw [show ds2 l = dgV l 8 2 from if_neg h8] at e4
            clear h8
            generalize dgV l 8 2 = a8 at *
            generalize dgV l 9 1 = a9 at *
            generalize dgV l 20 4 = a20 at *
            generalize strB l = t at *
            go_wp2_with fail
            refine (e1 _).mono ?_
            rintro e w3 ⟨rfl, rfl⟩
            go_wp2_with fail
            refine (e3 _).mono ?_
            rintro e w3 ⟨rfl, rfl⟩
            go_wp2_with fail
            refine (e4 _).mono ?_
            rintro e w3 ⟨rfl, hb3⟩
            have hb3 := hb.trans (hb3.mono hb.size)
            go_wp2_with fail
            refine (c4 _).mono ?_
            rintro e w4 ⟨rfl, hb4⟩
            have hb4 := hb3.trans (hb4.mono hb3.size)
            go_wp2_with fail
            go_ret2
            exact ⟨rfl, hb4⟩

theorem rparse_any (l : List UInt8) (w : World) (hl : l.length ≤ 60) :
    Calls Tryd.prog 12 #[.string (strB l)] w fun e w' => e = .returned (secV (parL l)) ∧ Below w.heap.size w w' := by
  unfold parL
  cases h0 : scL wsT p0L l with
  | some n => exact rparse0 l n w hl h0
  | none =>
    have hF := first_of h0
    cases h1 : scL wkT p1L l with
    | some n =>
      obtain ⟨i, hi, hc, hb, hg, hf⟩ := hit1_of h1
      exact rparse1 l n i w hl hF hi hc hb hg hf
    | none => exact rparse2 l _ w hl hF h1 (third_of l)

end Go.Proofs.YtfabkceefigmhaaDoor
