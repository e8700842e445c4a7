/- The contract of the document's own Parse, behind the first form (sculleryref05). -/
import Derived.Test.YtfabkceefigmhaaDoorRdK
namespace Go.Proofs.YtfabkceefigmhaaDoor
open Go.RowKit

/-- A text that is no date in the first form; what the third form makes of a text. -/
inductive First (l : List UInt8) : Prop where
  | no (h : gu0 l = none)
  | other (n : Nat) (h : gu0 l = some n) (hf : fm0 n ≠ l)
inductive Third (l : List UInt8) (v : Value) : Prop where
  | no (h : gu2 l = none) (hv : v = .tuple #[.int .i64 0, .int .i64 2])
  | other (n : Nat) (h : gu2 l = some n) (hf : fm2 n ≠ l) (hv : v = .tuple #[.int .i64 0, .int .i64 2])
  | hit (n : Nat) (h : gu2 l = some n) (hf : fm2 n = l) (hv : v = .tuple #[.int .i64 n, .int .i64 0])
theorem first_of {l : List UInt8} (h : scL wsT p0L l = none) : First l := by
  cases hg : gu0 l with
  | none => exact .no hg
  | some n => exact .other n hg fun hf => by rw [(hit0 l n).1 ⟨hg, hf⟩] at h; cases h
theorem third_of (l : List UInt8) : Third l (secV (scL wsT p2L l)) := by
  cases h : scL wsT p2L l with
  | some n => exact .hit n ((hit2 l n).2 h).1 ((hit2 l n).2 h).2 rfl
  | none =>
    cases hg : gu2 l with
    | none => exact .no hg rfl
    | some n => exact .other n hg (fun hf => by rw [(hit2 l n).1 ⟨hg, hf⟩] at h; cases h) rfl

set_option maxRecDepth 100000 in
set_option maxHeartbeats 4000000 in
theorem rparse1 (l : List UInt8) (n i0 : Nat) (w : World) (hl : l.length ≤ 60) (h0 : First l) (hi0 : i0 < 12) (hc : l[i0]? = some 44) (hb : ∀ j, j < i0 → l[j]? ≠ some 44) (hg1 : gu1 l i0 = some n) (hf1 : fm1 n = l) :
    Calls Tryd.prog 12 #[.string (strB l)] w fun e w' => e = .returned (.tuple #[.int .i64 n, .int .i64 0]) ∧ Below w.heap.size w w' := by
  have hA := asks_any l (by omega)
  have hz := strB_size l
  have hlt0 : i0 < (strB l).size := by
    rw [hz]
    by_cases h : i0 < l.length
    · exact h
    · rw [List.getElem?_eq_none (by omega)] at hc
      cases hc
  have hno : ∀ j, (h : j < (strB l).size) → j < i0 → (((strB l)[j].toNat : Int) != 44) = true := fun j h hj => by
    rw [byte_at h]
    simpa using hb j hj
  have hyes : (((strB l)[i0].toNat : Int) != 44) = false := by
    rw [byte_at hlt0, hc]
    rfl
  have hsz : (strB l).size ≤ 60 := by omega
  clear hb hc hz
  rcases h0 with hg0 | ⟨n0, hg0, hf0⟩
  · -- no
    have c1 := fun W => hA.dg 12 4 W (by omega) (by omega) (by omega)
    have c2 := fun W => hA.dg 5 2 W (by omega) (by omega) (by omega)
    have c3 := fun W => hA.gu (dgV l 12 4) (dgV l 5 2) 8 17 W (by omega) (by omega)
    rw [show guV l (dgV l 12 4) 8 (dgV l 5 2) 17 = none from hg0] at c3
    have hge : decide ((-1 : Int) ≥ 0) = false := by decide
    simp only [guI] at c3
    clear hg0
    generalize dgV l 12 4 = a1 at *
    generalize dgV l 5 2 = a2 at *
    go_enter Tryd.func12, Tryd.ntmps12
    go_wp2_with fail
    refine (c1 _).mono ?_
    rintro e w1 ⟨rfl, rfl⟩
    go_wp2_with fail
    refine (c2 _).mono ?_
    rintro e w1 ⟨rfl, rfl⟩
    go_wp2_with fail
    refine (c3 _).mono ?_
    rintro e w1 ⟨rfl, hb1⟩
    go_wp2_with fail
    clear hge
    clear c1 c2 c3
    go_loopw [5] (fun x wr => ∃ i : Nat, x = .int .i64 i ∧ i ≤ i0 ∧ i ≤ 12 ∧ Below w.heap.size w wr) (fun x _ => i0 + 1 - (intOf x).toNat)
    case atStart => exact ⟨0, rfl, by omega, by omega, hb1⟩
    case round =>
      clear hb1
      obtain ⟨i, rfl, hi, _, hb⟩ := hrel
      have d2 : decide ((i : Int) < 12) = true := by simp; omega
      by_cases hlt : i < i0
      · have hin : i < (strB l).size := by omega
        have d1 : decide (i < (strB l).size) = true := by simpa using hin
        have hne := hno i hin hlt
        clear hno hyes hA hg1 hf1
        generalize strB l = t at *
        go_wp2_with fail
        go_roundw
        case rel => exact ⟨i + 1, by go_num, by omega, by omega, hb⟩
        case measure => simp [intOf]; omega
      · obtain rfl : i = i0 := by omega
        have d1 : decide (i < (strB l).size) = true := by simpa using hlt0
        clear hno hlt
        have cY := fun W => hA.dg (i + 9) 2 W (by omega) (by omega) (by omega)
        have cD := fun W => hA.dg (i + 2) 2 W (by omega) (by omega) (by omega)
        have cG := fun W => hA.gu (ys1 (dgV l (i + 9) 2)) (dgV l (i + 2) 2) (i + 5) (i + 12) W (by omega) (by omega)
        rw [show ((i + 9 : Nat) : Int) = (i : Int) + 9 by omega] at cY
        rw [show ((i + 2 : Nat) : Int) = (i : Int) + 2 by omega] at cD
        rw [show ((i + 5 : Nat) : Int) = (i : Int) + 5 by omega, show ((i + 12 : Nat) : Int) = (i : Int) + 12 by omega] at cG
        obtain ⟨r1, r2⟩ := dg_range l (i + 9) 2
        rw [show ((10 : Int) ^ 2) = 100 by decide] at r2
        rw [show guV l (ys1 (dgV l (i + 9) 2)) (i + 5) (dgV l (i + 2) 2) (i + 12) = some n from hg1] at cG
        simp only [guI] at cG
        have c4 := fun W => rforms_n n (gu_lt hg1) W
        have hq := cmp_eq hf1
        have hx := run_ix1 (strB (fm0 n)) (strB (fm1 n)) (strB (fm2 n))
        have hge : decide ((n : Int) ≥ 0) = true := by simp
        clear hf1
        generalize strB (fm0 n) = T0 at *
        generalize strB (fm1 n) = T1 at *
        generalize strB (fm2 n) = T2 at *
        clear hg1 hA
        by_cases h70 : 70 ≤ dgV l (i + 9) 2
        · have d70 : decide (dgV l (i + 9) 2 ≥ 70) = true := by simpa using h70
          rw [show ys1 (dgV l (i + 9) 2) = dgV l (i + 9) 2 + 1900 from if_pos h70] at cG
          clear h70
          generalize dgV l (i + 9) 2 = yy at *
          generalize dgV l (i + 2) 2 = dd at *
          generalize strB l = t at *
          go_wp2_with fail
          refine (cY _).mono ?_
          rintro e w3 ⟨rfl, rfl⟩
          go_wp2_with fail
          refine (cD _).mono ?_
          rintro e w3 ⟨rfl, rfl⟩
          go_wp2_with fail
          refine (cG _).mono ?_
          rintro e w3 ⟨rfl, hb3⟩
          have hb3 := hb.trans (hb3.mono hb.size)
          go_wp2_with fail
          refine (c4 _).mono ?_
          rintro e w4 ⟨rfl, hb4⟩
          have hb4 := hb3.trans (hb4.mono hb3.size)
          go_wp2_with fail
          go_ret2
          exact ⟨rfl, hb4⟩
        · have d70 : decide (dgV l (i + 9) 2 ≥ 70) = false := by simpa using h70
          rw [show ys1 (dgV l (i + 9) 2) = dgV l (i + 9) 2 + 2000 from if_neg h70] at cG
          clear h70
          generalize dgV l (i + 9) 2 = yy at *
          generalize dgV l (i + 2) 2 = dd at *
          generalize strB l = t at *
          go_wp2_with fail
          refine (cY _).mono ?_
          rintro e w3 ⟨rfl, rfl⟩
          go_wp2_with fail
          refine (cD _).mono ?_
          rintro e w3 ⟨rfl, rfl⟩
          go_wp2_with fail
          refine (cG _).mono ?_
          rintro e w3 ⟨rfl, hb3⟩
          have hb3 := hb.trans (hb3.mono hb.size)
          go_wp2_with fail
          refine (c4 _).mono ?_
          rintro e w4 ⟨rfl, hb4⟩
          have hb4 := hb3.trans (hb4.mono hb3.size)
          go_wp2_with fail
          go_ret2
          exact ⟨rfl, hb4⟩
  · -- other
    have c1 := fun W => hA.dg 12 4 W (by omega) (by omega) (by omega)
    have c2 := fun W => hA.dg 5 2 W (by omega) (by omega) (by omega)
    have c3 := fun W => hA.gu (dgV l 12 4) (dgV l 5 2) 8 17 W (by omega) (by omega)
    rw [show guV l (dgV l 12 4) 8 (dgV l 5 2) 17 = some n0 from hg0] at c3
    have c4 := fun W => rforms_n n0 (gu_lt hg0) W
    have hq := cmp_ne hf0
    have hx := run_ix0 (strB (fm0 n0)) (strB (fm1 n0)) (strB (fm2 n0))
    have hge : decide ((n0 : Int) ≥ 0) = true := by simp
    simp only [guI] at c3
    clear hg0
    clear hf0
    generalize strB (fm0 n0) = T0 at *
    generalize strB (fm1 n0) = T1 at *
    generalize strB (fm2 n0) = T2 at *
    generalize dgV l 12 4 = a1 at *
    generalize dgV l 5 2 = a2 at *
    go_enter Tryd.func12, Tryd.ntmps12
    go_wp2_with fail
    refine (c1 _).mono ?_
    rintro e w1 ⟨rfl, rfl⟩
    go_wp2_with fail
    refine (c2 _).mono ?_
    rintro e w1 ⟨rfl, rfl⟩
    go_wp2_with fail
    refine (c3 _).mono ?_
    rintro e w1 ⟨rfl, hb1⟩
    go_wp2_with fail
    refine (c4 _).mono ?_
    rintro e w2 ⟨rfl, hb2⟩
    have hb1 := hb1.trans (hb2.mono hb1.size)
    clear hb2
    go_wp2_with fail
    clear c4 hq hx hge
    clear c1 c2 c3
    go_loopw [5] (fun x wr => ∃ i : Nat, x = .int .i64 i ∧ i ≤ i0 ∧ i ≤ 12 ∧ Below w.heap.size w wr) (fun x _ => i0 + 1 - (intOf x).toNat)
    case atStart => exact ⟨0, rfl, by omega, by omega, hb1⟩
    case round =>
      clear hb1
      obtain ⟨i, rfl, hi, _, hb⟩ := hrel
      have d2 : decide ((i : Int) < 12) = true := by simp; omega
      by_cases hlt : i < i0
      · have hin : i < (strB l).size := by omega
        have d1 : decide (i < (strB l).size) = true := by simpa using hin
        have hne := hno i hin hlt
        clear hno hyes hA hg1 hf1
        generalize strB l = t at *
        go_wp2_with fail
        go_roundw
        case rel => exact ⟨i + 1, by go_num, by omega, by omega, hb⟩
        case measure => simp [intOf]; omega
      · obtain rfl : i = i0 := by omega
        have d1 : decide (i < (strB l).size) = true := by simpa using hlt0
        clear hno hlt
        have cY := fun W => hA.dg (i + 9) 2 W (by omega) (by omega) (by omega)
        have cD := fun W => hA.dg (i + 2) 2 W (by omega) (by omega) (by omega)
        have cG := fun W => hA.gu (ys1 (dgV l (i + 9) 2)) (dgV l (i + 2) 2) (i + 5) (i + 12) W (by omega) (by omega)
        rw [show ((i + 9 : Nat) : Int) = (i : Int) + 9 by omega] at cY
        rw [show ((i + 2 : Nat) : Int) = (i : Int) + 2 by omega] at cD
        rw [show ((i + 5 : Nat) : Int) = (i : Int) + 5 by omega, show ((i + 12 : Nat) : Int) = (i : Int) + 12 by omega] at cG
        obtain ⟨r1, r2⟩ := dg_range l (i + 9) 2
        rw [show ((10 : Int) ^ 2) = 100 by decide] at r2
        rw [show guV l (ys1 (dgV l (i + 9) 2)) (i + 5) (dgV l (i + 2) 2) (i + 12) = some n from hg1] at cG
        simp only [guI] at cG
        have c4 := fun W => rforms_n n (gu_lt hg1) W
        have hq := cmp_eq hf1
        have hx := run_ix1 (strB (fm0 n)) (strB (fm1 n)) (strB (fm2 n))
        have hge : decide ((n : Int) ≥ 0) = true := by simp
        clear hf1
        generalize strB (fm0 n) = T0 at *
        generalize strB (fm1 n) = T1 at *
        generalize strB (fm2 n) = T2 at *
        clear hg1 hA
        by_cases h70 : 70 ≤ dgV l (i + 9) 2
        · have d70 : decide (dgV l (i + 9) 2 ≥ 70) = true := by simpa using h70
          rw [show ys1 (dgV l (i + 9) 2) = dgV l (i + 9) 2 + 1900 from if_pos h70] at cG
          clear h70
          generalize dgV l (i + 9) 2 = yy at *
          generalize dgV l (i + 2) 2 = dd at *
          generalize strB l = t at *
          go_wp2_with fail
          refine (cY _).mono ?_
          rintro e w3 ⟨rfl, rfl⟩
          go_wp2_with fail
          refine (cD _).mono ?_
          rintro e w3 ⟨rfl, rfl⟩
          go_wp2_with fail
          refine (cG _).mono ?_
          rintro e w3 ⟨rfl, hb3⟩
          have hb3 := hb.trans (hb3.mono hb.size)
          go_wp2_with fail
          refine (c4 _).mono ?_
          rintro e w4 ⟨rfl, hb4⟩
          have hb4 := hb3.trans (hb4.mono hb3.size)
          go_wp2_with fail
          go_ret2
          exact ⟨rfl, hb4⟩
        · have d70 : decide (dgV l (i + 9) 2 ≥ 70) = false := by simpa using h70
          rw [show ys1 (dgV l (i + 9) 2) = dgV l (i + 9) 2 + 2000 from if_neg h70] at cG
          clear h70
          generalize dgV l (i + 9) 2 = yy at *
          generalize dgV l (i + 2) 2 = dd at *
          generalize strB l = t at *
          go_wp2_with fail
          refine (cY _).mono ?_
          rintro e w3 ⟨rfl, rfl⟩
          go_wp2_with fail
          refine (cD _).mono ?_
          rintro e w3 ⟨rfl, rfl⟩
          go_wp2_with fail
          refine (cG _).mono ?_
          rintro e w3 ⟨rfl, hb3⟩
          have hb3 := hb.trans (hb3.mono hb.size)
          go_wp2_with fail
          refine (c4 _).mono ?_
          rintro e w4 ⟨rfl, hb4⟩
          have hb4 := hb3.trans (hb4.mono hb3.size)
          go_wp2_with fail
          go_ret2
          exact ⟨rfl, hb4⟩

end Go.Proofs.YtfabkceefigmhaaDoor
