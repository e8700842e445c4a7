/- The contract of the document's own guess (sculleryref05). -/
import Derived.Test.YtfabkceefigmhaaDoorRdH
namespace Go.Proofs.YtfabkceefigmhaaDoor
open Go.RowKit

/-- Seconds as a guess is told. -/
def guI : Option Nat → Int
  | some n => n
  | none => -1

set_option maxRecDepth 100000 in
set_option maxHeartbeats 4000000 in
theorem rguess_any (l : List UInt8) (Y D : Int) (mon ck : Nat) (w : World) (hm : mon ≤ 100) (hc : ck ≤ 100) (hl : l.length ≤ 1000) :
    Calls Tryd.prog 28 #[.string (strB l), .int .i64 Y, .int .i64 mon, .int .i64 D, .int .i64 ck] w fun e w' => e = .returned (.int .i64 (guI (guV l Y mon D ck))) ∧ Below w.heap.size w w' := by
  have hl2 : l.length ≤ maxLen := by unfold maxLen; omega
  have cW := fun W => rwhich_any l mon W (by omega) hl
  have cD := fun W => rdays_any Y (whV l mon : Nat) D W
  have c1 := fun W => rdigits_any l ck 2 W (by omega) (by omega) (by omega) hl2
  have c2 := fun W => rdigits_any l (ck + 3) 2 W (by omega) (by omega) (by omega) hl2
  have c3 := fun W => rdigits_any l (ck + 6) 2 W (by omega) (by omega) (by omega) hl2
  rw [show ((ck + 3 : Nat) : Int) = (ck : Int) + 3 by omega] at c2
  rw [show ((ck + 6 : Nat) : Int) = (ck : Int) + 6 by omega] at c3
  obtain ⟨r1, q1⟩ := dg_range l ck 2
  obtain ⟨r2, q2⟩ := dg_range l (ck + 3) 2
  obtain ⟨r3, q3⟩ := dg_range l (ck + 6) 2
  rw [show ((10 : Int) ^ 2) = 100 by decide] at q1 q2 q3
  have hv : Hid (guV l Y mon D ck = if 0 ≤ D ∧ dayI Y (whV l mon) D = true ∧ tdV l ck = true then some (86400 * daysN Y.toNat (whV l mon) D.toNat + (3600 * (dgV l ck 2).toNat + 60 * (dgV l (ck + 3) 2).toNat + (dgV l (ck + 6) 2).toNat)) else none) := Lib.hid rfl
  have ht : Hid (tdV l ck = decide (0 ≤ dgV l ck 2 ∧ dgV l ck 2 ≤ 23 ∧ 0 ≤ dgV l (ck + 3) 2 ∧ dgV l (ck + 3) 2 ≤ 59 ∧ 0 ≤ dgV l (ck + 6) 2 ∧ dgV l (ck + 6) 2 ≤ 59)) := Lib.hid rfl
  generalize dgV l ck 2 = h at *
  generalize dgV l (ck + 3) 2 = m at *
  generalize dgV l (ck + 6) 2 = k at *
  generalize tdV l ck = td at *
  generalize guV l Y mon D ck = v at *
  generalize whV l mon = M at *
  generalize strB l = t at *
  clear hl hl2
  by_cases hD : D < 0
  · have d0 : decide (D < 0) = true := by simpa using hD
    have HV : Hid (v = none) := Lib.hid (by rw [hv.out, if_neg]; omega)
    clear hv ht cW cD c1 c2 c3
    go_enter Tryd.func28, Tryd.ntmps28
    go_wp2_with fail
    go_ret
    exact ⟨by rw [HV.out]; rfl, Below.refl _ _⟩
  · have d0 : decide (D < 0) = false := by simpa using hD
    have hD0 : 0 ≤ D := by omega
    go_enter Tryd.func28, Tryd.ntmps28
    go_wp2_with fail
    refine (cW _).mono ?_
    rintro e w1 ⟨rfl, hb1⟩
    clear cW
    go_wp2_with fail
    refine (cD _).mono ?_
    rintro e w2 ⟨rfl, hb2⟩
    have hb2 := hb1.trans (hb2.mono hb1.size)
    clear hb1 cD
    cases hd : dayI Y M D
    · have hdv : daysV Y M D = .tuple #[.int .i64 0, .int .i64 1] := by unfold daysV; rw [hd]; rfl
      have HV : Hid (v = none) := Lib.hid (by rw [hv.out, if_neg]; rw [hd]; simp)
      rw [hdv]
      clear hv ht hd hdv
      go_wp2_with fail
      refine (c1 _).mono ?_
      rintro e w3 ⟨rfl, rfl⟩
      go_wp2_with fail
      refine (c2 _).mono ?_
      rintro e w3 ⟨rfl, rfl⟩
      go_wp2_with fail
      refine (c3 _).mono ?_
      rintro e w3 ⟨rfl, rfl⟩
      go_wp2_with fail
      go_ret
      exact ⟨by rw [HV.out]; rfl, hb2⟩
    · have hdv : daysV Y M D = .tuple #[.int .i64 (daysN Y.toNat M D.toNat : Nat), .int .i64 0] := by unfold daysV; rw [if_pos hd]; rfl
      have hlt : daysN Y.toNat M D.toNat < 2932897 := by
        unfold dayI at hd
        have hd := of_decide_eq_true hd
        exact days_bound (by simpa using hd.2.2.2)
      rw [hdv]
      have hv2 : Hid (v = if td = true then some (86400 * daysN Y.toNat M D.toNat + (3600 * h.toNat + 60 * m.toNat + k.toNat)) else none) := Lib.hid (by
        rw [hv.out]
        by_cases htd : td = true
        · rw [if_pos ⟨hD0, hd, htd⟩, if_pos htd]
        · rw [if_neg (fun h => htd h.2.2), if_neg htd])
      clear hv hd hdv
      generalize daysN Y.toNat M D.toNat = K at *
      go_wp2_with fail
      refine (c1 _).mono ?_
      rintro e w3 ⟨rfl, rfl⟩
      go_wp2_with fail
      refine (c2 _).mono ?_
      rintro e w3 ⟨rfl, rfl⟩
      go_wp2_with fail
      refine (c3 _).mono ?_
      rintro e w3 ⟨rfl, rfl⟩
      clear c1 c2 c3
      by_cases g0 : h < 0
      · have d1 : decide (h < 0) = true := by simpa using g0
        have HV : Hid (v = none) := Lib.hid (by rw [hv2.out, if_neg]; rw [ht.out]; simp; omega)
        clear hv2 ht
        go_wp2_with fail
        go_ret
        exact ⟨by rw [HV.out]; rfl, hb2⟩
      have d1 : decide (h < 0) = false := by simpa using g0
      by_cases g1 : h > 23
      · have d2 : decide (h > 23) = true := by simpa using g1
        have HV : Hid (v = none) := Lib.hid (by rw [hv2.out, if_neg]; rw [ht.out]; simp; omega)
        clear hv2 ht
        go_wp2_with fail
        go_ret
        exact ⟨by rw [HV.out]; rfl, hb2⟩
      have d2 : decide (h > 23) = false := by simpa using g1
      by_cases g2 : m < 0
      · have d3 : decide (m < 0) = true := by simpa using g2
        have HV : Hid (v = none) := Lib.hid (by rw [hv2.out, if_neg]; rw [ht.out]; simp; omega)
        clear hv2 ht
        go_wp2_with fail
        go_ret
        exact ⟨by rw [HV.out]; rfl, hb2⟩
      have d3 : decide (m < 0) = false := by simpa using g2
      by_cases g3 : m > 59
      · have d4 : decide (m > 59) = true := by simpa using g3
        have HV : Hid (v = none) := Lib.hid (by rw [hv2.out, if_neg]; rw [ht.out]; simp; omega)
        clear hv2 ht
        go_wp2_with fail
        go_ret
        exact ⟨by rw [HV.out]; rfl, hb2⟩
      have d4 : decide (m > 59) = false := by simpa using g3
      by_cases g4 : k < 0
      · have d5 : decide (k < 0) = true := by simpa using g4
        have HV : Hid (v = none) := Lib.hid (by rw [hv2.out, if_neg]; rw [ht.out]; simp; omega)
        clear hv2 ht
        go_wp2_with fail
        go_ret
        exact ⟨by rw [HV.out]; rfl, hb2⟩
      have d5 : decide (k < 0) = false := by simpa using g4
      by_cases g5 : k > 59
      · have d6 : decide (k > 59) = true := by simpa using g5
        have HV : Hid (v = none) := Lib.hid (by rw [hv2.out, if_neg]; rw [ht.out]; simp; omega)
        clear hv2 ht
        go_wp2_with fail
        go_ret
        exact ⟨by rw [HV.out]; rfl, hb2⟩
      have d6 : decide (k > 59) = false := by simpa using g5
      obtain ⟨h, rfl⟩ := Int.eq_ofNat_of_zero_le (show 0 ≤ h by omega)
      obtain ⟨m, rfl⟩ := Int.eq_ofNat_of_zero_le (show 0 ≤ m by omega)
      obtain ⟨k, rfl⟩ := Int.eq_ofNat_of_zero_le (show 0 ≤ k by omega)
      have HV : Hid (v = some (86400 * K + (3600 * h + 60 * m + k))) := Lib.hid (by rw [hv2.out, if_pos (by rw [ht.out]; exact decide_eq_true ⟨by omega, by omega, by omega, by omega, by omega, by omega⟩)]; rfl)
      clear hv2 ht
      go_wp2_with fail
      go_ret
      exact ⟨by rw [HV.out]; unfold guI; go_num, hb2⟩

end Go.Proofs.YtfabkceefigmhaaDoor
