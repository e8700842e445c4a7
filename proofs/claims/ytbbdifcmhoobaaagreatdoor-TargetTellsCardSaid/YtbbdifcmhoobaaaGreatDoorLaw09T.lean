/- TargetTells walked. -/
import Derived.Test.YtbbdifcmhoobaaaGreatDoorAwk9
import Derived.Test.YtbbdifcmhoobaaaGreatDoorRnE
namespace Go.Proofs.YtbbdifcmhoobaaaGreatDoor
open Go.RowKit Go.Shelf Go.Lib

set_option maxRecDepth 100000 in
set_option maxHeartbeats 4000000 in
theorem tells_main (s1 s2 : ByteArray) (w : World) (z1 : s1.size ≤ 300) (z2 : s2.size ≤ 300) (hE : Errs w) :
    Calls Tryz.prog 3 #[.string s1, .string s2] w fun e w' => e = .returned (.bool true) ∧ Below w.heap.size w w' := by
  have g1 : ¬ (300 < (s1.size : Int)) := by omega
  have g2 : ¬ (300 < (s2.size : Int)) := by omega
  have cA := awake9_any w hE
  have HE := Lib.hid hE
  have c1 := fun W => host_any s1 W (by omega)
  have c2 := fun W => nhost_any s1 W (by omega)
  have c3 := fun W h => percent_any s2 W (by omega) h
  have c4 := fun W => npercent_any s2 W (by omega)
  have c5 := fun W h => normal_any s1 s2 W (by omega) (by omega) h
  have c6 := fun W => nnormal_any s1 s2 W (by omega) (by omega)
  have c7 := fun W => dots_any s2 W (by omega)
  have c8 := fun W => ndots_any s2 W (by omega)
  obtain ⟨A1, E1, h1⟩ := errV_form (hostL s1.data.toList)
  obtain ⟨A2, E2, h2⟩ := errV_form (pctL s2.data.toList)
  obtain ⟨A3, E3, h3⟩ := errV_form (normL s1.data.toList s2.data.toList)
  unfold errPost at c1 c2 c3 c4 c5 c6
  unfold dtsPost at c7
  rw [h1] at c1 c2
  rw [h2] at c3 c4
  rw [h3] at c5 c6
  generalize strB (dotsL s2.data.toList) = D at *
  have r1 : (A1.toList == A1.toList) = true := beq_self_eq_true _
  have r2 : (A2.toList == A2.toList) = true := beq_self_eq_true _
  have r3 : (A3.toList == A3.toList) = true := beq_self_eq_true _
  have r4 : (D.toList == D.toList) = true := beq_self_eq_true _
  have r5 : (E1 == E1) = true := beq_self_eq_true _
  have r6 : (E2 == E2) = true := beq_self_eq_true _
  have r7 : (E3 == E3) = true := beq_self_eq_true _
  clear h1 h2 h3 hE
  go_enter Tryz.func3, Tryz.ntmps3
  go_wp2_with fail
  refine cA.mono ?_
  rintro e w1 ⟨rfl, hb1⟩
  have HB1 := Lib.hid hb1
  clear hb1 cA
  go_wp2_with fail
  refine (c1 _).mono ?_
  rintro e w2 ⟨rfl, hb2⟩
  have HB2 := Lib.hid (HB1.out.trans (hb2.mono HB1.out.size))
  clear hb2 c1
  go_wp2_with fail
  refine (c2 _).mono ?_
  rintro e w3 ⟨rfl, hb3⟩
  have HB3 := Lib.hid (HB2.out.trans (hb3.mono HB2.out.size))
  clear hb3 c2
  go_wp2_with fail
  refine (c3 _ (HE.out.below HB3.out)).mono ?_
  rintro e w4 ⟨rfl, hb4⟩
  have HB4 := Lib.hid (HB3.out.trans (hb4.mono HB3.out.size))
  clear hb4 c3
  go_wp2_with fail
  refine (c4 _).mono ?_
  rintro e w5 ⟨rfl, hb5⟩
  have HB5 := Lib.hid (HB4.out.trans (hb5.mono HB4.out.size))
  clear hb5 c4
  go_wp2_with fail
  refine (c5 _ (HE.out.below HB5.out)).mono ?_
  rintro e w6 ⟨rfl, hb6⟩
  have HB6 := Lib.hid (HB5.out.trans (hb6.mono HB5.out.size))
  clear hb6 c5
  go_wp2_with fail
  refine (c6 _).mono ?_
  rintro e w7 ⟨rfl, hb7⟩
  have HB7 := Lib.hid (HB6.out.trans (hb7.mono HB6.out.size))
  clear hb7 c6
  go_wp2_with fail
  refine (c7 _).mono ?_
  rintro e w8 ⟨rfl, hb8⟩
  have HB8 := Lib.hid (HB7.out.trans (hb8.mono HB7.out.size))
  clear hb8 c7
  go_wp2_with fail
  refine (c8 _).mono ?_
  rintro e w9 ⟨rfl, hb9⟩
  have HB9 := Lib.hid (HB8.out.trans (hb9.mono HB8.out.size))
  clear hb9 c8
  go_wp2_with fail
  go_ret
  exact ⟨rfl, HB9.out⟩

set_option maxRecDepth 100000 in
set_option maxHeartbeats 4000000 in
theorem tells_walk (s1 s2 : ByteArray) (w : World) (hE : Errs w) :
    Calls Tryz.prog 3 #[.string s1, .string s2] w fun e w' => e = .returned (.bool true) ∧ Below w.heap.size w w' := by
  by_cases z1 : s1.size ≤ 300
  · by_cases z2 : s2.size ≤ 300
    · exact tells_main s1 s2 w z1 z2 hE
    · have g1 : ¬ (300 < (s1.size : Int)) := by omega
      have g2 : (300 < (s2.size : Int)) := by omega
      have cA := awake9_any w hE
      go_enter Tryz.func3, Tryz.ntmps3
      go_wp2_with fail
      refine cA.mono ?_
      rintro e w1 ⟨rfl, hb1⟩
      go_wp2_with fail
      go_ret
      exact ⟨rfl, hb1⟩
  · have g1 : (300 < (s1.size : Int)) := by omega
    have cA := awake9_any w hE
    go_enter Tryz.func3, Tryz.ntmps3
    go_wp2_with fail
    refine cA.mono ?_
    rintro e w1 ⟨rfl, hb1⟩
    go_wp2_with fail
    go_ret
    exact ⟨rfl, hb1⟩

end Go.Proofs.YtbbdifcmhoobaaaGreatDoor
