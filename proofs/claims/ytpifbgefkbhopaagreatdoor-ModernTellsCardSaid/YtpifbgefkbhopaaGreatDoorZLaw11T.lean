/- The walk of the law ModernTells. -/
import Derived.Test.YtpifbgefkbhopaaGreatDoorZMMoB
import Derived.Test.YtpifbgefkbhopaaGreatDoorZChsF
import Derived.Test.YtpifbgefkbhopaaGreatDoorZSrC
import Derived.Test.YtpifbgefkbhopaaGreatDoorZDirS
import Derived.Test.YtpifbgefkbhopaaGreatDoorZMLgE

namespace Go.Proofs.YtpifbgefkbhopaaGreatDoor
open Go.RowKit Go.Lib

theorem joins_small (fs : List Fld) (h : (prF fs).length ≤ 10000) (n : List UInt8) : (joinH (allH fs n)).length ≤ 90000 := Nat.le_trans (join_small fs n) (by omega)

set_option maxRecDepth 100000 in
set_option maxHeartbeats 8000000 in
theorem mtells_walk (s : ByteArray) (v : Value) (fs : List Fld) (w : World) (h : Flds 0 w v fs) (hk : FldsIn fs) (hA : Alph w) (hT : Tabs w) :
    Calls Tryz.prog 3 #[.string s, v] w fun e w' => e = .returned (.bool true) ∧ Below w.heap.size w w' := by
  have cA := awake11_any w hA hT
  have cS := fun W (hb : Below w.heap.size w W) => rsize_any 0 v fs W (h.below hb) hk
  have HF := Lib.hid h
  have HT := Lib.hid hT
  have HA := Lib.hid hA
  obtain ⟨ao, cap, rfl, _⟩ := id h
  clear h hk hT hA
  by_cases hs : 500 < s.size
  · have d1 : (500 : Int) < (s.size : Int) := by omega
    go_enter Tryz.func3, Tryz.ntmps3
    go_wp2_with fail
    refine cA.mono ?_
    rintro e w1 ⟨rfl, hb1⟩
    clear cA cS
    go_wp2_with fail
    go_ret
    exact ⟨rfl, hb1⟩
  · have d1 : ¬ (500 : Int) < (s.size : Int) := by omega
    by_cases hbf : 3000 < szH 0 fs
    · have d3 : (3000 : Int) < ((szH 0 fs : Nat) : Int) := by omega
      generalize szH 0 fs = Y at *
      go_enter Tryz.func3, Tryz.ntmps3
      go_wp2_with fail
      refine cA.mono ?_
      rintro e w1 ⟨rfl, hb1⟩
      have HB := Lib.hid hb1
      clear hb1 cA
      go_wp2_with fail
      refine (cS _ HB.out).mono ?_
      rintro e w3 ⟨rfl, hb3⟩
      have HB3 := Lib.hid (HB.out.trans (hb3.mono HB.out.size))
      clear hb3 cS
      go_wp2_with fail
      go_ret
      exact ⟨rfl, HB3.out⟩
    · have d3 : ¬ (3000 : Int) < ((szH 0 fs : Nat) : Int) := by omega
      obtain ⟨hfo, hpr⟩ := szH_ok fs (by omega)
      have hj := joins_small fs hpr
      have cP := fun W h => mparse_any s W (by omega) h
      have cP2 := fun W => r11parse_any s W (by omega)
      have cC := fun W (hb : Below w.heap.size w W) => mchoose_any 0 (.slice ao fs.length cap) fs W (HF.out.below hb) hfo hj (HA.out.below hb) (Utf8Tabs_below HT.out hb)
      have cC2 := fun W (hb : Below w.heap.size w W) => r11choose_any 0 (.slice ao fs.length cap) fs W (HF.out.below hb) hfo hj
      unfold modA_ModA at cP cP2
      obtain ⟨b0, b1, b2, b3, b4, b5, b6, b7, k0, k1, k2, k3, k4, hR⟩ := rulO_form_ModA (modL s.data.toList)
      obtain ⟨c0, c1, c2, c3, c4, c5, c6, c7, m0, m1, m2, m3, m4, at_, hR2⟩ := chsA_form_ChsF fs
      rw [hR] at cP cP2
      rw [hR2] at cC cC2
      generalize (modL s.data.toList).isSome = q at *
      generalize szH 0 fs = Y at *
      clear hR hR2 hbf hs hfo hpr hj
      go_enter Tryz.func3, Tryz.ntmps3
      go_wp2_with fail
      refine cA.mono ?_
      rintro e w1 ⟨rfl, hb⟩
      have HB := Lib.hid hb
      clear hb cA
      go_wp2_with fail
      refine (cS _ HB.out).mono ?_
      rintro e w2 ⟨rfl, hb⟩
      have HB := Lib.hid (HB.out.trans (hb.mono HB.out.size))
      clear hb cS
      go_wp2_with fail
      refine (cP _ (HA.out.below HB.out)).mono ?_
      rintro e w3 ⟨rfl, hb⟩
      have HB := Lib.hid (HB.out.trans (hb.mono HB.out.size))
      have H1 := Lib.hid (BoxN.made w3 [.bool b0, .bool b1, .bool b2, .bool b3, .bool b4, .bool b5, .bool b6, .bool b7, .int .i64 k0, .int .i64 k1, .int .i64 k2, .int .i64 k3, .int .i64 k4] 26)
      have hal := (Below.refl w3.heap.size w3).alloc (Nat.le_refl _) (.cells #[.bool b0, .bool b1, .bool b2, .bool b3, .bool b4, .bool b5, .bool b6, .bool b7, .int .i64 k0, .int .i64 k1, .int .i64 k2, .int .i64 k3, .int .i64 k4] 26)
      have HB := Lib.hid (HB.out.trans (hal.mono HB.out.size))
      clear hb hal cP
      go_wp2_with fail
      generalize w3.alloc (.cells #[.bool b0, .bool b1, .bool b2, .bool b3, .bool b4, .bool b5, .bool b6, .bool b7, .int .i64 k0, .int .i64 k1, .int .i64 k2, .int .i64 k3, .int .i64 k4] 26) = U0 at *
      generalize w3.heap.size = C1 at *
      refine (cP2 _).mono ?_
      rintro e w4 ⟨rfl, hb⟩
      have HB := Lib.hid (HB.out.trans (hb.mono HB.out.size))
      have H1 := Lib.hid (H1.out.next hb)
      have H2 := Lib.hid (BoxN.made w4 [.bool b0, .bool b1, .bool b2, .bool b3, .bool b4, .bool b5, .bool b6, .bool b7, .int .i64 k0, .int .i64 k1, .int .i64 k2, .int .i64 k3, .int .i64 k4] 29)
      have hal := (Below.refl w4.heap.size w4).alloc (Nat.le_refl _) (.cells #[.bool b0, .bool b1, .bool b2, .bool b3, .bool b4, .bool b5, .bool b6, .bool b7, .int .i64 k0, .int .i64 k1, .int .i64 k2, .int .i64 k3, .int .i64 k4] 29)
      have HB := Lib.hid (HB.out.trans (hal.mono HB.out.size))
      have H1 := Lib.hid (H1.out.next hal)
      clear hb hal cP2
      go_wp2_with fail
      generalize w4.alloc (.cells #[.bool b0, .bool b1, .bool b2, .bool b3, .bool b4, .bool b5, .bool b6, .bool b7, .int .i64 k0, .int .i64 k1, .int .i64 k2, .int .i64 k3, .int .i64 k4] 29) = U1 at *
      generalize w4.heap.size = C2 at *
      refine (cC _ HB.out).mono ?_
      rintro e w5 ⟨rfl, hb⟩
      have HB := Lib.hid (HB.out.trans (hb.mono HB.out.size))
      have H1 := Lib.hid (H1.out.next hb)
      have H2 := Lib.hid (H2.out.next hb)
      have H3 := Lib.hid (BoxN.made w5 [.bool c0, .bool c1, .bool c2, .bool c3, .bool c4, .bool c5, .bool c6, .bool c7, .int .i64 m0, .int .i64 m1, .int .i64 m2, .int .i64 m3, .int .i64 m4] 26)
      have hal := (Below.refl w5.heap.size w5).alloc (Nat.le_refl _) (.cells #[.bool c0, .bool c1, .bool c2, .bool c3, .bool c4, .bool c5, .bool c6, .bool c7, .int .i64 m0, .int .i64 m1, .int .i64 m2, .int .i64 m3, .int .i64 m4] 26)
      have HB := Lib.hid (HB.out.trans (hal.mono HB.out.size))
      have H1 := Lib.hid (H1.out.next hal)
      have H2 := Lib.hid (H2.out.next hal)
      clear hb hal cC
      go_wp2_with fail
      generalize w5.alloc (.cells #[.bool c0, .bool c1, .bool c2, .bool c3, .bool c4, .bool c5, .bool c6, .bool c7, .int .i64 m0, .int .i64 m1, .int .i64 m2, .int .i64 m3, .int .i64 m4] 26) = U2 at *
      generalize w5.heap.size = C3 at *
      refine (cC2 _ HB.out).mono ?_
      rintro e w6 ⟨rfl, hb⟩
      have HB := Lib.hid (HB.out.trans (hb.mono HB.out.size))
      have H1 := Lib.hid (H1.out.next hb)
      have H2 := Lib.hid (H2.out.next hb)
      have H3 := Lib.hid (H3.out.next hb)
      have H4 := Lib.hid (BoxN.made w6 [.bool c0, .bool c1, .bool c2, .bool c3, .bool c4, .bool c5, .bool c6, .bool c7, .int .i64 m0, .int .i64 m1, .int .i64 m2, .int .i64 m3, .int .i64 m4] 29)
      have hal := (Below.refl w6.heap.size w6).alloc (Nat.le_refl _) (.cells #[.bool c0, .bool c1, .bool c2, .bool c3, .bool c4, .bool c5, .bool c6, .bool c7, .int .i64 m0, .int .i64 m1, .int .i64 m2, .int .i64 m3, .int .i64 m4] 29)
      have HB := Lib.hid (HB.out.trans (hal.mono HB.out.size))
      clear hal cC2 hb
      have l0 := H1.out.1
      have x0_0 := (H1.out.2 0 _ rfl).1
      have x0_1 := (H1.out.2 1 _ rfl).1
      have x0_2 := (H1.out.2 2 _ rfl).1
      have x0_3 := (H1.out.2 3 _ rfl).1
      have x0_4 := (H1.out.2 4 _ rfl).1
      have x0_5 := (H1.out.2 5 _ rfl).1
      have x0_6 := (H1.out.2 6 _ rfl).1
      have x0_7 := (H1.out.2 7 _ rfl).1
      have x0_8 := (H1.out.2 8 _ rfl).1
      have x0_9 := (H1.out.2 9 _ rfl).1
      have x0_10 := (H1.out.2 10 _ rfl).1
      have x0_11 := (H1.out.2 11 _ rfl).1
      have x0_12 := (H1.out.2 12 _ rfl).1
      have l1 := H2.out.1
      have x1_0 := (H2.out.2 0 _ rfl).1
      have x1_1 := (H2.out.2 1 _ rfl).1
      have x1_2 := (H2.out.2 2 _ rfl).1
      have x1_3 := (H2.out.2 3 _ rfl).1
      have x1_4 := (H2.out.2 4 _ rfl).1
      have x1_5 := (H2.out.2 5 _ rfl).1
      have x1_6 := (H2.out.2 6 _ rfl).1
      have x1_7 := (H2.out.2 7 _ rfl).1
      have x1_8 := (H2.out.2 8 _ rfl).1
      have x1_9 := (H2.out.2 9 _ rfl).1
      have x1_10 := (H2.out.2 10 _ rfl).1
      have x1_11 := (H2.out.2 11 _ rfl).1
      have x1_12 := (H2.out.2 12 _ rfl).1
      have l2 := H3.out.1
      have x2_0 := (H3.out.2 0 _ rfl).1
      have x2_1 := (H3.out.2 1 _ rfl).1
      have x2_2 := (H3.out.2 2 _ rfl).1
      have x2_3 := (H3.out.2 3 _ rfl).1
      have x2_4 := (H3.out.2 4 _ rfl).1
      have x2_5 := (H3.out.2 5 _ rfl).1
      have x2_6 := (H3.out.2 6 _ rfl).1
      have x2_7 := (H3.out.2 7 _ rfl).1
      have x2_8 := (H3.out.2 8 _ rfl).1
      have x2_9 := (H3.out.2 9 _ rfl).1
      have x2_10 := (H3.out.2 10 _ rfl).1
      have x2_11 := (H3.out.2 11 _ rfl).1
      have x2_12 := (H3.out.2 12 _ rfl).1
      go_wp2_with fail
      go_ret
      exact ⟨rfl, HB.out⟩

end Go.Proofs.YtpifbgefkbhopaaGreatDoor
