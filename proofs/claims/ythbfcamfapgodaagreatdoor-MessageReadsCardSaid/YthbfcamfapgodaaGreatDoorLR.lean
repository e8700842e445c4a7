/- The walk of the law MessageReads. -/
import Derived.Test.YthbfcamfapgodaaGreatDoorGW
import Derived.Test.YthbfcamfapgodaaGreatDoorHN

namespace Go.Proofs.YthbfcamfapgodaaGreatDoor
open Go.RowKit Go.Shelf Go.Lib

set_option maxRecDepth 100000 in
set_option maxHeartbeats 8000000 in
theorem reads_walk (s me : ByteArray) (w : World) (hT : Tabs w) (hE : Errs w) (hP : Pow w) :
    Calls Tryz.prog 3 #[.string s, .string me] w fun e w' => e = .returned (.bool true) ∧ Below w.heap.size w w' := by
  have cA := awake8_any w hT hE hP
  have HT := Lib.hid hT
  have HE := Lib.hid hE
  clear hT hE hP
  by_cases h1 : 10000 < s.size
  · have d1 : (10000 : Int) < (s.size : Int) := by omega
    clear h1
    go_enter Tryz.func3, Tryz.ntmps3
    go_wp2_with fail
    refine cA.mono ?_
    rintro e w1 ⟨rfl, hb1⟩
    go_wp2_with fail
    go_ret
    exact ⟨rfl, hb1⟩
  · have d1 : ¬ (10000 : Int) < (s.size : Int) := by omega
    by_cases h2 : 100 < me.size
    · have d2 : (100 : Int) < (me.size : Int) := by omega
      clear h1 h2
      go_enter Tryz.func3, Tryz.ntmps3
      go_wp2_with fail
      refine cA.mono ?_
      rintro e w1 ⟨rfl, hb1⟩
      go_wp2_with fail
      go_ret
      exact ⟨rfl, hb1⟩
    · have d2 : ¬ (100 : Int) < (me.size : Int) := by omega
      have c1 := fun W h1 h2 => mreadq_any s W (by omega) h1 h2
      have c2 := fun W => rreadq_any s W (by omega)
      have c3 := fun W h1 h2 => mreadp_any s me W (by omega) h1 h2
      have c4 := fun W => rreadp_any s me W (by omega)
      obtain ⟨q, n, x, hql, hq⟩ := rq_form s.data.toList
      obtain ⟨p, y, hpl, hp⟩ := rp_form s.data.toList me
      have c5 := fun f1 f2 b1 b2 W h1 h2 h3 h4 => rsameq_any 0 0 0 0 q q f1 f2 b1 b2 W h1 h2 h3 h4 (by omega) (by omega)
      have c6 := fun f1 f2 b1 b2 W h1 h2 h3 h4 => rsamep_any 0 0 0 0 p p f1 f2 b1 b2 W h1 h2 h3 h4 (by omega) (by omega)
      rw [sameQ_self] at c5
      rw [sameP_self] at c6
      generalize rdQ s.data.toList = rq at *
      generalize rdP s.data.toList me = rp at *
      have HQ := Lib.hid hq
      have HP := Lib.hid hp
      clear h1 h2 hq hp hql hpl
      generalize strB q.m = QM at *
      generalize strB q.t = QT at *
      generalize hpn : p.n = PN at *
      clear hpn
      go_enter Tryz.func3, Tryz.ntmps3
      go_wp2_with fail
      refine cA.mono ?_
      rintro e w1 ⟨rfl, hb1⟩
      have HB1 := Lib.hid hb1
      clear hb1 cA
      go_wp2_with fail
      refine (c1 _ (Utf8Tabs_below HT.out HB1.out) (HE.out.below HB1.out)).mono ?_
      intro e w2 hh
      obtain ⟨hb2, f2, b2, rfl, hf2, hy2⟩ := HQ.out _ _ _ hh
      clear hh c1
      have ha2 := (Below.refl w2.heap.size w2).alloc (Nat.le_refl _) (.cells #[.string QM, .string QT, f2, b2] 26)
      have HB2 := Lib.hid (HB1.out.trans ((hb2.trans (ha2.mono hb2.size)).mono HB1.out.size))
      have HX2 := Lib.hid (BoxQ.made w2 QM QT f2 b2)
      have HF2 := Lib.hid ((hf2.low (Nat.zero_le _)).below ha2)
      have HY2 := Lib.hid ((hy2.low (Nat.zero_le _)).below ha2)
      obtain ⟨fo2, fc2, rfl, _⟩ := hf2
      obtain ⟨bo2, bc2, rfl, _⟩ := hy2
      clear hb2 ha2 HB1
      go_wp2_with fail
      refine (c2 _).mono ?_
      intro e w3 hh
      obtain ⟨hb3, f3, b3, rfl, hf3, hy3⟩ := HQ.out _ _ _ hh
      clear hh c2
      have ha3 := (Below.refl w3.heap.size w3).alloc (Nat.le_refl _) (.cells #[.string QM, .string QT, f3, b3] 26)
      have hc3 := hb3.trans (ha3.mono hb3.size)
      have HB3 := Lib.hid (HB2.out.trans (hc3.mono HB2.out.size))
      have HX3 := Lib.hid (HX2.out.next hc3)
      have HF3 := Lib.hid (HF2.out.below hc3)
      have HY3 := Lib.hid (HY2.out.below hc3)
      have KX3 := Lib.hid (BoxQ.made w3 QM QT f3 b3)
      have KF3 := Lib.hid ((hf3.low (Nat.zero_le _)).below ha3)
      have KY3 := Lib.hid ((hy3.low (Nat.zero_le _)).below ha3)
      obtain ⟨fo3, fc3, rfl, _⟩ := hf3
      obtain ⟨bo3, bc3, rfl, _⟩ := hy3
      clear hb3 ha3 hc3 HB2 HX2 HF2 HY2
      go_wp2_with fail
      refine (c3 _ (Utf8Tabs_below HT.out HB3.out) (HE.out.below HB3.out)).mono ?_
      intro e w4 hh
      obtain ⟨hb4, f4, b4, rfl, hf4, hy4⟩ := HP.out _ _ _ hh
      clear hh c3
      have ha4 := (Below.refl w4.heap.size w4).alloc (Nat.le_refl _) (.cells #[.int .i64 PN, f4, b4] 31)
      have hc4 := hb4.trans (ha4.mono hb4.size)
      have HB4 := Lib.hid (HB3.out.trans (hc4.mono HB3.out.size))
      have HX4 := Lib.hid (HX3.out.next hc4)
      have HF4 := Lib.hid (HF3.out.below hc4)
      have HY4 := Lib.hid (HY3.out.below hc4)
      have KX4 := Lib.hid (KX3.out.next hc4)
      have KF4 := Lib.hid (KF3.out.below hc4)
      have KY4 := Lib.hid (KY3.out.below hc4)
      have LX4 := Lib.hid (BoxP.made w4 PN f4 b4)
      have LF4 := Lib.hid ((hf4.low (Nat.zero_le _)).below ha4)
      have LY4 := Lib.hid ((hy4.low (Nat.zero_le _)).below ha4)
      obtain ⟨fo4, fc4, rfl, _⟩ := hf4
      obtain ⟨bo4, bc4, rfl, _⟩ := hy4
      clear hb4 ha4 hc4 HB3 HX3 HF3 HY3 KX3 KF3 KY3
      go_wp2_with fail
      refine (c4 _).mono ?_
      intro e w5 hh
      obtain ⟨hb5, f5, b5, rfl, hf5, hy5⟩ := HP.out _ _ _ hh
      clear hh c4
      have ha5 := (Below.refl w5.heap.size w5).alloc (Nat.le_refl _) (.cells #[.int .i64 PN, f5, b5] 31)
      have hc5 := hb5.trans (ha5.mono hb5.size)
      have HB5 := Lib.hid (HB4.out.trans (hc5.mono HB4.out.size))
      have HX5 := Lib.hid (HX4.out.next hc5)
      have HF5 := Lib.hid (HF4.out.below hc5)
      have HY5 := Lib.hid (HY4.out.below hc5)
      have KX5 := Lib.hid (KX4.out.next hc5)
      have KF5 := Lib.hid (KF4.out.below hc5)
      have KY5 := Lib.hid (KY4.out.below hc5)
      have LX5 := Lib.hid (LX4.out.next hc5)
      have LF5 := Lib.hid (LF4.out.below hc5)
      have LY5 := Lib.hid (LY4.out.below hc5)
      have MX5 := Lib.hid (BoxP.made w5 PN f5 b5)
      have MF5 := Lib.hid ((hf5.low (Nat.zero_le _)).below ha5)
      have MY5 := Lib.hid ((hy5.low (Nat.zero_le _)).below ha5)
      obtain ⟨fo5, fc5, rfl, _⟩ := hf5
      obtain ⟨bo5, bc5, rfl, _⟩ := hy5
      clear hb5 ha5 hc5 HB4 HX4 HF4 HY4 KX4 KF4 KY4 LX4 LF4 LY4
      obtain ⟨x0, x1, x2, x3⟩ := HX5.out
      obtain ⟨y0, y1, y2, y3⟩ := KX5.out
      go_wp2_with fail
      refine (c5 _ _ _ _ _ HF5.out KF5.out HY5.out KY5.out).mono ?_
      rintro e w6 ⟨rfl, hb6⟩
      have HB6 := Lib.hid (HB5.out.trans (hb6.mono HB5.out.size))
      have hl6 := LX5.out.next hb6
      have hm6 := MX5.out.next hb6
      have LF6 := Lib.hid (LF5.out.below hb6)
      have LY6 := Lib.hid (LY5.out.below hb6)
      have MF6 := Lib.hid (MF5.out.below hb6)
      have MY6 := Lib.hid (MY5.out.below hb6)
      obtain ⟨u0, u1, u2⟩ := hl6
      obtain ⟨v0, v1, v2⟩ := hm6
      clear hb6 x0 x1 x2 x3 y0 y1 y2 y3 c5
      go_wp2_with fail
      refine (c6 _ _ _ _ _ LF6.out MF6.out LY6.out MY6.out).mono ?_
      rintro e w7 ⟨rfl, hb7⟩
      have HB7 := Lib.hid (HB6.out.trans (hb7.mono HB6.out.size))
      clear hb7 u0 u1 u2 v0 v1 v2 c6
      go_wp2_with fail
      go_ret
      exact ⟨rfl, HB7.out⟩

end Go.Proofs.YthbfcamfapgodaaGreatDoor
