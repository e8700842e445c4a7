/- The walk of the law ModernAlone. -/
import Derived.Test.YtpifbgefkbhopaaGreatDoorZMMoB
import Derived.Test.YtpifbgefkbhopaaGreatDoorZChsF
import Derived.Test.YtpifbgefkbhopaaGreatDoorZAloP
import Derived.Test.YtpifbgefkbhopaaGreatDoorZMHdC
import Derived.Test.YtpifbgefkbhopaaGreatDoorZHdM
import Derived.Deep.RegionHeld3

namespace Go.Proofs.YtpifbgefkbhopaaGreatDoor
open Go.RowKit Go.Lib

theorem strs_made (W : World) : StrsF (W.alloc (.cells #[.string ⟨#[99, 100, 110, 45, 99, 97, 99, 104, 101, 45, 99, 111, 110, 116, 114, 111, 108]⟩] 9)) (.slice (some ⟨W.heap.size, 0, none⟩) 1 1) [nCdn] := by
  refine ⟨_, 1, rfl, .inr ⟨W.heap.size, 0, rfl, by simp, fun j p hj => ?_⟩⟩
  match j, hj with
  | 0, hj =>
    obtain rfl := Option.some.inj hj
    simp
    rfl
  | j + 1, hj => cases hj

set_option maxRecDepth 100000 in
set_option maxHeartbeats 8000000 in
/-- Texts that are too long, or fields that are too many. -/
theorem malone_big (s : ByteArray) (v v2 : Value) (fs gs : List Fld) (w : World) (h : Flds 0 w v fs) (h2 : Flds 0 w v2 gs) (hk : FldsIn fs) (hk2 : FldsIn gs) (hA : Alph w) (hT : Tabs w) (hb : 500 < s.size ∨ 3000 < szH 0 fs ∨ 3000 < szH 0 gs) :
    Calls Tryz.prog 4 #[.string s, v, v2] w fun e w' => e = .returned (.bool true) ∧ Below w.heap.size w w' := by
  have cA := awake11_any w hA hT
  have cS := fun W (hb : Below w.heap.size w W) => rsize_any 0 v fs W (h.below hb) hk
  have cS2 := fun W (hb : Below w.heap.size w W) => rsize_any 0 v2 gs W (h2.below hb) hk2
  obtain ⟨ao, cap, rfl, _⟩ := id h
  obtain ⟨bo, bcap, rfl, _⟩ := id h2
  clear h hk hT hA h2 hk2
  by_cases hs : 500 < s.size
  · have d1 : (500 : Int) < (s.size : Int) := by omega
    clear hb
    go_enter Tryz.func4, Tryz.ntmps4
    go_wp2_with fail
    refine cA.mono ?_
    rintro e w1 ⟨rfl, hb1⟩
    clear cA cS cS2
    go_wp2_with fail
    go_ret
    exact ⟨rfl, hb1⟩
  · have d1 : ¬ (500 : Int) < (s.size : Int) := by omega
    by_cases hbf : 3000 < szH 0 fs
    · have d3 : (3000 : Int) < ((szH 0 fs : Nat) : Int) := by omega
      clear hb
      generalize szH 0 fs = Y at *
      go_enter Tryz.func4, Tryz.ntmps4
      go_wp2_with fail
      refine cA.mono ?_
      rintro e w1 ⟨rfl, hb1⟩
      have HB := Lib.hid hb1
      clear hb1 cA cS2
      go_wp2_with fail
      refine (cS _ HB.out).mono ?_
      rintro e w3 ⟨rfl, hb3⟩
      have HB3 := Lib.hid (HB.out.trans (hb3.mono HB.out.size))
      clear hb3 cS
      go_wp2_with fail
      go_ret
      exact ⟨rfl, HB3.out⟩
    · have d3 : ¬ (3000 : Int) < ((szH 0 fs : Nat) : Int) := by omega
      have d4 : (3000 : Int) < ((szH 0 gs : Nat) : Int) := by omega
      clear hb hbf hs
      generalize szH 0 fs = Y at *
      generalize szH 0 gs = Z at *
      go_enter Tryz.func4, Tryz.ntmps4
      go_wp2_with fail
      refine cA.mono ?_
      rintro e w1 ⟨rfl, hb1⟩
      have HB := Lib.hid hb1
      clear hb1 cA
      go_wp2_with fail
      refine (cS _ HB.out).mono ?_
      rintro e w3 ⟨rfl, hb3⟩
      have HB3 := Lib.hid (HB.out.trans (hb3.mono HB.out.size))
      clear hb3 cS
      go_wp2_with fail
      refine (cS2 _ HB3.out).mono ?_
      rintro e w4 ⟨rfl, hb4⟩
      have HB4 := Lib.hid (HB3.out.trans (hb4.mono HB3.out.size))
      clear hb4 cS2
      go_wp2_with fail
      go_ret
      exact ⟨rfl, HB4.out⟩

set_option maxRecDepth 100000 in
set_option maxHeartbeats 40000000 in
theorem malone_yes (t : List UInt8) (v v2 : Value) (fs gs : List Fld) (w : World) (h : Flds 0 w v fs) (h2 : Flds 0 w v2 gs) (hk : FldsIn fs) (hk2 : FldsIn gs) (hA : Alph w) (hT : Tabs w) (hs : t.length ≤ 500) (hf : szH 0 fs ≤ 3000) (hg : szH 0 gs ≤ 3000) (es : List Ent) (hm : modL t = some es) :
    Calls Tryz.prog 4 #[.string (strB t), v, v2] w fun e w' => e = .returned (.bool true) ∧ Below w.heap.size w w' := by
  have cA := awake11_any w hA hT
  have cS := fun W (hb : Below w.heap.size w W) => rsize_any 0 v fs W (h.below hb) hk
  have cS2 := fun W (hb : Below w.heap.size w W) => rsize_any 0 v2 gs W (h2.below hb) hk2
  obtain ⟨hfo, hpr⟩ := szH_ok fs (by omega)
  obtain ⟨hfo2, hpr2⟩ := szH_ok gs (by omega)
  have HF := Lib.hid h
  have HF2 := Lib.hid h2
  have HT := Lib.hid hT
  have HA := Lib.hid hA
  obtain ⟨ao, cap, rfl, _⟩ := id h
  obtain ⟨bo, bcap, rfl, _⟩ := id h2
  have d1 : ¬ (500 : Int) < ((strB t).size : Int) := by rw [strB_size]; omega
  have d3 : ¬ (3000 : Int) < ((szH 0 fs : Nat) : Int) := by omega
  have d4 : ¬ (3000 : Int) < ((szH 0 gs : Nat) : Int) := by omega
  have cW := fun W v2 (hb : Below w.heap.size w W) (h2 : StrsF W v2 [nCdn]) => hwithout_any 0 (.slice ao fs.length cap) v2 fs [nCdn] W (HF.out.below hb) h2 hfo (by decide) (by decide)
  have cW2 := fun W v2 (hb : Below w.heap.size w W) (h2 : StrsF W v2 [nCdn]) => hwithout_any 0 (.slice bo gs.length bcap) v2 gs [nCdn] W (HF2.out.below hb) h2 hfo2 (by decide) (by decide)
  have cP := fun W h => mparse_any (strB t) W (by rw [strB_size]; omega) h
  simp only [strB_data] at cP
  have hwo := (without_ok fs hfo hpr).1
  have hwo2 := (without_ok gs hfo2 hpr2).1
  have cV := fun u W (h : Flds 0 W u (withoutH fs [nCdn])) => hwith_any 0 u (withoutH fs [nCdn]) (nCdn, t) W h hwo.1
  have cV2 := fun u W (h : Flds 0 W u (withoutH gs [nCdn])) => hwith_any 0 u (withoutH gs [nCdn]) (nCdn, t) W h hwo2.1
  have cC := fun u W (h : Flds 0 W u (tgtF fs t)) ha ht => mchoose_any 0 u (tgtF fs t) W h (tgt_ok fs t hfo hpr (by omega)).1 (tgt_ok fs t hfo hpr (by omega)).2 ha ht
  have cC2 := fun u W (h : Flds 0 W u (tgtF gs t)) ha ht => mchoose_any 0 u (tgtF gs t) W h (tgt_ok gs t hfo2 hpr2 (by omega)).1 (tgt_ok gs t hfo2 hpr2 (by omega)).2 ha ht
  rw [alone_yes fs t es hm] at cC
  rw [alone_yes gs t es hm] at cC2
  unfold modA_ModA at cP
  rw [hm] at cP
  simp only [Option.isSome_some] at cP
  obtain ⟨b0, b1, b2, b3, b4, b5, b6, b7, k0, k1, k2, k3, k4, hR⟩ := rulO_form_ModA (some es)
  have hR2 : rulM es = .agg #[.bool b0, .bool b1, .bool b2, .bool b3, .bool b4, .bool b5, .bool b6, .bool b7, .int .i64 k0, .int .i64 k1, .int .i64 k2, .int .i64 k3, .int .i64 k4] := hR
  rw [hR] at cP
  rw [hR2] at cC cC2
  clear hR hR2 hm
  have HL := Lib.hid hs
  generalize szH 0 fs = Y at *
  generalize szH 0 gs = Z at *
  have e1 : strB nCdn = (⟨#[99, 100, 110, 45, 99, 97, 99, 104, 101, 45, 99, 111, 110, 116, 114, 111, 108]⟩ : ByteArray) := rfl
  simp only [e1] at cV cV2
  have HT1 : Hid (tgtF fs t = withoutH fs [nCdn] ++ [(nCdn, t)]) := Lib.hid rfl
  have HT2 : Hid (tgtF gs t = withoutH gs [nCdn] ++ [(nCdn, t)]) := Lib.hid rfl
  rw [← HT1.out] at cV
  rw [← HT2.out] at cV2
  generalize withoutH fs [nCdn] = fs1 at *
  generalize withoutH gs [nCdn] = gs1 at *
  generalize tgtF fs t = fs2 at *
  generalize tgtF gs t = gs2 at *
  clear HT1 HT2 e1 hf hg hfo hfo2 hpr hpr2 hwo hwo2 hs h h2 hk hk2 hA hT
  generalize strB t = ST at *
  go_enter Tryz.func4, Tryz.ntmps4
  go_wp2_with fail
  refine cA.mono ?_
  rintro e w1 ⟨rfl, hb⟩
  have HB := Lib.hid hb
  clear hb cA
  go_wp2_with fail
  refine (cS _ HB.out).mono ?_
  rintro e w2 ⟨rfl, hb⟩
  have HB := Lib.hid (HB.out.trans (hb.mono HB.out.size))
  clear hb cS
  go_wp2_with fail
  refine (cS2 _ HB.out).mono ?_
  rintro e w3 ⟨rfl, hb⟩
  have HB := Lib.hid (HB.out.trans (hb.mono HB.out.size))
  clear hb cS2
  go_wp2_with fail
  have hst := strs_made w3
  have HB := Lib.hid (HB.out.alloc HB.out.size (.cells #[.string ⟨#[99, 100, 110, 45, 99, 97, 99, 104, 101, 45, 99, 111, 110, 116, 114, 111, 108]⟩] 9))
  refine (cW _ _ HB.out hst).mono ?_
  rintro e w4 ⟨⟨u, rfl, hu⟩, hb⟩
  have HB := Lib.hid (HB.out.trans (hb.mono HB.out.size))
  have HF1 := Lib.hid (Flds.of_own (fs := fs1) hu (Nat.zero_le _))
  obtain ⟨uo, uc, rfl⟩ := owns_formF hu
  clear hb cW hst hu
  go_wp2_with fail
  have hst := strs_made w4
  have hal := (Below.refl w4.heap.size w4).alloc (Nat.le_refl _) (.cells #[.string ⟨#[99, 100, 110, 45, 99, 97, 99, 104, 101, 45, 99, 111, 110, 116, 114, 111, 108]⟩] 9)
  have HB := Lib.hid (HB.out.trans (hal.mono HB.out.size))
  have HF1 := Lib.hid (HF1.out.below hal)
  refine (cW2 _ _ HB.out hst).mono ?_
  rintro e w5 ⟨⟨u, rfl, hu⟩, hb⟩
  have HB := Lib.hid (HB.out.trans (hb.mono HB.out.size))
  have HF1 := Lib.hid (HF1.out.below hb)
  have HG1 := Lib.hid (Flds.of_own (fs := gs1) hu (Nat.zero_le _))
  obtain ⟨xo, xc, rfl⟩ := owns_formF hu
  clear hb cW2 hst hu hal
  go_wp2_with fail
  refine (cP _ (HA.out.below HB.out)).mono ?_
  rintro e w6 ⟨rfl, hb⟩
  have HB := Lib.hid (HB.out.trans (hb.mono HB.out.size))
  have HF1 := Lib.hid (HF1.out.below hb)
  have HG1 := Lib.hid (HG1.out.below hb)
  have H1 := Lib.hid (BoxN.made w6 [.bool b0, .bool b1, .bool b2, .bool b3, .bool b4, .bool b5, .bool b6, .bool b7, .int .i64 k0, .int .i64 k1, .int .i64 k2, .int .i64 k3, .int .i64 k4] 26)
  have hal := (Below.refl w6.heap.size w6).alloc (Nat.le_refl _) (.cells #[.bool b0, .bool b1, .bool b2, .bool b3, .bool b4, .bool b5, .bool b6, .bool b7, .int .i64 k0, .int .i64 k1, .int .i64 k2, .int .i64 k3, .int .i64 k4] 26)
  have HB := Lib.hid (HB.out.trans (hal.mono HB.out.size))
  have HF1 := Lib.hid (HF1.out.below hal)
  have HG1 := Lib.hid (HG1.out.below hal)
  clear hb hal cP
  go_wp2_with fail
  generalize w6.alloc (.cells #[.bool b0, .bool b1, .bool b2, .bool b3, .bool b4, .bool b5, .bool b6, .bool b7, .int .i64 k0, .int .i64 k1, .int .i64 k2, .int .i64 k3, .int .i64 k4] 26) = U1 at *
  generalize w6.heap.size = C1 at *
  refine (cV _ _ HF1.out).mono ?_
  rintro e w7 ⟨⟨u, rfl, hu⟩, hb⟩
  have HB := Lib.hid (HB.out.trans (hb.mono HB.out.size))
  have HF1 := Lib.hid (HF1.out.below hb)
  have HG1 := Lib.hid (HG1.out.below hb)
  have H1 := Lib.hid (H1.out.next hb)
  have hcc := cC _ _ (Flds.of_own (fs := fs2) hu (Nat.zero_le _)) (HA.out.below HB.out) (Utf8Tabs_below HT.out HB.out)
  obtain ⟨yo, yc, rfl⟩ := owns_formF hu
  clear hb hu cV cC
  go_wp2_with fail
  refine hcc.mono ?_
  rintro e w8 ⟨rfl, hb⟩
  have HB := Lib.hid (HB.out.trans (hb.mono HB.out.size))
  have HF1 := Lib.hid (HF1.out.below hb)
  have HG1 := Lib.hid (HG1.out.below hb)
  have H1 := Lib.hid (H1.out.next hb)
  have H2 := Lib.hid (BoxN.made w8 [.bool b0, .bool b1, .bool b2, .bool b3, .bool b4, .bool b5, .bool b6, .bool b7, .int .i64 k0, .int .i64 k1, .int .i64 k2, .int .i64 k3, .int .i64 k4] 26)
  have hal := (Below.refl w8.heap.size w8).alloc (Nat.le_refl _) (.cells #[.bool b0, .bool b1, .bool b2, .bool b3, .bool b4, .bool b5, .bool b6, .bool b7, .int .i64 k0, .int .i64 k1, .int .i64 k2, .int .i64 k3, .int .i64 k4] 26)
  have HB := Lib.hid (HB.out.trans (hal.mono HB.out.size))
  have HF1 := Lib.hid (HF1.out.below hal)
  have HG1 := Lib.hid (HG1.out.below hal)
  have H1 := Lib.hid (H1.out.next hal)
  clear hb hal hcc
  go_wp2_with fail
  generalize w8.alloc (.cells #[.bool b0, .bool b1, .bool b2, .bool b3, .bool b4, .bool b5, .bool b6, .bool b7, .int .i64 k0, .int .i64 k1, .int .i64 k2, .int .i64 k3, .int .i64 k4] 26) = UH2 at *
  generalize w8.heap.size = CH2 at *
  refine (cV2 _ _ HG1.out).mono ?_
  rintro e w9 ⟨⟨u, rfl, hu⟩, hb⟩
  have HB := Lib.hid (HB.out.trans (hb.mono HB.out.size))
  have HF1 := Lib.hid (HF1.out.below hb)
  have HG1 := Lib.hid (HG1.out.below hb)
  have H1 := Lib.hid (H1.out.next hb)
  have H2 := Lib.hid (H2.out.next hb)
  have hcc := cC2 _ _ (Flds.of_own (fs := gs2) hu (Nat.zero_le _)) (HA.out.below HB.out) (Utf8Tabs_below HT.out HB.out)
  obtain ⟨yo, yc, rfl⟩ := owns_formF hu
  clear hb hu cV2 cC2
  go_wp2_with fail
  refine hcc.mono ?_
  rintro e w10 ⟨rfl, hb⟩
  have HB := Lib.hid (HB.out.trans (hb.mono HB.out.size))
  have HF1 := Lib.hid (HF1.out.below hb)
  have HG1 := Lib.hid (HG1.out.below hb)
  have H1 := Lib.hid (H1.out.next hb)
  have H2 := Lib.hid (H2.out.next hb)
  have hl1 := H1.out.1
  have hl2 := H2.out.1
  have x0_0 := (H1.out.2 0 _ rfl).1
  have x0_1 := (H1.out.2 1 _ rfl).1
  have x0_2 := (H1.out.2 2 _ rfl).1
  have x0_3 := (H1.out.2 3 _ rfl).1
  have x0_4 := (H1.out.2 4 _ rfl).1
  have x0_5 := (H1.out.2 5 _ rfl).1
  have x0_6 := (H1.out.2 6 _ rfl).1
  have x0_7 := (H1.out.2 7 _ rfl).1
  have x0_8 := (H1.out.2 8 _ rfl).1
  have x0_9 := (H1.out.2 9 _ rfl).1
  have x0_10 := (H1.out.2 10 _ rfl).1
  have x0_11 := (H1.out.2 11 _ rfl).1
  have x0_12 := (H1.out.2 12 _ rfl).1
  have x1_0 := (H2.out.2 0 _ rfl).1
  have x1_1 := (H2.out.2 1 _ rfl).1
  have x1_2 := (H2.out.2 2 _ rfl).1
  have x1_3 := (H2.out.2 3 _ rfl).1
  have x1_4 := (H2.out.2 4 _ rfl).1
  have x1_5 := (H2.out.2 5 _ rfl).1
  have x1_6 := (H2.out.2 6 _ rfl).1
  have x1_7 := (H2.out.2 7 _ rfl).1
  have x1_8 := (H2.out.2 8 _ rfl).1
  have x1_9 := (H2.out.2 9 _ rfl).1
  have x1_10 := (H2.out.2 10 _ rfl).1
  have x1_11 := (H2.out.2 11 _ rfl).1
  have x1_12 := (H2.out.2 12 _ rfl).1
  have HB9 := Lib.hid (HB.out.alloc HB.out.size (.cells #[.bool b0, .bool b1, .bool b2, .bool b3, .bool b4, .bool b5, .bool b6, .bool b7, .int .i64 k0, .int .i64 k1, .int .i64 k2, .int .i64 k3, .int .i64 k4] 26))
  clear hb hcc
  go_wp2_with fail
  go_ret
  exact ⟨rfl, HB9.out⟩

set_option maxRecDepth 100000 in
set_option maxHeartbeats 40000000 in
theorem malone_no (t : List UInt8) (v v2 : Value) (fs gs : List Fld) (w : World) (h : Flds 0 w v fs) (h2 : Flds 0 w v2 gs) (hk : FldsIn fs) (hk2 : FldsIn gs) (hA : Alph w) (hT : Tabs w) (hs : t.length ≤ 500) (hf : szH 0 fs ≤ 3000) (hg : szH 0 gs ≤ 3000) (hm : modL t = none) :
    Calls Tryz.prog 4 #[.string (strB t), v, v2] w fun e w' => e = .returned (.bool true) ∧ Below w.heap.size w w' := by
  have cA := awake11_any w hA hT
  have cS := fun W (hb : Below w.heap.size w W) => rsize_any 0 v fs W (h.below hb) hk
  have cS2 := fun W (hb : Below w.heap.size w W) => rsize_any 0 v2 gs W (h2.below hb) hk2
  obtain ⟨hfo, hpr⟩ := szH_ok fs (by omega)
  obtain ⟨hfo2, hpr2⟩ := szH_ok gs (by omega)
  have HF := Lib.hid h
  have HF2 := Lib.hid h2
  have HT := Lib.hid hT
  have HA := Lib.hid hA
  obtain ⟨ao, cap, rfl, _⟩ := id h
  obtain ⟨bo, bcap, rfl, _⟩ := id h2
  have d1 : ¬ (500 : Int) < ((strB t).size : Int) := by rw [strB_size]; omega
  have d3 : ¬ (3000 : Int) < ((szH 0 fs : Nat) : Int) := by omega
  have d4 : ¬ (3000 : Int) < ((szH 0 gs : Nat) : Int) := by omega
  have cW := fun W v2 (hb : Below w.heap.size w W) (h2 : StrsF W v2 [nCdn]) => hwithout_any 0 (.slice ao fs.length cap) v2 fs [nCdn] W (HF.out.below hb) h2 hfo (by decide) (by decide)
  have cW2 := fun W v2 (hb : Below w.heap.size w W) (h2 : StrsF W v2 [nCdn]) => hwithout_any 0 (.slice bo gs.length bcap) v2 gs [nCdn] W (HF2.out.below hb) h2 hfo2 (by decide) (by decide)
  have cP := fun W h => mparse_any (strB t) W (by rw [strB_size]; omega) h
  simp only [strB_data] at cP
  have hwo := (without_ok fs hfo hpr).1
  have hwo2 := (without_ok gs hfo2 hpr2).1
  have cV := fun u W (h : Flds 0 W u (withoutH fs [nCdn])) => hwith_any 0 u (withoutH fs [nCdn]) (nCdn, t) W h hwo.1
  have cV2 := fun u W (h : Flds 0 W u (withoutH gs [nCdn])) => hwith_any 0 u (withoutH gs [nCdn]) (nCdn, t) W h hwo2.1
  have cC := fun u W (h : Flds 0 W u (tgtF fs t)) ha ht => mchoose_any 0 u (tgtF fs t) W h (tgt_ok fs t hfo hpr (by omega)).1 (tgt_ok fs t hfo hpr (by omega)).2 ha ht
  have cC2 := fun u W (h : Flds 0 W u (tgtF gs t)) ha ht => mchoose_any 0 u (tgtF gs t) W h (tgt_ok gs t hfo2 hpr2 (by omega)).1 (tgt_ok gs t hfo2 hpr2 (by omega)).2 ha ht
  have cC3 := fun u W (h : Flds 0 W u (withoutH fs [nCdn])) ha ht => mchoose_any 0 u (withoutH fs [nCdn]) W h hwo (without_ok fs hfo hpr).2 ha ht
  have cN := none_any
  rw [rulV_none] at cN
  rw [alone_no fs t hm] at cC
  rw [alone_no gs t hm] at cC2
  unfold modA_ModA at cP
  rw [hm, rulO, rulV_none] at cP
  simp only [Option.isSome_none] at cP
  obtain ⟨b0, b1, b2, b3, b4, b5, b6, b7, k0, k1, k2, k3, k4, at1, hR⟩ := chsA_form_ChsF (withoutH fs [nCdn])
  obtain ⟨c0, c1, c2, c3, c4, c5, c6, c7, m0, m1, m2, m3, m4, at2, hR2⟩ := chsA_form_ChsF (withoutH gs [nCdn])
  rw [hR] at cC cC3
  rw [hR2] at cC2
  clear hR hR2 hm
  have HL := Lib.hid hs
  generalize szH 0 fs = Y at *
  generalize szH 0 gs = Z at *
  have e1 : strB nCdn = (⟨#[99, 100, 110, 45, 99, 97, 99, 104, 101, 45, 99, 111, 110, 116, 114, 111, 108]⟩ : ByteArray) := rfl
  simp only [e1] at cV cV2
  have HT1 : Hid (tgtF fs t = withoutH fs [nCdn] ++ [(nCdn, t)]) := Lib.hid rfl
  have HT2 : Hid (tgtF gs t = withoutH gs [nCdn] ++ [(nCdn, t)]) := Lib.hid rfl
  rw [← HT1.out] at cV
  rw [← HT2.out] at cV2
  generalize withoutH fs [nCdn] = fs1 at *
  generalize withoutH gs [nCdn] = gs1 at *
  generalize tgtF fs t = fs2 at *
  generalize tgtF gs t = gs2 at *
  clear HT1 HT2 e1 hf hg hfo hfo2 hpr hpr2 hwo hwo2 hs h h2 hk hk2 hA hT
  generalize strB t = ST at *
  go_enter Tryz.func4, Tryz.ntmps4
  go_wp2_with fail
  refine cA.mono ?_
  rintro e w1 ⟨rfl, hb⟩
  have HB := Lib.hid hb
  clear hb cA
  go_wp2_with fail
  refine (cS _ HB.out).mono ?_
  rintro e w2 ⟨rfl, hb⟩
  have HB := Lib.hid (HB.out.trans (hb.mono HB.out.size))
  clear hb cS
  go_wp2_with fail
  refine (cS2 _ HB.out).mono ?_
  rintro e w3 ⟨rfl, hb⟩
  have HB := Lib.hid (HB.out.trans (hb.mono HB.out.size))
  clear hb cS2
  go_wp2_with fail
  have hst := strs_made w3
  have HB := Lib.hid (HB.out.alloc HB.out.size (.cells #[.string ⟨#[99, 100, 110, 45, 99, 97, 99, 104, 101, 45, 99, 111, 110, 116, 114, 111, 108]⟩] 9))
  refine (cW _ _ HB.out hst).mono ?_
  rintro e w4 ⟨⟨u, rfl, hu⟩, hb⟩
  have HB := Lib.hid (HB.out.trans (hb.mono HB.out.size))
  have HF1 := Lib.hid (Flds.of_own (fs := fs1) hu (Nat.zero_le _))
  obtain ⟨uo, uc, rfl⟩ := owns_formF hu
  clear hb cW hst hu
  go_wp2_with fail
  have hst := strs_made w4
  have hal := (Below.refl w4.heap.size w4).alloc (Nat.le_refl _) (.cells #[.string ⟨#[99, 100, 110, 45, 99, 97, 99, 104, 101, 45, 99, 111, 110, 116, 114, 111, 108]⟩] 9)
  have HB := Lib.hid (HB.out.trans (hal.mono HB.out.size))
  have HF1 := Lib.hid (HF1.out.below hal)
  refine (cW2 _ _ HB.out hst).mono ?_
  rintro e w5 ⟨⟨u, rfl, hu⟩, hb⟩
  have HB := Lib.hid (HB.out.trans (hb.mono HB.out.size))
  have HF1 := Lib.hid (HF1.out.below hb)
  have HG1 := Lib.hid (Flds.of_own (fs := gs1) hu (Nat.zero_le _))
  obtain ⟨xo, xc, rfl⟩ := owns_formF hu
  clear hb cW2 hst hu hal
  go_wp2_with fail
  refine (cP _ (HA.out.below HB.out)).mono ?_
  rintro e w6 ⟨rfl, hb⟩
  have HB := Lib.hid (HB.out.trans (hb.mono HB.out.size))
  have HF1 := Lib.hid (HF1.out.below hb)
  have HG1 := Lib.hid (HG1.out.below hb)
  have H1 := Lib.hid (BoxN.made w6 [.bool false, .bool false, .bool false, .bool false, .bool false, .bool false, .bool false, .bool false, .int .i64 (-1), .int .i64 (-1), .int .i64 (-1), .int .i64 (-1), .int .i64 (-1)] 26)
  have hal := (Below.refl w6.heap.size w6).alloc (Nat.le_refl _) (.cells #[.bool false, .bool false, .bool false, .bool false, .bool false, .bool false, .bool false, .bool false, .int .i64 (-1), .int .i64 (-1), .int .i64 (-1), .int .i64 (-1), .int .i64 (-1)] 26)
  have HB := Lib.hid (HB.out.trans (hal.mono HB.out.size))
  have HF1 := Lib.hid (HF1.out.below hal)
  have HG1 := Lib.hid (HG1.out.below hal)
  clear hb hal cP
  go_wp2_with fail
  generalize w6.alloc (.cells #[.bool false, .bool false, .bool false, .bool false, .bool false, .bool false, .bool false, .bool false, .int .i64 (-1), .int .i64 (-1), .int .i64 (-1), .int .i64 (-1), .int .i64 (-1)] 26) = U1 at *
  generalize w6.heap.size = C1 at *
  refine (cV _ _ HF1.out).mono ?_
  rintro e w7 ⟨⟨u, rfl, hu⟩, hb⟩
  have HB := Lib.hid (HB.out.trans (hb.mono HB.out.size))
  have HF1 := Lib.hid (HF1.out.below hb)
  have HG1 := Lib.hid (HG1.out.below hb)
  have H1 := Lib.hid (H1.out.next hb)
  have hcc := cC _ _ (Flds.of_own (fs := fs2) hu (Nat.zero_le _)) (HA.out.below HB.out) (Utf8Tabs_below HT.out HB.out)
  obtain ⟨yo, yc, rfl⟩ := owns_formF hu
  clear hb hu cV cC
  go_wp2_with fail
  refine hcc.mono ?_
  rintro e w8 ⟨rfl, hb⟩
  have HB := Lib.hid (HB.out.trans (hb.mono HB.out.size))
  have HF1 := Lib.hid (HF1.out.below hb)
  have HG1 := Lib.hid (HG1.out.below hb)
  have H1 := Lib.hid (H1.out.next hb)
  have H2 := Lib.hid (BoxN.made w8 [.bool b0, .bool b1, .bool b2, .bool b3, .bool b4, .bool b5, .bool b6, .bool b7, .int .i64 k0, .int .i64 k1, .int .i64 k2, .int .i64 k3, .int .i64 k4] 26)
  have hal := (Below.refl w8.heap.size w8).alloc (Nat.le_refl _) (.cells #[.bool b0, .bool b1, .bool b2, .bool b3, .bool b4, .bool b5, .bool b6, .bool b7, .int .i64 k0, .int .i64 k1, .int .i64 k2, .int .i64 k3, .int .i64 k4] 26)
  have HB := Lib.hid (HB.out.trans (hal.mono HB.out.size))
  have HF1 := Lib.hid (HF1.out.below hal)
  have HG1 := Lib.hid (HG1.out.below hal)
  have H1 := Lib.hid (H1.out.next hal)
  clear hb hal hcc
  go_wp2_with fail
  generalize w8.alloc (.cells #[.bool b0, .bool b1, .bool b2, .bool b3, .bool b4, .bool b5, .bool b6, .bool b7, .int .i64 k0, .int .i64 k1, .int .i64 k2, .int .i64 k3, .int .i64 k4] 26) = UH2 at *
  generalize w8.heap.size = CH2 at *
  refine (cV2 _ _ HG1.out).mono ?_
  rintro e w9 ⟨⟨u, rfl, hu⟩, hb⟩
  have HB := Lib.hid (HB.out.trans (hb.mono HB.out.size))
  have HF1 := Lib.hid (HF1.out.below hb)
  have HG1 := Lib.hid (HG1.out.below hb)
  have H1 := Lib.hid (H1.out.next hb)
  have H2 := Lib.hid (H2.out.next hb)
  have hcc := cC2 _ _ (Flds.of_own (fs := gs2) hu (Nat.zero_le _)) (HA.out.below HB.out) (Utf8Tabs_below HT.out HB.out)
  obtain ⟨yo, yc, rfl⟩ := owns_formF hu
  clear hb hu cV2 cC2
  go_wp2_with fail
  refine hcc.mono ?_
  rintro e w10 ⟨rfl, hb⟩
  have HB := Lib.hid (HB.out.trans (hb.mono HB.out.size))
  have HF1 := Lib.hid (HF1.out.below hb)
  have HG1 := Lib.hid (HG1.out.below hb)
  have H1 := Lib.hid (H1.out.next hb)
  have H2 := Lib.hid (H2.out.next hb)
  have H3 := Lib.hid (BoxN.made w10 [.bool c0, .bool c1, .bool c2, .bool c3, .bool c4, .bool c5, .bool c6, .bool c7, .int .i64 m0, .int .i64 m1, .int .i64 m2, .int .i64 m3, .int .i64 m4] 26)
  have hal := (Below.refl w10.heap.size w10).alloc (Nat.le_refl _) (.cells #[.bool c0, .bool c1, .bool c2, .bool c3, .bool c4, .bool c5, .bool c6, .bool c7, .int .i64 m0, .int .i64 m1, .int .i64 m2, .int .i64 m3, .int .i64 m4] 26)
  have HB := Lib.hid (HB.out.trans (hal.mono HB.out.size))
  have HF1 := Lib.hid (HF1.out.below hal)
  have HG1 := Lib.hid (HG1.out.below hal)
  have H1 := Lib.hid (H1.out.next hal)
  have H2 := Lib.hid (H2.out.next hal)
  clear hb hal hcc
  go_wp2_with fail
  generalize w10.alloc (.cells #[.bool c0, .bool c1, .bool c2, .bool c3, .bool c4, .bool c5, .bool c6, .bool c7, .int .i64 m0, .int .i64 m1, .int .i64 m2, .int .i64 m3, .int .i64 m4] 26) = UH3 at *
  generalize w10.heap.size = CH3 at *
  refine (cC3 _ _ HF1.out (HA.out.below HB.out) (Utf8Tabs_below HT.out HB.out)).mono ?_
  rintro e w11 ⟨rfl, hb⟩
  have HB := Lib.hid (HB.out.trans (hb.mono HB.out.size))
  have H1 := Lib.hid (H1.out.next hb)
  have H2 := Lib.hid (H2.out.next hb)
  have H4 := Lib.hid (BoxN.made w11 [.bool b0, .bool b1, .bool b2, .bool b3, .bool b4, .bool b5, .bool b6, .bool b7, .int .i64 k0, .int .i64 k1, .int .i64 k2, .int .i64 k3, .int .i64 k4] 26)
  have hal := (Below.refl w11.heap.size w11).alloc (Nat.le_refl _) (.cells #[.bool b0, .bool b1, .bool b2, .bool b3, .bool b4, .bool b5, .bool b6, .bool b7, .int .i64 k0, .int .i64 k1, .int .i64 k2, .int .i64 k3, .int .i64 k4] 26)
  have HB := Lib.hid (HB.out.trans (hal.mono HB.out.size))
  have H1 := Lib.hid (H1.out.next hal)
  have H2 := Lib.hid (H2.out.next hal)
  clear hb hal cC3
  go_wp2_with fail
  generalize w11.alloc (.cells #[.bool b0, .bool b1, .bool b2, .bool b3, .bool b4, .bool b5, .bool b6, .bool b7, .int .i64 k0, .int .i64 k1, .int .i64 k2, .int .i64 k3, .int .i64 k4] 26) = U4 at *
  generalize w11.heap.size = C4 at *
  have H1d := Lib.hid (H1.out.next ((Below.refl U4.heap.size U4).drew))
  have H2d := Lib.hid (H2.out.next ((Below.refl U4.heap.size U4).drew))
  have H4d := Lib.hid (H4.out.next ((Below.refl U4.heap.size U4).drew))
  have HBd := Lib.hid HB.out.drew
  clear HF1 HG1 HA HT H3
  go_region_held3 (fun w' => w'.cell? ⟨C1, 0, none⟩ = some (.bool false) ∧ w'.cell? ⟨C1, 1, none⟩ = some (.bool false) ∧ w'.cell? ⟨C1, 2, none⟩ = some (.bool false) ∧ w'.cell? ⟨C1, 3, none⟩ = some (.bool false) ∧ w'.cell? ⟨C1, 4, none⟩ = some (.bool false) ∧ w'.cell? ⟨C1, 5, none⟩ = some (.bool false) ∧ w'.cell? ⟨C1, 6, none⟩ = some (.bool false) ∧ w'.cell? ⟨C1, 7, none⟩ = some (.bool false) ∧ w'.cell? ⟨C1, 8, none⟩ = some (.int .i64 (-1)) ∧ w'.cell? ⟨C1, 9, none⟩ = some (.int .i64 (-1)) ∧ w'.cell? ⟨C1, 10, none⟩ = some (.int .i64 (-1)) ∧ w'.cell? ⟨C1, 11, none⟩ = some (.int .i64 (-1)) ∧ w'.cell? ⟨C1, 12, none⟩ = some (.int .i64 (-1)) ∧ w'.cell? ⟨CH2, 0, none⟩ = some (.bool b0) ∧ w'.cell? ⟨CH2, 1, none⟩ = some (.bool b1) ∧ w'.cell? ⟨CH2, 2, none⟩ = some (.bool b2) ∧ w'.cell? ⟨CH2, 3, none⟩ = some (.bool b3) ∧ w'.cell? ⟨CH2, 4, none⟩ = some (.bool b4) ∧ w'.cell? ⟨CH2, 5, none⟩ = some (.bool b5) ∧ w'.cell? ⟨CH2, 6, none⟩ = some (.bool b6) ∧ w'.cell? ⟨CH2, 7, none⟩ = some (.bool b7) ∧ w'.cell? ⟨CH2, 8, none⟩ = some (.int .i64 k0) ∧ w'.cell? ⟨CH2, 9, none⟩ = some (.int .i64 k1) ∧ w'.cell? ⟨CH2, 10, none⟩ = some (.int .i64 k2) ∧ w'.cell? ⟨CH2, 11, none⟩ = some (.int .i64 k3) ∧ w'.cell? ⟨CH2, 12, none⟩ = some (.int .i64 k4) ∧ w'.cell? ⟨C4, 0, none⟩ = some (.bool b0) ∧ w'.cell? ⟨C4, 1, none⟩ = some (.bool b1) ∧ w'.cell? ⟨C4, 2, none⟩ = some (.bool b2) ∧ w'.cell? ⟨C4, 3, none⟩ = some (.bool b3) ∧ w'.cell? ⟨C4, 4, none⟩ = some (.bool b4) ∧ w'.cell? ⟨C4, 5, none⟩ = some (.bool b5) ∧ w'.cell? ⟨C4, 6, none⟩ = some (.bool b6) ∧ w'.cell? ⟨C4, 7, none⟩ = some (.bool b7) ∧ w'.cell? ⟨C4, 8, none⟩ = some (.int .i64 k0) ∧ w'.cell? ⟨C4, 9, none⟩ = some (.int .i64 k1) ∧ w'.cell? ⟨C4, 10, none⟩ = some (.int .i64 k2) ∧ w'.cell? ⟨C4, 11, none⟩ = some (.int .i64 k3) ∧ w'.cell? ⟨C4, 12, none⟩ = some (.int .i64 k4))
      (first | exact ⟨(H1.out.2 0 _ rfl).1, (H1.out.2 1 _ rfl).1, (H1.out.2 2 _ rfl).1, (H1.out.2 3 _ rfl).1, (H1.out.2 4 _ rfl).1, (H1.out.2 5 _ rfl).1, (H1.out.2 6 _ rfl).1, (H1.out.2 7 _ rfl).1, (H1.out.2 8 _ rfl).1, (H1.out.2 9 _ rfl).1, (H1.out.2 10 _ rfl).1, (H1.out.2 11 _ rfl).1, (H1.out.2 12 _ rfl).1, (H2.out.2 0 _ rfl).1, (H2.out.2 1 _ rfl).1, (H2.out.2 2 _ rfl).1, (H2.out.2 3 _ rfl).1, (H2.out.2 4 _ rfl).1, (H2.out.2 5 _ rfl).1, (H2.out.2 6 _ rfl).1, (H2.out.2 7 _ rfl).1, (H2.out.2 8 _ rfl).1, (H2.out.2 9 _ rfl).1, (H2.out.2 10 _ rfl).1, (H2.out.2 11 _ rfl).1, (H2.out.2 12 _ rfl).1, (H4.out.2 0 _ rfl).1, (H4.out.2 1 _ rfl).1, (H4.out.2 2 _ rfl).1, (H4.out.2 3 _ rfl).1, (H4.out.2 4 _ rfl).1, (H4.out.2 5 _ rfl).1, (H4.out.2 6 _ rfl).1, (H4.out.2 7 _ rfl).1, (H4.out.2 8 _ rfl).1, (H4.out.2 9 _ rfl).1, (H4.out.2 10 _ rfl).1, (H4.out.2 11 _ rfl).1, (H4.out.2 12 _ rfl).1⟩ | exact ⟨(H1d.out.2 0 _ rfl).1, (H1d.out.2 1 _ rfl).1, (H1d.out.2 2 _ rfl).1, (H1d.out.2 3 _ rfl).1, (H1d.out.2 4 _ rfl).1, (H1d.out.2 5 _ rfl).1, (H1d.out.2 6 _ rfl).1, (H1d.out.2 7 _ rfl).1, (H1d.out.2 8 _ rfl).1, (H1d.out.2 9 _ rfl).1, (H1d.out.2 10 _ rfl).1, (H1d.out.2 11 _ rfl).1, (H1d.out.2 12 _ rfl).1, (H2d.out.2 0 _ rfl).1, (H2d.out.2 1 _ rfl).1, (H2d.out.2 2 _ rfl).1, (H2d.out.2 3 _ rfl).1, (H2d.out.2 4 _ rfl).1, (H2d.out.2 5 _ rfl).1, (H2d.out.2 6 _ rfl).1, (H2d.out.2 7 _ rfl).1, (H2d.out.2 8 _ rfl).1, (H2d.out.2 9 _ rfl).1, (H2d.out.2 10 _ rfl).1, (H2d.out.2 11 _ rfl).1, (H2d.out.2 12 _ rfl).1, (H4d.out.2 0 _ rfl).1, (H4d.out.2 1 _ rfl).1, (H4d.out.2 2 _ rfl).1, (H4d.out.2 3 _ rfl).1, (H4d.out.2 4 _ rfl).1, (H4d.out.2 5 _ rfl).1, (H4d.out.2 6 _ rfl).1, (H4d.out.2 7 _ rfl).1, (H4d.out.2 8 _ rfl).1, (H4d.out.2 9 _ rfl).1, (H4d.out.2 10 _ rfl).1, (H4d.out.2 11 _ rfl).1, (H4d.out.2 12 _ rfl).1⟩ | exact ⟨(H1e.out.2 0 _ rfl).1, (H1e.out.2 1 _ rfl).1, (H1e.out.2 2 _ rfl).1, (H1e.out.2 3 _ rfl).1, (H1e.out.2 4 _ rfl).1, (H1e.out.2 5 _ rfl).1, (H1e.out.2 6 _ rfl).1, (H1e.out.2 7 _ rfl).1, (H1e.out.2 8 _ rfl).1, (H1e.out.2 9 _ rfl).1, (H1e.out.2 10 _ rfl).1, (H1e.out.2 11 _ rfl).1, (H1e.out.2 12 _ rfl).1, (H2e.out.2 0 _ rfl).1, (H2e.out.2 1 _ rfl).1, (H2e.out.2 2 _ rfl).1, (H2e.out.2 3 _ rfl).1, (H2e.out.2 4 _ rfl).1, (H2e.out.2 5 _ rfl).1, (H2e.out.2 6 _ rfl).1, (H2e.out.2 7 _ rfl).1, (H2e.out.2 8 _ rfl).1, (H2e.out.2 9 _ rfl).1, (H2e.out.2 10 _ rfl).1, (H2e.out.2 11 _ rfl).1, (H2e.out.2 12 _ rfl).1, (H4e.out.2 0 _ rfl).1, (H4e.out.2 1 _ rfl).1, (H4e.out.2 2 _ rfl).1, (H4e.out.2 3 _ rfl).1, (H4e.out.2 4 _ rfl).1, (H4e.out.2 5 _ rfl).1, (H4e.out.2 6 _ rfl).1, (H4e.out.2 7 _ rfl).1, (H4e.out.2 8 _ rfl).1, (H4e.out.2 9 _ rfl).1, (H4e.out.2 10 _ rfl).1, (H4e.out.2 11 _ rfl).1, (H4e.out.2 12 _ rfl).1⟩)
      (first | (go_at_call 14; refine (cN _).mono ?_; rintro e w12 ⟨rfl, hb⟩; have H1e := Lib.hid (H1d.out.next hb); have H2e := Lib.hid (H2d.out.next hb); have H4e := Lib.hid (H4d.out.next hb); have HB9 := Lib.hid (HBd.out.trans (hb.mono HBd.out.size)); clear hb))
  clear H1 H2 H4 H1d H2d H4d H1e H2e H4e HB HBd cN
  go_wp2_with fail
  go_ret
  exact ⟨rfl, HB9.out⟩

theorem malone_walk (s : ByteArray) (v v2 : Value) (fs gs : List Fld) (w : World) (h : Flds 0 w v fs) (h2 : Flds 0 w v2 gs) (hk : FldsIn fs) (hk2 : FldsIn gs) (hA : Alph w) (hT : Tabs w) :
    Calls Tryz.prog 4 #[.string s, v, v2] w fun e w' => e = .returned (.bool true) ∧ Below w.heap.size w w' := by
  by_cases hb : 500 < s.size ∨ 3000 < szH 0 fs ∨ 3000 < szH 0 gs
  · exact malone_big s v v2 fs gs w h h2 hk hk2 hA hT hb
  · have hz := Lib.size_eq s
    rw [← strB_of s]
    cases hm : modL s.data.toList with
    | some es => exact malone_yes _ v v2 fs gs w h h2 hk hk2 hA hT (by omega) (by omega) (by omega) es hm
    | none => exact malone_no _ v v2 fs gs w h h2 hk hk2 hA hT (by omega) (by omega) (by omega) hm

end Go.Proofs.YtpifbgefkbhopaaGreatDoor
