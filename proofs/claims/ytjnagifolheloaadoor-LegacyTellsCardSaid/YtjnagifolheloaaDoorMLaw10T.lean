/- The walk of the law LegacyTells. -/
import Derived.Test.YtjnagifolheloaaDoorMAwk10
import Derived.Test.YtjnagifolheloaaDoorMOwnD
import Derived.Test.YtjnagifolheloaaDoorMRoG
import Derived.Test.YtjnagifolheloaaDoorMRoE

namespace Go.Proofs.YtjnagifolheloaaDoor
open Go.RowKit Go.Lib

set_option maxRecDepth 100000 in
set_option maxHeartbeats 4000000 in
theorem ltells_walk (s : ByteArray) (v v2 : Value) (ds : List Dir) (fs : List Fld) (w : World) (h : Dirs 0 w v ds) (h2 : Flds 0 w v2 fs) (hk : DirsIn ds) (hk2 : FldsIn fs) (hT : Tabs w) :
    Calls Tryd.prog 3 #[.string s, v, v2] w fun e w' => e = .returned (.bool true) ∧ Below w.heap.size w w' := by
  have cA := awake10_any w hT
  have cW := fun W (hb : Below w.heap.size w W) => own_any 0 v ds W (h.below hb) hk
  have cS := fun W (hb : Below w.heap.size w W) => rsize_any 0 v2 fs W (h2.below hb) hk2
  have HD := Lib.hid h
  have HF := Lib.hid h2
  have HT := Lib.hid hT
  obtain ⟨ao, cap, rfl, _⟩ := id h
  obtain ⟨bo, bcap, rfl, _⟩ := id h2
  clear h h2 hk hT hk2
  by_cases hs : 500 < s.size
  · have d1 : (500 : Int) < (s.size : Int) := by omega
    generalize (owN 0 ds).2 = Z at *
    go_enter Tryd.func3, Tryd.ntmps3
    go_wp2_with fail
    refine cA.mono ?_
    rintro e w1 ⟨rfl, hb1⟩
    go_wp2_with fail
    refine (cW _ hb1).mono ?_
    rintro e w2 ⟨⟨u, rfl, hD⟩, hb2⟩
    have HB2 := Lib.hid (hb1.trans (hb2.mono hb1.size))
    obtain ⟨uo, uc, rfl, _⟩ := hD
    clear hb1 hb2 cW cA cS
    go_wp2_with fail
    go_ret
    exact ⟨rfl, HB2.out⟩
  · have d1 : ¬ (500 : Int) < (s.size : Int) := by omega
    by_cases hbig : 1000 < (owN 0 ds).2
    · have d2 : (1000 : Int) < (((owN 0 ds).2 : Nat) : Int) := by omega
      generalize (owN 0 ds).2 = Z at *
      go_enter Tryd.func3, Tryd.ntmps3
      go_wp2_with fail
      refine cA.mono ?_
      rintro e w1 ⟨rfl, hb1⟩
      go_wp2_with fail
      refine (cW _ hb1).mono ?_
      rintro e w2 ⟨⟨u, rfl, hD⟩, hb2⟩
      have HB2 := Lib.hid (hb1.trans (hb2.mono hb1.size))
      obtain ⟨uo, uc, rfl, _⟩ := hD
      clear hb1 hb2 cW cA cS
      go_wp2_with fail
      go_ret
      exact ⟨rfl, HB2.out⟩
    · have d2 : ¬ (1000 : Int) < (((owN 0 ds).2 : Nat) : Int) := by omega
      obtain ⟨hok, hlen, htk⟩ := owN_ok ds (by omega)
      have HOK := Lib.hid hok
      rw [htk] at cW
      by_cases hbf : 3000 < szH 0 fs
      · have d3 : (3000 : Int) < ((szH 0 fs : Nat) : Int) := by omega
        generalize (owN 0 ds).2 = Z at *
        generalize szH 0 fs = Y at *
        go_enter Tryd.func3, Tryd.ntmps3
        go_wp2_with fail
        refine cA.mono ?_
        rintro e w1 ⟨rfl, hb1⟩
        go_wp2_with fail
        refine (cW _ hb1).mono ?_
        rintro e w2 ⟨⟨u, rfl, hD⟩, hb2⟩
        have HB2 := Lib.hid (hb1.trans (hb2.mono hb1.size))
        obtain ⟨uo, uc, rfl, _⟩ := hD
        clear hb1 hb2 cW cA
        go_wp2_with fail
        refine (cS _ HB2.out).mono ?_
        rintro e w3 ⟨rfl, hb3⟩
        have HB3 := Lib.hid (HB2.out.trans (hb3.mono HB2.out.size))
        clear hb3 cS
        go_wp2_with fail
        go_ret
        exact ⟨rfl, HB3.out⟩
      · have d3 : ¬ (3000 : Int) < ((szH 0 fs : Nat) : Int) := by omega
        obtain ⟨hfo, hpr⟩ := szH_ok fs (by omega)
        have hj : (joinH (allH fs nCtl)).length ≤ 100000 := Nat.le_trans (join_small fs nCtl) (by omega)
        have hs0 : s.data.toList.length ≤ 500 := by rw [← Lib.size_eq]; omega
        have hso := dirsL_ok s.data.toList (by omega)
        have hsl : (dirsL s.data.toList).length ≤ 100000 := hso.1
        have cP := fun W h => lparse_any s W (by omega) h
        have cP2 := fun W => rparse_any s W (by omega)
        have cW2 := fun u W (h : Dirs 0 W u (dirsL s.data.toList)) => own_any 0 u _ W h (dirsOk_in hso)
        rw [dirsL_all s.data.toList (by omega)] at cW2
        have cE := fun lo1 lo2 u1 u2 W h1 h2 => rsameD_any lo1 lo2 u1 u2 (dirsL s.data.toList) (dirsL s.data.toList) W h1 h2 (Nat.le_trans hsl (by decide)) (Nat.le_trans hsl (by decide))
        rw [decide_eq_true rfl] at cE
        have cO := fun W (hb : Below w.heap.size w W) => of_any 0 (.slice ao ds.length cap) ds W (HD.out.below hb) hok
        have cO2 := fun lo u W h => rof_any lo u ds W h hok
        have cR := fun W (hb : Below w.heap.size w W) => read_any 0 (.slice bo fs.length bcap) fs W (HF.out.below hb) hfo hj (Utf8Tabs_below HT.out hb)
        have cR2 := fun W (hb : Below w.heap.size w W) => rread_any 0 (.slice bo fs.length bcap) fs W (HF.out.below hb) hfo hj
        have cN := none_any
        have cN2 := rnone_any
        obtain ⟨b0, b1, b2, b3, b4, b5, b6, b7, k0, k1, k2, k3, k4, hR⟩ := rulV_form ds
        obtain ⟨c0, c1, c2, c3, c4, c5, c6, c7, m0, m1, m2, m3, m4, hR2⟩ := rulV_form (ctlD fs)
        rw [hR] at cO cO2
        rw [hR2] at cR cR2
        rw [rulV_none] at cN cN2
        generalize (owN 0 ds).2 = Z at *
        generalize szH 0 fs = Y at *
        generalize (owN 0 (dirsL s.data.toList)).2 = X at *
        generalize dirsL s.data.toList = DL at *
        clear hR hR2 hbf hbig hs hok hfo hpr hj hs0 hso htk
        go_enter Tryd.func3, Tryd.ntmps3
        go_wp2_with fail
        refine cA.mono ?_
        rintro e w1 ⟨rfl, hb1⟩
        go_wp2_with fail
        refine (cW _ hb1).mono ?_
        rintro e w2 ⟨⟨u, rfl, hD⟩, hb2⟩
        have HB := Lib.hid (hb1.trans (hb2.mono hb1.size))
        have HA := Lib.hid hD
        obtain ⟨uo, uc, rfl, _⟩ := hD
        clear hb1 hb2 cW cA
        go_wp2_with fail
        refine (cS _ HB.out).mono ?_
        rintro e w3 ⟨rfl, hb⟩
        have HA := Lib.hid (HA.out.below hb)
        have HB := Lib.hid (HB.out.trans (hb.mono HB.out.size))
        clear hb cS
        go_wp2_with fail
        refine (cP _ (Utf8Tabs_below HT.out HB.out)).mono ?_
        rintro e w4 ⟨⟨p, rfl, hP⟩, hb⟩
        have HA := Lib.hid (HA.out.below hb)
        have HB := Lib.hid (HB.out.trans (hb.mono HB.out.size))
        have cW3 := cW2 _ _ (hP.low (Nat.zero_le _))
        obtain ⟨po, pc, rfl, _⟩ := hP
        clear hb cP cW2
        go_wp2_with fail
        refine cW3.mono ?_
        rintro e w5 ⟨⟨u, rfl, hD⟩, hb⟩
        have HA := Lib.hid (HA.out.below hb)
        have HB := Lib.hid (HB.out.trans (hb.mono HB.out.size))
        have HE := Lib.hid hD
        obtain ⟨qo, qc, rfl, _⟩ := hD
        clear hb cW3
        go_wp2_with fail
        refine (cP2 _).mono ?_
        rintro e w6 ⟨⟨p, rfl, hP⟩, hb⟩
        have HA := Lib.hid (HA.out.below hb)
        have HB := Lib.hid (HB.out.trans (hb.mono HB.out.size))
        have cE2 := cE _ _ _ _ _ (HE.out.below hb) hP
        obtain ⟨ro, rc, rfl, _⟩ := hP
        clear hb cP2 cE HE
        go_wp2_with fail
        refine cE2.mono ?_
        rintro e w7 ⟨rfl, hb⟩
        have HA := Lib.hid (HA.out.below hb)
        have HB := Lib.hid (HB.out.trans (hb.mono HB.out.size))
        clear hb cE2
        go_wp2_with fail
        refine (cO _ HB.out).mono ?_
        rintro e w8 ⟨rfl, hb⟩
        have HA := Lib.hid (HA.out.below hb)
        have HB := Lib.hid (HB.out.trans (hb.mono HB.out.size))
        clear hb cO
        go_wp2_with fail
        refine (cO2 _ _ _ HA.out).mono ?_
        rintro e w9 ⟨rfl, hb⟩
        have HB := Lib.hid (HB.out.trans (hb.mono HB.out.size))
        clear hb cO2 HA
        go_wp2_with fail
        refine (cR _ HB.out).mono ?_
        rintro e v1 ⟨rfl, hb⟩
        have HB := Lib.hid (HB.out.trans (hb.mono HB.out.size))
        clear hb cR
        go_wp2_with fail
        refine (cR2 _ HB.out).mono ?_
        rintro e v2 ⟨rfl, hb⟩
        have HB := Lib.hid (HB.out.trans (hb.mono HB.out.size))
        clear hb cR2
        go_wp2_with fail
        refine (cN _).mono ?_
        rintro e v3 ⟨rfl, hb⟩
        have HB := Lib.hid (HB.out.trans (hb.mono HB.out.size))
        clear hb cN
        go_wp2_with fail
        refine (cN2 _).mono ?_
        rintro e v4 ⟨rfl, hb⟩
        have HB := Lib.hid (HB.out.trans (hb.mono HB.out.size))
        clear hb cN2
        go_wp2_with fail
        go_ret
        exact ⟨rfl, HB.out⟩

end Go.Proofs.YtjnagifolheloaaDoor
