/- The walk of the law HeadLess. -/
import Derived.Test.YtfhpgobdnhlpcaaDoorAwk6
import Derived.Test.YtfhpgobdnhlpcaaDoorRkA
import Derived.Test.YtfhpgobdnhlpcaaDoorRkB
import Derived.Test.YtfhpgobdnhlpcaaDoorRkC
namespace Go.Proofs.YtfhpgobdnhlpcaaDoor
open Go.RowKit

theorem StrsF.cell {w : World} {v : Value} {ps : List (List UInt8)} (h : StrsF w v ps) : ∃ ao cap, v = .slice ao ps.length cap ∧ ∀ j, j < ps.length → ∃ b off q, ao = some ⟨b, off, none⟩ ∧ ps[j]? = some q ∧ b < w.heap.size ∧ w.cell? ⟨b, off + j, none⟩ = some (.string (strB q)) := by
  obtain ⟨ao, cap, rfl, hc⟩ := h
  refine ⟨ao, cap, rfl, fun j hj => ?_⟩
  rcases hc with hc | ⟨b, off, e1, e2, e3⟩
  · rw [hc] at hj
    simp at hj
  · exact ⟨b, off, ps[j], e1, List.getElem?_eq_getElem hj, e2, e3 j _ (List.getElem?_eq_getElem hj)⟩
theorem Flds.cell {lo : Nat} {w : World} {v : Value} {fs : List Fld} (h : Flds lo w v fs) : ∃ ao cap, v = .slice ao fs.length cap ∧ ∀ j, j < fs.length → ∃ b off p, ao = some ⟨b, off, none⟩ ∧ fs[j]? = some p ∧ b < w.heap.size ∧ w.cell? ⟨b, off + j * 2, none⟩ = some (.string (strB p.1)) ∧ w.cell? ⟨b, off + j * 2 + 1, none⟩ = some (.string (strB p.2)) := by
  obtain ⟨ao, cap, rfl, hc⟩ := h
  refine ⟨ao, cap, rfl, fun j hj => ?_⟩
  rcases hc with hc | ⟨b, off, e1, _, e2, e3⟩
  · rw [hc] at hj
    simp at hj
  · exact ⟨b, off, fs[j], e1, List.getElem?_eq_getElem hj, e2, e3 j _ (List.getElem?_eq_getElem hj)⟩

set_option maxRecDepth 100000 in
set_option maxHeartbeats 4000000 in
theorem hless_walk (v v2 : Value) (fs : List Fld) (ns : List (List UInt8)) (w : World) (h : Flds 0 w v fs) (h2 : StrsF w v2 ns) (hk : FldsIn fs) (hn : ns.length ≤ maxLen) (hnl : ∀ q ∈ ns, q.length ≤ maxLen) (hT : Tabs w) :
    Calls Tryd.prog 4 #[v, v2] w fun e w' => e = .returned (.bool true) ∧ Below w.heap.size w w' := by
  have cA := awake_any w hT
  have cS := fun W h => rsize_any 0 v fs W h hk
  have HF := Lib.hid h
  have HS := Lib.hid h2
  have HNL := Lib.hid hnl
  obtain ⟨ao, cap, hv, hcF⟩ := h.cell
  obtain ⟨ao2, cap2, hv2, hcS⟩ := h2.cell
  subst hv hv2
  clear h h2 hnl hk hT
  unfold maxLen at hn
  by_cases hbig : 10000 < szH 0 fs
  · have d1 : (10000 : Int) < ((szH 0 fs : Nat) : Int) := by omega
    generalize szH 0 fs = Z at *
    clear hcF hcS
    go_enter Tryd.func4, Tryd.ntmps4
    go_wp2_with fail
    refine cA.mono ?_
    rintro e w1 ⟨rfl, hb1⟩
    go_wp2_with fail
    refine (cS _ (HF.out.below hb1)).mono ?_
    rintro e w2 ⟨rfl, hb2⟩
    have HB2 := Lib.hid (hb1.trans (hb2.mono hb1.size))
    clear hb1 hb2 cS cA
    go_wp2_with fail
    go_ret
    exact ⟨rfl, HB2.out⟩
  · have d1 : ¬ (10000 : Int) < ((szH 0 fs : Nat) : Int) := by omega
    obtain ⟨hok, htot⟩ := szH_ok fs (by omega)
    have hl := hok.1
    have HOK := Lib.hid hok
    generalize szH 0 fs = Z at *
    clear hbig hok
    by_cases hnb : 20 < ns.length
    · have d2 : (20 : Int) < (ns.length : Int) := by omega
      clear hcF hcS
      go_enter Tryd.func4, Tryd.ntmps4
      go_wp2_with fail
      refine cA.mono ?_
      rintro e w1 ⟨rfl, hb1⟩
      go_wp2_with fail
      refine (cS _ (HF.out.below hb1)).mono ?_
      rintro e w2 ⟨rfl, hb2⟩
      have HB2 := Lib.hid (hb1.trans (hb2.mono hb1.size))
      clear hb1 hb2 cS cA
      go_wp2_with fail
      go_ret
      exact ⟨rfl, HB2.out⟩
    · have d2 : ¬ (20 : Int) < (ns.length : Int) := by omega
      have hn2 : ns.length ≤ 20 := by omega
      have cW := fun W h1 h2 => hwithout_any 0 (.slice ao fs.length cap) (.slice ao2 ns.length cap2) fs ns W h1 h2 HOK.out (by omega) HNL.out
      have cR := fun W h1 h2 => rwithout_any 0 (.slice ao fs.length cap) (.slice ao2 ns.length cap2) fs ns W h1 h2 HOK.out (by omega)
      have hxk := without_ok ns HOK.out
      have hxl := hxk.1
      have cM := fun lo lo2 u1 u2 W h1 h2 => rsame_any lo lo2 u1 u2 (withoutH fs ns) (withoutH fs ns) W h1 h2 (by omega) (by omega)
      rw [decide_eq_true (rfl : withoutH fs ns = withoutH fs ns)] at cM
      have cG := fun lo u name W h => hget_any lo u (withoutH fs ns) name W h hxk
      have cL := fun name W h => hget_any 0 (.slice ao fs.length cap) fs name W h HOK.out
      have HYes : Hid (∀ q ∈ ns, getV (withoutH fs ns) q = .tuple #[.string ⟨#[]⟩, .bool false]) := Lib.hid fun q hq => by
        rw [getV, all_without_yes hq]
        rfl
      have HNo : Hid (∀ p ∈ withoutH fs ns, ∃ J, getV (withoutH fs ns) p.1 = .tuple #[.string J, .bool true] ∧ getV fs p.1 = .tuple #[.string J, .bool true]) := Lib.hid fun p hp => by
        obtain ⟨hp1, hp2⟩ := without_in hp
        refine ⟨strB (joinH (allH fs p.1)), ?_, ?_⟩
        · rw [getV, all_without_no hp2, decide_eq_true (all_some hp1)]
        · rw [getV, decide_eq_true (all_some hp1)]
      generalize withoutH fs ns = xs at *
      clear hcF hxk htot
      go_enter Tryd.func4, Tryd.ntmps4
      go_wp2_with fail
      refine cA.mono ?_
      rintro e w1 ⟨rfl, hb1⟩
      go_wp2_with fail
      refine (cS _ (HF.out.below hb1)).mono ?_
      rintro e w2 ⟨rfl, hb2⟩
      have HB2 := Lib.hid (hb1.trans (hb2.mono hb1.size))
      clear hb1 hb2 cS cA
      go_wp2_with fail
      refine (cW _ (HF.out.below HB2.out) (HS.out.below HB2.out)).mono ?_
      rintro e w3 ⟨⟨u3, rfl, hown3⟩, hb3⟩
      have HX3 := Lib.hid (Flds.of_own (fs := xs) hown3 (Nat.le_refl _))
      have HB3 := Lib.hid (HB2.out.trans (hb3.mono HB2.out.size))
      obtain ⟨a3, k3, rfl⟩ := owns_formF hown3
      clear hown3 hb3 cW
      go_wp2_with fail
      refine (cR _ (HF.out.below HB3.out) (HS.out.below HB3.out)).mono ?_
      rintro e w4 ⟨⟨u4, rfl, hown4⟩, hb4⟩
      have HX4 := Lib.hid (Flds.of_own (fs := xs) hown4 (Nat.le_refl _))
      have HXX := Lib.hid (HX3.out.below hb4)
      have HB4 := Lib.hid (HB3.out.trans (hb4.mono HB3.out.size))
      obtain ⟨a4, k4, rfl⟩ := owns_formF hown4
      clear hown4 hb4 cR
      go_wp2_with fail
      refine (cM _ _ _ _ _ HXX.out HX4.out).mono ?_
      rintro e w5 ⟨rfl, hb5⟩
      have HX5 := Lib.hid (HXX.out.below hb5)
      have HB5 := Lib.hid (HB4.out.trans (hb5.mono HB4.out.size))
      clear hb5 cM HX4 HXX HX3
      go_wp2_with fail
      go_loopw [8] (fun i wr => ∃ j : Nat, i = .int .i64 j ∧ j ≤ ns.length ∧ Hid (Below w5.heap.size w5 wr)) (fun i _ => ns.length - (intOf i).toNat)
      case atStart => exact ⟨0, rfl, Nat.zero_le _, Lib.hid (Below.refl _ _)⟩
      case round =>
        obtain ⟨j, rfl, hj, HW⟩ := hrel
        by_cases hlt : j < ns.length
        · obtain ⟨b, off, q, rfl, hq, hbl, hcell⟩ := hcS j hlt
          have a0 := (HW.out.cell (p := ⟨b, off + j, none⟩) (Nat.lt_of_lt_of_le hbl HB5.out.size)).trans ((HB5.out.cell (p := ⟨b, off + j, none⟩) hbl).trans hcell)
          have hV := HYes.out q (List.mem_of_getElem? hq)
          have cG1 := cG _ _ q _ (HX5.out.below HW.out)
          rw [hV] at cG1
          clear hV hq hcell cG
          generalize strB q = Q at *
          go_wp2_with fail
          refine cG1.mono ?_
          rintro e w6 ⟨rfl, hb6⟩
          have HW6 := Lib.hid (HW.out.trans (hb6.mono HW.out.size))
          clear hb6 cG1
          go_wp2_with fail
          go_roundw
          case rel => exact ⟨j + 1, by go_num, by omega, HW6⟩
          case measure => simp [intOf]; omega
        · obtain rfl : j = ns.length := by omega
          have HX6 := Lib.hid (HX5.out.below HW.out)
          have HB6 := Lib.hid (HB5.out.trans (HW.out.mono HB5.out.size))
          obtain ⟨a6, k6, hu6, hcX⟩ := HX6.out.cell
          obtain ⟨rfl, _, rfl⟩ := Value.slice.inj hu6
          clear hu6
          rename World => W1
          clear hcS
          go_wp2_with fail
          go_loopw [11] (fun i wr => ∃ j : Nat, i = .int .i64 j ∧ j ≤ xs.length ∧ Hid (Below W1.heap.size W1 wr)) (fun i _ => xs.length - (intOf i).toNat)
          case atStart => exact ⟨0, rfl, Nat.zero_le _, Lib.hid (Below.refl _ _)⟩
          case round =>
            obtain ⟨j, rfl, hj, HV⟩ := hrel
            by_cases hlt : j < xs.length
            · obtain ⟨b, off, p, hab, hp, hbl, hcell, _⟩ := hcX j hlt
              subst hab
              have a0 := (HV.out.cell (p := ⟨b, off + j * 2, none⟩) hbl).trans hcell
              obtain ⟨J, hG, hL⟩ := HNo.out p (List.mem_of_getElem? hp)
              have cG1 := cG _ _ p.1 _ (HX6.out.below HV.out)
              have cL1 := fun W (h : Below w.heap.size w W) => cL p.1 W (HF.out.below h)
              rw [hG] at cG1
              rw [hL] at cL1
              clear hG hL hp hcell cG cL hcX
              generalize strB p.1 = Q at *
              go_wp2_with fail
              refine cG1.mono ?_
              rintro e w7 ⟨rfl, hb7⟩
              have a7 := (hb7.cell (p := ⟨b, off + j * 2, none⟩) (Nat.lt_of_lt_of_le hbl HV.out.size)).trans a0
              have HV7 := Lib.hid (HV.out.trans (hb7.mono HV.out.size))
              clear a0 hb7 cG1
              go_wp2_with fail
              refine (cL1 _ (HB6.out.trans (HV7.out.mono HB6.out.size))).mono ?_
              rintro e w8 ⟨rfl, hb8⟩
              have HV8 := Lib.hid (HV7.out.trans (hb8.mono HV7.out.size))
              clear a7 hb8 cL1
              go_wp2_with fail
              go_roundw
              case rel => exact ⟨j + 1, by go_num, by omega, HV8⟩
              case measure => simp [intOf]; omega
            · obtain rfl : j = xs.length := by omega
              clear hcX
              go_wp2_with fail
              go_ret
              exact ⟨rfl, HB6.out.trans (HV.out.mono HB6.out.size)⟩

end Go.Proofs.YtfhpgobdnhlpcaaDoor
