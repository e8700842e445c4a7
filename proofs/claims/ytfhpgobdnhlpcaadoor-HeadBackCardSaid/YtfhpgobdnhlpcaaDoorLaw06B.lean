/- The walk of the law HeadBack. -/
import Derived.Test.YtfhpgobdnhlpcaaDoorAwk6
import Derived.Test.YtfhpgobdnhlpcaaDoorRkA
import Derived.Test.YtfhpgobdnhlpcaaDoorRkB
import Derived.Test.YtfhpgobdnhlpcaaDoorHdZ
namespace Go.Proofs.YtfhpgobdnhlpcaaDoor
open Go.RowKit

theorem Flds.form {lo : Nat} {w : World} {v : Value} {fs : List Fld} (h : Flds lo w v fs) : ∃ ao cap, v = .slice ao fs.length cap := by
  obtain ⟨ao, cap, hv, _⟩ := h
  exact ⟨ao, cap, hv⟩

set_option maxRecDepth 100000 in
set_option maxHeartbeats 4000000 in
theorem hback_walk (v : Value) (fs : List Fld) (s more : ByteArray) (w : World) (h : Flds 0 w v fs) (hk : FldsIn fs) (hT : Tabs w) :
    Calls Tryd.prog 5 #[v, .string s, .string more] w fun e w' => e = .returned (.bool true) ∧ Below w.heap.size w w' := by
  have cA := awake_any w hT
  have cS := fun W h => rsize_any 0 v fs W h hk
  have HF := Lib.hid h
  have HT := Lib.hid hT
  obtain ⟨ao, cap, rfl⟩ := h.form
  have hfl := hk.1
  clear h hk hT
  by_cases hbig : 10000 < szH 0 fs
  · have d1 : (10000 : Int) < ((szH 0 fs : Nat) : Int) := by omega
    generalize szH 0 fs = Z at *
    go_enter Tryd.func5, Tryd.ntmps5
    go_wp2_with fail
    refine cA.mono ?_
    rintro e w1 ⟨rfl, hb1⟩
    go_wp2_with fail
    refine (cS _ (HF.out.below hb1)).mono ?_
    rintro e w2 ⟨rfl, hb2⟩
    have HB2 := Lib.hid (hb1.trans (hb2.mono hb1.size))
    clear hb1 hb2 cS cA
    go_wp2_with fail
    go_ret
    exact ⟨rfl, HB2.out⟩
  · have d1 : ¬ (10000 : Int) < ((szH 0 fs : Nat) : Int) := by omega
    obtain ⟨hok, htot⟩ := szH_ok fs (by omega)
    have HOK := Lib.hid hok
    generalize szH 0 fs = Z at *
    clear hbig hok
    by_cases hsb : 10000 < s.size
    · have d2 : (10000 : Int) < (s.size : Int) := by omega
      go_enter Tryd.func5, Tryd.ntmps5
      go_wp2_with fail
      refine cA.mono ?_
      rintro e w1 ⟨rfl, hb1⟩
      go_wp2_with fail
      refine (cS _ (HF.out.below hb1)).mono ?_
      rintro e w2 ⟨rfl, hb2⟩
      have HB2 := Lib.hid (hb1.trans (hb2.mono hb1.size))
      clear hb1 hb2 cS cA
      go_wp2_with fail
      go_ret
      exact ⟨rfl, HB2.out⟩
    · have d2 : ¬ (10000 : Int) < (s.size : Int) := by omega
      by_cases hmb : 100 < more.size
      · have d3 : (100 : Int) < (more.size : Int) := by omega
        go_enter Tryd.func5, Tryd.ntmps5
        go_wp2_with fail
        refine cA.mono ?_
        rintro e w1 ⟨rfl, hb1⟩
        go_wp2_with fail
        refine (cS _ (HF.out.below hb1)).mono ?_
        rintro e w2 ⟨rfl, hb2⟩
        have HB2 := Lib.hid (hb1.trans (hb2.mono hb1.size))
        clear hb1 hb2 cS cA
        go_wp2_with fail
        go_ret
        exact ⟨rfl, HB2.out⟩
      · have d3 : ¬ (100 : Int) < (more.size : Int) := by omega
        have cPr := fun W h1 h2 => hprint_any 0 (.slice ao fs.length cap) fs W h1 HOK.out h2
        have cRt := fun W h1 h2 => hright_any 0 (.slice ao fs.length cap) fs W h1 HOK.out h2
        obtain ⟨T, E, R, hV, hR, hER, hW⟩ := textH_right fs
        unfold hprPost at cPr
        rw [hV] at cPr
        rw [hR] at cRt
        have HPar : Hid (R = true → E = 0 ∧ T.length ≤ 10002 ∧ parseH (strB T ++ more).data.toList = .ok (fs, (strB T).size)) := Lib.hid fun hRt => by
          rcases hW with ⟨_, hE, hTe⟩ | hf
          · refine ⟨hE, by rw [hTe]; simp; omega, ?_⟩
            rw [append_data, strB_data, hTe, strB_size]
            exact parse_print fs more.data.toList (by rw [hR, hRt])
          · rw [hf] at hRt; cases hRt
        have cSa := fun lo2 u2 W h1 h2 => rsame_any 0 lo2 (.slice ao fs.length cap) u2 fs fs W h1 h2 (by omega) (by omega)
        rw [decide_eq_true (rfl : fs = fs)] at cSa
        have hne : (R != R) = false := by simp
        have cPs := fun W h => hparse_any s W (by omega) h
        have hsl : s.data.toList.length = s.size := (Lib.size_eq s).symm
        have HO : Hid (∀ n : Int, parseH s.data.toList = .error n → (n == 0) = false ∧ (n != 0) = true) := Lib.hid fun n hn => by
          rcases parse_err _ n hn with rfl | rfl | rfl <;> decide
        have HOk : Hid (∀ (m : List Fld) (n : Nat), parseH s.data.toList = .ok (m, n) → n ≤ s.size ∧ m.length ≤ 64 ∧ FldsOk m ∧ (prF m).length ≤ n + 64) := Lib.hid fun m n hn => by
          obtain ⟨h1, h2, _⟩ := parse_out _ m n hn
          exact ⟨by omega, h2, parse_ok _ m n hn, parse_sum _ m n hn⟩
        obtain ⟨O, hO⟩ : ∃ O, parseH s.data.toList = O := ⟨_, rfl⟩
        rw [hO] at cPs HO HOk
        generalize hTS : strB T = TS at *
        have hTz : Hid (TS.size = T.length) := Lib.hid (by rw [← hTS, strB_size])
        clear hV hR hW hO hsl htot hTS
        go_enter Tryd.func5, Tryd.ntmps5
        go_wp2_with fail
        refine cA.mono ?_
        rintro e w1 ⟨rfl, hb1⟩
        go_wp2_with fail
        refine (cS _ (HF.out.below hb1)).mono ?_
        rintro e w2 ⟨rfl, hb2⟩
        have HB2 := Lib.hid (hb1.trans (hb2.mono hb1.size))
        clear hb1 hb2 cS cA
        go_wp2_with fail
        refine (cPr _ (HF.out.below HB2.out) (Utf8Tabs_below HT.out HB2.out)).mono ?_
        rintro e w3 ⟨rfl, hb3⟩
        have HB3 := Lib.hid (HB2.out.trans (hb3.mono HB2.out.size))
        clear hb3 cPr HB2
        go_wp2_with fail
        refine (cRt _ (HF.out.below HB3.out) (Utf8Tabs_below HT.out HB3.out)).mono ?_
        rintro e w4 ⟨rfl, hb4⟩
        have HB4 := Lib.hid (HB3.out.trans (hb4.mono HB3.out.size))
        clear hb4 cRt HB3
        go_upto_if 49 with fail
        go_cut [13] (fun _ wx => Below w4.heap.size w4 wx)
        case first =>
          cases R
          · go_wp2_with fail
            go_meet
            exact Below.refl _ _
          · obtain ⟨rfl, hTl, hPr⟩ := HPar.out rfl
            have hz := hTz.out
            have cP := fun W h => hparse_any (TS ++ more) W (by simp; omega) h
            rw [hPr] at cP
            have hsum : ¬ 9223372036854775807 < TS.size + more.size := by omega
            clear hPr hTl hz
            go_wp2_with fail
            refine (cP _ (Utf8Tabs_below HT.out HB4.out)).mono ?_
            rintro e w5 ⟨hb5, u5, rfl, hown5⟩
            have HX5 := Lib.hid (Flds.of_own (fs := fs) hown5 (Nat.le_refl _))
            obtain ⟨a5, k5, rfl⟩ := owns_formF hown5
            have HB5 := Lib.hid (HB4.out.trans (hb5.mono HB4.out.size))
            have HC5 := Lib.hid hb5
            clear hown5 hb5 cP
            go_wp2_with fail
            refine (cSa _ _ _ (HF.out.below HB5.out) HX5.out).mono ?_
            rintro e w6 ⟨rfl, hb6⟩
            have HC6 := Lib.hid (HC5.out.trans (hb6.mono HC5.out.size))
            clear hb6 cSa
            go_wp2_with fail
            go_meet
            exact HC6.out
        case rest =>
          have HBC := Lib.hid (HB4.out.trans (hcut.mono HB4.out.size))
          clear hcut cSa HPar hTz HB4 hER hne
          cases O with
          | error n =>
            obtain ⟨hn, hn2⟩ := HO.out n rfl
            clear HOk
            go_wp2_with fail
            refine (cPs _ (Utf8Tabs_below HT.out HBC.out)).mono ?_
            rintro e w5 ⟨hb5, rfl⟩
            have HB5 := Lib.hid (HBC.out.trans (hb5.mono HBC.out.size))
            clear hb5 cPs
            go_wp2_with fail
            go_ret
            exact ⟨rfl, HB5.out⟩
          | ok x =>
            obtain ⟨m, n⟩ := x
            obtain ⟨hn, hm64, hmk, hml⟩ := HOk.out m n rfl
            have HMK := Lib.hid hmk
            have dn : (n : Int) ≤ (s.size : Int) := by omega
            clear HO HOk hmk
            cases hr : rightH m
            · have cR2 := fun lo u W h1 h2 => hright_any lo u m W h1 HMK.out h2
              rw [hr] at cR2
              clear hr
              go_wp2_with fail
              refine (cPs _ (Utf8Tabs_below HT.out HBC.out)).mono ?_
              rintro e w5 ⟨hb5, u5, rfl, hown5⟩
              have HX5 := Lib.hid (Flds.of_own (fs := m) hown5 (Nat.le_refl _))
              obtain ⟨a5, k5, rfl⟩ := owns_formF hown5
              have HB5 := Lib.hid (HBC.out.trans (hb5.mono HBC.out.size))
              clear hown5 hb5 cPs
              go_wp2_with fail
              refine (cR2 _ _ _ HX5.out (Utf8Tabs_below HT.out HB5.out)).mono ?_
              rintro e w6 ⟨rfl, hb6⟩
              have HB6 := Lib.hid (HB5.out.trans (hb6.mono HB5.out.size))
              clear hb6 cR2
              go_wp2_with fail
              go_ret
              exact ⟨rfl, HB6.out⟩
            · have cR2 := fun lo u W h1 h2 => hright_any lo u m W h1 HMK.out h2
              have cP2 := fun lo u W h1 h2 => hprint_any lo u m W h1 HMK.out h2
              have hPp := parse_print m [] hr
              rw [List.append_nil] at hPp
              have hVp : textH (printH m) = .tuple #[.string (strB (prF m ++ [13, 10])), .int .i64 0] := by
                rw [printH, hr]
                rfl
              unfold hprPost at cP2
              rw [hVp] at cP2
              have cP3 := fun W h => hparse_any (strB (prF m ++ [13, 10])) W (by rw [strB_size, List.length_append, List.length_cons, List.length_cons, List.length_nil]; omega) h
              rw [strB_data, hPp] at cP3
              rw [← strB_size] at cP3
              have cS2 := fun lo lo2 u u2 W h1 h2 => rsame_any lo lo2 u u2 m m W h1 h2 (by omega) (by omega)
              rw [decide_eq_true (rfl : m = m)] at cS2
              rw [hr] at cR2
              generalize strB (prF m ++ [13, 10]) = U at *
              clear hr hPp hVp
              go_wp2_with fail
              refine (cPs _ (Utf8Tabs_below HT.out HBC.out)).mono ?_
              rintro e w5 ⟨hb5, u5, rfl, hown5⟩
              have HX5 := Lib.hid (Flds.of_own (fs := m) hown5 (Nat.le_refl _))
              obtain ⟨a5, k5, rfl⟩ := owns_formF hown5
              have HB5 := Lib.hid (HBC.out.trans (hb5.mono HBC.out.size))
              clear hown5 hb5 cPs
              go_wp2_with fail
              refine (cR2 _ _ _ HX5.out (Utf8Tabs_below HT.out HB5.out)).mono ?_
              rintro e w6 ⟨rfl, hb6⟩
              have HB6 := Lib.hid (HB5.out.trans (hb6.mono HB5.out.size))
              have HX6 := Lib.hid (HX5.out.below hb6)
              clear hb6 cR2
              go_wp2_with fail
              refine (cP2 _ _ _ HX6.out (Utf8Tabs_below HT.out HB6.out)).mono ?_
              rintro e w7 ⟨rfl, hb7⟩
              have HB7 := Lib.hid (HB6.out.trans (hb7.mono HB6.out.size))
              have HX7 := Lib.hid (HX6.out.below hb7)
              clear hb7 cP2
              go_wp2_with fail
              refine (cP3 _ (Utf8Tabs_below HT.out HB7.out)).mono ?_
              rintro e w8 ⟨hb8, u8, rfl, hown8⟩
              have HY8 := Lib.hid (Flds.of_own (fs := m) hown8 (Nat.le_refl _))
              have HX8 := Lib.hid (HX7.out.below hb8)
              obtain ⟨a8, k8, rfl⟩ := owns_formF hown8
              have HB8 := Lib.hid (HB7.out.trans (hb8.mono HB7.out.size))
              clear hown8 hb8 cP3
              go_wp2_with fail
              refine (cS2 _ _ _ _ _ HX8.out HY8.out).mono ?_
              rintro e w9 ⟨rfl, hb9⟩
              have HB9 := Lib.hid (HB8.out.trans (hb9.mono HB8.out.size))
              clear hb9 cS2
              go_wp2_with fail
              go_ret
              exact ⟨rfl, HB9.out⟩

end Go.Proofs.YtfhpgobdnhlpcaaDoor
