/- The walk of the law HeadTells. -/
import Derived.Test.YtfhpgobdnhlpcaaDoorAwk6
import Derived.Test.YtfhpgobdnhlpcaaDoorRkA
import Derived.Test.YtfhpgobdnhlpcaaDoorRkB
import Derived.Test.YtfhpgobdnhlpcaaDoorRkH
import Derived.Test.YtfhpgobdnhlpcaaDoorRkI
import Derived.Test.YtfhpgobdnhlpcaaDoorRkJ
import Derived.Test.YtfhpgobdnhlpcaaDoorRkK
import Derived.Test.YtfhpgobdnhlpcaaDoorRjC
namespace Go.Proofs.YtfhpgobdnhlpcaaDoor
open Go.RowKit

theorem Flds.form {lo : Nat} {w : World} {v : Value} {fs : List Fld} (h : Flds lo w v fs) : ∃ ao cap, v = .slice ao fs.length cap := by
  obtain ⟨ao, cap, hv, _⟩ := h
  exact ⟨ao, cap, hv⟩
/-- What parsing answers, said in one way. -/
def prs : Except Int (List Fld × Nat) → List Fld × Int × Int
  | .error n => ([], 0, n)
  | .ok (fs, n) => (fs, n, 0)
theorem headPost_said {o : Except Int (List Fld × Nat)} {w w' : World} {e : Ending} (h : headPost o w e w') :
    Below w.heap.size w w' ∧ ∃ ao cap, e = .returned (.tuple #[.slice ao (prs o).1.length cap, .int .i64 (prs o).2.1, .int .i64 (prs o).2.2]) ∧ Flds 0 w' (.slice ao (prs o).1.length cap) (prs o).1 := by
  refine ⟨h.1, ?_⟩
  cases o with
  | error n => exact ⟨none, 0, h.2, Flds.nothing 0 w'⟩
  | ok q =>
    obtain ⟨fs, n⟩ := q
    obtain ⟨v, he, hown⟩ := h.2
    obtain ⟨ao, cap, rfl⟩ := owns_formF hown
    exact ⟨ao, cap, he, Flds.of_own (fs := fs) hown (Nat.zero_le _)⟩
theorem textH_form (o : Option (List UInt8)) : ∃ (T : ByteArray) (E : Int), textH o = .tuple #[.string T, .int .i64 E] := by
  cases o with
  | none => exact ⟨_, _, rfl⟩
  | some l => exact ⟨_, _, rfl⟩

set_option maxRecDepth 100000 in
set_option maxHeartbeats 16000000 in
theorem htells_walk (v : Value) (fs : List Fld) (s name : ByteArray) (w : World) (h : Flds 0 w v fs) (hk : FldsIn fs) (hT : Tabs w) :
    Calls Tryd.prog 3 #[v, .string s, .string name] w fun e w' => e = .returned (.bool true) ∧ Below w.heap.size w w' := by
  have cA := awake_any w hT
  have cS := fun W h => rsize_any 0 v fs W h hk
  have HF := Lib.hid h
  have HT := Lib.hid hT
  obtain ⟨ao, cap, rfl⟩ := h.form
  have hfl := hk.1
  clear h hk hT
  by_cases hbig : 10000 < szH 0 fs
  · have d1 : (10000 : Int) < ((szH 0 fs : Nat) : Int) := by omega
    generalize szH 0 fs = Z at *
    go_enter Tryd.func3, Tryd.ntmps3
    go_wp2_with fail
    refine cA.mono ?_
    rintro e w1 ⟨rfl, hb1⟩
    go_wp2_with fail
    refine (cS _ (HF.out.below hb1)).mono ?_
    rintro e w2 ⟨rfl, hb2⟩
    have HB2 := Lib.hid (hb1.trans (hb2.mono hb1.size))
    clear hb1 hb2 cS cA
    go_wp2_with fail
    go_ret
    exact ⟨rfl, HB2.out⟩
  · have d1 : ¬ (10000 : Int) < ((szH 0 fs : Nat) : Int) := by omega
    obtain ⟨hok, htot⟩ := szH_ok fs (by omega)
    have HOK := Lib.hid hok
    generalize szH 0 fs = Z at *
    clear hbig
    by_cases hsb : 10000 < s.size
    · have d2 : (10000 : Int) < (s.size : Int) := by omega
      clear hok htot
      go_enter Tryd.func3, Tryd.ntmps3
      go_wp2_with fail
      refine cA.mono ?_
      rintro e w1 ⟨rfl, hb1⟩
      go_wp2_with fail
      refine (cS _ (HF.out.below hb1)).mono ?_
      rintro e w2 ⟨rfl, hb2⟩
      have HB2 := Lib.hid (hb1.trans (hb2.mono hb1.size))
      clear hb1 hb2 cS cA
      go_wp2_with fail
      go_ret
      exact ⟨rfl, HB2.out⟩
    · have d2 : ¬ (10000 : Int) < (s.size : Int) := by omega
      by_cases hmb : 100 < name.size
      · have d3 : (100 : Int) < (name.size : Int) := by omega
        clear hok htot
        go_enter Tryd.func3, Tryd.ntmps3
        go_wp2_with fail
        refine cA.mono ?_
        rintro e w1 ⟨rfl, hb1⟩
        go_wp2_with fail
        refine (cS _ (HF.out.below hb1)).mono ?_
        rintro e w2 ⟨rfl, hb2⟩
        have HB2 := Lib.hid (hb1.trans (hb2.mono hb1.size))
        clear hb1 hb2 cS cA
        go_wp2_with fail
        go_ret
        exact ⟨rfl, HB2.out⟩
      · have d3 : ¬ (100 : Int) < (name.size : Int) := by omega
        obtain ⟨nL, hn⟩ : ∃ nL, name = strB nL := ⟨_, (strB_of _).symm⟩
        obtain ⟨sL, hs⟩ : ∃ sL, s = strB sL := ⟨_, (strB_of _).symm⟩
        have cP := fun W h => hparse_any s W (by omega) h
        have cP2 := fun W => rparse_any s W (by omega)
        have hpl : (prs (parseH s.data.toList)).1.length ≤ 64 := by
          cases ho : parseH s.data.toList with
          | error n => simp [prs]
          | ok q => exact (parse_out _ q.1 q.2 ho).2.1
        have cPr := fun W h1 h2 => hprint_any 0 (.slice ao fs.length cap) fs W h1 hok h2
        have cPr2 := fun W h1 => rprint_any 0 (.slice ao fs.length cap) fs W h1 hok
        unfold hprPost at cPr cPr2
        obtain ⟨PT, PE, hPV⟩ := textH_form (printH fs)
        rw [hPV] at cPr cPr2
        have cG := fun W h1 => hget_any 0 (.slice ao fs.length cap) fs nL W h1 hok
        have cG2 := fun W h1 => rget_any 0 (.slice ao fs.length cap) fs nL W h1 hok
        rw [getV] at cG cG2
        have cAl := fun W h1 => hall_any 0 (.slice ao fs.length cap) fs nL W h1 hok.1
        have cAl2 := fun W h1 => rall_any 0 (.slice ao fs.length cap) fs nL W h1 hok.1
        have hal := Nat.le_trans (allH_len fs nL) hok.1
        have cW := fun W h1 => hwith_any 0 (.slice ao fs.length cap) fs (nL, sL) W h1 hok.1
        have cW2 := fun W h1 => rwith_any 0 (.slice ao fs.length cap) fs (nL, sL) W h1 hok.1
        have hwl : (fs ++ [(nL, sL)]).length ≤ 100001 := by rw [List.length_append]; have := hok.1; simp; omega
        have cR := fun W h1 h2 => hright_any 0 (.slice ao fs.length cap) fs W h1 hok h2
        have cR2 := fun W h1 => rright_any 0 (.slice ao fs.length cap) fs W h1 hok
        dsimp only at cW cW2
        rw [← hn] at cG cG2 cAl cAl2 cW cW2
        rw [← hs] at cW cW2
        have cSP := fun u1 u2 W h1 h2 => rsame_any 0 0 u1 u2 (prs (parseH s.data.toList)).1 (prs (parseH s.data.toList)).1 W h1 h2 (by omega) (by omega)
        rw [decide_eq_true rfl] at cSP
        have cSA := fun u1 u2 W h1 h2 => same_any u1 u2 (allH fs nL) (allH fs nL) W h1 h2 (by omega) (by omega)
        rw [beq_self_eq_true] at cSA
        have cSW := fun u1 u2 W h1 h2 => rsame_any 0 0 u1 u2 (fs ++ [(nL, sL)]) (fs ++ [(nL, sL)]) W h1 h2 (by omega) (by omega)
        rw [decide_eq_true rfl] at cSW
        generalize decide (0 < (allH fs nL).length) = gB at *
        generalize strB (joinH (allH fs nL)) = gS at *
        generalize allH fs nL = ps at *
        generalize hWf : fs ++ [(nL, sL)] = fw at *
        generalize parseH s.data.toList = O at *
        generalize rightH fs = R at *
        clear hPV hn hs hok htot hpl hal hwl hWf
        go_enter Tryd.func3, Tryd.ntmps3
        go_wp2_with fail
        refine cA.mono ?_
        rintro e w1 ⟨rfl, hb1⟩
        go_wp2_with fail
        refine (cS _ (HF.out.below hb1)).mono ?_
        rintro e w2 ⟨rfl, hb2⟩
        have HB2 := Lib.hid (hb1.trans (hb2.mono hb1.size))
        clear hb1 hb2 cS cA
        go_wp2_with fail
        refine (cP _ (Utf8Tabs_below HT.out HB2.out)).mono ?_
        intro e w3 hp
        obtain ⟨hb3, a3, k3, rfl, hf3⟩ := headPost_said hp
        have HB3 := Lib.hid (HB2.out.trans (hb3.mono HB2.out.size))
        have HX3 := Lib.hid hf3
        clear hp hb3 hf3 cP HB2
        go_wp2_with fail
        refine (cP2 _).mono ?_
        intro e w4 hp
        obtain ⟨hb4, a4, k4, rfl, hf4⟩ := headPost_said hp
        have HB4 := Lib.hid (HB3.out.trans (hb4.mono HB3.out.size))
        have HX4 := Lib.hid (HX3.out.below hb4)
        have HY4 := Lib.hid hf4
        clear hp hb4 hf4 cP2 HB3 HX3
        go_wp2_with fail
        refine (cSP _ _ _ HX4.out HY4.out).mono ?_
        rintro e w5 ⟨rfl, hb5⟩
        have HB5 := Lib.hid (HB4.out.trans (hb5.mono HB4.out.size))
        clear hb5 cSP HB4 HX4 HY4
        generalize (prs O).2.1 = q1 at *
        generalize (prs O).2.2 = q2 at *
        go_wp2_with fail
        refine (cPr _ (HF.out.below HB5.out) (Utf8Tabs_below HT.out HB5.out)).mono ?_
        rintro e w6 ⟨rfl, hb6⟩
        have HB6 := Lib.hid (HB5.out.trans (hb6.mono HB5.out.size))
        clear hb6 cPr HB5
        go_wp2_with fail
        refine (cPr2 _ (HF.out.below HB6.out)).mono ?_
        rintro e w7 ⟨rfl, hb7⟩
        have HB7 := Lib.hid (HB6.out.trans (hb7.mono HB6.out.size))
        clear hb7 cPr2 HB6
        go_wp2_with fail
        refine (cG _ (HF.out.below HB7.out)).mono ?_
        rintro e w8 ⟨rfl, hb8⟩
        have HB8 := Lib.hid (HB7.out.trans (hb8.mono HB7.out.size))
        clear hb8 cG HB7
        go_wp2_with fail
        refine (cG2 _ (HF.out.below HB8.out)).mono ?_
        rintro e w9 ⟨rfl, hb9⟩
        have HB9 := Lib.hid (HB8.out.trans (hb9.mono HB8.out.size))
        clear hb9 cG2 HB8
        go_wp2_with fail
        refine (cAl _ (HF.out.below HB9.out)).mono ?_
        rintro e w10 ⟨⟨u10, rfl, hown10⟩, hb10⟩
        have HB10 := Lib.hid (HB9.out.trans (hb10.mono HB9.out.size))
        have HU10 := Lib.hid (StrsF.of_own hown10)
        obtain ⟨a10, k10, rfl⟩ := owns_formF hown10
        clear hb10 hown10 cAl HB9
        go_wp2_with fail
        refine (cAl2 _ (HF.out.below HB10.out)).mono ?_
        rintro e w11 ⟨⟨u11, rfl, hown11⟩, hb11⟩
        have HB11 := Lib.hid (HB10.out.trans (hb11.mono HB10.out.size))
        have HU11 := Lib.hid (HU10.out.below hb11)
        have HV11 := Lib.hid (StrsF.of_own hown11)
        obtain ⟨a11, k11, rfl⟩ := owns_formF hown11
        clear hb11 hown11 cAl2 HB10 HU10
        go_wp2_with fail
        refine (cSA _ _ _ HU11.out HV11.out).mono ?_
        rintro e w12 ⟨rfl, n12, rfl⟩
        have HB12 := Lib.hid (HB11.out.trans ((below_drewN _ n12).mono HB11.out.size))
        clear cSA HB11 HU11 HV11
        go_wp2_with fail
        refine (cW _ (HF.out.below HB12.out)).mono ?_
        rintro e w13 ⟨⟨u13, rfl, hown13⟩, hb13⟩
        have HB13 := Lib.hid (HB12.out.trans (hb13.mono HB12.out.size))
        have HU13 := Lib.hid (Flds.of_own (lo := 0) hown13 (Nat.zero_le _))
        obtain ⟨a13, k13, rfl⟩ := owns_formF hown13
        clear hb13 hown13 cW HB12
        go_wp2_with fail
        refine (cW2 _ (HF.out.below HB13.out)).mono ?_
        rintro e w14 ⟨⟨u14, rfl, hown14⟩, hb14⟩
        have HB14 := Lib.hid (HB13.out.trans (hb14.mono HB13.out.size))
        have HU14 := Lib.hid (HU13.out.below hb14)
        have HV14 := Lib.hid (Flds.of_own (lo := 0) hown14 (Nat.zero_le _))
        obtain ⟨a14, k14, rfl⟩ := owns_formF hown14
        clear hb14 hown14 cW2 HB13 HU13
        go_wp2_with fail
        refine (cSW _ _ _ HU14.out HV14.out).mono ?_
        rintro e w15 ⟨rfl, hb15⟩
        have HB15 := Lib.hid (HB14.out.trans (hb15.mono HB14.out.size))
        clear hb15 cSW HB14 HU14 HV14
        go_wp2_with fail
        refine (cR _ (HF.out.below HB15.out) (Utf8Tabs_below HT.out HB15.out)).mono ?_
        rintro e w16 ⟨rfl, hb16⟩
        have HB16 := Lib.hid (HB15.out.trans (hb16.mono HB15.out.size))
        clear hb16 cR HB15
        go_wp2_with fail
        refine (cR2 _ (HF.out.below HB16.out)).mono ?_
        rintro e w17 ⟨rfl, hb17⟩
        have HB17 := Lib.hid (HB16.out.trans (hb17.mono HB16.out.size))
        clear hb17 cR2 HB16
        go_wp2_with fail
        go_ret
        exact ⟨rfl, HB17.out⟩

end Go.Proofs.YtfhpgobdnhlpcaaDoor
