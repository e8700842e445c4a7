/- The document's own Same of fields (sculleryref06). · The document's own SameRequest and SameResponse (sculleryref08). -/
import Derived.Test.YthbfcamfapgodaaGreatDoorGB
import Derived.Test.YthbfcamfapgodaaGreatDoorGL
import Derived.Test.YthbfcamfapgodaaGreatDoorGE
import Derived.Test.YthbfcamfapgodaaGreatDoorGA
import Derived.BigQuiet
import Derived.Deep.QuietTactic
import Derived.Laws.BytesArg

namespace Go.Proofs.YthbfcamfapgodaaGreatDoor
open Go.RowKit

theorem fld_eq (p q : Fld) : p = q ↔ ((strB p.1).toList == (strB q.1).toList) = true ∧ ((strB p.2).toList == (strB q.2).toList) = true := by
  obtain ⟨a, b⟩ := p
  obtain ⟨c, d⟩ := q
  simp only [Lib.toList_data, strB_data, beq_iff_eq, Prod.mk.injEq]
theorem flds_ne {fs gs : List Fld} {j : Nat} {p q : Fld} (hp : fs[j]? = some p) (hq : gs[j]? = some q) (h : ¬ p = q) : fs ≠ gs := fun e => by
  subst e
  rw [hp] at hq
  exact h (Option.some.inj hq)

set_option maxRecDepth 100000 in
set_option maxHeartbeats 4000000 in
theorem rsame_any (lo lo2 : Nat) (v1 v2 : Value) (fs gs : List Fld) (w : World) (h1 : Flds lo w v1 fs) (h2 : Flds lo2 w v2 gs) (hl1 : fs.length ≤ 140737488355328) (_ : gs.length ≤ 140737488355328) :
    Calls Tryz.prog 41 #[v1, v2] w fun e w' => e = .returned (.bool (decide (fs = gs))) ∧ Below w.heap.size w w' := by
  obtain ⟨ao1, cap1, rfl, hc1⟩ := h1
  obtain ⟨ao2, cap2, rfl, hc2⟩ := h2
  have HC1 := Lib.hid hc1
  have HC2 := Lib.hid hc2
  clear hc1 hc2
  by_cases hll : fs.length = gs.length
  · have HL := Lib.hid hll
    rewrite [← hll]
    clear hll
    go_enter Tryz.func41, Tryz.ntmps41
    go_wp2_with fail
    go_loopw [5] (fun i wr => ∃ j : Nat, i = .int .i64 j ∧ j ≤ fs.length ∧ Hid (∀ m, m < j → fs[m]? = gs[m]?) ∧ Below w.heap.size w wr) (fun i _ => fs.length - (intOf i).toNat)
    case atStart => exact ⟨0, rfl, Nat.zero_le _, Lib.hid (fun m h => absurd h (by omega)), Below.refl _ _⟩
    case round =>
      obtain ⟨j, rfl, hj, H, hb⟩ := hrel
      have HB := Lib.hid hb
      by_cases hlt : j < fs.length
      · rcases HC1.out with hnil | ⟨c, off, rfl, _, hcl, hcell⟩
        · exfalso
          rw [hnil] at hlt
          simp at hlt
        · rcases HC2.out with hnil2 | ⟨d, off2, rfl, _, hdl, hcell2⟩
          · exfalso
            have h0 := HL.out
            rw [hnil2, List.length_nil] at h0
            omega
          · obtain ⟨p, hp⟩ : ∃ p, fs[j]? = some p := ⟨_, List.getElem?_eq_getElem hlt⟩
            obtain ⟨q, hq⟩ : ∃ q, gs[j]? = some q := ⟨_, List.getElem?_eq_getElem (by have := HL.out; omega)⟩
            obtain ⟨x0, x1⟩ := hcell j p hp
            obtain ⟨y0, y1⟩ := hcell2 j q hq
            have a0 := (hb.cell (p := ⟨c, off + j * 2, none⟩) hcl).trans x0
            have a1 := (hb.cell (p := ⟨c, off + j * 2 + 1, none⟩) hcl).trans x1
            have b0 := (hb.cell (p := ⟨d, off2 + j * 2, none⟩) hdl).trans y0
            have b1 := (hb.cell (p := ⟨d, off2 + j * 2 + 1, none⟩) hdl).trans y1
            have jI : (j : Int) < (fs.length : Int) := by omega
            have j0 : (0 : Int) ≤ (j : Int) := by omega
            clear hcell hcell2 x0 x1 y0 y1 hb
            by_cases hpq : p = q
            · subst hpq
              have Hn : Hid (∀ m, m < j + 1 → fs[m]? = gs[m]?) := Lib.hid (fun m hm => by
                by_cases e : m = j
                · subst e; rw [hp, hq]
                · exact H.out m (by omega))
              clear hp hq H
              generalize strB p.1 = K at *
              generalize strB p.2 = S at *
              go_wp2_with fail
              go_quiet (fail)
              go_wp2_with fail
              go_roundw
              case rel => exact ⟨j + 1, by go_num, by omega, Lib.hid Hn.out, HB.out.trans ((below_drewN _ _).mono HB.out.size)⟩
              case measure => simp [intOf]; omega
            · have HS : Hid (decide (fs = gs) = false) := Lib.hid (decide_eq_false (flds_ne hp hq hpq))
              have hs := fun h1 h2 => hpq ((fld_eq p q).2 ⟨h1, h2⟩)
              clear hpq hp hq H
              go_wp2_with fail
              cases g1 : ((strB p.1).toList == (strB q.1).toList)
              · clear hs
                go_quiet (fail)
                go_wp2_with fail
                go_ret
                exact ⟨ret_eq (bool_eq HS.out.symm), HB.out.trans ((below_drewN _ _).mono HB.out.size)⟩
              · have g2 : ((strB p.2).toList == (strB q.2).toList) = false := by
                  cases g2 : ((strB p.2).toList == (strB q.2).toList)
                  · rfl
                  · exact absurd g2 (fun g2 => hs g1 g2)
                clear hs
                go_quiet (fail)
                go_wp2_with fail
                go_ret
                exact ⟨ret_eq (bool_eq HS.out.symm), HB.out.trans ((below_drewN _ _).mono HB.out.size)⟩
      · obtain rfl : j = fs.length := by omega
        have HS : Hid (decide (fs = gs) = true) := Lib.hid (by
          apply decide_eq_true
          apply List.ext_getElem?
          intro m
          by_cases hm : m < fs.length
          · exact H.out m hm
          · rw [List.getElem?_eq_none (by omega), List.getElem?_eq_none (by have := HL.out; omega)])
        clear H hb
        go_wp2_with fail
        go_ret
        exact ⟨ret_eq (bool_eq HS.out.symm), HB.out⟩
  · have HS : Hid (decide (fs = gs) = false) := Lib.hid (decide_eq_false (fun e => hll (by rw [e])))
    have n1 : ((fs.length : Int) != (gs.length : Int)) = true := by simp; omega
    clear hll
    go_enter Tryz.func41, Tryz.ntmps41
    go_wp2_with fail
    go_ret
    exact ⟨ret_eq (bool_eq HS.out.symm), Below.refl _ _⟩

end Go.Proofs.YthbfcamfapgodaaGreatDoor

namespace Go.Proofs.YthbfcamfapgodaaGreatDoor
open Go.RowKit Go.Shelf Go.Lib

def sameQ (a b : Rq) : Bool := decide (b.m = a.m) && decide (b.t = a.t) && decide (a.fs = b.fs) && decide (b.b = a.b)
def sameP (a b : Rp) : Bool := (a.n == b.n) && decide (a.fs = b.fs) && decide (b.b = a.b)

set_option maxRecDepth 100000 in
set_option maxHeartbeats 8000000 in
theorem rsameq_any (lo1 lo2 lo3 lo4 : Nat) (a b : Rq) (f1 f2 b1 b2 : Value) (w : World) (h1 : Flds lo1 w f1 a.fs) (h2 : Flds lo2 w f2 b.fs) (hb1 : BytF lo3 w b1 a.b) (hb2 : BytF lo4 w b2 b.b) (hl1 : a.fs.length ≤ 140737488355328) (hl2 : b.fs.length ≤ 140737488355328) :
    Calls Tryz.prog 12 #[.agg #[.string (strB a.m), .string (strB a.t), f1, b1], .agg #[.string (strB b.m), .string (strB b.t), f2, b2]] w fun e w' => e = .returned (.bool (sameQ a b)) ∧ Below w.heap.size w w' := by
  have HV : Hid (sameQ a b = (decide (b.m = a.m) && decide (b.t = a.t) && decide (a.fs = b.fs) && decide (b.b = a.b))) := Lib.hid rfl
  obtain ⟨m1, t1, fs1, bs1⟩ := a
  obtain ⟨m2, t2, fs2, bs2⟩ := b
  simp only at *
  have cS := fun W h h' => rsame_any lo1 lo2 f1 f2 fs1 fs2 W h h' hl1 hl2
  have e1 := name_eq m1 m2
  have e2 := name_eq t1 t2
  have e3 := name_eq bs1 bs2
  generalize sameQ _ _ = V at *
  have H1 := Lib.hid h1
  have H2 := Lib.hid h2
  have K1 := Lib.hid hb1
  have K2 := Lib.hid hb2
  obtain ⟨o1, c1, rfl, _⟩ := h1
  obtain ⟨o2, c2, rfl, _⟩ := h2
  obtain ⟨p1, d1, rfl, _⟩ := hb1
  obtain ⟨p2, d2, rfl, _⟩ := hb2
  have HB0 := Lib.hid (((Below.refl w.heap.size w).alloc (Nat.le_refl _) (.cells #[.string (strB m1), .string (strB t1), .slice o1 fs1.length c1, .slice p1 bs1.length d1] 26)).alloc (by simp) (.cells #[.string (strB m2), .string (strB t2), .slice o2 fs2.length c2, .slice p2 bs2.length d2] 26))
  have HF1 := Lib.hid (H1.out.below HB0.out)
  have HF2 := Lib.hid (H2.out.below HB0.out)
  cases hm : decide (m2 = m1)
  · rw [hm] at e1
    have HW : Hid (V = false) := Lib.hid (by rewrite [HV.out]; simp [hm])
    go_enter Tryz.func12, Tryz.ntmps12
    go_wp2_with fail
    exact bodyPost_ret (v := .bool false) (by simp [results, Tryz.results12, go_sem]) rfl ⟨by rw [HW.out], HB0.out⟩
  cases ht : decide (t2 = t1)
  · rw [hm] at e1
    rw [ht] at e2
    have HW : Hid (V = false) := Lib.hid (by rewrite [HV.out]; simp [ht])
    go_enter Tryz.func12, Tryz.ntmps12
    go_wp2_with fail
    exact bodyPost_ret (v := .bool false) (by simp [results, Tryz.results12, go_sem]) rfl ⟨by rw [HW.out], HB0.out⟩
  rw [hm] at e1
  rw [ht] at e2
  cases hf : decide (fs1 = fs2)
  · rw [hf] at cS
    have HW : Hid (V = false) := Lib.hid (by rewrite [HV.out]; simp [hf])
    go_enter Tryz.func12, Tryz.ntmps12
    go_wp2_with fail
    refine (cS _ HF1.out HF2.out).mono ?_
    rintro e w1 ⟨rfl, hb1⟩
    have HB1 := Lib.hid (HB0.out.trans (hb1.mono HB0.out.size))
    have k1 := (K1.out.below HB1.out).conv
    have k2 := (K2.out.below HB1.out).conv
    have x0 := hb1.cell (p := ⟨w.heap.size, 0, none⟩) (by simp; omega)
    have y0 := hb1.cell (p := ⟨w.heap.size + 1, 0, none⟩) (by simp <;> omega)
    have x1 := hb1.cell (p := ⟨w.heap.size, 1, none⟩) (by simp; omega)
    have y1 := hb1.cell (p := ⟨w.heap.size + 1, 1, none⟩) (by simp <;> omega)
    have x2 := hb1.cell (p := ⟨w.heap.size, 2, none⟩) (by simp; omega)
    have y2 := hb1.cell (p := ⟨w.heap.size + 1, 2, none⟩) (by simp <;> omega)
    have x3 := hb1.cell (p := ⟨w.heap.size, 3, none⟩) (by simp; omega)
    have y3 := hb1.cell (p := ⟨w.heap.size + 1, 3, none⟩) (by simp <;> omega)
    simp at x0  y0  x1  y1  x2  y2  x3  y3
    clear hb1
    go_wp2_with fail
    exact bodyPost_ret (v := .bool false) (by simp [results, Tryz.results12, go_sem]) rfl ⟨by rw [HW.out], HB1.out⟩
  rw [hf] at cS
  cases hbb : decide (bs2 = bs1)
  · rw [hbb] at e3
    have HW : Hid (V = false) := Lib.hid (by rewrite [HV.out]; simp [hbb])
    go_enter Tryz.func12, Tryz.ntmps12
    go_wp2_with fail
    refine (cS _ HF1.out HF2.out).mono ?_
    rintro e w1 ⟨rfl, hb1⟩
    have HB1 := Lib.hid (HB0.out.trans (hb1.mono HB0.out.size))
    have k1 := (K1.out.below HB1.out).conv
    have k2 := (K2.out.below HB1.out).conv
    have x0 := hb1.cell (p := ⟨w.heap.size, 0, none⟩) (by simp; omega)
    have y0 := hb1.cell (p := ⟨w.heap.size + 1, 0, none⟩) (by simp <;> omega)
    have x1 := hb1.cell (p := ⟨w.heap.size, 1, none⟩) (by simp; omega)
    have y1 := hb1.cell (p := ⟨w.heap.size + 1, 1, none⟩) (by simp <;> omega)
    have x2 := hb1.cell (p := ⟨w.heap.size, 2, none⟩) (by simp; omega)
    have y2 := hb1.cell (p := ⟨w.heap.size + 1, 2, none⟩) (by simp <;> omega)
    have x3 := hb1.cell (p := ⟨w.heap.size, 3, none⟩) (by simp; omega)
    have y3 := hb1.cell (p := ⟨w.heap.size + 1, 3, none⟩) (by simp <;> omega)
    simp at x0  y0  x1  y1  x2  y2  x3  y3
    clear hb1
    go_wp2_with fail
    exact bodyPost_ret (v := .bool false) (by simp [results, Tryz.results12, go_sem]) rfl ⟨by rw [HW.out], HB1.out⟩
  · rw [hbb] at e3
    have HW : Hid (V = true) := Lib.hid (by rewrite [HV.out]; simp [hm, ht, hf, hbb])
    go_enter Tryz.func12, Tryz.ntmps12
    go_wp2_with fail
    refine (cS _ HF1.out HF2.out).mono ?_
    rintro e w1 ⟨rfl, hb1⟩
    have HB1 := Lib.hid (HB0.out.trans (hb1.mono HB0.out.size))
    have k1 := (K1.out.below HB1.out).conv
    have k2 := (K2.out.below HB1.out).conv
    have x0 := hb1.cell (p := ⟨w.heap.size, 0, none⟩) (by simp; omega)
    have y0 := hb1.cell (p := ⟨w.heap.size + 1, 0, none⟩) (by simp <;> omega)
    have x1 := hb1.cell (p := ⟨w.heap.size, 1, none⟩) (by simp; omega)
    have y1 := hb1.cell (p := ⟨w.heap.size + 1, 1, none⟩) (by simp <;> omega)
    have x2 := hb1.cell (p := ⟨w.heap.size, 2, none⟩) (by simp; omega)
    have y2 := hb1.cell (p := ⟨w.heap.size + 1, 2, none⟩) (by simp <;> omega)
    have x3 := hb1.cell (p := ⟨w.heap.size, 3, none⟩) (by simp; omega)
    have y3 := hb1.cell (p := ⟨w.heap.size + 1, 3, none⟩) (by simp <;> omega)
    simp at x0  y0  x1  y1  x2  y2  x3  y3
    clear hb1
    go_wp2_with fail
    exact bodyPost_ret (v := .bool true) (by simp [results, Tryz.results12, go_sem]) rfl ⟨by rw [HW.out], HB1.out⟩


set_option maxRecDepth 100000 in
set_option maxHeartbeats 8000000 in
theorem rsamep_any (lo1 lo2 lo3 lo4 : Nat) (a b : Rp) (f1 f2 b1 b2 : Value) (w : World) (h1 : Flds lo1 w f1 a.fs) (h2 : Flds lo2 w f2 b.fs) (hb1 : BytF lo3 w b1 a.b) (hb2 : BytF lo4 w b2 b.b) (hl1 : a.fs.length ≤ 140737488355328) (hl2 : b.fs.length ≤ 140737488355328) :
    Calls Tryz.prog 13 #[.agg #[.int .i64 a.n, f1, b1], .agg #[.int .i64 b.n, f2, b2]] w fun e w' => e = .returned (.bool (sameP a b)) ∧ Below w.heap.size w w' := by
  have HV : Hid (sameP a b = ((a.n == b.n) && decide (a.fs = b.fs) && decide (b.b = a.b))) := Lib.hid rfl
  obtain ⟨n1, fs1, bs1⟩ := a
  obtain ⟨n2, fs2, bs2⟩ := b
  simp only at *
  have cS := fun W h h' => rsame_any lo1 lo2 f1 f2 fs1 fs2 W h h' hl1 hl2
  have e3 := name_eq bs1 bs2
  generalize sameP _ _ = V at *
  have H1 := Lib.hid h1
  have H2 := Lib.hid h2
  have K1 := Lib.hid hb1
  have K2 := Lib.hid hb2
  obtain ⟨o1, c1, rfl, _⟩ := h1
  obtain ⟨o2, c2, rfl, _⟩ := h2
  obtain ⟨p1, d1, rfl, _⟩ := hb1
  obtain ⟨p2, d2, rfl, _⟩ := hb2
  have HB0 := Lib.hid (((Below.refl w.heap.size w).alloc (Nat.le_refl _) (.cells #[.int .i64 n1, .slice o1 fs1.length c1, .slice p1 bs1.length d1] 31)).alloc (by simp) (.cells #[.int .i64 n2, .slice o2 fs2.length c2, .slice p2 bs2.length d2] 31))
  have HF1 := Lib.hid (H1.out.below HB0.out)
  have HF2 := Lib.hid (H2.out.below HB0.out)
  cases hm : (n1 == n2)
  · have HW : Hid (V = false) := Lib.hid (by rewrite [HV.out]; simp [hm])
    go_enter Tryz.func13, Tryz.ntmps13
    go_wp2_with fail
    exact bodyPost_ret (v := .bool false) (by simp [results, Tryz.results13, go_sem]) rfl ⟨by rw [HW.out], HB0.out⟩
  cases hf : decide (fs1 = fs2)
  · rw [hf] at cS
    have HW : Hid (V = false) := Lib.hid (by rewrite [HV.out]; simp [hf])
    go_enter Tryz.func13, Tryz.ntmps13
    go_wp2_with fail
    refine (cS _ HF1.out HF2.out).mono ?_
    rintro e w1 ⟨rfl, hb1⟩
    have HB1 := Lib.hid (HB0.out.trans (hb1.mono HB0.out.size))
    have k1 := (K1.out.below HB1.out).conv
    have k2 := (K2.out.below HB1.out).conv
    have x0 := hb1.cell (p := ⟨w.heap.size, 0, none⟩) (by simp; omega)
    have y0 := hb1.cell (p := ⟨w.heap.size + 1, 0, none⟩) (by simp <;> omega)
    have x1 := hb1.cell (p := ⟨w.heap.size, 1, none⟩) (by simp; omega)
    have y1 := hb1.cell (p := ⟨w.heap.size + 1, 1, none⟩) (by simp <;> omega)
    have x2 := hb1.cell (p := ⟨w.heap.size, 2, none⟩) (by simp; omega)
    have y2 := hb1.cell (p := ⟨w.heap.size + 1, 2, none⟩) (by simp <;> omega)
    simp at x0  y0  x1  y1  x2  y2
    clear hb1
    go_wp2_with fail
    exact bodyPost_ret (v := .bool false) (by simp [results, Tryz.results13, go_sem]) rfl ⟨by rw [HW.out], HB1.out⟩
  rw [hf] at cS
  cases hbb : decide (bs2 = bs1)
  · rw [hbb] at e3
    have HW : Hid (V = false) := Lib.hid (by rewrite [HV.out]; simp [hbb])
    go_enter Tryz.func13, Tryz.ntmps13
    go_wp2_with fail
    refine (cS _ HF1.out HF2.out).mono ?_
    rintro e w1 ⟨rfl, hb1⟩
    have HB1 := Lib.hid (HB0.out.trans (hb1.mono HB0.out.size))
    have k1 := (K1.out.below HB1.out).conv
    have k2 := (K2.out.below HB1.out).conv
    have x0 := hb1.cell (p := ⟨w.heap.size, 0, none⟩) (by simp; omega)
    have y0 := hb1.cell (p := ⟨w.heap.size + 1, 0, none⟩) (by simp <;> omega)
    have x1 := hb1.cell (p := ⟨w.heap.size, 1, none⟩) (by simp; omega)
    have y1 := hb1.cell (p := ⟨w.heap.size + 1, 1, none⟩) (by simp <;> omega)
    have x2 := hb1.cell (p := ⟨w.heap.size, 2, none⟩) (by simp; omega)
    have y2 := hb1.cell (p := ⟨w.heap.size + 1, 2, none⟩) (by simp <;> omega)
    simp at x0  y0  x1  y1  x2  y2
    clear hb1
    go_wp2_with fail
    exact bodyPost_ret (v := .bool false) (by simp [results, Tryz.results13, go_sem]) rfl ⟨by rw [HW.out], HB1.out⟩
  · rw [hbb] at e3
    have HW : Hid (V = true) := Lib.hid (by rewrite [HV.out]; simp [hm, hf, hbb])
    go_enter Tryz.func13, Tryz.ntmps13
    go_wp2_with fail
    refine (cS _ HF1.out HF2.out).mono ?_
    rintro e w1 ⟨rfl, hb1⟩
    have HB1 := Lib.hid (HB0.out.trans (hb1.mono HB0.out.size))
    have k1 := (K1.out.below HB1.out).conv
    have k2 := (K2.out.below HB1.out).conv
    have x0 := hb1.cell (p := ⟨w.heap.size, 0, none⟩) (by simp; omega)
    have y0 := hb1.cell (p := ⟨w.heap.size + 1, 0, none⟩) (by simp <;> omega)
    have x1 := hb1.cell (p := ⟨w.heap.size, 1, none⟩) (by simp; omega)
    have y1 := hb1.cell (p := ⟨w.heap.size + 1, 1, none⟩) (by simp <;> omega)
    have x2 := hb1.cell (p := ⟨w.heap.size, 2, none⟩) (by simp; omega)
    have y2 := hb1.cell (p := ⟨w.heap.size + 1, 2, none⟩) (by simp <;> omega)
    simp at x0  y0  x1  y1  x2  y2
    clear hb1
    go_wp2_with fail
    exact bodyPost_ret (v := .bool true) (by simp [results, Tryz.results13, go_sem]) rfl ⟨by rw [HW.out], HB1.out⟩

end Go.Proofs.YthbfcamfapgodaaGreatDoor
