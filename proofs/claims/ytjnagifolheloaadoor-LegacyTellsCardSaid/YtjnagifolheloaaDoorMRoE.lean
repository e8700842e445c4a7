/- The document's own Same of directives (sculleryref10). -/
import Derived.Test.YtjnagifolheloaaDoorMDirP
import Derived.WalkKit
import Derived.WalkSpells
import Derived.WalkLawsBesides
import Derived.BigQuiet
import Derived.Deep.QuietTactic

namespace Go.Proofs.YtjnagifolheloaaDoor
open Go.RowKit

theorem dir_eq (p q : Dir) : p = q ↔ ((strB p.1).toList == (strB q.1).toList) = true ∧ ((strB p.2.1).toList == (strB q.2.1).toList) = true ∧ (p.2.2 == q.2.2) = true := by
  obtain ⟨a, b, x⟩ := p
  obtain ⟨c, d, y⟩ := q
  simp only [Lib.toList_data, strB_data, beq_iff_eq, Prod.mk.injEq]
theorem dirs_ne {fs gs : List Dir} {j : Nat} {p q : Dir} (hp : fs[j]? = some p) (hq : gs[j]? = some q) (h : ¬ p = q) : fs ≠ gs := fun e => by
  subst e
  rw [hp] at hq
  exact h (Option.some.inj hq)

set_option maxRecDepth 100000 in
set_option maxHeartbeats 4000000 in
theorem rsameD_any (lo lo2 : Nat) (v1 v2 : Value) (fs gs : List Dir) (w : World) (h1 : Dirs lo w v1 fs) (h2 : Dirs lo2 w v2 gs) (hl1 : fs.length ≤ 140737488355328) (_ : gs.length ≤ 140737488355328) :
    Calls Tryd.prog 10 #[v1, v2] w fun e w' => e = .returned (.bool (decide (fs = gs))) ∧ Below w.heap.size w w' := by
  obtain ⟨ao1, cap1, rfl, hc1⟩ := h1
  obtain ⟨ao2, cap2, rfl, hc2⟩ := h2
  have HC1 := Lib.hid hc1
  have HC2 := Lib.hid hc2
  clear hc1 hc2
  by_cases hll : fs.length = gs.length
  · have HL := Lib.hid hll
    rw [← hll]
    clear hll
    go_enter Tryd.func10, Tryd.ntmps10
    go_wp2_with fail
    go_loopw [5] (fun i wr => ∃ j : Nat, i = .int .i64 j ∧ j ≤ fs.length ∧ Hid (∀ m, m < j → fs[m]? = gs[m]?) ∧ Below w.heap.size w wr) (fun i _ => fs.length - (intOf i).toNat)
    case atStart => exact ⟨0, rfl, Nat.zero_le _, Lib.hid (fun m h => absurd h (by omega)), Below.refl _ _⟩
    case round =>
      obtain ⟨j, rfl, hj, H, hb⟩ := hrel
      have HB := Lib.hid hb
      by_cases hlt : j < fs.length
      · rcases HC1.out with hnil | ⟨c, off, rfl, _, hcl, hcell⟩
        · exfalso
          rw [hnil] at hlt
          simp at hlt
        · rcases HC2.out with hnil2 | ⟨d, off2, rfl, _, hdl, hcell2⟩
          · exfalso
            have h0 := HL.out
            rw [hnil2, List.length_nil] at h0
            omega
          · obtain ⟨p, hp⟩ : ∃ p, fs[j]? = some p := ⟨_, List.getElem?_eq_getElem hlt⟩
            obtain ⟨q, hq⟩ : ∃ q, gs[j]? = some q := ⟨_, List.getElem?_eq_getElem (by have := HL.out; omega)⟩
            obtain ⟨x0, x1, x2⟩ := hcell j p hp
            obtain ⟨y0, y1, y2⟩ := hcell2 j q hq
            have a0 := (hb.cell (p := ⟨c, off + j * 3, none⟩) hcl).trans x0
            have a1 := (hb.cell (p := ⟨c, off + j * 3 + 1, none⟩) hcl).trans x1
            have b0 := (hb.cell (p := ⟨d, off2 + j * 3, none⟩) hdl).trans y0
            have b1 := (hb.cell (p := ⟨d, off2 + j * 3 + 1, none⟩) hdl).trans y1
            have a2 := (hb.cell (p := ⟨c, off + j * 3 + 2, none⟩) hcl).trans x2
            have b2 := (hb.cell (p := ⟨d, off2 + j * 3 + 2, none⟩) hdl).trans y2
            have jI : (j : Int) < (fs.length : Int) := by omega
            have j0 : (0 : Int) ≤ (j : Int) := by omega
            clear hcell hcell2 x0 x1 x2 y0 y1 y2 hb
            by_cases hpq : p = q
            · subst hpq
              have Hn : Hid (∀ m, m < j + 1 → fs[m]? = gs[m]?) := Lib.hid (fun m hm => by
                by_cases e : m = j
                · subst e; rw [hp, hq]
                · exact H.out m (by omega))
              clear hp hq H
              generalize strB p.1 = K at *
              generalize strB p.2.1 = S at *
              generalize p.2.2 = T at *
              go_wp2_with fail
              go_quiet (fail)
              go_wp2_with fail
              go_roundw
              case rel => exact ⟨j + 1, by go_num, by omega, Lib.hid Hn.out, HB.out.trans ((below_drewN _ _).mono HB.out.size)⟩
              case measure => simp [intOf]; omega
            · have HS : Hid (decide (fs = gs) = false) := Lib.hid (decide_eq_false (dirs_ne hp hq hpq))
              have hs := fun h1 h2 h3 => hpq ((dir_eq p q).2 ⟨h1, h2, h3⟩)
              clear hpq hp hq H
              go_wp2_with fail
              generalize p.2.2 = T1 at *
              generalize q.2.2 = T2 at *
              cases g1 : ((strB p.1).toList == (strB q.1).toList)
              · clear hs
                go_quiet (fail)
                go_wp2_with fail
                go_ret
                exact ⟨ret_eq (bool_eq HS.out.symm), HB.out.trans ((below_drewN _ _).mono HB.out.size)⟩
              · cases g2 : ((strB p.2.1).toList == (strB q.2.1).toList)
                · clear hs
                  go_quiet (fail)
                  go_wp2_with fail
                  go_ret
                  exact ⟨ret_eq (bool_eq HS.out.symm), HB.out.trans ((below_drewN _ _).mono HB.out.size)⟩
                · have g3 : (T1 == T2) = false := by
                    cases g3 : (T1 == T2)
                    · rfl
                    · exact absurd g3 (fun g3 => hs g1 g2 g3)
                  clear hs
                  cases T1 <;> cases T2
                  all_goals first | (exact absurd g3 (by decide)) | skip
                  all_goals
                    go_quiet (fail)
                    go_wp2_with fail
                    go_ret
                    exact ⟨ret_eq (bool_eq HS.out.symm), HB.out.trans ((below_drewN _ _).mono HB.out.size)⟩
      · obtain rfl : j = fs.length := by omega
        have HS : Hid (decide (fs = gs) = true) := Lib.hid (by
          apply decide_eq_true
          apply List.ext_getElem?
          intro m
          by_cases hm : m < fs.length
          · exact H.out m hm
          · rw [List.getElem?_eq_none (by omega), List.getElem?_eq_none (by have := HL.out; omega)])
        clear H hb
        go_wp2_with fail
        go_ret
        exact ⟨ret_eq (bool_eq HS.out.symm), HB.out⟩
  · have HS : Hid (decide (fs = gs) = false) := Lib.hid (decide_eq_false (fun e => hll (by rw [e])))
    have n1 : ((fs.length : Int) != (gs.length : Int)) = true := by simp; omega
    clear hll
    go_enter Tryd.func10, Tryd.ntmps10
    go_wp2_with fail
    go_ret
    exact ⟨ret_eq (bool_eq HS.out.symm), Below.refl _ _⟩

end Go.Proofs.YtjnagifolheloaaDoor
