/- The document's own Right of fields (sculleryref06). -/
import Derived.Test.YthbfcamfapgodaaGreatDoorGH
import Derived.Test.YthbfcamfapgodaaGreatDoorHA
import Derived.Deep.DeepCutAuto
import Derived.Deep.RegionHeld3
import Derived.Deep.RegionWith
import Derived.Deep.AppendLies
import Derived.BigQuiet

namespace Go.Proofs.YthbfcamfapgodaaGreatDoor
open Go.RowKit Go.Shelf Go.Lib

theorem right_no {fs : List Fld} {j : Nat} {p : Fld} (hp : fs[j]? = some p) (h : wrongL p = true) : rightH fs = false := by
  rewrite [rightH, List.any_eq_true.2 ⟨p, List.mem_of_getElem? hp, h⟩]
  simp
theorem right_yes {fs : List Fld} (h : ∀ m p, m < fs.length → fs[m]? = some p → wrongL p = false) : rightH fs = decide (fs.length ≤ 64) := by
  have : fs.any wrongL = false := by
    rewrite [List.any_eq_false]
    intro p hp
    obtain ⟨m, hm⟩ := List.mem_iff_getElem?.1 hp
    have := h m p (List.getElem?_eq_some_iff.1 hm).1 hm
    simp [this]
  rewrite [rightH, this]
  simp

set_option maxRecDepth 100000 in
set_option maxHeartbeats 8000000 in
theorem rright_any (lo : Nat) (v : Value) (fs : List Fld) (w : World) (h : Flds lo w v fs) (hk : FldsOk fs) :
    Calls Tryz.prog 73 #[v] w fun e w' => e = .returned (.bool (rightH fs)) ∧ Below w.heap.size w w' := by
  obtain ⟨ao, cap, rfl, hc⟩ := h
  have HC := Lib.hid hc
  have HK := Lib.hid hk
  have hl := hk.1
  clear hc hk
  go_enter Tryz.func73, Tryz.ntmps73
  go_wp2_with fail
  go_loopw [3] (fun i wr => ∃ j : Nat, i = .int .i64 j ∧ j ≤ fs.length ∧ Hid (∀ m p, m < j → fs[m]? = some p → wrongL p = false) ∧ Below w.heap.size w wr) (fun i _ => fs.length - (intOf i).toNat)
  case atStart => exact ⟨0, rfl, Nat.zero_le _, Lib.hid (fun m p h => absurd h (by omega)), Below.refl _ _⟩
  case round =>
    obtain ⟨j, rfl, hj, H, hb⟩ := hrel
    have HB := Lib.hid hb
    by_cases hlt : j < fs.length
    · rcases HC.out with hnil | ⟨c, off, rfl, _, hcl, hcell⟩
      · exfalso
        rw [hnil] at hlt
        simp at hlt
      · obtain ⟨p, hp⟩ : ∃ p, fs[j]? = some p := ⟨_, List.getElem?_eq_getElem hlt⟩
        obtain ⟨x0, x1⟩ := hcell j p hp
        have a0 := (hb.cell (p := ⟨c, off + j * 2, none⟩) hcl).trans x0
        have a1 := (hb.cell (p := ⟨c, off + j * 2 + 1, none⟩) hcl).trans x1
        have jI : (j : Int) < (fs.length : Int) := by omega
        have j0 : (0 : Int) ≤ (j : Int) := by omega
        obtain ⟨h1, h2⟩ := HK.out.2 p (List.mem_of_getElem? hp)
        have HNo : Hid (wrongL p = true → rightH fs = false) := Lib.hid (right_no hp)
        have HYes : Hid (wrongL p = false → ∀ m p, m < j + 1 → fs[m]? = some p → wrongL p = false) := Lib.hid (fun hpq m q hm hq => by
          by_cases e : m = j
          · subst e
            rw [hp] at hq
            obtain rfl := Option.some.inj hq
            exact hpq
          · exact H.out m q (by omega) hq)
        clear hcell x0 x1 hb hp H
        obtain ⟨N, V⟩ := p
        dsimp only at h1 h2 a0 a1
        have cK := fun W => rtoken_any (strB N) W (by rewrite [strB_size]; unfold maxLen; omega)
        have cW := fun W (h : heldF wr (strB N) (strB V) W) => (rlower_any (strB N) W (by rewrite [strB_size]; omega)).mono fun e w' (hh : _ ∧ Below W.heap.size W w') => (⟨hh.1, heldF_next h hh.2⟩ : _ ∧ heldF wr (strB N) (strB V) w')
        have cX := fun W => rtext_any (strB V) W (by rewrite [strB_size]; unfold maxLen; omega)
        rw [strB_data] at cK cW cX
        have z1 := strB_size N
        have z2 := strB_size V
        have hL : wrongL (N, V) = (decide (2000 < (strB N).size + 2 + (strB V).size) || !tokL N || !(N == lowL N) || !txtL V) := by rw [z1, z2] <;> rfl
        have hLN : (N == lowL N) = ((strB (lowL N)).toList == (strB N).toList) := by
          rewrite [Lib.toList_data, Lib.toList_data, strB_data, strB_data]
          exact Bool.beq_comm
        rw [hLN] at hL
        have y1 : (strB N).size ≤ 100000 := by omega
        have y2 : (strB V).size ≤ 100000 := by omega
        clear hLN z1 z2 h1 h2
        generalize wrongL (N, V) = R at *
        generalize strB (lowL N) = SL at *
        generalize tokL N = a at *
        generalize txtL V = b at *
        generalize strB N = SN at *
        generalize strB V = SV at *
        have hbA := (heldF_new wr SN SV).2.2.1
        have hS0 := heldF_next (heldF_new wr SN SV) (Below.refl _ _).drew
        have e1 : IntKind.i64.wrap ((SN.size : Int) + (SV.size : Int)) = (SN.size : Int) + (SV.size : Int) := IntWalk.i64_in _ (by omega)
        cases a
        · have HR : Hid (rightH fs = false) := Lib.hid (HNo.out (by rewrite [hL]; simp))
          clear hL cW cX HNo HYes
          go_upto_region 5 with fail
          go_quiet ((go_at_call 31; exact Calls.quiet_of_same ((cK _).mono (fun _ _ h => ⟨h.1, h.2.symm⟩))))
          all_goals
            go_wp2_with fail
            go_ret
            exact ⟨by rw [HR.out] <;> rfl, HB.out.trans ((hbA.trans ((below_drewN _ _).mono hbA.size)).mono HB.out.size)⟩
        · rw [Bool.not_true, Bool.or_false] at hL
          cases hq : (SL.toList == SN.toList)
          rotate_left
          · rw [hq] at hL
            cases b
            · have HR : Hid (rightH fs = false) := Lib.hid (HNo.out (by rewrite [hL]; simp))
              clear hL HNo HYes
              go_upto_region 5 with fail
              first
              | (go_region_law (first | (go_simp; go_at_call 31; refine (cK _).mono ?_; rintro e w' ⟨rfl, rfl⟩) | (go_simp; go_at_call 63; refine (cW _ hS0).mono ?_; rintro e w' ⟨rfl, hh⟩; obtain ⟨k0, k1, k2, k3⟩ := hh) | (go_simp; go_at_call 40; refine (cX _).mono ?_; rintro e w' ⟨rfl, rfl⟩)))
              | fail "law"
              all_goals
                go_wp2_with fail
                go_ret
                exact ⟨by rw [HR.out] <;> rfl, HB.out.trans (k2.mono HB.out.size)⟩
            · have hL2 : R = decide (2000 < SN.size + 2 + SV.size) := by rewrite [hL]; simp
              by_cases hg : 1998 < SN.size + SV.size
              · have HR : Hid (rightH fs = false) := Lib.hid (HNo.out (by rewrite [hL2]; exact decide_eq_true (by omega)))
                have hgI : (1998 : Int) < (SN.size : Int) + (SV.size : Int) := by omega
                clear hL hL2 HNo HYes hg
                go_upto_region 5 with fail
                go_region_held3 (fun W => W.cell? ⟨wr.heap.size, 0, none⟩ = some (.string SN) ∧ W.cell? ⟨wr.heap.size, 1, none⟩ = some (.string SV) ∧ Below wr.heap.size wr W ∧ wr.heap.size < W.heap.size) (with_reducible assumption) (first | (go_at_call 31; refine (cK _).mono ?_; rintro e w' ⟨rfl, rfl⟩) | (go_at_call 63; with_reducible refine (cW _ (by with_reducible assumption)).mono ?_; rintro e w' ⟨rfl, hh⟩) | (go_at_call 40; refine (cX _).mono ?_; rintro e w' ⟨rfl, rfl⟩))
                all_goals
                  go_wp2_with fail
                  go_ret
                  exact ⟨by rw [HR.out] <;> rfl, HB.out.trans ((by assumption : heldF wr SN SV _).2.2.1.mono HB.out.size)⟩
              · have HN := Lib.hid (HYes.out (by rewrite [hL2]; exact decide_eq_false (by omega)))
                have hgI : ¬ (1998 : Int) < (SN.size : Int) + (SV.size : Int) := by omega
                clear hL hL2 HNo HYes hg
                go_upto_region 5 with fail
                go_region_held3 (fun W => W.cell? ⟨wr.heap.size, 0, none⟩ = some (.string SN) ∧ W.cell? ⟨wr.heap.size, 1, none⟩ = some (.string SV) ∧ Below wr.heap.size wr W ∧ wr.heap.size < W.heap.size) (with_reducible assumption) (first | (go_at_call 31; refine (cK _).mono ?_; rintro e w' ⟨rfl, rfl⟩) | (go_at_call 63; with_reducible refine (cW _ (by with_reducible assumption)).mono ?_; rintro e w' ⟨rfl, hh⟩) | (go_at_call 40; refine (cX _).mono ?_; rintro e w' ⟨rfl, rfl⟩))
                all_goals
                  have HB2 := Lib.hid (HB.out.trans ((by assumption : heldF wr SN SV _).2.2.1.mono HB.out.size))
                  go_wp2_with fail
                  go_roundw
                  case rel => exact ⟨j + 1, by go_num, by omega, Lib.hid HN.out, HB2.out⟩
                  case measure => simp [intOf]; omega
          · have HR : Hid (rightH fs = false) := Lib.hid (HNo.out (by rewrite [hL, hq]; simp))
            clear hL cX HNo HYes
            go_upto_region 5 with fail
            first
            | (go_region_law (first | (go_simp; go_at_call 31; refine (cK _).mono ?_; rintro e w' ⟨rfl, rfl⟩) | (go_simp; go_at_call 63; refine (cW _ hS0).mono ?_; rintro e w' ⟨rfl, hh⟩; obtain ⟨k0, k1, k2, k3⟩ := hh)))
            | fail "law"
            all_goals
              go_wp2_with fail
              go_ret
              exact ⟨by rw [HR.out] <;> rfl, HB.out.trans (k2.mono HB.out.size)⟩
    · obtain rfl : j = fs.length := by omega
      have HS := Lib.hid (right_yes H.out)
      obtain ⟨b, hbb⟩ : ∃ b, decide (fs.length ≤ 64) = b := ⟨_, rfl⟩
      have d : decide ((fs.length : Int) ≤ 64) = b := by rewrite [← hbb]; exact decide_eq_decide.2 (by omega)
      rw [hbb] at HS
      clear H hb hbb
      go_wp2_with fail
      go_ret
      exact ⟨ret_eq (bool_eq HS.out.symm), HB.out⟩

end Go.Proofs.YthbfcamfapgodaaGreatDoor
