/- The contract of head.isWrong. -/
import Derived.Test.YthbfcamfapgodaaGreatDoorGB
import Derived.Deep.DeepCutAuto
import Derived.Deep.RegionHeld3
import Derived.Deep.RegionWith
import Derived.Deep.AppendLies
import Derived.BigQuiet

namespace Go.Proofs.YthbfcamfapgodaaGreatDoor
open Go.RowKit Go.Shelf Go.Lib

abbrev heldF (w : World) (a b : ByteArray) (W : World) : Prop := W.cell? ⟨w.heap.size, 0, none⟩ = some (.string a) ∧ W.cell? ⟨w.heap.size, 1, none⟩ = some (.string b) ∧ Below w.heap.size w W ∧ w.heap.size < W.heap.size
theorem heldF_next {w W W1 : World} {a b : ByteArray} (h : heldF w a b W) (hb : Below W.heap.size W W1) : heldF w a b W1 :=
  ⟨(hb.cell (p := ⟨w.heap.size, 0, none⟩) h.2.2.2).trans h.1, (hb.cell (p := ⟨w.heap.size, 1, none⟩) h.2.2.2).trans h.2.1, h.2.2.1.trans (hb.mono h.2.2.1.size), Nat.lt_of_lt_of_le h.2.2.2 hb.size⟩
theorem heldF_new (w : World) (a b : ByteArray) : heldF w a b (w.alloc (.cells #[.string a, .string b] 70)) :=
  ⟨by simp, by simp, (Below.refl _ _).alloc (Nat.le_refl _) _, by simp⟩

set_option maxRecDepth 100000 in
set_option maxHeartbeats 4000000 in
theorem isWrong_any (p : Fld) (w : World) (h1 : p.1.length ≤ 100000) (h2 : p.2.length ≤ 100000) (hT : Tabs w) :
    Calls Tryz.prog 112 #[.agg #[.string (strB p.1), .string (strB p.2)]] w fun e w' => e = .returned (.bool (wrongL p)) ∧ Below w.heap.size w w' := by
  obtain ⟨N, V⟩ := p
  dsimp only at h1 h2 ⊢
  have HT := Lib.hid hT
  clear hT
  have cK := fun W => token_any (strB N) W (by rewrite [strB_size]; unfold maxLen; omega)
  have cW := fun W (h : heldF w (strB N) (strB V) W) => (lower_any (strB N) W (by rewrite [strB_size]; unfold maxLen; omega)).mono fun e w' (hh : _ ∧ Below W.heap.size W w') => (⟨hh.1, heldF_next h hh.2⟩ : _ ∧ heldF w (strB N) (strB V) w')
  have cX := fun W (h : heldF w (strB N) (strB V) W) => (text_any (strB V) W (by rewrite [strB_size]; unfold maxLen; omega) (Utf8Tabs_below HT.out h.2.2.1)).mono fun e w' (hh : _ ∧ Below W.heap.size W w') => (⟨hh.1, heldF_next h hh.2⟩ : _ ∧ heldF w (strB N) (strB V) w')
  rw [strB_data] at cK cW cX
  rw [show (⟨(lowL N).toArray⟩ : ByteArray) = strB (lowL N) from rfl] at cW
  have z1 := strB_size N
  have z2 := strB_size V
  have hL : wrongL (N, V) = (decide (2000 < (strB N).size + 2 + (strB V).size) || !tokL N || !(N == lowL N) || !txtL V) := by rw [z1, z2] <;> rfl
  have hLN : (N == lowL N) = ((strB N).toList == (strB (lowL N)).toList) := by rw [Lib.toList_data, Lib.toList_data, strB_data, strB_data]
  rw [hLN] at hL
  have y1 : (strB N).size ≤ 100000 := by omega
  have y2 : (strB V).size ≤ 100000 := by omega
  clear hLN z1 z2 h1 h2
  generalize wrongL (N, V) = R at *
  generalize strB (lowL N) = SL at *
  generalize tokL N = a at *
  generalize txtL V = b at *
  generalize strB N = SN at *
  generalize strB V = SV at *
  have hbA := (heldF_new w SN SV).2.2.1
  have hS0 := heldF_next (heldF_new w SN SV) (Below.refl _ _).drew
  have e1 : IntKind.i64.wrap ((SN.size : Int) + 2) = (SN.size : Int) + 2 := IntWalk.i64_in _ (by omega)
  have e2 : IntKind.i64.wrap ((SN.size : Int) + 2 + (SV.size : Int)) = (SN.size : Int) + 2 + (SV.size : Int) := IntWalk.i64_in _ (by omega)
  by_cases hg : 2000 < SN.size + 2 + SV.size
  · have HR : Hid (R = true) := Lib.hid (by rw [hL, decide_eq_true hg] <;> rfl)
    have hgI : (2000 : Int) < (SN.size : Int) + 2 + (SV.size : Int) := by omega
    clear hL cK cW cX hg
    go_enter Tryz.func112, Tryz.ntmps112
    go_upto_region 1 with fail
    go_quiet (fail)
    all_goals
      go_wp2_with fail
      go_ret
      exact ⟨by rw [HR.out] <;> rfl, hbA.trans ((below_drewN _ _).mono hbA.size)⟩
  · have hgI : decide ((2000 : Int) < (SN.size : Int) + 2 + (SV.size : Int)) = false := decide_eq_false (by omega)
    rw [decide_eq_false hg, Bool.false_or] at hL
    clear hg
    cases a
    · have HR : Hid (R = true) := Lib.hid (by rw [hL] <;> rfl)
      clear hL cW cX
      go_enter Tryz.func112, Tryz.ntmps112
      go_upto_region 1 with fail
      go_quiet ((go_at_call 42; exact Calls.quiet_of_same ((cK _).mono (fun _ _ h => ⟨h.1, h.2.symm⟩))))
      all_goals
        go_wp2_with fail
        go_ret
        exact ⟨by rw [HR.out] <;> rfl, hbA.trans ((below_drewN _ _).mono hbA.size)⟩
    · rw [Bool.not_true, Bool.false_or] at hL
      cases hq : (SN.toList == SL.toList)
      · have HR : Hid (R = true) := Lib.hid (by rw [hL, hq] <;> rfl)
        clear hL cX
        go_enter Tryz.func112, Tryz.ntmps112
        go_upto_region 1 with fail
        first
        | (go_region_law (first | (go_simp; go_at_call 42; refine (cK _).mono ?_; rintro e w' ⟨rfl, rfl⟩) | (go_simp; go_at_call 57; refine (cW _ hS0).mono ?_; rintro e w' ⟨rfl, hh⟩; obtain ⟨k0, k1, k2, k3⟩ := hh)))
        | fail "law"
        all_goals
          go_wp2_with fail
          go_ret
          exact ⟨by rw [HR.out] <;> rfl, k2⟩
      · have HR : Hid (R = !b) := Lib.hid (by rw [hL, hq] <;> rfl)
        clear hL
        cases b
        all_goals
          go_enter Tryz.func112, Tryz.ntmps112
          go_upto_region 1 with fail
          go_region_held3 (fun W => W.cell? ⟨w.heap.size, 0, none⟩ = some (.string SN) ∧ W.cell? ⟨w.heap.size, 1, none⟩ = some (.string SV) ∧ Below w.heap.size w W ∧ w.heap.size < W.heap.size) (with_reducible assumption) (first | (go_at_call 42; refine (cK _).mono ?_; rintro e w' ⟨rfl, rfl⟩) | (go_at_call 57; with_reducible refine (cW _ (by with_reducible assumption)).mono ?_; rintro e w' ⟨rfl, hh⟩) | (go_at_call 68; with_reducible refine (cX _ (by with_reducible assumption)).mono ?_; rintro e w' ⟨rfl, hh⟩))
          all_goals
            go_wp2_with fail
            go_ret
            exact ⟨by rw [HR.out] <;> rfl, (by assumption : heldF w SN SV _).2.2.1⟩

end Go.Proofs.YthbfcamfapgodaaGreatDoor
