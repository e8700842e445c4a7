/- The contracts of slices.IndexFunc and ContainsFunc at head.isWrong, and of head.Right. -/
import Derived.Test.YtfhpgobdnhlpcaaDoorHdF
import Derived.Test.YtfhpgobdnhlpcaaDoorHdL
namespace Go.Proofs.YtfhpgobdnhlpcaaDoor
open Go.RowKit Go.Shelf Go.Lib

theorem enters_isWrong : ∀ args W, (callFunc 42 args).run Tryd.prog W = .ok (.enter 42 args) W := enters_of Tryd.func42 (by kernel_rfl) rfl

set_option maxRecDepth 100000 in
set_option maxHeartbeats 2000000 in
theorem indexF_any (lo : Nat) (v : Value) (fs : List Fld) (w : World) (h : Flds lo w v fs) (hk : FldsOk fs) (hT : Tabs w) :
    Calls Tryd.prog 60 #[v, .func (.func 42) #[] #[]] w fun e w' => (∃ k : Int, e = .returned (.int .i64 k) ∧ -1 ≤ k ∧ decide (0 ≤ k) = fs.any wrongL) ∧ Below w.heap.size w w' := by
  obtain ⟨ao, cap, rfl, hc⟩ := h
  have HC := Lib.hid hc
  have HT := Lib.hid hT
  have HK := Lib.hid hk
  have hl := hk.1
  clear hc hT hk
  go_enter Tryd.func60, Tryd.ntmps60
  go_wp2_with fail
  go_loopw [8] (fun i wr => ∃ j : Nat, i = .int .i64 j ∧ j ≤ fs.length ∧ Hid (∀ m p, m < j → fs[m]? = some p → wrongL p = false) ∧ Below w.heap.size w wr) (fun i _ => fs.length - (intOf i).toNat)
  case atStart => exact ⟨0, rfl, Nat.zero_le _, Lib.hid (fun m p h => absurd h (by omega)), Below.refl _ _⟩
  case round =>
    obtain ⟨j, rfl, hj, H, hb⟩ := hrel
    have HB := Lib.hid hb
    by_cases hlt : j < fs.length
    · rcases HC.out with hnil | ⟨c, off, rfl, _, hcl, hcell⟩
      · exfalso
        rw [hnil] at hlt
        simp at hlt
      · obtain ⟨p, hp⟩ : ∃ p, fs[j]? = some p := ⟨_, List.getElem?_eq_getElem hlt⟩
        obtain ⟨x0, x1⟩ := hcell j p hp
        have a0 := (hb.cell (p := ⟨c, off + j * 2, none⟩) hcl).trans x0
        have a1 := (hb.cell (p := ⟨c, off + j * 2 + 1, none⟩) hcl).trans x1
        have jI : (j : Int) < (fs.length : Int) := by omega
        have j0 : (0 : Int) ≤ (j : Int) := by omega
        obtain ⟨hk1, hk2⟩ := HK.out.2 p (List.mem_of_getElem? hp)
        have cS := fun W (hW : Below w.heap.size w W) => isWrong_any p W hk1 hk2 (Utf8Tabs_below HT.out hW)
        clear hcell x0 x1 hb
        cases hpq : wrongL p
        · rw [hpq] at cS
          have Hn : Hid (∀ m p, m < j + 1 → fs[m]? = some p → wrongL p = false) := Lib.hid (fun m q hm hq => by
            by_cases e : m = j
            · subst e
              rw [hp] at hq
              obtain rfl := Option.some.inj hq
              exact hpq
            · exact H.out m q (by omega) hq)
          clear hpq hp H
          obtain ⟨pn, pv⟩ := p
          dsimp only at *
          generalize strB pn = PS at *
          generalize strB pv = QS at *
          go_wp2_with fail
          refine (cS _ (by first | exact HB.out | exact HB.out.alloc HB.out.size _)).mono ?_
          rintro e w2 ⟨rfl, hb2⟩
          have HB2 := Lib.hid (HB.out.trans (hb2.mono HB.out.size))
          go_wp2_with fail
          go_roundw
          case rel => exact ⟨j + 1, by go_num, by omega, Lib.hid Hn.out, HB2.out⟩
          case measure => simp [intOf]; omega
        · rw [hpq] at cS
          have HS : Hid (decide (0 ≤ (j : Int)) = fs.any wrongL) := Lib.hid (by
            rw [decide_eq_true j0]
            exact (List.any_eq_true.2 ⟨p, List.mem_of_getElem? hp, hpq⟩).symm)
          clear hpq hp H
          obtain ⟨pn, pv⟩ := p
          dsimp only at *
          generalize strB pn = PS at *
          generalize strB pv = QS at *
          go_wp2_with fail
          refine (cS _ (by first | exact HB.out | exact HB.out.alloc HB.out.size _)).mono ?_
          rintro e w2 ⟨rfl, hb2⟩
          have HB2 := Lib.hid (HB.out.trans (hb2.mono HB.out.size))
          go_wp2_with fail
          go_ret
          exact ⟨⟨(j : Int), rfl, by omega, HS.out⟩, HB2.out⟩
    · obtain rfl : j = fs.length := by omega
      have HS : Hid (decide ((0 : Int) ≤ -1) = fs.any wrongL) := Lib.hid (by
        rw [decide_eq_false (by decide)]
        symm
        rw [List.any_eq_false]
        intro p hp
        obtain ⟨m, hm⟩ := List.mem_iff_getElem?.1 hp
        have := H.out m p (List.getElem?_eq_some_iff.1 hm).1 hm
        simp [this])
      clear H hb
      go_wp2_with fail
      go_ret
      exact ⟨⟨-1, rfl, by omega, HS.out⟩, HB.out⟩

set_option maxHeartbeats 1000000 in
theorem containsF_any (lo : Nat) (v : Value) (fs : List Fld) (w : World) (h : Flds lo w v fs) (hk : FldsOk fs) (hT : Tabs w) :
    Calls Tryd.prog 41 #[v, .func (.func 42) #[] #[]] w fun e w' => e = .returned (.bool (fs.any wrongL)) ∧ Below w.heap.size w w' := by
  have cI := indexF_any lo v fs w h hk hT
  generalize fs.any wrongL = R at *
  go_enter Tryd.func41, Tryd.ntmps41
  go_wp2_with fail
  refine cI.mono ?_
  rintro e w2 ⟨⟨k, rfl, hk1, hk2⟩, hb2⟩
  have HK := Lib.hid hk2
  clear hk2 cI
  go_wp2_with fail
  go_ret
  exact ⟨ret_eq (bool_eq HK.out), hb2⟩

set_option maxHeartbeats 1000000 in
theorem hright_any (lo : Nat) (v : Value) (fs : List Fld) (w : World) (h : Flds lo w v fs) (hk : FldsOk fs) (hT : Tabs w) :
    Calls Tryd.prog 22 #[v] w fun e w' => e = .returned (.bool (rightH fs)) ∧ Below w.heap.size w w' := by
  have cI := containsF_any lo v fs w h hk hT
  obtain ⟨ao, cap, rfl, _⟩ := h
  have hl := hk.1
  clear hk hT
  by_cases h64 : fs.length ≤ 64
  · have HR : Hid (rightH fs = !fs.any wrongL) := Lib.hid (by rw [rightH, decide_eq_true h64, Bool.true_and])
    have h64I : (fs.length : Int) ≤ 64 := by omega
    cases hr : fs.any wrongL
    all_goals
      rw [hr] at cI HR
      clear hr h64
      go_enter Tryd.func22, Tryd.ntmps22
      go_wp2_with fail
      refine cI.mono ?_
      rintro e w2 ⟨rfl, hb2⟩
      go_wp2_with fail
      go_ret
      exact ⟨ret_eq (bool_eq HR.out.symm), hb2⟩
  · have HR : Hid (rightH fs = false) := Lib.hid (by rw [rightH, decide_eq_false h64, Bool.false_and])
    have h64I : (64 : Int) < (fs.length : Int) := by omega
    clear cI h64
    go_enter Tryd.func22, Tryd.ntmps22
    go_wp2_with fail
    go_ret
    exact ⟨ret_eq (bool_eq HR.out.symm), Below.refl _ _⟩

end Go.Proofs.YtfhpgobdnhlpcaaDoor
