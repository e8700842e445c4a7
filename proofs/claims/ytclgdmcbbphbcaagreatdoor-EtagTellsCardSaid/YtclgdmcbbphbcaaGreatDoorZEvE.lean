/- The contracts of package etag's isListed: its predicate, slices.IndexFunc and ContainsFunc over it. -/
import Derived.Test.YtclgdmcbbphbcaaGreatDoorZMEvC
import Derived.Test.YtclgdmcbbphbcaaGreatDoorZMEuI
import Derived.Test.YtclgdmcbbphbcaaGreatDoorZHdU

namespace Go.Proofs.YtclgdmcbbphbcaaGreatDoor
open Go.RowKit Go.Lib

theorem enters_likeOwn : ∀ args W, (callFunc 45 args).run Tryz.prog W = .ok (.enter 45 args) W := enters_of Tryz.func45 (by kernel_rfl) rfl

set_option maxRecDepth 100000 in
set_option maxHeartbeats 2000000 in
theorem likeOwn_any (b : Nat) (x t : Tg) (w : World) (h : BoxN w b [.bool t.1, .string (strB t.2)]) :
    Calls Tryz.prog 45 #[tgV x, .pointer (some ⟨b, 0, none⟩)] w fun e w' => e = .returned (.bool (likE x t false)) ∧ Below w.heap.size w w' := by
  have cL := fun W => elike_any x t false W
  have hal := (Below.refl w.heap.size w).alloc (Nat.le_refl _) (.cells #[.bool x.1, .string (strB x.2)] 23)
  have HB := Lib.hid hal
  have h2 := h.next hal
  have hlt := h.1
  have x0 := (h.2 0 _ rfl).1
  have x1 := (h.2 1 _ rfl).1
  have y0 := (h2.2 0 _ rfl).1
  have y1 := (h2.2 1 _ rfl).1
  clear h h2 hal
  obtain ⟨xw, xt⟩ := x
  obtain ⟨tw, tt⟩ := t
  unfold tgV at *
  dsimp only at *
  generalize strB xt = X at *
  generalize strB tt = T at *
  generalize likE (xw, xt) (tw, tt) false = R at *
  go_enter Tryz.func45, Tryz.ntmps45
  go_wp2_with fail
  refine (cL _).mono ?_
  rintro e w2 ⟨rfl, hb⟩
  have HB2 := Lib.hid (HB.out.trans (hb.mono HB.out.size))
  clear hb
  go_wp2_with fail
  go_ret
  exact ⟨rfl, HB2.out⟩

set_option maxRecDepth 100000 in
set_option maxHeartbeats 4000000 in
theorem idxE_any (lo b : Nat) (v : Value) (xs : List Tg) (t : Tg) (w : World) (h : Tags lo w v xs) (hX : BoxN w b [.bool t.1, .string (strB t.2)]) (hl : xs.length ≤ 100000) :
    Calls Tryz.prog 62 #[v, .func (.func 45) #[] #[.pointer (some ⟨b, 0, none⟩)]] w fun e w' => (∃ k : Int, e = .returned (.int .i64 k) ∧ -1 ≤ k ∧ decide (0 ≤ k) = xs.any (fun x => likE x t false)) ∧ Below w.heap.size w w' := by
  obtain ⟨ao, cap, rfl, hc⟩ := h
  have HC := Lib.hid hc
  have HX := Lib.hid hX
  have hEn := enters_likeOwn
  clear hc hX
  go_enter Tryz.func62, Tryz.ntmps62
  go_wp2_with fail
  go_loopw [8] (fun i wr => ∃ j : Nat, i = .int .i64 j ∧ j ≤ xs.length ∧ Hid (∀ m p, m < j → xs[m]? = some p → likE p t false = false) ∧ Hid (Below w.heap.size w wr)) (fun i _ => xs.length - (RowKit.intOf i).toNat)
  case atStart => exact ⟨0, rfl, Nat.zero_le _, Lib.hid (fun m p h => absurd h (by omega)), Lib.hid (Below.refl _ _)⟩
  case round =>
    obtain ⟨j, rfl, hj, H, HB⟩ := hrel
    by_cases hlt : j < xs.length
    · rcases HC.out with hnil | ⟨c, off, rfl, _, hcl, hcell⟩
      · exfalso
        rw [hnil] at hlt
        simp at hlt
      · obtain ⟨p, hp⟩ : ∃ p, xs[j]? = some p := ⟨_, List.getElem?_eq_getElem hlt⟩
        obtain ⟨x0, x1⟩ := hcell j p hp
        have a0 := (HB.out.cell (p := ⟨c, off + j * 2, none⟩) hcl).trans x0
        have a1 := (HB.out.cell (p := ⟨c, off + j * 2 + 1, none⟩) hcl).trans x1
        have jI : (j : Int) < (xs.length : Int) := by omega
        have j0 : (0 : Int) ≤ (j : Int) := by omega
        have cS := fun W (hW : Below w.heap.size w W) => likeOwn_any b p t W (HX.out.next hW)
        clear hcell x0 x1
        cases hpq : likE p t false
        · rw [hpq] at cS
          have Hn : Hid (∀ m p, m < j + 1 → xs[m]? = some p → likE p t false = false) := Lib.hid (fun m q hm hq => by
            by_cases e : m = j
            · subst e
              rw [hp] at hq
              obtain rfl := Option.some.inj hq
              exact hpq
            · exact H.out m q (by omega) hq)
          clear hpq hp H
          obtain ⟨pw, pt⟩ := p
          unfold tgV at cS
          dsimp only at *
          generalize strB pt = PS at *
          go_wp2_with fail
          refine (cS _ HB.out).mono ?_
          rintro e w2 ⟨rfl, hb2⟩
          have HB2 := Lib.hid (HB.out.trans (hb2.mono HB.out.size))
          go_wp2_with fail
          go_roundw
          case rel => exact ⟨j + 1, by go_num, by omega, Hn, HB2⟩
          case measure => simp [RowKit.intOf]; omega
        · rw [hpq] at cS
          have HS : Hid (decide (0 ≤ (j : Int)) = xs.any (fun x => likE x t false)) := Lib.hid (by
            rw [decide_eq_true j0]
            exact (List.any_eq_true.2 ⟨p, List.mem_of_getElem? hp, hpq⟩).symm)
          clear hpq hp H
          obtain ⟨pw, pt⟩ := p
          unfold tgV at cS
          dsimp only at *
          generalize strB pt = PS at *
          go_wp2_with fail
          refine (cS _ HB.out).mono ?_
          rintro e w2 ⟨rfl, hb2⟩
          have HB2 := Lib.hid (HB.out.trans (hb2.mono HB.out.size))
          go_wp2_with fail
          go_ret
          exact ⟨⟨(j : Int), rfl, by omega, HS.out⟩, HB2.out⟩
    · obtain rfl : j = xs.length := by omega
      have HS : Hid (decide ((0 : Int) ≤ -1) = xs.any (fun x => likE x t false)) := Lib.hid (by
        rw [decide_eq_false (by decide)]
        symm
        rw [List.any_eq_false]
        intro p hp
        obtain ⟨m, hm⟩ := List.mem_iff_getElem?.1 hp
        have := H.out m p (List.getElem?_eq_some_iff.1 hm).1 hm
        simp [this])
      clear H
      go_wp2_with fail
      go_ret
      exact ⟨⟨-1, rfl, by omega, HS.out⟩, HB.out⟩

set_option maxHeartbeats 1000000 in
theorem conE_any (lo b : Nat) (v : Value) (xs : List Tg) (t : Tg) (w : World) (h : Tags lo w v xs) (hX : BoxN w b [.bool t.1, .string (strB t.2)]) (hl : xs.length ≤ 100000) :
    Calls Tryz.prog 44 #[v, .func (.func 45) #[] #[.pointer (some ⟨b, 0, none⟩)]] w fun e w' => e = .returned (.bool (xs.any fun x => likE x t false)) ∧ Below w.heap.size w w' := by
  have cI := idxE_any lo b v xs t w h hX hl
  generalize (xs.any fun x => likE x t false) = R at *
  go_enter Tryz.func44, Tryz.ntmps44
  go_wp2_with fail
  refine cI.mono ?_
  rintro e w2 ⟨⟨k, rfl, hk1, hk2⟩, hb2⟩
  have HK := Lib.hid hk2
  clear hk2 cI
  go_wp2_with fail
  go_ret
  exact ⟨ret_eq (bool_eq HK.out), hb2⟩

end Go.Proofs.YtclgdmcbbphbcaaGreatDoor
