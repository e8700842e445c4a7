/- The contracts of the document's own which and guess (sculleryref05). -/
import Derived.Test.YtfabkceefigmhaaDoorRdG
import Derived.Deep.RegionHeld3
namespace Go.Proofs.YtfabkceefigmhaaDoor
open Go.RowKit

theorem whG_step (p : List UInt8) (a k : Nat) (h : p ≠ moT a) : whG p a (k + 1) = whG p (a + 1) k := by rw [whG, if_neg h]
theorem whG_hit (p : List UInt8) (a k : Nat) (h : p = moT a) : whG p a (k + 1) = a := by rw [whG, if_pos h]
theorem later_calls {f : FuncId} {args : Array Value} {v : Value} (w : World) (h : ∀ W, Calls Tryd.prog f args W fun e w' => e = .returned v ∧ Below W.heap.size W w') : ∀ W, Below w.heap.size w W → Calls Tryd.prog f args W fun e w' => e = .returned v ∧ Below w.heap.size w w' :=
  fun W hW => (h W).mono fun _ _ ⟨he, hb⟩ => ⟨he, hW.trans (hb.mono hW.size)⟩

set_option maxRecDepth 100000 in
set_option maxHeartbeats 1000000 in
theorem rwhich_any (l : List UInt8) (i : Nat) (w : World) (hi : i ≤ 1000) (hl : l.length ≤ 1000) :
    Calls Tryd.prog 40 #[.string (strB l), .int .i64 i] w fun e w' => e = .returned (.int .i64 (whV l i : Nat)) ∧ Below w.heap.size w w' := by
  have hz := strB_size l
  have hV : Hid (whV l i = whG ((l.drop i).take 3) 1 12) := Lib.hid rfl
  obtain ⟨p, hp⟩ : ∃ p, p = (l.drop i).take 3 := ⟨_, rfl⟩
  rw [← hp] at hV
  have hx : ((strB l).extract i (i + 3)).toList = p := by
    rw [Lib.toList_data, Lib.extract_data, strB_data, hp, Nat.add_sub_cancel_left]
  have hshort : ¬ i + 3 ≤ (strB l).size → p.length < 3 := by
    intro h
    rw [hp, List.length_take, List.length_drop]
    omega
  have hlm : ∀ j, 1 ≤ j → j < 13 → (moT j).length = 3 := len_mo
  have hSz : (strB l).size ≤ 1000 := by omega
  clear hp hz
  generalize strB l = t at *
  generalize whV l i = v at *
  have d0 : decide ((i : Int) ≥ 0) = true := by simp
  have wI := wrap_small ((i : Int) + 3) (by omega) (by omega)
  by_cases hin : i + 3 ≤ t.size
  · have d1 : decide ((i : Int) + 3 ≤ (t.size : Int)) = true := by simp; omega
    have j1 : (0 : Int) ≤ (i : Int) := by omega
    have j2 : (i : Int) ≤ (i : Int) + 3 := by omega
    have j3 : (i : Int) + 3 ≤ (t.size : Int) := by omega
    have j4 : ((i : Int) + 3).toNat = i + 3 := by omega
    clear hshort
    go_enter Tryd.func40, Tryd.ntmps40
    go_wp2_with fail
    go_loopw [5] (fun x wr => ∃ m : Nat, x = .int .i64 m ∧ 1 ≤ m ∧ m ≤ 13 ∧ Hid (v = whG p m (13 - m)) ∧ Below w.heap.size w wr) (fun x _ => 13 - (intOf x).toNat)
    case atStart => exact ⟨1, rfl, by omega, by omega, hV, Below.refl _ _⟩
    case round =>
      obtain ⟨m, rfl, hm1, hm2, hG, hb⟩ := hrel
      by_cases hlt : m < 13
      · have cM := later_calls w fun W => rmoname_any m W hm1 hlt
        have dm : decide ((m : Int) ≤ 12) = true := by simp; omega
        have hs := strB_data (moT m)
        have hbd := hb.drew
        by_cases heq : p = moT m
        · have HN : Hid (v = m) := Lib.hid (by rw [hG.out, show 13 - m = (12 - m) + 1 by omega, whG_hit _ _ _ heq])
          have hq : ((t.extract i (i + 3)).toList == (strB (moT m)).toList) = true := by rw [hx, Lib.toList_data, hs, heq]; simp
          clear hx heq hG hlm hs
          generalize strB (moT m) = s at *
          go_wp2_with fail
          go_region_held3 (fun W => Below w.heap.size w W) (first | assumption | go_keep) (first | (go_at_call 34; refine (cM _ (by assumption)).mono ?_; rintro e w' ⟨rfl, hb2⟩))
          all_goals go_wp2_with fail
          all_goals go_ret
          all_goals exact ⟨by rw [HN.out]; rfl, by assumption⟩
        · have HN : Hid (v = whG p (m + 1) (13 - (m + 1))) := Lib.hid (by rw [hG.out, show 13 - m = (12 - m) + 1 by omega, whG_step _ _ _ heq, show 13 - (m + 1) = 12 - m by omega])
          have hq : ((t.extract i (i + 3)).toList == (strB (moT m)).toList) = false := by rw [hx, Lib.toList_data, hs]; simpa using heq
          clear hx heq hG hlm hs
          generalize strB (moT m) = s at *
          go_wp2_with fail
          go_region_held3 (fun W => Below w.heap.size w W) (first | assumption | go_keep) (first | (go_at_call 34; refine (cM _ (by assumption)).mono ?_; rintro e w' ⟨rfl, hb2⟩))
          all_goals go_wp2_with fail
          all_goals go_roundw
          case rel => exact ⟨m + 1, by go_num, by omega, by omega, HN, by assumption⟩
          case measure => simp [intOf]; omega
      · obtain rfl : m = 13 := by omega
        have HN : Hid (v = 0) := Lib.hid hG.out
        clear hx hG hlm
        go_wp2_with fail
        go_ret
        exact ⟨by rw [HN.out]; rfl, hb⟩
  · have d1 : decide ((i : Int) + 3 ≤ (t.size : Int)) = false := by simp; omega
    have hshort := hshort hin
    clear hx
    go_enter Tryd.func40, Tryd.ntmps40
    go_wp2_with fail
    go_loopw [5] (fun x wr => ∃ m : Nat, x = .int .i64 m ∧ 1 ≤ m ∧ m ≤ 13 ∧ Hid (v = whG p m (13 - m)) ∧ Below w.heap.size w wr) (fun x _ => 13 - (intOf x).toNat)
    case atStart => exact ⟨1, rfl, by omega, by omega, hV, Below.refl _ _⟩
    case round =>
      obtain ⟨m, rfl, hm1, hm2, hG, hb⟩ := hrel
      by_cases hlt : m < 13
      · have dm : decide ((m : Int) ≤ 12) = true := by simp; omega
        have heq : p ≠ moT m := by
          intro h
          rw [h, hlm m hm1 hlt] at hshort
          omega
        have HN : Hid (v = whG p (m + 1) (13 - (m + 1))) := Lib.hid (by rw [hG.out, show 13 - m = (12 - m) + 1 by omega, whG_step _ _ _ heq, show 13 - (m + 1) = 12 - m by omega])
        clear heq hG hlm hshort
        go_wp2_with fail
        go_quiet (fail)
        go_wp2_with fail
        go_roundw
        case rel => exact ⟨m + 1, by go_num, by omega, by omega, HN, hb.trans ((below_drewN _ _).mono hb.size)⟩
        case measure => simp [intOf]; omega
      · obtain rfl : m = 13 := by omega
        have HN : Hid (v = 0) := Lib.hid hG.out
        clear hG hlm hshort
        go_wp2_with fail
        go_ret
        exact ⟨by rw [HN.out]; rfl, hb⟩

end Go.Proofs.YtfabkceefigmhaaDoor
