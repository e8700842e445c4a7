/- The walk of the law AgeTells. -/
import Derived.Test.YtgffnjdmhpfneaaDoorZMAgC
import Derived.Test.YtgffnjdmhpfneaaDoorZMSizA
import Derived.Test.YtgffnjdmhpfneaaDoorZDirS
import Derived.Test.YtgffnjdmhpfneaaDoorZMBasP
import Derived.Test.YtgffnjdmhpfneaaDoorZMAhA
import Derived.Deep.RegionHeld3
import Derived.IntWalk

namespace Go.Proofs.YtgffnjdmhpfneaaDoor
open Go.RowKit Go.Shelf Go.Lib

set_option maxRecDepth 100000 in
set_option maxHeartbeats 8000000 in
theorem atells_walk (v nv : Value) (fs : List Fld) (xs : List Int) (t0 t1 t2 : Int) (w : World) (h : Flds 0 w v fs) (hk : FldsIn fs) (hN : IntsF w nv xs) (hC : Cal w) :
    Calls Tryd.prog 3 #[v, nv, .agg #[.int .i64 t0, .int .i64 t1, .int .i64 t2]] w fun e w' => e = .returned (.bool true) ∧ Below w.heap.size w w' := by
  have HN := Lib.hid hN
  obtain ⟨no, nc, rfl, _⟩ := id hN
  clear hN
  have HC := Lib.hid hC
  have HF := Lib.hid h
  have cA := fun W (hb : Below w.heap.size w W) => awake13_any W (Cal.below HC.out hb)
  have cS := fun W (hb : Below w.heap.size w W) => rsize_any 0 v fs W (HF.out.below hb) hk
  obtain ⟨ao, cap, rfl, _⟩ := id h
  clear h hk hC
  have HB0 := Lib.hid ((Below.refl w.heap.size w).alloc (Nat.le_refl _) (.cells #[.int .i64 t0, .int .i64 t1, .int .i64 t2] 24))
  have HT0 := Lib.hid (BoxN.made w [.int .i64 t0, .int .i64 t1, .int .i64 t2] 24)
  by_cases d1 : 2000 < szH 0 fs
  · have g1 : (2000 : Int) < ((szH 0 fs : Nat) : Int) := by omega
    generalize szH 0 fs = Y at *
    go_enter Tryd.func3, Tryd.ntmps3
    go_wp2_with fail
    refine (cA _ HB0.out).mono ?_
    rintro e w1 ⟨rfl, hb⟩
    have HT := Lib.hid (HT0.out.next hb)
    have HB := Lib.hid (HB0.out.trans (hb.mono HB0.out.size))
    clear hb cA
    have x0 := (HT.out.2 0 _ rfl).1
    have x1 := (HT.out.2 1 _ rfl).1
    have x2 := (HT.out.2 2 _ rfl).1
    go_wp2_with fail
    refine (cS _ HB.out).mono ?_
    rintro e w2 ⟨rfl, hb⟩
    clear x0 x1 x2
    have HT := Lib.hid (HT.out.next hb)
    have HB := Lib.hid (HB.out.trans (hb.mono HB.out.size))
    clear hb
    have x0 := (HT.out.2 0 _ rfl).1
    have x1 := (HT.out.2 1 _ rfl).1
    have x2 := (HT.out.2 2 _ rfl).1
    go_wp2_with fail
    go_ret
    exact ⟨rfl, HB.out⟩
  have g1 : ¬ (2000 : Int) < ((szH 0 fs : Nat) : Int) := by omega
  by_cases d2 : 20 < xs.length
  · have g2 : (20 : Int) < (xs.length : Int) := by omega
    generalize szH 0 fs = Y at *
    go_enter Tryd.func3, Tryd.ntmps3
    go_wp2_with fail
    refine (cA _ HB0.out).mono ?_
    rintro e w1 ⟨rfl, hb⟩
    have HT := Lib.hid (HT0.out.next hb)
    have HB := Lib.hid (HB0.out.trans (hb.mono HB0.out.size))
    clear hb cA
    have x0 := (HT.out.2 0 _ rfl).1
    have x1 := (HT.out.2 1 _ rfl).1
    have x2 := (HT.out.2 2 _ rfl).1
    go_wp2_with fail
    refine (cS _ HB.out).mono ?_
    rintro e w2 ⟨rfl, hb⟩
    clear x0 x1 x2
    have HT := Lib.hid (HT.out.next hb)
    have HB := Lib.hid (HB.out.trans (hb.mono HB.out.size))
    clear hb
    have x0 := (HT.out.2 0 _ rfl).1
    have x1 := (HT.out.2 1 _ rfl).1
    have x2 := (HT.out.2 2 _ rfl).1
    go_wp2_with fail
    go_ret
    exact ⟨rfl, HB.out⟩
  have g2 : ¬ (20 : Int) < (xs.length : Int) := by omega
  obtain ⟨hfo, hfp⟩ := szH_ok fs (by omega)
  have hjs : ∀ n, (joinH (allH fs n)).length ≤ 90000 := fun n => Nat.le_trans (join_small fs n) (by omega)
  have cS1 := fun W (hb : Below w.heap.size w W) => asum_any (.slice no xs.length nc) xs W (HN.out.below hb) (by omega)
  have cS2 := fun W (hb : Below w.heap.size w W) => rsum_any (.slice no xs.length nc) xs W (HN.out.below hb) (by omega)
  have cC1 := fun W => aclamp_any t0 W
  have cC2 := fun W => rclamp_any t0 W
  have cT1 := fun W (hb : Below w.heap.size w W) => atold_any 0 (.slice ao fs.length cap) fs W (HF.out.below hb) hfo hjs
  have cT2 := fun W (hb : Below w.heap.size w W) => rtold_any 0 (.slice ao fs.length cap) fs W (HF.out.below hb) hfo hjs
  have cD1 := fun W (hb : Below w.heap.size w W) => adate_any 0 (.slice ao fs.length cap) fs t0 W (HF.out.below hb) hfo hjs (Cal.below HC.out hb)
  have cD2 := fun W (hb : Below w.heap.size w W) => rdate_any 0 (.slice ao fs.length cap) fs t0 W (HF.out.below hb) hfo hjs
  have cU1 := fun W (hb : Below w.heap.size w W) => acurrent_any 0 (.slice ao fs.length cap) fs t0 t1 t2 W (HF.out.below hb) hfo hjs (Cal.below HC.out hb)
  have cU2 := fun W (hb : Below w.heap.size w W) => rcurrent_any 0 (.slice ao fs.length cap) fs t0 t1 t2 W (HF.out.below hb) hfo hjs
  generalize curA fs t0 t1 t2 = UM at *
  generalize sumA xs = SM at *
  generalize clA t0 = CM at *
  generalize toldA fs = TM at *
  generalize dateA fs t0 = DM at *
  generalize szH 0 fs = Y at *
  clear hfo hfp hjs d1 d2
  go_enter Tryd.func3, Tryd.ntmps3
  go_wp2_with fail
  refine (cA _ HB0.out).mono ?_
  rintro e w1 ⟨rfl, hb⟩
  have HT := Lib.hid (HT0.out.next hb)
  have HB := Lib.hid (HB0.out.trans (hb.mono HB0.out.size))
  clear hb cA
  have x0 := (HT.out.2 0 _ rfl).1
  have x1 := (HT.out.2 1 _ rfl).1
  have x2 := (HT.out.2 2 _ rfl).1
  go_wp2_with fail
  refine (cS _ HB.out).mono ?_
  rintro e w2 ⟨rfl, hb⟩
  clear x0 x1 x2
  have HT := Lib.hid (HT.out.next hb)
  have HB := Lib.hid (HB.out.trans (hb.mono HB.out.size))
  clear hb
  have x0 := (HT.out.2 0 _ rfl).1
  have x1 := (HT.out.2 1 _ rfl).1
  have x2 := (HT.out.2 2 _ rfl).1
  go_wp2_with fail
  generalize hV : w2 = V at *
  clear hV
  have hS : threeC V V.drew w.heap.size (.int .i64 t0) (.int .i64 t1) (.int .i64 t2) := threeC_next (drewA V) ⟨x0, x1, x2, Below.refl _ _⟩
  have k1 : ∀ W, threeC V W w.heap.size (.int .i64 t0) (.int .i64 t1) (.int .i64 t2) → Calls Tryd.prog 8 #[.slice no xs.length nc] W fun e W => e = .returned (.int .i64 SM) ∧ threeC V W w.heap.size (.int .i64 t0) (.int .i64 t1) (.int .i64 t2) := fun W h => (cS1 _ (HB.out.trans (Below.mono (show Below V.heap.size V W from h.2.2.2) HB.out.size))).mono fun e w' hh => ⟨hh.1, hh.2 ▸ h⟩
  have k2 : ∀ W, threeC V W w.heap.size (.int .i64 t0) (.int .i64 t1) (.int .i64 t2) → Calls Tryd.prog 9 #[.slice no xs.length nc] W fun e W => e = .returned (.int .i64 SM) ∧ threeC V W w.heap.size (.int .i64 t0) (.int .i64 t1) (.int .i64 t2) := fun W h => (cS2 _ (HB.out.trans (Below.mono (show Below V.heap.size V W from h.2.2.2) HB.out.size))).mono fun e w' hh => ⟨hh.1, hh.2 ▸ h⟩
  have k3 : ∀ W, threeC V W w.heap.size (.int .i64 t0) (.int .i64 t1) (.int .i64 t2) → Calls Tryd.prog 10 #[.int .i64 t0] W fun e W => e = .returned (.int .i64 CM) ∧ threeC V W w.heap.size (.int .i64 t0) (.int .i64 t1) (.int .i64 t2) := fun W h => (cC1 _).mono fun e w' hh => ⟨hh.1, hh.2 ▸ h⟩
  have k4 : ∀ W, threeC V W w.heap.size (.int .i64 t0) (.int .i64 t1) (.int .i64 t2) → Calls Tryd.prog 11 #[.int .i64 t0] W fun e W => e = .returned (.int .i64 CM) ∧ threeC V W w.heap.size (.int .i64 t0) (.int .i64 t1) (.int .i64 t2) := fun W h => (cC2 _).mono fun e w' hh => ⟨hh.1, hh.2 ▸ h⟩
  have k5 : ∀ W, threeC V W w.heap.size (.int .i64 t0) (.int .i64 t1) (.int .i64 t2) → Calls Tryd.prog 12 #[.slice ao fs.length cap] W fun e W => e = .returned (.int .i64 TM) ∧ threeC V W w.heap.size (.int .i64 t0) (.int .i64 t1) (.int .i64 t2) := fun W h => (cT1 _ (HB.out.trans (Below.mono (show Below V.heap.size V W from h.2.2.2) HB.out.size))).mono fun e w' hh => ⟨hh.1, threeC_next hh.2 h⟩
  have k6 : ∀ W, threeC V W w.heap.size (.int .i64 t0) (.int .i64 t1) (.int .i64 t2) → Calls Tryd.prog 13 #[.slice ao fs.length cap] W fun e W => e = .returned (.int .i64 TM) ∧ threeC V W w.heap.size (.int .i64 t0) (.int .i64 t1) (.int .i64 t2) := fun W h => (cT2 _ (HB.out.trans (Below.mono (show Below V.heap.size V W from h.2.2.2) HB.out.size))).mono fun e w' hh => ⟨hh.1, threeC_next hh.2 h⟩
  have k7 : ∀ W, threeC V W w.heap.size (.int .i64 t0) (.int .i64 t1) (.int .i64 t2) → Calls Tryd.prog 14 #[.slice ao fs.length cap, .int .i64 t0] W fun e W => e = .returned (.int .i64 DM) ∧ threeC V W w.heap.size (.int .i64 t0) (.int .i64 t1) (.int .i64 t2) := fun W h => (cD1 _ (HB.out.trans (Below.mono (show Below V.heap.size V W from h.2.2.2) HB.out.size))).mono fun e w' hh => ⟨hh.1, threeC_next hh.2 h⟩
  have k8 : ∀ W, threeC V W w.heap.size (.int .i64 t0) (.int .i64 t1) (.int .i64 t2) → Calls Tryd.prog 15 #[.slice ao fs.length cap, .int .i64 t0] W fun e W => e = .returned (.int .i64 DM) ∧ threeC V W w.heap.size (.int .i64 t0) (.int .i64 t1) (.int .i64 t2) := fun W h => (cD2 _ (HB.out.trans (Below.mono (show Below V.heap.size V W from h.2.2.2) HB.out.size))).mono fun e w' hh => ⟨hh.1, threeC_next hh.2 h⟩
  have k9 : ∀ W, threeC V W w.heap.size (.int .i64 t0) (.int .i64 t1) (.int .i64 t2) → Calls Tryd.prog 16 #[.slice ao fs.length cap, .int .i64 t0, .int .i64 t1, .int .i64 t2] W fun e W => e = .returned (.int .i64 UM) ∧ threeC V W w.heap.size (.int .i64 t0) (.int .i64 t1) (.int .i64 t2) := fun W h => (cU1 _ (HB.out.trans (Below.mono (show Below V.heap.size V W from h.2.2.2) HB.out.size))).mono fun e w' hh => ⟨hh.1, threeC_next hh.2 h⟩
  have k10 : ∀ W, threeC V W w.heap.size (.int .i64 t0) (.int .i64 t1) (.int .i64 t2) → Calls Tryd.prog 17 #[.slice ao fs.length cap, .int .i64 t0, .int .i64 t1, .int .i64 t2] W fun e W => e = .returned (.int .i64 UM) ∧ threeC V W w.heap.size (.int .i64 t0) (.int .i64 t1) (.int .i64 t2) := fun W h => (cU2 _ (HB.out.trans (Below.mono (show Below V.heap.size V W from h.2.2.2) HB.out.size))).mono fun e w' hh => ⟨hh.1, threeC_next hh.2 h⟩
  clear cS1 cS2 cC1 cC2 cT1 cT2 cD1 cD2 cU1 cU2
  refine wp_region_held_drew (S := (fun W => W.cell? ⟨w.heap.size, 0, none⟩ = some (.int .i64 t0) ∧ W.cell? ⟨w.heap.size, 1, none⟩ = some (.int .i64 t1) ∧ W.cell? ⟨w.heap.size, 2, none⟩ = some (.int .i64 t2) ∧ belowA V W)) (by kernel_rfl) ?_ (fun hHeld => ?_)
  · exact hS
  refine wpAnyH_take (i := 0) (v := ?_) rfl (by kernel_rfl) (by kernel_rfl) (by kernel_rfl) (fun _ _ _ h => h) (Or.inl ⟨by rfl, ?_⟩) (by assumption) ?_
  rotate_left 1
  · intro w hSw; (try dsimp only at hSw); go_simp; (try with_reducible rfl)
  try simp only [Act.put, List.getElem_toArray, List.getElem_cons_zero, List.setIfInBounds_toArray, List.set_cons_zero, List.set_cons_succ]
  refine wpAnyH_take (i := 1) (v := ?_) rfl (by kernel_rfl) (by kernel_rfl) (by kernel_rfl) (fun _ _ _ h => h) (Or.inl ⟨by rfl, ?_⟩) (by assumption) ?_
  rotate_left 1
  · intro w hSw; (try dsimp only at hSw); go_simp; (try with_reducible rfl)
  try simp only [Act.put, List.getElem_toArray, List.getElem_cons_succ, List.getElem_cons_zero, List.setIfInBounds_toArray, List.set_cons_zero, List.set_cons_succ]
  refine wpAnyH_take (i := 2) (v := ?_) rfl (by kernel_rfl) (by kernel_rfl) (by kernel_rfl) (fun _ _ _ h => h) (Or.inl ⟨by rfl, ?_⟩) (by assumption) ?_
  rotate_left 1
  · intro w hSw; (try dsimp only at hSw); go_simp; (try with_reducible rfl)
  try simp only [Act.put, List.getElem_toArray, List.getElem_cons_succ, List.getElem_cons_zero, List.setIfInBounds_toArray, List.set_cons_zero, List.set_cons_succ]
  refine wpAnyH_take (i := 4) (v := ?_) rfl (by kernel_rfl) (by kernel_rfl) (by kernel_rfl) (fun _ _ _ h => h) (Or.inl ⟨by rfl, ?_⟩) (by assumption) ?_
  rotate_left 1
  · intro w hSw; (try dsimp only at hSw); go_simp; (try with_reducible rfl)
  try simp only [Act.put, List.getElem_toArray, List.getElem_cons_succ, List.getElem_cons_zero, List.setIfInBounds_toArray, List.set_cons_zero, List.set_cons_succ]
  refine wpAnyH_ready (rs := [3]) (by kernel_rfl) (by simp) ?_
  refine AllReadyH.cons rfl (fun K hK => ?_) AllReadyH.nil
  go_simp
  refine Calls.mono (k1 _ hHeld) ?_
  rintro e w6 ⟨rfl, hh⟩
  dsimp only
  refine hK.out _ _ hh (fun hHeld => ?_)
  clear hK K hh
  try simp only [Act.put, List.getElem_toArray, List.getElem_cons_succ, List.getElem_cons_zero, List.setIfInBounds_toArray, List.set_cons_zero, List.set_cons_succ]
  refine wpAnyH_ready (rs := [5]) (by kernel_rfl) (by simp) ?_
  refine AllReadyH.cons rfl (fun K hK => ?_) AllReadyH.nil
  go_simp
  refine Calls.mono (k2 _ hHeld) ?_
  rintro e w6 ⟨rfl, hh⟩
  dsimp only
  refine hK.out _ _ hh (fun hHeld => ?_)
  clear hK K hh
  try simp only [Act.put, List.getElem_toArray, List.getElem_cons_succ, List.getElem_cons_zero, List.setIfInBounds_toArray, List.set_cons_zero, List.set_cons_succ]
  refine wpAnyH_take (i := 6) (v := ?_) rfl (by kernel_rfl) (by kernel_rfl) (by kernel_rfl) (fun _ _ _ h => h) (Or.inl ⟨by rfl, ?_⟩) (by assumption) ?_
  rotate_left 1
  · intro w hSw; (try dsimp only at hSw); go_simp; (try with_reducible rfl)
  try simp only [Act.put, List.getElem_toArray, List.getElem_cons_succ, List.getElem_cons_zero, List.setIfInBounds_toArray, List.set_cons_zero, List.set_cons_succ]
  refine wpAnyH_take (i := 7) (v := ?_) rfl (by kernel_rfl) (by kernel_rfl) (by kernel_rfl) (fun _ _ _ h => h) (Or.inl ⟨by rfl, ?_⟩) (by assumption) ?_
  rotate_left 1
  · intro w hSw; (try dsimp only at hSw); go_simp; (try with_reducible rfl)
  try simp only [Act.put, List.getElem_toArray, List.getElem_cons_succ, List.getElem_cons_zero, List.setIfInBounds_toArray, List.set_cons_zero, List.set_cons_succ]
  refine wpAnyH_take (i := 8) (v := ?_) rfl (by kernel_rfl) (by kernel_rfl) (by kernel_rfl) (fun _ _ _ h => h) (Or.inl ⟨by rfl, ?_⟩) (by assumption) ?_
  rotate_left 1
  · intro w hSw; (try dsimp only at hSw); go_simp; (try with_reducible rfl)
  try simp only [Act.put, List.getElem_toArray, List.getElem_cons_succ, List.getElem_cons_zero, List.setIfInBounds_toArray, List.set_cons_zero, List.set_cons_succ]
  refine wpAnyH_take (i := 9) (v := ?_) rfl (by kernel_rfl) (by kernel_rfl) (by kernel_rfl) (fun _ _ _ h => h) (Or.inl ⟨by rfl, ?_⟩) (by assumption) ?_
  rotate_left 1
  · intro w hSw; (try dsimp only at hSw); go_simp; (try with_reducible rfl)
  try simp only [Act.put, List.getElem_toArray, List.getElem_cons_succ, List.getElem_cons_zero, List.setIfInBounds_toArray, List.set_cons_zero, List.set_cons_succ]
  refine wpAnyH_take (i := 10) (v := ?_) rfl (by kernel_rfl) (by kernel_rfl) (by kernel_rfl) (fun _ _ _ h => h) (Or.inl ⟨by rfl, ?_⟩) (by assumption) ?_
  rotate_left 1
  · intro w hSw; (try dsimp only at hSw); go_simp; (try with_reducible rfl)
  try simp only [Act.put, List.getElem_toArray, List.getElem_cons_succ, List.getElem_cons_zero, List.setIfInBounds_toArray, List.set_cons_zero, List.set_cons_succ]
  refine wpAnyH_take (i := 12) (v := ?_) rfl (by kernel_rfl) (by kernel_rfl) (by kernel_rfl) (fun _ _ _ h => h) (Or.inl ⟨by rfl, ?_⟩) (by assumption) ?_
  rotate_left 1
  · intro w hSw; (try dsimp only at hSw); go_simp; (try with_reducible rfl)
  try simp only [Act.put, List.getElem_toArray, List.getElem_cons_succ, List.getElem_cons_zero, List.setIfInBounds_toArray, List.set_cons_zero, List.set_cons_succ]
  refine wpAnyH_take (i := 13) (v := ?_) rfl (by kernel_rfl) (by kernel_rfl) (by kernel_rfl) (fun _ _ _ h => h) (Or.inl ⟨by rfl, ?_⟩) (by assumption) ?_
  rotate_left 1
  · intro w hSw; (try dsimp only at hSw); go_simp; (try with_reducible rfl)
  try simp only [Act.put, List.getElem_toArray, List.getElem_cons_succ, List.getElem_cons_zero, List.setIfInBounds_toArray, List.set_cons_zero, List.set_cons_succ]
  refine wpAnyH_ready (rs := [11]) (by kernel_rfl) (by simp) ?_
  refine AllReadyH.cons rfl (fun K hK => ?_) AllReadyH.nil
  go_simp
  refine Calls.mono (k3 _ hHeld) ?_
  rintro e w6 ⟨rfl, hh⟩
  dsimp only
  refine hK.out _ _ hh (fun hHeld => ?_)
  clear hK K hh
  try simp only [Act.put, List.getElem_toArray, List.getElem_cons_succ, List.getElem_cons_zero, List.setIfInBounds_toArray, List.set_cons_zero, List.set_cons_succ]
  refine wpAnyH_ready (rs := [14]) (by kernel_rfl) (by simp) ?_
  refine AllReadyH.cons rfl (fun K hK => ?_) AllReadyH.nil
  go_simp
  refine Calls.mono (k4 _ hHeld) ?_
  rintro e w6 ⟨rfl, hh⟩
  dsimp only
  refine hK.out _ _ hh (fun hHeld => ?_)
  clear hK K hh
  try simp only [Act.put, List.getElem_toArray, List.getElem_cons_succ, List.getElem_cons_zero, List.setIfInBounds_toArray, List.set_cons_zero, List.set_cons_succ]
  refine wpAnyH_take (i := 15) (v := ?_) rfl (by kernel_rfl) (by kernel_rfl) (by kernel_rfl) (fun _ _ _ h => h) (Or.inl ⟨by rfl, ?_⟩) (by assumption) ?_
  rotate_left 1
  · intro w hSw; (try dsimp only at hSw); go_simp; (try with_reducible rfl)
  try simp only [Act.put, List.getElem_toArray, List.getElem_cons_succ, List.getElem_cons_zero, List.setIfInBounds_toArray, List.set_cons_zero, List.set_cons_succ]
  refine wpAnyH_take (i := 16) (v := ?_) rfl (by kernel_rfl) (by kernel_rfl) (by kernel_rfl) (fun _ _ _ h => h) (Or.inl ⟨by rfl, ?_⟩) (by assumption) ?_
  rotate_left 1
  · intro w hSw; (try dsimp only at hSw); go_simp; (try with_reducible rfl)
  try simp only [Act.put, List.getElem_toArray, List.getElem_cons_succ, List.getElem_cons_zero, List.setIfInBounds_toArray, List.set_cons_zero, List.set_cons_succ]
  refine wpAnyH_take (i := 17) (v := ?_) rfl (by kernel_rfl) (by kernel_rfl) (by kernel_rfl) (fun _ _ _ h => h) (Or.inl ⟨by rfl, ?_⟩) (by assumption) ?_
  rotate_left 1
  · intro w hSw; (try dsimp only at hSw); go_simp; (try with_reducible rfl)
  try simp only [Act.put, List.getElem_toArray, List.getElem_cons_succ, List.getElem_cons_zero, List.setIfInBounds_toArray, List.set_cons_zero, List.set_cons_succ]
  refine wpAnyH_take (i := 18) (v := ?_) rfl (by kernel_rfl) (by kernel_rfl) (by kernel_rfl) (fun _ _ _ h => h) (Or.inl ⟨by rfl, ?_⟩) (by assumption) ?_
  rotate_left 1
  · intro w hSw; (try dsimp only at hSw); go_simp; (try with_reducible rfl)
  try simp only [Act.put, List.getElem_toArray, List.getElem_cons_succ, List.getElem_cons_zero, List.setIfInBounds_toArray, List.set_cons_zero, List.set_cons_succ]
  refine wpAnyH_take (i := 20) (v := ?_) rfl (by kernel_rfl) (by kernel_rfl) (by kernel_rfl) (fun _ _ _ h => h) (Or.inl ⟨by rfl, ?_⟩) (by assumption) ?_
  rotate_left 1
  · intro w hSw; (try dsimp only at hSw); go_simp; (try with_reducible rfl)
  try simp only [Act.put, List.getElem_toArray, List.getElem_cons_succ, List.getElem_cons_zero, List.setIfInBounds_toArray, List.set_cons_zero, List.set_cons_succ]
  refine wpAnyH_ready (rs := [19]) (by kernel_rfl) (by simp) ?_
  refine AllReadyH.cons rfl (fun K hK => ?_) AllReadyH.nil
  go_simp
  refine Calls.mono (k5 _ hHeld) ?_
  rintro e w6 ⟨rfl, hh⟩
  dsimp only
  refine hK.out _ _ hh (fun hHeld => ?_)
  clear hK K hh
  try simp only [Act.put, List.getElem_toArray, List.getElem_cons_succ, List.getElem_cons_zero, List.setIfInBounds_toArray, List.set_cons_zero, List.set_cons_succ]
  refine wpAnyH_ready (rs := [21]) (by kernel_rfl) (by simp) ?_
  refine AllReadyH.cons rfl (fun K hK => ?_) AllReadyH.nil
  go_simp
  refine Calls.mono (k6 _ hHeld) ?_
  rintro e w6 ⟨rfl, hh⟩
  dsimp only
  refine hK.out _ _ hh (fun hHeld => ?_)
  clear hK K hh
  try simp only [Act.put, List.getElem_toArray, List.getElem_cons_succ, List.getElem_cons_zero, List.setIfInBounds_toArray, List.set_cons_zero, List.set_cons_succ]
  refine wpAnyH_take (i := 22) (v := ?_) rfl (by kernel_rfl) (by kernel_rfl) (by kernel_rfl) (fun _ _ _ h => h) (Or.inl ⟨by rfl, ?_⟩) (by assumption) ?_
  rotate_left 1
  · intro w hSw; (try dsimp only at hSw); go_simp; (try with_reducible rfl)
  try simp only [Act.put, List.getElem_toArray, List.getElem_cons_succ, List.getElem_cons_zero, List.setIfInBounds_toArray, List.set_cons_zero, List.set_cons_succ]
  refine wpAnyH_take (i := 23) (v := ?_) rfl (by kernel_rfl) (by kernel_rfl) (by kernel_rfl) (fun _ _ _ h => h) (Or.inl ⟨by rfl, ?_⟩) (by assumption) ?_
  rotate_left 1
  · intro w hSw; (try dsimp only at hSw); go_simp; (try with_reducible rfl)
  try simp only [Act.put, List.getElem_toArray, List.getElem_cons_succ, List.getElem_cons_zero, List.setIfInBounds_toArray, List.set_cons_zero, List.set_cons_succ]
  refine wpAnyH_take (i := 24) (v := ?_) rfl (by kernel_rfl) (by kernel_rfl) (by kernel_rfl) (fun _ _ _ h => h) (Or.inl ⟨by rfl, ?_⟩) (by assumption) ?_
  rotate_left 1
  · intro w hSw; (try dsimp only at hSw); go_simp; (try with_reducible rfl)
  try simp only [Act.put, List.getElem_toArray, List.getElem_cons_succ, List.getElem_cons_zero, List.setIfInBounds_toArray, List.set_cons_zero, List.set_cons_succ]
  refine wpAnyH_take (i := 25) (v := ?_) rfl (by kernel_rfl) (by kernel_rfl) (by kernel_rfl) (fun _ _ _ h => h) (Or.inl ⟨by rfl, ?_⟩) (by assumption) ?_
  rotate_left 1
  · intro w hSw; (try dsimp only at hSw); go_simp; (try with_reducible rfl)
  try simp only [Act.put, List.getElem_toArray, List.getElem_cons_succ, List.getElem_cons_zero, List.setIfInBounds_toArray, List.set_cons_zero, List.set_cons_succ]
  refine wpAnyH_take (i := 26) (v := ?_) rfl (by kernel_rfl) (by kernel_rfl) (by kernel_rfl) (fun _ _ _ h => h) (Or.inl ⟨by rfl, ?_⟩) (by assumption) ?_
  rotate_left 1
  · intro w hSw; (try dsimp only at hSw); go_simp; (try with_reducible rfl)
  try simp only [Act.put, List.getElem_toArray, List.getElem_cons_succ, List.getElem_cons_zero, List.setIfInBounds_toArray, List.set_cons_zero, List.set_cons_succ]
  refine wpAnyH_take (i := 27) (v := ?_) rfl (by kernel_rfl) (by kernel_rfl) (by kernel_rfl) (fun _ _ _ h => h) (Or.inl ⟨by rfl, ?_⟩) (by assumption) ?_
  rotate_left 1
  · intro w hSw; (try dsimp only at hSw); go_simp; (try with_reducible rfl)
  try simp only [Act.put, List.getElem_toArray, List.getElem_cons_succ, List.getElem_cons_zero, List.setIfInBounds_toArray, List.set_cons_zero, List.set_cons_succ]
  refine wpAnyH_take (i := 29) (v := ?_) rfl (by kernel_rfl) (by kernel_rfl) (by kernel_rfl) (fun _ _ _ h => h) (Or.inl ⟨by rfl, ?_⟩) (by assumption) ?_
  rotate_left 1
  · intro w hSw; (try dsimp only at hSw); go_simp; (try with_reducible rfl)
  try simp only [Act.put, List.getElem_toArray, List.getElem_cons_succ, List.getElem_cons_zero, List.setIfInBounds_toArray, List.set_cons_zero, List.set_cons_succ]
  refine wpAnyH_take (i := 30) (v := ?_) rfl (by kernel_rfl) (by kernel_rfl) (by kernel_rfl) (fun _ _ _ h => h) (Or.inl ⟨by rfl, ?_⟩) (by assumption) ?_
  rotate_left 1
  · intro w hSw; (try dsimp only at hSw); go_simp; (try with_reducible rfl)
  try simp only [Act.put, List.getElem_toArray, List.getElem_cons_succ, List.getElem_cons_zero, List.setIfInBounds_toArray, List.set_cons_zero, List.set_cons_succ]
  refine wpAnyH_take (i := 31) (v := ?_) rfl (by kernel_rfl) (by kernel_rfl) (by kernel_rfl) (fun _ _ _ h => h) (Or.inl ⟨by rfl, ?_⟩) (by assumption) ?_
  rotate_left 1
  · intro w hSw; (try dsimp only at hSw); go_simp; (try with_reducible rfl)
  try simp only [Act.put, List.getElem_toArray, List.getElem_cons_succ, List.getElem_cons_zero, List.setIfInBounds_toArray, List.set_cons_zero, List.set_cons_succ]
  refine wpAnyH_ready (rs := [28]) (by kernel_rfl) (by simp) ?_
  refine AllReadyH.cons rfl (fun K hK => ?_) AllReadyH.nil
  go_simp
  refine Calls.mono (k7 _ hHeld) ?_
  rintro e w6 ⟨rfl, hh⟩
  dsimp only
  refine hK.out _ _ hh (fun hHeld => ?_)
  clear hK K hh
  try simp only [Act.put, List.getElem_toArray, List.getElem_cons_succ, List.getElem_cons_zero, List.setIfInBounds_toArray, List.set_cons_zero, List.set_cons_succ]
  refine wpAnyH_ready (rs := [32]) (by kernel_rfl) (by simp) ?_
  refine AllReadyH.cons rfl (fun K hK => ?_) AllReadyH.nil
  go_simp
  refine Calls.mono (k8 _ hHeld) ?_
  rintro e w6 ⟨rfl, hh⟩
  dsimp only
  refine hK.out _ _ hh (fun hHeld => ?_)
  clear hK K hh
  try simp only [Act.put, List.getElem_toArray, List.getElem_cons_succ, List.getElem_cons_zero, List.setIfInBounds_toArray, List.set_cons_zero, List.set_cons_succ]
  refine wpAnyH_take (i := 33) (v := ?_) rfl (by kernel_rfl) (by kernel_rfl) (by kernel_rfl) (fun _ _ _ h => h) (Or.inl ⟨by rfl, ?_⟩) (by assumption) ?_
  rotate_left 1
  · intro w hSw; (try dsimp only at hSw); go_simp; (try with_reducible rfl)
  try simp only [Act.put, List.getElem_toArray, List.getElem_cons_succ, List.getElem_cons_zero, List.setIfInBounds_toArray, List.set_cons_zero, List.set_cons_succ]
  refine wpAnyH_take (i := 34) (v := ?_) rfl (by kernel_rfl) (by kernel_rfl) (by kernel_rfl) (fun _ _ _ h => h) (Or.inl ⟨by rfl, ?_⟩) (by assumption) ?_
  rotate_left 1
  · intro w hSw; (try dsimp only at hSw); go_simp; (try with_reducible rfl)
  try simp only [Act.put, List.getElem_toArray, List.getElem_cons_succ, List.getElem_cons_zero, List.setIfInBounds_toArray, List.set_cons_zero, List.set_cons_succ]
  refine wpAnyH_take (i := 35) (v := ?_) rfl (by kernel_rfl) (by kernel_rfl) (by kernel_rfl) (fun _ _ _ h => h) (Or.inl ⟨by rfl, ?_⟩) (by assumption) ?_
  rotate_left 1
  · intro w hSw; (try dsimp only at hSw); go_simp; (try with_reducible rfl)
  try simp only [Act.put, List.getElem_toArray, List.getElem_cons_succ, List.getElem_cons_zero, List.setIfInBounds_toArray, List.set_cons_zero, List.set_cons_succ]
  refine wpAnyH_take (i := 36) (v := ?_) rfl (by kernel_rfl) (by kernel_rfl) (by kernel_rfl) (fun _ _ _ h => h) (Or.inl ⟨by rfl, ?_⟩) (by assumption) ?_
  rotate_left 1
  · intro w hSw; (try dsimp only at hSw); go_simp; (try with_reducible rfl)
  try simp only [Act.put, List.getElem_toArray, List.getElem_cons_succ, List.getElem_cons_zero, List.setIfInBounds_toArray, List.set_cons_zero, List.set_cons_succ]
  refine wpAnyH_take (i := 37) (v := ?_) rfl (by kernel_rfl) (by kernel_rfl) (by kernel_rfl) (fun _ _ _ h => h) (Or.inl ⟨by rfl, ?_⟩) (by assumption) ?_
  rotate_left 1
  · intro w hSw; (try dsimp only at hSw); go_simp; (try with_reducible rfl)
  try simp only [Act.put, List.getElem_toArray, List.getElem_cons_succ, List.getElem_cons_zero, List.setIfInBounds_toArray, List.set_cons_zero, List.set_cons_succ]
  refine wpAnyH_take (i := 38) (v := ?_) rfl (by kernel_rfl) (by kernel_rfl) (by kernel_rfl) (fun _ _ _ h => h) (Or.inl ⟨by rfl, ?_⟩) (by assumption) ?_
  rotate_left 1
  · intro w hSw; (try dsimp only at hSw); go_simp; (try with_reducible rfl)
  try simp only [Act.put, List.getElem_toArray, List.getElem_cons_succ, List.getElem_cons_zero, List.setIfInBounds_toArray, List.set_cons_zero, List.set_cons_succ]
  refine wpAnyH_take (i := 39) (v := ?_) rfl (by kernel_rfl) (by kernel_rfl) (by kernel_rfl) (fun _ _ _ h => h) (Or.inl ⟨by rfl, ?_⟩) (by assumption) ?_
  rotate_left 1
  · intro w hSw; (try dsimp only at hSw); go_simp; (try with_reducible rfl)
  try simp only [Act.put, List.getElem_toArray, List.getElem_cons_succ, List.getElem_cons_zero, List.setIfInBounds_toArray, List.set_cons_zero, List.set_cons_succ]
  refine wpAnyH_take (i := 40) (v := ?_) rfl (by kernel_rfl) (by kernel_rfl) (by kernel_rfl) (fun _ _ _ h => h) (Or.inl ⟨by rfl, ?_⟩) (by assumption) ?_
  rotate_left 1
  · intro w hSw; (try dsimp only at hSw); go_simp; (try with_reducible rfl)
  try simp only [Act.put, List.getElem_toArray, List.getElem_cons_succ, List.getElem_cons_zero, List.setIfInBounds_toArray, List.set_cons_zero, List.set_cons_succ]
  refine wpAnyH_take (i := 41) (v := ?_) rfl (by kernel_rfl) (by kernel_rfl) (by kernel_rfl) (fun _ _ _ h => h) (Or.inl ⟨by rfl, ?_⟩) (by assumption) ?_
  rotate_left 1
  · intro w hSw; (try dsimp only at hSw); go_simp; (try with_reducible rfl)
  try simp only [Act.put, List.getElem_toArray, List.getElem_cons_succ, List.getElem_cons_zero, List.setIfInBounds_toArray, List.set_cons_zero, List.set_cons_succ]
  refine wpAnyH_take (i := 42) (v := ?_) rfl (by kernel_rfl) (by kernel_rfl) (by kernel_rfl) (fun _ _ _ h => h) (Or.inl ⟨by rfl, ?_⟩) (by assumption) ?_
  rotate_left 1
  · intro w hSw; (try dsimp only at hSw); go_simp; (try with_reducible rfl)
  try simp only [Act.put, List.getElem_toArray, List.getElem_cons_succ, List.getElem_cons_zero, List.setIfInBounds_toArray, List.set_cons_zero, List.set_cons_succ]
  refine wpAnyH_take (i := 44) (v := ?_) rfl (by kernel_rfl) (by kernel_rfl) (by kernel_rfl) (fun _ _ _ h => h) (Or.inl ⟨by rfl, ?_⟩) (by assumption) ?_
  rotate_left 1
  · intro w hSw; (try dsimp only at hSw); go_simp; (try with_reducible rfl)
  try simp only [Act.put, List.getElem_toArray, List.getElem_cons_succ, List.getElem_cons_zero, List.setIfInBounds_toArray, List.set_cons_zero, List.set_cons_succ]
  refine wpAnyH_take (i := 45) (v := ?_) rfl (by kernel_rfl) (by kernel_rfl) (by kernel_rfl) (fun _ _ _ h => h) (Or.inl ⟨by rfl, ?_⟩) (by assumption) ?_
  rotate_left 1
  · intro w hSw; (try dsimp only at hSw); go_simp; (try with_reducible rfl)
  try simp only [Act.put, List.getElem_toArray, List.getElem_cons_succ, List.getElem_cons_zero, List.setIfInBounds_toArray, List.set_cons_zero, List.set_cons_succ]
  refine wpAnyH_take (i := 46) (v := ?_) rfl (by kernel_rfl) (by kernel_rfl) (by kernel_rfl) (fun _ _ _ h => h) (Or.inl ⟨by rfl, ?_⟩) (by assumption) ?_
  rotate_left 1
  · intro w hSw; (try dsimp only at hSw); go_simp; (try with_reducible rfl)
  try simp only [Act.put, List.getElem_toArray, List.getElem_cons_succ, List.getElem_cons_zero, List.setIfInBounds_toArray, List.set_cons_zero, List.set_cons_succ]
  refine wpAnyH_take (i := 47) (v := ?_) rfl (by kernel_rfl) (by kernel_rfl) (by kernel_rfl) (fun _ _ _ h => h) (Or.inl ⟨by rfl, ?_⟩) (by assumption) ?_
  rotate_left 1
  · intro w hSw; (try dsimp only at hSw); go_simp; (try with_reducible rfl)
  try simp only [Act.put, List.getElem_toArray, List.getElem_cons_succ, List.getElem_cons_zero, List.setIfInBounds_toArray, List.set_cons_zero, List.set_cons_succ]
  refine wpAnyH_take (i := 48) (v := ?_) rfl (by kernel_rfl) (by kernel_rfl) (by kernel_rfl) (fun _ _ _ h => h) (Or.inl ⟨by rfl, ?_⟩) (by assumption) ?_
  rotate_left 1
  · intro w hSw; (try dsimp only at hSw); go_simp; (try with_reducible rfl)
  try simp only [Act.put, List.getElem_toArray, List.getElem_cons_succ, List.getElem_cons_zero, List.setIfInBounds_toArray, List.set_cons_zero, List.set_cons_succ]
  refine wpAnyH_take (i := 49) (v := ?_) rfl (by kernel_rfl) (by kernel_rfl) (by kernel_rfl) (fun _ _ _ h => h) (Or.inl ⟨by rfl, ?_⟩) (by assumption) ?_
  rotate_left 1
  · intro w hSw; (try dsimp only at hSw); go_simp; (try with_reducible rfl)
  try simp only [Act.put, List.getElem_toArray, List.getElem_cons_succ, List.getElem_cons_zero, List.setIfInBounds_toArray, List.set_cons_zero, List.set_cons_succ]
  refine wpAnyH_take (i := 50) (v := ?_) rfl (by kernel_rfl) (by kernel_rfl) (by kernel_rfl) (fun _ _ _ h => h) (Or.inl ⟨by rfl, ?_⟩) (by assumption) ?_
  rotate_left 1
  · intro w hSw; (try dsimp only at hSw); go_simp; (try with_reducible rfl)
  try simp only [Act.put, List.getElem_toArray, List.getElem_cons_succ, List.getElem_cons_zero, List.setIfInBounds_toArray, List.set_cons_zero, List.set_cons_succ]
  refine wpAnyH_ready (rs := [43]) (by kernel_rfl) (by simp) ?_
  refine AllReadyH.cons rfl (fun K hK => ?_) AllReadyH.nil
  go_simp
  refine Calls.mono (k9 _ hHeld) ?_
  rintro e w6 ⟨rfl, hh⟩
  dsimp only
  refine hK.out _ _ hh (fun hHeld => ?_)
  clear hK K hh
  try simp only [Act.put, List.getElem_toArray, List.getElem_cons_succ, List.getElem_cons_zero, List.setIfInBounds_toArray, List.set_cons_zero, List.set_cons_succ]
  refine wpAnyH_ready (rs := [51]) (by kernel_rfl) (by simp) ?_
  refine AllReadyH.cons rfl (fun K hK => ?_) AllReadyH.nil
  go_simp
  refine Calls.mono (k10 _ hHeld) ?_
  rintro e w6 ⟨rfl, hh⟩
  dsimp only
  refine hK.out _ _ hh (fun hHeld => ?_)
  clear hK K hh
  try simp only [Act.put, List.getElem_toArray, List.getElem_cons_succ, List.getElem_cons_zero, List.setIfInBounds_toArray, List.set_cons_zero, List.set_cons_succ]
  refine wpAnyH_take (i := 52) (v := ?_) rfl (by kernel_rfl) (by kernel_rfl) (by kernel_rfl) (fun _ _ _ h => h) (Or.inl ⟨by rfl, ?_⟩) (by assumption) ?_
  rotate_left 1
  · intro w hSw; (try dsimp only at hSw); go_simp; (try with_reducible rfl)
  try simp only [Act.put, List.getElem_toArray, List.getElem_cons_succ, List.getElem_cons_zero, List.setIfInBounds_toArray, List.set_cons_zero, List.set_cons_succ]
  refine wpAnyH_take (i := 53) (v := ?_) rfl (by kernel_rfl) (by kernel_rfl) (by kernel_rfl) (fun _ _ _ h => h) (Or.inl ⟨by rfl, ?_⟩) (by assumption) ?_
  rotate_left 1
  · intro w hSw; (try dsimp only at hSw); go_simp; (try with_reducible rfl)
  try simp only [Act.put, List.getElem_toArray, List.getElem_cons_succ, List.getElem_cons_zero, List.setIfInBounds_toArray, List.set_cons_zero, List.set_cons_succ]
  refine wpAnyH_take (i := 54) (v := ?_) rfl (by kernel_rfl) (by kernel_rfl) (by kernel_rfl) (fun _ _ _ h => h) (Or.inl ⟨by rfl, ?_⟩) (by assumption) ?_
  rotate_left 1
  · intro w hSw; (try dsimp only at hSw); go_simp; (try with_reducible rfl)
  try simp only [Act.put, List.getElem_toArray, List.getElem_cons_succ, List.getElem_cons_zero, List.setIfInBounds_toArray, List.set_cons_zero, List.set_cons_succ]
  refine wpAnyH_done (by kernel_rfl) ?_ _
  have HB := Lib.hid (HB.out.trans (Below.mono hHeld.2.2.2 HB.out.size))
  clear hHeld k1 k2 k3 k4 k5 k6 k7 k8 k9 k10 hS
  go_wp2_with fail
  go_ret
  exact ⟨rfl, HB.out⟩

end Go.Proofs.YtgffnjdmhpfneaaDoor
