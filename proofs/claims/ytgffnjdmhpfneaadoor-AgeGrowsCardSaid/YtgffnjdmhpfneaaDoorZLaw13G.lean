/- The walk of the law AgeGrows. -/
import Derived.Test.YtgffnjdmhpfneaaDoorZMAgC
import Derived.Test.YtgffnjdmhpfneaaDoorZMSizA
import Derived.Test.YtgffnjdmhpfneaaDoorZDirS
import Derived.Test.YtgffnjdmhpfneaaDoorZMBasP
import Derived.Deep.RegionHeld3
import Derived.IntWalk

namespace Go.Proofs.YtgffnjdmhpfneaaDoor
open Go.RowKit Go.Shelf Go.Lib

set_option maxRecDepth 100000 in
set_option maxHeartbeats 8000000 in
theorem agrows_walk (v : Value) (fs : List Fld) (t0 t1 t2 t3 : Int) (w : World) (h : Flds 0 w v fs) (hk : FldsIn fs) (hC : Cal w) :
    Calls Tryd.prog 4 #[v, .agg #[.int .i64 t0, .int .i64 t1, .int .i64 t2, .int .i64 t3]] w fun e w' => e = .returned (.bool true) ∧ Below w.heap.size w w' := by
  have HC := Lib.hid hC
  have HF := Lib.hid h
  have cA := fun W (hb : Below w.heap.size w W) => awake13_any W (Cal.below HC.out hb)
  have cS := fun W (hb : Below w.heap.size w W) => rsize_any 0 v fs W (HF.out.below hb) hk
  obtain ⟨ao, cap, rfl, _⟩ := id h
  clear h hk hC
  have HB0 := Lib.hid ((Below.refl w.heap.size w).alloc (Nat.le_refl _) (.cells #[.int .i64 t0, .int .i64 t1, .int .i64 t2, .int .i64 t3] 33))
  have HT0 := Lib.hid (BoxN.made w [.int .i64 t0, .int .i64 t1, .int .i64 t2, .int .i64 t3] 33)
  by_cases d1 : 2000 < szH 0 fs
  · have g1 : (2000 : Int) < ((szH 0 fs : Nat) : Int) := by omega
    generalize szH 0 fs = Y at *
    go_enter Tryd.func4, Tryd.ntmps4
    go_wp2_with fail
    refine (cA _ HB0.out).mono ?_
    rintro e w1 ⟨rfl, hb⟩
    have HT := Lib.hid (HT0.out.next hb)
    have HB := Lib.hid (HB0.out.trans (hb.mono HB0.out.size))
    clear hb cA
    have x0 := (HT.out.2 0 _ rfl).1
    have x1 := (HT.out.2 1 _ rfl).1
    have x2 := (HT.out.2 2 _ rfl).1
    have x3 := (HT.out.2 3 _ rfl).1
    go_wp2_with fail
    refine (cS _ HB.out).mono ?_
    rintro e w2 ⟨rfl, hb⟩
    clear x0 x1 x2 x3
    have HT := Lib.hid (HT.out.next hb)
    have HB := Lib.hid (HB.out.trans (hb.mono HB.out.size))
    clear hb
    have x0 := (HT.out.2 0 _ rfl).1
    have x1 := (HT.out.2 1 _ rfl).1
    have x2 := (HT.out.2 2 _ rfl).1
    have x3 := (HT.out.2 3 _ rfl).1
    go_wp2_with fail
    go_ret
    exact ⟨rfl, HB.out⟩
  have g1 : ¬ (2000 : Int) < ((szH 0 fs : Nat) : Int) := by omega
  by_cases d2 : t3 < t2
  · generalize szH 0 fs = Y at *
    go_enter Tryd.func4, Tryd.ntmps4
    go_wp2_with fail
    refine (cA _ HB0.out).mono ?_
    rintro e w1 ⟨rfl, hb⟩
    have HT := Lib.hid (HT0.out.next hb)
    have HB := Lib.hid (HB0.out.trans (hb.mono HB0.out.size))
    clear hb cA
    have x0 := (HT.out.2 0 _ rfl).1
    have x1 := (HT.out.2 1 _ rfl).1
    have x2 := (HT.out.2 2 _ rfl).1
    have x3 := (HT.out.2 3 _ rfl).1
    go_wp2_with fail
    refine (cS _ HB.out).mono ?_
    rintro e w2 ⟨rfl, hb⟩
    clear x0 x1 x2 x3
    have HT := Lib.hid (HT.out.next hb)
    have HB := Lib.hid (HB.out.trans (hb.mono HB.out.size))
    clear hb
    have x0 := (HT.out.2 0 _ rfl).1
    have x1 := (HT.out.2 1 _ rfl).1
    have x2 := (HT.out.2 2 _ rfl).1
    have x3 := (HT.out.2 3 _ rfl).1
    go_wp2_with fail
    go_ret
    exact ⟨rfl, HB.out⟩
  obtain ⟨hfo, hfp⟩ := szH_ok fs (by omega)
  have hjs : ∀ n, (joinH (allH fs n)).length ≤ 90000 := fun n => Nat.le_trans (join_small fs n) (by omega)
  have cP := fun W (hb : Below w.heap.size w W) => acurrent_any 0 (.slice ao fs.length cap) fs t0 t1 t2 W (HF.out.below hb) hfo hjs (Cal.below HC.out hb)
  have cQ := fun W (hb : Below w.heap.size w W) => acurrent_any 0 (.slice ao fs.length cap) fs t0 t1 t3 W (HF.out.below hb) hfo hjs (Cal.below HC.out hb)
  have c2 := fun W => aclamp_any t2 W
  have c3 := fun W => aclamp_any t3 W
  obtain ⟨q1, q2, q3, q4⟩ := cur_grows fs t0 t1 t2 t3 (by omega) (toldA_in fs).1
  have b2 := clA_in t2
  have b3 := clA_in t3
  generalize curA fs t0 t1 t2 = A at *
  generalize curA fs t0 t1 t3 = B at *
  generalize clA t2 = C2 at *
  generalize clA t3 = C3 at *
  generalize szH 0 fs = Y at *
  have hW1 : IntKind.i64.wrap (C3 - C2) = C3 - C2 := IntWalk.i64_in _ (by omega)
  clear hfo hfp hjs d1
  go_enter Tryd.func4, Tryd.ntmps4
  go_wp2_with fail
  refine (cA _ HB0.out).mono ?_
  rintro e w1 ⟨rfl, hb⟩
  have HT := Lib.hid (HT0.out.next hb)
  have HB := Lib.hid (HB0.out.trans (hb.mono HB0.out.size))
  clear hb cA
  have x0 := (HT.out.2 0 _ rfl).1
  have x1 := (HT.out.2 1 _ rfl).1
  have x2 := (HT.out.2 2 _ rfl).1
  have x3 := (HT.out.2 3 _ rfl).1
  go_wp2_with fail
  refine (cS _ HB.out).mono ?_
  rintro e w2 ⟨rfl, hb⟩
  clear x0 x1 x2 x3
  have HT := Lib.hid (HT.out.next hb)
  have HB := Lib.hid (HB.out.trans (hb.mono HB.out.size))
  clear hb
  have x0 := (HT.out.2 0 _ rfl).1
  have x1 := (HT.out.2 1 _ rfl).1
  have x2 := (HT.out.2 2 _ rfl).1
  have x3 := (HT.out.2 3 _ rfl).1
  go_wp2_with fail
  refine (cP _ HB.out).mono ?_
  rintro e w3 ⟨rfl, hb⟩
  clear x0 x1 x2 x3
  have HT := Lib.hid (HT.out.next hb)
  have HB := Lib.hid (HB.out.trans (hb.mono HB.out.size))
  clear hb
  have x0 := (HT.out.2 0 _ rfl).1
  have x1 := (HT.out.2 1 _ rfl).1
  have x2 := (HT.out.2 2 _ rfl).1
  have x3 := (HT.out.2 3 _ rfl).1
  go_wp2_with fail
  refine (cQ _ HB.out).mono ?_
  rintro e w4 ⟨rfl, hb⟩
  clear x0 x1 x2 x3
  have HT := Lib.hid (HT.out.next hb)
  have HB := Lib.hid (HB.out.trans (hb.mono HB.out.size))
  clear hb
  have x0 := (HT.out.2 0 _ rfl).1
  have x1 := (HT.out.2 1 _ rfl).1
  have x2 := (HT.out.2 2 _ rfl).1
  have x3 := (HT.out.2 3 _ rfl).1
  go_wp2_with fail
  generalize hV : w4 = V at *
  clear hV
  have hS : fourC V V.drew w.heap.size (.int .i64 t0) (.int .i64 t1) (.int .i64 t2) (.int .i64 t3) := fourC_next (drewA V) ⟨x0, x1, x2, x3, Below.refl _ _⟩
  have k3 : ∀ W, fourC V W w.heap.size (.int .i64 t0) (.int .i64 t1) (.int .i64 t2) (.int .i64 t3) → Calls Tryd.prog 10 #[.int .i64 t3] W fun e W => e = .returned (.int .i64 C3) ∧ fourC V W w.heap.size (.int .i64 t0) (.int .i64 t1) (.int .i64 t2) (.int .i64 t3) := fun W h => (c3 W).mono fun e w' hh => ⟨hh.1, hh.2 ▸ h⟩
  have k2 : ∀ W, fourC V W w.heap.size (.int .i64 t0) (.int .i64 t1) (.int .i64 t2) (.int .i64 t3) → Calls Tryd.prog 10 #[.int .i64 t2] W fun e W => e = .returned (.int .i64 C2) ∧ fourC V W w.heap.size (.int .i64 t0) (.int .i64 t1) (.int .i64 t2) (.int .i64 t3) := fun W h => (c2 W).mono fun e w' hh => ⟨hh.1, hh.2 ▸ h⟩
  clear c2 c3
  refine wp_region_held_drew (S := (fun W => W.cell? ⟨w.heap.size, 0, none⟩ = some (.int .i64 t0) ∧ W.cell? ⟨w.heap.size, 1, none⟩ = some (.int .i64 t1) ∧ W.cell? ⟨w.heap.size, 2, none⟩ = some (.int .i64 t2) ∧ W.cell? ⟨w.heap.size, 3, none⟩ = some (.int .i64 t3) ∧ belowA V W)) (by kernel_rfl) ?_ (fun hHeld => ?_)
  · exact hS
  refine wpAnyH_take (i := 0) (v := ?_) rfl (by kernel_rfl) (by kernel_rfl) (by kernel_rfl) (fun _ _ _ h => h) (Or.inl ⟨by rfl, ?_⟩) (by assumption) ?_
  rotate_left 1
  · intro w hSw; (try dsimp only at hSw); go_simp; (try with_reducible rfl)
  try simp only [Act.put, List.getElem_toArray, List.getElem_cons_zero, List.setIfInBounds_toArray, List.set_cons_zero, List.set_cons_succ]
  refine wpAnyH_take (i := 1) (v := ?_) rfl (by kernel_rfl) (by kernel_rfl) (by kernel_rfl) (fun _ _ _ h => h) (Or.inl ⟨by rfl, ?_⟩) (by assumption) ?_
  rotate_left 1
  · intro w hSw; (try dsimp only at hSw); go_simp; (try with_reducible rfl)
  try simp only [Act.put, List.getElem_toArray, List.getElem_cons_succ, List.getElem_cons_zero, List.setIfInBounds_toArray, List.set_cons_zero, List.set_cons_succ]
  refine wpAnyH_take (i := 3) (v := ?_) rfl (by kernel_rfl) (by kernel_rfl) (by kernel_rfl) (fun _ _ _ h => h) (Or.inl ⟨by rfl, ?_⟩) (by assumption) ?_
  rotate_left 1
  · intro w hSw; (try dsimp only at hSw); go_simp; (try with_reducible rfl)
  try simp only [Act.put, List.getElem_toArray, List.getElem_cons_succ, List.getElem_cons_zero, List.setIfInBounds_toArray, List.set_cons_zero, List.set_cons_succ]
  refine wpAnyH_take (i := 4) (v := ?_) rfl (by kernel_rfl) (by kernel_rfl) (by kernel_rfl) (fun _ _ _ h => h) (Or.inl ⟨by rfl, ?_⟩) (by assumption) ?_
  rotate_left 1
  · intro w hSw; (try dsimp only at hSw); go_simp; (try with_reducible rfl)
  try simp only [Act.put, List.getElem_toArray, List.getElem_cons_succ, List.getElem_cons_zero, List.setIfInBounds_toArray, List.set_cons_zero, List.set_cons_succ]
  refine wpAnyH_ready (rs := [2]) (by kernel_rfl) (by simp) ?_
  refine AllReadyH.cons rfl (fun K hK => ?_) AllReadyH.nil
  go_simp
  refine Calls.mono (k3 _ hHeld) ?_
  rintro e w6 ⟨rfl, hh⟩
  dsimp only
  refine hK.out _ _ hh (fun hHeld => ?_)
  clear hK K hh
  try simp only [Act.put, List.getElem_toArray, List.getElem_cons_succ, List.getElem_cons_zero, List.setIfInBounds_toArray, List.set_cons_zero, List.set_cons_succ]
  refine wpAnyH_ready (rs := [5]) (by kernel_rfl) (by simp) ?_
  refine AllReadyH.cons rfl (fun K hK => ?_) AllReadyH.nil
  go_simp
  refine Calls.mono (k2 _ hHeld) ?_
  rintro e w6 ⟨rfl, hh⟩
  dsimp only
  refine hK.out _ _ hh (fun hHeld => ?_)
  clear hK K hh
  try simp only [Act.put, List.getElem_toArray, List.getElem_cons_succ, List.getElem_cons_zero, List.setIfInBounds_toArray, List.set_cons_zero, List.set_cons_succ]
  refine wpAnyH_take (i := 6) (v := ?_) rfl (by kernel_rfl) (by kernel_rfl) (by kernel_rfl) (fun _ _ _ h => h) (Or.inl ⟨by rfl, ?_⟩) (by assumption) ?_
  rotate_left 1
  · intro w hSw; (try dsimp only at hSw); go_simp; (try with_reducible rfl)
  try simp only [Act.put, List.getElem_toArray, List.getElem_cons_succ, List.getElem_cons_zero, List.setIfInBounds_toArray, List.set_cons_zero, List.set_cons_succ]
  refine wpAnyH_take (i := 7) (v := ?_) rfl (by kernel_rfl) (by kernel_rfl) (by kernel_rfl) (fun _ _ _ h => h) (Or.inl ⟨by rfl, ?_⟩) (by assumption) ?_
  rotate_left 1
  · intro w hSw; (try dsimp only at hSw); go_simp; (try with_reducible rfl)
  try simp only [Act.put, List.getElem_toArray, List.getElem_cons_succ, List.getElem_cons_zero, List.setIfInBounds_toArray, List.set_cons_zero, List.set_cons_succ]
  refine wpAnyH_done (by kernel_rfl) ?_ _
  have HB := Lib.hid (HB.out.trans (Below.mono hHeld.2.2.2.2 HB.out.size))
  clear hHeld k2 k3 hS hW1
  go_wp2_with fail
  go_ret
  exact ⟨by first | rfl | (simp; omega), HB.out⟩

end Go.Proofs.YtgffnjdmhpfneaaDoor
