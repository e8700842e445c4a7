/- The walk of the law AgeTold. -/
import Derived.Test.YtgffnjdmhpfneaaDoorZMAgC
import Derived.Test.YtgffnjdmhpfneaaDoorZMSizA
import Derived.Test.YtgffnjdmhpfneaaDoorZDirS
import Derived.Test.YtgffnjdmhpfneaaDoorZMBasP
import Derived.Test.YtgffnjdmhpfneaaDoorZToP
import Derived.Test.YtgffnjdmhpfneaaDoorZMTrmA
import Derived.Test.YtgffnjdmhpfneaaDoorZHdM
import Derived.Deep.RegionHeld3
import Derived.IntWalk

namespace Go.Proofs.YtgffnjdmhpfneaaDoor
open Go.RowKit Go.Shelf Go.Lib

set_option maxRecDepth 100000 in
set_option maxHeartbeats 8000000 in
theorem atold_walk (v : Value) (fs : List Fld) (t0 t1 t2 t3 : Int) (D : ByteArray) (w : World) (h : Flds 0 w v fs) (hk : FldsIn fs) (hC : Cal w) :
    Calls Tryd.prog 5 #[v, .agg #[.int .i64 t0, .int .i64 t1, .int .i64 t2, .int .i64 t3], .string D] w fun e w' => e = .returned (.bool true) ∧ Below w.heap.size w w' := by
  have HC := Lib.hid hC
  have HF := Lib.hid h
  have cA := fun W (hb : Below w.heap.size w W) => awake13_any W (Cal.below HC.out hb)
  have cS := fun W (hb : Below w.heap.size w W) => rsize_any 0 v fs W (HF.out.below hb) hk
  obtain ⟨ao, cap, rfl, _⟩ := id h
  clear h hk hC
  have HB0 := Lib.hid ((Below.refl w.heap.size w).alloc (Nat.le_refl _) (.cells #[.int .i64 t0, .int .i64 t1, .int .i64 t2, .int .i64 t3] 33))
  have HT0 := Lib.hid (BoxN.made w [.int .i64 t0, .int .i64 t1, .int .i64 t2, .int .i64 t3] 33)
  by_cases d1 : 2000 < szH 0 fs
  · have g1 : (2000 : Int) < ((szH 0 fs : Nat) : Int) := by omega
    generalize szH 0 fs = Y at *
    go_enter Tryd.func5, Tryd.ntmps5
    go_wp2_with fail
    refine (cA _ HB0.out).mono ?_
    rintro e w1 ⟨rfl, hb⟩
    have HT := Lib.hid (HT0.out.next hb)
    have HB := Lib.hid (HB0.out.trans (hb.mono HB0.out.size))
    clear hb cA
    have x0 := (HT.out.2 0 _ rfl).1
    have x1 := (HT.out.2 1 _ rfl).1
    have x2 := (HT.out.2 2 _ rfl).1
    have x3 := (HT.out.2 3 _ rfl).1
    go_wp2_with fail
    refine (cS _ HB.out).mono ?_
    rintro e w2 ⟨rfl, hb⟩
    clear x0 x1 x2 x3
    have HT := Lib.hid (HT.out.next hb)
    have HB := Lib.hid (HB.out.trans (hb.mono HB.out.size))
    clear hb
    have x0 := (HT.out.2 0 _ rfl).1
    have x1 := (HT.out.2 1 _ rfl).1
    have x2 := (HT.out.2 2 _ rfl).1
    have x3 := (HT.out.2 3 _ rfl).1
    go_wp2_with fail
    go_ret
    exact ⟨rfl, HB.out⟩
  have g1 : ¬ (2000 : Int) < ((szH 0 fs : Nat) : Int) := by omega
  by_cases d2 : 30 < D.size
  · have g2 : (30 : Int) < (D.size : Int) := by omega
    generalize szH 0 fs = Y at *
    go_enter Tryd.func5, Tryd.ntmps5
    go_wp2_with fail
    refine (cA _ HB0.out).mono ?_
    rintro e w1 ⟨rfl, hb⟩
    have HT := Lib.hid (HT0.out.next hb)
    have HB := Lib.hid (HB0.out.trans (hb.mono HB0.out.size))
    clear hb cA
    have x0 := (HT.out.2 0 _ rfl).1
    have x1 := (HT.out.2 1 _ rfl).1
    have x2 := (HT.out.2 2 _ rfl).1
    have x3 := (HT.out.2 3 _ rfl).1
    go_wp2_with fail
    refine (cS _ HB.out).mono ?_
    rintro e w2 ⟨rfl, hb⟩
    clear x0 x1 x2 x3
    have HT := Lib.hid (HT.out.next hb)
    have HB := Lib.hid (HB.out.trans (hb.mono HB.out.size))
    clear hb
    have x0 := (HT.out.2 0 _ rfl).1
    have x1 := (HT.out.2 1 _ rfl).1
    have x2 := (HT.out.2 2 _ rfl).1
    have x3 := (HT.out.2 3 _ rfl).1
    go_wp2_with fail
    go_ret
    exact ⟨rfl, HB.out⟩
  have g2 : ¬ (30 : Int) < (D.size : Int) := by omega
  obtain ⟨hfo, hfp⟩ := szH_ok fs (by omega)
  obtain ⟨dg, hdg⟩ : ∃ dg, strB dg = D := ⟨D.data.toList, strB_of D⟩
  have hdl : dg.length ≤ 30 := by rw [← strB_size, hdg]; omega
  obtain ⟨hwo, hwj⟩ := wo_ok fs hfo hfp
  have hwl : (prF (withoutH fs [nAgeA])).length ≤ 10000 := Nat.le_trans (prF_filA _ fs) hfp
  obtain ⟨hao, haj⟩ := wa_ok (withoutH fs [nAgeA]) dg hwo (by have := prF_ge (withoutH fs [nAgeA]); omega) (fun n => Nat.le_trans (join_small _ n) (by omega)) hdl
  have cW := fun W v2 (hb : Below w.heap.size w W) (h2 : StrsF W v2 [nAgeA]) => hwithout_any 0 (.slice ao fs.length cap) v2 fs [nAgeA] W (HF.out.below hb) h2 hfo (by decide) (by decide)
  have cP := fun u W (hb : Below w.heap.size w W) (h : Flds 0 W u (withoutH fs [nAgeA])) => acurrent_any 0 u _ t0 t1 t2 W h hwo hwj (Cal.below HC.out hb)
  have cR := fun u W (hb : Below w.heap.size w W) (h : Flds 0 W u (withoutH fs [nAgeA])) => acurrent_any 0 u _ (min t0 t3) t1 t2 W h hwo hwj (Cal.below HC.out hb)
  have cQ := fun u W (hb : Below w.heap.size w W) (h : Flds 0 W u (withoutH fs [nAgeA] ++ [(nAgeA, dg)])) => acurrent_any 0 u _ t0 t1 t2 W h hao haj (Cal.below HC.out hb)
  have cT := fun u W (h : Flds 0 W u (withoutH fs [nAgeA])) => atold_any 0 u _ W h hwo hwj
  have cV := fun u W (h : Flds 0 W u (withoutH fs [nAgeA])) => hwith_any 0 u (withoutH fs [nAgeA]) (nAgeA, dg) W h hwo.1
  dsimp only at cV
  rw [hdg, show strB nAgeA = (⟨#[97, 103, 101]⟩ : ByteArray) from rfl] at cV
  have q1 := cur_told (withoutH fs [nAgeA]) dg t0 t1 t2 (told_without fs) (toldA_in _).1
  have q2 := cur_longer (withoutH fs [nAgeA]) t0 t1 t2 t3
  rw [told_without fs] at cT
  generalize curA (withoutH fs [nAgeA]) t0 t1 t2 = A at *
  generalize curA (withoutH fs [nAgeA]) (min t0 t3) t1 t2 = C at *
  generalize curA (withoutH fs [nAgeA] ++ [(nAgeA, dg)]) t0 t1 t2 = B at *
  generalize szH 0 fs = Y at *
  have q3 : ¬ B < A := by omega
  clear hfo hfp hwo hwj hwl hao haj hdl hdg d1 d2
  go_enter Tryd.func5, Tryd.ntmps5
  go_wp2_with fail
  refine (cA _ HB0.out).mono ?_
  rintro e w1 ⟨rfl, hb⟩
  have HT := Lib.hid (HT0.out.next hb)
  have HB := Lib.hid (HB0.out.trans (hb.mono HB0.out.size))
  clear hb cA
  have x0 := (HT.out.2 0 _ rfl).1
  have x1 := (HT.out.2 1 _ rfl).1
  have x2 := (HT.out.2 2 _ rfl).1
  have x3 := (HT.out.2 3 _ rfl).1
  go_wp2_with fail
  refine (cS _ HB.out).mono ?_
  rintro e w2 ⟨rfl, hb⟩
  clear x0 x1 x2 x3
  have HT := Lib.hid (HT.out.next hb)
  have HB := Lib.hid (HB.out.trans (hb.mono HB.out.size))
  clear hb
  have x0 := (HT.out.2 0 _ rfl).1
  have x1 := (HT.out.2 1 _ rfl).1
  have x2 := (HT.out.2 2 _ rfl).1
  have x3 := (HT.out.2 3 _ rfl).1
  go_wp2_with fail
  have hb := (Below.refl w2.heap.size w2).alloc (Nat.le_refl _) (.cells #[.string ⟨#[97, 103, 101]⟩] 9)
  have HN : Hid (StrsF (w2.alloc (.cells #[.string ⟨#[97, 103, 101]⟩] 9)) (.slice (some ⟨w2.heap.size, 0, none⟩) 1 1) [nAgeA]) := Lib.hid ⟨_, 1, rfl, .inr ⟨w2.heap.size, 0, rfl, by simp, fun j q hj => by
    match j, hj with
    | 0, hj =>
      obtain rfl := Option.some.inj hj
      simp
      rfl
    | j + 1, hj => simp at hj⟩⟩
  clear x0 x1 x2 x3
  have HT := Lib.hid (HT.out.next hb)
  have HB := Lib.hid (HB.out.trans (hb.mono HB.out.size))
  clear hb
  have x0 := (HT.out.2 0 _ rfl).1
  have x1 := (HT.out.2 1 _ rfl).1
  have x2 := (HT.out.2 2 _ rfl).1
  have x3 := (HT.out.2 3 _ rfl).1
  generalize w2.alloc (.cells #[.string ⟨#[97, 103, 101]⟩] 9) = W2 at *
  generalize w2.heap.size = D2 at *
  refine (cW _ _ HB.out HN.out).mono ?_
  rintro e w3 ⟨⟨u, rfl, hown⟩, hb⟩
  have HU := Lib.hid (Flds.of_own (lo := 0) hown (Nat.zero_le _))
  obtain ⟨uo, uc, rfl⟩ := owns_formF hown
  clear hown cW HN
  clear x0 x1 x2 x3
  have HT := Lib.hid (HT.out.next hb)
  have HB := Lib.hid (HB.out.trans (hb.mono HB.out.size))
  clear hb
  have x0 := (HT.out.2 0 _ rfl).1
  have x1 := (HT.out.2 1 _ rfl).1
  have x2 := (HT.out.2 2 _ rfl).1
  have x3 := (HT.out.2 3 _ rfl).1
  go_wp2_with fail
  refine (cP _ _ HB.out HU.out).mono ?_
  rintro e w4 ⟨rfl, hb⟩
  clear x0 x1 x2 x3
  have HT := Lib.hid (HT.out.next hb)
  have HB := Lib.hid (HB.out.trans (hb.mono HB.out.size))
  have HU := Lib.hid (HU.out.below hb)
  clear hb
  have x0 := (HT.out.2 0 _ rfl).1
  have x1 := (HT.out.2 1 _ rfl).1
  have x2 := (HT.out.2 2 _ rfl).1
  have x3 := (HT.out.2 3 _ rfl).1
  go_wp2_with fail
  generalize hV : w4 = V at *
  clear hV
  have hS : fourC V V.drew w.heap.size (.int .i64 t0) (.int .i64 t1) (.int .i64 t2) (.int .i64 t3) := fourC_next (drewA V) ⟨x0, x1, x2, x3, Below.refl _ _⟩
  have kW : ∀ W, fourC V W w.heap.size (.int .i64 t0) (.int .i64 t1) (.int .i64 t2) (.int .i64 t3) → Calls Tryd.prog 19 #[.slice uo (withoutH fs [nAgeA]).length uc, .string ⟨#[97, 103, 101]⟩, .string D] W fun e W => (∃ u, e = .returned u ∧ Flds 0 W u (withoutH fs [nAgeA] ++ [(nAgeA, dg)])) ∧ fourC V W w.heap.size (.int .i64 t0) (.int .i64 t1) (.int .i64 t2) (.int .i64 t3) := fun W h => (cV _ _ (HU.out.below (show Below V.heap.size V W from h.2.2.2.2))).mono fun e w' ⟨⟨u, he, hown⟩, hb⟩ => ⟨⟨u, he, Flds.of_own (lo := 0) hown (Nat.zero_le _)⟩, fourC_next hb h⟩
  have kC : ∀ u W, fourC V W w.heap.size (.int .i64 t0) (.int .i64 t1) (.int .i64 t2) (.int .i64 t3) → Flds 0 W u (withoutH fs [nAgeA] ++ [(nAgeA, dg)]) → Calls Tryd.prog 16 #[u, .int .i64 t0, .int .i64 t1, .int .i64 t2] W fun e W => e = .returned (.int .i64 B) ∧ fourC V W w.heap.size (.int .i64 t0) (.int .i64 t1) (.int .i64 t2) (.int .i64 t3) := fun u W h hf => (cQ u W (HB.out.trans (Below.mono (show Below V.heap.size V W from h.2.2.2.2) HB.out.size)) hf).mono fun e w' hh => ⟨hh.1, fourC_next hh.2 h⟩
  clear cV cQ
  refine wp_region_held_drew (S := (fun W => W.cell? ⟨w.heap.size, 0, none⟩ = some (.int .i64 t0) ∧ W.cell? ⟨w.heap.size, 1, none⟩ = some (.int .i64 t1) ∧ W.cell? ⟨w.heap.size, 2, none⟩ = some (.int .i64 t2) ∧ W.cell? ⟨w.heap.size, 3, none⟩ = some (.int .i64 t3) ∧ belowA V W)) (by kernel_rfl) ?_ (fun hHeld => ?_)
  · exact hS
  refine wpAnyH_take (i := 0) (v := ?_) rfl (by kernel_rfl) (by kernel_rfl) (by kernel_rfl) (fun _ _ _ h => h) (Or.inl ⟨by rfl, ?_⟩) (by assumption) ?_
  rotate_left 1
  · intro w hSw; (try dsimp only at hSw); go_simp; (try with_reducible rfl)
  try simp only [Act.put, List.getElem_toArray, List.getElem_cons_zero, List.setIfInBounds_toArray, List.set_cons_zero, List.set_cons_succ]
  refine wpAnyH_take (i := 1) (v := ?_) rfl (by kernel_rfl) (by kernel_rfl) (by kernel_rfl) (fun _ _ _ h => h) (Or.inl ⟨by rfl, ?_⟩) (by assumption) ?_
  rotate_left 1
  · intro w hSw; (try dsimp only at hSw); go_simp; (try with_reducible rfl)
  try simp only [Act.put, List.getElem_toArray, List.getElem_cons_succ, List.getElem_cons_zero, List.setIfInBounds_toArray, List.set_cons_zero, List.set_cons_succ]
  refine wpAnyH_take (i := 3) (v := ?_) rfl (by kernel_rfl) (by kernel_rfl) (by kernel_rfl) (fun _ _ _ h => h) (Or.inl ⟨by rfl, ?_⟩) (by assumption) ?_
  rotate_left 1
  · intro w hSw; (try dsimp only at hSw); go_simp; (try with_reducible rfl)
  try simp only [Act.put, List.getElem_toArray, List.getElem_cons_succ, List.getElem_cons_zero, List.setIfInBounds_toArray, List.set_cons_zero, List.set_cons_succ]
  refine wpAnyH_take (i := 4) (v := ?_) rfl (by kernel_rfl) (by kernel_rfl) (by kernel_rfl) (fun _ _ _ h => h) (Or.inl ⟨by rfl, ?_⟩) (by assumption) ?_
  rotate_left 1
  · intro w hSw; (try dsimp only at hSw); go_simp; (try with_reducible rfl)
  try simp only [Act.put, List.getElem_toArray, List.getElem_cons_succ, List.getElem_cons_zero, List.setIfInBounds_toArray, List.set_cons_zero, List.set_cons_succ]
  refine wpAnyH_take (i := 5) (v := ?_) rfl (by kernel_rfl) (by kernel_rfl) (by kernel_rfl) (fun _ _ _ h => h) (Or.inl ⟨by rfl, ?_⟩) (by assumption) ?_
  rotate_left 1
  · intro w hSw; (try dsimp only at hSw); go_simp; (try with_reducible rfl)
  try simp only [Act.put, List.getElem_toArray, List.getElem_cons_succ, List.getElem_cons_zero, List.setIfInBounds_toArray, List.set_cons_zero, List.set_cons_succ]
  refine wpAnyH_take (i := 6) (v := ?_) rfl (by kernel_rfl) (by kernel_rfl) (by kernel_rfl) (fun _ _ _ h => h) (Or.inl ⟨by rfl, ?_⟩) (by assumption) ?_
  rotate_left 1
  · intro w hSw; (try dsimp only at hSw); go_simp; (try with_reducible rfl)
  try simp only [Act.put, List.getElem_toArray, List.getElem_cons_succ, List.getElem_cons_zero, List.setIfInBounds_toArray, List.set_cons_zero, List.set_cons_succ]
  refine wpAnyH_take (i := 7) (v := ?_) rfl (by kernel_rfl) (by kernel_rfl) (by kernel_rfl) (fun _ _ _ h => h) (Or.inl ⟨by rfl, ?_⟩) (by assumption) ?_
  rotate_left 1
  · intro w hSw; (try dsimp only at hSw); go_simp; (try with_reducible rfl)
  try simp only [Act.put, List.getElem_toArray, List.getElem_cons_succ, List.getElem_cons_zero, List.setIfInBounds_toArray, List.set_cons_zero, List.set_cons_succ]
  refine wpAnyH_take (i := 8) (v := ?_) rfl (by kernel_rfl) (by kernel_rfl) (by kernel_rfl) (fun _ _ _ h => h) (Or.inl ⟨by rfl, ?_⟩) (by assumption) ?_
  rotate_left 1
  · intro w hSw; (try dsimp only at hSw); go_simp; (try with_reducible rfl)
  try simp only [Act.put, List.getElem_toArray, List.getElem_cons_succ, List.getElem_cons_zero, List.setIfInBounds_toArray, List.set_cons_zero, List.set_cons_succ]
  refine wpAnyH_ready (rs := [2]) (by kernel_rfl) (by simp) ?_
  refine AllReadyH.cons rfl (fun K hK => ?_) AllReadyH.nil
  go_simp
  refine Calls.mono (kW _ hHeld) ?_
  rintro e w6 ⟨⟨u, rfl, hu⟩, hh⟩
  dsimp only
  refine hK.out _ _ hh (fun hHeld => ?_)
  clear hK K hh
  try simp only [Act.put, List.getElem_toArray, List.getElem_cons_succ, List.getElem_cons_zero, List.setIfInBounds_toArray, List.set_cons_zero, List.set_cons_succ]
  refine wpAnyH_ready (rs := [9]) (by kernel_rfl) (by simp) ?_
  refine AllReadyH.cons rfl (fun K hK => ?_) AllReadyH.nil
  go_simp
  refine Calls.mono (kC _ _ hHeld hu) ?_
  rintro e w6 ⟨rfl, hh⟩
  dsimp only
  refine hK.out _ _ hh (fun hHeld => ?_)
  clear hK K hh
  try simp only [Act.put, List.getElem_toArray, List.getElem_cons_succ, List.getElem_cons_zero, List.setIfInBounds_toArray, List.set_cons_zero, List.set_cons_succ]
  refine wpAnyH_take (i := 10) (v := ?_) rfl (by kernel_rfl) (by kernel_rfl) (by kernel_rfl) (fun _ _ _ h => h) (Or.inl ⟨by rfl, ?_⟩) (by assumption) ?_
  rotate_left 1
  · intro w hSw; (try dsimp only at hSw); go_simp; (try with_reducible rfl)
  try simp only [Act.put, List.getElem_toArray, List.getElem_cons_succ, List.getElem_cons_zero, List.setIfInBounds_toArray, List.set_cons_zero, List.set_cons_succ]
  refine wpAnyH_done (by kernel_rfl) ?_ _
  have hb : Below V.heap.size V _ := hHeld.2.2.2.2
  clear hHeld kW kC hS hu
  clear x0 x1 x2 x3
  have HT := Lib.hid (HT.out.next hb)
  have HU := Lib.hid (HU.out.below hb)
  have HB := Lib.hid (HB.out.trans (hb.mono HB.out.size))
  clear hb
  have x0 := (HT.out.2 0 _ rfl).1
  have x1 := (HT.out.2 1 _ rfl).1
  have x2 := (HT.out.2 2 _ rfl).1
  have x3 := (HT.out.2 3 _ rfl).1
  go_wp2_with fail
  refine (cT _ _ HU.out).mono ?_
  rintro e w7 ⟨rfl, hb⟩
  clear x0 x1 x2 x3
  have HT := Lib.hid (HT.out.next hb)
  have HB := Lib.hid (HB.out.trans (hb.mono HB.out.size))
  have HU := Lib.hid (HU.out.below hb)
  clear hb
  have x0 := (HT.out.2 0 _ rfl).1
  have x1 := (HT.out.2 1 _ rfl).1
  have x2 := (HT.out.2 2 _ rfl).1
  have x3 := (HT.out.2 3 _ rfl).1
  go_wp2_with fail
  refine (cR _ _ HB.out HU.out).mono ?_
  rintro e w8 ⟨rfl, hb⟩
  clear x0 x1 x2 x3
  have HT := Lib.hid (HT.out.next hb)
  have HB := Lib.hid (HB.out.trans (hb.mono HB.out.size))
  clear hb
  have x0 := (HT.out.2 0 _ rfl).1
  have x1 := (HT.out.2 1 _ rfl).1
  have x2 := (HT.out.2 2 _ rfl).1
  have x3 := (HT.out.2 3 _ rfl).1
  go_wp2_with fail
  go_ret
  exact ⟨rfl, HB.out⟩

end Go.Proofs.YtgffnjdmhpfneaaDoor
