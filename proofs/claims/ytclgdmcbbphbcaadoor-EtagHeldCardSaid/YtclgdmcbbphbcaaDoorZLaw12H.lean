/- The walk of the law EtagHeld. -/
import Derived.Test.YtclgdmcbbphbcaaDoorZMEvF
import Derived.Test.YtclgdmcbbphbcaaDoorZMCutP
import Derived.Test.YtclgdmcbbphbcaaDoorZHdM

namespace Go.Proofs.YtclgdmcbbphbcaaDoor
open Go.RowKit Go.Shelf Go.Lib

set_option maxRecDepth 100000 in
set_option maxHeartbeats 8000000 in
theorem eheld_walk (t : Tg) (n0 n1 : Int) (w : World) (h0 : -9223372036854775808 ≤ n0 ∧ n0 ≤ 9223372036854775807) (h1 : -9223372036854775808 ≤ n1 ∧ n1 ≤ 9223372036854775807) (ht : t.2.length ≤ 140737488355328) (hC : Cal w) :
    Calls Tryd.prog 4 #[.agg #[.bool t.1, .string (strB t.2)], .agg #[.int .i64 n0, .int .i64 n1]] w fun e w' => e = .returned (.bool true) ∧ Below w.heap.size w w' := by
  have HC := Lib.hid hC
  have cA := fun W (hb : Below w.heap.size w W) => awake12_any W (Cal.below HC.out hb)
  obtain ⟨a, ka, hka, hal, hpa, cP0⟩ := dprint_any n0 h0.1 h0.2
  obtain ⟨b, kb, hkb, hbl, hpb, cP1⟩ := dprint_any n1 h1.1 h1.2
  obtain ⟨wk, tx⟩ := t
  dsimp only at ht ⊢
  have cP := fun W => eprint_any wk tx W ht
  have hlen := txtE_len (wk, tx)
  dsimp only at hlen
  have HPA := Lib.hid hpa
  have HPB := Lib.hid hpb
  clear hpa hpb hC
  obtain ⟨A, hA⟩ : ∃ A, strB a = A := ⟨_, rfl⟩
  obtain ⟨B, hB⟩ : ∃ B, strB b = B := ⟨_, rfl⟩
  obtain ⟨S, hS⟩ : ∃ S, strB tx = S := ⟨_, rfl⟩
  have HA := Lib.hid hA
  have HBB := Lib.hid hB
  have HS := Lib.hid hS
  have hSz : S.size = tx.length := by rw [← hS]; exact strB_size tx
  rw [hA] at cP0
  rw [hB] at cP1
  rw [hS] at cP ⊢
  clear hA hB hS
  have HB0 := Lib.hid (((Below.refl w.heap.size w).alloc (Nat.le_refl _) (.cells #[.bool wk, .string S] 25)).alloc (by simp) (.cells #[.int .i64 n0, .int .i64 n1] 38))
  have HT0 := Lib.hid ((BoxN.made w [.bool wk, .string S] 25).next ((Below.refl _ _).alloc (Nat.le_refl _) (.cells #[.int .i64 n0, .int .i64 n1] 38)))
  have HN0 : Hid (BoxN ((w.alloc (.cells #[.bool wk, .string S] 25)).alloc (.cells #[.int .i64 n0, .int .i64 n1] 38)) (w.heap.size + 1) [.int .i64 n0, .int .i64 n1]) := Lib.hid (by
    have h := BoxN.made (w.alloc (.cells #[.bool wk, .string S] 25)) [.int .i64 n0, .int .i64 n1] 38
    rw [show (w.alloc (.cells #[.bool wk, .string S] 25)).heap.size = w.heap.size + 1 by simp] at h
    exact h)
  by_cases hv : vldE (wk, tx) = true
  · unfold txV at cP
    rw [if_pos hv] at cP
    obtain ⟨O, hO⟩ : ∃ O, strB (txtE (wk, tx)) = O := ⟨_, rfl⟩
    have HO := Lib.hid hO
    have hOz : O.size = (txtE (wk, tx)).length := by rw [← hO]; exact strB_size _
    rw [hO] at cP
    clear hO
    rcases hka with rfl | rfl
    · rcases hkb with rfl | rfl
      · by_cases hl : 200 < O.size
        · have g1 : (200 : Int) < (O.size : Int) := by omega
          go_enter Tryd.func4, Tryd.ntmps4
          go_wp2_with fail
          refine (cA _ HB0.out).mono ?_
          rintro e w1 ⟨rfl, hb⟩
          have HT := Lib.hid (HT0.out.next hb)
          have HN := Lib.hid (HN0.out.next hb)
          have HB := Lib.hid (HB0.out.trans (hb.mono HB0.out.size))
          clear hb
          have x0 := (HT.out.2 0 _ rfl).1
          have x1 := (HT.out.2 1 _ rfl).1
          have y0 := (HN.out.2 0 _ rfl).1
          have y1 := (HN.out.2 1 _ rfl).1
          go_wp2_with fail
          refine (cP _).mono ?_
          rintro e w2 ⟨rfl, hb⟩
          clear x0 x1 y0 y1
          have HT := Lib.hid (HT.out.next hb)
          have HN := Lib.hid (HN.out.next hb)
          have HB := Lib.hid (HB.out.trans (hb.mono HB.out.size))
          clear hb
          have x0 := (HT.out.2 0 _ rfl).1
          have x1 := (HT.out.2 1 _ rfl).1
          have y0 := (HN.out.2 0 _ rfl).1
          have y1 := (HN.out.2 1 _ rfl).1
          go_wp2_with fail
          refine (cP0 _ (Cal.below HC.out HB.out)).mono ?_
          rintro e w3 ⟨rfl, hb⟩
          clear x0 x1 y0 y1
          have HT := Lib.hid (HT.out.next hb)
          have HN := Lib.hid (HN.out.next hb)
          have HB := Lib.hid (HB.out.trans (hb.mono HB.out.size))
          clear hb
          have x0 := (HT.out.2 0 _ rfl).1
          have x1 := (HT.out.2 1 _ rfl).1
          have y0 := (HN.out.2 0 _ rfl).1
          have y1 := (HN.out.2 1 _ rfl).1
          go_wp2_with fail
          refine (cP1 _ (Cal.below HC.out HB.out)).mono ?_
          rintro e w4 ⟨rfl, hb⟩
          clear x0 x1 y0 y1
          have HT := Lib.hid (HT.out.next hb)
          have HN := Lib.hid (HN.out.next hb)
          have HB := Lib.hid (HB.out.trans (hb.mono HB.out.size))
          clear hb
          have x0 := (HT.out.2 0 _ rfl).1
          have x1 := (HT.out.2 1 _ rfl).1
          have y0 := (HN.out.2 0 _ rfl).1
          have y1 := (HN.out.2 1 _ rfl).1
          go_wp2_with fail
          go_ret
          exact ⟨rfl, HB.out⟩
        · have g1 : ¬ (200 : Int) < (O.size : Int) := by omega
          obtain ⟨m0, rfl, hm0⟩ := HPA.out rfl
          obtain ⟨m1, rfl, hm1⟩ := HPB.out rfl
          have ol : (txtE (wk, tx)).length ≤ 200 := by omega
          have hx := vldE_x (wk, tx) hv
          have hxl := txtE_len (false, tx ++ [120])
          rw [List.length_append, List.length_singleton] at hxl
          have lN : nInm.length ≤ 100000 ∧ nIms.length ≤ 100000 ∧ nEtg.length ≤ 100000 ∧ nLmd.length ≤ 100000 := by decide
          have okP : FldsOk (etgF (txtE (wk, tx)) a) := ok_two _ _ _ _ lN.2.2.1 (by omega) lN.2.2.2 (by omega)
          have jP : ∀ n, (joinH (allH (etgF (txtE (wk, tx)) a) n)).length ≤ 90000 := fun n => join_two _ _ _ _ n _ (by omega)
          have cH1 := fun v v2 W (h : Flds 0 W v [(nInm, txtE (wk, tx))]) (h2 : Flds 0 W v2 (etgF (txtE (wk, tx)) a)) hC => eheld_any 0 0 v v2 _ _ W h h2 (ok_one _ _ lN.1 (by omega)) okP (fun n => join_one _ _ n _ (by omega)) jP hC
          have cH2 := fun v v2 W (h : Flds 0 W v [(nIms, b)]) (h2 : Flds 0 W v2 (etgF (txtE (wk, tx)) a)) hC => eheld_any 0 0 v v2 _ _ W h h2 (ok_one _ _ lN.2.1 (by omega)) okP (fun n => join_one _ _ n _ (by omega)) jP hC
          have cH3 := fun v v2 W (h : Flds 0 W v [(nInm, txtE (false, tx ++ [120])), (nIms, a)]) (h2 : Flds 0 W v2 (etgF (txtE (wk, tx)) a)) hC => eheld_any 0 0 v v2 _ _ W h h2 (ok_two _ _ _ _ lN.1 (by omega) lN.2.1 (by omega)) okP (fun n => join_two _ _ _ _ n _ (by omega)) jP hC
          have cH4 := fun v v2 W (h : Flds 0 W v []) (h2 : Flds 0 W v2 (etgF (txtE (wk, tx)) a)) hC => eheld_any 0 0 v v2 _ _ W h h2 ⟨by simp, fun p hp => by cases hp⟩ okP (fun n => by simp [allH, joinH]) jP hC
          rw [held_own (wk, tx) a hv] at cH1
          rw [held_date, datE_of hm1 hm0] at cH2
          rw [held_not (wk, tx) (false, tx ++ [120]) a a hv hx (by simp)] at cH3
          rw [held_none] at cH4
          have cW1 := fun W => hwith_any 0 (.slice none 0 0) [] (nInm, txtE (false, tx ++ [120])) W (Flds.nothing 0 W) (by simp)
          have cW2 := fun v W (h : Flds 0 W v [(nInm, txtE (false, tx ++ [120]))]) => hwith_any 0 v [(nInm, txtE (false, tx ++ [120]))] (nIms, a) W h (by simp)
          dsimp only at cW1 cW2
          rw [show strB (txtE (false, tx ++ [120])) = ⟨#[34]⟩ ++ S ++ ⟨#[120, 34]⟩ from by
            rw [← HS.out, show (⟨#[34]⟩ : ByteArray) = strB [34] from rfl, show (⟨#[120, 34]⟩ : ByteArray) = strB [120, 34] from rfl, strB_append, strB_append]
            simp [txtE]] at cW1
          rw [HA.out] at cW2
          rw [show strB nInm = (⟨#[105, 102, 45, 110, 111, 110, 101, 45, 109, 97, 116, 99, 104]⟩ : ByteArray) from rfl] at cW1
          rw [show strB nIms = (⟨#[105, 102, 45, 109, 111, 100, 105, 102, 105, 101, 100, 45, 115, 105, 110, 99, 101]⟩ : ByteArray) from rfl] at cW2
          have z1 : ¬ 9223372036854775807 < 1 + S.size := by omega
          have z2 : ¬ 9223372036854775807 < 1 + S.size + 2 := by omega
          have hdec : Hid (decide (m0 ≤ m1) = decide ((m0 : Int) ≤ (m1 : Int))) := Lib.hid (by
            by_cases h : m0 ≤ m1
            · rw [decide_eq_true h, decide_eq_true (by omega)]
            · rw [decide_eq_false h, decide_eq_false (by omega)])
          rw [hdec.out] at cH2
          clear okP jP hx hv hm0 hm1 hdec HPA HPB lN
          by_cases hle : (m0 : Int) ≤ (m1 : Int)
          all_goals
            first | rw [decide_eq_true hle] at cH2 | rw [decide_eq_false hle] at cH2
            go_enter Tryd.func4, Tryd.ntmps4
            go_wp2_with fail
            refine (cA _ HB0.out).mono ?_
            rintro e w1 ⟨rfl, hb⟩
            have HT := Lib.hid (HT0.out.next hb)
            have HN := Lib.hid (HN0.out.next hb)
            have HB := Lib.hid (HB0.out.trans (hb.mono HB0.out.size))
            clear hb
            have x0 := (HT.out.2 0 _ rfl).1
            have x1 := (HT.out.2 1 _ rfl).1
            have y0 := (HN.out.2 0 _ rfl).1
            have y1 := (HN.out.2 1 _ rfl).1
            go_wp2_with fail
            refine (cP _).mono ?_
            rintro e w2 ⟨rfl, hb⟩
            clear x0 x1 y0 y1
            have HT := Lib.hid (HT.out.next hb)
            have HN := Lib.hid (HN.out.next hb)
            have HB := Lib.hid (HB.out.trans (hb.mono HB.out.size))
            clear hb
            have x0 := (HT.out.2 0 _ rfl).1
            have x1 := (HT.out.2 1 _ rfl).1
            have y0 := (HN.out.2 0 _ rfl).1
            have y1 := (HN.out.2 1 _ rfl).1
            go_wp2_with fail
            refine (cP0 _ (Cal.below HC.out HB.out)).mono ?_
            rintro e w3 ⟨rfl, hb⟩
            clear x0 x1 y0 y1
            have HT := Lib.hid (HT.out.next hb)
            have HN := Lib.hid (HN.out.next hb)
            have HB := Lib.hid (HB.out.trans (hb.mono HB.out.size))
            clear hb
            have x0 := (HT.out.2 0 _ rfl).1
            have x1 := (HT.out.2 1 _ rfl).1
            have y0 := (HN.out.2 0 _ rfl).1
            have y1 := (HN.out.2 1 _ rfl).1
            go_wp2_with fail
            refine (cP1 _ (Cal.below HC.out HB.out)).mono ?_
            rintro e w4 ⟨rfl, hb⟩
            clear x0 x1 y0 y1
            have HT := Lib.hid (HT.out.next hb)
            have HN := Lib.hid (HN.out.next hb)
            have HB := Lib.hid (HB.out.trans (hb.mono HB.out.size))
            clear hb
            have x0 := (HT.out.2 0 _ rfl).1
            have x1 := (HT.out.2 1 _ rfl).1
            have y0 := (HN.out.2 0 _ rfl).1
            have y1 := (HN.out.2 1 _ rfl).1
            go_wp2_with fail
            have hb := (Below.refl w4.heap.size w4).alloc (Nat.le_refl _) (.cells #[.string ⟨#[101, 116, 97, 103]⟩, .string O, .string ⟨#[108, 97, 115, 116, 45, 109, 111, 100, 105, 102, 105, 101, 100]⟩, .string A] 41)
            have HP : Hid (Flds 0 (w4.alloc (.cells #[.string ⟨#[101, 116, 97, 103]⟩, .string O, .string ⟨#[108, 97, 115, 116, 45, 109, 111, 100, 105, 102, 105, 101, 100]⟩, .string A] 41)) (.slice (some ⟨w4.heap.size, 0, none⟩) 2 2) (etgF (txtE (wk, tx)) a)) := Lib.hid (by
              rw [← HA.out, ← HO.out]
              exact flds_two w4 nEtg (txtE (wk, tx)) nLmd a 41)
            clear x0 x1 y0 y1
            have HT := Lib.hid (HT.out.next hb)
            have HN := Lib.hid (HN.out.next hb)
            have HB := Lib.hid (HB.out.trans (hb.mono HB.out.size))
            have hb2 := (Below.refl (w4.alloc (.cells #[.string ⟨#[101, 116, 97, 103]⟩, .string O, .string ⟨#[108, 97, 115, 116, 45, 109, 111, 100, 105, 102, 105, 101, 100]⟩, .string A] 41)).heap.size (w4.alloc (.cells #[.string ⟨#[101, 116, 97, 103]⟩, .string O, .string ⟨#[108, 97, 115, 116, 45, 109, 111, 100, 105, 102, 105, 101, 100]⟩, .string A] 41))).alloc (Nat.le_refl _) (.cells #[.string ⟨#[105, 102, 45, 110, 111, 110, 101, 45, 109, 97, 116, 99, 104]⟩, .string O] 41)
            have HQ1 : Hid (Flds 0 ((w4.alloc (.cells #[.string ⟨#[101, 116, 97, 103]⟩, .string O, .string ⟨#[108, 97, 115, 116, 45, 109, 111, 100, 105, 102, 105, 101, 100]⟩, .string A] 41)).alloc (.cells #[.string ⟨#[105, 102, 45, 110, 111, 110, 101, 45, 109, 97, 116, 99, 104]⟩, .string O] 41)) (.slice (some ⟨w4.heap.size + 1, 0, none⟩) 1 1) [(nInm, txtE (wk, tx))]) := Lib.hid (by
              have h := flds_one (w4.alloc (.cells #[.string ⟨#[101, 116, 97, 103]⟩, .string O, .string ⟨#[108, 97, 115, 116, 45, 109, 111, 100, 105, 102, 105, 101, 100]⟩, .string A] 41)) nInm (txtE (wk, tx)) 41
              rw [show (w4.alloc (.cells #[.string ⟨#[101, 116, 97, 103]⟩, .string O, .string ⟨#[108, 97, 115, 116, 45, 109, 111, 100, 105, 102, 105, 101, 100]⟩, .string A] 41)).heap.size = w4.heap.size + 1 by simp, HO.out] at h
              exact h)
            have HT := Lib.hid (HT.out.next hb2)
            have HN := Lib.hid (HN.out.next hb2)
            have HP := Lib.hid (HP.out.below hb2)
            have HB := Lib.hid (HB.out.trans (hb2.mono HB.out.size))
            clear hb hb2
            generalize (w4.alloc (.cells #[.string ⟨#[101, 116, 97, 103]⟩, .string O, .string ⟨#[108, 97, 115, 116, 45, 109, 111, 100, 105, 102, 105, 101, 100]⟩, .string A] 41)).alloc (.cells #[.string ⟨#[105, 102, 45, 110, 111, 110, 101, 45, 109, 97, 116, 99, 104]⟩, .string O] 41) = W4 at *
            generalize w4.heap.size = D4 at *
            refine (cH1 _ _ _ HQ1.out HP.out (Cal.below HC.out HB.out)).mono ?_
            rintro e w5 ⟨rfl, hb⟩
            have HT := Lib.hid (HT.out.next hb)
            have HN := Lib.hid (HN.out.next hb)
            have HP := Lib.hid (HP.out.below hb)
            have HB := Lib.hid (HB.out.trans (hb.mono HB.out.size))
            clear hb cH1 HQ1
            have x0 := (HT.out.2 0 _ rfl).1
            have x1 := (HT.out.2 1 _ rfl).1
            have y0 := (HN.out.2 0 _ rfl).1
            have y1 := (HN.out.2 1 _ rfl).1
            go_wp2_with fail
            have hb := (Below.refl w5.heap.size w5).alloc (Nat.le_refl _) (.cells #[.string ⟨#[105, 102, 45, 109, 111, 100, 105, 102, 105, 101, 100, 45, 115, 105, 110, 99, 101]⟩, .string B] 41)
            have HQ2 : Hid (Flds 0 (w5.alloc (.cells #[.string ⟨#[105, 102, 45, 109, 111, 100, 105, 102, 105, 101, 100, 45, 115, 105, 110, 99, 101]⟩, .string B] 41)) (.slice (some ⟨w5.heap.size, 0, none⟩) 1 1) [(nIms, b)]) := Lib.hid (by
              have h := flds_one w5 nIms b 41
              rw [HBB.out] at h
              exact h)
            clear x0 x1 y0 y1
            have HT := Lib.hid (HT.out.next hb)
            have HN := Lib.hid (HN.out.next hb)
            have HP := Lib.hid (HP.out.below hb)
            have HB := Lib.hid (HB.out.trans (hb.mono HB.out.size))
            clear hb
            generalize w5.alloc (.cells #[.string ⟨#[105, 102, 45, 109, 111, 100, 105, 102, 105, 101, 100, 45, 115, 105, 110, 99, 101]⟩, .string B] 41) = W5 at *
            generalize w5.heap.size = D5 at *
            refine (cH2 _ _ _ HQ2.out HP.out (Cal.below HC.out HB.out)).mono ?_
            rintro e w6 ⟨rfl, hb⟩
            have HT := Lib.hid (HT.out.next hb)
            have HN := Lib.hid (HN.out.next hb)
            have HP := Lib.hid (HP.out.below hb)
            have HB := Lib.hid (HB.out.trans (hb.mono HB.out.size))
            clear hb cH2 HQ2
            have x0 := (HT.out.2 0 _ rfl).1
            have x1 := (HT.out.2 1 _ rfl).1
            have y0 := (HN.out.2 0 _ rfl).1
            have y1 := (HN.out.2 1 _ rfl).1
            go_wp2_with fail
            refine (cW1 _).mono ?_
            rintro e w7 ⟨⟨u, rfl, hown⟩, hb⟩
            have HF := Lib.hid (Flds.of_own (lo := 0) hown (Nat.zero_le _))
            obtain ⟨uo, uc, rfl⟩ := owns_formF hown
            clear hown cW1
            clear x0 x1 y0 y1
            have HT := Lib.hid (HT.out.next hb)
            have HN := Lib.hid (HN.out.next hb)
            have HP := Lib.hid (HP.out.below hb)
            have HB := Lib.hid (HB.out.trans (hb.mono HB.out.size))
            clear hb
            have x0 := (HT.out.2 0 _ rfl).1
            have x1 := (HT.out.2 1 _ rfl).1
            have y0 := (HN.out.2 0 _ rfl).1
            have y1 := (HN.out.2 1 _ rfl).1
            go_wp2_with fail
            refine (cW2 _ _ HF.out).mono ?_
            rintro e w8 ⟨⟨u, rfl, hown⟩, hb⟩
            have HF := Lib.hid (Flds.of_own (lo := 0) hown (Nat.zero_le _))
            obtain ⟨vo, vc, rfl⟩ := owns_formF hown
            clear hown cW2
            clear x0 x1 y0 y1
            have HT := Lib.hid (HT.out.next hb)
            have HN := Lib.hid (HN.out.next hb)
            have HP := Lib.hid (HP.out.below hb)
            have HB := Lib.hid (HB.out.trans (hb.mono HB.out.size))
            clear hb
            have x0 := (HT.out.2 0 _ rfl).1
            have x1 := (HT.out.2 1 _ rfl).1
            have y0 := (HN.out.2 0 _ rfl).1
            have y1 := (HN.out.2 1 _ rfl).1
            go_wp2_with fail
            refine (cH3 _ _ _ HF.out HP.out (Cal.below HC.out HB.out)).mono ?_
            rintro e w9 ⟨rfl, hb⟩
            clear cH3 HF
            clear x0 x1 y0 y1
            have HT := Lib.hid (HT.out.next hb)
            have HN := Lib.hid (HN.out.next hb)
            have HP := Lib.hid (HP.out.below hb)
            have HB := Lib.hid (HB.out.trans (hb.mono HB.out.size))
            clear hb
            have x0 := (HT.out.2 0 _ rfl).1
            have x1 := (HT.out.2 1 _ rfl).1
            have y0 := (HN.out.2 0 _ rfl).1
            have y1 := (HN.out.2 1 _ rfl).1
            go_wp2_with fail
            refine (cH4 _ _ _ (Flds.nothing 0 _) HP.out (Cal.below HC.out HB.out)).mono ?_
            rintro e w10 ⟨rfl, hb⟩
            have HB := Lib.hid (HB.out.trans (hb.mono HB.out.size))
            clear hb
            go_wp2_with fail
            go_ret
            first | exact ⟨rfl, HB.out⟩ | (have hn : decide (m0 ≤ m1) = false := decide_eq_false (by omega); exact ⟨by rw [hn]; rfl, HB.out⟩)
      · have k6 : ((6 : Int) != 0) = true := rfl
        go_enter Tryd.func4, Tryd.ntmps4
        go_wp2_with fail
        refine (cA _ HB0.out).mono ?_
        rintro e w1 ⟨rfl, hb⟩
        have HT := Lib.hid (HT0.out.next hb)
        have HN := Lib.hid (HN0.out.next hb)
        have HB := Lib.hid (HB0.out.trans (hb.mono HB0.out.size))
        clear hb
        have x0 := (HT.out.2 0 _ rfl).1
        have x1 := (HT.out.2 1 _ rfl).1
        have y0 := (HN.out.2 0 _ rfl).1
        have y1 := (HN.out.2 1 _ rfl).1
        go_wp2_with fail
        refine (cP _).mono ?_
        rintro e w2 ⟨rfl, hb⟩
        clear x0 x1 y0 y1
        have HT := Lib.hid (HT.out.next hb)
        have HN := Lib.hid (HN.out.next hb)
        have HB := Lib.hid (HB.out.trans (hb.mono HB.out.size))
        clear hb
        have x0 := (HT.out.2 0 _ rfl).1
        have x1 := (HT.out.2 1 _ rfl).1
        have y0 := (HN.out.2 0 _ rfl).1
        have y1 := (HN.out.2 1 _ rfl).1
        go_wp2_with fail
        refine (cP0 _ (Cal.below HC.out HB.out)).mono ?_
        rintro e w3 ⟨rfl, hb⟩
        clear x0 x1 y0 y1
        have HT := Lib.hid (HT.out.next hb)
        have HN := Lib.hid (HN.out.next hb)
        have HB := Lib.hid (HB.out.trans (hb.mono HB.out.size))
        clear hb
        have x0 := (HT.out.2 0 _ rfl).1
        have x1 := (HT.out.2 1 _ rfl).1
        have y0 := (HN.out.2 0 _ rfl).1
        have y1 := (HN.out.2 1 _ rfl).1
        go_wp2_with fail
        refine (cP1 _ (Cal.below HC.out HB.out)).mono ?_
        rintro e w4 ⟨rfl, hb⟩
        clear x0 x1 y0 y1
        have HT := Lib.hid (HT.out.next hb)
        have HN := Lib.hid (HN.out.next hb)
        have HB := Lib.hid (HB.out.trans (hb.mono HB.out.size))
        clear hb
        have x0 := (HT.out.2 0 _ rfl).1
        have x1 := (HT.out.2 1 _ rfl).1
        have y0 := (HN.out.2 0 _ rfl).1
        have y1 := (HN.out.2 1 _ rfl).1
        go_wp2_with fail
        go_ret
        exact ⟨rfl, HB.out⟩
    · have k6 : ((6 : Int) != 0) = true := rfl
      go_enter Tryd.func4, Tryd.ntmps4
      go_wp2_with fail
      refine (cA _ HB0.out).mono ?_
      rintro e w1 ⟨rfl, hb⟩
      have HT := Lib.hid (HT0.out.next hb)
      have HN := Lib.hid (HN0.out.next hb)
      have HB := Lib.hid (HB0.out.trans (hb.mono HB0.out.size))
      clear hb
      have x0 := (HT.out.2 0 _ rfl).1
      have x1 := (HT.out.2 1 _ rfl).1
      have y0 := (HN.out.2 0 _ rfl).1
      have y1 := (HN.out.2 1 _ rfl).1
      go_wp2_with fail
      refine (cP _).mono ?_
      rintro e w2 ⟨rfl, hb⟩
      clear x0 x1 y0 y1
      have HT := Lib.hid (HT.out.next hb)
      have HN := Lib.hid (HN.out.next hb)
      have HB := Lib.hid (HB.out.trans (hb.mono HB.out.size))
      clear hb
      have x0 := (HT.out.2 0 _ rfl).1
      have x1 := (HT.out.2 1 _ rfl).1
      have y0 := (HN.out.2 0 _ rfl).1
      have y1 := (HN.out.2 1 _ rfl).1
      go_wp2_with fail
      refine (cP0 _ (Cal.below HC.out HB.out)).mono ?_
      rintro e w3 ⟨rfl, hb⟩
      clear x0 x1 y0 y1
      have HT := Lib.hid (HT.out.next hb)
      have HN := Lib.hid (HN.out.next hb)
      have HB := Lib.hid (HB.out.trans (hb.mono HB.out.size))
      clear hb
      have x0 := (HT.out.2 0 _ rfl).1
      have x1 := (HT.out.2 1 _ rfl).1
      have y0 := (HN.out.2 0 _ rfl).1
      have y1 := (HN.out.2 1 _ rfl).1
      go_wp2_with fail
      refine (cP1 _ (Cal.below HC.out HB.out)).mono ?_
      rintro e w4 ⟨rfl, hb⟩
      clear x0 x1 y0 y1
      have HT := Lib.hid (HT.out.next hb)
      have HN := Lib.hid (HN.out.next hb)
      have HB := Lib.hid (HB.out.trans (hb.mono HB.out.size))
      clear hb
      have x0 := (HT.out.2 0 _ rfl).1
      have x1 := (HT.out.2 1 _ rfl).1
      have y0 := (HN.out.2 0 _ rfl).1
      have y1 := (HN.out.2 1 _ rfl).1
      go_wp2_with fail
      go_ret
      exact ⟨rfl, HB.out⟩
  · unfold txV at cP
    rw [if_neg hv] at cP
    go_enter Tryd.func4, Tryd.ntmps4
    go_wp2_with fail
    refine (cA _ HB0.out).mono ?_
    rintro e w1 ⟨rfl, hb⟩
    have HT := Lib.hid (HT0.out.next hb)
    have HN := Lib.hid (HN0.out.next hb)
    have HB := Lib.hid (HB0.out.trans (hb.mono HB0.out.size))
    clear hb
    have x0 := (HT.out.2 0 _ rfl).1
    have x1 := (HT.out.2 1 _ rfl).1
    have y0 := (HN.out.2 0 _ rfl).1
    have y1 := (HN.out.2 1 _ rfl).1
    go_wp2_with fail
    refine (cP _).mono ?_
    rintro e w2 ⟨rfl, hb⟩
    clear x0 x1 y0 y1
    have HT := Lib.hid (HT.out.next hb)
    have HN := Lib.hid (HN.out.next hb)
    have HB := Lib.hid (HB.out.trans (hb.mono HB.out.size))
    clear hb
    have x0 := (HT.out.2 0 _ rfl).1
    have x1 := (HT.out.2 1 _ rfl).1
    have y0 := (HN.out.2 0 _ rfl).1
    have y1 := (HN.out.2 1 _ rfl).1
    go_wp2_with fail
    refine (cP0 _ (Cal.below HC.out HB.out)).mono ?_
    rintro e w3 ⟨rfl, hb⟩
    clear x0 x1 y0 y1
    have HT := Lib.hid (HT.out.next hb)
    have HN := Lib.hid (HN.out.next hb)
    have HB := Lib.hid (HB.out.trans (hb.mono HB.out.size))
    clear hb
    have x0 := (HT.out.2 0 _ rfl).1
    have x1 := (HT.out.2 1 _ rfl).1
    have y0 := (HN.out.2 0 _ rfl).1
    have y1 := (HN.out.2 1 _ rfl).1
    go_wp2_with fail
    refine (cP1 _ (Cal.below HC.out HB.out)).mono ?_
    rintro e w4 ⟨rfl, hb⟩
    clear x0 x1 y0 y1
    have HT := Lib.hid (HT.out.next hb)
    have HN := Lib.hid (HN.out.next hb)
    have HB := Lib.hid (HB.out.trans (hb.mono HB.out.size))
    clear hb
    have x0 := (HT.out.2 0 _ rfl).1
    have x1 := (HT.out.2 1 _ rfl).1
    have y0 := (HN.out.2 0 _ rfl).1
    have y1 := (HN.out.2 1 _ rfl).1
    go_wp2_with fail
    go_ret
    exact ⟨rfl, HB.out⟩

end Go.Proofs.YtclgdmcbbphbcaaDoor
