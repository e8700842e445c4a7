/- The contracts of package etag's isListed, isUnmodified, Held. · The law's own 'awake' over package etag: it returns true. -/
import Derived.Test.YtclgdmcbbphbcaaGreatDoorZEvE
import Derived.Test.YtclgdmcbbphbcaaGreatDoorZMEvR
import Derived.Test.YtclgdmcbbphbcaaGreatDoorZMHdS
import Derived.Test.YtclgdmcbbphbcaaGreatDoorZDatJ
import Derived.Test.YtclgdmcbbphbcaaGreatDoorZAwkE

namespace Go.Proofs.YtclgdmcbbphbcaaGreatDoor
open Go.RowKit Go.Lib

set_option maxRecDepth 100000 in
set_option maxHeartbeats 8000000 in
theorem isListed_any (lo : Nat) (l : List UInt8) (v : Value) (p : List Fld) (w : World) (h : Flds lo w v p) (hk : FldsOk p) (hl : l.length ≤ 90000) (hj : ∀ n, (joinH (allH p n)).length ≤ 90000) :
    Calls Tryz.prog 27 #[.string (strB l), v] w fun e w' => e = .returned (.bool (hldE l (joinH (allH p nEtg)))) ∧ Below w.heap.size w w' := by
  have cL := fun W => elist_any (strB l) W (by rw [strB_size]; omega)
  have cG := fun W (hb : Below w.heap.size w W) => hget_any lo v p nEtg W (h.below hb) hk
  have cP := fun W => eparse_any (strB (joinH (allH p nEtg))) W (by rw [strB_size]; exact Nat.le_trans (hj nEtg) (by decide))
  unfold getV at cG
  simp only [strB_data] at cL cP
  obtain ⟨ao, cap, rfl, _⟩ := id h
  generalize decide (0 < (allH p nEtg).length) = D3 at *
  generalize joinH (allH p nEtg) = J3 at *
  clear h hk hj
  cases hls : lstE l with
  | none =>
    have HV := Lib.hid (hldE_none (v := J3) hls)
    rw [hls] at cL
    obtain ⟨R, hR⟩ : ∃ R, hldE l J3 = R := ⟨_, rfl⟩
    rw [hR] at HV ⊢
    clear hR hls cG cP
    generalize strB l = S at *
    go_enter Tryz.func27, Tryz.ntmps27
    go_wp2_with fail
    refine (cL _).mono ?_
    rintro e w2 ⟨hb, rfl⟩
    have HB := Lib.hid hb
    clear hb cL
    go_wp2_with fail
    go_ret
    exact ⟨by rw [HV.out] <;> rfl, HB.out⟩
  | some x =>
    obtain ⟨xs, st⟩ := x
    have hxl : xs.length ≤ 90000 := Nat.le_trans (lstE_len hls) hl
    have HV := Lib.hid (hldE_some (v := J3) hls)
    rw [hls] at cL
    obtain ⟨R, hR⟩ : ∃ R, hldE l J3 = R := ⟨_, rfl⟩
    rw [hR] at HV ⊢
    clear hR hls hl
    cases st
    · cases hp : prsE J3 with
      | none =>
        rw [hp] at cP HV
        simp only [prV, tgV] at cP
        rw [show strB [] = (⟨#[]⟩ : ByteArray) from rfl] at cP
        clear hp
        generalize strB l = S at *
        generalize strB J3 = S3 at *
        go_enter Tryz.func27, Tryz.ntmps27
        go_wp2_with fail
        refine (cL _).mono ?_
        rintro e w2 ⟨hb, u, rfl, hT⟩
        have HB := Lib.hid hb
        obtain ⟨uo, uc, rfl, _⟩ := hT
        clear hb cL
        go_wp2_with fail
        refine (cG _ HB.out).mono ?_
        rintro e w3 ⟨rfl, hb⟩
        have HB := Lib.hid (HB.out.trans (hb.mono HB.out.size))
        clear hb cG
        go_wp2_with fail
        refine (cP _).mono ?_
        rintro e w4 ⟨rfl, hb⟩
        have HB := Lib.hid (HB.out.trans (hb.mono HB.out.size))
        have HB9 := Lib.hid (HB.out.alloc HB.out.size (.cells #[.bool false, .string ⟨#[]⟩] 23))
        clear hb cP
        go_wp2_with fail
        go_ret
        exact ⟨by rw [HV.out] <;> rfl, HB9.out⟩
      | some t =>
        rw [hp] at cP HV
        have cC := fun (b : Nat) (v : Value) W (h : Tags w.heap.size W v xs) (hX : BoxN W b [.bool t.1, .string (strB t.2)]) => conE_any w.heap.size b v xs t W h hX (by omega)
        simp only [anyE] at HV
        generalize xs.any (fun x => likE x t false) = V at *
        obtain ⟨wk, tx⟩ := t
        simp only [prV, tgV] at cP
        generalize strB tx = X at *
        clear hp
        generalize strB l = S at *
        generalize strB J3 = S3 at *
        go_enter Tryz.func27, Tryz.ntmps27
        go_wp2_with fail
        refine (cL _).mono ?_
        rintro e w2 ⟨hb, u, rfl, hT⟩
        have HB := Lib.hid hb
        have HT := Lib.hid hT
        obtain ⟨uo, uc, rfl, _⟩ := hT
        clear hb cL
        go_wp2_with fail
        refine (cG _ HB.out).mono ?_
        rintro e w3 ⟨rfl, hb⟩
        have HB := Lib.hid (HB.out.trans (hb.mono HB.out.size))
        have HT := Lib.hid (HT.out.below hb)
        clear hb cG
        go_wp2_with fail
        refine (cP _).mono ?_
        rintro e w4 ⟨rfl, hb⟩
        have HB := Lib.hid (HB.out.trans (hb.mono HB.out.size))
        have HT := Lib.hid (HT.out.below hb)
        have hal := (Below.refl w4.heap.size w4).alloc (Nat.le_refl _) (.cells #[.bool wk, .string X] 23)
        have HX := Lib.hid (BoxN.made w4 [.bool wk, .string X] 23)
        have HB := Lib.hid (HB.out.trans (hal.mono HB.out.size))
        have HT := Lib.hid (HT.out.below hal)
        clear hb cP hal
        go_wp2_with fail
        refine (cC _ _ _ HT.out HX.out).mono ?_
        rintro e w5 ⟨rfl, hb⟩
        have HB := Lib.hid (HB.out.trans (hb.mono HB.out.size))
        clear hb cC
        go_wp2_with fail
        go_ret
        exact ⟨by rw [HV.out]; simp, HB.out⟩
    · clear cG cP
      generalize strB l = S at *
      go_enter Tryz.func27, Tryz.ntmps27
      go_wp2_with fail
      refine (cL _).mono ?_
      rintro e w2 ⟨hb, u, rfl, hT⟩
      have HB := Lib.hid hb
      obtain ⟨uo, uc, rfl, _⟩ := hT
      clear hb cL
      go_wp2_with fail
      go_ret
      exact ⟨by rw [HV.out, Bool.true_or] <;> rfl, HB.out⟩

theorem parL_nil : parL [] = none := by decide +kernel
theorem datE_n1 {a b : List UInt8} (h : parL a = none) : datE a b = false := by unfold datE; rw [h]
theorem datE_n2 {a b : List UInt8} {n : Nat} (h : parL a = some n) (h2 : parL b = none) : datE a b = false := by unfold datE; rw [h]; dsimp only; rw [h2]
theorem datE_s {a b : List UInt8} {n m : Nat} (h : parL a = some n) (h2 : parL b = some m) : datE a b = decide (m ≤ n) := by unfold datE; rw [h]; dsimp only; rw [h2]
theorem datE_nil (a : List UInt8) : datE a [] = false := by
  cases h : parL a with
  | none => exact datE_n1 h
  | some n => exact datE_n2 h parL_nil

set_option maxRecDepth 100000 in
set_option maxHeartbeats 4000000 in
theorem isUnmod_any (lo : Nat) (l : List UInt8) (v : Value) (p : List Fld) (w : World) (h : Flds lo w v p) (hk : FldsOk p) (hl : l.length ≤ 90000) (hj : ∀ n, (joinH (allH p n)).length ≤ 90000) (hC : Cal w) :
    Calls Tryz.prog 28 #[.string (strB l), v] w fun e w' => e = .returned (.bool (datE l (joinH (allH p nLmd)))) ∧ Below w.heap.size w w' := by
  have HC := Lib.hid hC
  have cD := fun W (hb : Below w.heap.size w W) => parse_any l W (Nat.le_trans hl (by decide)) (Cal.below HC.out hb)
  have cG := fun W (hb : Below w.heap.size w W) => hget_any lo v p nLmd W (h.below hb) hk
  have cE := fun W (hb : Below w.heap.size w W) => parse_any (joinH (allH p nLmd)) W (Nat.le_trans (hj nLmd) (by decide)) (Cal.below HC.out hb)
  unfold getV at cG
  have N1 := Lib.hid (fun (h : parL l = none) => datE_n1 (b := joinH (allH p nLmd)) h)
  have N2 := Lib.hid (fun n (h : parL l = some n) (h2 : parL (joinH (allH p nLmd)) = none) => datE_n2 h h2)
  have N3 := Lib.hid (fun n m (h : parL l = some n) (h2 : parL (joinH (allH p nLmd)) = some m) => datE_s h h2)
  obtain ⟨ao, cap, rfl, _⟩ := id h
  obtain ⟨R, hR⟩ : ∃ R, datE l (joinH (allH p nLmd)) = R := ⟨_, rfl⟩
  rw [hR] at N1 N2 N3 ⊢
  generalize decide (0 < (allH p nLmd).length) = D3 at *
  generalize joinH (allH p nLmd) = J3 at *
  clear h hk hj hR hC
  unfold secV at cD cE
  cases h1 : parL l with
  | none =>
    rw [h1] at cD
    have HV := Lib.hid (N1.out h1)
    clear cG cE h1 N1 N2 N3
    generalize strB l = S at *
    go_enter Tryz.func28, Tryz.ntmps28
    go_wp2_with fail
    refine (cD _ (Below.refl _ _)).mono ?_
    rintro e w2 ⟨rfl, hb⟩
    have HB := Lib.hid hb
    clear hb cD
    go_wp2_with fail
    go_ret
    exact ⟨by rw [HV.out] <;> rfl, HB.out⟩
  | some n =>
    rw [h1] at cD
    cases h2 : parL J3 with
    | none =>
      rw [h2] at cE
      have HV := Lib.hid (N2.out n h1 h2)
      clear h1 h2 N1 N2 N3
      generalize strB l = S at *
      generalize strB J3 = S3 at *
      go_enter Tryz.func28, Tryz.ntmps28
      go_wp2_with fail
      refine (cD _ (Below.refl _ _)).mono ?_
      rintro e w2 ⟨rfl, hb⟩
      have HB := Lib.hid hb
      clear hb cD
      go_wp2_with fail
      refine (cG _ HB.out).mono ?_
      rintro e w3 ⟨rfl, hb⟩
      have HB := Lib.hid (HB.out.trans (hb.mono HB.out.size))
      clear hb cG
      go_wp2_with fail
      refine (cE _ HB.out).mono ?_
      rintro e w4 ⟨rfl, hb⟩
      have HB := Lib.hid (HB.out.trans (hb.mono HB.out.size))
      clear hb cE
      go_wp2_with fail
      go_ret
      exact ⟨by rw [HV.out] <;> rfl, HB.out⟩
    | some m =>
      rw [h2] at cE
      have HV := Lib.hid (N3.out n m h1 h2)
      clear h1 h2 N1 N2 N3
      generalize strB l = S at *
      generalize strB J3 = S3 at *
      go_enter Tryz.func28, Tryz.ntmps28
      go_wp2_with fail
      refine (cD _ (Below.refl _ _)).mono ?_
      rintro e w2 ⟨rfl, hb⟩
      have HB := Lib.hid hb
      clear hb cD
      go_wp2_with fail
      refine (cG _ HB.out).mono ?_
      rintro e w3 ⟨rfl, hb⟩
      have HB := Lib.hid (HB.out.trans (hb.mono HB.out.size))
      clear hb cG
      go_wp2_with fail
      refine (cE _ HB.out).mono ?_
      rintro e w4 ⟨rfl, hb⟩
      have HB := Lib.hid (HB.out.trans (hb.mono HB.out.size))
      clear hb cE
      go_wp2_with fail
      go_ret
      exact ⟨by rw [HV.out]; simp, HB.out⟩

/-- Does a request hold a response, as the package finds it out? -/
theorem held_code (q p : List Fld) : heldE q p = if 0 < (allH q nInm).length then hldE (joinH (allH q nInm)) (joinH (allH p nEtg)) else if 0 < (allH q nIms).length then datE (joinH (allH q nIms)) (joinH (allH p nLmd)) else false := by
  unfold heldE
  split
  · rfl
  · by_cases h1 : 0 < (allH q nIms).length
    · rw [if_pos h1]
      by_cases h2 : 0 < (allH p nLmd).length
      · rw [if_pos ⟨h1, h2⟩]
      · rw [if_neg (fun e => h2 e.2)]
        have h3 : allH p nLmd = [] := List.eq_nil_of_length_eq_zero (by omega)
        rw [h3, show joinH [] = [] from rfl, datE_nil]
    · rw [if_neg h1, if_neg (fun e => h1 e.1)]

set_option maxRecDepth 100000 in
set_option maxHeartbeats 4000000 in
theorem eheld_any (lo lo2 : Nat) (v v2 : Value) (q p : List Fld) (w : World) (h : Flds lo w v q) (h2 : Flds lo2 w v2 p) (hk : FldsOk q) (hk2 : FldsOk p) (hj : ∀ n, (joinH (allH q n)).length ≤ 90000) (hj2 : ∀ n, (joinH (allH p n)).length ≤ 90000) (hC : Cal w) :
    Calls Tryz.prog 16 #[v, v2] w fun e w' => e = .returned (.bool (heldE q p)) ∧ Below w.heap.size w w' := by
  have HC := Lib.hid hC
  have c1 := fun W (hb : Below w.heap.size w W) => hget_any lo v q nInm W (h.below hb) hk
  have c2 := fun W (hb : Below w.heap.size w W) => hget_any lo v q nIms W (h.below hb) hk
  have cL := fun W (hb : Below w.heap.size w W) => isListed_any lo2 (joinH (allH q nInm)) v2 p W (h2.below hb) hk2 (hj nInm) hj2
  have cU := fun W (hb : Below w.heap.size w W) => isUnmod_any lo2 (joinH (allH q nIms)) v2 p W (h2.below hb) hk2 (hj nIms) hj2 (Cal.below HC.out hb)
  rw [held_code]
  unfold getV at c1 c2
  obtain ⟨ao, cap, rfl, _⟩ := id h
  obtain ⟨bo, bcap, rfl, _⟩ := id h2
  clear h h2 hk hk2 hj hj2 hC HC
  generalize hldE (joinH (allH q nInm)) (joinH (allH p nEtg)) = V1 at *
  generalize datE (joinH (allH q nIms)) (joinH (allH p nLmd)) = V2 at *
  generalize strB (joinH (allH q nInm)) = S1 at *
  generalize strB (joinH (allH q nIms)) = S2 at *
  by_cases g1 : 0 < (allH q nInm).length
  · rw [decide_eq_true g1] at c1
    rw [if_pos g1]
    clear c2 cU g1
    go_enter Tryz.func16, Tryz.ntmps16
    go_wp2_with fail
    refine (c1 _ (Below.refl _ _)).mono ?_
    rintro e w2 ⟨rfl, hb⟩
    have HB := Lib.hid hb
    clear hb c1
    go_wp2_with fail
    refine (cL _ HB.out).mono ?_
    rintro e w3 ⟨rfl, hb⟩
    have HB := Lib.hid (HB.out.trans (hb.mono HB.out.size))
    clear hb
    go_wp2_with fail
    go_ret
    exact ⟨rfl, HB.out⟩
  · rw [decide_eq_false g1] at c1
    rw [if_neg g1]
    by_cases g2 : 0 < (allH q nIms).length
    · rw [decide_eq_true g2] at c2
      rw [if_pos g2]
      clear cL g1 g2
      go_enter Tryz.func16, Tryz.ntmps16
      go_wp2_with fail
      refine (c1 _ (Below.refl _ _)).mono ?_
      rintro e w2 ⟨rfl, hb⟩
      have HB := Lib.hid hb
      clear hb c1
      go_wp2_with fail
      refine (c2 _ HB.out).mono ?_
      rintro e w3 ⟨rfl, hb⟩
      have HB := Lib.hid (HB.out.trans (hb.mono HB.out.size))
      clear hb c2
      go_wp2_with fail
      refine (cU _ HB.out).mono ?_
      rintro e w4 ⟨rfl, hb⟩
      have HB := Lib.hid (HB.out.trans (hb.mono HB.out.size))
      clear hb
      go_wp2_with fail
      go_ret
      exact ⟨rfl, HB.out⟩
    · rw [decide_eq_false g2] at c2
      rw [if_neg g2]
      clear cL cU g1 g2
      go_enter Tryz.func16, Tryz.ntmps16
      go_wp2_with fail
      refine (c1 _ (Below.refl _ _)).mono ?_
      rintro e w2 ⟨rfl, hb⟩
      have HB := Lib.hid hb
      clear hb c1
      go_wp2_with fail
      refine (c2 _ HB.out).mono ?_
      rintro e w3 ⟨rfl, hb⟩
      have HB := Lib.hid (HB.out.trans (hb.mono HB.out.size))
      clear hb c2
      go_wp2_with fail
      go_ret
      exact ⟨rfl, HB.out⟩

end Go.Proofs.YtclgdmcbbphbcaaGreatDoor

namespace Go.Proofs.YtclgdmcbbphbcaaGreatDoor
open Go.RowKit Go.Shelf Go.Lib

set_option maxRecDepth 100000 in
set_option maxHeartbeats 8000000 in
theorem awake12_any (w : World) (hC : Cal w) :
    Calls Tryz.prog 4 #[] w fun e w' => e = .returned (.bool true) ∧ Below w.heap.size w w' := by
  have HC := Lib.hid hC
  clear hC
  have c1 := fun W => eparse_any ⟨#[87, 47, 34, 97, 34]⟩ W (by decide)
  have c2 := fun W => eparse_any ⟨#[34, 97, 34]⟩ W (by decide)
  have c3 := fun W => elist_any ⟨#[32, 34, 120, 34, 32, 44, 44, 32, 87, 47, 34, 97, 44, 98, 34]⟩ W (by decide)
  have c4 := fun W => elist_any ⟨#[32, 42, 32]⟩ W (by decide)
  have c5 := fun W => eprint_any true [97] W (by decide)
  have c6 := fun v v2 W (h : Flds 0 W v aeQ) (h2 : Flds 0 W v2 aeP) (hC : Cal W) => eheld_any 0 0 v v2 aeQ aeP W h h2 ae_ok.1 ae_ok.2 ae_j.1 ae_j.2 hC
  have c7 := fun W => elike_any (true, [97]) (false, [97]) false W
  have c8 := fun W => elike_any (true, [97]) (false, [97]) true W
  rw [show (⟨#[87, 47, 34, 97, 34]⟩ : ByteArray).data.toList = [87, 47, 34, 97, 34] from rfl, ae_1] at c1
  rw [show (⟨#[34, 97, 34]⟩ : ByteArray).data.toList = [34, 97, 34] from rfl, ae_2] at c2
  rw [show (⟨#[32, 34, 120, 34, 32, 44, 44, 32, 87, 47, 34, 97, 44, 98, 34]⟩ : ByteArray).data.toList = [32, 34, 120, 34, 32, 44, 44, 32, 87, 47, 34, 97, 44, 98, 34] from rfl, ae_3] at c3
  rw [show (⟨#[32, 42, 32]⟩ : ByteArray).data.toList = [32, 42, 32] from rfl, ae_4] at c4
  unfold txV at c5
  rw [if_pos ae_5.2, ae_5.1] at c5
  rw [ae_6] at c6
  rw [show likE (true, [97]) (false, [97]) false = true from rfl] at c7
  rw [show likE (true, [97]) (false, [97]) true = false from rfl] at c8
  simp only [prV, tgV] at c1 c2 c7 c8
  rw [show strB [97] = (⟨#[97]⟩ : ByteArray) from rfl] at c1 c2 c5 c7 c8
  rw [show strB [87, 47, 34, 97, 34] = (⟨#[87, 47, 34, 97, 34]⟩ : ByteArray) from rfl] at c5
  go_enter Tryz.func4, Tryz.ntmps4
  go_wp2_with fail
  refine (c1 _).mono ?_
  rintro e w1 ⟨rfl, hb⟩
  have hal := (Below.refl w1.heap.size w1).alloc (Nat.le_refl _) (.cells #[.bool true, .string ⟨#[97]⟩] 23)
  have HX := Lib.hid (BoxN.made w1 [.bool true, .string ⟨#[97]⟩] 23)
  have HB := Lib.hid (hb.trans (hal.mono hb.size))
  clear hb hal c1
  go_wp2_with fail
  generalize w1.alloc (.cells #[.bool true, .string ⟨#[97]⟩] 23) = W1 at *
  generalize w1.heap.size = C1 at *
  refine (c2 _).mono ?_
  rintro e w2 ⟨rfl, hb⟩
  have hal := (Below.refl w2.heap.size w2).alloc (Nat.le_refl _) (.cells #[.bool false, .string ⟨#[97]⟩] 23)
  have HX := Lib.hid ((HX.out.next hb).next hal)
  have HY := Lib.hid (BoxN.made w2 [.bool false, .string ⟨#[97]⟩] 23)
  have HB := Lib.hid (HB.out.trans (hb.mono HB.out.size))
  have HB := Lib.hid (HB.out.trans (hal.mono HB.out.size))
  clear hb hal c2
  go_wp2_with fail
  generalize w2.alloc (.cells #[.bool false, .string ⟨#[97]⟩] 23) = W2 at *
  generalize w2.heap.size = C2 at *
  refine (c3 _).mono ?_
  rintro e w3 ⟨hb, u, rfl, hT⟩
  have HT := Lib.hid hT
  obtain ⟨uo, uc, rfl, hcs⟩ := hT
  rcases hcs with hnil | ⟨g, off, rfl, hg, hgl, hcell⟩
  · cases hnil
  have hq := (hcell 1 (true, [97, 44, 98]) rfl).2
  have HX := Lib.hid (HX.out.next hb)
  have HY := Lib.hid (HY.out.next hb)
  have HB := Lib.hid (HB.out.trans (hb.mono HB.out.size))
  rw [show strB (true, [97, 44, 98]).2 = (⟨#[97, 44, 98]⟩ : ByteArray) from rfl] at hq
  have HZ := Lib.hid (And.intro hgl hq)
  clear hb c3 HT hcell hg hgl hq
  rw [show ([(false, [120]), (true, [97, 44, 98])] : List Tg).length = 2 from rfl]
  go_wp2_with fail
  refine (c4 _).mono ?_
  rintro e w4 ⟨hb, u, rfl, hT⟩
  obtain ⟨uo4, uc4, rfl, _⟩ := hT
  have HX := Lib.hid (HX.out.next hb)
  have HY := Lib.hid (HY.out.next hb)
  have HZ := Lib.hid (And.intro (Nat.lt_of_lt_of_le HZ.out.1 hb.size) ((hb.cell (p := ⟨g, off + 1 * 2 + 1, none⟩) HZ.out.1).trans HZ.out.2))
  have HB := Lib.hid (HB.out.trans (hb.mono HB.out.size))
  have x0 := (HX.out.2 0 _ rfl).1
  have x1 := (HX.out.2 1 _ rfl).1
  clear hb c4
  go_wp2_with fail
  refine (c5 _).mono ?_
  rintro e w5 ⟨rfl, hb⟩
  have HX := Lib.hid (HX.out.next hb)
  have HY := Lib.hid (HY.out.next hb)
  have HZ := Lib.hid (And.intro (Nat.lt_of_lt_of_le HZ.out.1 hb.size) ((hb.cell (p := ⟨g, off + 1 * 2 + 1, none⟩) HZ.out.1).trans HZ.out.2))
  have HB := Lib.hid (HB.out.trans (hb.mono HB.out.size))
  clear hb c5 x0 x1
  go_wp2_with fail
  have hal := ((Below.refl w5.heap.size w5).alloc (Nat.le_refl _) (.cells #[.string ⟨#[105, 102, 45, 110, 111, 110, 101, 45, 109, 97, 116, 99, 104]⟩, .string ⟨#[34, 98, 34, 44, 32, 34, 97, 34]⟩] 51)).alloc (by simp) (.cells #[.string ⟨#[101, 116, 97, 103]⟩, .string ⟨#[87, 47, 34, 97, 34]⟩] 51)
  have hf1 : Flds 0 ((w5.alloc (.cells #[.string ⟨#[105, 102, 45, 110, 111, 110, 101, 45, 109, 97, 116, 99, 104]⟩, .string ⟨#[34, 98, 34, 44, 32, 34, 97, 34]⟩] 51)).alloc (.cells #[.string ⟨#[101, 116, 97, 103]⟩, .string ⟨#[87, 47, 34, 97, 34]⟩] 51)) (.slice (some ⟨w5.heap.size, 0, none⟩) 1 1) aeQ := (flds_one w5 nInm [34, 98, 34, 44, 32, 34, 97, 34] 51).below ((Below.refl _ _).alloc (Nat.le_refl _) _)
  have hf2 : Flds 0 ((w5.alloc (.cells #[.string ⟨#[105, 102, 45, 110, 111, 110, 101, 45, 109, 97, 116, 99, 104]⟩, .string ⟨#[34, 98, 34, 44, 32, 34, 97, 34]⟩] 51)).alloc (.cells #[.string ⟨#[101, 116, 97, 103]⟩, .string ⟨#[87, 47, 34, 97, 34]⟩] 51)) (.slice (some ⟨w5.heap.size + 1, 0, none⟩) 1 1) aeP := by
    have h := flds_one (w5.alloc (.cells #[.string ⟨#[105, 102, 45, 110, 111, 110, 101, 45, 109, 97, 116, 99, 104]⟩, .string ⟨#[34, 98, 34, 44, 32, 34, 97, 34]⟩] 51)) nEtg [87, 47, 34, 97, 34] 51
    rw [show (w5.alloc (.cells #[.string ⟨#[105, 102, 45, 110, 111, 110, 101, 45, 109, 97, 116, 99, 104]⟩, .string ⟨#[34, 98, 34, 44, 32, 34, 97, 34]⟩] 51)).heap.size = w5.heap.size + 1 by simp] at h
    exact h
  have HX := Lib.hid (HX.out.next hal)
  have HY := Lib.hid (HY.out.next hal)
  have HZ := Lib.hid (And.intro (Nat.lt_of_lt_of_le HZ.out.1 hal.size) ((hal.cell (p := ⟨g, off + 1 * 2 + 1, none⟩) HZ.out.1).trans HZ.out.2))
  have HB := Lib.hid (HB.out.trans (hal.mono HB.out.size))
  clear hal
  generalize (w5.alloc (.cells #[.string ⟨#[105, 102, 45, 110, 111, 110, 101, 45, 109, 97, 116, 99, 104]⟩, .string ⟨#[34, 98, 34, 44, 32, 34, 97, 34]⟩] 51)).alloc (.cells #[.string ⟨#[101, 116, 97, 103]⟩, .string ⟨#[87, 47, 34, 97, 34]⟩] 51) = W5 at *
  refine (c6 _ _ _ hf1 hf2 (Cal.below HC.out HB.out)).mono ?_
  clear hf1 hf2
  rintro e w6 ⟨rfl, hb⟩
  have HX := Lib.hid (HX.out.next hb)
  have HY := Lib.hid (HY.out.next hb)
  have HZ := Lib.hid (And.intro (Nat.lt_of_lt_of_le HZ.out.1 hb.size) ((hb.cell (p := ⟨g, off + 1 * 2 + 1, none⟩) HZ.out.1).trans HZ.out.2))
  have HB := Lib.hid (HB.out.trans (hb.mono HB.out.size))
  have x0 := (HX.out.2 0 _ rfl).1
  have x1 := (HX.out.2 1 _ rfl).1
  have y0 := (HY.out.2 0 _ rfl).1
  have y1 := (HY.out.2 1 _ rfl).1
  clear hb c6
  go_wp2_with fail
  refine (c7 _).mono ?_
  rintro e w7 ⟨rfl, hb⟩
  have HX := Lib.hid (HX.out.next hb)
  have HY := Lib.hid (HY.out.next hb)
  have HZ := Lib.hid (And.intro (Nat.lt_of_lt_of_le HZ.out.1 hb.size) ((hb.cell (p := ⟨g, off + 1 * 2 + 1, none⟩) HZ.out.1).trans HZ.out.2))
  have HB := Lib.hid (HB.out.trans (hb.mono HB.out.size))
  clear x0 x1 y0 y1
  have x0 := (HX.out.2 0 _ rfl).1
  have x1 := (HX.out.2 1 _ rfl).1
  have y0 := (HY.out.2 0 _ rfl).1
  have y1 := (HY.out.2 1 _ rfl).1
  clear hb c7
  go_wp2_with fail
  refine (c8 _).mono ?_
  rintro e w8 ⟨rfl, hb⟩
  have HZ := Lib.hid (And.intro (Nat.lt_of_lt_of_le HZ.out.1 hb.size) ((hb.cell (p := ⟨g, off + 1 * 2 + 1, none⟩) HZ.out.1).trans HZ.out.2))
  have HB := Lib.hid (HB.out.trans (hb.mono HB.out.size))
  have z1 := HZ.out.2
  clear hb c8 x0 x1 y0 y1
  go_wp2_with fail
  go_ret
  exact ⟨rfl, HB.out⟩

end Go.Proofs.YtclgdmcbbphbcaaGreatDoor
