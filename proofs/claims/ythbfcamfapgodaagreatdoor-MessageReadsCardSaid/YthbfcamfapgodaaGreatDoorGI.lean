/- The contracts of message.lengthOf, unframed, hasOneHost, determinesLength, isFramed. -/
import Derived.Test.YthbfcamfapgodaaGreatDoorG3
import Derived.Test.YthbfcamfapgodaaGreatDoorGE
import Derived.Test.YthbfcamfapgodaaGreatDoorGF
import Derived.Test.YthbfcamfapgodaaGreatDoorGH

namespace Go.Proofs.YthbfcamfapgodaaGreatDoor
open Go.RowKit Go.Shelf Go.Lib

/-- How long a body is (-1: in chunks; -2: not told), and whether the fields may tell so. -/
def lnM (fs : List Fld) : Int × Bool :=
  if 1 < (allH fs teN).length + (allH fs clN).length then (0, false)
  else match allH fs teN with
    | x :: _ => (-1, decide (lowL x = chN))
    | [] => match allH fs clN with
      | y :: _ => (digitsN y, digitsB y)
      | [] => (-2, true)
def lnV (p : Int × Bool) : Value := .tuple #[.int .i64 p.1, .bool p.2]

set_option maxRecDepth 100000 in
set_option maxHeartbeats 4000000 in
theorem mlength_any (lo : Nat) (v : Value) (fs : List Fld) (w : World) (h : Flds lo w v fs) (hk : FldsOk fs) :
    Calls Tryz.prog 26 #[v] w fun e w' => e = .returned (lnV (lnM fs)) ∧ Below w.heap.size w w' := by
  have cT := fun W h => hall_any lo v fs teN W h hk.1
  have cC := fun W h => hall_any lo v fs clN W h hk.1
  rw [show strB teN = (⟨#[116, 114, 97, 110, 115, 102, 101, 114, 45, 101, 110, 99, 111, 100, 105, 110, 103]⟩ : ByteArray) from rfl] at cT
  rw [show strB clN = (⟨#[99, 111, 110, 116, 101, 110, 116, 45, 108, 101, 110, 103, 116, 104]⟩ : ByteArray) from rfl] at cC
  have hL : lnM fs = if 1 < (allH fs teN).length + (allH fs clN).length then (0, false) else match allH fs teN with
    | x :: _ => (-1, decide (lowL x = chN))
    | [] => match allH fs clN with
      | y :: _ => (digitsN y, digitsB y)
      | [] => (-2, true) := rfl
  have hl1 := Nat.le_trans (allH_len fs teN) hk.1
  have hl2 := Nat.le_trans (allH_len fs clN) hk.1
  have hx1 : ∀ q ∈ allH fs teN, q.length ≤ 100000 := fun q hq => by
    obtain ⟨p, hp, _, rfl⟩ := allH_in hq
    exact (hk.2 p hp).2
  have hx2 : ∀ q ∈ allH fs clN, q.length ≤ 100000 := fun q hq => by
    obtain ⟨p, hp, _, rfl⟩ := allH_in hq
    exact (hk.2 p hp).2
  have HF := Lib.hid h
  have hform := h
  obtain ⟨ao, cap, rfl, _⟩ := hform
  clear h hk
  generalize allH fs teN = te at *
  generalize allH fs clN = cl at *
  by_cases hbig : 1 < te.length + cl.length
  · rw [if_pos hbig] at hL
    have HL : Hid (lnV (lnM fs) = .tuple #[.int .i64 0, .bool false]) := Lib.hid (by rw [hL] <;> rfl)
    have d : (1 : Int) < (te.length : Int) + (cl.length : Int) := by omega
    clear hL hx1 hx2 hbig
    go_enter Tryz.func26, Tryz.ntmps26
    go_wp2_with fail
    refine (cT _ HF.out).mono ?_
    rintro e w1 ⟨⟨u1, rfl, hown1⟩, hb1⟩
    have HB1 := Lib.hid hb1
    obtain ⟨a1, k1, rfl⟩ := owns_formF hown1
    clear hown1 hb1
    go_wp2_with fail
    refine (cC _ (HF.out.below HB1.out)).mono ?_
    rintro e w2 ⟨⟨u2, rfl, hown2⟩, hb2⟩
    have HB2 := Lib.hid (HB1.out.trans (hb2.mono HB1.out.size))
    obtain ⟨a2, k2, rfl⟩ := owns_formF hown2
    clear hown2 hb2
    go_wp2_with fail
    exact bodyPost_ret (v := .tuple #[.int .i64 0, .bool false]) (by simp [results, Tryz.results26, go_sem]) rfl ⟨by rw [HL.out], HB2.out⟩
  · rw [if_neg hbig] at hL
    cases te with
    | cons x r =>
      have hr : r = [] := List.eq_nil_of_length_eq_zero (by simp at hbig; omega)
      have hcl : cl = [] := List.eq_nil_of_length_eq_zero (by simp at hbig; omega)
      subst hr hcl
      dsimp only at hL
      have hxl := hx1 x (List.mem_cons_self ..)
      have cW := fun W => lower_any (strB x) W (by rewrite [strB_size]; unfold maxLen; omega)
      rw [strB_data, show (⟨(lowL x).toArray⟩ : ByteArray) = strB (lowL x) from rfl] at cW
      have hce : ((strB (lowL x)).toList == [99, 104, 117, 110, 107, 101, 100]) = decide (lowL x = chN) := by
        rewrite [Lib.toList_data, strB_data]
        by_cases hh : lowL x = chN
        · rw [decide_eq_true hh, hh] <;> rfl
        · rewrite [decide_eq_false hh, beq_eq_false_iff_ne]; exact hh
      by_cases hh : lowL x = chN
      · rw [decide_eq_true hh] at hL
        rw [decide_eq_true hh] at hce
        have HL : Hid (lnV (lnM fs) = .tuple #[.int .i64 (-1), .bool true]) := Lib.hid (by rw [hL] <;> rfl)
        clear hL hx1 hx2 hbig hh hl1 hl2 hxl
        generalize strB (lowL x) = SL at *
        have HSX : Hid (rowS [x] = [.string (strB x)]) := Lib.hid rfl
        generalize strB x = SX at *
        go_enter Tryz.func26, Tryz.ntmps26
        go_wp2_with fail
        refine (cT _ HF.out).mono ?_
        rintro e w1 ⟨⟨u1, rfl, hown1⟩, hb1⟩
        have HB1 := Lib.hid hb1
        rw [HSX.out] at hown1
        obtain ⟨g1, k1, rfl, hg1, hgl1, _⟩ := owns_sliceF hown1 (by simp)
        have HC1 := Lib.hid (owns_cellsF hown1 0 (.string SX) rfl)
        clear hown1 hb1
        go_wp2_with fail
        refine (cC _ (HF.out.below HB1.out)).mono ?_
        rintro e w2 ⟨⟨u2, rfl, hown2⟩, hb2⟩
        have c1 := (hb2.cell (p := ⟨g1, 0, none⟩) hgl1).trans HC1.out
        have HB2 := Lib.hid (HB1.out.trans (hb2.mono HB1.out.size))
        obtain ⟨a2, k2, rfl⟩ := owns_formF hown2
        clear hown2 hb2
        go_wp2_with fail
        refine (cW _).mono ?_
        rintro e w3 ⟨rfl, hb3⟩
        have HB3 := Lib.hid (HB2.out.trans (hb3.mono HB2.out.size))
        clear hb3
        go_wp2_with fail
        exact bodyPost_ret (v := .tuple #[.int .i64 (-1), .bool true]) (by simp [results, Tryz.results26, go_sem]) rfl ⟨by rw [HL.out], HB3.out⟩
      · rw [decide_eq_false hh] at hL
        rw [decide_eq_false hh] at hce
        have HL : Hid (lnV (lnM fs) = .tuple #[.int .i64 (-1), .bool false]) := Lib.hid (by rw [hL] <;> rfl)
        clear hL hx1 hx2 hbig hh hl1 hl2 hxl
        generalize strB (lowL x) = SL at *
        have HSX : Hid (rowS [x] = [.string (strB x)]) := Lib.hid rfl
        generalize strB x = SX at *
        go_enter Tryz.func26, Tryz.ntmps26
        go_wp2_with fail
        refine (cT _ HF.out).mono ?_
        rintro e w1 ⟨⟨u1, rfl, hown1⟩, hb1⟩
        have HB1 := Lib.hid hb1
        rw [HSX.out] at hown1
        obtain ⟨g1, k1, rfl, hg1, hgl1, _⟩ := owns_sliceF hown1 (by simp)
        have HC1 := Lib.hid (owns_cellsF hown1 0 (.string SX) rfl)
        clear hown1 hb1
        go_wp2_with fail
        refine (cC _ (HF.out.below HB1.out)).mono ?_
        rintro e w2 ⟨⟨u2, rfl, hown2⟩, hb2⟩
        have c1 := (hb2.cell (p := ⟨g1, 0, none⟩) hgl1).trans HC1.out
        have HB2 := Lib.hid (HB1.out.trans (hb2.mono HB1.out.size))
        obtain ⟨a2, k2, rfl⟩ := owns_formF hown2
        clear hown2 hb2
        go_wp2_with fail
        refine (cW _).mono ?_
        rintro e w3 ⟨rfl, hb3⟩
        have HB3 := Lib.hid (HB2.out.trans (hb3.mono HB2.out.size))
        clear hb3
        go_wp2_with fail
        exact bodyPost_ret (v := .tuple #[.int .i64 (-1), .bool false]) (by simp [results, Tryz.results26, go_sem]) rfl ⟨by rw [HL.out], HB3.out⟩
    | nil =>
      cases cl with
      | cons y r =>
        have hr : r = [] := List.eq_nil_of_length_eq_zero (by rw [List.length_nil, List.length_cons] at hbig; omega)
        subst hr
        dsimp only at hL
        have hyl := hx2 y (List.mem_cons_self ..)
        have cD := fun W => digits_any (strB y) W (by rewrite [strB_size]; unfold maxLen; omega)
        rw [strB_data] at cD
        have HSX : Hid (rowS [y] = [.string (strB y)]) := Lib.hid rfl
        clear hx1 hx2 hbig hl1 hl2 hyl
        generalize strB y = SX at *
        cases hb : digitsB y
        · rw [hb] at hL cD
          have HL : Hid (lnV (lnM fs) = .tuple #[.int .i64 (digitsN y), .bool false]) := Lib.hid (by rw [hL] <;> rfl)
          clear hL hb
          generalize digitsN y = nn at *
          go_enter Tryz.func26, Tryz.ntmps26
          go_wp2_with fail
          refine (cT _ HF.out).mono ?_
          rintro e w1 ⟨⟨u1, rfl, hown1⟩, hb1⟩
          have HB1 := Lib.hid hb1
          obtain ⟨a1, k1, rfl⟩ := owns_formF hown1
          clear hown1 hb1
          go_wp2_with fail
          refine (cC _ (HF.out.below HB1.out)).mono ?_
          rintro e w2 ⟨⟨u2, rfl, hown2⟩, hb2⟩
          have HB2 := Lib.hid (HB1.out.trans (hb2.mono HB1.out.size))
          rw [HSX.out] at hown2
          obtain ⟨g2, k2, rfl, hg2, hgl2, _⟩ := owns_sliceF hown2 (by simp)
          have c1 := owns_cellsF hown2 0 (.string SX) rfl
          clear hown2 hb2
          go_wp2_with fail
          refine (cD _).mono ?_
          rintro e w3 ⟨rfl, rfl⟩
          go_wp2_with fail
          exact bodyPost_ret (v := .tuple #[.int .i64 nn, .bool false]) (by simp [results, Tryz.results26, go_sem]) rfl ⟨by rw [HL.out], HB2.out⟩
        · rw [hb] at hL cD
          have HL : Hid (lnV (lnM fs) = .tuple #[.int .i64 (digitsN y), .bool true]) := Lib.hid (by rw [hL] <;> rfl)
          clear hL hb
          generalize digitsN y = nn at *
          go_enter Tryz.func26, Tryz.ntmps26
          go_wp2_with fail
          refine (cT _ HF.out).mono ?_
          rintro e w1 ⟨⟨u1, rfl, hown1⟩, hb1⟩
          have HB1 := Lib.hid hb1
          obtain ⟨a1, k1, rfl⟩ := owns_formF hown1
          clear hown1 hb1
          go_wp2_with fail
          refine (cC _ (HF.out.below HB1.out)).mono ?_
          rintro e w2 ⟨⟨u2, rfl, hown2⟩, hb2⟩
          have HB2 := Lib.hid (HB1.out.trans (hb2.mono HB1.out.size))
          rw [HSX.out] at hown2
          obtain ⟨g2, k2, rfl, hg2, hgl2, _⟩ := owns_sliceF hown2 (by simp)
          have c1 := owns_cellsF hown2 0 (.string SX) rfl
          clear hown2 hb2
          go_wp2_with fail
          refine (cD _).mono ?_
          rintro e w3 ⟨rfl, rfl⟩
          go_wp2_with fail
          exact bodyPost_ret (v := .tuple #[.int .i64 nn, .bool true]) (by simp [results, Tryz.results26, go_sem]) rfl ⟨by rw [HL.out], HB2.out⟩
      | nil =>
        have HL : Hid (lnV (lnM fs) = .tuple #[.int .i64 (-2), .bool true]) := Lib.hid (by rw [hL] <;> rfl)
        clear hL hx1 hx2 hbig
        go_enter Tryz.func26, Tryz.ntmps26
        go_wp2_with fail
        refine (cT _ HF.out).mono ?_
        rintro e w1 ⟨⟨u1, rfl, hown1⟩, hb1⟩
        have HB1 := Lib.hid hb1
        obtain ⟨a1, k1, rfl⟩ := owns_formF hown1
        clear hown1 hb1
        go_wp2_with fail
        refine (cC _ (HF.out.below HB1.out)).mono ?_
        rintro e w2 ⟨⟨u2, rfl, hown2⟩, hb2⟩
        have HB2 := Lib.hid (HB1.out.trans (hb2.mono HB1.out.size))
        obtain ⟨a2, k2, rfl⟩ := owns_formF hown2
        clear hown2 hb2
        go_wp2_with fail
        exact bodyPost_ret (v := .tuple #[.int .i64 (-2), .bool true]) (by simp [results, Tryz.results26, go_sem]) rfl ⟨by rw [HL.out], HB2.out⟩

set_option maxRecDepth 100000 in
set_option maxHeartbeats 4000000 in
theorem mless_any (lo : Nat) (v : Value) (fs : List Fld) (w : World) (h : Flds lo w v fs) (hk : FldsOk fs) :
    Calls Tryz.prog 28 #[v] w fun e w' => (∃ u, e = .returned u ∧ w'.ownsRow w.heap.size 70 2 u (lesL fs).length (rowF (lesL fs))) ∧ Below w.heap.size w w' := by
  have cW := fun v2 W h h2 => hwithout_any lo v v2 fs [clN, teN] W h h2 hk (by decide) (by unfold maxLen; decide)
  have hw : lesL fs = withoutH fs [clN, teN] := rfl
  rw [← hw] at cW
  have HF := Lib.hid h
  obtain ⟨ao, cap, rfl, _⟩ := h
  clear hk hw
  generalize lesL fs = L at *
  go_enter Tryz.func28, Tryz.ntmps28
  have ha := (Below.refl w.heap.size w).alloc (Nat.le_refl _) (.cells #[.string ⟨#[99, 111, 110, 116, 101, 110, 116, 45, 108, 101, 110, 103, 116, 104]⟩, .string ⟨#[116, 114, 97, 110, 115, 102, 101, 114, 45, 101, 110, 99, 111, 100, 105, 110, 103]⟩] 9)
  have hS : StrsF (w.alloc (.cells #[.string ⟨#[99, 111, 110, 116, 101, 110, 116, 45, 108, 101, 110, 103, 116, 104]⟩, .string ⟨#[116, 114, 97, 110, 115, 102, 101, 114, 45, 101, 110, 99, 111, 100, 105, 110, 103]⟩] 9)) (.slice (some ⟨w.heap.size, 0, none⟩) 2 2) [clN, teN] := by
    refine ⟨_, 2, rfl, .inr ⟨w.heap.size, 0, rfl, by simp, fun j q hj => ?_⟩⟩
    match j, hj with
    | 0, hj =>
      obtain rfl : clN = q := by simpa using hj
      simp
      rfl
    | 1, hj =>
      obtain rfl : teN = q := by simpa using hj
      simp
      rfl
  have hc := cW _ _ (HF.out.below ha) hS
  have HB := Lib.hid ha
  clear cW hS ha
  go_wp2_with fail
  refine hc.mono ?_
  rintro e w1 ⟨⟨u, rfl, hown⟩, hb1⟩
  have HO := Lib.hid (ownsRow_lowF hown (show w.heap.size ≤ _ by simp))
  have HB1 := Lib.hid (HB.out.trans (hb1.mono HB.out.size))
  obtain ⟨a1, k1, rfl⟩ := owns_formF hown
  clear hown hb1 hc
  go_wp2_with fail
  exact bodyPost_ret (v := .slice a1 L.length k1) (by simp [results, Tryz.results28, go_sem]) rfl ⟨⟨_, rfl, HO.out⟩, HB1.out⟩

set_option maxRecDepth 100000 in
set_option maxHeartbeats 4000000 in
theorem mhost_any (lo : Nat) (v : Value) (fs : List Fld) (w : World) (h : Flds lo w v fs) (hl : fs.length ≤ 100000) :
    Calls Tryz.prog 25 #[v] w fun e w' => e = .returned (.bool (decide ((allH fs hoN).length = 1))) ∧ Below w.heap.size w w' := by
  have cH := fun W h => hall_any lo v fs hoN W h hl
  rw [show strB hoN = (⟨#[104, 111, 115, 116]⟩ : ByteArray) from rfl] at cH
  have HF := Lib.hid h
  obtain ⟨ao, cap, rfl, _⟩ := h
  clear hl
  generalize allH fs hoN = hs at *
  have he : (((hs.length : Int)) == 1) = decide (hs.length = 1) := by
    by_cases hh : hs.length = 1
    · rw [decide_eq_true hh, hh] <;> rfl
    · rewrite [decide_eq_false hh, beq_eq_false_iff_ne]; omega
  generalize decide (hs.length = 1) = b at *
  go_enter Tryz.func25, Tryz.ntmps25
  go_wp2_with fail
  refine (cH _ HF.out).mono ?_
  rintro e w1 ⟨⟨u1, rfl, hown1⟩, hb1⟩
  have HB1 := Lib.hid hb1
  obtain ⟨a1, k1, rfl⟩ := owns_formF hown1
  clear hown1 hb1
  go_wp2_with fail
  exact bodyPost_ret (v := .bool b) (by simp [results, Tryz.results25, go_sem]) rfl ⟨rfl, HB1.out⟩

/-- Does a field tell how long a body is? -/
def detB (p : Fld) : Bool := decide (p.1 = clN) || decide (p.1 = teN)

set_option maxRecDepth 100000 in
set_option maxHeartbeats 4000000 in
theorem mdet_any (p : Fld) (w : World) :
    Calls Tryz.prog 92 #[.agg #[.string (strB p.1), .string (strB p.2)]] w fun e w' => e = .returned (.bool (detB p)) ∧ Below w.heap.size w w' := by
  have e1 : ((strB p.1).toList == [99, 111, 110, 116, 101, 110, 116, 45, 108, 101, 110, 103, 116, 104]) = decide (p.1 = clN) := by
    rewrite [Lib.toList_data, strB_data]
    by_cases hh : p.1 = clN
    · rw [decide_eq_true hh, hh] <;> rfl
    · rewrite [decide_eq_false hh, beq_eq_false_iff_ne]; exact hh
  have e2 : ((strB p.1).toList == [116, 114, 97, 110, 115, 102, 101, 114, 45, 101, 110, 99, 111, 100, 105, 110, 103]) = decide (p.1 = teN) := by
    rewrite [Lib.toList_data, strB_data]
    by_cases hh : p.1 = teN
    · rw [decide_eq_true hh, hh] <;> rfl
    · rewrite [decide_eq_false hh, beq_eq_false_iff_ne]; exact hh
  have hd : detB p = (decide (p.1 = clN) || decide (p.1 = teN)) := rfl
  have hb0 := (Below.refl w.heap.size w).alloc (Nat.le_refl _) (.cells #[.string (strB p.1), .string (strB p.2)] 70)
  rewrite [hd]
  generalize decide (p.1 = clN) = b1 at *
  generalize decide (p.1 = teN) = b2 at *
  generalize strB p.1 = N at *
  generalize strB p.2 = V at *
  clear hd
  cases b1 <;> cases b2
  all_goals
    go_enter Tryz.func92, Tryz.ntmps92
    go_wp2_with fail
    go_ret
    exact ⟨rfl, hb0⟩

theorem enters_det : ∀ args W, (callFunc 92 args).run Tryz.prog W = .ok (.enter 92 args) W := enters_of Tryz.func92 (by kernel_rfl) rfl

set_option maxRecDepth 100000 in
set_option maxHeartbeats 2000000 in
theorem indexD_any (lo : Nat) (v : Value) (fs : List Fld) (w : World) (h : Flds lo w v fs) (hk : FldsOk fs) :
    Calls Tryz.prog 110 #[v, .func (.func 92) #[] #[]] w fun e w' => (∃ k : Int, e = .returned (.int .i64 k) ∧ -1 ≤ k ∧ decide (0 ≤ k) = fs.any detB) ∧ Below w.heap.size w w' := by
  obtain ⟨ao, cap, rfl, hc⟩ := h
  have HC := Lib.hid hc
  have HK := Lib.hid hk
  have hl := hk.1
  clear hc hk
  go_enter Tryz.func110, Tryz.ntmps110
  go_wp2_with fail
  go_loopw [8] (fun i wr => ∃ j : Nat, i = .int .i64 j ∧ j ≤ fs.length ∧ Hid (∀ m p, m < j → fs[m]? = some p → detB p = false) ∧ Below w.heap.size w wr) (fun i _ => fs.length - (intOf i).toNat)
  case atStart => exact ⟨0, rfl, Nat.zero_le _, Lib.hid (fun m p h => absurd h (by omega)), Below.refl _ _⟩
  case round =>
    obtain ⟨j, rfl, hj, H, hb⟩ := hrel
    have HB := Lib.hid hb
    by_cases hlt : j < fs.length
    · rcases HC.out with hnil | ⟨c, off, rfl, _, hcl, hcell⟩
      · exfalso
        rw [hnil] at hlt
        simp at hlt
      · obtain ⟨p, hp⟩ : ∃ p, fs[j]? = some p := ⟨_, List.getElem?_eq_getElem hlt⟩
        obtain ⟨x0, x1⟩ := hcell j p hp
        have a0 := (hb.cell (p := ⟨c, off + j * 2, none⟩) hcl).trans x0
        have a1 := (hb.cell (p := ⟨c, off + j * 2 + 1, none⟩) hcl).trans x1
        have jI : (j : Int) < (fs.length : Int) := by omega
        have j0 : (0 : Int) ≤ (j : Int) := by omega
        have cS := fun W (_ : Below w.heap.size w W) => mdet_any p W
        clear hcell x0 x1 hb
        cases hpq : detB p
        · rw [hpq] at cS
          have Hn : Hid (∀ m p, m < j + 1 → fs[m]? = some p → detB p = false) := Lib.hid (fun m q hm hq => by
            by_cases e : m = j
            · subst e
              rw [hp] at hq
              obtain rfl := Option.some.inj hq
              exact hpq
            · exact H.out m q (by omega) hq)
          clear hpq hp H
          obtain ⟨pn, pv⟩ := p
          dsimp only at *
          generalize strB pn = PS at *
          generalize strB pv = QS at *
          go_wp2_with fail
          refine (cS _ (by first | exact HB.out | exact HB.out.alloc HB.out.size _)).mono ?_
          rintro e w2 ⟨rfl, hb2⟩
          have HB2 := Lib.hid (HB.out.trans (hb2.mono HB.out.size))
          go_wp2_with fail
          go_roundw
          case rel => exact ⟨j + 1, by go_num, by omega, Lib.hid Hn.out, HB2.out⟩
          case measure => simp [intOf]; omega
        · rw [hpq] at cS
          have HS : Hid (decide (0 ≤ (j : Int)) = fs.any detB) := Lib.hid (by
            rewrite [decide_eq_true j0]
            exact (List.any_eq_true.2 ⟨p, List.mem_of_getElem? hp, hpq⟩).symm)
          clear hpq hp H
          obtain ⟨pn, pv⟩ := p
          dsimp only at *
          generalize strB pn = PS at *
          generalize strB pv = QS at *
          go_wp2_with fail
          refine (cS _ (by first | exact HB.out | exact HB.out.alloc HB.out.size _)).mono ?_
          rintro e w2 ⟨rfl, hb2⟩
          have HB2 := Lib.hid (HB.out.trans (hb2.mono HB.out.size))
          go_wp2_with fail
          go_ret
          exact ⟨⟨(j : Int), rfl, by omega, HS.out⟩, HB2.out⟩
    · obtain rfl : j = fs.length := by omega
      have HS : Hid (decide ((0 : Int) ≤ -1) = fs.any detB) := Lib.hid (by
        rewrite [decide_eq_false (by decide)]
        symm
        rewrite [List.any_eq_false]
        intro p hp
        obtain ⟨m, hm⟩ := List.mem_iff_getElem?.1 hp
        have := H.out m p (List.getElem?_eq_some_iff.1 hm).1 hm
        simp [this])
      clear H hb
      go_wp2_with fail
      go_ret
      exact ⟨⟨-1, rfl, by omega, HS.out⟩, HB.out⟩

set_option maxHeartbeats 1000000 in
theorem containsD_any (lo : Nat) (v : Value) (fs : List Fld) (w : World) (h : Flds lo w v fs) (hk : FldsOk fs) :
    Calls Tryz.prog 91 #[v, .func (.func 92) #[] #[]] w fun e w' => e = .returned (.bool (fs.any detB)) ∧ Below w.heap.size w w' := by
  have cI := indexD_any lo v fs w h hk
  generalize fs.any detB = R at *
  go_enter Tryz.func91, Tryz.ntmps91
  go_wp2_with fail
  refine cI.mono ?_
  rintro e w2 ⟨⟨k, rfl, hk1, hk2⟩, hb2⟩
  have HK := Lib.hid hk2
  clear hk2 cI
  go_wp2_with fail
  go_ret
  exact ⟨ret_eq (bool_eq HK.out), hb2⟩

set_option maxHeartbeats 1000000 in
theorem mframed_any (lo : Nat) (v : Value) (fs : List Fld) (w : World) (h : Flds lo w v fs) (hk : FldsOk fs) :
    Calls Tryz.prog 70 #[v] w fun e w' => e = .returned (.bool (fs.any detB)) ∧ Below w.heap.size w w' := by
  have cC := containsD_any lo v fs w h hk
  obtain ⟨ao, cap, rfl, _⟩ := h
  generalize fs.any detB = b at *
  go_enter Tryz.func70, Tryz.ntmps70
  go_wp2_with fail
  refine cC.mono ?_
  rintro e w2 ⟨rfl, hb2⟩
  go_wp2_with fail
  go_ret
  exact ⟨rfl, hb2⟩

end Go.Proofs.YthbfcamfapgodaaGreatDoor
