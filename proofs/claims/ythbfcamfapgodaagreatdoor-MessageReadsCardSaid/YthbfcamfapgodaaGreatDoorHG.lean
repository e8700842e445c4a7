/- The document's own length and body (sculleryref08). · The document's own status, body and less (sculleryref08). -/
import Derived.Test.YthbfcamfapgodaaGreatDoorGE
import Derived.Test.YthbfcamfapgodaaGreatDoorHB
import Derived.Test.YthbfcamfapgodaaGreatDoorHA
import Derived.Test.YthbfcamfapgodaaGreatDoorHE

namespace Go.Proofs.YthbfcamfapgodaaGreatDoor
open Go.RowKit Go.Shelf Go.Lib

def lngV : Except Int Int → Value
  | .ok n => .tuple #[.int .i64 n, .int .i64 0]
  | .error e => .tuple #[.int .i64 0, .int .i64 e]

set_option maxRecDepth 100000 in
set_option maxHeartbeats 4000000 in
theorem rlength_any (lo : Nat) (v : Value) (fs : List Fld) (w : World) (h : Flds lo w v fs) (hk : FldsOk fs) :
    Calls Tryz.prog 35 #[v] w fun e w' => e = .returned (lngV (lngL fs)) ∧ Below w.heap.size w w' := by
  have cT := fun W h => rall_any lo v fs teN W h hk.1
  have cC := fun W h => rall_any lo v fs clN W h hk.1
  rw [show strB teN = (⟨#[116, 114, 97, 110, 115, 102, 101, 114, 45, 101, 110, 99, 111, 100, 105, 110, 103]⟩ : ByteArray) from rfl] at cT
  rw [show strB clN = (⟨#[99, 111, 110, 116, 101, 110, 116, 45, 108, 101, 110, 103, 116, 104]⟩ : ByteArray) from rfl] at cC
  have hL : lngL fs = if 1 < (allH fs teN).length + (allH fs clN).length then .error 2 else match allH fs teN with
    | x :: _ => if lowL x = chN then .ok (-2) else .error 2
    | [] => match allH fs clN with
      | y :: _ => if digitsB y then .ok (digitsN y) else .error 2
      | [] => .ok (-1) := rfl
  have hl1 := Nat.le_trans (allH_len fs teN) hk.1
  have hl2 := Nat.le_trans (allH_len fs clN) hk.1
  have hx1 : ∀ q ∈ allH fs teN, q.length ≤ 100000 := fun q hq => by
    obtain ⟨p, hp, _, rfl⟩ := allH_in hq
    exact (hk.2 p hp).2
  have hx2 : ∀ q ∈ allH fs clN, q.length ≤ 100000 := fun q hq => by
    obtain ⟨p, hp, _, rfl⟩ := allH_in hq
    exact (hk.2 p hp).2
  have HF := Lib.hid h
  have hform := h
  obtain ⟨ao, cap, rfl, _⟩ := hform
  clear h hk
  generalize allH fs teN = te at *
  generalize allH fs clN = cl at *
  by_cases hbig : 1 < te.length + cl.length
  · rw [if_pos hbig] at hL
    have HL : Hid (lngV (lngL fs) = .tuple #[.int .i64 0, .int .i64 2]) := Lib.hid (by rw [hL] <;> rfl)
    have d : (1 : Int) < (te.length : Int) + (cl.length : Int) := by omega
    clear hL hx1 hx2 hbig
    go_enter Tryz.func35, Tryz.ntmps35
    go_wp2_with fail
    refine (cT _ HF.out).mono ?_
    rintro e w1 ⟨⟨u1, rfl, hown1⟩, hb1⟩
    have HB1 := Lib.hid hb1
    obtain ⟨a1, k1, rfl⟩ := owns_formF hown1
    clear hown1 hb1
    go_wp2_with fail
    refine (cC _ (HF.out.below HB1.out)).mono ?_
    rintro e w2 ⟨⟨u2, rfl, hown2⟩, hb2⟩
    have HB2 := Lib.hid (HB1.out.trans (hb2.mono HB1.out.size))
    obtain ⟨a2, k2, rfl⟩ := owns_formF hown2
    clear hown2 hb2
    go_wp2_with fail
    exact bodyPost_ret (v := .tuple #[.int .i64 0, .int .i64 2]) (by simp [results, Tryz.results35, go_sem]) rfl ⟨by rw [HL.out], HB2.out⟩
  · rw [if_neg hbig] at hL
    cases te with
    | cons x r =>
      have hr : r = [] := List.eq_nil_of_length_eq_zero (by simp at hbig; omega)
      have hcl : cl = [] := List.eq_nil_of_length_eq_zero (by simp at hbig; omega)
      subst hr hcl
      dsimp only at hL
      have hxl := hx1 x (List.mem_cons_self ..)
      have cW := fun W => rlower_any (strB x) W (by rewrite [strB_size]; omega)
      rw [strB_data] at cW
      have hce : ((strB (lowL x)).toList == [99, 104, 117, 110, 107, 101, 100]) = decide (lowL x = chN) := by
        rewrite [Lib.toList_data, strB_data]
        by_cases hh : lowL x = chN
        · rw [decide_eq_true hh, hh] <;> rfl
        · rewrite [decide_eq_false hh, beq_eq_false_iff_ne]; exact hh
      by_cases hh : lowL x = chN
      · rw [if_pos hh] at hL
        rw [decide_eq_true hh] at hce
        have HL : Hid (lngV (lngL fs) = .tuple #[.int .i64 (-2), .int .i64 0]) := Lib.hid (by rw [hL] <;> rfl)
        clear hL hx1 hx2 hbig hh hl1 hl2 hxl
        generalize strB (lowL x) = SL at *
        have HSX : Hid (rowS [x] = [.string (strB x)]) := Lib.hid rfl
        generalize strB x = SX at *
        go_enter Tryz.func35, Tryz.ntmps35
        go_wp2_with fail
        refine (cT _ HF.out).mono ?_
        rintro e w1 ⟨⟨u1, rfl, hown1⟩, hb1⟩
        have HB1 := Lib.hid hb1
        rw [HSX.out] at hown1
        obtain ⟨g1, k1, rfl, hg1, hgl1, _⟩ := owns_sliceF hown1 (by simp)
        have HC1 := Lib.hid (owns_cellsF hown1 0 (.string SX) rfl)
        clear hown1 hb1
        go_wp2_with fail
        refine (cC _ (HF.out.below HB1.out)).mono ?_
        rintro e w2 ⟨⟨u2, rfl, hown2⟩, hb2⟩
        have c1 := (hb2.cell (p := ⟨g1, 0, none⟩) hgl1).trans HC1.out
        have HB2 := Lib.hid (HB1.out.trans (hb2.mono HB1.out.size))
        obtain ⟨a2, k2, rfl⟩ := owns_formF hown2
        clear hown2 hb2
        go_wp2_with fail
        refine (cW _).mono ?_
        rintro e w3 ⟨rfl, hb3⟩
        have HB3 := Lib.hid (HB2.out.trans (hb3.mono HB2.out.size))
        clear hb3
        go_wp2_with fail
        exact bodyPost_ret (v := .tuple #[.int .i64 (-2), .int .i64 0]) (by simp [results, Tryz.results35, go_sem]) rfl ⟨by rw [HL.out], HB3.out⟩
      · rw [if_neg hh] at hL
        rw [decide_eq_false hh] at hce
        have HL : Hid (lngV (lngL fs) = .tuple #[.int .i64 0, .int .i64 2]) := Lib.hid (by rw [hL] <;> rfl)
        clear hL hx1 hx2 hbig hh hl1 hl2 hxl
        generalize strB (lowL x) = SL at *
        have HSX : Hid (rowS [x] = [.string (strB x)]) := Lib.hid rfl
        generalize strB x = SX at *
        go_enter Tryz.func35, Tryz.ntmps35
        go_wp2_with fail
        refine (cT _ HF.out).mono ?_
        rintro e w1 ⟨⟨u1, rfl, hown1⟩, hb1⟩
        have HB1 := Lib.hid hb1
        rw [HSX.out] at hown1
        obtain ⟨g1, k1, rfl, hg1, hgl1, _⟩ := owns_sliceF hown1 (by simp)
        have HC1 := Lib.hid (owns_cellsF hown1 0 (.string SX) rfl)
        clear hown1 hb1
        go_wp2_with fail
        refine (cC _ (HF.out.below HB1.out)).mono ?_
        rintro e w2 ⟨⟨u2, rfl, hown2⟩, hb2⟩
        have c1 := (hb2.cell (p := ⟨g1, 0, none⟩) hgl1).trans HC1.out
        have HB2 := Lib.hid (HB1.out.trans (hb2.mono HB1.out.size))
        obtain ⟨a2, k2, rfl⟩ := owns_formF hown2
        clear hown2 hb2
        go_wp2_with fail
        refine (cW _).mono ?_
        rintro e w3 ⟨rfl, hb3⟩
        have HB3 := Lib.hid (HB2.out.trans (hb3.mono HB2.out.size))
        clear hb3
        go_wp2_with fail
        exact bodyPost_ret (v := .tuple #[.int .i64 0, .int .i64 2]) (by simp [results, Tryz.results35, go_sem]) rfl ⟨by rw [HL.out], HB3.out⟩
    | nil =>
      cases cl with
      | cons y r =>
        have hr : r = [] := List.eq_nil_of_length_eq_zero (by rw [List.length_nil, List.length_cons] at hbig; omega)
        subst hr
        dsimp only at hL
        have hyl := hx2 y (List.mem_cons_self ..)
        have cD := fun W => rdigits_any (strB y) W (by rewrite [strB_size]; unfold maxLen; omega)
        rw [strB_data] at cD
        have HSX : Hid (rowS [y] = [.string (strB y)]) := Lib.hid rfl
        clear hx1 hx2 hbig hl1 hl2 hyl
        generalize strB y = SX at *
        cases hb : digitsB y
        · rw [hb] at hL cD
          have HL : Hid (lngV (lngL fs) = .tuple #[.int .i64 0, .int .i64 2]) := Lib.hid (by rw [hL] <;> rfl)
          clear hL hb
          go_enter Tryz.func35, Tryz.ntmps35
          go_wp2_with fail
          refine (cT _ HF.out).mono ?_
          rintro e w1 ⟨⟨u1, rfl, hown1⟩, hb1⟩
          have HB1 := Lib.hid hb1
          obtain ⟨a1, k1, rfl⟩ := owns_formF hown1
          clear hown1 hb1
          go_wp2_with fail
          refine (cC _ (HF.out.below HB1.out)).mono ?_
          rintro e w2 ⟨⟨u2, rfl, hown2⟩, hb2⟩
          have HB2 := Lib.hid (HB1.out.trans (hb2.mono HB1.out.size))
          rw [HSX.out] at hown2
          obtain ⟨g2, k2, rfl, hg2, hgl2, _⟩ := owns_sliceF hown2 (by simp)
          have c1 := owns_cellsF hown2 0 (.string SX) rfl
          clear hown2 hb2
          go_wp2_with fail
          refine (cD _).mono ?_
          rintro e w3 ⟨rfl, rfl⟩
          go_wp2_with fail
          exact bodyPost_ret (v := .tuple #[.int .i64 0, .int .i64 2]) (by simp [results, Tryz.results35, go_sem]) rfl ⟨by rw [HL.out], HB2.out⟩
        · rw [hb] at hL cD
          have HL : Hid (lngV (lngL fs) = .tuple #[.int .i64 (digitsN y), .int .i64 0]) := Lib.hid (by rw [hL] <;> rfl)
          clear hL hb
          generalize digitsN y = nn at *
          go_enter Tryz.func35, Tryz.ntmps35
          go_wp2_with fail
          refine (cT _ HF.out).mono ?_
          rintro e w1 ⟨⟨u1, rfl, hown1⟩, hb1⟩
          have HB1 := Lib.hid hb1
          obtain ⟨a1, k1, rfl⟩ := owns_formF hown1
          clear hown1 hb1
          go_wp2_with fail
          refine (cC _ (HF.out.below HB1.out)).mono ?_
          rintro e w2 ⟨⟨u2, rfl, hown2⟩, hb2⟩
          have HB2 := Lib.hid (HB1.out.trans (hb2.mono HB1.out.size))
          rw [HSX.out] at hown2
          obtain ⟨g2, k2, rfl, hg2, hgl2, _⟩ := owns_sliceF hown2 (by simp)
          have c1 := owns_cellsF hown2 0 (.string SX) rfl
          clear hown2 hb2
          go_wp2_with fail
          refine (cD _).mono ?_
          rintro e w3 ⟨rfl, rfl⟩
          go_wp2_with fail
          exact bodyPost_ret (v := .tuple #[.int .i64 nn, .int .i64 0]) (by simp [results, Tryz.results35, go_sem]) rfl ⟨by rw [HL.out], HB2.out⟩
      | nil =>
        have HL : Hid (lngV (lngL fs) = .tuple #[.int .i64 (-1), .int .i64 0]) := Lib.hid (by rw [hL] <;> rfl)
        clear hL hx1 hx2 hbig
        go_enter Tryz.func35, Tryz.ntmps35
        go_wp2_with fail
        refine (cT _ HF.out).mono ?_
        rintro e w1 ⟨⟨u1, rfl, hown1⟩, hb1⟩
        have HB1 := Lib.hid hb1
        obtain ⟨a1, k1, rfl⟩ := owns_formF hown1
        clear hown1 hb1
        go_wp2_with fail
        refine (cC _ (HF.out.below HB1.out)).mono ?_
        rintro e w2 ⟨⟨u2, rfl, hown2⟩, hb2⟩
        have HB2 := Lib.hid (HB1.out.trans (hb2.mono HB1.out.size))
        obtain ⟨a2, k2, rfl⟩ := owns_formF hown2
        clear hown2 hb2
        go_wp2_with fail
        exact bodyPost_ret (v := .tuple #[.int .i64 (-1), .int .i64 0]) (by simp [results, Tryz.results35, go_sem]) rfl ⟨by rw [HL.out], HB2.out⟩

end Go.Proofs.YthbfcamfapgodaaGreatDoor

namespace Go.Proofs.YthbfcamfapgodaaGreatDoor
open Go.RowKit Go.Shelf Go.Lib

set_option maxRecDepth 100000 in
set_option maxHeartbeats 4000000 in
theorem rstatus_any (s : ByteArray) (w : World) (hs : s.size ≤ 100000) :
    Calls Tryz.prog 39 #[.string s] w fun e w' => e = .returned (.tuple #[.int .i64 (digitsN s.data.toList), .bool (stB s.data.toList)]) ∧ w = w' := by
  have cD := fun W => rdigits_any s W (by unfold maxLen; omega)
  have HV : Hid (stB s.data.toList = (digitsB s.data.toList && decide (s.size = 3) && decide (100 ≤ digitsN s.data.toList) && decide (digitsN s.data.toList ≤ 599))) := Lib.hid (by rw [stB, Lib.size_eq])
  generalize stB s.data.toList = V at *
  generalize digitsB s.data.toList = b at *
  generalize digitsN s.data.toList = n at *
  cases b
  · have HW : Hid (V = false) := Lib.hid (by rw [HV.out] <;> rfl)
    go_enter Tryz.func39, Tryz.ntmps39
    go_wp2_with fail
    refine (cD _).mono ?_
    rintro e w1 ⟨rfl, rfl⟩
    go_wp2_with fail
    exact bodyPost_ret (v := .tuple #[.int .i64 n, .bool false]) (by simp [results, Tryz.results39, go_sem]) rfl ⟨by rw [HW.out], rfl⟩
  · by_cases h3 : s.size = 3
    · have d3 : ((s.size : Int) == 3) = true := by rw [h3] <;> rfl
      by_cases h4 : 100 ≤ n
      · by_cases h5 : n ≤ 599
        · have HW : Hid (V = true) := Lib.hid (by rw [HV.out, decide_eq_true h3, decide_eq_true h4, decide_eq_true h5] <;> rfl)
          go_enter Tryz.func39, Tryz.ntmps39
          go_wp2_with fail
          refine (cD _).mono ?_
          rintro e w1 ⟨rfl, rfl⟩
          go_wp2_with fail
          exact bodyPost_ret (v := .tuple #[.int .i64 n, .bool true]) (by simp [results, Tryz.results39, go_sem]) rfl ⟨by rw [HW.out], rfl⟩
        · have HW : Hid (V = false) := Lib.hid (by rw [HV.out, decide_eq_false h5, Bool.and_false])
          go_enter Tryz.func39, Tryz.ntmps39
          go_wp2_with fail
          refine (cD _).mono ?_
          rintro e w1 ⟨rfl, rfl⟩
          go_wp2_with fail
          exact bodyPost_ret (v := .tuple #[.int .i64 n, .bool false]) (by simp [results, Tryz.results39, go_sem]; omega) rfl ⟨by rw [HW.out], rfl⟩
      · have HW : Hid (V = false) := Lib.hid (by rw [HV.out, decide_eq_false h4, Bool.and_false, Bool.false_and])
        go_enter Tryz.func39, Tryz.ntmps39
        go_wp2_with fail
        refine (cD _).mono ?_
        rintro e w1 ⟨rfl, rfl⟩
        go_wp2_with fail
        exact bodyPost_ret (v := .tuple #[.int .i64 n, .bool false]) (by simp [results, Tryz.results39, go_sem]) rfl ⟨by rw [HW.out], rfl⟩
    · have d3 : ((s.size : Int) == 3) = false := by rewrite [beq_eq_false_iff_ne]; omega
      have HW : Hid (V = false) := Lib.hid (by rw [HV.out, decide_eq_false h3, Bool.and_false, Bool.false_and, Bool.false_and])
      go_enter Tryz.func39, Tryz.ntmps39
      go_wp2_with fail
      refine (cD _).mono ?_
      rintro e w1 ⟨rfl, rfl⟩
      go_wp2_with fail
      exact bodyPost_ret (v := .tuple #[.int .i64 n, .bool false]) (by simp [results, Tryz.results39, go_sem]) rfl ⟨by rw [HW.out], rfl⟩

set_option maxRecDepth 100000 in
set_option maxHeartbeats 4000000 in
theorem rbody_any (s : ByteArray) (n : Int) (w : World) (hs : s.size ≤ 90000) (hn : -2 ≤ n) :
    Calls Tryz.prog 36 #[.string s, .int .i64 n] w fun e w' => e = .returned (decV (bodL s.data.toList n)) ∧ Below w.heap.size w w' := by
  have hsz := Lib.size_eq s
  by_cases h2 : n = -2
  · subst h2
    have cD := fun W => rdecode_any s W hs
    have HV : Hid (bodL s.data.toList (-2) = decL s.data.toList) := Lib.hid rfl
    clear hsz
    generalize decL s.data.toList = D at *
    cases D with
    | error x =>
      have HW : Hid (decV (bodL s.data.toList (-2)) = .tuple #[.string ⟨#[]⟩, .int .i64 0, .int .i64 x]) := Lib.hid (by rw [HV.out] <;> rfl)
      rw [show decV (.error x) = .tuple #[.string ⟨#[]⟩, .int .i64 0, .int .i64 x] from rfl] at cD
      clear HV
      go_enter Tryz.func36, Tryz.ntmps36
      go_wp2_with fail
      refine (cD _).mono ?_
      rintro e w1 ⟨rfl, hb1⟩
      have HB1 := Lib.hid hb1
      clear hb1
      go_wp2_with fail
      exact bodyPost_ret (v := .tuple #[.string ⟨#[]⟩, .int .i64 0, .int .i64 x]) (by simp [results, Tryz.results36, go_sem]) rfl ⟨by rw [HW.out], HB1.out⟩
    | ok x =>
      obtain ⟨b, m⟩ := x
      have HW : Hid (decV (bodL s.data.toList (-2)) = .tuple #[.string (strB b), .int .i64 (m : Int), .int .i64 0]) := Lib.hid (by rw [HV.out] <;> rfl)
      rw [show decV (.ok (b, m)) = .tuple #[.string (strB b), .int .i64 (m : Int), .int .i64 0] from rfl] at cD
      clear HV
      generalize strB b = B at *
      go_enter Tryz.func36, Tryz.ntmps36
      go_wp2_with fail
      refine (cD _).mono ?_
      rintro e w1 ⟨rfl, hb1⟩
      have HB1 := Lib.hid hb1
      clear hb1
      go_wp2_with fail
      exact bodyPost_ret (v := .tuple #[.string B, .int .i64 (m : Int), .int .i64 0]) (by simp [results, Tryz.results36, go_sem]) rfl ⟨by rw [HW.out], HB1.out⟩
  · have d2 : (n == -2) = false := by rewrite [beq_eq_false_iff_ne]; exact h2
    by_cases h4 : 100000 < n
    · have HW : Hid (decV (bodL s.data.toList n) = .tuple #[.string ⟨#[]⟩, .int .i64 0, .int .i64 4]) := Lib.hid (by rw [bodL, if_neg h2, if_pos h4] <;> rfl)
      clear hsz h2
      go_enter Tryz.func36, Tryz.ntmps36
      go_wp2_with fail
      exact bodyPost_ret (v := .tuple #[.string ⟨#[]⟩, .int .i64 0, .int .i64 4]) (by simp [results, Tryz.results36, go_sem]) rfl ⟨by rw [HW.out], Below.refl _ _⟩
    · by_cases h3 : (s.size : Int) < n
      · have HW : Hid (decV (bodL s.data.toList n) = .tuple #[.string ⟨#[]⟩, .int .i64 0, .int .i64 3]) := Lib.hid (by rw [bodL, if_neg h2, if_neg h4, ← hsz, if_pos h3] <;> rfl)
        clear hsz h2
        go_enter Tryz.func36, Tryz.ntmps36
        go_wp2_with fail
        exact bodyPost_ret (v := .tuple #[.string ⟨#[]⟩, .int .i64 0, .int .i64 3]) (by simp [results, Tryz.results36, go_sem]) rfl ⟨by rw [HW.out], Below.refl _ _⟩
      · have HW : Hid (decV (bodL s.data.toList n) = .tuple #[.string (strB (s.data.toList.take n.toNat)), .int .i64 ((n.toNat : Nat) : Int), .int .i64 0]) := Lib.hid (by rw [bodL, if_neg h2, if_neg h4, ← hsz, if_neg h3] <;> rfl)
        obtain ⟨m, hm, hmx⟩ : ∃ m : Nat, n.toNat = m ∧ max n 0 = (m : Int) := ⟨n.toNat, rfl, by omega⟩
        rw [hm] at HW
        have hml : m ≤ s.size := by omega
        clear hsz h2 hm
        go_enter Tryz.func36, Tryz.ntmps36
        go_wp2_with fail
        exact bodyPost_ret (v := .tuple #[.string (s.extract 0 m), .int .i64 (m : Int), .int .i64 0]) (by simp [results, Tryz.results36, go_sem]) rfl ⟨by rw [HW.out, show strB (s.data.toList.take m) = s.extract 0 m from by rw [← extract_take, strB_of]], Below.refl _ _⟩

set_option maxRecDepth 100000 in
set_option maxHeartbeats 4000000 in
theorem rless_any (lo : Nat) (v : Value) (fs : List Fld) (w : World) (h : Flds lo w v fs) (hk : FldsOk fs) :
    Calls Tryz.prog 37 #[v] w fun e w' => (∃ u, e = .returned u ∧ w'.ownsRow w.heap.size 70 2 u (lesL fs).length (rowF (lesL fs))) ∧ Below w.heap.size w w' := by
  have cW := fun v2 W h h2 => rwithout_any lo v v2 fs [clN, teN] W h h2 hk (by decide)
  have hw : lesL fs = withoutH fs [clN, teN] := rfl
  rw [← hw] at cW
  have HF := Lib.hid h
  obtain ⟨ao, cap, rfl, _⟩ := h
  clear hk hw
  generalize lesL fs = L at *
  go_enter Tryz.func37, Tryz.ntmps37
  have ha := (Below.refl w.heap.size w).alloc (Nat.le_refl _) (.cells #[.string ⟨#[99, 111, 110, 116, 101, 110, 116, 45, 108, 101, 110, 103, 116, 104]⟩, .string ⟨#[116, 114, 97, 110, 115, 102, 101, 114, 45, 101, 110, 99, 111, 100, 105, 110, 103]⟩] 9)
  have hS : StrsF (w.alloc (.cells #[.string ⟨#[99, 111, 110, 116, 101, 110, 116, 45, 108, 101, 110, 103, 116, 104]⟩, .string ⟨#[116, 114, 97, 110, 115, 102, 101, 114, 45, 101, 110, 99, 111, 100, 105, 110, 103]⟩] 9)) (.slice (some ⟨w.heap.size, 0, none⟩) 2 2) [clN, teN] := by
    refine ⟨_, 2, rfl, .inr ⟨w.heap.size, 0, rfl, by simp, fun j q hj => ?_⟩⟩
    match j, hj with
    | 0, hj =>
      obtain rfl : clN = q := by simpa using hj
      simp
      rfl
    | 1, hj =>
      obtain rfl : teN = q := by simpa using hj
      simp
      rfl
  have hc := cW _ _ (HF.out.below ha) hS
  have HB := Lib.hid ha
  clear cW hS ha
  go_wp2_with fail
  refine hc.mono ?_
  rintro e w1 ⟨⟨u, rfl, hown⟩, hb1⟩
  have HO := Lib.hid (ownsRow_lowF hown (show w.heap.size ≤ _ by simp))
  have HB1 := Lib.hid (HB.out.trans (hb1.mono HB.out.size))
  obtain ⟨a1, k1, rfl⟩ := owns_formF hown
  clear hown hb1 hc
  go_wp2_with fail
  exact bodyPost_ret (v := .slice a1 L.length k1) (by simp [results, Tryz.results37, go_sem]) rfl ⟨⟨_, rfl, HO.out⟩, HB1.out⟩

end Go.Proofs.YthbfcamfapgodaaGreatDoor
