/- The contract of message.textOf. · Plain: a request and a response as text, by their first line. -/
import Derived.Test.YthbfcamfapgodaaGreatDoorGI
import Derived.Test.YthbfcamfapgodaaGreatDoorGL
import Derived.Test.YthbfcamfapgodaaGreatDoorGA
import Derived.Test.YthbfcamfapgodaaGreatDoorGP
import Derived.Test.YthbfcamfapgodaaGreatDoorGH
import Derived.Test.YthbfcamfapgodaaGreatDoorGQ
import Derived.Test.YthbfcamfapgodaaGreatDoorShelf

namespace Go.Proofs.YthbfcamfapgodaaGreatDoor
open Go.RowKit Go.Shelf Go.Lib

theorem mitoa_any (n : Nat) (hn : n < 1000000000) (w : World) (hP : Pow w) :
    Calls Tryz.prog 50 #[.int .i64 (n : Int)] w fun e w' => e = .returned (.string (strB (Lib.decDigits n))) ∧ Below w.heap.size w w' := by
  refine (Tryz.strconv_Itoa (n : Int) (by omega) (by omega) w hP).mono ?_
  rintro e w' ⟨rfl, k, os, rfl⟩
  rewrite [itoa_nat]
  exact ⟨rfl, Lib.below_grow _ _ (Nat.le_refl _) k os⟩

/-- A message as text: a first line, fields (one that tells a length behind them), a body. -/
def txoF (fs : List Fld) (n : Nat) (told : Bool) : List Fld := if told = true then withCl fs n else fs
def txoL (line : List UInt8) (fs : List Fld) (b : List UInt8) (told : Bool) : Option (List UInt8) :=
  if (fs.any detB || decide (100000 < b.length)) = true then none
  else if rightH (txoF fs b.length told) = true then some (line ++ [13, 10] ++ (prF (txoF fs b.length told) ++ [13, 10]) ++ b) else none
theorem prF_le {fs : List Fld} (h : rightH fs = true) : (prF fs).length ≤ 200000 := by
  unfold rightH at h
  simp only [Bool.and_eq_true, decide_eq_true_eq, Bool.not_eq_true', List.any_eq_false, Bool.not_eq_true] at h
  have : ∀ l : List Fld, (∀ p ∈ l, wrongL p = false) → (prF l).length ≤ l.length * 2002 := by
    intro l
    induction l with
    | nil => intro _; exact Nat.zero_le _
    | cons p r ih =>
      intro hp
      have h1 := ih fun q hq => hp q (List.mem_cons_of_mem _ hq)
      have h2 := (rightF (hp p (List.mem_cons_self ..))).1
      rewrite [prF, List.length_append, lineF_len, List.length_cons]
      omega
  have := this fs h.2
  omega
theorem fldsok_with {fs : List Fld} {n : Nat} (h : FldsOk fs) (hl : fs.length ≤ 90000) (hn : n < 1000000) : FldsOk (withCl fs n) := by
  refine ⟨by rewrite [withCl, List.length_append]; simp; omega, fun p hp => ?_⟩
  rw [withCl, List.mem_append, List.mem_singleton] at hp
  rcases hp with hp | rfl
  · exact h.2 p hp
  · have := dec_len 5 n (by omega)
    have hc : clN.length = 14 := rfl
    exact ⟨by simp only; omega, by simp only; omega⟩

set_option maxRecDepth 100000 in
set_option maxHeartbeats 8000000 in
theorem mtext_any (lo lo2 : Nat) (v vb : Value) (line : List UInt8) (fs : List Fld) (b : List UInt8) (told : Bool) (w : World) (h : Flds lo w v fs) (hk : FldsOk fs) (hl : fs.length ≤ 90000) (hb : BytF lo2 w vb b) (hbl : b.length ≤ 900000) (hln : line.length ≤ 900000) (hT : Tabs w) (hP : Pow w) :
    Calls Tryz.prog 44 #[.string (strB line), v, vb, .bool told] w fun e w' => e = .returned (textH (txoL line fs b told)) ∧ Below w.heap.size w w' := by
  have cF := fun W h => mframed_any lo v fs W h hk
  have HF := Lib.hid h
  have HY := Lib.hid hb
  obtain ⟨ao, cap, rfl, _⟩ := h
  obtain ⟨bo, bcap, rfl, _⟩ := hb
  have HT := Lib.hid hT
  have HP := Lib.hid hP
  have hz := strB_size line
  clear hT hP
  by_cases hd : fs.any detB = true
  · have HV : Hid (textH (txoL line fs b told) = .tuple #[.string ⟨#[]⟩, .int .i64 2]) := Lib.hid (by rw [txoL, hd] <;> rfl)
    rw [hd] at cF
    clear hd hz
    generalize strB line = L at *
    go_enter Tryz.func44, Tryz.ntmps44
    go_wp2_with fail
    refine (cF _ HF.out).mono ?_
    rintro e w1 ⟨rfl, hb1⟩
    have HB1 := Lib.hid hb1
    clear hb1
    go_wp2_with fail
    exact bodyPost_ret (v := .tuple #[.string ⟨#[]⟩, .int .i64 2]) (by simp [results, Tryz.results44, go_sem]) rfl ⟨by rw [HV.out], HB1.out⟩
  have hd0 : fs.any detB = false := by simpa using hd
  clear hd
  by_cases hbig : 100000 < b.length
  · have HV : Hid (textH (txoL line fs b told) = .tuple #[.string ⟨#[]⟩, .int .i64 2]) := Lib.hid (by rw [txoL, hd0, decide_eq_true hbig] <;> rfl)
    have d : (100000 : Int) < (b.length : Int) := by omega
    rw [hd0] at cF
    clear hd0 hz hbig
    generalize strB line = L at *
    go_enter Tryz.func44, Tryz.ntmps44
    go_wp2_with fail
    refine (cF _ HF.out).mono ?_
    rintro e w1 ⟨rfl, hb1⟩
    have HB1 := Lib.hid hb1
    clear hb1
    go_wp2_with fail
    exact bodyPost_ret (v := .tuple #[.string ⟨#[]⟩, .int .i64 2]) (by simp [results, Tryz.results44, go_sem]) rfl ⟨by rw [HV.out], HB1.out⟩
  have d : ¬ (100000 : Int) < (b.length : Int) := by omega
  have HV0 : Hid (txoL line fs b told = if rightH (txoF fs b.length told) = true then some (line ++ [13, 10] ++ (prF (txoF fs b.length told) ++ [13, 10]) ++ b) else none) := Lib.hid (by
    rw [txoL, hd0, decide_eq_false hbig] <;> rfl)
  rw [hd0] at cF
  clear hd0
  have cP := fun lo v W h hk hT => hprint_any lo v (txoF fs b.length told) W h hk hT
  have hkf : FldsOk (txoF fs b.length told) := by
    unfold txoF
    split
    · exact fldsok_with hk hl (by omega)
    · exact hk
  have hbs := strB_size b
  cases hr : rightH (txoF fs b.length told) with
  | false =>
    have HV : Hid (textH (txoL line fs b told) = .tuple #[.string ⟨#[]⟩, .int .i64 2]) := Lib.hid (by rw [HV0.out, hr] <;> rfl)
    have hpr : textH (printH (txoF fs b.length told)) = .tuple #[.string ⟨#[]⟩, .int .i64 2] := by rw [printH, hr] <;> rfl
    unfold hprPost at cP
    rw [hpr] at cP
    have cW := fun W h => hwith_any lo (.slice ao fs.length cap) fs (clN, Lib.decDigits b.length) W h hk.1
    have cI := fun W h => mitoa_any b.length (by omega) W h
    have HK := Lib.hid hkf
    clear hr hpr hbig HV0 hkf hz hbs
    rw [show strB clN = (⟨#[99, 111, 110, 116, 101, 110, 116, 45, 108, 101, 110, 103, 116, 104]⟩ : ByteArray) from rfl] at cW
    generalize strB line = L at *
    cases told
    · have hF := HF.out
      rw [show txoF fs b.length false = fs from rfl] at *
      clear hF
      go_enter Tryz.func44, Tryz.ntmps44
      go_wp2_with fail
      refine (cF _ HF.out).mono ?_
      rintro e w1 ⟨rfl, hb1⟩
      have HB1 := Lib.hid hb1
      clear hb1
      go_wp2_with fail
      refine (cP lo _ _ (HF.out.below HB1.out) HK.out (Utf8Tabs_below HT.out HB1.out)).mono ?_
      rintro e w2 ⟨rfl, hb2⟩
      have HB2 := Lib.hid (HB1.out.trans (hb2.mono HB1.out.size))
      clear hb2
      go_wp2_with fail
      exact bodyPost_ret (v := .tuple #[.string ⟨#[]⟩, .int .i64 2]) (by simp [results, Tryz.results44, go_sem]) rfl ⟨by rw [HV.out], HB2.out⟩
    · rw [show txoF fs b.length true = fs ++ [(clN, Lib.decDigits b.length)] from rfl] at *
      generalize strB (clN, Lib.decDigits b.length).2 = SD at *
      go_enter Tryz.func44, Tryz.ntmps44
      go_wp2_with fail
      refine (cF _ HF.out).mono ?_
      rintro e w1 ⟨rfl, hb1⟩
      have HB1 := Lib.hid hb1
      clear hb1
      go_wp2_with fail
      refine (cI _ (HP.out.below HB1.out)).mono ?_
      rintro e w2 ⟨rfl, hb2⟩
      have HB2 := Lib.hid (HB1.out.trans (hb2.mono HB1.out.size))
      clear hb2
      go_wp2_with fail
      refine (cW _ (HF.out.below HB2.out)).mono ?_
      rintro e w3 ⟨⟨u, rfl, hown⟩, hb3⟩
      have HB3 := Lib.hid (HB2.out.trans (hb3.mono HB2.out.size))
      obtain ⟨b3, k3, rfl⟩ := owns_formF hown
      have HF3 : Hid (Flds 0 w3 (.slice b3 (fs.length + 1) k3) (fs ++ [(clN, Lib.decDigits b.length)])) := Lib.hid (by
        have := Flds.of_own hown (Nat.zero_le _)
        rw [List.length_append] at this
        exact this)
      rewrite [List.length_append]
      clear hb3 hown
      go_wp2_with fail
      refine (cP 0 _ _ HF3.out HK.out (Utf8Tabs_below HT.out HB3.out)).mono ?_
      rintro e w4 ⟨rfl, hb4⟩
      have HB4 := Lib.hid (HB3.out.trans (hb4.mono HB3.out.size))
      clear hb4
      go_wp2_with fail
      exact bodyPost_ret (v := .tuple #[.string ⟨#[]⟩, .int .i64 2]) (by simp [results, Tryz.results44, go_sem]) rfl ⟨by rw [HV.out], HB4.out⟩
  | true =>
    have hpl := prF_le hr
    have HV : Hid (textH (txoL line fs b told) = .tuple #[.string (strB line ++ ⟨#[13, 10]⟩ ++ strB (prF (txoF fs b.length told) ++ [13, 10]) ++ strB b), .int .i64 0]) := Lib.hid (by
      rw [HV0.out, hr, if_pos rfl, textH, ← strB_append, ← strB_append, ← strB_append] <;> rfl)
    have hpr : textH (printH (txoF fs b.length told)) = .tuple #[.string (strB (prF (txoF fs b.length told) ++ [13, 10])), .int .i64 0] := by rw [printH, hr] <;> rfl
    unfold hprPost at cP
    rw [hpr] at cP
    have hts : (strB (prF (txoF fs b.length told) ++ [13, 10])).size ≤ 200002 := by
      rewrite [strB_size, List.length_append]; simp; omega
    have cW := fun W h => hwith_any lo (.slice ao fs.length cap) fs (clN, Lib.decDigits b.length) W h hk.1
    have cI := fun W h => mitoa_any b.length (by omega) W h
    have HK := Lib.hid hkf
    clear hr hpr hbig HV0 hkf hpl
    rw [show strB clN = (⟨#[99, 111, 110, 116, 101, 110, 116, 45, 108, 101, 110, 103, 116, 104]⟩ : ByteArray) from rfl] at cW
    have n1 : ¬ 9223372036854775807 < (strB line).size + 2 := by omega
    have n2 : ¬ 9223372036854775807 < (strB line).size + 2 + (strB (prF (txoF fs b.length told) ++ [13, 10])).size := by omega
    have n3 : ¬ 9223372036854775807 < (strB line).size + 2 + (strB (prF (txoF fs b.length told) ++ [13, 10])).size + (strB b).size := by omega
    generalize strB (prF (txoF fs b.length told) ++ [13, 10]) = T at *
    generalize hSB : strB b = SB at *
    have HSB := Lib.hid hSB
    clear hSB hz hbs hts
    generalize strB line = L at *
    cases told
    · rw [show txoF fs b.length false = fs from rfl] at *
      go_enter Tryz.func44, Tryz.ntmps44
      go_wp2_with fail
      refine (cF _ HF.out).mono ?_
      rintro e w1 ⟨rfl, hb1⟩
      have HB1 := Lib.hid hb1
      clear hb1
      go_wp2_with fail
      refine (cP lo _ _ (HF.out.below HB1.out) HK.out (Utf8Tabs_below HT.out HB1.out)).mono ?_
      rintro e w2 ⟨rfl, hb2⟩
      have HB2 := Lib.hid (HB1.out.trans (hb2.mono HB1.out.size))
      have k1 := (HY.out.below HB2.out).conv
      rw [HSB.out] at k1
      clear hb2
      go_wp2_with fail
      exact bodyPost_ret (v := .tuple #[.string (L ++ ⟨#[13, 10]⟩ ++ T ++ SB), .int .i64 0]) (by simp [results, Tryz.results44, go_sem]) rfl ⟨by rw [HV.out], HB2.out⟩
    · rw [show txoF fs b.length true = fs ++ [(clN, Lib.decDigits b.length)] from rfl] at *
      generalize strB (clN, Lib.decDigits b.length).2 = SD at *
      go_enter Tryz.func44, Tryz.ntmps44
      go_wp2_with fail
      refine (cF _ HF.out).mono ?_
      rintro e w1 ⟨rfl, hb1⟩
      have HB1 := Lib.hid hb1
      clear hb1
      go_wp2_with fail
      refine (cI _ (HP.out.below HB1.out)).mono ?_
      rintro e w2 ⟨rfl, hb2⟩
      have HB2 := Lib.hid (HB1.out.trans (hb2.mono HB1.out.size))
      clear hb2
      go_wp2_with fail
      refine (cW _ (HF.out.below HB2.out)).mono ?_
      rintro e w3 ⟨⟨u, rfl, hown⟩, hb3⟩
      have HB3 := Lib.hid (HB2.out.trans (hb3.mono HB2.out.size))
      obtain ⟨b3, k3, rfl⟩ := owns_formF hown
      have HF3 : Hid (Flds 0 w3 (.slice b3 (fs.length + 1) k3) (fs ++ [(clN, Lib.decDigits b.length)])) := Lib.hid (by
        have := Flds.of_own hown (Nat.zero_le _)
        rw [List.length_append] at this
        exact this)
      rewrite [List.length_append]
      clear hb3 hown
      go_wp2_with fail
      refine (cP 0 _ _ HF3.out HK.out (Utf8Tabs_below HT.out HB3.out)).mono ?_
      rintro e w4 ⟨rfl, hb4⟩
      have HB4 := Lib.hid (HB3.out.trans (hb4.mono HB3.out.size))
      have k1 := (HY.out.below HB4.out).conv
      rw [HSB.out] at k1
      clear hb4
      go_wp2_with fail
      exact bodyPost_ret (v := .tuple #[.string (L ++ ⟨#[13, 10]⟩ ++ T ++ SB), .int .i64 0]) (by simp [results, Tryz.results44, go_sem]) rfl ⟨by rw [HV.out], HB4.out⟩

end Go.Proofs.YthbfcamfapgodaaGreatDoor

namespace Go.Proofs.YthbfcamfapgodaaGreatDoor
open Go.RowKit

theorem det_any (fs : List Fld) : fs.any detB = !decide ((allH fs clN).length + (allH fs teN).length = 0) := by
  induction fs with
  | nil => rfl
  | cons p r ih =>
    have e : ∀ n : List UInt8, (allH (p :: r) n).length = (if p.1 = n then 1 else 0) + (allH r n).length := fun n => by
      by_cases h : p.1 = n
      · rewrite [if_pos h]; simp [allH, h]; omega
      · rewrite [if_neg h]; simp [allH, h]
    rewrite [List.any_cons, ih, e, e, detB]
    by_cases h1 : p.1 = clN
    · rewrite [decide_eq_true h1, if_pos h1, decide_eq_false (show ¬ (1 + (allH r clN).length + ((if p.1 = teN then 1 else 0) + (allH r teN).length) = 0) by omega)]
      rfl
    · by_cases h2 : p.1 = teN
      · rewrite [decide_eq_true h2, if_pos h2, decide_eq_false (show ¬ ((if p.1 = clN then 1 else 0) + (allH r clN).length + (1 + (allH r teN).length) = 0) by omega)]
        simp
      · rewrite [decide_eq_false h1, decide_eq_false h2, if_neg h1, if_neg h2, Nat.zero_add, Nat.zero_add]
        rfl
theorem fair_det (fs : List Fld) : fairL fs = (rightH fs && !fs.any detB) := by rw [fairL, det_any, Bool.not_not]
theorem right_cl (fs : List Fld) (n : Nat) (hn : n ≤ 100000) : rightH (withCl fs n) = (rightH fs && decide (fs.length < 64)) := by
  rewrite [rightH, rightH, withCl, List.any_append, List.any_cons, List.any_nil, wrong_cl n hn, Bool.or_false, Bool.or_false, List.length_append]
  by_cases h : fs.length < 64
  · rw [decide_eq_true h, decide_eq_true (show fs.length + [(clN, Lib.decDigits n)].length ≤ 64 by simp; omega), decide_eq_true (show fs.length ≤ 64 by omega), Bool.and_true]
  · rw [decide_eq_false h, decide_eq_false (show ¬ fs.length + [(clN, Lib.decDigits n)].length ≤ 64 by simp; omega), Bool.and_false, Bool.false_and]

theorem prQ_tx (q : Rq) : prQ q = if (tokL q.m && tgtL q.t && decide ((linQ q).length ≤ 2000) && decide ((allH q.fs hoN).length = 1)) = true then txoL (linQ q) q.fs q.b (decide (0 < q.b.length)) else none := by
  rewrite [prQ, linQ_len, fair_det, txoL]
  cases tokL q.m <;> cases tgtL q.t <;> cases decide ((allH q.fs hoN).length = 1) <;> cases decide (q.m.length + q.t.length + 10 ≤ 2000) <;> try (simp; done)
  simp only [Bool.true_and, Bool.and_true, if_true]
  by_cases hb : 100000 < q.b.length
  · have h0 : decide (q.b.length ≤ 100000) = false := decide_eq_false (by omega)
    rewrite [h0, decide_eq_true hb]
    simp
  · have h0 : decide (q.b.length ≤ 100000) = true := decide_eq_true (by omega)
    rewrite [h0, decide_eq_false hb]
    cases hd : q.fs.any detB
    · by_cases he : q.b = []
      · have h1 : decide (0 < q.b.length) = false := decide_eq_false (by rewrite [he]; simp)
        rewrite [h1, decide_eq_true he]
        cases hr : rightH q.fs
        · simp [txoF, hr]
        · simp [txoF, hr, fieldsQ, he, linQ]
      · have h1 : decide (0 < q.b.length) = true := decide_eq_true (List.length_pos_iff.2 he)
        have h2 : rightH (txoF q.fs q.b.length true) = (rightH q.fs && decide (q.fs.length < 64)) := right_cl _ _ (by omega)
        rewrite [h1, decide_eq_false he, h2]
        cases rightH q.fs <;> cases decide (q.fs.length < 64)
        all_goals simp [txoF, fieldsQ, he, linQ]
    · simp
theorem prP_tx (p : Rp) (me : ByteArray) : prP p me = if (decide (100 ≤ p.n) && decide (p.n ≤ 599) && decide (p.fs.length < 64) && (!bareB p.n me || decide (p.b = []))) = true then txoL (linP p) p.fs p.b (!bareB p.n me) else none := by
  rewrite [prP, fair_det, txoL]
  cases decide (100 ≤ p.n) <;> cases decide (p.n ≤ 599) <;> try (simp; done)
  by_cases hl : p.fs.length < 64
  · rewrite [decide_eq_true hl]
    simp only [Bool.true_and, Bool.and_true]
    by_cases hb : 100000 < p.b.length
    · have h0 : decide (p.b.length ≤ 100000) = false := decide_eq_false (by omega)
      rewrite [h0, decide_eq_true hb]
      simp
    · have h0 : decide (p.b.length ≤ 100000) = true := decide_eq_true (by omega)
      rewrite [h0, decide_eq_false hb]
      cases hd : p.fs.any detB
      · cases hba : bareB p.n me
        · have h2 : rightH (txoF p.fs p.b.length true) = (rightH p.fs && decide (p.fs.length < 64)) := right_cl _ _ (by omega)
          rw [decide_eq_true hl] at h2
          simp only [Bool.not_false, Bool.true_or, Bool.and_true, Bool.or_false, if_true, h2]
          cases rightH p.fs
          · simp
          · simp [txoF, fieldsP, hba, linP]
        · by_cases he : p.b = []
          · rewrite [decide_eq_true he]
            cases hr : rightH p.fs
            · simp [txoF, hr]
            · simp [txoF, hr, fieldsP, hba, linP, he]
          · rewrite [decide_eq_false he]
            simp
      · simp
  · rewrite [decide_eq_false hl]
    simp

end Go.Proofs.YthbfcamfapgodaaGreatDoor
