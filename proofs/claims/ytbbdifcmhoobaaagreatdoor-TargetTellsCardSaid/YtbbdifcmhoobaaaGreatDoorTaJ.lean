/- The contract of target.Normal: three ways in (a short target, one that is no URI, one that is), four ways on. -/
import Derived.Test.YtbbdifcmhoobaaaGreatDoorTaI
namespace Go.Proofs.YtbbdifcmhoobaaaGreatDoor
open Go.RowKit Go.Shelf Go.Lib

set_option maxRecDepth 100000 in
set_option maxHeartbeats 4000000 in
theorem normal_A1 (s1 s2 : ByteArray) (h1 t1 : List UInt8) (w : World) (z1 : s1.size ≤ 100000) (_ : s2.size ≤ 100000) (hA : decide (7 ≤ (s2.size : Int)) = false) (hs1 : s1.data.toList = h1) (_ : s2.data.toList = t1) (hh : hostL h1 = none) :
    Calls Tryz.prog 9 #[.string s1, .string s2] w (errPost none w) := by
  have cH := fun W => host_any s1 W z1
  rw [hs1, hh] at cH
  clear hh hs1
  go_enter Tryz.func9, Tryz.ntmps9
  go_wp2_with fail
  refine (cH _).mono ?_
  rintro e wc ⟨rfl, hbc⟩
  unfold errV
  go_wp2_with fail
  exact bodyPost_ret (v := .tuple #[.string ⟨#[]⟩, .int .i64 2]) (by simp [results, Tryz.results9, go_sem]) rfl ⟨rfl, (Below.refl w.heap.size w).trans (hbc.mono (Below.refl w.heap.size w).size)⟩

set_option maxRecDepth 100000 in
set_option maxHeartbeats 4000000 in
theorem normal_A2 (s1 s2 : ByteArray) (h1 t1 : List UInt8) (w : World) (z1 : s1.size ≤ 100000) (z2 : s2.size ≤ 100000) (hA : decide (7 ≤ (s2.size : Int)) = false) (hs1 : s1.data.toList = h1) (hs2 : s2.data.toList = t1) (hh0 : List UInt8) (hh : hostL h1 = some hh0) (ht : t1.takeWhile endB ≠ []) :
    Calls Tryz.prog 9 #[.string s1, .string s2] w (errPost none w) := by
  have cH := fun W => host_any s1 W z1
  rw [hs1, hh] at cH
  have cE := fun W => splitEnd_any s2 W z2
  rw [hs2, spaV] at cE
  have hE1 : (strB (t1.takeWhile endB)).toList.isEmpty = false := by
    rw [strB_toList]
    cases hq : t1.takeWhile endB with
    | nil => exact absurd hq ht
    | cons a b => rfl
  clear hh ht hs1 hs2
  generalize strB (t1.takeWhile endB) = EA at *
  generalize strB (t1.dropWhile endB) = EB at *
  go_enter Tryz.func9, Tryz.ntmps9
  go_wp2_with fail
  refine (cH _).mono ?_
  rintro e wc ⟨rfl, hbc⟩
  have hb1 := (Below.refl w.heap.size w).trans (hbc.mono (Below.refl w.heap.size w).size)
  unfold errV
  go_wp2_with fail
  refine (cE _).mono ?_
  rintro e wd ⟨rfl, hbd⟩
  go_wp2_with fail
  exact bodyPost_ret (v := .tuple #[.string ⟨#[]⟩, .int .i64 2]) (by simp [results, Tryz.results9, go_sem]) rfl ⟨rfl, hb1.trans (hbd.mono hb1.size)⟩

set_option maxRecDepth 100000 in
set_option maxHeartbeats 4000000 in
theorem normal_A3 (s1 s2 : ByteArray) (h1 t1 : List UInt8) (w : World) (z1 : s1.size ≤ 100000) (z2 : s2.size ≤ 100000) (hA : decide (7 ≤ (s2.size : Int)) = false) (hs1 : s1.data.toList = h1) (hs2 : s2.data.toList = t1) (hh0 : List UInt8) (hh : hostL h1 = some hh0) (ht : t1.takeWhile endB = []) (hp : pctL t1 = none) (hE : Errs w) :
    Calls Tryz.prog 9 #[.string s1, .string s2] w (errPost none w) := by
  have cH := fun W => host_any s1 W z1
  rw [hs1, hh] at cH
  have cE := fun W => splitEnd_any s2 W z2
  rw [hs2, spaV] at cE
  have cP := fun W hEW => percent_any s2 W z2 hEW
  rw [hs2, hp] at cP
  have hE1 : (strB (t1.takeWhile endB)).toList.isEmpty = true := by rw [strB_toList, ht]; rfl
  have HE := Lib.hid hE
  clear hh ht hp hE hs1 hs2
  generalize strB (t1.takeWhile endB) = EA at *
  generalize strB (t1.dropWhile endB) = EB at *
  go_enter Tryz.func9, Tryz.ntmps9
  go_wp2_with fail
  refine (cH _).mono ?_
  rintro e wc ⟨rfl, hbc⟩
  have hb1 := (Below.refl w.heap.size w).trans (hbc.mono (Below.refl w.heap.size w).size)
  unfold errV
  go_wp2_with fail
  refine (cE _).mono ?_
  rintro e wd ⟨rfl, hbd⟩
  have hb2 := hb1.trans (hbd.mono hb1.size)
  go_wp2_with fail
  refine (cP _ (HE.out.below hb2)).mono ?_
  rintro e we ⟨rfl, hbe⟩
  unfold errV
  go_wp2_with fail
  exact bodyPost_ret (v := .tuple #[.string ⟨#[]⟩, .int .i64 2]) (by simp [results, Tryz.results9, go_sem]) rfl ⟨rfl, hb2.trans (hbe.mono hb2.size)⟩

set_option maxRecDepth 100000 in
set_option maxHeartbeats 4000000 in
theorem normal_A4 (s1 s2 : ByteArray) (h1 t1 : List UInt8) (w : World) (z1 : s1.size ≤ 100000) (z2 : s2.size ≤ 100000) (hA : decide (7 ≤ (s2.size : Int)) = false) (hs1 : s1.data.toList = h1) (hs2 : s2.data.toList = t1) (hh0 p0 : List UInt8) (hh : hostL h1 = some hh0) (ht : t1.takeWhile endB = []) (hp : pctL t1 = some p0) (hE : Errs w) :
    Calls Tryz.prog 9 #[.string s1, .string s2] w (errPost (some (htpL ++ hh0 ++ pthN p0 ++ p0.dropWhile queB)) w) := by
  have cH := fun W => host_any s1 W z1
  rw [hs1, hh] at cH
  have cE := fun W => splitEnd_any s2 W z2
  rw [hs2, spaV] at cE
  have cP := fun W hEW => percent_any s2 W z2 hEW
  rw [hs2, hp] at cP
  have hE1 : (strB (t1.takeWhile endB)).toList.isEmpty = true := by rw [strB_toList, ht]; rfl
  have HE := Lib.hid hE
  have hhl := host_len hh
  have hpl := (pct_stays _ t1 p0 (Nat.le_refl _) hp).2
  have ezH : h1.length ≤ 100000 := by rw [← hs1, ← Lib.size_eq]; exact z1
  have ezT : t1.length ≤ 100000 := by rw [← hs2, ← Lib.size_eq]; exact z2
  have q1 := takeWhile_len_le queB p0
  have q2 := dropWhile_len queB p0
  have zP : (strB p0).size ≤ 100000 := by rw [strB_size]; omega
  have zW : (strB (p0.takeWhile queB)).size ≤ 100000 := by rw [strB_size]; omega
  have cQ := fun W => splitQue_any (strB p0) W zP
  rw [strB_data, spaV] at cQ
  have cD := fun W => dots_any (strB (p0.takeWhile queB)) W zW
  rw [strB_data] at cD
  have hdl := dots_len (p0.takeWhile queB)
  have hol : (pthN p0).length ≤ 100001 := by
    rw [pthN]
    split
    · simp
    · omega
  have cO := fun b W a0 a1 => or_any b (dotsL (p0.takeWhile queB)) W a0 a1
  rw [show (if dotsL (p0.takeWhile queB) = [] then [47] else dotsL (p0.takeWhile queB)) = pthN p0 from rfl] at cO
  have HX : Hid ((⟨#[104, 116, 116, 112, 58, 47, 47]⟩ : ByteArray) ++ strB hh0 ++ strB (pthN p0) ++ strB (p0.dropWhile queB) = strB (htpL ++ hh0 ++ pthN p0 ++ p0.dropWhile queB)) := Lib.hid (by
    rw [show (⟨#[104, 116, 116, 112, 58, 47, 47]⟩ : ByteArray) = strB htpL from rfl, strB_append, strB_append, strB_append])
  have y1 : (strB hh0).size ≤ 100000 := by rw [strB_size]; omega
  have y2 : (strB (pthN p0)).size ≤ 100001 := by rw [strB_size]; exact hol
  have y3 : (strB (p0.dropWhile queB)).size ≤ 100000 := by rw [strB_size]; omega
  clear hh ht hp hE hhl hpl ezH ezT q1 q2 hdl hol hs1 hs2
  generalize strB (t1.takeWhile endB) = EA at *
  generalize strB (t1.dropWhile endB) = EB at *
  generalize dotsL (p0.takeWhile queB) = dd at *
  generalize strB (p0.takeWhile queB) = QA at *
  generalize htpL ++ hh0 ++ pthN p0 ++ p0.dropWhile queB = OUT at *
  generalize strB (p0.dropWhile queB) = QB at *
  generalize strB (pthN p0) = OO at *
  obtain ⟨DD, hDD⟩ : ∃ DD, strB dd = DD := ⟨_, rfl⟩
  unfold dtsPost at cD
  rw [hDD] at cD cO
  clear hDD
  go_enter Tryz.func9, Tryz.ntmps9
  go_wp2_with fail
  refine (cH _).mono ?_
  rintro e wc ⟨rfl, hbc⟩
  have hb1 := (Below.refl w.heap.size w).trans (hbc.mono (Below.refl w.heap.size w).size)
  unfold errV
  go_wp2_with fail
  refine (cE _).mono ?_
  rintro e wd ⟨rfl, hbd⟩
  have hb2 := hb1.trans (hbd.mono hb1.size)
  go_wp2_with fail
  refine (cP _ (HE.out.below hb2)).mono ?_
  rintro e we ⟨rfl, hbe⟩
  have hb3 := hb2.trans (hbe.mono hb2.size)
  unfold errV
  go_wp2_with fail
  refine (cQ _).mono ?_
  rintro e wf ⟨rfl, hbf⟩
  have hb4 := hb3.trans (hbf.mono hb3.size)
  clear hbc hbd hbe hbf
  go_wp2_with fail
  refine (cD _).mono ?_
  rintro e wg ⟨rfl, hbg⟩
  have hb5 := hb4.trans (hbg.mono hb4.size)
  have hb6 := hb5.alloc hb5.size (.cells #[.string DD, .string ⟨#[47]⟩] 9)
  have a0 : (wg.alloc (.cells #[.string DD, .string ⟨#[47]⟩] 9)).cell? ⟨wg.heap.size, 0, none⟩ = some (.string DD) := by simp
  have a1 : (wg.alloc (.cells #[.string DD, .string ⟨#[47]⟩] 9)).cell? ⟨wg.heap.size, 1, none⟩ = some (.string ⟨#[47]⟩) := by simp
  clear hbg hb1 hb2 hb3 hb4
  go_wp2_with fail
  refine (cO _ _ a0 a1).mono ?_
  rintro e wh ⟨rfl, rfl⟩
  go_wp2_with fail
  refine bodyPost_ret (v := .tuple #[.string ((⟨#[104, 116, 116, 112, 58, 47, 47]⟩ : ByteArray) ++ strB hh0 ++ OO ++ QB), .int .i64 0]) (by simp [results, Tryz.results9, go_sem]) rfl ⟨by rw [HX.out] <;> rfl, hb6⟩

set_option maxRecDepth 100000 in
set_option maxHeartbeats 4000000 in
theorem normal_B1 (s1 s2 : ByteArray) (h1 t1 : List UInt8) (w : World) (z1 : s1.size ≤ 100000) (z2 : s2.size ≤ 100000) (h7 : 7 ≤ s2.size) (hB : ¬ lowL (s2.data.toList.take 7) = htpL) (hs1 : s1.data.toList = h1) (_ : s2.data.toList = t1) (hh : hostL h1 = none) :
    Calls Tryz.prog 9 #[.string s1, .string s2] w (errPost none w) := by
  have hA : decide (7 ≤ (s2.size : Int)) = true := decide_eq_true (by omega)
  have hA2 : (7 : Int) ≤ (s2.size : Int) := by omega
  have z7 : (s2.extract 0 7).size ≤ maxLen := by rw [Lib.size_eq, extract_take, List.length_take]; unfold maxLen; omega
  have cL := fun W => lower_any (s2.extract 0 7) W z7
  rw [extract_take] at cL
  have hB1 : (((⟨(lowL (s2.data.toList.take 7)).toArray⟩ : ByteArray)).toList == [104, 116, 116, 112, 58, 47, 47]) = false := by
    rw [Lib.toList_data]
    simpa [htpL] using hB
  have hB2 : ¬ ((⟨(lowL (s2.data.toList.take 7)).toArray⟩ : ByteArray)).toList = [104, 116, 116, 112, 58, 47, 47] := by
    rw [Lib.toList_data]
    exact hB
  clear hB
  generalize (⟨(lowL (s2.data.toList.take 7)).toArray⟩ : ByteArray) = LL at *
  have cH := fun W => host_any s1 W z1
  rw [hs1, hh] at cH
  clear hh hs1
  go_enter Tryz.func9, Tryz.ntmps9
  go_wp2_with fail
  refine (cL _).mono ?_
  rintro e wa ⟨rfl, hba⟩
  go_wp2_with fail
  refine (cH _).mono ?_
  rintro e wc ⟨rfl, hbc⟩
  unfold errV
  go_wp2_with fail
  exact bodyPost_ret (v := .tuple #[.string ⟨#[]⟩, .int .i64 2]) (by simp [results, Tryz.results9, go_sem]) rfl ⟨rfl, hba.trans (hbc.mono hba.size)⟩

set_option maxRecDepth 100000 in
set_option maxHeartbeats 4000000 in
theorem normal_B2 (s1 s2 : ByteArray) (h1 t1 : List UInt8) (w : World) (z1 : s1.size ≤ 100000) (z2 : s2.size ≤ 100000) (h7 : 7 ≤ s2.size) (hB : ¬ lowL (s2.data.toList.take 7) = htpL) (hs1 : s1.data.toList = h1) (hs2 : s2.data.toList = t1) (hh0 : List UInt8) (hh : hostL h1 = some hh0) (ht : t1.takeWhile endB ≠ []) :
    Calls Tryz.prog 9 #[.string s1, .string s2] w (errPost none w) := by
  have hA : decide (7 ≤ (s2.size : Int)) = true := decide_eq_true (by omega)
  have hA2 : (7 : Int) ≤ (s2.size : Int) := by omega
  have z7 : (s2.extract 0 7).size ≤ maxLen := by rw [Lib.size_eq, extract_take, List.length_take]; unfold maxLen; omega
  have cL := fun W => lower_any (s2.extract 0 7) W z7
  rw [extract_take] at cL
  have hB1 : (((⟨(lowL (s2.data.toList.take 7)).toArray⟩ : ByteArray)).toList == [104, 116, 116, 112, 58, 47, 47]) = false := by
    rw [Lib.toList_data]
    simpa [htpL] using hB
  have hB2 : ¬ ((⟨(lowL (s2.data.toList.take 7)).toArray⟩ : ByteArray)).toList = [104, 116, 116, 112, 58, 47, 47] := by
    rw [Lib.toList_data]
    exact hB
  clear hB
  generalize (⟨(lowL (s2.data.toList.take 7)).toArray⟩ : ByteArray) = LL at *
  have cH := fun W => host_any s1 W z1
  rw [hs1, hh] at cH
  have cE := fun W => splitEnd_any s2 W z2
  rw [hs2, spaV] at cE
  have hE1 : (strB (t1.takeWhile endB)).toList.isEmpty = false := by
    rw [strB_toList]
    cases hq : t1.takeWhile endB with
    | nil => exact absurd hq ht
    | cons a b => rfl
  clear hh ht hs1 hs2
  generalize strB (t1.takeWhile endB) = EA at *
  generalize strB (t1.dropWhile endB) = EB at *
  go_enter Tryz.func9, Tryz.ntmps9
  go_wp2_with fail
  refine (cL _).mono ?_
  rintro e wa ⟨rfl, hba⟩
  go_wp2_with fail
  refine (cH _).mono ?_
  rintro e wc ⟨rfl, hbc⟩
  have hb1 := hba.trans (hbc.mono hba.size)
  unfold errV
  go_wp2_with fail
  refine (cE _).mono ?_
  rintro e wd ⟨rfl, hbd⟩
  go_wp2_with fail
  exact bodyPost_ret (v := .tuple #[.string ⟨#[]⟩, .int .i64 2]) (by simp [results, Tryz.results9, go_sem]) rfl ⟨rfl, hb1.trans (hbd.mono hb1.size)⟩

set_option maxRecDepth 100000 in
set_option maxHeartbeats 4000000 in
theorem normal_B3 (s1 s2 : ByteArray) (h1 t1 : List UInt8) (w : World) (z1 : s1.size ≤ 100000) (z2 : s2.size ≤ 100000) (h7 : 7 ≤ s2.size) (hB : ¬ lowL (s2.data.toList.take 7) = htpL) (hs1 : s1.data.toList = h1) (hs2 : s2.data.toList = t1) (hh0 : List UInt8) (hh : hostL h1 = some hh0) (ht : t1.takeWhile endB = []) (hp : pctL t1 = none) (hE : Errs w) :
    Calls Tryz.prog 9 #[.string s1, .string s2] w (errPost none w) := by
  have hA : decide (7 ≤ (s2.size : Int)) = true := decide_eq_true (by omega)
  have hA2 : (7 : Int) ≤ (s2.size : Int) := by omega
  have z7 : (s2.extract 0 7).size ≤ maxLen := by rw [Lib.size_eq, extract_take, List.length_take]; unfold maxLen; omega
  have cL := fun W => lower_any (s2.extract 0 7) W z7
  rw [extract_take] at cL
  have hB1 : (((⟨(lowL (s2.data.toList.take 7)).toArray⟩ : ByteArray)).toList == [104, 116, 116, 112, 58, 47, 47]) = false := by
    rw [Lib.toList_data]
    simpa [htpL] using hB
  have hB2 : ¬ ((⟨(lowL (s2.data.toList.take 7)).toArray⟩ : ByteArray)).toList = [104, 116, 116, 112, 58, 47, 47] := by
    rw [Lib.toList_data]
    exact hB
  clear hB
  generalize (⟨(lowL (s2.data.toList.take 7)).toArray⟩ : ByteArray) = LL at *
  have cH := fun W => host_any s1 W z1
  rw [hs1, hh] at cH
  have cE := fun W => splitEnd_any s2 W z2
  rw [hs2, spaV] at cE
  have cP := fun W hEW => percent_any s2 W z2 hEW
  rw [hs2, hp] at cP
  have hE1 : (strB (t1.takeWhile endB)).toList.isEmpty = true := by rw [strB_toList, ht]; rfl
  have HE := Lib.hid hE
  clear hh ht hp hE hs1 hs2
  generalize strB (t1.takeWhile endB) = EA at *
  generalize strB (t1.dropWhile endB) = EB at *
  go_enter Tryz.func9, Tryz.ntmps9
  go_wp2_with fail
  refine (cL _).mono ?_
  rintro e wa ⟨rfl, hba⟩
  go_wp2_with fail
  refine (cH _).mono ?_
  rintro e wc ⟨rfl, hbc⟩
  have hb1 := hba.trans (hbc.mono hba.size)
  unfold errV
  go_wp2_with fail
  refine (cE _).mono ?_
  rintro e wd ⟨rfl, hbd⟩
  have hb2 := hb1.trans (hbd.mono hb1.size)
  go_wp2_with fail
  refine (cP _ (HE.out.below hb2)).mono ?_
  rintro e we ⟨rfl, hbe⟩
  unfold errV
  go_wp2_with fail
  exact bodyPost_ret (v := .tuple #[.string ⟨#[]⟩, .int .i64 2]) (by simp [results, Tryz.results9, go_sem]) rfl ⟨rfl, hb2.trans (hbe.mono hb2.size)⟩

set_option maxRecDepth 100000 in
set_option maxHeartbeats 4000000 in
theorem normal_B4 (s1 s2 : ByteArray) (h1 t1 : List UInt8) (w : World) (z1 : s1.size ≤ 100000) (z2 : s2.size ≤ 100000) (h7 : 7 ≤ s2.size) (hB : ¬ lowL (s2.data.toList.take 7) = htpL) (hs1 : s1.data.toList = h1) (hs2 : s2.data.toList = t1) (hh0 p0 : List UInt8) (hh : hostL h1 = some hh0) (ht : t1.takeWhile endB = []) (hp : pctL t1 = some p0) (hE : Errs w) :
    Calls Tryz.prog 9 #[.string s1, .string s2] w (errPost (some (htpL ++ hh0 ++ pthN p0 ++ p0.dropWhile queB)) w) := by
  have hA : decide (7 ≤ (s2.size : Int)) = true := decide_eq_true (by omega)
  have hA2 : (7 : Int) ≤ (s2.size : Int) := by omega
  have z7 : (s2.extract 0 7).size ≤ maxLen := by rw [Lib.size_eq, extract_take, List.length_take]; unfold maxLen; omega
  have cL := fun W => lower_any (s2.extract 0 7) W z7
  rw [extract_take] at cL
  have hB1 : (((⟨(lowL (s2.data.toList.take 7)).toArray⟩ : ByteArray)).toList == [104, 116, 116, 112, 58, 47, 47]) = false := by
    rw [Lib.toList_data]
    simpa [htpL] using hB
  have hB2 : ¬ ((⟨(lowL (s2.data.toList.take 7)).toArray⟩ : ByteArray)).toList = [104, 116, 116, 112, 58, 47, 47] := by
    rw [Lib.toList_data]
    exact hB
  clear hB
  generalize (⟨(lowL (s2.data.toList.take 7)).toArray⟩ : ByteArray) = LL at *
  have cH := fun W => host_any s1 W z1
  rw [hs1, hh] at cH
  have cE := fun W => splitEnd_any s2 W z2
  rw [hs2, spaV] at cE
  have cP := fun W hEW => percent_any s2 W z2 hEW
  rw [hs2, hp] at cP
  have hE1 : (strB (t1.takeWhile endB)).toList.isEmpty = true := by rw [strB_toList, ht]; rfl
  have HE := Lib.hid hE
  have hhl := host_len hh
  have hpl := (pct_stays _ t1 p0 (Nat.le_refl _) hp).2
  have ezH : h1.length ≤ 100000 := by rw [← hs1, ← Lib.size_eq]; exact z1
  have ezT : t1.length ≤ 100000 := by rw [← hs2, ← Lib.size_eq]; exact z2
  have q1 := takeWhile_len_le queB p0
  have q2 := dropWhile_len queB p0
  have zP : (strB p0).size ≤ 100000 := by rw [strB_size]; omega
  have zW : (strB (p0.takeWhile queB)).size ≤ 100000 := by rw [strB_size]; omega
  have cQ := fun W => splitQue_any (strB p0) W zP
  rw [strB_data, spaV] at cQ
  have cD := fun W => dots_any (strB (p0.takeWhile queB)) W zW
  rw [strB_data] at cD
  have hdl := dots_len (p0.takeWhile queB)
  have hol : (pthN p0).length ≤ 100001 := by
    rw [pthN]
    split
    · simp
    · omega
  have cO := fun b W a0 a1 => or_any b (dotsL (p0.takeWhile queB)) W a0 a1
  rw [show (if dotsL (p0.takeWhile queB) = [] then [47] else dotsL (p0.takeWhile queB)) = pthN p0 from rfl] at cO
  have HX : Hid ((⟨#[104, 116, 116, 112, 58, 47, 47]⟩ : ByteArray) ++ strB hh0 ++ strB (pthN p0) ++ strB (p0.dropWhile queB) = strB (htpL ++ hh0 ++ pthN p0 ++ p0.dropWhile queB)) := Lib.hid (by
    rw [show (⟨#[104, 116, 116, 112, 58, 47, 47]⟩ : ByteArray) = strB htpL from rfl, strB_append, strB_append, strB_append])
  have y1 : (strB hh0).size ≤ 100000 := by rw [strB_size]; omega
  have y2 : (strB (pthN p0)).size ≤ 100001 := by rw [strB_size]; exact hol
  have y3 : (strB (p0.dropWhile queB)).size ≤ 100000 := by rw [strB_size]; omega
  clear hh ht hp hE hhl hpl ezH ezT q1 q2 hdl hol hs1 hs2
  generalize strB (t1.takeWhile endB) = EA at *
  generalize strB (t1.dropWhile endB) = EB at *
  generalize dotsL (p0.takeWhile queB) = dd at *
  generalize strB (p0.takeWhile queB) = QA at *
  generalize htpL ++ hh0 ++ pthN p0 ++ p0.dropWhile queB = OUT at *
  generalize strB (p0.dropWhile queB) = QB at *
  generalize strB (pthN p0) = OO at *
  obtain ⟨DD, hDD⟩ : ∃ DD, strB dd = DD := ⟨_, rfl⟩
  unfold dtsPost at cD
  rw [hDD] at cD cO
  clear hDD
  go_enter Tryz.func9, Tryz.ntmps9
  go_wp2_with fail
  refine (cL _).mono ?_
  rintro e wa ⟨rfl, hba⟩
  go_wp2_with fail
  refine (cH _).mono ?_
  rintro e wc ⟨rfl, hbc⟩
  have hb1 := hba.trans (hbc.mono hba.size)
  unfold errV
  go_wp2_with fail
  refine (cE _).mono ?_
  rintro e wd ⟨rfl, hbd⟩
  have hb2 := hb1.trans (hbd.mono hb1.size)
  go_wp2_with fail
  refine (cP _ (HE.out.below hb2)).mono ?_
  rintro e we ⟨rfl, hbe⟩
  have hb3 := hb2.trans (hbe.mono hb2.size)
  unfold errV
  go_wp2_with fail
  refine (cQ _).mono ?_
  rintro e wf ⟨rfl, hbf⟩
  have hb4 := hb3.trans (hbf.mono hb3.size)
  clear hbc hbd hbe hbf
  go_wp2_with fail
  refine (cD _).mono ?_
  rintro e wg ⟨rfl, hbg⟩
  have hb5 := hb4.trans (hbg.mono hb4.size)
  have hb6 := hb5.alloc hb5.size (.cells #[.string DD, .string ⟨#[47]⟩] 9)
  have a0 : (wg.alloc (.cells #[.string DD, .string ⟨#[47]⟩] 9)).cell? ⟨wg.heap.size, 0, none⟩ = some (.string DD) := by simp
  have a1 : (wg.alloc (.cells #[.string DD, .string ⟨#[47]⟩] 9)).cell? ⟨wg.heap.size, 1, none⟩ = some (.string ⟨#[47]⟩) := by simp
  clear hbg hb1 hb2 hb3 hb4
  go_wp2_with fail
  refine (cO _ _ a0 a1).mono ?_
  rintro e wh ⟨rfl, rfl⟩
  go_wp2_with fail
  refine bodyPost_ret (v := .tuple #[.string ((⟨#[104, 116, 116, 112, 58, 47, 47]⟩ : ByteArray) ++ strB hh0 ++ OO ++ QB), .int .i64 0]) (by simp [results, Tryz.results9, go_sem]) rfl ⟨by rw [HX.out] <;> rfl, hb6⟩

set_option maxRecDepth 100000 in
set_option maxHeartbeats 4000000 in
theorem normal_C1 (s1 s2 : ByteArray) (h1 t1 : List UInt8) (w : World) (_ : s1.size ≤ 100000) (z2 : s2.size ≤ 100000) (h7 : 7 ≤ s2.size) (hB : lowL (s2.data.toList.take 7) = htpL) (hs1 : (s2.data.toList.drop 7).takeWhile endB = h1) (hs2 : (s2.data.toList.drop 7).dropWhile endB = t1) (hh : hostL h1 = none) :
    Calls Tryz.prog 9 #[.string s1, .string s2] w (errPost none w) := by
  have hA : decide (7 ≤ (s2.size : Int)) = true := decide_eq_true (by omega)
  have hA2 : (7 : Int) ≤ (s2.size : Int) := by omega
  have z7 : (s2.extract 0 7).size ≤ maxLen := by rw [Lib.size_eq, extract_take, List.length_take]; unfold maxLen; omega
  have cL := fun W => lower_any (s2.extract 0 7) W z7
  rw [extract_take] at cL
  have hB1 : ((⟨(lowL (s2.data.toList.take 7)).toArray⟩ : ByteArray)).toList = [104, 116, 116, 112, 58, 47, 47] := by
    rw [Lib.toList_data]
    exact hB
  clear hB
  generalize (⟨(lowL (s2.data.toList.take 7)).toArray⟩ : ByteArray) = LL at *
  have zd : (s2.extract 7 s2.size).size ≤ 100000 := by rw [Lib.size_eq, Lib.extract_to_end, List.length_drop, ← Lib.size_eq]; omega
  have cA := fun W => splitEnd_any (s2.extract 7 s2.size) W zd
  rw [Lib.extract_to_end, spaV] at cA
  have zH : (strB ((s2.data.toList.drop 7).takeWhile endB)).size ≤ 100000 := by
    rw [strB_size]
    have := takeWhile_len_le endB (s2.data.toList.drop 7)
    rw [List.length_drop, ← Lib.size_eq] at this
    omega
  have zT : (strB ((s2.data.toList.drop 7).dropWhile endB)).size ≤ 100000 := by
    rw [strB_size]
    have := dropWhile_len endB (s2.data.toList.drop 7)
    rw [List.length_drop, ← Lib.size_eq] at this
    omega
  have eH : (strB ((s2.data.toList.drop 7).takeWhile endB)).data.toList = h1 := by rw [strB_data, ← hs1]
  have eT : (strB ((s2.data.toList.drop 7).dropWhile endB)).data.toList = t1 := by rw [strB_data, ← hs2]
  generalize strB ((s2.data.toList.drop 7).takeWhile endB) = SH at *
  generalize strB ((s2.data.toList.drop 7).dropWhile endB) = ST at *
  have cH := fun W => host_any SH W zH
  rw [eH, hh] at cH
  clear hh eH eT
  go_enter Tryz.func9, Tryz.ntmps9
  go_wp2_with fail
  refine (cL _).mono ?_
  rintro e wa ⟨rfl, hba⟩
  go_wp2_with fail
  refine (cA _).mono ?_
  rintro e wb ⟨rfl, hbb⟩
  have hbab := hba.trans (hbb.mono hba.size)
  clear hba hbb
  go_wp2_with fail
  refine (cH _).mono ?_
  rintro e wc ⟨rfl, hbc⟩
  unfold errV
  go_wp2_with fail
  exact bodyPost_ret (v := .tuple #[.string ⟨#[]⟩, .int .i64 2]) (by simp [results, Tryz.results9, go_sem]) rfl ⟨rfl, hbab.trans (hbc.mono hbab.size)⟩

set_option maxRecDepth 100000 in
set_option maxHeartbeats 4000000 in
theorem normal_C2 (s1 s2 : ByteArray) (h1 t1 : List UInt8) (w : World) (_ : s1.size ≤ 100000) (z2 : s2.size ≤ 100000) (h7 : 7 ≤ s2.size) (hB : lowL (s2.data.toList.take 7) = htpL) (hs1 : (s2.data.toList.drop 7).takeWhile endB = h1) (hs2 : (s2.data.toList.drop 7).dropWhile endB = t1) (hh0 : List UInt8) (hh : hostL h1 = some hh0) (ht : t1.takeWhile endB ≠ []) :
    Calls Tryz.prog 9 #[.string s1, .string s2] w (errPost none w) := by
  have hA : decide (7 ≤ (s2.size : Int)) = true := decide_eq_true (by omega)
  have hA2 : (7 : Int) ≤ (s2.size : Int) := by omega
  have z7 : (s2.extract 0 7).size ≤ maxLen := by rw [Lib.size_eq, extract_take, List.length_take]; unfold maxLen; omega
  have cL := fun W => lower_any (s2.extract 0 7) W z7
  rw [extract_take] at cL
  have hB1 : ((⟨(lowL (s2.data.toList.take 7)).toArray⟩ : ByteArray)).toList = [104, 116, 116, 112, 58, 47, 47] := by
    rw [Lib.toList_data]
    exact hB
  clear hB
  generalize (⟨(lowL (s2.data.toList.take 7)).toArray⟩ : ByteArray) = LL at *
  have zd : (s2.extract 7 s2.size).size ≤ 100000 := by rw [Lib.size_eq, Lib.extract_to_end, List.length_drop, ← Lib.size_eq]; omega
  have cA := fun W => splitEnd_any (s2.extract 7 s2.size) W zd
  rw [Lib.extract_to_end, spaV] at cA
  have zH : (strB ((s2.data.toList.drop 7).takeWhile endB)).size ≤ 100000 := by
    rw [strB_size]
    have := takeWhile_len_le endB (s2.data.toList.drop 7)
    rw [List.length_drop, ← Lib.size_eq] at this
    omega
  have zT : (strB ((s2.data.toList.drop 7).dropWhile endB)).size ≤ 100000 := by
    rw [strB_size]
    have := dropWhile_len endB (s2.data.toList.drop 7)
    rw [List.length_drop, ← Lib.size_eq] at this
    omega
  have eH : (strB ((s2.data.toList.drop 7).takeWhile endB)).data.toList = h1 := by rw [strB_data, ← hs1]
  have eT : (strB ((s2.data.toList.drop 7).dropWhile endB)).data.toList = t1 := by rw [strB_data, ← hs2]
  generalize strB ((s2.data.toList.drop 7).takeWhile endB) = SH at *
  generalize strB ((s2.data.toList.drop 7).dropWhile endB) = ST at *
  have cH := fun W => host_any SH W zH
  rw [eH, hh] at cH
  have cE := fun W => splitEnd_any ST W zT
  rw [eT, spaV] at cE
  have hE1 : (strB (t1.takeWhile endB)).toList.isEmpty = false := by
    rw [strB_toList]
    cases hq : t1.takeWhile endB with
    | nil => exact absurd hq ht
    | cons a b => rfl
  clear hh ht eH eT
  generalize strB (t1.takeWhile endB) = EA at *
  generalize strB (t1.dropWhile endB) = EB at *
  go_enter Tryz.func9, Tryz.ntmps9
  go_wp2_with fail
  refine (cL _).mono ?_
  rintro e wa ⟨rfl, hba⟩
  go_wp2_with fail
  refine (cA _).mono ?_
  rintro e wb ⟨rfl, hbb⟩
  have hbab := hba.trans (hbb.mono hba.size)
  clear hba hbb
  go_wp2_with fail
  refine (cH _).mono ?_
  rintro e wc ⟨rfl, hbc⟩
  have hb1 := hbab.trans (hbc.mono hbab.size)
  unfold errV
  go_wp2_with fail
  refine (cE _).mono ?_
  rintro e wd ⟨rfl, hbd⟩
  go_wp2_with fail
  exact bodyPost_ret (v := .tuple #[.string ⟨#[]⟩, .int .i64 2]) (by simp [results, Tryz.results9, go_sem]) rfl ⟨rfl, hb1.trans (hbd.mono hb1.size)⟩

set_option maxRecDepth 100000 in
set_option maxHeartbeats 4000000 in
theorem normal_C3 (s1 s2 : ByteArray) (h1 t1 : List UInt8) (w : World) (_ : s1.size ≤ 100000) (z2 : s2.size ≤ 100000) (h7 : 7 ≤ s2.size) (hB : lowL (s2.data.toList.take 7) = htpL) (hs1 : (s2.data.toList.drop 7).takeWhile endB = h1) (hs2 : (s2.data.toList.drop 7).dropWhile endB = t1) (hh0 : List UInt8) (hh : hostL h1 = some hh0) (ht : t1.takeWhile endB = []) (hp : pctL t1 = none) (hE : Errs w) :
    Calls Tryz.prog 9 #[.string s1, .string s2] w (errPost none w) := by
  have hA : decide (7 ≤ (s2.size : Int)) = true := decide_eq_true (by omega)
  have hA2 : (7 : Int) ≤ (s2.size : Int) := by omega
  have z7 : (s2.extract 0 7).size ≤ maxLen := by rw [Lib.size_eq, extract_take, List.length_take]; unfold maxLen; omega
  have cL := fun W => lower_any (s2.extract 0 7) W z7
  rw [extract_take] at cL
  have hB1 : ((⟨(lowL (s2.data.toList.take 7)).toArray⟩ : ByteArray)).toList = [104, 116, 116, 112, 58, 47, 47] := by
    rw [Lib.toList_data]
    exact hB
  clear hB
  generalize (⟨(lowL (s2.data.toList.take 7)).toArray⟩ : ByteArray) = LL at *
  have zd : (s2.extract 7 s2.size).size ≤ 100000 := by rw [Lib.size_eq, Lib.extract_to_end, List.length_drop, ← Lib.size_eq]; omega
  have cA := fun W => splitEnd_any (s2.extract 7 s2.size) W zd
  rw [Lib.extract_to_end, spaV] at cA
  have zH : (strB ((s2.data.toList.drop 7).takeWhile endB)).size ≤ 100000 := by
    rw [strB_size]
    have := takeWhile_len_le endB (s2.data.toList.drop 7)
    rw [List.length_drop, ← Lib.size_eq] at this
    omega
  have zT : (strB ((s2.data.toList.drop 7).dropWhile endB)).size ≤ 100000 := by
    rw [strB_size]
    have := dropWhile_len endB (s2.data.toList.drop 7)
    rw [List.length_drop, ← Lib.size_eq] at this
    omega
  have eH : (strB ((s2.data.toList.drop 7).takeWhile endB)).data.toList = h1 := by rw [strB_data, ← hs1]
  have eT : (strB ((s2.data.toList.drop 7).dropWhile endB)).data.toList = t1 := by rw [strB_data, ← hs2]
  generalize strB ((s2.data.toList.drop 7).takeWhile endB) = SH at *
  generalize strB ((s2.data.toList.drop 7).dropWhile endB) = ST at *
  have cH := fun W => host_any SH W zH
  rw [eH, hh] at cH
  have cE := fun W => splitEnd_any ST W zT
  rw [eT, spaV] at cE
  have cP := fun W hEW => percent_any ST W zT hEW
  rw [eT, hp] at cP
  have hE1 : (strB (t1.takeWhile endB)).toList.isEmpty = true := by rw [strB_toList, ht]; rfl
  have HE := Lib.hid hE
  clear hh ht hp hE eH eT
  generalize strB (t1.takeWhile endB) = EA at *
  generalize strB (t1.dropWhile endB) = EB at *
  go_enter Tryz.func9, Tryz.ntmps9
  go_wp2_with fail
  refine (cL _).mono ?_
  rintro e wa ⟨rfl, hba⟩
  go_wp2_with fail
  refine (cA _).mono ?_
  rintro e wb ⟨rfl, hbb⟩
  have hbab := hba.trans (hbb.mono hba.size)
  clear hba hbb
  go_wp2_with fail
  refine (cH _).mono ?_
  rintro e wc ⟨rfl, hbc⟩
  have hb1 := hbab.trans (hbc.mono hbab.size)
  unfold errV
  go_wp2_with fail
  refine (cE _).mono ?_
  rintro e wd ⟨rfl, hbd⟩
  have hb2 := hb1.trans (hbd.mono hb1.size)
  go_wp2_with fail
  refine (cP _ (HE.out.below hb2)).mono ?_
  rintro e we ⟨rfl, hbe⟩
  unfold errV
  go_wp2_with fail
  exact bodyPost_ret (v := .tuple #[.string ⟨#[]⟩, .int .i64 2]) (by simp [results, Tryz.results9, go_sem]) rfl ⟨rfl, hb2.trans (hbe.mono hb2.size)⟩

set_option maxRecDepth 100000 in
set_option maxHeartbeats 4000000 in
theorem normal_C4 (s1 s2 : ByteArray) (h1 t1 : List UInt8) (w : World) (_ : s1.size ≤ 100000) (z2 : s2.size ≤ 100000) (h7 : 7 ≤ s2.size) (hB : lowL (s2.data.toList.take 7) = htpL) (hs1 : (s2.data.toList.drop 7).takeWhile endB = h1) (hs2 : (s2.data.toList.drop 7).dropWhile endB = t1) (hh0 p0 : List UInt8) (hh : hostL h1 = some hh0) (ht : t1.takeWhile endB = []) (hp : pctL t1 = some p0) (hE : Errs w) :
    Calls Tryz.prog 9 #[.string s1, .string s2] w (errPost (some (htpL ++ hh0 ++ pthN p0 ++ p0.dropWhile queB)) w) := by
  have hA : decide (7 ≤ (s2.size : Int)) = true := decide_eq_true (by omega)
  have hA2 : (7 : Int) ≤ (s2.size : Int) := by omega
  have z7 : (s2.extract 0 7).size ≤ maxLen := by rw [Lib.size_eq, extract_take, List.length_take]; unfold maxLen; omega
  have cL := fun W => lower_any (s2.extract 0 7) W z7
  rw [extract_take] at cL
  have hB1 : ((⟨(lowL (s2.data.toList.take 7)).toArray⟩ : ByteArray)).toList = [104, 116, 116, 112, 58, 47, 47] := by
    rw [Lib.toList_data]
    exact hB
  clear hB
  generalize (⟨(lowL (s2.data.toList.take 7)).toArray⟩ : ByteArray) = LL at *
  have zd : (s2.extract 7 s2.size).size ≤ 100000 := by rw [Lib.size_eq, Lib.extract_to_end, List.length_drop, ← Lib.size_eq]; omega
  have cA := fun W => splitEnd_any (s2.extract 7 s2.size) W zd
  rw [Lib.extract_to_end, spaV] at cA
  have zH : (strB ((s2.data.toList.drop 7).takeWhile endB)).size ≤ 100000 := by
    rw [strB_size]
    have := takeWhile_len_le endB (s2.data.toList.drop 7)
    rw [List.length_drop, ← Lib.size_eq] at this
    omega
  have zT : (strB ((s2.data.toList.drop 7).dropWhile endB)).size ≤ 100000 := by
    rw [strB_size]
    have := dropWhile_len endB (s2.data.toList.drop 7)
    rw [List.length_drop, ← Lib.size_eq] at this
    omega
  have eH : (strB ((s2.data.toList.drop 7).takeWhile endB)).data.toList = h1 := by rw [strB_data, ← hs1]
  have eT : (strB ((s2.data.toList.drop 7).dropWhile endB)).data.toList = t1 := by rw [strB_data, ← hs2]
  generalize strB ((s2.data.toList.drop 7).takeWhile endB) = SH at *
  generalize strB ((s2.data.toList.drop 7).dropWhile endB) = ST at *
  have cH := fun W => host_any SH W zH
  rw [eH, hh] at cH
  have cE := fun W => splitEnd_any ST W zT
  rw [eT, spaV] at cE
  have cP := fun W hEW => percent_any ST W zT hEW
  rw [eT, hp] at cP
  have hE1 : (strB (t1.takeWhile endB)).toList.isEmpty = true := by rw [strB_toList, ht]; rfl
  have HE := Lib.hid hE
  have hhl := host_len hh
  have hpl := (pct_stays _ t1 p0 (Nat.le_refl _) hp).2
  have ezH : h1.length ≤ 100000 := by rw [← eH, ← Lib.size_eq]; exact zH
  have ezT : t1.length ≤ 100000 := by rw [← eT, ← Lib.size_eq]; exact zT
  have q1 := takeWhile_len_le queB p0
  have q2 := dropWhile_len queB p0
  have zP : (strB p0).size ≤ 100000 := by rw [strB_size]; omega
  have zW : (strB (p0.takeWhile queB)).size ≤ 100000 := by rw [strB_size]; omega
  have cQ := fun W => splitQue_any (strB p0) W zP
  rw [strB_data, spaV] at cQ
  have cD := fun W => dots_any (strB (p0.takeWhile queB)) W zW
  rw [strB_data] at cD
  have hdl := dots_len (p0.takeWhile queB)
  have hol : (pthN p0).length ≤ 100001 := by
    rw [pthN]
    split
    · simp
    · omega
  have cO := fun b W a0 a1 => or_any b (dotsL (p0.takeWhile queB)) W a0 a1
  rw [show (if dotsL (p0.takeWhile queB) = [] then [47] else dotsL (p0.takeWhile queB)) = pthN p0 from rfl] at cO
  have HX : Hid ((⟨#[104, 116, 116, 112, 58, 47, 47]⟩ : ByteArray) ++ strB hh0 ++ strB (pthN p0) ++ strB (p0.dropWhile queB) = strB (htpL ++ hh0 ++ pthN p0 ++ p0.dropWhile queB)) := Lib.hid (by
    rw [show (⟨#[104, 116, 116, 112, 58, 47, 47]⟩ : ByteArray) = strB htpL from rfl, strB_append, strB_append, strB_append])
  have y1 : (strB hh0).size ≤ 100000 := by rw [strB_size]; omega
  have y2 : (strB (pthN p0)).size ≤ 100001 := by rw [strB_size]; exact hol
  have y3 : (strB (p0.dropWhile queB)).size ≤ 100000 := by rw [strB_size]; omega
  clear hh ht hp hE hhl hpl ezH ezT q1 q2 hdl hol eH eT
  generalize strB (t1.takeWhile endB) = EA at *
  generalize strB (t1.dropWhile endB) = EB at *
  generalize dotsL (p0.takeWhile queB) = dd at *
  generalize strB (p0.takeWhile queB) = QA at *
  generalize htpL ++ hh0 ++ pthN p0 ++ p0.dropWhile queB = OUT at *
  generalize strB (p0.dropWhile queB) = QB at *
  generalize strB (pthN p0) = OO at *
  obtain ⟨DD, hDD⟩ : ∃ DD, strB dd = DD := ⟨_, rfl⟩
  unfold dtsPost at cD
  rw [hDD] at cD cO
  clear hDD
  go_enter Tryz.func9, Tryz.ntmps9
  go_wp2_with fail
  refine (cL _).mono ?_
  rintro e wa ⟨rfl, hba⟩
  go_wp2_with fail
  refine (cA _).mono ?_
  rintro e wb ⟨rfl, hbb⟩
  have hbab := hba.trans (hbb.mono hba.size)
  clear hba hbb
  go_wp2_with fail
  refine (cH _).mono ?_
  rintro e wc ⟨rfl, hbc⟩
  have hb1 := hbab.trans (hbc.mono hbab.size)
  unfold errV
  go_wp2_with fail
  refine (cE _).mono ?_
  rintro e wd ⟨rfl, hbd⟩
  have hb2 := hb1.trans (hbd.mono hb1.size)
  go_wp2_with fail
  refine (cP _ (HE.out.below hb2)).mono ?_
  rintro e we ⟨rfl, hbe⟩
  have hb3 := hb2.trans (hbe.mono hb2.size)
  unfold errV
  go_wp2_with fail
  refine (cQ _).mono ?_
  rintro e wf ⟨rfl, hbf⟩
  have hb4 := hb3.trans (hbf.mono hb3.size)
  clear hbc hbd hbe hbf
  go_wp2_with fail
  refine (cD _).mono ?_
  rintro e wg ⟨rfl, hbg⟩
  have hb5 := hb4.trans (hbg.mono hb4.size)
  have hb6 := hb5.alloc hb5.size (.cells #[.string DD, .string ⟨#[47]⟩] 9)
  have a0 : (wg.alloc (.cells #[.string DD, .string ⟨#[47]⟩] 9)).cell? ⟨wg.heap.size, 0, none⟩ = some (.string DD) := by simp
  have a1 : (wg.alloc (.cells #[.string DD, .string ⟨#[47]⟩] 9)).cell? ⟨wg.heap.size, 1, none⟩ = some (.string ⟨#[47]⟩) := by simp
  clear hbg hb1 hb2 hb3 hb4
  go_wp2_with fail
  refine (cO _ _ a0 a1).mono ?_
  rintro e wh ⟨rfl, rfl⟩
  go_wp2_with fail
  refine bodyPost_ret (v := .tuple #[.string ((⟨#[104, 116, 116, 112, 58, 47, 47]⟩ : ByteArray) ++ strB hh0 ++ OO ++ QB), .int .i64 0]) (by simp [results, Tryz.results9, go_sem]) rfl ⟨by rw [HX.out] <;> rfl, hb6⟩

/-- How normal goes on, told by its host and target that count. -/
theorem normal_any (s1 s2 : ByteArray) (w : World) (z1 : s1.size ≤ 100000) (z2 : s2.size ≤ 100000) (hE : Errs w) :
    Calls Tryz.prog 9 #[.string s1, .string s2] w (errPost (normL s1.data.toList s2.data.toList) w) := by
  have hend : ∀ t : List UInt8, (t.takeWhile endB = [] ↔ ¬ (t ≠ [] ∧ t.head? ≠ some 47 ∧ t.head? ≠ some 63)) := by
    intro t
    cases t with
    | nil => simp
    | cons c r =>
      rw [List.takeWhile_cons]
      by_cases h1 : c = 47
      · subst h1; simp [endB]
      · by_cases h2 : c = 63
        · subst h2; simp [endB]
        · have he : endB c = true := by simp [endB, h1, h2]
          rw [if_pos he]
          simp [h1, h2]
  unfold normL
  by_cases h7 : 7 ≤ s2.size
  · by_cases hB : lowL (s2.data.toList.take 7) = htpL
    · have hs : splN s1.data.toList s2.data.toList = ((s2.data.toList.drop 7).takeWhile endB, (s2.data.toList.drop 7).dropWhile endB) := by
        rw [splN, if_pos ⟨by rw [← Lib.size_eq]; exact h7, hB⟩]
      rw [hs]
      dsimp only
      cases hh : hostL ((s2.data.toList.drop 7).takeWhile endB) with
      | none => exact normal_C1 s1 s2 _ _ w z1 z2 h7 hB rfl rfl hh
      | some h0 =>
        by_cases ht : ((s2.data.toList.drop 7).dropWhile endB).takeWhile endB = []
        · cases hp : pctL ((s2.data.toList.drop 7).dropWhile endB) with
          | none => exact normal_C3 s1 s2 _ _ w z1 z2 h7 hB rfl rfl h0 hh ht hp hE
          | some p0 =>
            dsimp only
            rw [if_neg ((hend _).1 ht)]
            exact normal_C4 s1 s2 _ _ w z1 z2 h7 hB rfl rfl h0 p0 hh ht hp hE
        · have := normal_C2 s1 s2 _ _ w z1 z2 h7 hB rfl rfl h0 hh ht
          cases hp : pctL ((s2.data.toList.drop 7).dropWhile endB) with
          | none => exact this
          | some p0 =>
            dsimp only
            rw [if_pos (Decidable.not_not.1 (fun h => ht ((hend _).2 h)))]
            exact this
    · have hs : splN s1.data.toList s2.data.toList = (s1.data.toList, s2.data.toList) := by
        rw [splN, if_neg (fun h => hB h.2)]
      rw [hs]
      dsimp only
      cases hh : hostL s1.data.toList with
      | none => exact normal_B1 s1 s2 _ _ w z1 z2 h7 hB rfl rfl hh
      | some h0 =>
        by_cases ht : s2.data.toList.takeWhile endB = []
        · cases hp : pctL s2.data.toList with
          | none => exact normal_B3 s1 s2 _ _ w z1 z2 h7 hB rfl rfl h0 hh ht hp hE
          | some p0 =>
            dsimp only
            rw [if_neg ((hend _).1 ht)]
            exact normal_B4 s1 s2 _ _ w z1 z2 h7 hB rfl rfl h0 p0 hh ht hp hE
        · have := normal_B2 s1 s2 _ _ w z1 z2 h7 hB rfl rfl h0 hh ht
          cases hp : pctL s2.data.toList with
          | none => exact this
          | some p0 =>
            dsimp only
            rw [if_pos (Decidable.not_not.1 (fun h => ht ((hend _).2 h)))]
            exact this
  · have hA : decide (7 ≤ (s2.size : Int)) = false := decide_eq_false (by omega)
    have hs : splN s1.data.toList s2.data.toList = (s1.data.toList, s2.data.toList) := by
      rw [splN, if_neg (fun h => h7 (by rw [Lib.size_eq]; exact h.1))]
    rw [hs]
    dsimp only
    cases hh : hostL s1.data.toList with
    | none => exact normal_A1 s1 s2 _ _ w z1 z2 hA rfl rfl hh
    | some h0 =>
      by_cases ht : s2.data.toList.takeWhile endB = []
      · cases hp : pctL s2.data.toList with
        | none => exact normal_A3 s1 s2 _ _ w z1 z2 hA rfl rfl h0 hh ht hp hE
        | some p0 =>
          dsimp only
          rw [if_neg ((hend _).1 ht)]
          exact normal_A4 s1 s2 _ _ w z1 z2 hA rfl rfl h0 p0 hh ht hp hE
      · have := normal_A2 s1 s2 _ _ w z1 z2 hA rfl rfl h0 hh ht
        cases hp : pctL s2.data.toList with
        | none => exact this
        | some p0 =>
          dsimp only
          rw [if_pos (Decidable.not_not.1 (fun h => ht ((hend _).2 h)))]
          exact this

end Go.Proofs.YtbbdifcmhoobaaaGreatDoor
