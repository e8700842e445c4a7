/- The contracts of chunk.firstLine, isExtension, sizeOf, readLine, dataOf. -/
import Derived.Test.YtfhpgobdnhlpcaaDoorChB
import Derived.Test.YtfhpgobdnhlpcaaDoorChI
import Derived.Test.YtfhpgobdnhlpcaaDoorHdE
import Derived.Deep.DeepCutAuto
namespace Go.Proofs.YtfhpgobdnhlpcaaDoor
open Go.RowKit Go.Shelf Go.Lib

set_option maxHeartbeats 2000000 in
theorem cfirst_any (s : ByteArray) (w : World) (hs : s.size ≤ 100000) :
    Calls Tryd.prog 62 #[.string s] w fun e w' => e = .returned (lineV (lineL s.data.toList)) ∧ Below w.heap.size w w' := by
  have cC := cut_any s 10 w hs
  have hsz := Lib.size_eq s
  unfold cutV at cC
  by_cases h : Lib.indexByte s.data.toList 10 = -1
  · rw [if_pos h] at cC
    have cS := fun W => Tryd.strings_CutSuffix (strB s.data.toList) ⟨#[13]⟩ W (by rw [strB_size, ← hsz]; omega)
    have HL : Hid (lineL s.data.toList = ([], if 2002 < s.size then 4 else 3)) := Lib.hid (by rw [lineL, if_pos h, hsz])
    generalize Lib.hasSuffix (strB s.data.toList).data.toList (⟨#[13]⟩ : ByteArray).data.toList = b at *
    generalize (⟨(Lib.trimSuffix (strB s.data.toList).data.toList (⟨#[13]⟩ : ByteArray).data.toList).toArray⟩ : ByteArray) = T at *
    clear h hsz
    generalize strB s.data.toList = B at *
    by_cases h2 : 2002 < s.size
    · rw [if_pos h2] at HL
      have d : (2002 : Int) < (s.size : Int) := by omega
      clear h2
      go_enter Tryd.func62, Tryd.ntmps62
      go_wp2_with fail
      refine cC.mono ?_
      rintro e w1 ⟨rfl, hb1⟩
      go_wp2_with fail
      refine (cS _).mono ?_
      rintro e w2 ⟨rfl, rfl⟩
      go_wp2_with fail
      refine bodyPost_ret (v := .tuple #[.string ⟨#[]⟩, .int .i64 4]) (by simp [results, Tryd.results62, go_sem]) rfl ⟨?_, hb1⟩
      rw [HL.out]
      rfl
    · rw [if_neg h2] at HL
      have d : ¬ (2002 : Int) < (s.size : Int) := by omega
      clear h2
      go_enter Tryd.func62, Tryd.ntmps62
      go_wp2_with fail
      refine cC.mono ?_
      rintro e w1 ⟨rfl, hb1⟩
      go_wp2_with fail
      refine (cS _).mono ?_
      rintro e w2 ⟨rfl, rfl⟩
      go_wp2_with fail
      refine bodyPost_ret (v := .tuple #[.string ⟨#[]⟩, .int .i64 3]) (by simp [results, Tryd.results62, go_sem]) rfl ⟨?_, hb1⟩
      rw [HL.out]
      rfl
  · rw [if_neg h] at cC
    obtain ⟨k, hk⟩ : ∃ k, (Lib.indexByte s.data.toList 10).toNat = k := ⟨_, rfl⟩
    rw [hk] at cC
    have cS := fun W => Tryd.strings_CutSuffix (strB (s.data.toList.take k)) ⟨#[13]⟩ W (by rw [strB_size, List.length_take]; omega)
    rw [strB_data, show (⟨#[13]⟩ : ByteArray).data.toList = [13] from rfl] at cS
    have hL : lineL s.data.toList = (if Lib.hasSuffix (s.data.toList.take k) [13] = false then ([], 2) else if 2000 < (Lib.trimSuffix (s.data.toList.take k) [13]).length then ([], 4) else (Lib.trimSuffix (s.data.toList.take k) [13], 0)) := by rw [lineL, if_neg h, hk]
    obtain ⟨b, hb⟩ : ∃ b, Lib.hasSuffix (s.data.toList.take k) [13] = b := ⟨_, rfl⟩
    obtain ⟨t, ht⟩ : ∃ t, Lib.trimSuffix (s.data.toList.take k) [13] = t := ⟨_, rfl⟩
    rw [hb, ht] at cS hL
    have HL := Lib.hid hL
    generalize strB (s.data.toList.take k) = B at *
    generalize strB (s.data.toList.drop (k + 1)) = D at *
    clear h hk hb ht hL hsz
    cases b
    · rw [if_pos rfl] at HL
      go_enter Tryd.func62, Tryd.ntmps62
      go_wp2_with fail
      refine cC.mono ?_
      rintro e w1 ⟨rfl, hb1⟩
      go_wp2_with fail
      refine (cS _).mono ?_
      rintro e w2 ⟨rfl, rfl⟩
      go_wp2_with fail
      refine bodyPost_ret (v := .tuple #[.string ⟨#[]⟩, .int .i64 2]) (by simp [results, Tryd.results62, go_sem]) rfl ⟨?_, hb1⟩
      rw [HL.out]
      rfl
    · rw [if_neg (by decide)] at HL
      by_cases hl : 2000 < t.length
      · rw [if_pos hl] at HL
        have d : (2000 : Int) < ((⟨t.toArray⟩ : ByteArray).size : Int) := by rw [Lib.size_eq]; simp; omega
        go_enter Tryd.func62, Tryd.ntmps62
        go_wp2_with fail
        refine cC.mono ?_
        rintro e w1 ⟨rfl, hb1⟩
        go_wp2_with fail
        refine (cS _).mono ?_
        rintro e w2 ⟨rfl, rfl⟩
        generalize (⟨t.toArray⟩ : ByteArray) = T at *
        go_wp2_with fail
        refine bodyPost_ret (v := .tuple #[.string ⟨#[]⟩, .int .i64 4]) (by simp [results, Tryd.results62, go_sem]) rfl ⟨?_, hb1⟩
        rw [HL.out]
        rfl
      · rw [if_neg hl] at HL
        have d : ¬ (2000 : Int) < ((⟨t.toArray⟩ : ByteArray).size : Int) := by rw [Lib.size_eq]; simp; omega
        have HT : Hid (strB t = (⟨t.toArray⟩ : ByteArray)) := Lib.hid rfl
        go_enter Tryd.func62, Tryd.ntmps62
        go_wp2_with fail
        refine cC.mono ?_
        rintro e w1 ⟨rfl, hb1⟩
        go_wp2_with fail
        refine (cS _).mono ?_
        rintro e w2 ⟨rfl, rfl⟩
        generalize (⟨t.toArray⟩ : ByteArray) = T at *
        go_wp2_with fail
        refine bodyPost_ret (v := .tuple #[.string T, .int .i64 0]) (by simp [results, Tryd.results62, go_sem]) rfl ⟨?_, hb1⟩
        rw [HL.out, lineV, HT.out]

/-- Whether this may stand behind the digits of a line. -/
def extL (r : List UInt8) : Bool := r.isEmpty || (Lib.hasPrefix (trimL r) [59] && txtL (trimL (Lib.trimPrefix (trimL r) [59])))

theorem trimPre_le (l p : List UInt8) : (Lib.trimPrefix l p).length ≤ l.length := by
  unfold Lib.trimPrefix
  split
  · rw [List.length_drop]; omega
  · exact Nat.le_refl _

set_option maxHeartbeats 2000000 in
theorem isExt_any (s : ByteArray) (w : World) (hs : s.size ≤ 100000) (hT : Tabs w) :
    Calls Tryd.prog 78 #[.string s] w fun e w' => e = .returned (.bool (extL s.data.toList)) ∧ Below w.heap.size w w' := by
  have cM := trim_any s w (by unfold maxLen; omega) hT
  have hl1 := trimL_le s.data.toList
  have hz : s.data.toList.length = s.size := (Lib.size_eq s).symm
  have hl2 := trimPre_le (trimL s.data.toList) [59]
  have hl3 := trimL_le (Lib.trimPrefix (trimL s.data.toList) [59])
  have cP := fun W => Tryd.strings_CutPrefix (strB (trimL s.data.toList)) ⟨#[59]⟩ W
  rw [strB_data, show (⟨#[59]⟩ : ByteArray).data.toList = [59] from rfl] at cP
  have cM2 := fun W h => trim_any (strB (Lib.trimPrefix (trimL s.data.toList) [59])) W (by unfold maxLen; rw [strB_size]; omega) h
  have cX := fun W h => text_any (strB (trimL (Lib.trimPrefix (trimL s.data.toList) [59]))) W (by unfold maxLen; rw [strB_size]; omega) h
  rw [strB_data] at cM2 cX
  rw [show (⟨(trimL s.data.toList).toArray⟩ : ByteArray) = strB (trimL s.data.toList) from rfl] at cM
  have hE : extL s.data.toList = (s.data.toList.isEmpty || (Lib.hasPrefix (trimL s.data.toList) [59] && txtL (trimL (Lib.trimPrefix (trimL s.data.toList) [59])))) := rfl
  have hem : s.toList.isEmpty = s.data.toList.isEmpty := by rw [Lib.toList_data]
  have HT := Lib.hid hT
  rw [hE]
  generalize s.data.toList.isEmpty = em at *
  generalize Lib.hasPrefix (trimL s.data.toList) [59] = pf at *
  generalize txtL (trimL (Lib.trimPrefix (trimL s.data.toList) [59])) = tx at *
  change ∀ W h, Calls _ _ _ W fun e w' => e = .returned (.string (strB (trimL (Lib.trimPrefix (trimL s.data.toList) [59])))) ∧ _ at cM2
  generalize strB (trimL (Lib.trimPrefix (trimL s.data.toList) [59])) = S2 at *
  rw [show (⟨(Lib.trimPrefix (trimL s.data.toList) [59]).toArray⟩ : ByteArray) = strB (Lib.trimPrefix (trimL s.data.toList) [59]) from rfl] at cP
  generalize strB (Lib.trimPrefix (trimL s.data.toList) [59]) = S1 at *
  generalize strB (trimL s.data.toList) = S0 at *
  clear hE hl1 hl2 hl3 hz hT
  cases em
  · cases pf
    · go_enter Tryd.func78, Tryd.ntmps78
      go_wp2_with fail
      refine cM.mono ?_
      rintro e w1 ⟨rfl, hb1⟩
      go_wp2_with fail
      refine (cP _).mono ?_
      rintro e w2 ⟨rfl, rfl⟩
      go_wp2_with fail
      go_ret
      exact ⟨rfl, hb1⟩
    · go_enter Tryd.func78, Tryd.ntmps78
      go_wp2_with fail
      refine cM.mono ?_
      rintro e w1 ⟨rfl, hb1⟩
      go_wp2_with fail
      refine (cP _).mono ?_
      rintro e w2 ⟨rfl, rfl⟩
      have HB := Lib.hid hb1
      clear hb1
      go_wp2_with fail
      refine (cM2 _ (Utf8Tabs_below HT.out HB.out)).mono ?_
      rintro e w3 ⟨rfl, hb3⟩
      have HB3 := Lib.hid (HB.out.trans (hb3.mono HB.out.size))
      clear hb3
      go_wp2_with fail
      refine (cX _ (Utf8Tabs_below HT.out HB3.out)).mono ?_
      rintro e w4 ⟨rfl, hb4⟩
      go_wp2_with fail
      go_ret
      exact ⟨rfl, HB3.out.trans (hb4.mono HB3.out.size)⟩
  · go_enter Tryd.func78, Tryd.ntmps78
    go_wp2_with fail
    refine cM.mono ?_
    rintro e w1 ⟨rfl, hb1⟩
    go_wp2_with fail
    refine (cP _).mono ?_
    rintro e w2 ⟨rfl, rfl⟩
    go_wp2_with fail
    go_ret
    exact ⟨rfl, hb1⟩

end Go.Proofs.YtfhpgobdnhlpcaaDoor
