/- The contracts of chunk.firstLine, isExtension, sizeOf, readLine, dataOf. · The contracts of chunk.sizeOf, readLine, dataOf. · The contracts of strings.Builder's copyCheck and WriteString at this translation (its copyCheck ends in a refused place that no run comes to). · What holds while a body is written into a builder. · The contract of chunk.Decode. · Plain: what a request and a response are that a text begins with, and how they lie in memory. -/
import Derived.Test.YthbfcamfapgodaaGreatDoorGC
import Derived.Test.YthbfcamfapgodaaGreatDoorGD
import Derived.Test.YthbfcamfapgodaaGreatDoorGB
import Derived.Test.YthbfcamfapgodaaGreatDoorG1
import Derived.Test.YthbfcamfapgodaaGreatDoorG2
import Derived.Test.YthbfcamfapgodaaGreatDoorGA
import Derived.Deep.DeepCutAuto
import Derived.Lib.Builder
import Derived.Lib.AppendStr
import Derived.Lib.UnsafeStr
import Derived.Deep.RegionHeld3
import Derived.Deep.RegionWith
import Derived.Deep.AppendLies
import Derived.BigQuiet

namespace Go.Proofs.YthbfcamfapgodaaGreatDoor
open Go.RowKit Go.Shelf Go.Lib

set_option maxHeartbeats 2000000 in
theorem cfirst_any (s : ByteArray) (w : World) (hs : s.size ≤ 100000) :
    Calls Tryz.prog 121 #[.string s] w fun e w' => e = .returned (lineV (lineL s.data.toList)) ∧ Below w.heap.size w w' := by
  have cC := cut_any s 10 w hs
  have hsz := Lib.size_eq s
  unfold cutV at cC
  by_cases h : Lib.indexByte s.data.toList 10 = -1
  · rw [if_pos h] at cC
    have cS := fun W => Tryz.strings_CutSuffix (strB s.data.toList) ⟨#[13]⟩ W (by rewrite [strB_size, ← hsz]; omega)
    have HL : Hid (lineL s.data.toList = ([], if 2002 < s.size then 4 else 3)) := Lib.hid (by rw [lineL, if_pos h, hsz])
    generalize Lib.hasSuffix (strB s.data.toList).data.toList (⟨#[13]⟩ : ByteArray).data.toList = b at *
    generalize (⟨(Lib.trimSuffix (strB s.data.toList).data.toList (⟨#[13]⟩ : ByteArray).data.toList).toArray⟩ : ByteArray) = T at *
    clear h hsz
    generalize strB s.data.toList = B at *
    by_cases h2 : 2002 < s.size
    · rw [if_pos h2] at HL
      have d : (2002 : Int) < (s.size : Int) := by omega
      clear h2
      go_enter Tryz.func121, Tryz.ntmps121
      go_wp2_with fail
      refine cC.mono ?_
      rintro e w1 ⟨rfl, hb1⟩
      go_wp2_with fail
      refine (cS _).mono ?_
      rintro e w2 ⟨rfl, rfl⟩
      go_wp2_with fail
      refine bodyPost_ret (v := .tuple #[.string ⟨#[]⟩, .int .i64 4]) (by simp [results, Tryz.results121, go_sem]) rfl ⟨?_, hb1⟩
      rewrite [HL.out]
      rfl
    · rw [if_neg h2] at HL
      have d : ¬ (2002 : Int) < (s.size : Int) := by omega
      clear h2
      go_enter Tryz.func121, Tryz.ntmps121
      go_wp2_with fail
      refine cC.mono ?_
      rintro e w1 ⟨rfl, hb1⟩
      go_wp2_with fail
      refine (cS _).mono ?_
      rintro e w2 ⟨rfl, rfl⟩
      go_wp2_with fail
      refine bodyPost_ret (v := .tuple #[.string ⟨#[]⟩, .int .i64 3]) (by simp [results, Tryz.results121, go_sem]) rfl ⟨?_, hb1⟩
      rewrite [HL.out]
      rfl
  · rw [if_neg h] at cC
    obtain ⟨k, hk⟩ : ∃ k, (Lib.indexByte s.data.toList 10).toNat = k := ⟨_, rfl⟩
    rw [hk] at cC
    have cS := fun W => Tryz.strings_CutSuffix (strB (s.data.toList.take k)) ⟨#[13]⟩ W (by rewrite [strB_size, List.length_take]; omega)
    rw [strB_data, show (⟨#[13]⟩ : ByteArray).data.toList = [13] from rfl] at cS
    have hL : lineL s.data.toList = (if Lib.hasSuffix (s.data.toList.take k) [13] = false then ([], 2) else if 2000 < (Lib.trimSuffix (s.data.toList.take k) [13]).length then ([], 4) else (Lib.trimSuffix (s.data.toList.take k) [13], 0)) := by rw [lineL, if_neg h, hk]
    obtain ⟨b, hb⟩ : ∃ b, Lib.hasSuffix (s.data.toList.take k) [13] = b := ⟨_, rfl⟩
    obtain ⟨t, ht⟩ : ∃ t, Lib.trimSuffix (s.data.toList.take k) [13] = t := ⟨_, rfl⟩
    rw [hb, ht] at cS hL
    have HL := Lib.hid hL
    generalize strB (s.data.toList.take k) = B at *
    generalize strB (s.data.toList.drop (k + 1)) = D at *
    clear h hk hb ht hL hsz
    cases b
    · rw [if_pos rfl] at HL
      go_enter Tryz.func121, Tryz.ntmps121
      go_wp2_with fail
      refine cC.mono ?_
      rintro e w1 ⟨rfl, hb1⟩
      go_wp2_with fail
      refine (cS _).mono ?_
      rintro e w2 ⟨rfl, rfl⟩
      go_wp2_with fail
      refine bodyPost_ret (v := .tuple #[.string ⟨#[]⟩, .int .i64 2]) (by simp [results, Tryz.results121, go_sem]) rfl ⟨?_, hb1⟩
      rewrite [HL.out]
      rfl
    · rw [if_neg (by decide)] at HL
      by_cases hl : 2000 < t.length
      · rw [if_pos hl] at HL
        have d : (2000 : Int) < ((⟨t.toArray⟩ : ByteArray).size : Int) := by rewrite [Lib.size_eq]; simp; omega
        go_enter Tryz.func121, Tryz.ntmps121
        go_wp2_with fail
        refine cC.mono ?_
        rintro e w1 ⟨rfl, hb1⟩
        go_wp2_with fail
        refine (cS _).mono ?_
        rintro e w2 ⟨rfl, rfl⟩
        generalize (⟨t.toArray⟩ : ByteArray) = T at *
        go_wp2_with fail
        refine bodyPost_ret (v := .tuple #[.string ⟨#[]⟩, .int .i64 4]) (by simp [results, Tryz.results121, go_sem]) rfl ⟨?_, hb1⟩
        rewrite [HL.out]
        rfl
      · rw [if_neg hl] at HL
        have d : ¬ (2000 : Int) < ((⟨t.toArray⟩ : ByteArray).size : Int) := by rewrite [Lib.size_eq]; simp; omega
        have HT : Hid (strB t = (⟨t.toArray⟩ : ByteArray)) := Lib.hid rfl
        go_enter Tryz.func121, Tryz.ntmps121
        go_wp2_with fail
        refine cC.mono ?_
        rintro e w1 ⟨rfl, hb1⟩
        go_wp2_with fail
        refine (cS _).mono ?_
        rintro e w2 ⟨rfl, rfl⟩
        generalize (⟨t.toArray⟩ : ByteArray) = T at *
        go_wp2_with fail
        refine bodyPost_ret (v := .tuple #[.string T, .int .i64 0]) (by simp [results, Tryz.results121, go_sem]) rfl ⟨?_, hb1⟩
        rw [HL.out, lineV, HT.out]

/-- Whether this may stand behind the digits of a line. -/
def extL (r : List UInt8) : Bool := r.isEmpty || (Lib.hasPrefix (trimL r) [59] && txtL (trimL (Lib.trimPrefix (trimL r) [59])))

theorem trimPre_le (l p : List UInt8) : (Lib.trimPrefix l p).length ≤ l.length := by
  unfold Lib.trimPrefix
  split
  · rewrite [List.length_drop]; omega
  · exact Nat.le_refl _

set_option maxHeartbeats 2000000 in
theorem isExt_any (s : ByteArray) (w : World) (hs : s.size ≤ 100000) (hT : Tabs w) :
    Calls Tryz.prog 138 #[.string s] w fun e w' => e = .returned (.bool (extL s.data.toList)) ∧ Below w.heap.size w w' := by
  have cM := trim_any s w (by unfold maxLen; omega) hT
  have hl1 := trimL_le s.data.toList
  have hz : s.data.toList.length = s.size := (Lib.size_eq s).symm
  have hl2 := trimPre_le (trimL s.data.toList) [59]
  have hl3 := trimL_le (Lib.trimPrefix (trimL s.data.toList) [59])
  have cP := fun W => Tryz.strings_CutPrefix (strB (trimL s.data.toList)) ⟨#[59]⟩ W
  rw [strB_data, show (⟨#[59]⟩ : ByteArray).data.toList = [59] from rfl] at cP
  have cM2 := fun W h => trim_any (strB (Lib.trimPrefix (trimL s.data.toList) [59])) W (by unfold maxLen; rewrite [strB_size]; omega) h
  have cX := fun W h => text_any (strB (trimL (Lib.trimPrefix (trimL s.data.toList) [59]))) W (by unfold maxLen; rewrite [strB_size]; omega) h
  rw [strB_data] at cM2 cX
  rw [show (⟨(trimL s.data.toList).toArray⟩ : ByteArray) = strB (trimL s.data.toList) from rfl] at cM
  have hE : extL s.data.toList = (s.data.toList.isEmpty || (Lib.hasPrefix (trimL s.data.toList) [59] && txtL (trimL (Lib.trimPrefix (trimL s.data.toList) [59])))) := rfl
  have hem : s.toList.isEmpty = s.data.toList.isEmpty := by rw [Lib.toList_data]
  have HT := Lib.hid hT
  rewrite [hE]
  generalize s.data.toList.isEmpty = em at *
  generalize Lib.hasPrefix (trimL s.data.toList) [59] = pf at *
  generalize txtL (trimL (Lib.trimPrefix (trimL s.data.toList) [59])) = tx at *
  change ∀ W h, Calls _ _ _ W fun e w' => e = .returned (.string (strB (trimL (Lib.trimPrefix (trimL s.data.toList) [59])))) ∧ _ at cM2
  generalize strB (trimL (Lib.trimPrefix (trimL s.data.toList) [59])) = S2 at *
  rw [show (⟨(Lib.trimPrefix (trimL s.data.toList) [59]).toArray⟩ : ByteArray) = strB (Lib.trimPrefix (trimL s.data.toList) [59]) from rfl] at cP
  generalize strB (Lib.trimPrefix (trimL s.data.toList) [59]) = S1 at *
  generalize strB (trimL s.data.toList) = S0 at *
  clear hE hl1 hl2 hl3 hz hT
  cases em
  · cases pf
    · go_enter Tryz.func138, Tryz.ntmps138
      go_wp2_with fail
      refine cM.mono ?_
      rintro e w1 ⟨rfl, hb1⟩
      go_wp2_with fail
      refine (cP _).mono ?_
      rintro e w2 ⟨rfl, rfl⟩
      go_wp2_with fail
      go_ret
      exact ⟨rfl, hb1⟩
    · go_enter Tryz.func138, Tryz.ntmps138
      go_wp2_with fail
      refine cM.mono ?_
      rintro e w1 ⟨rfl, hb1⟩
      go_wp2_with fail
      refine (cP _).mono ?_
      rintro e w2 ⟨rfl, rfl⟩
      have HB := Lib.hid hb1
      clear hb1
      go_wp2_with fail
      refine (cM2 _ (Utf8Tabs_below HT.out HB.out)).mono ?_
      rintro e w3 ⟨rfl, hb3⟩
      have HB3 := Lib.hid (HB.out.trans (hb3.mono HB.out.size))
      clear hb3
      go_wp2_with fail
      refine (cX _ (Utf8Tabs_below HT.out HB3.out)).mono ?_
      rintro e w4 ⟨rfl, hb4⟩
      go_wp2_with fail
      go_ret
      exact ⟨rfl, HB3.out.trans (hb4.mono HB3.out.size)⟩
  · go_enter Tryz.func138, Tryz.ntmps138
    go_wp2_with fail
    refine cM.mono ?_
    rintro e w1 ⟨rfl, hb1⟩
    go_wp2_with fail
    refine (cP _).mono ?_
    rintro e w2 ⟨rfl, rfl⟩
    go_wp2_with fail
    go_ret
    exact ⟨rfl, hb1⟩

end Go.Proofs.YthbfcamfapgodaaGreatDoor

namespace Go.Proofs.YthbfcamfapgodaaGreatDoor
open Go.RowKit Go.Shelf Go.Lib

/-- The digits with which a line begins, and what stands behind them. -/
def digsL (l : List UInt8) : List UInt8 := if Lib.indexAny l sepL < 0 then l else l.take (Lib.indexAny l sepL).toNat
def restL (l : List UInt8) : List UInt8 := if Lib.indexAny l sepL < 0 then [] else l.drop (Lib.indexAny l sepL).toNat
/-- The size that a line tells, if it is one. -/
def sizeL (l : List UInt8) : Option Nat :=
  if 8 < (digsL l).length then none else match num16 (digsL l) with
    | .ok n => if extL (restL l) then some n else none
    | _ => none
def sizV : Option Nat → Value
  | some n => .tuple #[.int .i64 n, .bool true]
  | none => .tuple #[.int .i64 0, .bool false]
theorem num16_lt (l : List UInt8) (n j : Nat) (h : num16 l = .ok n) (hl : l.length ≤ j) : n < 16 ^ j := by
  unfold num16 at h
  split at h
  · cases h
  · by_cases he : l = []
    · contradiction
    · cases l with
      | nil => contradiction
      | cons c r =>
        have := par16_lt (c :: r) 0 n 0 h (by simp)
        rw [Nat.zero_add] at this
        exact Nat.lt_of_lt_of_le this (Nat.pow_le_pow_right (by omega) hl)
theorem sizeL_lt (l : List UInt8) (n : Nat) (h : sizeL l = some n) : n < 4294967296 := by
  unfold sizeL at h
  split at h
  · cases h
  · rename_i h8
    cases hn : num16 (digsL l) with
    | ok m =>
      rw [hn] at h
      dsimp only at h
      split at h
      · obtain rfl := Option.some.inj h
        have := num16_lt _ _ 8 hn (by omega)
        omega
      · cases h
    | error b => rw [hn] at h; cases h
theorem indexAny_lt (l : List UInt8) (h : ¬ Lib.indexAny l sepL < 0) : (Lib.indexAny l sepL).toNat < l.length := by
  induction l with
  | nil => exact absurd (by decide) h
  | cons c r ih =>
    rw [Lib.indexAny] at h ⊢
    by_cases hc : sepL.contains c = true
    · rewrite [if_pos hc]; simp
    · rw [if_neg hc] at h ⊢
      by_cases h2 : (Lib.indexAny r sepL == -1) = true
      · rw [if_pos h2] at h
        exact absurd (by decide) h
      · rw [if_neg h2] at h ⊢
        have h3 := Lib.indexAny_ge sepL r
        have h4 : ¬ Lib.indexAny r sepL = -1 := by simpa using h2
        have := ih (by omega)
        rewrite [List.length_cons]
        omega

theorem puiPost_shape {o : Except Bool Nat} {w w' : World} {e : Ending} (h : puiPost o w e w') : Below w.heap.size w w' ∧ ∃ (x : Int) (v : Value), e = .returned (.tuple #[.int .u64 x, v]) := by
  refine ⟨h.1, ?_⟩
  cases o with
  | ok n => exact ⟨_, _, h.2⟩
  | error b => obtain ⟨x, N, he⟩ := h.2; exact ⟨_, _, he⟩

set_option maxRecDepth 100000 in
set_option maxHeartbeats 4000000 in
theorem sizeOf_any (s : ByteArray) (w : World) (hs : s.size ≤ 100000) (hT : Tabs w) (hE : Errs w) :
    Calls Tryz.prog 122 #[.string s] w fun e w' => e = .returned (sizV (sizeL s.data.toList)) ∧ Below w.heap.size w w' := by
  have cI := indexAny_any s w hs
  have hsz := Lib.size_eq s
  obtain ⟨D, R, hD, hR, hw⟩ : ∃ D R : ByteArray, D.data.toList = digsL s.data.toList ∧ R.data.toList = restL s.data.toList ∧
      ((Lib.indexAny s.data.toList sepL < 0 ∧ D = s ∧ R = ⟨#[]⟩) ∨ ∃ k : Nat, Lib.indexAny s.data.toList sepL = (k : Int) ∧ k < s.size ∧ D = s.extract 0 k ∧ R = s.extract k s.size) := by
    by_cases h : Lib.indexAny s.data.toList sepL < 0
    · exact ⟨s, ⟨#[]⟩, by rw [digsL, if_pos h], by rw [restL, if_pos h], .inl ⟨h, rfl, rfl⟩⟩
    · have hlt := indexAny_lt _ h
      rw [← hsz] at hlt
      obtain ⟨k, hk⟩ := Int.eq_ofNat_of_zero_le (show 0 ≤ Lib.indexAny s.data.toList sepL by omega)
      rw [hk, Int.toNat_natCast] at hlt
      exact ⟨s.extract 0 k, s.extract k s.size, by rw [digsL, if_neg h, hk, Int.toNat_natCast, extract_take], by rw [restL, if_neg h, hk, Int.toNat_natCast, Lib.extract_to_end], .inr ⟨k, hk, hlt, rfl, rfl⟩⟩
  have hDs : D.size ≤ 100000 := by
    rewrite [Lib.size_eq, hD, digsL]
    split
    · omega
    · rewrite [List.length_take]; omega
  have hRs : R.size ≤ 100000 := by
    rewrite [Lib.size_eq, hR, restL]
    split
    · simp
    · rewrite [List.length_drop]; omega
  have cP := fun W h => pint_any D hDs W h
  have cX := fun W h => isExt_any R W hRs h
  have hS : sizeL s.data.toList = (if 8 < D.size then none else match num16 D.data.toList with
    | .ok n => if extL R.data.toList then some n else none
    | _ => none) := by rw [Lib.size_eq, hD, hR] <;> rfl
  have hN : ∀ n, num16 D.data.toList = .ok n → ¬ 8 < D.size → n < 4294967296 := fun n h h8 => by
    have := num16_lt _ _ 8 h (by rewrite [← Lib.size_eq]; omega)
    omega
  have HT := Lib.hid hT
  have HE := Lib.hid hE
  clear hD hR hT hE hsz
  generalize Lib.indexAny s.data.toList sepL = ix at *
  generalize num16 D.data.toList = O at *
  generalize extL R.data.toList = X at *
  go_enter Tryz.func122, Tryz.ntmps122
  go_wp2_with fail
  refine cI.mono ?_
  rintro e w1 ⟨rfl, hb1⟩
  have HB1 := Lib.hid hb1
  clear hb1 cI
  go_upto_if 13 with fail
  go_cut [4, 5] (fun d r wx => d = .string D ∧ r = .string R ∧ Below w.heap.size w wx)
  case first =>
    rcases hw with ⟨h0, rfl, rfl⟩ | ⟨k, rfl, hk, rfl, rfl⟩
    · have d : ¬ (0 : Int) ≤ ix := by omega
      clear hS hN cP cX
      go_wp2_with fail
      go_meet
      exact ⟨rfl, rfl, HB1.out⟩
    · have d : (0 : Int) ≤ (k : Int) := by omega
      have d2 : (k : Int) ≤ (s.size : Int) := by omega
      have d3 : k ≤ s.size := by omega
      clear hS hN cP cX
      go_wp2_with fail
      go_quiet (fail)
      all_goals
        go_wp2_with fail
        go_meet
        exact ⟨rfl, rfl, HB1.out.trans ((below_drewN _ _).mono HB1.out.size)⟩
  case rest =>
    obtain ⟨rfl, rfl, hbc⟩ := hcut
    have HBC := Lib.hid hbc
    clear hw HB1 hbc
    by_cases h8 : 8 < D.size
    · have HS : Hid (sizV (sizeL s.data.toList) = .tuple #[.int .i64 0, .bool false]) := Lib.hid (by rw [hS, if_pos h8] <;> rfl)
      have d : (8 : Int) < (D.size : Int) := by omega
      clear hS hN h8 cX
      go_wp2_with fail
      refine (cP _ (HE.out.below HBC.out)).mono ?_
      intro e w2 hp
      obtain ⟨hb2, x, v, rfl⟩ := puiPost_shape hp
      have HB2 := Lib.hid (HBC.out.trans (hb2.mono HBC.out.size))
      clear hb2 hp cP
      go_wp2_with fail
      exact bodyPost_ret (v := .tuple #[.int .i64 0, .bool false]) (by simp [results, Tryz.results122, go_sem]) rfl ⟨by rw [HS.out], HB2.out⟩
    · have d : ¬ (8 : Int) < (D.size : Int) := by omega
      rw [if_neg h8] at hS
      cases O with
      | ok n =>
        have hn := hN n rfl h8
        have hwr : IntKind.i64.wrap (n : Int) = (n : Int) := IntWalk.i64_in _ (by omega)
        dsimp only at hS
        cases X
        · have HS : Hid (sizV (sizeL s.data.toList) = .tuple #[.int .i64 0, .bool false]) := Lib.hid (by rw [hS] <;> rfl)
          clear hS hN h8
          go_wp2_with fail
          refine (cP _ (HE.out.below HBC.out)).mono ?_
          rintro e w2 ⟨hb2, rfl⟩
          have HB2 := Lib.hid (HBC.out.trans (hb2.mono HBC.out.size))
          clear hb2 cP
          go_wp2_with fail
          refine (cX _ (Utf8Tabs_below HT.out HB2.out)).mono ?_
          rintro e w3 ⟨rfl, hb3⟩
          have HB3 := Lib.hid (HB2.out.trans (hb3.mono HB2.out.size))
          clear hb3 cX
          go_wp2_with fail
          exact bodyPost_ret (v := .tuple #[.int .i64 0, .bool false]) (by simp [results, Tryz.results122, go_sem]) rfl ⟨by rw [HS.out], HB3.out⟩
        · have HS : Hid (sizV (sizeL s.data.toList) = .tuple #[.int .i64 n, .bool true]) := Lib.hid (by rw [hS] <;> rfl)
          clear hS hN h8
          go_wp2_with fail
          refine (cP _ (HE.out.below HBC.out)).mono ?_
          rintro e w2 ⟨hb2, rfl⟩
          have HB2 := Lib.hid (HBC.out.trans (hb2.mono HBC.out.size))
          clear hb2 cP
          go_wp2_with fail
          refine (cX _ (Utf8Tabs_below HT.out HB2.out)).mono ?_
          rintro e w3 ⟨rfl, hb3⟩
          have HB3 := Lib.hid (HB2.out.trans (hb3.mono HB2.out.size))
          clear hb3 cX
          go_wp2_with fail
          exact bodyPost_ret (v := .tuple #[.int .i64 n, .bool true]) (by simp [results, Tryz.results122, go_sem]) rfl ⟨by rw [HS.out], HB3.out⟩
      | error b =>
        have HS : Hid (sizV (sizeL s.data.toList) = .tuple #[.int .i64 0, .bool false]) := Lib.hid (by rw [hS] <;> rfl)
        clear hS hN h8 cX
        go_wp2_with fail
        refine (cP _ (HE.out.below HBC.out)).mono ?_
        rintro e w2 ⟨hb2, x, N, rfl⟩
        have HB2 := Lib.hid (HBC.out.trans (hb2.mono HBC.out.size))
        clear hb2 cP
        go_wp2_with fail
        exact bodyPost_ret (v := .tuple #[.int .i64 0, .bool false]) (by simp [results, Tryz.results122, go_sem]) rfl ⟨by rw [HS.out], HB2.out⟩

/-- The size that the line at the beginning tells, and the line's length with its end; or the error. -/
def rdL (l : List UInt8) : Except Int (Nat × Nat) :=
  if (lineL l).2 = 0 then (match sizeL (lineL l).1 with | none => .error 2 | some n => .ok (n, (lineL l).1.length + 2)) else .error (lineL l).2
def rdV : Except Int (Nat × Nat) → Value
  | .ok (n, k) => .tuple #[.int .i64 n, .int .i64 k, .int .i64 0]
  | .error e => .tuple #[.int .i64 0, .int .i64 0, .int .i64 e]

theorem lineL_len (l : List UInt8) : (lineL l).1.length ≤ 2000 := by
  unfold lineL
  split
  · simp
  · split
    · simp
    · split
      · simp
      · dsimp only; omega

set_option maxRecDepth 100000 in
set_option maxHeartbeats 4000000 in
theorem readLine_any (s : ByteArray) (w : World) (hs : s.size ≤ 100000) (hT : Tabs w) (hE : Errs w) :
    Calls Tryz.prog 102 #[.string s] w fun e w' => e = .returned (rdV (rdL s.data.toList)) ∧ Below w.heap.size w w' := by
  have cF := cfirst_any s w hs
  have hlen := lineL_len s.data.toList
  have hR : rdL s.data.toList = if (lineL s.data.toList).2 = 0 then (match sizeL (lineL s.data.toList).1 with | none => .error 2 | some n => .ok (n, (lineL s.data.toList).1.length + 2)) else .error (lineL s.data.toList).2 := rfl
  obtain ⟨⟨ln, er⟩, hp⟩ : ∃ p, lineL s.data.toList = p := ⟨_, rfl⟩
  rw [hp] at cF hR hlen
  dsimp only at hR hlen
  have cS := fun W h1 h2 => sizeOf_any (strB ln) W (by rewrite [strB_size]; omega) h1 h2
  rw [strB_data] at cS
  have hz := strB_size ln
  have HT := Lib.hid hT
  have HE := Lib.hid hE
  unfold lineV at cF
  dsimp only at cF
  clear hp hT hE
  by_cases he : er = 0
  · subst he
    rw [if_pos rfl] at hR
    cases ho : sizeL ln with
    | none =>
      rw [ho] at hR cS
      have HR : Hid (rdV (rdL s.data.toList) = .tuple #[.int .i64 0, .int .i64 0, .int .i64 2]) := Lib.hid (by rw [hR] <;> rfl)
      clear hR ho hz hlen
      generalize strB ln = SL at *
      unfold sizV at cS
      go_enter Tryz.func102, Tryz.ntmps102
      go_wp2_with fail
      refine cF.mono ?_
      rintro e w1 ⟨rfl, hb1⟩
      have HB1 := Lib.hid hb1
      clear hb1
      go_wp2_with fail
      refine (cS _ (Utf8Tabs_below HT.out HB1.out) (HE.out.below HB1.out)).mono ?_
      rintro e w2 ⟨rfl, hb2⟩
      have HB2 := Lib.hid (HB1.out.trans (hb2.mono HB1.out.size))
      clear hb2
      go_wp2_with fail
      exact bodyPost_ret (v := .tuple #[.int .i64 0, .int .i64 0, .int .i64 2]) (by simp [results, Tryz.results102, go_sem]) rfl ⟨by rw [HR.out], HB2.out⟩
    | some n =>
      rw [ho] at hR cS
      have hlI : (strB ln).size ≤ 2000 := by omega
      have HR : Hid (rdV (rdL s.data.toList) = .tuple #[.int .i64 n, .int .i64 (((strB ln).size : Int) + 2), .int .i64 0]) := Lib.hid (by rw [hR, hz] <;> rfl)
      clear hR ho hz hlen
      generalize strB ln = SL at *
      unfold sizV at cS
      go_enter Tryz.func102, Tryz.ntmps102
      go_wp2_with fail
      refine cF.mono ?_
      rintro e w1 ⟨rfl, hb1⟩
      have HB1 := Lib.hid hb1
      clear hb1
      go_wp2_with fail
      refine (cS _ (Utf8Tabs_below HT.out HB1.out) (HE.out.below HB1.out)).mono ?_
      rintro e w2 ⟨rfl, hb2⟩
      have HB2 := Lib.hid (HB1.out.trans (hb2.mono HB1.out.size))
      clear hb2
      go_wp2_with fail
      exact bodyPost_ret (v := .tuple #[.int .i64 n, .int .i64 ((SL.size : Int) + 2), .int .i64 0]) (by simp [results, Tryz.results102, go_sem]) rfl ⟨by rw [HR.out], HB2.out⟩
  · rw [if_neg he] at hR
    have HR : Hid (rdV (rdL s.data.toList) = .tuple #[.int .i64 0, .int .i64 0, .int .i64 er]) := Lib.hid (by rw [hR] <;> rfl)
    have d : (er != 0) = true := by simpa using he
    clear hR hz hlen cS
    generalize strB ln = SL at *
    go_enter Tryz.func102, Tryz.ntmps102
    go_wp2_with fail
    refine cF.mono ?_
    rintro e w1 ⟨rfl, hb1⟩
    go_wp2_with fail
    exact bodyPost_ret (v := .tuple #[.int .i64 0, .int .i64 0, .int .i64 er]) (by simp [results, Tryz.results102, go_sem]) rfl ⟨by rw [HR.out], hb1⟩

/-- The data of a chunk, or why there is none. -/
def datL (l : List UInt8) (k : Nat) : List UInt8 × Int :=
  if l.length < k + 2 then ([], 3) else if Lib.hasPrefix (l.drop k) [13, 10] = false then ([], 2) else (l.take k, 0)

set_option maxRecDepth 100000 in
set_option maxHeartbeats 4000000 in
theorem dataOf_any (s : ByteArray) (k : Nat) (w : World) (_ : s.size ≤ 100000) (hk : k ≤ 100000) :
    Calls Tryz.prog 104 #[.string s, .int .i64 k] w fun e w' => e = .returned (lineV (datL s.data.toList k)) ∧ w = w' := by
  have hD : datL s.data.toList k = if s.size < k + 2 then ([], 3) else if Lib.hasPrefix (s.data.toList.drop k) [13, 10] = false then ([], 2) else (s.data.toList.take k, 0) := by rw [Lib.size_eq] <;> rfl
  by_cases h : s.size < k + 2
  · rw [if_pos h] at hD
    have HD : Hid (lineV (datL s.data.toList k) = .tuple #[.string ⟨#[]⟩, .int .i64 3]) := Lib.hid (by rw [hD] <;> rfl)
    have d : (s.size : Int) < (k : Int) + 2 := by omega
    clear hD h
    go_enter Tryz.func104, Tryz.ntmps104
    go_wp2_with fail
    exact bodyPost_ret (v := .tuple #[.string ⟨#[]⟩, .int .i64 3]) (by simp [results, Tryz.results104, go_sem]) rfl ⟨by rw [HD.out], rfl⟩
  · rw [if_neg h] at hD
    have d : ¬ (s.size : Int) < (k : Int) + 2 := by omega
    have hk2 : k ≤ s.size := by omega
    have hkI : (k : Int) ≤ (s.size : Int) := by omega
    have cP := fun W => (Tryz.strings_HasPrefix (s.extract k s.size) ⟨#[13, 10]⟩ W).mono (R' := fun e w' => e = .returned (.bool (Lib.hasPrefix (s.extract k s.size).data.toList (⟨#[13, 10]⟩ : ByteArray).data.toList)) ∧ W = w') (fun e w' h => ⟨h.1, h.2.symm⟩)
    rw [Lib.extract_to_end, show (⟨#[13, 10]⟩ : ByteArray).data.toList = [13, 10] from rfl] at cP
    have hx : strB (s.data.toList.take k) = s.extract 0 k := by rw [← extract_take, strB_of]
    obtain ⟨b, hb⟩ : ∃ b, Lib.hasPrefix (s.data.toList.drop k) [13, 10] = b := ⟨_, rfl⟩
    rw [hb] at hD cP
    cases b
    · have HD : Hid (lineV (datL s.data.toList k) = .tuple #[.string ⟨#[]⟩, .int .i64 2]) := Lib.hid (by rw [hD] <;> rfl)
      clear hD h hb hx
      go_enter Tryz.func104, Tryz.ntmps104
      go_wp2_with fail
      refine (cP _).mono ?_
      rintro e w1 ⟨rfl, rfl⟩
      go_wp2_with fail
      exact bodyPost_ret (v := .tuple #[.string ⟨#[]⟩, .int .i64 2]) (by simp [results, Tryz.results104, go_sem]) rfl ⟨by rw [HD.out], rfl⟩
    · have HD : Hid (lineV (datL s.data.toList k) = .tuple #[.string (s.extract 0 k), .int .i64 0]) := Lib.hid (by rw [hD, ← hx] <;> rfl)
      clear hD h hb hx
      go_enter Tryz.func104, Tryz.ntmps104
      go_wp2_with fail
      refine (cP _).mono ?_
      rintro e w1 ⟨rfl, rfl⟩
      go_wp2_with fail
      exact bodyPost_ret (v := .tuple #[.string (s.extract 0 k), .int .i64 0]) (by simp [results, Tryz.results104, go_sem]) rfl ⟨by rw [HD.out], rfl⟩

end Go.Proofs.YthbfcamfapgodaaGreatDoor

namespace Go.Proofs.YthbfcamfapgodaaGreatDoor
open Go.RowKit

theorem info_u8 : (Tryz.prog.info? 5).map (fun i => (i.zero, i.size, i.bytes)) = some (some (.int .u8 0), 1, 1) := by kernel_rfl
theorem size_builder : (Tryz.prog.info? 102).map (·.size) = some 2 := by kernel_rfl
theorem lies_builder : liesAt Tryz.prog Tryz.prog.depth 102 (2 / Tryz.prog.cellsOf 102) 0 102 1 = true := by kernel_rfl

set_option maxHeartbeats 1000000 in
set_option maxRecDepth 100000 in
theorem copyCheck_used (b : Nat) (w : World) (h0 : w.cell? ⟨b, 0, none⟩ = some (.pointer (some ⟨b, 0, none⟩))) :
    Calls Tryz.prog 113 #[.pointer (some ⟨b, 0, none⟩)] w fun e w' => e = .returned (.tuple #[]) ∧ w' = w := by
  obtain ⟨j, hj, _⟩ := Option.map_eq_some_iff.1 size_builder
  go_enter Tryz.func113, Tryz.ntmps113
  go_wp2
  rewrite [Lib.run_neq_ptr_same w _ Tryz.underlying100 hj]
  go_wp2
  go_end0
  exact ⟨rfl, rfl⟩

set_option maxHeartbeats 1000000 in
set_option maxRecDepth 100000 in
theorem copyCheck_fresh (b : Nat) (w : World) (h0 : w.cell? ⟨b, 0, none⟩ = some (.pointer none)) (hsh : w.shape? b = some (102, 2)) (hfz : w.frozen? ⟨b, 0, none⟩ = false) :
    Calls Tryz.prog 113 #[.pointer (some ⟨b, 0, none⟩)] w fun e w' => e = .returned (.tuple #[]) ∧ w' = w.setCell ⟨b, 0, none⟩ (.pointer (some ⟨b, 0, none⟩)) := by
  obtain ⟨j, hj, hjs⟩ := Option.map_eq_some_iff.1 size_builder
  go_enter Tryz.func113, Tryz.ntmps113
  go_wp2
  rewrite [Lib.run_to_unsafe w ⟨b, 0, none⟩ Tryz.underlying100 Tryz.underlying131 hj (by rewrite [hjs]; decide) hsh (Nat.zero_lt_succ 1)]
  simp only [Result.andThen]
  rewrite [Oper.upon_value]
  go_wp2
  rewrite [run_callFunc_extern Tryz.func129 (by kernel_rfl) (by kernel_rfl) (by kernel_rfl) (e := Extern.AbiNoEscape.same) (by kernel_rfl)]
  rewrite [Lib.run_noEscape]
  simp only [Result.andThen]
  rewrite [Oper.upon_value]
  go_wp2
  rewrite [Lib.run_from_unsafe w ⟨b, 0, none⟩ Tryz.underlying131 Tryz.underlying100 hj hsh lies_builder]
  simp only [Result.andThen]
  rewrite [Oper.upon_value]
  go_wp2
  go_end0
  exact ⟨rfl, rfl⟩

theorem copyCheck_any (B b : Nat) (bs : List Value) (w : World) (h : Lib.IsBuilder 102 5 B b bs w) :
    Calls Tryz.prog 113 #[.pointer (some ⟨b, 0, none⟩)] w fun e w' => e = .returned (.tuple #[]) ∧ (Lib.BuilderAt 102 5 B b (.pointer (some ⟨b, 0, none⟩)) bs w' ∧ Below B w w') := by
  rcases h with h | h
  · refine (copyCheck_fresh b w h.cell0 h.shape h.frozen0).mono ?_
    rintro e w' ⟨rfl, rfl⟩
    exact ⟨rfl, h.used _, (Below.refl B w).setCell (p := ⟨b, 0, none⟩) h.1 _⟩
  · refine (copyCheck_used b w h.cell0).mono ?_
    rintro e w' ⟨rfl, rfl⟩
    exact ⟨rfl, h, Below.refl B _⟩

set_option maxHeartbeats 2000000 in
set_option maxRecDepth 100000 in
theorem writeString_any (B b : Nat) (bs : List Value) (s : ByteArray) (w : World) (h : Lib.IsBuilder 102 5 B b bs w) (hlen : bs.length + s.size ≤ 140737488355328) (hBw : B ≤ w.heap.size) :
    Calls Tryz.prog 95 #[.pointer (some ⟨b, 0, none⟩), .string s] w fun e w' => e = .returned (.tuple #[.int .i64 s.size, .nilIface]) ∧ (Lib.BuilderAt 102 5 B b (.pointer (some ⟨b, 0, none⟩)) (bs ++ Lib.strCells s) w' ∧ Below B w w') := by
  obtain ⟨i0, hi, hz0, hz1, hz2⟩ := info_parts info_u8
  go_enter Tryz.func95, Tryz.ntmps95
  go_wp2_with fail
  refine (copyCheck_any B b bs _ h).mono ?_
  rintro e w1 ⟨rfl, h1, hb1⟩
  obtain ⟨hB, v, hbk, hown, hne⟩ := h1
  have c0 : w1.cell? ⟨b, 0, none⟩ = some (.pointer (some ⟨b, 0, none⟩)) := by rw [Lib.cell_of_heap hbk] <;> rfl
  have c1 : w1.cell? ⟨b, 1, none⟩ = some v := by rw [Lib.cell_of_heap hbk] <;> rfl
  go_wp2_with (at_builtin; refine Lib.wpList_append_own_string _ rfl _ _ 24 9 rfl B 5 i0 Tryz.underlying24 Tryz.underlying9 hi hz0 hz1 hz2 _ _ _ rfl hown s rfl ?c3 ?c4 ?c5 ?_)
  case c3 => unfold maxLen; omega
  case c4 => omega
  case c5 => have := hb1.size; omega
  intro v' w2 hown' hgrow _
  have hlt : b < w1.heap.size := by
    rcases Nat.lt_or_ge b w1.heap.size with h' | h'
    · exact h'
    · simp [Array.getElem?_eq_none h'] at hbk
  have hb2 : w2.heap[b]? = some (.cells #[.pointer (some ⟨b, 0, none⟩), v] 102 (0, 0)) := by
    rewrite [hgrow.block b hlt (fun e => hne e.symm)]
    exact hbk
  have d0 : w2.cell? ⟨b, 0, none⟩ = some (.pointer (some ⟨b, 0, none⟩)) := by rw [Lib.cell_of_heap hb2] <;> rfl
  have d1 : w2.cell? ⟨b, 1, none⟩ = some v := by rw [Lib.cell_of_heap hb2] <;> rfl
  have f1 : w2.frozen? ⟨b, 1, none⟩ = false := Lib.frozen_of_heap hb2 1
  obtain ⟨ao, n', cap, rfl⟩ : ∃ ao n' cap, v' = .slice ao n' cap := by
    rcases hown'.2 with ⟨hv, _⟩ | ⟨g, cap, cur, hv, _⟩
    · exact ⟨_, _, _, hv⟩
    · exact ⟨_, _, _, hv⟩
  go_wp2
  go_ret2
  refine ⟨rfl, ?_, ?_⟩
  · exact Lib.BuilderAt.put (T := 102) (e := 5) hB hb2 (bs' := bs ++ Lib.strCells s) (by simpa [Lib.strCells_length] using hown') (by decide)
  · exact (hb1.grown hgrow (by have := hb1.size; omega) (fun k hk => (hown.lt k hk).1)).setCell (p := ⟨b, 1, none⟩) hB _

end Go.Proofs.YthbfcamfapgodaaGreatDoor

namespace Go.Proofs.YthbfcamfapgodaaGreatDoor
open Go.RowKit Go.Shelf Go.Lib

/-- How long a text is, as a value. -/
def lenV : Value → Nat
  | .string b => b.size
  | _ => 0

/-- What holds while a chunk is written: the builder holds the text, nothing else is written. -/
def heldC (w : World) (acc : List UInt8) (W : World) : Prop := Lib.IsBuilder 102 5 w.heap.size w.heap.size (Lib.byteCells acc) W ∧ Below w.heap.size w W ∧ w.heap.size < W.heap.size
theorem heldC_next {w : World} {acc : List UInt8} {W W' : World} (h : heldC w acc W) (hb : Below W.heap.size W W') : heldC w acc W' :=
  ⟨IsBuilder_belowF h.1 hb, h.2.1.trans (hb.mono h.2.1.size), Nat.lt_of_lt_of_le h.2.2 hb.size⟩

end Go.Proofs.YthbfcamfapgodaaGreatDoor

namespace Go.Proofs.YthbfcamfapgodaaGreatDoor
open Go.RowKit Go.Shelf Go.Lib

/-- The body of the chunks with which a text begins, from a place on, behind a body so far; by so many rounds. -/
def decG : Nat → List UInt8 → Nat → List UInt8 → Except Int (List UInt8 × Nat)
  | 0, _, _, _ => .error 4
  | f + 1, l, K, acc => match rdL (l.drop K) with
    | .error e => .error e
    | .ok (k, n) =>
      if 100000 < acc.length + k then .error 4
      else if k = 0 then (match parseH (l.drop (K + n)) with | .error e => .error e | .ok (_, m) => .ok (acc, K + n + m))
      else if (datL (l.drop (K + n)) k).2 = 0 then decG f l (K + n + k + 2) (acc ++ (datL (l.drop (K + n)) k).1)
      else .error (datL (l.drop (K + n)) k).2
def decL (l : List UInt8) : Except Int (List UInt8 × Nat) := decG (l.length + 1) l 0 []
def decV : Except Int (List UInt8 × Nat) → Value
  | .error e => .tuple #[.string ⟨#[]⟩, .int .i64 0, .int .i64 e]
  | .ok (b, n) => .tuple #[.string (strB b), .int .i64 (n : Int), .int .i64 0]

theorem rdL_ok {l : List UInt8} {k n : Nat} (h : rdL l = .ok (k, n)) : k < 4294967296 ∧ 2 ≤ n ∧ n ≤ l.length := by
  unfold rdL at h
  by_cases h0 : (lineL l).2 = 0
  · rw [if_pos h0] at h
    have := lineL_le l h0
    cases hs : sizeL (lineL l).1 with
    | none => rw [hs] at h; cases h
    | some m =>
      rw [hs] at h
      simp only [Except.ok.injEq, Prod.mk.injEq] at h
      obtain ⟨rfl, rfl⟩ := h
      exact ⟨sizeL_lt _ _ hs, by omega, by omega⟩
  · rw [if_neg h0] at h; cases h
theorem lineL_errs (l : List UInt8) : (lineL l).2 = 0 ∨ (lineL l).2 = 2 ∨ (lineL l).2 = 3 ∨ (lineL l).2 = 4 := by
  unfold lineL
  split
  · dsimp only
    split <;> simp
  · split
    · simp
    · split <;> simp
theorem rdL_err {l : List UInt8} {e : Int} (h : rdL l = .error e) : e = 2 ∨ e = 3 ∨ e = 4 := by
  unfold rdL at h
  by_cases h0 : (lineL l).2 = 0
  · rw [if_pos h0] at h
    cases hs : sizeL (lineL l).1 with
    | none => rw [hs] at h; simp only [Except.error.injEq] at h; omega
    | some m => rw [hs] at h; cases h
  · rw [if_neg h0] at h
    simp only [Except.error.injEq] at h
    rcases lineL_errs l with h1 | h1 | h1 | h1 <;> omega
theorem parH_errs (l : List UInt8) : ∀ (f K : Nat) (acc : List Fld) (e : Int), parH f l K acc = .error e → e = 2 ∨ e = 3 ∨ e = 4
  | 0, _, _, e, h => by simp only [parH, Except.error.injEq] at h; omega
  | f + 1, K, acc, e, h => by
    rw [parH] at h
    split at h
    · simp only [Except.error.injEq] at h
      rcases lineL_errs (l.drop K) with h1 | h1 | h1 | h1 <;> omega
    · split at h
      · cases h
      · split at h
        · simp only [Except.error.injEq] at h; omega
        · split at h
          · simp only [Except.error.injEq] at h; omega
          · exact parH_errs l f _ _ e h
theorem parH_lens (l : List UInt8) : ∀ (f K : Nat) (acc fs : List Fld) (n : Nat), parH f l K acc = .ok (fs, n) → K ≤ l.length → n ≤ l.length
  | 0, _, _, _, _, h, _ => by cases h
  | f + 1, K, acc, fs, n, h, hK => by
    rw [parH] at h
    split at h
    · cases h
    · rename_i h0
      have := lineL_le (l.drop K) (by simpa using h0)
      rw [List.length_drop] at this
      split at h
      · simp only [Except.ok.injEq, Prod.mk.injEq] at h
        omega
      · split at h
        · cases h
        · split at h
          · cases h
          · exact parH_lens l f _ _ fs n h (by omega)
theorem datL_cases (l : List UInt8) (k : Nat) : (k + 2 ≤ l.length ∧ datL l k = (l.take k, 0)) ∨ ∃ e : Int, datL l k = ([], e) ∧ (e = 2 ∨ e = 3) := by
  unfold datL
  split
  · exact .inr ⟨3, rfl, .inr rfl⟩
  · rename_i h
    split
    · exact .inr ⟨2, rfl, .inl rfl⟩
    · exact .inl ⟨by omega, rfl⟩

set_option maxRecDepth 100000 in
set_option maxHeartbeats 16000000 in
theorem decode_any (s : ByteArray) (w : World) (hs : s.size ≤ 90000) (hT : Tabs w) (hE : Errs w) :
    Calls Tryz.prog 82 #[.string s] w fun e w' => e = .returned (decV (decL s.data.toList)) ∧ Below w.heap.size w w' := by
  have hsz := Lib.size_eq s
  have hfr : Lib.IsBuilder 102 5 w.heap.size w.heap.size (Lib.byteCells []) (w.alloc (.cells #[.pointer none, .slice none 0 0] 102)) :=
    .inl ⟨Nat.le_refl _, .slice none 0 0, heap_alloc_new w _, World.ownsRow_nil _ _ _ _, by simp [Value.ownBlock]⟩
  have Hfr := Lib.hid hfr
  have HT := Lib.hid hT
  have HE := Lib.hid hE
  have HSt : Hid (decL s.data.toList = decG (s.size + 1) s.data.toList 0 []) := Lib.hid (by rw [decL, hsz])
  have HSz := Lib.hid hsz
  clear hfr hT hE hsz
  go_enter Tryz.func82, Tryz.ntmps82
  go_wp2_with fail
  go_step3
  go_wp2_with fail
  go_step3
  go_wp2_with fail
  go_loopw [6] (fun v wr => ∃ (K f : Nat) (acc : List UInt8), v = .int .i64 (K : Int) ∧ K ≤ s.size ∧ s.size < f + K ∧ acc.length ≤ 100000 ∧ Hid (decL s.data.toList = decG f s.data.toList K acc) ∧ heldC w acc wr) (fun v _ => s.size - (intOf v).toNat)
  case atStart =>
    exact ⟨0, s.size + 1, [], rfl, Nat.zero_le _, by omega, by simp, HSt, Hfr.out, (Below.refl _ _).alloc (Nat.le_refl _) _, by simp⟩
  case round =>
    obtain ⟨K, f, acc, rfl, hK, hf, hal, H, hh⟩ := hrel
    clear Hfr HSt
    obtain ⟨f, rfl⟩ : ∃ f', f = f' + 1 := ⟨f - 1, by omega⟩
    have hxd : (s.extract K s.size).data.toList = s.data.toList.drop K := Lib.extract_to_end s K
    have hxs : (s.extract K s.size).size = s.size - K := by rw [Lib.size_eq, hxd, List.length_drop, ← HSz.out]
    have cR := fun W h1 h2 => readLine_any (s.extract K s.size) W (by omega) h1 h2
    rw [hxd] at cR
    have hH := H.out
    rw [decG] at hH
    have HH := Lib.hid hh
    have hKI : (K : Int) ≤ (s.size : Int) := by omega
    clear H hh
    cases hr : rdL (s.data.toList.drop K) with
    | error e =>
      rw [hr] at hH cR
      have HR : Hid (decV (decL s.data.toList) = .tuple #[.string ⟨#[]⟩, .int .i64 0, .int .i64 e]) := Lib.hid (by rw [hH] <;> rfl)
      have d : (e != 0) = true := by
        have := rdL_err hr
        have h0 : ¬ e = 0 := by omega
        simpa using h0
      unfold rdV at cR
      clear hr hH hxd hxs
      go_wp2_with fail
      refine (cR _ (Utf8Tabs_below HT.out HH.out.2.1) (HE.out.below HH.out.2.1)).mono ?_
      rintro e' w2 ⟨rfl, hb2⟩
      have H2 := Lib.hid (heldC_next HH.out hb2)
      clear hb2 cR
      go_wp2_with fail
      rewrite [Exit.noGoto_ret]
      exact bodyPost_ret (v := .tuple #[.string ⟨#[]⟩, .int .i64 0, .int .i64 e]) (by simp [results, Tryz.results82, go_sem]) rfl ⟨by rw [HR.out], H2.out.2.1⟩
    | ok q =>
      obtain ⟨k, n⟩ := q
      rw [hr] at hH cR
      obtain ⟨hk, hn2, hnl⟩ := rdL_ok hr
      rw [List.length_drop, ← HSz.out] at hnl
      dsimp only at hH
      unfold rdV at cR
      obtain ⟨K1, hK1⟩ : ∃ K1, K + n = K1 := ⟨_, rfl⟩
      rw [hK1] at hH
      have q1 : (K : Int) + (n : Int) = (K1 : Int) := by omega
      have hK1s : K1 ≤ s.size := by omega
      have hK1I : (K1 : Int) ≤ (s.size : Int) := by omega
      have cN := fun W h => (Tryz.Builder_Len w.heap.size w.heap.size (Lib.byteCells acc) W h).mono (R' := fun e w' => e = .returned (.int .i64 (Lib.byteCells acc).length) ∧ W = w') (fun e w' h => ⟨h.1, h.2.symm⟩)
      rw [Lib.byteCells_length] at cN
      clear hr hxd hxs
      by_cases hbig : 100000 < acc.length + k
      · rw [if_pos hbig] at hH
        have HR : Hid (decV (decL s.data.toList) = .tuple #[.string ⟨#[]⟩, .int .i64 0, .int .i64 4]) := Lib.hid (by rw [hH] <;> rfl)
        have d : (100000 : Int) < (acc.length : Int) + (k : Int) := by omega
        clear hH hbig
        generalize acc.length = aln at *
        go_wp2_with fail
        refine (cR _ (Utf8Tabs_below HT.out HH.out.2.1) (HE.out.below HH.out.2.1)).mono ?_
        rintro e' w2 ⟨rfl, hb2⟩
        have H2 := Lib.hid (heldC_next HH.out hb2)
        clear hb2 cR
        go_wp2_with fail
        refine (cN _ H2.out.1).mono ?_
        rintro e' w3 ⟨rfl, rfl⟩
        go_wp2_with fail
        rewrite [Exit.noGoto_ret]
        exact bodyPost_ret (v := .tuple #[.string ⟨#[]⟩, .int .i64 0, .int .i64 4]) (by simp [results, Tryz.results82, go_sem]) rfl ⟨by rw [HR.out], H2.out.2.1⟩
      · rw [if_neg hbig] at hH
        have d : ¬ (100000 : Int) < (acc.length : Int) + (k : Int) := by omega
        have hyd : (s.extract K1 s.size).data.toList = s.data.toList.drop K1 := Lib.extract_to_end s K1
        have hys : (s.extract K1 s.size).size = s.size - K1 := by rw [Lib.size_eq, hyd, List.length_drop, ← HSz.out]
        by_cases hk0 : k = 0
        · rw [if_pos hk0] at hH
          subst hk0
          have cH := fun W h => hparse_any (s.extract K1 s.size) W (by omega) h
          rw [hyd] at cH
          have d0 : ¬ (100000 : Int) < (acc.length : Int) := by omega
          cases hp : parseH (s.data.toList.drop K1) with
          | error e =>
            rw [hp] at hH cH
            have HR : Hid (decV (decL s.data.toList) = .tuple #[.string ⟨#[]⟩, .int .i64 0, .int .i64 e]) := Lib.hid (by rw [hH] <;> rfl)
            have de : (e != 0) = true := by
              have := parH_errs _ 65 0 [] e hp
              have h0 : ¬ e = 0 := by omega
              simpa using h0
            clear hH hbig hp hyd hys
            generalize acc.length = aln at *
            go_wp2_with fail
            refine (cR _ (Utf8Tabs_below HT.out HH.out.2.1) (HE.out.below HH.out.2.1)).mono ?_
            rintro e' w2 ⟨rfl, hb2⟩
            have H2 := Lib.hid (heldC_next HH.out hb2)
            clear hb2 cR
            go_wp2_with fail
            refine (cN _ H2.out.1).mono ?_
            rintro e' w3 ⟨rfl, rfl⟩
            go_wp2_with fail
            refine (cH _ (Utf8Tabs_below HT.out H2.out.2.1)).mono ?_
            rintro e' w3 ⟨hb3, rfl⟩
            have H3 := Lib.hid (heldC_next H2.out hb3)
            go_wp2_with fail
            rewrite [Exit.noGoto_ret]
            exact bodyPost_ret (v := .tuple #[.string ⟨#[]⟩, .int .i64 0, .int .i64 e]) (by simp [results, Tryz.results82, go_sem]) rfl ⟨by rw [HR.out], H3.out.2.1⟩
          | ok q =>
            obtain ⟨fs, m⟩ := q
            have hml := parH_lens _ 65 0 [] fs m hp (Nat.zero_le _)
            rw [List.length_drop, ← HSz.out] at hml
            rw [hp] at hH cH
            have HR : Hid (decV (decL s.data.toList) = .tuple #[.string ⟨acc.toArray⟩, .int .i64 ((K1 : Int) + (m : Int)), .int .i64 0]) := Lib.hid (by
              rewrite [hH, decV, show ((K1 + m : Nat) : Int) = (K1 : Int) + (m : Int) by omega]
              rfl)
            clear hH hbig hp hyd hys
            go_wp2_with fail
            refine (cR _ (Utf8Tabs_below HT.out HH.out.2.1) (HE.out.below HH.out.2.1)).mono ?_
            rintro e' w2 ⟨rfl, hb2⟩
            have H2 := Lib.hid (heldC_next HH.out hb2)
            clear hb2 cR
            go_wp2_with fail
            refine (cN _ H2.out.1).mono ?_
            rintro e' w3 ⟨rfl, rfl⟩
            go_wp2_with fail
            refine (cH _ (Utf8Tabs_below HT.out H2.out.2.1)).mono ?_
            rintro e' w3 ⟨hb3, v3, rfl, hown3⟩
            obtain ⟨a3, c3, rfl⟩ := owns_formF hown3
            have H3 := Lib.hid (heldC_next H2.out hb3)
            have cS := Tryz.Builder_String_any w.heap.size w.heap.size acc w3 H3.out.1 (Nat.le_of_lt H3.out.2.2)
            clear hb3 hown3 cH cN
            go_wp2_with fail
            refine cS.mono ?_
            rintro e' w4 ⟨rfl, hb4⟩
            go_wp2_with fail
            rewrite [Exit.noGoto_ret]
            exact bodyPost_ret (v := .tuple #[.string ⟨acc.toArray⟩, .int .i64 ((K1 : Int) + (m : Int)), .int .i64 0]) (by simp [results, Tryz.results82, go_sem]) rfl ⟨by rw [HR.out], H3.out.2.1.trans hb4⟩
        · rw [if_neg hk0] at hH
          have dk : ((k : Int) == 0) = false := by simpa using (by omega : ¬ (k : Int) = 0)
          have cD := fun W => dataOf_any (s.extract K1 s.size) k W (by omega) (by omega)
          rw [hyd] at cD
          rcases datL_cases (s.data.toList.drop K1) k with ⟨hdl, hdt⟩ | ⟨e, hdt, hde⟩
          · rw [hdt] at hH cD
            rw [if_pos rfl] at hH
            rw [List.length_drop, ← HSz.out] at hdl
            obtain ⟨K2, hK2⟩ : ∃ K2, K1 + k + 2 = K2 := ⟨_, rfl⟩
            rw [hK2] at hH
            have q2 : (K1 : Int) + ((k : Int) + 2) = (K2 : Int) := by omega
            have htl : ((s.data.toList.drop K1).take k).length = k := by rewrite [List.length_take, List.length_drop, ← HSz.out]; omega
            have hac : (acc ++ (s.data.toList.drop K1).take k).length ≤ 100000 := by rewrite [List.length_append, htl]; omega
            have cW := fun W (h : heldC w acc W) => (writeString_any w.heap.size w.heap.size (Lib.byteCells acc) (strB ((s.data.toList.drop K1).take k)) W h.1 (by rewrite [Lib.byteCells_length, strB_size, htl]; omega) (Nat.le_of_lt h.2.2)).mono (R' := fun e w' => e = .returned (.tuple #[.int .i64 (strB ((s.data.toList.drop K1).take k)).size, .nilIface]) ∧ heldC w (acc ++ (s.data.toList.drop K1).take k) w') (fun e w' hq => by
              obtain ⟨he, hbd, hb⟩ := hq
              rw [show Lib.byteCells acc ++ Lib.strCells (strB ((s.data.toList.drop K1).take k)) = Lib.byteCells (acc ++ (s.data.toList.drop K1).take k) by
                rewrite [show Lib.strCells (strB ((s.data.toList.drop K1).take k)) = Lib.byteCells ((s.data.toList.drop K1).take k) from rfl]
                simp [Lib.byteCells]] at hbd
              exact ⟨he, .inr hbd, h.2.1.trans hb, by have := hbd.lt; omega⟩)
            have HH2 := Lib.hid hH
            unfold lineV at cD
            dsimp only at cD
            generalize acc ++ (s.data.toList.drop K1).take k = acc2 at *
            generalize strB ((s.data.toList.drop K1).take k) = P at *
            clear hH hbig hyd hys hdt htl
            go_wp2_with fail
            refine (cR _ (Utf8Tabs_below HT.out HH.out.2.1) (HE.out.below HH.out.2.1)).mono ?_
            rintro e' w2 ⟨rfl, hb2⟩
            have H2 := Lib.hid (heldC_next HH.out hb2)
            clear hb2 cR
            go_wp2_with fail
            refine (cN _ H2.out.1).mono ?_
            rintro e' w3 ⟨rfl, rfl⟩
            go_wp2_with fail
            refine (cD _).mono ?_
            rintro e' w3 ⟨rfl, rfl⟩
            go_wp2_with fail
            refine (cW _ H2.out).mono ?_
            rintro e' w3 ⟨rfl, h3⟩
            go_wp2_with fail
            go_roundw
            case rel => exact ⟨K2, f, acc2, by go_num, by omega, by omega, hac, Lib.hid HH2.out, h3⟩
            case measure => simp [intOf]; omega
          · rw [hdt] at hH cD
            have he0 : ¬ e = 0 := by omega
            rw [if_neg he0] at hH
            have HR : Hid (decV (decL s.data.toList) = .tuple #[.string ⟨#[]⟩, .int .i64 0, .int .i64 e]) := Lib.hid (by rw [hH] <;> rfl)
            have de : (e != 0) = true := by simpa using he0
            unfold lineV at cD
            dsimp only at cD
            rw [show strB [] = (⟨#[]⟩ : ByteArray) from rfl] at cD
            clear hH hbig hyd hys hdt hde he0
            generalize acc.length = aln at *
            go_wp2_with fail
            refine (cR _ (Utf8Tabs_below HT.out HH.out.2.1) (HE.out.below HH.out.2.1)).mono ?_
            rintro e' w2 ⟨rfl, hb2⟩
            have H2 := Lib.hid (heldC_next HH.out hb2)
            clear hb2 cR
            go_wp2_with fail
            refine (cN _ H2.out.1).mono ?_
            rintro e' w3 ⟨rfl, rfl⟩
            go_wp2_with fail
            refine (cD _).mono ?_
            rintro e' w3 ⟨rfl, rfl⟩
            go_wp2_with fail
            rewrite [Exit.noGoto_ret]
            exact bodyPost_ret (v := .tuple #[.string ⟨#[]⟩, .int .i64 0, .int .i64 e]) (by simp [results, Tryz.results82, go_sem]) rfl ⟨by rw [HR.out], H2.out.2.1⟩

end Go.Proofs.YthbfcamfapgodaaGreatDoor

namespace Go.Proofs.YthbfcamfapgodaaGreatDoor
open Go.RowKit Go.Shelf Go.Lib

/-- May a text be a target? -/
def tgtB (c : UInt8) : Bool := !(decide ((c.toNat : Int) < 33) || decide ((126 : Int) < (c.toNat : Int)))
def tgtL (l : List UInt8) : Bool := l.all tgtB && !l.isEmpty
theorem tgt_snoc (s : ByteArray) (k : Nat) (h : k < s.size) (p : UInt8 → Bool) : (s.data.toList.take (k + 1)).all p = ((s.data.toList.take k).all p && p s[k]) := by
  rewrite [take_snoc s k h, List.all_append]
  simp
theorem tgt_no (s : ByteArray) (k : Nat) (h : k < s.size) (p : UInt8 → Bool) (hp : p s[k] = false) : s.data.toList.all p = false := by
  rewrite [List.all_eq_false]
  refine ⟨s[k], ?_, by simp [hp]⟩
  have := drop_cons_at s k h
  exact List.mem_of_mem_drop (i := k) (by rewrite [this]; exact List.mem_cons_self ..)

/-- Has a response no body? -/
def bareB (n : Int) (m : ByteArray) : Bool := decide (100 ≤ n) && decide (n ≤ 199) || n == 204 || n == 304 || m.toList == [72, 69, 65, 68]

/-- transfer-encoding, content-length, chunked, host. -/
def teN : List UInt8 := [116, 114, 97, 110, 115, 102, 101, 114, 45, 101, 110, 99, 111, 100, 105, 110, 103]
def clN : List UInt8 := [99, 111, 110, 116, 101, 110, 116, 45, 108, 101, 110, 103, 116, 104]
def chN : List UInt8 := [99, 104, 117, 110, 107, 101, 100]
def hoN : List UInt8 := [104, 111, 115, 116]
/-- How long a body is: -2 in chunks, -1 not told. -/
def lngL (fs : List Fld) : Except Int Int :=
  if 1 < (allH fs teN).length + (allH fs clN).length then .error 2
  else match allH fs teN with
    | x :: _ => if lowL x = chN then .ok (-2) else .error 2
    | [] => match allH fs clN with
      | y :: _ => if digitsB y then .ok (digitsN y) else .error 2
      | [] => .ok (-1)
/-- Is a text a status? -/
def stB (l : List UInt8) : Bool := digitsB l && decide (l.length = 3) && decide (100 ≤ digitsN l) && decide (digitsN l ≤ 599)
/-- A body of so many bytes (-2: in chunks; -1: of none). -/
def bodL (l : List UInt8) (n : Int) : Except Int (List UInt8 × Nat) :=
  if n = -2 then decL l
  else if 100000 < n then .error 4
  else if (l.length : Int) < n then .error 3
  else .ok (l.take n.toNat, n.toNat)

/-- The fields of a message: without how long its body is. -/
def lesL (fs : List Fld) : List Fld := withoutH fs [clN, teN]

/-- Four cells of nothing. -/
structure Nil4 (W : World) (c : Nat) : Prop where
  r0 : W.cell? ⟨c, 0, none⟩ = some (.string ⟨#[]⟩)
  r1 : W.cell? ⟨c, 1, none⟩ = some (.string ⟨#[]⟩)
  r2 : W.cell? ⟨c, 2, none⟩ = some (.slice none 0 0)
  r3 : W.cell? ⟨c, 3, none⟩ = some (.slice none 0 0)
  g0 : W.frozen? ⟨c, 0, none⟩ = false
  g1 : W.frozen? ⟨c, 1, none⟩ = false
  g2 : W.frozen? ⟨c, 2, none⟩ = false
  g3 : W.frozen? ⟨c, 3, none⟩ = false
abbrev nilQ : Obj := .cells #[.string ⟨#[]⟩, .string ⟨#[]⟩, .slice none 0 0, .slice none 0 0] 26
theorem Nil4.made (w : World) : Nil4 (w.alloc nilQ) w.heap.size := ⟨by simp, by simp, by simp, by simp, by simp, by simp, by simp, by simp⟩
theorem Nil4.lt {W : World} {c : Nat} (h : Nil4 W c) : c < W.heap.size := lt_of_cell h.r0
theorem Nil4.next {W W1 : World} {c b : Nat} (h : Nil4 W c) (hb : Below b W W1) (hc : c < b) : Nil4 W1 c :=
  ⟨(hb.cell (p := ⟨c, 0, none⟩) hc).trans h.r0, (hb.cell (p := ⟨c, 1, none⟩) hc).trans h.r1, (hb.cell (p := ⟨c, 2, none⟩) hc).trans h.r2, (hb.cell (p := ⟨c, 3, none⟩) hc).trans h.r3, (hb.frozen (p := ⟨c, 0, none⟩) hc).trans h.g0, (hb.frozen (p := ⟨c, 1, none⟩) hc).trans h.g1, (hb.frozen (p := ⟨c, 2, none⟩) hc).trans h.g2, (hb.frozen (p := ⟨c, 3, none⟩) hc).trans h.g3⟩

/-- Bytes in memory, from a block on. -/
def BytF (lo : Nat) (w : World) (v : Value) (bs : List UInt8) : Prop :=
  ∃ ao cap, v = .slice ao bs.length cap ∧ (bs = [] ∨ ∃ b off, ao = some ⟨b, off, none⟩ ∧ lo ≤ b ∧ b < w.heap.size ∧ ∀ j c, bs[j]? = some c → w.cell? ⟨b, off + j, none⟩ = some (bytV c))
theorem BytF.below {lo : Nat} {w w' : World} {v : Value} {bs : List UInt8} (h : BytF lo w v bs) (hb : Below w.heap.size w w') : BytF lo w' v bs := by
  obtain ⟨ao, cap, hv, hc⟩ := h
  rcases hc with hc | ⟨b, off, h1, h2, h3, h4⟩
  · exact ⟨ao, cap, hv, .inl hc⟩
  · exact ⟨ao, cap, hv, .inr ⟨b, off, h1, h2, Nat.lt_of_lt_of_le h3 hb.size, fun j c hj => (hb.cell (p := ⟨b, off + j, none⟩) h3).trans (h4 j c hj)⟩⟩
theorem BytF.moved {lo x : Nat} {w w' : World} {v : Value} {bs : List UInt8} (h : BytF lo w v bs) (hm : Moved x w w') (hx : x < lo) : BytF lo w' v bs := by
  obtain ⟨ao, cap, hv, hc⟩ := h
  rcases hc with hc | ⟨b, off, h1, h2, h3, h4⟩
  · exact ⟨ao, cap, hv, .inl hc⟩
  · exact ⟨ao, cap, hv, .inr ⟨b, off, h1, h2, Nat.lt_of_lt_of_le h3 hm.size, fun j c hj => (hm.cell (p := ⟨b, off + j, none⟩) h3 (show b ≠ x by omega)).trans (h4 j c hj)⟩⟩
theorem BytF.low {lo lo' : Nat} {w : World} {v : Value} {bs : List UInt8} (h : BytF lo w v bs) (hl : lo' ≤ lo) : BytF lo' w v bs := by
  obtain ⟨ao, cap, hv, hc⟩ := h
  rcases hc with hc | ⟨b, off, h1, h2, h3, h4⟩
  · exact ⟨ao, cap, hv, .inl hc⟩
  · exact ⟨ao, cap, hv, .inr ⟨b, off, h1, by omega, h3, h4⟩⟩

/-- A text up to the next space, and what is behind. -/
def cut32 (l : List UInt8) : List UInt8 × List UInt8 × Bool :=
  if Lib.indexByte l 32 = -1 then (l, [], false) else (l.take (Lib.indexByte l 32).toNat, l.drop ((Lib.indexByte l 32).toNat + 1), true)
theorem cutV_32 (l : List UInt8) : cutV l 32 = .tuple #[.string (strB (cut32 l).1), .string (strB (cut32 l).2.1), .bool (cut32 l).2.2] := by
  unfold cutV cut32
  by_cases h : Lib.indexByte l 32 = -1
  · rw [if_pos h, if_pos h] <;> rfl
  · rw [if_neg h, if_neg h]
theorem cut32_len (l : List UInt8) : (cut32 l).1.length ≤ l.length ∧ (cut32 l).2.1.length ≤ l.length := by
  unfold cut32
  by_cases h : Lib.indexByte l 32 = -1
  · rewrite [if_pos h]; exact ⟨Nat.le_refl _, Nat.zero_le _⟩
  · rewrite [if_neg h]; exact ⟨List.length_take_le' _ _, by simp⟩

/-- HTTP/1.1 -/
def h11 : List UInt8 := [72, 84, 84, 80, 47, 49, 46, 49]
structure Rq where
  m : List UInt8
  t : List UInt8
  fs : List Fld
  b : List UInt8
/-- Method and target of a first line. -/
def frL (l : List UInt8) : Option (List UInt8 × List UInt8) :=
  if (cut32 l).2.2 && (cut32 (cut32 l).2.1).2.2 && tokL (cut32 l).1 && tgtL (cut32 (cut32 l).2.1).1 && decide ((cut32 (cut32 l).2.1).2.1 = h11) then some ((cut32 l).1, (cut32 (cut32 l).2.1).1) else none
/-- The request with which a text begins, and how long it is. -/
def rdQ (l : List UInt8) : Except Int (Rq × Nat) :=
  if (lineL l).2 ≠ 0 then .error (lineL l).2
  else match frL (lineL l).1 with
    | none => .error 2
    | some (m, t) => match parseH (l.drop ((lineL l).1.length + 2)) with
      | .error e => .error e
      | .ok (fs, n) =>
        if (allH fs hoN).length ≠ 1 then .error 2
        else match lngL fs with
          | .error e => .error e
          | .ok k => match bodL (l.drop ((lineL l).1.length + 2 + n)) k with
            | .error e => .error e
            | .ok (b, u) => .ok (⟨m, t, lesL fs, b⟩, (lineL l).1.length + 2 + n + u)
def rqPost (o : Except Int (Rq × Nat)) (w : World) (e : Ending) (w' : World) : Prop :=
  Below w.heap.size w w' ∧ match o with
    | .error x => e = .returned (.tuple #[.agg #[.string ⟨#[]⟩, .string ⟨#[]⟩, .slice none 0 0, .slice none 0 0], .int .i64 0, .int .i64 x])
    | .ok (q, n) => ∃ vf vb, e = .returned (.tuple #[.agg #[.string (strB q.m), .string (strB q.t), vf, vb], .int .i64 (n : Int), .int .i64 0]) ∧ Flds w.heap.size w' vf q.fs ∧ BytF w.heap.size w' vb q.b

/-- Three cells of nothing. -/
structure Nil3 (W : World) (c : Nat) : Prop where
  r0 : W.cell? ⟨c, 0, none⟩ = some (.int .i64 0)
  r1 : W.cell? ⟨c, 1, none⟩ = some (.slice none 0 0)
  r2 : W.cell? ⟨c, 2, none⟩ = some (.slice none 0 0)
  g0 : W.frozen? ⟨c, 0, none⟩ = false
  g1 : W.frozen? ⟨c, 1, none⟩ = false
  g2 : W.frozen? ⟨c, 2, none⟩ = false
abbrev nilP : Obj := .cells #[.int .i64 0, .slice none 0 0, .slice none 0 0] 31
theorem Nil3.made (w : World) : Nil3 (w.alloc nilP) w.heap.size := ⟨by simp, by simp, by simp, by simp, by simp, by simp⟩
theorem Nil3.lt {W : World} {c : Nat} (h : Nil3 W c) : c < W.heap.size := lt_of_cell h.r0
theorem Nil3.next {W W1 : World} {c b : Nat} (h : Nil3 W c) (hb : Below b W W1) (hc : c < b) : Nil3 W1 c :=
  ⟨(hb.cell (p := ⟨c, 0, none⟩) hc).trans h.r0, (hb.cell (p := ⟨c, 1, none⟩) hc).trans h.r1, (hb.cell (p := ⟨c, 2, none⟩) hc).trans h.r2, (hb.frozen (p := ⟨c, 0, none⟩) hc).trans h.g0, (hb.frozen (p := ⟨c, 1, none⟩) hc).trans h.g1, (hb.frozen (p := ⟨c, 2, none⟩) hc).trans h.g2⟩

structure Rp where
  n : Int
  fs : List Fld
  b : List UInt8
/-- The status of a first line. -/
def frP (l : List UInt8) : Option Int :=
  if (cut32 l).2.2 && (cut32 (cut32 l).2.1).2.2 && decide ((cut32 l).1 = h11) && stB (cut32 (cut32 l).2.1).1 && txtL (cut32 (cut32 l).2.1).2.1 then some (digitsN (cut32 (cut32 l).2.1).1) else none
/-- The response that a text is, to a method. -/
def rdP (l : List UInt8) (me : ByteArray) : Except Int Rp :=
  if (lineL l).2 ≠ 0 then .error (lineL l).2
  else match frP (lineL l).1 with
    | none => .error 2
    | some n => match parseH (l.drop ((lineL l).1.length + 2)) with
      | .error e => .error e
      | .ok (fs, m) => match lngL fs with
        | .error e => .error e
        | .ok k =>
          if bareB n me then (if l.drop ((lineL l).1.length + 2 + m) = [] then .ok ⟨n, lesL fs, []⟩ else .error 2)
          else match bodL (l.drop ((lineL l).1.length + 2 + m)) (if k = -1 then ((l.drop ((lineL l).1.length + 2 + m)).length : Int) else k) with
            | .error e => .error e
            | .ok (b, u) => if u = (l.drop ((lineL l).1.length + 2 + m)).length then .ok ⟨n, lesL fs, b⟩ else .error 2
def rpPost (o : Except Int Rp) (w : World) (e : Ending) (w' : World) : Prop :=
  Below w.heap.size w w' ∧ match o with
    | .error x => e = .returned (.tuple #[.agg #[.int .i64 0, .slice none 0 0, .slice none 0 0], .int .i64 x])
    | .ok q => ∃ vf vb, e = .returned (.tuple #[.agg #[.int .i64 q.n, vf, vb], .int .i64 0]) ∧ Flds w.heap.size w' vf q.fs ∧ BytF w.heap.size w' vb q.b


end Go.Proofs.YthbfcamfapgodaaGreatDoor
