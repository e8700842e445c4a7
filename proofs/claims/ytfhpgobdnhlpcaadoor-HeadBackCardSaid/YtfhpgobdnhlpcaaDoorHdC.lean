/- The contracts of strings.Cut at one byte, and of head.endless, firstLine, fieldOf. -/
import Derived.Test.YtfhpgobdnhlpcaaDoorHdA
import Derived.Test.YtfhpgobdnhlpcaaDoorHdB
import Derived.Lib.IndexLaws
import Derived.IntWalk
import Derived.Lib.Hide
import Derived.Deep.QuietTactic
import Derived.BigQuiet
namespace Go.Proofs.YtfhpgobdnhlpcaaDoor
open Go.RowKit Go.Shelf Go.Lib

/-- What stands ahead of the first such byte, and whether there is one. -/
def cutV (l : List UInt8) (c : UInt8) : Value :=
  if Lib.indexByte l c = -1 then .tuple #[.string (strB l), .string ⟨#[]⟩, .bool false]
  else .tuple #[.string (strB (l.take (Lib.indexByte l c).toNat)), .string (strB (l.drop ((Lib.indexByte l c).toNat + 1))), .bool true]

def cutPost (v : Value) (w : World) (e : Ending) (w' : World) : Prop := e = .returned v ∧ Below w.heap.size w w'

theorem index_le (l : List UInt8) (c : UInt8) (h : Lib.indexByte l c ≠ -1) : 0 ≤ Lib.indexByte l c ∧ (Lib.indexByte l c).toNat < l.length := by
  have h1 := Lib.indexByte_ge l c
  have h2 : 0 ≤ Lib.indexByte l c := by omega
  refine ⟨h2, ?_⟩
  obtain ⟨o, ho⟩ := Int.eq_ofNat_of_zero_le h2
  obtain ⟨h3, _⟩ := Lib.indexByte_some (l := l) (c := c) (o := o) ho
  rw [ho]
  exact (List.getElem?_eq_some_iff.1 h3).1

set_option maxHeartbeats 1000000 in
theorem slCut_any (s : ByteArray) (c : UInt8) (w : World) (hs : s.size ≤ 100000) :
    Calls Tryd.prog 65 #[.string s, .string ⟨#[c]⟩] w (cutPost (cutV s.data.toList c) w) := by
  have cI := (Tryd.stringslite_Index_one s c w).mono (R' := fun e w' => e = .returned (.int .i64 (Lib.indexByte s.data.toList c)) ∧ w = w') (fun e w' h => ⟨h.1, h.2.symm⟩)
  by_cases h : Lib.indexByte s.data.toList c = -1
  · have hv : cutV s.data.toList c = .tuple #[.string s, .string ⟨#[]⟩, .bool false] := by rw [cutV, if_pos h, strB_of]
    rw [hv]
    rw [h] at cI
    clear hv h
    go_enter Tryd.func65, Tryd.ntmps65
    go_wp2_with (go_at_call 80; refine cI.mono ?_; rintro e w' ⟨rfl, rfl⟩)
    exact bodyPost_ret (v := .tuple #[.string s, .string ⟨#[]⟩, .bool false]) (by simp [results, Tryd.results65, go_sem]) rfl ⟨rfl, Below.refl _ _⟩
  · obtain ⟨h0, h1⟩ := index_le _ _ h
    rw [← Lib.size_eq] at h1
    obtain ⟨o, ho⟩ := Int.eq_ofNat_of_zero_le h0
    have hv : cutV s.data.toList c = .tuple #[.string (s.extract 0 o), .string (s.extract (o + 1) s.size), .bool true] := by
      rw [cutV, if_neg h, ho, Int.toNat_natCast, ← extract_take, ← Lib.extract_to_end, strB_of, strB_of]
    rw [hv]
    rw [ho] at cI h1
    rw [Int.toNat_natCast] at h1
    clear hv h h0 ho
    have hge : decide ((0 : Int) ≤ (o : Int)) = true := by simp
    have W1 : Hid (IntKind.i64.wrap ((o : Int) + 1) = (o : Int) + 1) := Lib.hid (IntWalk.i64_in _ (by omega))
    have T1 : Hid (((o : Int) + 1).toNat = o + 1) := Lib.hid (by omega)
    have L1 : Hid ((0 : Int) ≤ (o : Int) + 1) := Lib.hid (by omega)
    have L2 : Hid ((o : Int) + 1 ≤ (s.size : Int)) := Lib.hid (by omega)
    have L3 : Hid ((o : Int) ≤ (s.size : Int)) := Lib.hid (by omega)
    go_enter Tryd.func65, Tryd.ntmps65
    go_wp2_with (go_at_call 80; refine cI.mono ?_; rintro e w' ⟨rfl, rfl⟩)
    have a1 := W1.out
    have a2 := T1.out
    have a3 := L1.out
    have a4 := L2.out
    have a5 := L3.out
    have a6 : o ≤ s.size := by omega
    go_quiet (fail)
    clear a1 a2 a3 a4 a5
    go_wp2
    exact bodyPost_ret (v := .tuple #[.string (s.extract 0 o), .string (s.extract (o + 1) s.size), .bool true]) (by simp [results, Tryd.results65, go_sem]) rfl ⟨rfl, below_drewN _ _⟩

set_option maxHeartbeats 1000000 in
theorem cut_any (s : ByteArray) (c : UInt8) (w : World) (hs : s.size ≤ 100000) :
    Calls Tryd.prog 47 #[.string s, .string ⟨#[c]⟩] w (cutPost (cutV s.data.toList c) w) := by
  have cS := slCut_any s c w hs
  have hex : ∃ a b r, cutV s.data.toList c = .tuple #[.string a, .string b, .bool r] := by
    rw [cutV]
    split
    · exact ⟨_, _, _, rfl⟩
    · exact ⟨_, _, _, rfl⟩
  obtain ⟨a, b, r, he⟩ := hex
  rw [he] at cS ⊢
  clear he
  go_enter Tryd.func47, Tryd.ntmps47
  go_wp2_with (go_at_call 65; refine cS.mono ?_; rintro e w1 ⟨rfl, hb1⟩)
  exact bodyPost_ret (v := .tuple #[.string a, .string b, .bool r]) (by simp [results, Tryd.results47, go_sem]) rfl ⟨rfl, hb1⟩

/-- The first line, without its end, or why there is none. -/
def lineL (l : List UInt8) : List UInt8 × Int :=
  if Lib.indexByte l 10 = -1 then ([], if 2002 < l.length then 4 else 3)
  else if Lib.hasSuffix (l.take (Lib.indexByte l 10).toNat) [13] = false then ([], 2)
  else if 2000 < (Lib.trimSuffix (l.take (Lib.indexByte l 10).toNat) [13]).length then ([], 4)
  else (Lib.trimSuffix (l.take (Lib.indexByte l 10).toNat) [13], 0)
def lineV (p : List UInt8 × Int) : Value := .tuple #[.string (strB p.1), .int .i64 p.2]

theorem endless_any (s : ByteArray) (w : World) :
    Calls Tryd.prog 48 #[.string s] w fun e w' => e = .returned (.int .i64 (if 2002 < s.size then 4 else 3)) ∧ w = w' := by
  by_cases h : 2002 < s.size
  · rw [if_pos h]
    have d : (2002 : Int) < (s.size : Int) := by omega
    clear h
    go_enter Tryd.func48, Tryd.ntmps48
    go_wp2_with fail
    go_ret
    exact ⟨rfl, rfl⟩
  · rw [if_neg h]
    have d : ¬ (2002 : Int) < (s.size : Int) := by omega
    clear h
    go_enter Tryd.func48, Tryd.ntmps48
    go_wp2_with fail
    go_ret
    exact ⟨rfl, rfl⟩

set_option maxHeartbeats 2000000 in
theorem firstLine_any (s : ByteArray) (w : World) (hs : s.size ≤ 100000) :
    Calls Tryd.prog 29 #[.string s] w fun e w' => e = .returned (lineV (lineL s.data.toList)) ∧ Below w.heap.size w w' := by
  have cC := cut_any s 10 w hs
  have cE := fun W => endless_any s W
  have hsz := Lib.size_eq s
  unfold cutV at cC
  by_cases h : Lib.indexByte s.data.toList 10 = -1
  · rw [if_pos h] at cC
    have HL : Hid (lineL s.data.toList = ([], if 2002 < s.size then 4 else 3)) := Lib.hid (by rw [lineL, if_pos h, hsz])
    obtain ⟨z, hz⟩ : ∃ z : Int, (if 2002 < s.size then 4 else 3 : Int) = z := ⟨_, rfl⟩
    rw [hz] at HL cE
    clear h hz hsz
    generalize strB s.data.toList = B at *
    go_enter Tryd.func29, Tryd.ntmps29
    go_wp2_with fail
    refine cC.mono ?_
    rintro e w1 ⟨rfl, hb1⟩
    go_wp2_with fail
    refine (cE _).mono ?_
    rintro e w2 ⟨rfl, rfl⟩
    go_wp2_with fail
    refine bodyPost_ret (v := .tuple #[.string ⟨#[]⟩, .int .i64 z]) (by simp [results, Tryd.results29, go_sem]) rfl ⟨?_, hb1⟩
    rw [HL.out]
    rfl
  · rw [if_neg h] at cC
    obtain ⟨k, hk⟩ : ∃ k, (Lib.indexByte s.data.toList 10).toNat = k := ⟨_, rfl⟩
    rw [hk] at cC
    have cS := fun W => Tryd.strings_CutSuffix (strB (s.data.toList.take k)) ⟨#[13]⟩ W (by rw [strB_size, List.length_take]; omega)
    rw [strB_data, show (⟨#[13]⟩ : ByteArray).data.toList = [13] from rfl] at cS
    have hL : lineL s.data.toList = (if Lib.hasSuffix (s.data.toList.take k) [13] = false then ([], 2) else if 2000 < (Lib.trimSuffix (s.data.toList.take k) [13]).length then ([], 4) else (Lib.trimSuffix (s.data.toList.take k) [13], 0)) := by rw [lineL, if_neg h, hk]
    obtain ⟨b, hb⟩ : ∃ b, Lib.hasSuffix (s.data.toList.take k) [13] = b := ⟨_, rfl⟩
    obtain ⟨t, ht⟩ : ∃ t, Lib.trimSuffix (s.data.toList.take k) [13] = t := ⟨_, rfl⟩
    rw [hb, ht] at cS hL
    have HL := Lib.hid hL
    generalize strB (s.data.toList.take k) = B at *
    generalize strB (s.data.toList.drop (k + 1)) = D at *
    clear h hk hb ht hL hsz cE
    cases b
    · rw [if_pos rfl] at HL
      go_enter Tryd.func29, Tryd.ntmps29
      go_wp2_with fail
      refine cC.mono ?_
      rintro e w1 ⟨rfl, hb1⟩
      go_wp2_with fail
      refine (cS _).mono ?_
      rintro e w2 ⟨rfl, rfl⟩
      go_wp2_with fail
      refine bodyPost_ret (v := .tuple #[.string ⟨#[]⟩, .int .i64 2]) (by simp [results, Tryd.results29, go_sem]) rfl ⟨?_, hb1⟩
      rw [HL.out]
      rfl
    · rw [if_neg (by decide)] at HL
      by_cases hl : 2000 < t.length
      · rw [if_pos hl] at HL
        have d : (2000 : Int) < ((⟨t.toArray⟩ : ByteArray).size : Int) := by rw [Lib.size_eq]; simp; omega
        go_enter Tryd.func29, Tryd.ntmps29
        go_wp2_with fail
        refine cC.mono ?_
        rintro e w1 ⟨rfl, hb1⟩
        go_wp2_with fail
        refine (cS _).mono ?_
        rintro e w2 ⟨rfl, rfl⟩
        generalize (⟨t.toArray⟩ : ByteArray) = T at *
        go_wp2_with fail
        refine bodyPost_ret (v := .tuple #[.string ⟨#[]⟩, .int .i64 4]) (by simp [results, Tryd.results29, go_sem]) rfl ⟨?_, hb1⟩
        rw [HL.out]
        rfl
      · rw [if_neg hl] at HL
        have d : ¬ (2000 : Int) < ((⟨t.toArray⟩ : ByteArray).size : Int) := by rw [Lib.size_eq]; simp; omega
        have HT : Hid (strB t = (⟨t.toArray⟩ : ByteArray)) := Lib.hid rfl
        go_enter Tryd.func29, Tryd.ntmps29
        go_wp2_with fail
        refine cC.mono ?_
        rintro e w1 ⟨rfl, hb1⟩
        go_wp2_with fail
        refine (cS _).mono ?_
        rintro e w2 ⟨rfl, rfl⟩
        generalize (⟨t.toArray⟩ : ByteArray) = T at *
        go_wp2_with fail
        refine bodyPost_ret (v := .tuple #[.string T, .int .i64 0]) (by simp [results, Tryd.results29, go_sem]) rfl ⟨?_, hb1⟩
        rw [HL.out, lineV, HT.out]

end Go.Proofs.YtfhpgobdnhlpcaaDoor
