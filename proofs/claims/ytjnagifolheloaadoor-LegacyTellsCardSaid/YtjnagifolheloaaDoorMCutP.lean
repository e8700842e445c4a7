/- The contract of strings.Cut at a separator of one byte. -/
import Derived.Test.YtjnagifolheloaaDoorShelf
import Derived.Test.YtjnagifolheloaaDoorRows
import Derived.Test.YtjnagifolheloaaDoorMBasP
import Derived.Lib.IndexLaws
import Derived.IntWalk
import Derived.BigQuiet
import Derived.Deep.QuietTactic
import Derived.WalkKit
import Derived.WalkSpells
import Derived.WalkLawsBesides

namespace Go.Proofs.YtjnagifolheloaaDoor
open Go.RowKit

/-- What stands ahead of the first such byte, and whether there is one. -/
def cutV (l : List UInt8) (c : UInt8) : Value :=
  if Lib.indexByte l c = -1 then .tuple #[.string (strB l), .string ⟨#[]⟩, .bool false]
  else .tuple #[.string (strB (l.take (Lib.indexByte l c).toNat)), .string (strB (l.drop ((Lib.indexByte l c).toNat + 1))), .bool true]

def cutPost (v : Value) (w : World) (e : Ending) (w' : World) : Prop := e = .returned v ∧ Below w.heap.size w w'

theorem index_le (l : List UInt8) (c : UInt8) (h : Lib.indexByte l c ≠ -1) : 0 ≤ Lib.indexByte l c ∧ (Lib.indexByte l c).toNat < l.length := by
  have h1 := Lib.indexByte_ge l c
  have h2 : 0 ≤ Lib.indexByte l c := by omega
  refine ⟨h2, ?_⟩
  obtain ⟨o, ho⟩ := Int.eq_ofNat_of_zero_le h2
  obtain ⟨h3, _⟩ := Lib.indexByte_some (l := l) (c := c) (o := o) ho
  rw [ho]
  exact (List.getElem?_eq_some_iff.1 h3).1

set_option maxHeartbeats 1000000 in
theorem slCut_any (s : ByteArray) (c : UInt8) (w : World) (hs : s.size ≤ 100000) :
    Calls Tryd.prog 49 #[.string s, .string ⟨#[c]⟩] w (cutPost (cutV s.data.toList c) w) := by
  have cI := (Tryd.stringslite_Index_one s c w).mono (R' := fun e w' => e = .returned (.int .i64 (Lib.indexByte s.data.toList c)) ∧ w = w') (fun e w' h => ⟨h.1, h.2.symm⟩)
  by_cases h : Lib.indexByte s.data.toList c = -1
  · have hv : cutV s.data.toList c = .tuple #[.string s, .string ⟨#[]⟩, .bool false] := by rw [cutV, if_pos h, strB_of]
    rw [hv]
    rw [h] at cI
    clear hv h
    go_enter Tryd.func49, Tryd.ntmps49
    go_wp2_with (go_at_call 65; refine cI.mono ?_; rintro e w' ⟨rfl, rfl⟩)
    exact bodyPost_ret (v := .tuple #[.string s, .string ⟨#[]⟩, .bool false]) (by simp [results, Tryd.results49, go_sem]) rfl ⟨rfl, Below.refl _ _⟩
  · obtain ⟨h0, h1⟩ := index_le _ _ h
    rw [← Lib.size_eq] at h1
    obtain ⟨o, ho⟩ := Int.eq_ofNat_of_zero_le h0
    have hv : cutV s.data.toList c = .tuple #[.string (s.extract 0 o), .string (s.extract (o + 1) s.size), .bool true] := by
      rw [cutV, if_neg h, ho, Int.toNat_natCast, ← extract_take, ← Lib.extract_to_end, strB_of, strB_of]
    rw [hv]
    rw [ho] at cI h1
    rw [Int.toNat_natCast] at h1
    clear hv h h0 ho
    have hge : decide ((0 : Int) ≤ (o : Int)) = true := by simp
    have W1 : Hid (IntKind.i64.wrap ((o : Int) + 1) = (o : Int) + 1) := Lib.hid (IntWalk.i64_in _ (by omega))
    have T1 : Hid (((o : Int) + 1).toNat = o + 1) := Lib.hid (by omega)
    have L1 : Hid ((0 : Int) ≤ (o : Int) + 1) := Lib.hid (by omega)
    have L2 : Hid ((o : Int) + 1 ≤ (s.size : Int)) := Lib.hid (by omega)
    have L3 : Hid ((o : Int) ≤ (s.size : Int)) := Lib.hid (by omega)
    go_enter Tryd.func49, Tryd.ntmps49
    go_wp2_with (go_at_call 65; refine cI.mono ?_; rintro e w' ⟨rfl, rfl⟩)
    have a1 := W1.out
    have a2 := T1.out
    have a3 := L1.out
    have a4 := L2.out
    have a5 := L3.out
    have a6 : o ≤ s.size := by omega
    go_quiet (fail)
    clear a1 a2 a3 a4 a5
    go_wp2
    exact bodyPost_ret (v := .tuple #[.string (s.extract 0 o), .string (s.extract (o + 1) s.size), .bool true]) (by simp [results, Tryd.results49, go_sem]) rfl ⟨rfl, below_drewN _ _⟩

set_option maxHeartbeats 1000000 in
theorem cut_any (s : ByteArray) (c : UInt8) (w : World) (hs : s.size ≤ 100000) :
    Calls Tryd.prog 33 #[.string s, .string ⟨#[c]⟩] w (cutPost (cutV s.data.toList c) w) := by
  have cS := slCut_any s c w hs
  have hex : ∃ a b r, cutV s.data.toList c = .tuple #[.string a, .string b, .bool r] := by
    rw [cutV]
    split
    · exact ⟨_, _, _, rfl⟩
    · exact ⟨_, _, _, rfl⟩
  obtain ⟨a, b, r, he⟩ := hex
  rw [he] at cS ⊢
  clear he
  go_enter Tryd.func33, Tryd.ntmps33
  go_wp2_with (go_at_call 49; refine cS.mono ?_; rintro e w1 ⟨rfl, hb1⟩)
  exact bodyPost_ret (v := .tuple #[.string a, .string b, .bool r]) (by simp [results, Tryd.results33, go_sem]) rfl ⟨rfl, hb1⟩

end Go.Proofs.YtjnagifolheloaaDoor
