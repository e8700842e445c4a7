/- Plain: bytes and texts in lower case. -/
import Derived.Test.YtjnagifolheloaaDoorMBasP

namespace Go.Proofs.YtjnagifolheloaaDoor
open Go.RowKit

/-- A byte in lower case. -/
def lowB (c : UInt8) : UInt8 := if upI c.toNat then c + 32 else c
def lowTo (l : List UInt8) (k : Nat) : List UInt8 := (l.take k).map lowB ++ l.drop k
def lowL (l : List UInt8) : List UInt8 := l.map lowB

theorem lowTo_length (l : List UInt8) (k : Nat) : (lowTo l k).length = l.length := by
  simp [lowTo]; omega
theorem lowTo_zero (l : List UInt8) : lowTo l 0 = l := by simp [lowTo]
theorem lowTo_end (l : List UInt8) (k : Nat) (h : l.length ≤ k) : lowTo l k = lowL l := by
  simp [lowTo, lowL, List.take_of_length_le h, List.drop_of_length_le h]
theorem lowTo_at (l : List UInt8) (k : Nat) (h : k < l.length) : (lowTo l k).getD k 0 = l[k] := by
  have h1 : ((l.take k).map lowB).length = k := by simp; omega
  rw [lowTo, List.getD_eq_getElem?_getD, List.getElem?_append_right (by omega), h1]
  simp [h]
theorem lowTo_succ (l : List UInt8) (k : Nat) (h : k < l.length) : lowTo l (k + 1) = (lowTo l k).set k (lowB l[k]) := by
  have h1 : ((l.take k).map lowB).length = k := by simp; omega
  rw [lowTo, lowTo, List.set_append_right _ _ (by omega), h1, Nat.sub_self, List.take_succ_eq_append_getElem h, List.drop_eq_getElem_cons h, List.map_append, List.set_cons_zero, List.append_assoc]
  rfl
theorem upI_iff (c : Int) : upI c = true ↔ 65 ≤ c ∧ c ≤ 90 := by simp [upI]
theorem lowB_up (c : UInt8) (h : upI c.toNat = true) : ((lowB c).toNat : Int) = (c.toNat : Int) - 65 + 97 := by
  rw [lowB, if_pos h]
  obtain ⟨a, b⟩ := (upI_iff _).1 h
  rw [UInt8.toNat_add]
  simp
  omega
theorem lowB_not (c : UInt8) (h : upI c.toNat = false) : lowB c = c := by rw [lowB, if_neg (by simp [h])]
theorem set_same (l : List UInt8) (k : Nat) (h : k < l.length) : l.set k (l.getD k 0) = l := by
  rw [List.getD_eq_getElem?_getD, List.getElem?_eq_getElem h]
  simp
theorem lowB_idem (c : UInt8) : lowB (lowB c) = lowB c := by
  have := all_bytes (fun c => lowB (lowB c) == lowB c) (by decide +kernel) c
  simpa using this
theorem lowL_idem (l : List UInt8) : lowL (lowL l) = lowL l := by
  simp [lowL, lowB_idem]
theorem lowL_length (l : List UInt8) : (lowL l).length = l.length := by simp [lowL]
theorem pos_of (l : List UInt8) : decide (0 < l.length) = !l.isEmpty := by cases l <;> rfl

end Go.Proofs.YtjnagifolheloaaDoor
