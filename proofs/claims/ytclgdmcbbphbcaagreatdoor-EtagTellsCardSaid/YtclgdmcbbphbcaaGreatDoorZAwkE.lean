/- Plain: what the law's 'awake' over package etag asks. -/
import Derived.Test.YtclgdmcbbphbcaaGreatDoorZMHdS
import Derived.Test.YtclgdmcbbphbcaaGreatDoorZEvP

namespace Go.Proofs.YtclgdmcbbphbcaaGreatDoor
open Go.RowKit

theorem ae_1 : prsE [87, 47, 34, 97, 34] = some (true, [97]) := by decide +kernel
theorem ae_2 : prsE [34, 97, 34] = some (false, [97]) := by decide +kernel
theorem ae_3 : lstE [32, 34, 120, 34, 32, 44, 44, 32, 87, 47, 34, 97, 44, 98, 34] = some ([(false, [120]), (true, [97, 44, 98])], false) := by decide +kernel
theorem ae_4 : lstE [32, 42, 32] = some ([], true) := by decide +kernel
theorem ae_5 : txtE (true, [97]) = [87, 47, 34, 97, 34] ∧ vldE (true, [97]) = true := by decide +kernel
def aeQ : List Fld := [(nInm, [34, 98, 34, 44, 32, 34, 97, 34])]
def aeP : List Fld := [(nEtg, [87, 47, 34, 97, 34])]
theorem ae_6 : heldE aeQ aeP = true := by decide +kernel
theorem ae_ok : FldsOk aeQ ∧ FldsOk aeP := by
  constructor
  · refine ⟨by decide, fun p hp => ?_⟩
    obtain rfl := List.mem_singleton.1 hp
    decide
  · refine ⟨by decide, fun p hp => ?_⟩
    obtain rfl := List.mem_singleton.1 hp
    decide
theorem all_one (a b n : List UInt8) : joinH (allH [(a, b)] n) = if a = n then b else [] := by
  unfold allH
  by_cases h : a = n
  · rw [if_pos h]
    simp [h, joinH, tailH]
  · rw [if_neg h]
    simp [h, joinH]
theorem ae_j : (∀ n, (joinH (allH aeQ n)).length ≤ 90000) ∧ (∀ n, (joinH (allH aeP n)).length ≤ 90000) := by
  constructor
  · intro n
    rw [aeQ, all_one]
    split <;> decide
  · intro n
    rw [aeP, all_one]
    split <;> decide
/-- One field that was just made. -/
theorem flds_one (W : World) (a b : List UInt8) (T : TypeId) : Flds 0 (W.alloc (.cells #[.string (strB a), .string (strB b)] T)) (.slice (some ⟨W.heap.size, 0, none⟩) 1 1) [(a, b)] := by
  refine ⟨_, 1, rfl, .inr ⟨W.heap.size, 0, rfl, Nat.zero_le _, by simp, fun j p hj => ?_⟩⟩
  match j, hj with
  | 0, hj =>
    obtain rfl := Option.some.inj hj
    exact ⟨by simp, by simp⟩
  | j + 1, hj => simp at hj

end Go.Proofs.YtclgdmcbbphbcaaGreatDoor
