/- The contracts of ascii.inToken and Token (for a seat on BasP). -/
import Derived.Test.YtjnagifolheloaaDoorShelf
import Derived.Test.YtjnagifolheloaaDoorMLtrA
import Derived.Test.YtjnagifolheloaaDoorMBasP

namespace Go.Proofs.YtjnagifolheloaaDoor
open Go.RowKit

set_option maxHeartbeats 1000000 in
theorem inToken_any (c : Int) (w : World) :
    Calls Tryd.prog 50 #[.int .u8 c] w fun e w' => e = .returned (.bool (tchI c)) ∧ w = w' := by
  have cL := isLetter_any c w
  have cD := isDigit_any c w
  have cI := Tryd.strings_IndexByte ⟨#[33, 35, 36, 37, 38, 39, 42, 43, 45, 46, 94, 95, 96, 124, 126]⟩ c w
  have hd : tchI c = (ltrI c || digI c || decide (0 ≤ Lib.indexByte marksL c.toNat.toUInt8)) := rfl
  have hm : (⟨#[33, 35, 36, 37, 38, 39, 42, 43, 45, 46, 94, 95, 96, 124, 126]⟩ : ByteArray).data.toList = marksL := rfl
  rw [hm] at cI
  clear hm
  generalize Lib.indexByte marksL c.toNat.toUInt8 = n at cI hd
  generalize ltrI c = l at cL hd
  generalize digI c = d at cD hd
  rw [hd]
  clear hd
  cases l <;> cases d
  all_goals
    go_enter Tryd.func50, Tryd.ntmps50
    go_wp2_with (first | (go_at_call 66; refine cL.mono ?_; rintro e w' ⟨rfl, rfl⟩) | (go_at_call 57; refine cD.mono ?_; rintro e w' ⟨rfl, rfl⟩) | (go_at_call 67; refine cI.mono ?_; rintro e w' ⟨rfl, rfl⟩))
    go_ret
    exact ⟨rfl, rfl⟩

set_option maxHeartbeats 1000000 in
theorem token_any (s : ByteArray) (w : World) (hs : s.size ≤ maxLen) :
    Calls Tryd.prog 34 #[.string s] w fun e w' => e = .returned (.bool (tokL s.data.toList)) ∧ w = w' := by
  unfold maxLen at hs
  go_enter Tryd.func34, Tryd.ntmps34
  go_wp2
  go_loop [6] (fun i => ∃ k : Nat, k ≤ s.size ∧ i = .int .i64 k ∧ Hid ((s.data.toList.take k).all (fun c => tchI c.toNat) = true)) (fun i => s.size - (intOf i).toNat)
  case atStart => exact ⟨0, Nat.zero_le _, rfl, Lib.hid rfl⟩
  case round =>
    obtain ⟨k, hk, rfl, Hall⟩ := hrel
    by_cases hlt : k < s.size
    · have cT := inToken_any (s[k].toNat : Int) w
      cases hd : tchI (s[k].toNat : Int)
      · have Hf := Lib.hid (all_false_of (fun c => tchI c.toNat) s k hlt hd)
        rw [hd] at cT
        clear hd
        go_wp2_with (go_at_call 50; refine cT.mono ?_; rintro e w' ⟨rfl, rfl⟩)
        go_ret
        exact ⟨by simp [tokL, Hf.out], rfl⟩
      · have Ha := Lib.hid (all_snoc (fun c => tchI c.toNat) s k hlt)
        rw [hd] at cT
        have Hd := Lib.hid hd
        clear hd
        go_wp2_with (go_at_call 50; refine cT.mono ?_; rintro e w' ⟨rfl, rfl⟩)
        go_round
        case rel => exact ⟨k + 1, by omega, by go_num, Lib.hid (by rw [Ha.out, Hd.out, Bool.and_true]; exact Hall.out)⟩
        case measure => simp [intOf]; omega
    · have hk' : s.size ≤ k := by omega
      go_wp2
      go_ret
      refine ⟨ret_eq (bool_eq ?_), rfl⟩
      rw [take_all s k hk'] at Hall
      rw [tokL, Hall.out, Lib.toList_data, Bool.true_and]

end Go.Proofs.YtjnagifolheloaaDoor
