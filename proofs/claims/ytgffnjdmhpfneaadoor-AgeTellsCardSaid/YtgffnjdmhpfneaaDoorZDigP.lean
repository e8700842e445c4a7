/- The contract of ascii.Digits (for a seat on BasP). -/
import Derived.Test.YtgffnjdmhpfneaaDoorZAscN
import Derived.Test.YtgffnjdmhpfneaaDoorZMBasP

namespace Go.Proofs.YtgffnjdmhpfneaaDoor
open Go.RowKit

set_option maxHeartbeats 400000 in
theorem digits_any (s : ByteArray) (w : World) (hs : s.size ≤ maxLen) :
    Calls Tryd.prog 22 #[.string s] w fun e w' => e = .returned (.tuple #[.int .i64 (digitsN s.data.toList), .bool (digitsB s.data.toList)]) ∧ w = w' := by
  unfold maxLen at hs
  go_enter Tryd.func22, Tryd.ntmps22
  go_wp2
  go_loop [4, 8] (fun n i => ∃ k : Nat, k ≤ s.size ∧ i = .int .i64 k ∧ digAll (s.data.toList.take k) = true ∧ n = .int .i64 (digN (s.data.toList.take k))) (fun _ i => s.size - (intOf i).toNat)
  case atStart => exact ⟨0, Nat.zero_le _, rfl, rfl, rfl⟩
  case round =>
    obtain ⟨k, hk, rfl, hall, rfl⟩ := hrel
    obtain ⟨hn0, hn1⟩ := digN_in s k hall
    have Hall := Lib.hid hall
    clear hall
    by_cases hlt : k < s.size
    · have cD := isDigit_any (s[k].toNat : Int) w
      cases hd : digI (s[k].toNat : Int)
      · have Hf := Lib.hid (all_false_of (fun c => digI c.toNat) s k hlt hd)
        rw [hd] at cD
        clear hd
        go_wp2_with (go_at_call 32; refine cD.mono ?_; rintro e w' ⟨rfl, rfl⟩)
        go_ret2
        exact ⟨by simp [digitsN, digitsB, digAll, Hf.out], rfl⟩
      · have Hs := Lib.hid (digN_snoc s k hlt)
        have Ha := Lib.hid (all_snoc (fun c => digI c.toNat) s k hlt)
        rw [hd] at cD
        obtain ⟨h48, h57⟩ := (digI_iff _).1 hd
        have Hd := Lib.hid hd
        clear hd
        go_wp2_with (go_at_call 32; refine cD.mono ?_; rintro e w' ⟨rfl, rfl⟩)
        go_round
        case rel => exact ⟨k + 1, by omega, by go_num, by rw [digAll, Ha.out, Hd.out, Bool.and_true]; exact Hall.out, by rw [Hs.out, digStep]; exact int_eq (by split <;> omega)⟩
        case measure => simp [intOf]; omega
    · have hk' : s.size ≤ k := by omega
      go_wp2
      go_ret2
      refine ⟨two_eq (int_eq ?_) (bool_eq ?_), rfl⟩
      · rw [take_all s k hk'] at Hall ⊢
        rw [digitsN, if_pos Hall.out]
      · rw [take_all s k hk'] at Hall
        rw [digitsB, Hall.out, Lib.toList_data, Bool.true_and]

end Go.Proofs.YtgffnjdmhpfneaaDoor
