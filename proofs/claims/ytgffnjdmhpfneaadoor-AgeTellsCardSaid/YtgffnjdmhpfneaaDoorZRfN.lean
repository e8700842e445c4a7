/- The contract of sculleryref01.Digits, on its own. -/
import Derived.Test.YtgffnjdmhpfneaaDoorZAscN
import Derived.Test.YtgffnjdmhpfneaaDoorZMBasP
import Derived.Test.YtgffnjdmhpfneaaDoorZAscPlain

namespace Go.Proofs.YtgffnjdmhpfneaaDoor
open Go.RowKit

set_option maxHeartbeats 1000000 in
theorem r1digits_any (s : ByteArray) (w : World) (hs : s.size ≤ maxLen) :
    Calls Tryd.prog 24 #[.string s] w fun e w' => e = .returned (.tuple #[.int .i64 (digitsN s.data.toList), .bool (digitsB s.data.toList)]) ∧ w = w' := by
  unfold maxLen at hs
  go_enter Tryd.func24, Tryd.ntmps24
  go_wp2
  go_loop [4, 5] (fun n i => ∃ k : Nat, k ≤ s.size ∧ i = .int .i64 k ∧ Hid (digAll (s.data.toList.take k) = true) ∧ n = .int .i64 (digN (s.data.toList.take k))) (fun _ i => s.size - (intOf i).toNat)
  case atStart => exact ⟨0, Nat.zero_le _, rfl, rfl, rfl⟩
  case round =>
    obtain ⟨k, hk, rfl, Hall, rfl⟩ := hrel
    obtain ⟨hn0, hn1⟩ := digN_in s k Hall.out
    by_cases hlt : k < s.size
    · by_cases hd : digI (s[k].toNat : Int) = true
      · have Hs := Lib.hid (digN_snoc s k hlt)
        have Ha := Lib.hid (all_snoc (fun c => digI c.toNat) s k hlt)
        obtain ⟨h48, h57⟩ := (digI_iff _).1 hd
        have d1 : decide ((s[k].toNat : Int) < 48) = false := by simp; omega
        have d2 : decide (57 < (s[k].toNat : Int)) = false := by simp; omega
        have Hd := Lib.hid hd
        clear hd
        go_wp2
        go_round
        case rel => exact ⟨k + 1, by omega, by go_num, Lib.hid (by rw [digAll, Ha.out, Hd.out, Bool.and_true]; exact Hall.out), by rw [Hs.out, digStep]; exact int_eq (by omega)⟩
        case measure => simp [intOf]; omega
      · have Hf := Lib.hid (all_false_of (fun c => digI c.toNat) s k hlt (by simpa using hd))
        have hn : ¬ (48 ≤ (s[k].toNat : Int) ∧ (s[k].toNat : Int) ≤ 57) := fun h => hd ((digI_iff _).2 h)
        clear hd
        cases d1 : decide ((s[k].toNat : Int) < 48) <;> cases d2 : decide (57 < (s[k].toNat : Int))
        · exfalso; simp at d1 d2; omega
        all_goals
          clear hn
          go_wp2
          go_ret2
          exact ⟨by simp [digitsN, digitsB, digAll, Hf.out], rfl⟩
    · have hk' : s.size ≤ k := by omega
      have Hp : Hid (decide (0 < s.size) = !s.data.toList.isEmpty) := Lib.hid (by rw [Lib.size_eq]; exact pos_of _)
      go_wp2
      go_ret2
      rw [take_all s k hk'] at Hall ⊢
      refine ⟨two_eq (int_eq ?_) (bool_eq ?_), rfl⟩
      · rw [digitsN, if_pos Hall.out]
      · rw [digitsB, Hall.out, Bool.true_and, ← Hp.out]

end Go.Proofs.YtgffnjdmhpfneaaDoor
