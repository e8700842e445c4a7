/- The contracts of ascii.quotedLength and ascii.partEnd (for a seat on BasP). -/
import Derived.Test.YtjnagifolheloaaDoorRows
import Derived.Test.YtjnagifolheloaaDoorMSpP
import Derived.WalkKit
import Derived.WalkSpells
import Derived.WalkLawsBesides

namespace Go.Proofs.YtjnagifolheloaaDoor
open Go.RowKit

set_option maxHeartbeats 400000 in
theorem quotedLength_any (s : ByteArray) (w : World) (hs : s.size ≤ maxLen) (h0 : 0 < s.size) :
    Calls Tryd.prog 46 #[.string s] w fun e w' => e = .returned (.int .i64 (quoL s.data.toList : Int)) ∧ w = w' := by
  unfold maxLen at hs
  go_enter Tryd.func46, Tryd.ntmps46
  go_wp2
  go_loop [3, 4] (fun b i => ∃ k m : Nat, 1 ≤ k ∧ k ≤ s.size ∧ m ≤ k ∧ i = .int .i64 k ∧ b = .int .i64 m ∧ Hid (quoL s.data.toList = k + qgo (m % 2 == 1) (s.data.toList.drop k))) (fun _ i => s.size - (intOf i).toNat)
  case atStart => exact ⟨1, 0, by omega, by omega, by omega, rfl, rfl, Lib.hid rfl⟩
  case round =>
    obtain ⟨k, m, hk1, hk, hm, rfl, rfl, H⟩ := hrel
    by_cases hlt : k < s.size
    · have Hdr := Lib.hid (drop_cons_at s k hlt)
      have B92 : Hid (((s[k].toNat : Int) == 92) = (s[k] == 92)) := Lib.hid (byte_beq s[k] 92)
      have B34 : Hid (((s[k].toNat : Int) == 34) = (s[k] == 34)) := Lib.hid (byte_beq s[k] 34)
      cases h92 : ((s[k].toNat : Int) == 92)
      · have P92 := Lib.hid (B92.out.symm.trans h92)
        cases h34 : ((s[k].toNat : Int) == 34)
        · have P34 := Lib.hid (B34.out.symm.trans h34)
          go_wp2
          go_round
          case rel => exact ⟨k + 1, 0, by omega, by omega, by omega, by go_num, rfl, Lib.hid (by rw [H.out, Hdr.out, qgo, P92.out, P34.out]; simp; omega)⟩
          case measure => simp [intOf]; omega
        · have P34 := Lib.hid (B34.out.symm.trans h34)
          cases hm2 : ((m : Int) % 2 == 0)
          · have Pm : Hid ((m % 2 == 1) = true) := Lib.hid (by simp at hm2 ⊢; omega)
            go_wp2
            go_round
            case rel => exact ⟨k + 1, 0, by omega, by omega, by omega, by go_num, rfl, Lib.hid (by rw [H.out, Hdr.out, qgo, P92.out, P34.out, Pm.out]; simp; omega)⟩
            case measure => simp [intOf]; omega
          · have Pm : Hid ((m % 2 == 1) = false) := Lib.hid (by simp at hm2 ⊢; omega)
            go_wp2
            go_ret
            exact ⟨ret_eq (int_eq (by rw [H.out, Hdr.out, qgo, P92.out, P34.out, Pm.out]; simp)), rfl⟩
      · have P92 := Lib.hid (B92.out.symm.trans h92)
        go_wp2
        go_round
        case rel =>
          refine ⟨k + 1, m + 1, by omega, by omega, by omega, by go_num, by go_num, Lib.hid ?_⟩
          rw [H.out, Hdr.out, qgo, P92.out]
          have e : ((m + 1) % 2 == 1) = !(m % 2 == 1) := by
            rcases Nat.mod_two_eq_zero_or_one m with h | h
            · rw [h, show (m + 1) % 2 = 1 by omega]; rfl
            · rw [h, show (m + 1) % 2 = 0 by omega]; rfl
          rw [e]
          simp
          omega
        case measure => simp [intOf]; omega
    · have Hd : Hid (s.data.toList.drop k = []) := Lib.hid (List.drop_of_length_le (by rw [← Lib.size_eq]; omega))
      go_wp2
      go_ret
      exact ⟨ret_eq (int_eq (by rw [H.out, Hd.out, qgo]; omega)), rfl⟩

set_option maxHeartbeats 400000 in
theorem partEnd_any (s : ByteArray) (w : World) (hs : s.size ≤ maxLen) :
    Calls Tryd.prog 31 #[.string s] w fun e w' => e = .returned (.int .i64 (peL s.data.toList : Int)) ∧ w = w' := by
  unfold maxLen at hs
  go_enter Tryd.func31, Tryd.ntmps31
  go_wp2
  go_loop [3] (fun i => ∃ k : Nat, k ≤ s.size ∧ i = .int .i64 k ∧ Hid (peL s.data.toList = k + peS none (s.data.toList.drop k))) (fun i => s.size - (intOf i).toNat)
  case atStart => exact ⟨0, by omega, rfl, Lib.hid (by simp [peL])⟩
  case round =>
    obtain ⟨k, hk, rfl, H⟩ := hrel
    by_cases hlt : k < s.size
    · have Hdr := Lib.hid (drop_cons_at s k hlt)
      have B44 : Hid (((s[k].toNat : Int) == 44) = (s[k] == 44)) := Lib.hid (byte_beq s[k] 44)
      have B34 : Hid (((s[k].toNat : Int) == 34) = (s[k] == 34)) := Lib.hid (byte_beq s[k] 34)
      cases h44 : ((s[k].toNat : Int) != 44)
      · have P44 : Hid ((s[k] == 44) = true) := Lib.hid (by rw [← B44.out]; simpa using h44)
        go_wp2
        go_ret
        exact ⟨ret_eq (int_eq (by rw [H.out, Hdr.out, peS, P44.out]; simp)), rfl⟩
      · have P44 : Hid ((s[k] == 44) = false) := Lib.hid (by rw [← B44.out]; simpa using h44)
        cases h34 : ((s[k].toNat : Int) == 34)
        · have P34 := Lib.hid (B34.out.symm.trans h34)
          go_wp2
          go_round
          case rel => exact ⟨k + 1, by omega, by go_num, Lib.hid (by rw [H.out, Hdr.out, peS, P44.out, P34.out]; simp; omega)⟩
          case measure => simp [intOf]; omega
        · have P34 := Lib.hid (B34.out.symm.trans h34)
          have hsz : (s.extract k s.size).size = s.size - k := by rw [Lib.size_eq, Lib.extract_to_end, List.length_drop, ← Lib.size_eq]
          have cQ := quotedLength_any (s.extract k s.size) w (by unfold maxLen; omega) (by omega)
          clear hsz
          have Hx := Lib.hid (Lib.extract_to_end s k)
          have hqle : quoL (s.extract k s.size).data.toList ≤ s.size - k := by
            have := quoL_le (s.extract k s.size).data.toList (by rw [Hx.out, List.length_drop, ← Lib.size_eq]; omega)
            rw [Hx.out, List.length_drop, ← Lib.size_eq] at this
            rw [Hx.out]
            exact this
          have hq1 : 1 ≤ quoL (s.extract k s.size).data.toList := by unfold quoL; omega
          have Hq : Hid (peS none (s.data.toList.drop k) = quoL (s.extract k s.size).data.toList + peS none (s.data.toList.drop (k + quoL (s.extract k s.size).data.toList))) := Lib.hid (by
            have e : s[k] = 34 := by simpa using P34.out
            rw [Hx.out, ← List.drop_drop, Hdr.out, e]
            exact peS_quoted _)
          generalize quoL (s.extract k s.size).data.toList = q at cQ hqle hq1 Hq
          go_wp2_with (go_at_call 46; refine cQ.mono ?_; rintro e w' ⟨rfl, rfl⟩)
          go_round
          case rel => exact ⟨k + q, by omega, by go_num, Lib.hid (by rw [H.out, Hq.out]; omega)⟩
          case measure => simp [intOf]; omega
    · have Hd : Hid (s.data.toList.drop k = []) := Lib.hid (List.drop_of_length_le (by rw [← Lib.size_eq]; omega))
      go_wp2
      go_ret
      exact ⟨ret_eq (int_eq (by rw [H.out, Hd.out, peS]; omega)), rfl⟩

end Go.Proofs.YtjnagifolheloaaDoor
