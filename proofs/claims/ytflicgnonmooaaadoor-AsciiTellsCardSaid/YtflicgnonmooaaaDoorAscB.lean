/- The contract of ascii.Digits. -/
import Derived.Test.YtflicgnonmooaaaDoorAscA
namespace Go.Proofs.YtflicgnonmooaaaDoor
open Go.RowKit

set_option maxHeartbeats 400000 in
theorem digits_any (s : ByteArray) (w : World) (hs : s.size ≤ maxLen) :
    Calls Tryd.prog 8 #[.string s] w fun e w' => e = .returned (.tuple #[.int .i64 (digitsN s.data.toList), .bool (digitsB s.data.toList)]) ∧ w = w' := by
  unfold maxLen at hs
  go_enter Tryd.func8, Tryd.ntmps8
  go_wp2
  go_loop [4, 8] (fun n i => ∃ k : Nat, k ≤ s.size ∧ i = .int .i64 k ∧ digAll (s.data.toList.take k) = true ∧ n = .int .i64 (digN (s.data.toList.take k))) (fun _ i => s.size - (intOf i).toNat)
  case atStart => exact ⟨0, Nat.zero_le _, rfl, rfl, rfl⟩
  case round =>
    obtain ⟨k, hk, rfl, hall, rfl⟩ := hrel
    obtain ⟨hn0, hn1⟩ := digN_in s k hall
    have Hall := Lib.hid hall
    clear hall
    by_cases hlt : k < s.size
    · have cD := isDigit_any (s[k].toNat : Int) w
      cases hd : digI (s[k].toNat : Int)
      · have Hf := Lib.hid (all_false_of (fun c => digI c.toNat) s k hlt hd)
        rw [hd] at cD
        clear hd
        go_wp2_with (go_at_call 21; refine cD.mono ?_; rintro e w' ⟨rfl, rfl⟩)
        go_ret2
        exact ⟨by simp [digitsN, digitsB, digAll, Hf.out], rfl⟩
      · have Hs := Lib.hid (digN_snoc s k hlt)
        have Ha := Lib.hid (all_snoc (fun c => digI c.toNat) s k hlt)
        rw [hd] at cD
        obtain ⟨h48, h57⟩ := (digI_iff _).1 hd
        have Hd := Lib.hid hd
        clear hd
        go_wp2_with (go_at_call 21; refine cD.mono ?_; rintro e w' ⟨rfl, rfl⟩)
        go_round
        case rel => exact ⟨k + 1, by omega, by go_num, by rw [digAll, Ha.out, Hd.out, Bool.and_true]; exact Hall.out, by rw [Hs.out, digStep]; exact int_eq (by split <;> omega)⟩
        case measure => simp [intOf]; omega
    · have hk' : s.size ≤ k := by omega
      go_wp2
      go_ret2
      refine ⟨two_eq (int_eq ?_) (bool_eq ?_), rfl⟩
      · rw [take_all s k hk'] at Hall ⊢
        rw [digitsN, if_pos Hall.out]
      · rw [take_all s k hk'] at Hall
        rw [digitsB, Hall.out, Lib.toList_data, Bool.true_and]

/-- How long a quoted part is behind its first sign, by whether an odd number of backslashes stands ahead. -/
def qgo : Bool → List UInt8 → Nat
  | _, [] => 0
  | odd, c :: r => if c == 92 then 1 + qgo (!odd) r else if c == 34 && !odd then 1 else 1 + qgo false r
theorem qgo_le : ∀ (o : Bool) (l : List UInt8), qgo o l ≤ l.length
  | _, [] => Nat.le_refl _
  | o, c :: r => by
    unfold qgo
    have h1 := qgo_le (!o) r
    have h2 := qgo_le false r
    simp only [List.length_cons]
    split
    · omega
    · split <;> omega

theorem drop_cons_at (s : ByteArray) (k : Nat) (h : k < s.size) : s.data.toList.drop k = s[k] :: s.data.toList.drop (k + 1) := by
  rw [List.drop_eq_getElem_cons (by rw [← Lib.size_eq]; exact h)]; rfl

theorem byte_beq (c d : UInt8) : ((c.toNat : Int) == (d.toNat : Int)) = (c == d) := by
  rw [Bool.eq_iff_iff]
  simp only [beq_iff_eq]
  constructor
  · intro e
    exact UInt8.toNat_inj.1 (by omega)
  · intro e
    rw [e]

def quoL (l : List UInt8) : Nat := 1 + qgo false (l.drop 1)

set_option maxHeartbeats 400000 in
theorem quotedLength_any (s : ByteArray) (w : World) (hs : s.size ≤ maxLen) (h0 : 0 < s.size) :
    Calls Tryd.prog 30 #[.string s] w fun e w' => e = .returned (.int .i64 (quoL s.data.toList : Int)) ∧ w = w' := by
  unfold maxLen at hs
  go_enter Tryd.func30, Tryd.ntmps30
  go_wp2
  go_loop [3, 4] (fun b i => ∃ k m : Nat, 1 ≤ k ∧ k ≤ s.size ∧ m ≤ k ∧ i = .int .i64 k ∧ b = .int .i64 m ∧ Hid (quoL s.data.toList = k + qgo (m % 2 == 1) (s.data.toList.drop k))) (fun _ i => s.size - (intOf i).toNat)
  case atStart => exact ⟨1, 0, by omega, by omega, by omega, rfl, rfl, Lib.hid rfl⟩
  case round =>
    obtain ⟨k, m, hk1, hk, hm, rfl, rfl, H⟩ := hrel
    by_cases hlt : k < s.size
    · have Hdr := Lib.hid (drop_cons_at s k hlt)
      have B92 : Hid (((s[k].toNat : Int) == 92) = (s[k] == 92)) := Lib.hid (byte_beq s[k] 92)
      have B34 : Hid (((s[k].toNat : Int) == 34) = (s[k] == 34)) := Lib.hid (byte_beq s[k] 34)
      cases h92 : ((s[k].toNat : Int) == 92)
      · have P92 := Lib.hid (B92.out.symm.trans h92)
        cases h34 : ((s[k].toNat : Int) == 34)
        · have P34 := Lib.hid (B34.out.symm.trans h34)
          go_wp2
          go_round
          case rel => exact ⟨k + 1, 0, by omega, by omega, by omega, by go_num, rfl, Lib.hid (by rw [H.out, Hdr.out, qgo, P92.out, P34.out]; simp; omega)⟩
          case measure => simp [intOf]; omega
        · have P34 := Lib.hid (B34.out.symm.trans h34)
          cases hm2 : ((m : Int) % 2 == 0)
          · have Pm : Hid ((m % 2 == 1) = true) := Lib.hid (by simp at hm2 ⊢; omega)
            go_wp2
            go_round
            case rel => exact ⟨k + 1, 0, by omega, by omega, by omega, by go_num, rfl, Lib.hid (by rw [H.out, Hdr.out, qgo, P92.out, P34.out, Pm.out]; simp; omega)⟩
            case measure => simp [intOf]; omega
          · have Pm : Hid ((m % 2 == 1) = false) := Lib.hid (by simp at hm2 ⊢; omega)
            go_wp2
            go_ret
            exact ⟨ret_eq (int_eq (by rw [H.out, Hdr.out, qgo, P92.out, P34.out, Pm.out]; simp)), rfl⟩
      · have P92 := Lib.hid (B92.out.symm.trans h92)
        go_wp2
        go_round
        case rel =>
          refine ⟨k + 1, m + 1, by omega, by omega, by omega, by go_num, by go_num, Lib.hid ?_⟩
          rw [H.out, Hdr.out, qgo, P92.out]
          have e : ((m + 1) % 2 == 1) = !(m % 2 == 1) := by
            rcases Nat.mod_two_eq_zero_or_one m with h | h
            · rw [h, show (m + 1) % 2 = 1 by omega]; rfl
            · rw [h, show (m + 1) % 2 = 0 by omega]; rfl
          rw [e]
          simp
          omega
        case measure => simp [intOf]; omega
    · have Hd : Hid (s.data.toList.drop k = []) := Lib.hid (List.drop_of_length_le (by rw [← Lib.size_eq]; omega))
      go_wp2
      go_ret
      exact ⟨ret_eq (int_eq (by rw [H.out, Hd.out, qgo]; omega)), rfl⟩

end Go.Proofs.YtflicgnonmooaaaDoor
