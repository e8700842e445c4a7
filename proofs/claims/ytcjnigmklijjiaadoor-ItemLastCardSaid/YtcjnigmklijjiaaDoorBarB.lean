/- The contracts of bare's functions on texts: inToken, isPrintable, tokenLength, leadingDigits, number, noItem. -/
import Derived.Test.YtcjnigmklijjiaaDoorBarA
namespace Go.Proofs.YtcjnigmklijjiaaDoor
open Go.RowKit

theorem tokL_one (c : UInt8) : tokL [c] = tchI c.toNat := by simp [tokL]

theorem one_eq (c d : UInt8) : ((strB [c]).toList == [d]) = (c == d) := by
  rw [Lib.toList_data, strB_data, Bool.eq_iff_iff]
  simp

set_option maxHeartbeats 1000000 in
theorem inToken_any (c : UInt8) (w : World) :
    Calls Tryd.prog 58 #[.string (strB [c])] w fun e w' => e = .returned (.bool (ttI c.toNat)) ∧ w = w' := by
  have cT := token_any (strB [c]) w (by rw [strB_size]; unfold maxLen; simp)
  rw [strB_data, tokL_one] at cT
  have hd : ttI c.toNat = (tchI c.toNat || ((c.toNat : Int) == 58) || ((c.toNat : Int) == 47)) := rfl
  have b58 : ((c.toNat : Int) == 58) = (c == 58) := byte_beq c 58
  have b47 : ((c.toNat : Int) == 47) = (c == 47) := byte_beq c 47
  have e58 := one_eq c 58
  have e47 := one_eq c 47
  rw [b58, b47] at hd
  clear b58 b47
  generalize tchI (c.toNat : Int) = a at cT hd
  generalize (c == 58) = b at hd e58
  generalize (c == 47) = d at hd e47
  generalize ttI (c.toNat : Int) = r at hd
  generalize strB [c] = t at cT e58 e47
  subst hd
  cases a <;> cases b <;> cases d
  all_goals
    go_enter Tryd.func58, Tryd.ntmps58
    go_wp2_with (go_at_call 72; refine cT.mono ?_; rintro e w' ⟨rfl, rfl⟩)
    go_ret
    exact ⟨rfl, rfl⟩

def prL (l : List UInt8) : Bool := l.all (fun c => prI c.toNat)

set_option maxHeartbeats 1000000 in
theorem isPrintable_any (s : ByteArray) (w : World) (hs : s.size ≤ maxLen) :
    Calls Tryd.prog 42 #[.string s] w fun e w' => e = .returned (.bool (prL s.data.toList)) ∧ w = w' := by
  unfold maxLen at hs
  go_enter Tryd.func42, Tryd.ntmps42
  go_wp2
  go_loop [6] (fun i => ∃ k : Nat, k ≤ s.size ∧ i = .int .i64 k ∧ Hid ((s.data.toList.take k).all (fun c => prI c.toNat) = true)) (fun i => s.size - (intOf i).toNat)
  case atStart => exact ⟨0, Nat.zero_le _, rfl, Lib.hid rfl⟩
  case round =>
    obtain ⟨k, hk, rfl, Hall⟩ := hrel
    by_cases hlt : k < s.size
    · have cT := inString_any (s[k].toNat : Int) w
      cases hd : prI (s[k].toNat : Int)
      · have Hf := Lib.hid (all_false_of (fun c => prI c.toNat) s k hlt hd)
        rw [hd] at cT
        clear hd
        go_wp2_with (go_at_call 56; refine cT.mono ?_; rintro e w' ⟨rfl, rfl⟩)
        go_ret
        exact ⟨by simp [prL, Hf.out], rfl⟩
      · have Ha := Lib.hid (all_snoc (fun c => prI c.toNat) s k hlt)
        rw [hd] at cT
        have Hd := Lib.hid hd
        clear hd
        go_wp2_with (go_at_call 56; refine cT.mono ?_; rintro e w' ⟨rfl, rfl⟩)
        go_round
        case rel => exact ⟨k + 1, by omega, by go_num, Lib.hid (by rw [Ha.out, Hd.out, Bool.and_true]; exact Hall.out)⟩
        case measure => simp [intOf]; omega
    · have hk' : s.size ≤ k := by omega
      go_wp2
      go_ret
      refine ⟨ret_eq (bool_eq ?_), rfl⟩
      rw [take_all s k hk'] at Hall
      rw [prL, Hall.out]

/-- How long the token is with which a text begins. -/
def tlen : List UInt8 → Nat
  | [] => 0
  | c :: r => if btI c.toNat then 1 + (r.takeWhile (fun c => ttI c.toNat)).length else 0

theorem tlen_le (l : List UInt8) : tlen l ≤ l.length := by
  cases l with
  | nil => exact Nat.le_refl _
  | cons c r =>
    unfold tlen
    have := takeWhile_len_le (fun c => ttI c.toNat) r
    simp only [List.length_cons]
    split <;> omega

set_option maxHeartbeats 1000000 in
theorem tokenLength_any (s : ByteArray) (w : World) (hs : s.size ≤ maxLen) :
    Calls Tryd.prog 43 #[.string s] w fun e w' => e = .returned (.int .i64 (tlen s.data.toList : Int)) ∧ w = w' := by
  unfold maxLen at hs
  by_cases h0 : 0 < s.size
  · have hemp : s.toList.isEmpty = false := by rw [Lib.toList_data]; exact isEmpty_false_of s h0
    have cB := beginsToken_any ((s[0]'h0).toNat : Int) w
    have Hdr := Lib.hid (drop_cons_at s 0 h0)
    cases hb : btI ((s[0]'h0).toNat : Int)
    · have Hz : Hid (tlen s.data.toList = 0) := Lib.hid (by
        have := Hdr.out
        rw [List.drop_zero] at this
        rw [this, tlen, hb]; rfl)
      rw [hb] at cB
      clear hb
      go_enter Tryd.func43, Tryd.ntmps43
      go_wp2_with (go_at_call 57; refine cB.mono ?_; rintro e w' ⟨rfl, rfl⟩)
      go_ret
      exact ⟨ret_eq (int_eq (by rw [Hz.out]; rfl)), rfl⟩
    · have Hz : Hid (tlen s.data.toList = 1 + ((s.data.toList.drop 1).takeWhile (fun c => ttI c.toNat)).length) := Lib.hid (by
        have := Hdr.out
        rw [List.drop_zero] at this
        rw [this, tlen, hb]; rfl)
      rw [hb] at cB
      clear hb Hdr
      go_enter Tryd.func43, Tryd.ntmps43
      go_wp2_with (go_at_call 57; refine cB.mono ?_; rintro e w' ⟨rfl, rfl⟩)
      go_loop [3] (fun i => ∃ k : Nat, 1 ≤ k ∧ k ≤ s.size ∧ i = .int .i64 k ∧ Hid (tlen s.data.toList = k + ((s.data.toList.drop k).takeWhile (fun c => ttI c.toNat)).length)) (fun i => s.size - (intOf i).toNat)
      case atStart => exact ⟨1, by omega, by omega, rfl, Hz⟩
      case round =>
        clear Hz cB
        obtain ⟨k, hk1, hk, rfl, H⟩ := hrel
        by_cases hlt : k < s.size
        · have Hdr := Lib.hid (drop_cons_at s k hlt)
          have cT := inToken_any s[k] w
          rw [← one_at s k hlt] at cT
          cases hd : ttI (s[k].toNat : Int)
          · have Hf := Lib.hid hd
            rw [hd] at cT
            clear hd
            go_wp2_with (go_at_call 58; refine cT.mono ?_; rintro e w' ⟨rfl, rfl⟩)
            go_ret
            exact ⟨ret_eq (int_eq (by rw [H.out, Hdr.out, List.takeWhile_cons, Hf.out]; simp)), rfl⟩
          · have Hf := Lib.hid hd
            rw [hd] at cT
            clear hd
            go_wp2_with (go_at_call 58; refine cT.mono ?_; rintro e w' ⟨rfl, rfl⟩)
            go_round
            case rel => exact ⟨k + 1, by omega, by omega, by go_num, Lib.hid (by rw [H.out, Hdr.out, List.takeWhile_cons, Hf.out]; simp; omega)⟩
            case measure => simp [intOf]; omega
        · have Hd : Hid (s.data.toList.drop k = []) := Lib.hid (List.drop_of_length_le (by rw [← Lib.size_eq]; omega))
          go_wp2
          go_ret
          exact ⟨ret_eq (int_eq (by rw [H.out, Hd.out]; simp)), rfl⟩
  · have he : s.data.toList = [] := List.eq_nil_of_length_eq_zero (by rw [← Lib.size_eq]; omega)
    have hemp : s.toList.isEmpty = true := by rw [Lib.toList_data, he]; rfl
    have Hz : Hid (tlen s.data.toList = 0) := Lib.hid (by rw [he]; rfl)
    clear he
    go_enter Tryd.func43, Tryd.ntmps43
    go_wp2
    go_ret
    exact ⟨ret_eq (int_eq (by rw [Hz.out]; rfl)), rfl⟩

/-- The digits with which a text begins. -/
def ldig (l : List UInt8) : List UInt8 := l.takeWhile (fun c => digI c.toNat)

theorem take_takeWhile (p : UInt8 → Bool) : ∀ l : List UInt8, l.take (l.takeWhile p).length = l.takeWhile p
  | [] => rfl
  | c :: l => by
    rw [List.takeWhile_cons]
    split
    · simp [take_takeWhile p l]
    · rfl

set_option maxHeartbeats 1000000 in
theorem leadingDigits_any (s : ByteArray) (w : World) (hs : s.size ≤ maxLen) :
    Calls Tryd.prog 82 #[.string s] w fun e w' => e = .returned (.string (strB (ldig s.data.toList))) ∧ w = w' := by
  unfold maxLen at hs
  go_enter Tryd.func82, Tryd.ntmps82
  go_wp2
  go_loop [3] (fun i => ∃ k : Nat, k ≤ s.size ∧ i = .int .i64 k ∧ Hid ((ldig s.data.toList).length = k + (ldig (s.data.toList.drop k)).length)) (fun i => s.size - (intOf i).toNat)
  case atStart => exact ⟨0, by omega, rfl, Lib.hid (by simp)⟩
  case round =>
    obtain ⟨k, hk, rfl, H⟩ := hrel
    have Hend : Hid ((ldig s.data.toList).length = k → s.extract 0 k = strB (ldig s.data.toList)) := Lib.hid (by
      intro h
      rw [← strB_of (s.extract 0 k), extract_take, ← h, ldig, take_takeWhile])
    by_cases hlt : k < s.size
    · have Hdr := Lib.hid (drop_cons_at s k hlt)
      have cT := isDigit_any (s[k].toNat : Int) w
      cases hd : digI (s[k].toNat : Int)
      · have Hf : Hid (s.extract 0 k = strB (ldig s.data.toList)) := Lib.hid (Hend.out (by rw [H.out, Hdr.out, ldig, List.takeWhile_cons, hd]; simp))
        rw [hd] at cT
        clear hd Hend H Hdr
        go_wp2_with (go_at_call 67; refine cT.mono ?_; rintro e w' ⟨rfl, rfl⟩)
        go_ret
        exact ⟨by rw [← Hf.out]; rfl, rfl⟩
      · have Hf := Lib.hid hd
        rw [hd] at cT
        clear hd Hend
        go_wp2_with (go_at_call 67; refine cT.mono ?_; rintro e w' ⟨rfl, rfl⟩)
        go_round
        case rel => exact ⟨k + 1, by omega, by go_num, Lib.hid (by rw [H.out, Hdr.out, ldig, List.takeWhile_cons, Hf.out, ldig]; simp; omega)⟩
        case measure => simp [intOf]; omega
    · have Hd : Hid (s.data.toList.drop k = []) := Lib.hid (List.drop_of_length_le (by rw [← Lib.size_eq]; omega))
      have Hf : Hid (s.extract 0 k = strB (ldig s.data.toList)) := Lib.hid (Hend.out (by rw [H.out, Hd.out]; simp [ldig]))
      clear Hend H Hd
      go_wp2
      go_ret
      exact ⟨by rw [← Hf.out]; rfl, rfl⟩

/-- The number that digits tell. -/
def numL (l : List UInt8) : Int := l.foldl (fun n c => 10 * n + ((c.toNat : Int) - 48)) 0

theorem numL_snoc (l : List UInt8) (c : UInt8) : numL (l ++ [c]) = 10 * numL l + ((c.toNat : Int) - 48) := by simp [numL]

theorem numL_bd : ∀ (l : List UInt8) (n : Int) (b : Nat), 0 ≤ n → n < 10 ^ b → l.all (fun c => digI c.toNat) = true → 0 ≤ l.foldl (fun n c => 10 * n + ((c.toNat : Int) - 48)) n ∧ l.foldl (fun n c => 10 * n + ((c.toNat : Int) - 48)) n < 10 ^ (b + l.length)
  | [], _, _, h0, h1, _ => ⟨h0, h1⟩
  | c :: l, n, b, h0, h1, h => by
    simp only [List.all_cons, Bool.and_eq_true] at h
    obtain ⟨x, y⟩ := (digI_iff _).1 h.1
    have := numL_bd l (10 * n + ((c.toNat : Int) - 48)) (b + 1) (by omega) (by rw [Int.pow_succ]; omega) h.2
    simp only [List.foldl_cons, List.length_cons]
    rw [show b + (l.length + 1) = b + 1 + l.length by omega]
    exact this

theorem pow_mono (a b : Nat) (h : a ≤ b) : (10 : Int) ^ a ≤ 10 ^ b := by
  have := Nat.pow_le_pow_right (n := 10) (by decide) h
  exact_mod_cast this

theorem numL_in (l : List UInt8) (h : l.all (fun c => digI c.toNat) = true) (hl : l.length ≤ 15) : 0 ≤ numL l ∧ numL l < 1000000000000000 := by
  obtain ⟨a, b⟩ := numL_bd l 0 0 (by omega) (by decide) h
  refine ⟨a, Int.lt_of_lt_of_le b ?_⟩
  have := pow_mono (0 + l.length) 15 (by omega)
  exact this

set_option maxHeartbeats 1000000 in
theorem number_any (s : ByteArray) (w : World) (hs : s.size ≤ 15) (hall : s.data.toList.all (fun c => digI c.toNat) = true) :
    Calls Tryd.prog 83 #[.string s] w fun e w' => e = .returned (.int .i64 (numL s.data.toList)) ∧ w = w' := by
  have Hall := Lib.hid hall
  clear hall
  go_enter Tryd.func83, Tryd.ntmps83
  go_wp2
  go_loop [3, 7] (fun n i => ∃ k : Nat, k ≤ s.size ∧ i = .int .i64 k ∧ n = .int .i64 (numL (s.data.toList.take k))) (fun _ i => s.size - (intOf i).toNat)
  case atStart => exact ⟨0, by omega, rfl, rfl⟩
  case round =>
    obtain ⟨k, hk, rfl, rfl⟩ := hrel
    by_cases hlt : k < s.size
    · obtain ⟨n0, n1⟩ := numL_in (s.data.toList.take k) (by
        rw [List.all_eq_true]
        intro x hx
        exact List.all_eq_true.1 Hall.out x (List.mem_of_mem_take hx)) (by rw [List.length_take]; omega)
      have Hs : Hid (numL (s.data.toList.take (k + 1)) = 10 * numL (s.data.toList.take k) + ((s[k].toNat : Int) - 48)) := Lib.hid (by rw [take_snoc s k hlt, numL_snoc])
      have hd : digI (s[k].toNat : Int) = true := List.all_eq_true.1 Hall.out s[k] (Array.getElem_mem_toList hlt)
      obtain ⟨h48, h57⟩ := (digI_iff _).1 hd
      clear hd
      generalize numL (s.data.toList.take k) = m at n0 n1 Hs
      go_wp2
      go_round
      case rel => exact ⟨k + 1, by omega, by go_num, by rw [Hs.out]⟩
      case measure => simp [intOf]; omega
    · have Hk : Hid (s.data.toList.take k = s.data.toList) := Lib.hid (take_all s k (by omega))
      go_wp2
      go_ret
      exact ⟨ret_eq (int_eq (by rw [Hk.out])), rfl⟩

end Go.Proofs.YtcjnigmklijjiaaDoor
