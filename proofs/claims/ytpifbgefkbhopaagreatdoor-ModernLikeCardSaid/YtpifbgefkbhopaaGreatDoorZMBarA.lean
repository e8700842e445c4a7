/- The contracts of what package bare calls of package ascii, and of bare's functions on one byte. · The contracts of bare's functions on texts: inToken, isPrintable, tokenLength, leadingDigits, number, noItem. · The contract of strings.Cut at a separator of one byte. · The contracts of ascii.inToken and Token (for a seat on BasP). · The contract of strings.IndexRune at runes that are none, or stand for none; what a rune beyond ASCII is encoded as. · The contracts of strings.IndexRune and ContainsRune over the two blanks, at runes beyond ASCII: there is none. -/
import Derived.Test.YtpifbgefkbhopaaGreatDoorRows
import Derived.Test.YtpifbgefkbhopaaGreatDoorShelf
import Derived.Test.YtpifbgefkbhopaaGreatDoorZMBasP
import Derived.Test.YtpifbgefkbhopaaGreatDoorZMAscN
import Derived.WalkKit
import Derived.WalkSpells
import Derived.WalkLawsBesides
import Derived.Lib.Hide
import Derived.Lib.IndexLaws
import Derived.IntWalk
import Derived.BigQuiet
import Derived.Deep.QuietTactic
import Derived.Deep.LoopGhost
import Derived.Lib.OthersKept

namespace Go.Proofs.YtpifbgefkbhopaaGreatDoor
open Go.RowKit

def prI (c : Int) : Bool := decide (32 ≤ c) && decide (c ≤ 126)
def escI (c : Int) : Bool := c == 34 || c == 92
def btI (c : Int) : Bool := upI c || lowI c || c == 42
def ttI (c : Int) : Bool := tchI c || c == 58 || c == 47

set_option maxHeartbeats 400000 in
theorem aIsDigit_any (c : Int) (w : World) :
    Calls Tryz.prog 72 #[.int .u8 c] w fun e w' => e = .returned (.bool (digI c)) ∧ w = w' := by
  cases h1 : decide (48 ≤ c) <;> cases h2 : decide (c ≤ 57)
  all_goals
    have hd : digI c = (decide (48 ≤ c) && decide (c ≤ 57)) := rfl
    simp only [h1, h2, Bool.and_true, Bool.and_false] at hd
    rewrite [hd]
    clear hd
    go_enter Tryz.func72, Tryz.ntmps72
    go_wp2
    go_ret
    exact ⟨rfl, rfl⟩

set_option maxHeartbeats 400000 in
theorem isDigit_any (c : Int) (w : World) :
    Calls Tryz.prog 162 #[.int .u8 c] w fun e w' => e = .returned (.bool (digI c)) ∧ w = w' := by
  cases h1 : decide (48 ≤ c) <;> cases h2 : decide (c ≤ 57)
  all_goals
    have hd : digI c = (decide (48 ≤ c) && decide (c ≤ 57)) := rfl
    simp only [h1, h2, Bool.and_true, Bool.and_false] at hd
    rewrite [hd]
    clear hd
    go_enter Tryz.func162, Tryz.ntmps162
    go_wp2
    go_ret
    exact ⟨rfl, rfl⟩

set_option maxHeartbeats 400000 in
theorem inString_any (c : Int) (w : World) :
    Calls Tryz.prog 172 #[.int .u8 c] w fun e w' => e = .returned (.bool (prI c)) ∧ w = w' := by
  cases h1 : decide (32 ≤ c) <;> cases h2 : decide (c ≤ 126)
  all_goals
    have hd : prI c = (decide (32 ≤ c) && decide (c ≤ 126)) := rfl
    simp only [h1, h2, Bool.and_true, Bool.and_false] at hd
    rewrite [hd]
    clear hd
    go_enter Tryz.func172, Tryz.ntmps172
    go_wp2
    go_ret
    exact ⟨rfl, rfl⟩

set_option maxHeartbeats 400000 in
theorem isEscaped_any (c : Int) (w : World) :
    Calls Tryz.prog 171 #[.int .u8 c] w fun e w' => e = .returned (.bool (escI c)) ∧ w = w' := by
  cases h1 : (c == 34) <;> cases h2 : (c == 92)
  all_goals
    have hd : escI c = (c == 34 || c == 92) := rfl
    simp only [h1, h2, Bool.or_true, Bool.or_false] at hd
    rewrite [hd]
    clear hd
    go_enter Tryz.func171, Tryz.ntmps171
    go_wp2
    go_ret
    exact ⟨rfl, rfl⟩

set_option maxHeartbeats 400000 in
theorem isUpper_any (c : Int) (w : World) :
    Calls Tryz.prog 78 #[.int .u8 c] w fun e w' => e = .returned (.bool (upI c)) ∧ w = w' := by
  cases h1 : decide (65 ≤ c) <;> cases h2 : decide (c ≤ 90)
  all_goals
    have hd : upI c = (decide (65 ≤ c) && decide (c ≤ 90)) := rfl
    simp only [h1, h2, Bool.and_true, Bool.and_false] at hd
    rewrite [hd]
    clear hd
    go_enter Tryz.func78, Tryz.ntmps78
    go_wp2
    go_ret
    exact ⟨rfl, rfl⟩

set_option maxHeartbeats 400000 in
theorem isLetter_any (c : Int) (w : World) :
    Calls Tryz.prog 107 #[.int .u8 c] w fun e w' => e = .returned (.bool (ltrI c)) ∧ w = w' := by
  have cU := isUpper_any c w
  have hd : ltrI c = (upI c || (decide (97 ≤ c) && decide (c ≤ 122))) := rfl
  generalize upI c = u at cU hd
  cases u
  · cases h1 : decide (97 ≤ c) <;> cases h2 : decide (c ≤ 122)
    all_goals
      simp only [h1, h2, Bool.and_true, Bool.and_false, Bool.false_or] at hd
      rewrite [hd]
      clear hd
      go_enter Tryz.func107, Tryz.ntmps107
      go_wp2_with (go_at_call 78; refine cU.mono ?_; rintro e w' ⟨rfl, rfl⟩)
      go_ret
      exact ⟨rfl, rfl⟩
  · rewrite [hd]
    clear hd
    go_enter Tryz.func107, Tryz.ntmps107
    go_wp2_with (go_at_call 78; refine cU.mono ?_; rintro e w' ⟨rfl, rfl⟩)
    go_ret
    exact ⟨rfl, rfl⟩

set_option maxHeartbeats 1000000 in
theorem aInToken_any (c : Int) (w : World) :
    Calls Tryz.prog 77 #[.int .u8 c] w fun e w' => e = .returned (.bool (tchI c)) ∧ w = w' := by
  have cL := isLetter_any c w
  have cD := aIsDigit_any c w
  have cI := Tryz.strings_IndexByte ⟨#[33, 35, 36, 37, 38, 39, 42, 43, 45, 46, 94, 95, 96, 124, 126]⟩ c w
  have hd : tchI c = (ltrI c || digI c || decide (0 ≤ Lib.indexByte marksL c.toNat.toUInt8)) := rfl
  have hm : (⟨#[33, 35, 36, 37, 38, 39, 42, 43, 45, 46, 94, 95, 96, 124, 126]⟩ : ByteArray).data.toList = marksL := rfl
  rw [hm] at cI
  clear hm
  generalize Lib.indexByte marksL c.toNat.toUInt8 = n at cI hd
  generalize ltrI c = l at cL hd
  generalize digI c = d at cD hd
  rewrite [hd]
  clear hd
  cases l <;> cases d
  all_goals
    go_enter Tryz.func77, Tryz.ntmps77
    go_wp2_with (first | (go_at_call 107; refine cL.mono ?_; rintro e w' ⟨rfl, rfl⟩) | (go_at_call 72; refine cD.mono ?_; rintro e w' ⟨rfl, rfl⟩) | (go_at_call 108; refine cI.mono ?_; rintro e w' ⟨rfl, rfl⟩))
    go_ret
    exact ⟨rfl, rfl⟩

set_option maxHeartbeats 1000000 in
theorem token_any (s : ByteArray) (w : World) (hs : s.size ≤ maxLen) :
    Calls Tryz.prog 53 #[.string s] w fun e w' => e = .returned (.bool (tokL s.data.toList)) ∧ w = w' := by
  unfold maxLen at hs
  go_enter Tryz.func53, Tryz.ntmps53
  go_wp2
  go_loop [6] (fun i => ∃ k : Nat, k ≤ s.size ∧ i = .int .i64 k ∧ Hid ((s.data.toList.take k).all (fun c => tchI c.toNat) = true)) (fun i => s.size - (intOf i).toNat)
  case atStart => exact ⟨0, Nat.zero_le _, rfl, Lib.hid rfl⟩
  case round =>
    obtain ⟨k, hk, rfl, Hall⟩ := hrel
    by_cases hlt : k < s.size
    · have cT := aInToken_any (s[k].toNat : Int) w
      cases hd : tchI (s[k].toNat : Int)
      · have Hf := Lib.hid (all_false_of (fun c => tchI c.toNat) s k hlt hd)
        rw [hd] at cT
        clear hd
        go_wp2_with (go_at_call 77; refine cT.mono ?_; rintro e w' ⟨rfl, rfl⟩)
        go_ret
        exact ⟨by simp [tokL, Hf.out], rfl⟩
      · have Ha := Lib.hid (all_snoc (fun c => tchI c.toNat) s k hlt)
        rw [hd] at cT
        have Hd := Lib.hid hd
        clear hd
        go_wp2_with (go_at_call 77; refine cT.mono ?_; rintro e w' ⟨rfl, rfl⟩)
        go_round
        case rel => exact ⟨k + 1, by omega, by go_num, Lib.hid (by rewrite [Ha.out, Hd.out, Bool.and_true]; exact Hall.out)⟩
        case measure => simp [intOf]; omega
    · have hk' : s.size ≤ k := by omega
      go_wp2
      go_ret
      refine ⟨ret_eq (bool_eq ?_), rfl⟩
      rw [take_all s k hk'] at Hall
      rw [tokL, Hall.out, Lib.toList_data, Bool.true_and]

set_option maxHeartbeats 400000 in
theorem beginsToken_any (c : Int) (w : World) :
    Calls Tryz.prog 165 #[.int .u8 c] w fun e w' => e = .returned (.bool (btI c)) ∧ w = w' := by
  have hd : btI c = ((decide (65 ≤ c) && decide (c ≤ 90)) || (decide (97 ≤ c) && decide (c ≤ 122)) || c == 42) := rfl
  cases h1 : decide (65 ≤ c) <;> cases h2 : decide (c ≤ 90) <;> cases h3 : decide (97 ≤ c) <;> cases h4 : decide (c ≤ 122) <;> cases h5 : (c == 42)
  all_goals
    first
    | (exfalso; simp only [decide_eq_true_eq, decide_eq_false_iff_not, beq_iff_eq] at h1 h2 h3 h4 h5; omega)
    | (simp only [h1, h2, h3, h4, h5, Bool.and_true, Bool.and_false, Bool.or_true, Bool.or_false] at hd
       rewrite [hd]
       clear hd
       go_enter Tryz.func165, Tryz.ntmps165
       go_wp2
       go_ret
       exact ⟨rfl, rfl⟩)

end Go.Proofs.YtpifbgefkbhopaaGreatDoor

namespace Go.Proofs.YtpifbgefkbhopaaGreatDoor
open Go.RowKit

theorem tokL_one (c : UInt8) : tokL [c] = tchI c.toNat := by simp [tokL]

theorem one_eq (c d : UInt8) : ((strB [c]).toList == [d]) = (c == d) := by
  rewrite [Lib.toList_data, strB_data, Bool.eq_iff_iff]
  simp

set_option maxHeartbeats 1000000 in
theorem inToken_any (c : UInt8) (w : World) :
    Calls Tryz.prog 173 #[.string (strB [c])] w fun e w' => e = .returned (.bool (ttI c.toNat)) ∧ w = w' := by
  have cT := token_any (strB [c]) w (by rewrite [strB_size]; unfold maxLen; simp)
  rw [strB_data, tokL_one] at cT
  have hd : ttI c.toNat = (tchI c.toNat || ((c.toNat : Int) == 58) || ((c.toNat : Int) == 47)) := rfl
  have b58 : ((c.toNat : Int) == 58) = (c == 58) := byte_beq c 58
  have b47 : ((c.toNat : Int) == 47) = (c == 47) := byte_beq c 47
  have e58 := one_eq c 58
  have e47 := one_eq c 47
  rw [b58, b47] at hd
  clear b58 b47
  generalize tchI (c.toNat : Int) = a at cT hd
  generalize (c == 58) = b at hd e58
  generalize (c == 47) = d at hd e47
  generalize ttI (c.toNat : Int) = r at hd
  generalize strB [c] = t at cT e58 e47
  subst hd
  cases a <;> cases b <;> cases d
  all_goals
    go_enter Tryz.func173, Tryz.ntmps173
    go_wp2_with (go_at_call 53; refine cT.mono ?_; rintro e w' ⟨rfl, rfl⟩)
    go_ret
    exact ⟨rfl, rfl⟩

def prL (l : List UInt8) : Bool := l.all (fun c => prI c.toNat)

/-- How long the token is with which a text begins. -/
def tlen : List UInt8 → Nat
  | [] => 0
  | c :: r => if btI c.toNat then 1 + (r.takeWhile (fun c => ttI c.toNat)).length else 0

theorem tlen_le (l : List UInt8) : tlen l ≤ l.length := by
  cases l with
  | nil => exact Nat.le_refl _
  | cons c r =>
    unfold tlen
    have := takeWhile_len_le (fun c => ttI c.toNat) r
    simp only [List.length_cons]
    split <;> omega

set_option maxHeartbeats 1000000 in
theorem tokenLength_any (s : ByteArray) (w : World) (hs : s.size ≤ maxLen) :
    Calls Tryz.prog 166 #[.string s] w fun e w' => e = .returned (.int .i64 (tlen s.data.toList : Int)) ∧ w = w' := by
  unfold maxLen at hs
  by_cases h0 : 0 < s.size
  · have hemp : s.toList.isEmpty = false := by rewrite [Lib.toList_data]; exact isEmpty_false_of s h0
    have cB := beginsToken_any ((s[0]'h0).toNat : Int) w
    have Hdr := Lib.hid (drop_cons_at s 0 h0)
    cases hb : btI ((s[0]'h0).toNat : Int)
    · have Hz : Hid (tlen s.data.toList = 0) := Lib.hid (by
        have := Hdr.out
        rw [List.drop_zero] at this
        rw [this, tlen, hb] <;> rfl)
      rw [hb] at cB
      clear hb
      go_enter Tryz.func166, Tryz.ntmps166
      go_wp2_with (go_at_call 165; refine cB.mono ?_; rintro e w' ⟨rfl, rfl⟩)
      go_ret
      exact ⟨ret_eq (int_eq (by rw [Hz.out] <;> rfl)), rfl⟩
    · have Hz : Hid (tlen s.data.toList = 1 + ((s.data.toList.drop 1).takeWhile (fun c => ttI c.toNat)).length) := Lib.hid (by
        have := Hdr.out
        rw [List.drop_zero] at this
        rw [this, tlen, hb] <;> rfl)
      rw [hb] at cB
      clear hb Hdr
      go_enter Tryz.func166, Tryz.ntmps166
      go_wp2_with (go_at_call 165; refine cB.mono ?_; rintro e w' ⟨rfl, rfl⟩)
      go_loop [3] (fun i => ∃ k : Nat, 1 ≤ k ∧ k ≤ s.size ∧ i = .int .i64 k ∧ Hid (tlen s.data.toList = k + ((s.data.toList.drop k).takeWhile (fun c => ttI c.toNat)).length)) (fun i => s.size - (intOf i).toNat)
      case atStart => exact ⟨1, by omega, by omega, rfl, Hz⟩
      case round =>
        clear Hz cB
        obtain ⟨k, hk1, hk, rfl, H⟩ := hrel
        by_cases hlt : k < s.size
        · have Hdr := Lib.hid (drop_cons_at s k hlt)
          have cT := inToken_any s[k] w
          rw [← one_at s k hlt] at cT
          cases hd : ttI (s[k].toNat : Int)
          · have Hf := Lib.hid hd
            rw [hd] at cT
            clear hd
            go_wp2_with (go_at_call 173; refine cT.mono ?_; rintro e w' ⟨rfl, rfl⟩)
            go_ret
            exact ⟨ret_eq (int_eq (by rewrite [H.out, Hdr.out, List.takeWhile_cons, Hf.out]; simp)), rfl⟩
          · have Hf := Lib.hid hd
            rw [hd] at cT
            clear hd
            go_wp2_with (go_at_call 173; refine cT.mono ?_; rintro e w' ⟨rfl, rfl⟩)
            go_round
            case rel => exact ⟨k + 1, by omega, by omega, by go_num, Lib.hid (by rewrite [H.out, Hdr.out, List.takeWhile_cons, Hf.out]; simp; omega)⟩
            case measure => simp [intOf]; omega
        · have Hd : Hid (s.data.toList.drop k = []) := Lib.hid (List.drop_of_length_le (by rewrite [← Lib.size_eq]; omega))
          go_wp2
          go_ret
          exact ⟨ret_eq (int_eq (by rewrite [H.out, Hd.out]; simp)), rfl⟩
  · have he : s.data.toList = [] := List.eq_nil_of_length_eq_zero (by rewrite [← Lib.size_eq]; omega)
    have hemp : s.toList.isEmpty = true := by rw [Lib.toList_data, he] <;> rfl
    have Hz : Hid (tlen s.data.toList = 0) := Lib.hid (by rw [he] <;> rfl)
    clear he
    go_enter Tryz.func166, Tryz.ntmps166
    go_wp2
    go_ret
    exact ⟨ret_eq (int_eq (by rw [Hz.out] <;> rfl)), rfl⟩

/-- The digits with which a text begins. -/
def ldig (l : List UInt8) : List UInt8 := l.takeWhile (fun c => digI c.toNat)

theorem take_takeWhile (p : UInt8 → Bool) : ∀ l : List UInt8, l.take (l.takeWhile p).length = l.takeWhile p
  | [] => rfl
  | c :: l => by
    rewrite [List.takeWhile_cons]
    split
    · simp [take_takeWhile p l]
    · rfl

set_option maxHeartbeats 1000000 in
theorem leadingDigits_any (s : ByteArray) (w : World) (hs : s.size ≤ maxLen) :
    Calls Tryz.prog 169 #[.string s] w fun e w' => e = .returned (.string (strB (ldig s.data.toList))) ∧ w = w' := by
  unfold maxLen at hs
  go_enter Tryz.func169, Tryz.ntmps169
  go_wp2
  go_loop [3] (fun i => ∃ k : Nat, k ≤ s.size ∧ i = .int .i64 k ∧ Hid ((ldig s.data.toList).length = k + (ldig (s.data.toList.drop k)).length)) (fun i => s.size - (intOf i).toNat)
  case atStart => exact ⟨0, by omega, rfl, Lib.hid (by simp)⟩
  case round =>
    obtain ⟨k, hk, rfl, H⟩ := hrel
    have Hend : Hid ((ldig s.data.toList).length = k → s.extract 0 k = strB (ldig s.data.toList)) := Lib.hid (by
      intro h
      rw [← strB_of (s.extract 0 k), extract_take, ← h, ldig, take_takeWhile])
    by_cases hlt : k < s.size
    · have Hdr := Lib.hid (drop_cons_at s k hlt)
      have cT := isDigit_any (s[k].toNat : Int) w
      cases hd : digI (s[k].toNat : Int)
      · have Hf : Hid (s.extract 0 k = strB (ldig s.data.toList)) := Lib.hid (Hend.out (by rewrite [H.out, Hdr.out, ldig, List.takeWhile_cons, hd]; simp))
        rw [hd] at cT
        clear hd Hend H Hdr
        go_wp2_with (go_at_call 162; refine cT.mono ?_; rintro e w' ⟨rfl, rfl⟩)
        go_ret
        exact ⟨by rw [← Hf.out] <;> rfl, rfl⟩
      · have Hf := Lib.hid hd
        rw [hd] at cT
        clear hd Hend
        go_wp2_with (go_at_call 162; refine cT.mono ?_; rintro e w' ⟨rfl, rfl⟩)
        go_round
        case rel => exact ⟨k + 1, by omega, by go_num, Lib.hid (by rewrite [H.out, Hdr.out, ldig, List.takeWhile_cons, Hf.out, ldig]; simp; omega)⟩
        case measure => simp [intOf]; omega
    · have Hd : Hid (s.data.toList.drop k = []) := Lib.hid (List.drop_of_length_le (by rewrite [← Lib.size_eq]; omega))
      have Hf : Hid (s.extract 0 k = strB (ldig s.data.toList)) := Lib.hid (Hend.out (by rewrite [H.out, Hd.out]; simp [ldig]))
      clear Hend H Hd
      go_wp2
      go_ret
      exact ⟨by rw [← Hf.out] <;> rfl, rfl⟩

/-- The number that digits tell. -/
def numL (l : List UInt8) : Int := l.foldl (fun n c => 10 * n + ((c.toNat : Int) - 48)) 0

theorem numL_snoc (l : List UInt8) (c : UInt8) : numL (l ++ [c]) = 10 * numL l + ((c.toNat : Int) - 48) := by simp [numL]

theorem numL_bd : ∀ (l : List UInt8) (n : Int) (b : Nat), 0 ≤ n → n < 10 ^ b → l.all (fun c => digI c.toNat) = true → 0 ≤ l.foldl (fun n c => 10 * n + ((c.toNat : Int) - 48)) n ∧ l.foldl (fun n c => 10 * n + ((c.toNat : Int) - 48)) n < 10 ^ (b + l.length)
  | [], _, _, h0, h1, _ => ⟨h0, h1⟩
  | c :: l, n, b, h0, h1, h => by
    simp only [List.all_cons, Bool.and_eq_true] at h
    obtain ⟨x, y⟩ := (digI_iff _).1 h.1
    have := numL_bd l (10 * n + ((c.toNat : Int) - 48)) (b + 1) (by omega) (by rewrite [Int.pow_succ]; omega) h.2
    simp only [List.foldl_cons, List.length_cons]
    rewrite [show b + (l.length + 1) = b + 1 + l.length by omega]
    exact this

theorem pow_mono (a b : Nat) (h : a ≤ b) : (10 : Int) ^ a ≤ 10 ^ b := by
  have := Nat.pow_le_pow_right (n := 10) (by decide) h
  exact_mod_cast this

theorem numL_in (l : List UInt8) (h : l.all (fun c => digI c.toNat) = true) (hl : l.length ≤ 15) : 0 ≤ numL l ∧ numL l < 1000000000000000 := by
  obtain ⟨a, b⟩ := numL_bd l 0 0 (by omega) (by decide) h
  refine ⟨a, Int.lt_of_lt_of_le b ?_⟩
  have := pow_mono (0 + l.length) 15 (by omega)
  exact this

set_option maxHeartbeats 1000000 in
theorem number_any (s : ByteArray) (w : World) (hs : s.size ≤ 15) (hall : s.data.toList.all (fun c => digI c.toNat) = true) :
    Calls Tryz.prog 170 #[.string s] w fun e w' => e = .returned (.int .i64 (numL s.data.toList)) ∧ w = w' := by
  have Hall := Lib.hid hall
  clear hall
  go_enter Tryz.func170, Tryz.ntmps170
  go_wp2
  go_loop [3, 7] (fun n i => ∃ k : Nat, k ≤ s.size ∧ i = .int .i64 k ∧ n = .int .i64 (numL (s.data.toList.take k))) (fun _ i => s.size - (intOf i).toNat)
  case atStart => exact ⟨0, by omega, rfl, rfl⟩
  case round =>
    obtain ⟨k, hk, rfl, rfl⟩ := hrel
    by_cases hlt : k < s.size
    · obtain ⟨n0, n1⟩ := numL_in (s.data.toList.take k) (by
        rewrite [List.all_eq_true]
        intro x hx
        exact List.all_eq_true.1 Hall.out x (List.mem_of_mem_take hx)) (by rewrite [List.length_take]; omega)
      have Hs : Hid (numL (s.data.toList.take (k + 1)) = 10 * numL (s.data.toList.take k) + ((s[k].toNat : Int) - 48)) := Lib.hid (by rw [take_snoc s k hlt, numL_snoc])
      have hd : digI (s[k].toNat : Int) = true := List.all_eq_true.1 Hall.out s[k] (Array.getElem_mem_toList hlt)
      obtain ⟨h48, h57⟩ := (digI_iff _).1 hd
      clear hd
      generalize numL (s.data.toList.take k) = m at n0 n1 Hs
      go_wp2
      go_round
      case rel => exact ⟨k + 1, by omega, by go_num, by rw [Hs.out]⟩
      case measure => simp [intOf]; omega
    · have Hk : Hid (s.data.toList.take k = s.data.toList) := Lib.hid (take_all s k (by omega))
      go_wp2
      go_ret
      exact ⟨ret_eq (int_eq (by rw [Hk.out])), rfl⟩

end Go.Proofs.YtpifbgefkbhopaaGreatDoor

namespace Go.Proofs.YtpifbgefkbhopaaGreatDoor
open Go.RowKit

/-- What stands ahead of the first such byte, and whether there is one. -/
def cutV (l : List UInt8) (c : UInt8) : Value :=
  if Lib.indexByte l c = -1 then .tuple #[.string (strB l), .string ⟨#[]⟩, .bool false]
  else .tuple #[.string (strB (l.take (Lib.indexByte l c).toNat)), .string (strB (l.drop ((Lib.indexByte l c).toNat + 1))), .bool true]

def cutPost (v : Value) (w : World) (e : Ending) (w' : World) : Prop := e = .returned v ∧ Below w.heap.size w w'

theorem index_le (l : List UInt8) (c : UInt8) (h : Lib.indexByte l c ≠ -1) : 0 ≤ Lib.indexByte l c ∧ (Lib.indexByte l c).toNat < l.length := by
  have h1 := Lib.indexByte_ge l c
  have h2 : 0 ≤ Lib.indexByte l c := by omega
  refine ⟨h2, ?_⟩
  obtain ⟨o, ho⟩ := Int.eq_ofNat_of_zero_le h2
  obtain ⟨h3, _⟩ := Lib.indexByte_some (l := l) (c := c) (o := o) ho
  rewrite [ho]
  exact (List.getElem?_eq_some_iff.1 h3).1

set_option maxHeartbeats 1000000 in
theorem slCut_any (s : ByteArray) (c : UInt8) (w : World) (hs : s.size ≤ 100000) :
    Calls Tryz.prog 76 #[.string s, .string ⟨#[c]⟩] w (cutPost (cutV s.data.toList c) w) := by
  have cI := (Tryz.stringslite_Index_one s c w).mono (R' := fun e w' => e = .returned (.int .i64 (Lib.indexByte s.data.toList c)) ∧ w = w') (fun e w' h => ⟨h.1, h.2.symm⟩)
  by_cases h : Lib.indexByte s.data.toList c = -1
  · have hv : cutV s.data.toList c = .tuple #[.string s, .string ⟨#[]⟩, .bool false] := by rw [cutV, if_pos h, strB_of]
    rewrite [hv]
    rw [h] at cI
    clear hv h
    go_enter Tryz.func76, Tryz.ntmps76
    go_wp2_with (go_at_call 106; refine cI.mono ?_; rintro e w' ⟨rfl, rfl⟩)
    exact bodyPost_ret (v := .tuple #[.string s, .string ⟨#[]⟩, .bool false]) (by simp [results, Tryz.results76, go_sem]) rfl ⟨rfl, Below.refl _ _⟩
  · obtain ⟨h0, h1⟩ := index_le _ _ h
    rw [← Lib.size_eq] at h1
    obtain ⟨o, ho⟩ := Int.eq_ofNat_of_zero_le h0
    have hv : cutV s.data.toList c = .tuple #[.string (s.extract 0 o), .string (s.extract (o + 1) s.size), .bool true] := by
      rw [cutV, if_neg h, ho, Int.toNat_natCast, ← extract_take, ← Lib.extract_to_end, strB_of, strB_of]
    rewrite [hv]
    rw [ho] at cI h1
    rw [Int.toNat_natCast] at h1
    clear hv h h0 ho
    have hge : decide ((0 : Int) ≤ (o : Int)) = true := by simp
    have W1 : Hid (IntKind.i64.wrap ((o : Int) + 1) = (o : Int) + 1) := Lib.hid (IntWalk.i64_in _ (by omega))
    have T1 : Hid (((o : Int) + 1).toNat = o + 1) := Lib.hid (by omega)
    have L1 : Hid ((0 : Int) ≤ (o : Int) + 1) := Lib.hid (by omega)
    have L2 : Hid ((o : Int) + 1 ≤ (s.size : Int)) := Lib.hid (by omega)
    have L3 : Hid ((o : Int) ≤ (s.size : Int)) := Lib.hid (by omega)
    go_enter Tryz.func76, Tryz.ntmps76
    go_wp2_with (go_at_call 106; refine cI.mono ?_; rintro e w' ⟨rfl, rfl⟩)
    have a1 := W1.out
    have a2 := T1.out
    have a3 := L1.out
    have a4 := L2.out
    have a5 := L3.out
    have a6 : o ≤ s.size := by omega
    go_quiet (fail)
    clear a1 a2 a3 a4 a5
    go_wp2
    exact bodyPost_ret (v := .tuple #[.string (s.extract 0 o), .string (s.extract (o + 1) s.size), .bool true]) (by simp [results, Tryz.results76, go_sem]) rfl ⟨rfl, below_drewN _ _⟩

set_option maxHeartbeats 1000000 in
theorem cut_any (s : ByteArray) (c : UInt8) (w : World) (hs : s.size ≤ 100000) :
    Calls Tryz.prog 52 #[.string s, .string ⟨#[c]⟩] w (cutPost (cutV s.data.toList c) w) := by
  have cS := slCut_any s c w hs
  have hex : ∃ a b r, cutV s.data.toList c = .tuple #[.string a, .string b, .bool r] := by
    rewrite [cutV]
    split
    · exact ⟨_, _, _, rfl⟩
    · exact ⟨_, _, _, rfl⟩
  obtain ⟨a, b, r, he⟩ := hex
  rw [he] at cS ⊢
  clear he
  go_enter Tryz.func52, Tryz.ntmps52
  go_wp2_with (go_at_call 76; refine cS.mono ?_; rintro e w1 ⟨rfl, hb1⟩)
  exact bodyPost_ret (v := .tuple #[.string a, .string b, .bool r]) (by simp [results, Tryz.results52, go_sem]) rfl ⟨rfl, hb1⟩

end Go.Proofs.YtpifbgefkbhopaaGreatDoor

namespace Go.Proofs.YtpifbgefkbhopaaGreatDoor
open Go.RowKit

set_option maxHeartbeats 1000000 in
theorem inToken_any_TokA (c : Int) (w : World) :
    Calls Tryz.prog 77 #[.int .u8 c] w fun e w' => e = .returned (.bool (tchI c)) ∧ w = w' := by
  have cL := isLetter_any_LtrA c w
  have cD := isDigit_any_AscN c w
  have cI := Tryz.strings_IndexByte ⟨#[33, 35, 36, 37, 38, 39, 42, 43, 45, 46, 94, 95, 96, 124, 126]⟩ c w
  have hd : tchI c = (ltrI c || digI c || decide (0 ≤ Lib.indexByte marksL c.toNat.toUInt8)) := rfl
  have hm : (⟨#[33, 35, 36, 37, 38, 39, 42, 43, 45, 46, 94, 95, 96, 124, 126]⟩ : ByteArray).data.toList = marksL := rfl
  rw [hm] at cI
  clear hm
  generalize Lib.indexByte marksL c.toNat.toUInt8 = n at cI hd
  generalize ltrI c = l at cL hd
  generalize digI c = d at cD hd
  rewrite [hd]
  clear hd
  cases l <;> cases d
  all_goals
    go_enter Tryz.func77, Tryz.ntmps77
    go_wp2_with (first | (go_at_call 107; refine cL.mono ?_; rintro e w' ⟨rfl, rfl⟩) | (go_at_call 72; refine cD.mono ?_; rintro e w' ⟨rfl, rfl⟩) | (go_at_call 108; refine cI.mono ?_; rintro e w' ⟨rfl, rfl⟩))
    go_ret
    exact ⟨rfl, rfl⟩

set_option maxHeartbeats 1000000 in
theorem token_any_TokA (s : ByteArray) (w : World) (hs : s.size ≤ maxLen) :
    Calls Tryz.prog 53 #[.string s] w fun e w' => e = .returned (.bool (tokL s.data.toList)) ∧ w = w' := by
  unfold maxLen at hs
  go_enter Tryz.func53, Tryz.ntmps53
  go_wp2
  go_loop [6] (fun i => ∃ k : Nat, k ≤ s.size ∧ i = .int .i64 k ∧ Hid ((s.data.toList.take k).all (fun c => tchI c.toNat) = true)) (fun i => s.size - (intOf i).toNat)
  case atStart => exact ⟨0, Nat.zero_le _, rfl, Lib.hid rfl⟩
  case round =>
    obtain ⟨k, hk, rfl, Hall⟩ := hrel
    by_cases hlt : k < s.size
    · have cT := inToken_any_TokA (s[k].toNat : Int) w
      cases hd : tchI (s[k].toNat : Int)
      · have Hf := Lib.hid (all_false_of (fun c => tchI c.toNat) s k hlt hd)
        rw [hd] at cT
        clear hd
        go_wp2_with (go_at_call 77; refine cT.mono ?_; rintro e w' ⟨rfl, rfl⟩)
        go_ret
        exact ⟨by simp [tokL, Hf.out], rfl⟩
      · have Ha := Lib.hid (all_snoc (fun c => tchI c.toNat) s k hlt)
        rw [hd] at cT
        have Hd := Lib.hid hd
        clear hd
        go_wp2_with (go_at_call 77; refine cT.mono ?_; rintro e w' ⟨rfl, rfl⟩)
        go_round
        case rel => exact ⟨k + 1, by omega, by go_num, Lib.hid (by rewrite [Ha.out, Hd.out, Bool.and_true]; exact Hall.out)⟩
        case measure => simp [intOf]; omega
    · have hk' : s.size ≤ k := by omega
      go_wp2
      go_ret
      refine ⟨ret_eq (bool_eq ?_), rfl⟩
      rw [take_all s k hk'] at Hall
      rw [tokL, Hall.out, Lib.toList_data, Bool.true_and]

end Go.Proofs.YtpifbgefkbhopaaGreatDoor

namespace Go.Proofs.YtpifbgefkbhopaaGreatDoor
open Go.RowKit

set_option maxHeartbeats 1000000 in
set_option maxRecDepth 100000 in
theorem indexRune_invalid (s : ByteArray) (r : Int) (w : World) (h0 : 55296 ≤ r) (h1 : r ≤ 57343) :
    Calls Tryz.prog 129 #[.string s, .int .i32 r] w fun e w' => e = .returned (.int .i64 (-1)) ∧ Below w.heap.size w w' := by
  have cV := Tryz.utf8_ValidRune r w
  have hv : Lib.validRune r = false := by unfold Lib.validRune; simp; omega
  rw [hv] at cV
  clear hv
  go_enter Tryz.func129, Tryz.ntmps129
  go_wp2_with (go_at_call 147; refine cV.mono ?_; rintro e w' ⟨rfl, rfl⟩)
  go_ret
  exact ⟨rfl, Below.refl _ _⟩

set_option maxHeartbeats 1000000 in
set_option maxRecDepth 100000 in
theorem indexRune_error (s : ByteArray) (w : World) (ha : ∀ pos (h : pos < s.size), (s[pos]'h).toNat < 128) :
    Calls Tryz.prog 129 #[.string s, .int .i32 65533] w fun e w' => e = .returned (.int .i64 (-1)) ∧ Below w.heap.size w w' := by
  go_enter Tryz.func129, Tryz.ntmps129
  go_wp2_with fail
  go_loopg [] s.size (fun gf wx => ∃ pos : Nat, wx.heap[w.heap.size]? = some (.stringIter s pos) ∧ Below w.heap.size w wx ∧ s.size ≤ pos + gf)
  case atStart => exact ⟨0, World.iter_heap w s 0, (Below.refl _ w).alloc (Nat.le_refl _) _, by omega⟩
  case round =>
    obtain ⟨pos, hit, hbw, hfu⟩ := hrel
    by_cases hps : pos < s.size
    · obtain ⟨g', rfl⟩ : ∃ g', gk = g' + 1 := ⟨gk - 1, by omega⟩
      have ha1 := ha pos hps
      have hnx : ∀ ty, (Instr.next (.pointer (some ⟨w.heap.size, 0, none⟩)) true ty).run Tryz.prog wr = _ := fun ty => Lib.run_next_ascii_at wr w.heap.size s pos ty hit hps ha1
      have hne : (((s[pos]'hps).toNat : Int) == 65533) = false := by simp; omega
      have hit2 := Lib.iterAt_heap wr w.heap.size s pos (pos + 1) hit
      have hbw2 := Lib.below_iterAt hbw (k := w.heap.size) (Nat.le_refl _) s (pos + 1)
      clear ha
      generalize wr.iterAt w.heap.size s (pos + 1) = W at hnx hit2 hbw2
      go_wp2
      go_roundg g'
      case measure => omega
      case rel => exact ⟨pos + 1, hit2, hbw2, by omega⟩
    · have hnx : ∀ ty, (Instr.next (.pointer (some ⟨w.heap.size, 0, none⟩)) true ty).run Tryz.prog wr = _ := fun ty => Lib.run_next_end_at wr w.heap.size s pos ty hit hps
      go_wp2
      go_ret
      exact ⟨rfl, hbw⟩

theorem quiet_add_same {P : Program} {f : FuncId} {args : Array Value} {w : World} {a n : Nat} {v : Value}
    (h : Calls P f args (w.drewN (a + n)) fun e w' => e = .returned v ∧ w' = w.drewN (a + n)) :
    Calls P f args (w.drewN (a + n)) fun e w'' => e = .returned v ∧ ∃ m, w'' = w.drewN (a + m) :=
  h.mono fun _ _ ⟨he, hm⟩ => ⟨he, n, hm⟩

theorem encode_cases (r : Int) (h0 : 128 ≤ r) : (∃ x y : UInt8, 128 ≤ y.toNat ∧ Utf8.encode r = ⟨#[x, y]⟩) ∨ (∃ x y z : UInt8, Utf8.encode r = ⟨#[x, y, z]⟩) ∨ (∃ x y z u : UInt8, Utf8.encode r = ⟨#[x, y, z, u]⟩) := by
  have hc : ∃ c : Nat, 128 ≤ c ∧ (if Utf8.valid r then r.toNat else Utf8.runeError) = c := by
    split
    · exact ⟨_, by omega, rfl⟩
    · exact ⟨_, by decide, rfl⟩
  obtain ⟨c, h, e⟩ := hc
  unfold Utf8.encode
  simp only [e]
  rewrite [if_neg (by omega)]
  split
  · refine .inl ⟨_, _, ?_, rfl⟩
    rewrite [UInt8.toNat_ofNat']
    omega
  · split
    · exact .inr (.inl ⟨_, _, _, rfl⟩)
    · exact .inr (.inr ⟨_, _, _, _, rfl⟩)

set_option maxRecDepth 100000 in
set_option maxHeartbeats 2000000 in
theorem decodeN_cont (n b0 b1 b2 b3 : Nat) (h : 128 ≤ b0) : 128 ≤ (Lib.decodeN n b0 b1 b2 b3).1 ∧ (Lib.decodeN n b0 b1 b2 b3).1 ≤ 1114111 ∧ 1 ≤ (Lib.decodeN n b0 b1 b2 b3).2 ∧ (Lib.decodeN n b0 b1 b2 b3).2 ≤ 4 ∧ (1 < (Lib.decodeN n b0 b1 b2 b3).2 → 128 ≤ b1) ∧ (2 < (Lib.decodeN n b0 b1 b2 b3).2 → 128 ≤ b2) ∧ (3 < (Lib.decodeN n b0 b1 b2 b3).2 → 128 ≤ b3) := by
  unfold Lib.decodeN
  repeat' split
  all_goals first | (exfalso; omega) | (dsimp only; refine ⟨?_, ?_, ?_, ?_, ?_, ?_, ?_⟩ <;> omega)

end Go.Proofs.YtpifbgefkbhopaaGreatDoor

namespace Go.Proofs.YtpifbgefkbhopaaGreatDoor
open Go.RowKit

set_option maxHeartbeats 1000000 in
set_option maxRecDepth 100000 in
theorem indexRune_valid (r : Int) (w : World) (h0 : 128 ≤ r) (h1 : r ≤ 1114111) (h2 : r < 55296 ∨ 57343 < r) (h3 : (r == 65533) = false) :
    Calls Tryz.prog 129 #[.string ⟨#[32, 9]⟩, .int .i32 r] w fun e w' => e = .returned (.int .i64 (-1)) ∧ Below w.heap.size w w' := by
  have cV := Tryz.utf8_ValidRune r w
  have hv : Lib.validRune r = true := by unfold Lib.validRune; simp; omega
  rw [hv] at cV
  clear hv
  rcases encode_cases r h0 with ⟨x, y, hy, he⟩ | ⟨x, y, z, he⟩ | ⟨x, y, z, u, he⟩
  · have hne : ((((⟨#[32, 9]⟩ : ByteArray)[1]'(by decide)).toNat : Int) != ((((⟨#[x, y]⟩ : ByteArray)[1]'(Nat.lt_succ_self 1))).toNat : Int)) = true := by
      have h9 : ((9 : Int) != (y.toNat : Int)) = true := by simp; omega
      exact h9
    go_enter Tryz.func129, Tryz.ntmps129
    go_wp2_with (go_at_call 147; refine cV.mono ?_; rintro e w' ⟨rfl, rfl⟩)
    go_step3
    go_wp2_with fail
    refine wp_loop_rounds 1 ?_
    rewrite [rounds_succ]
    go_wp2_with fail
    go_step3
    go_wp2_with fail
    go_quiet (fail)
    go_wp2_with fail
    go_quiet ((go_at_call 108; exact quiet_add_same (Tryz.strings_IndexByte _ _ _)))
    go_wp2_with fail
    rewrite [Exit.noGoto_ret]
    go_wp2_with fail
    rewrite [Exit.noGoto_ret]
    go_ret
    exact ⟨rfl, below_drewNg _ _⟩
  · go_enter Tryz.func129, Tryz.ntmps129
    go_wp2_with (go_at_call 147; refine cV.mono ?_; rintro e w' ⟨rfl, rfl⟩)
    go_step3
    go_wp2_with fail
    refine wp_loop_rounds 1 ?_
    rewrite [rounds_succ]
    go_wp2
    rewrite [Exit.noGoto_ret]
    go_ret
    exact ⟨rfl, Below.refl _ _⟩
  · go_enter Tryz.func129, Tryz.ntmps129
    go_wp2_with (go_at_call 147; refine cV.mono ?_; rintro e w' ⟨rfl, rfl⟩)
    go_step3
    go_wp2_with fail
    refine wp_loop_rounds 1 ?_
    rewrite [rounds_succ]
    go_wp2
    rewrite [Exit.noGoto_ret]
    go_ret
    exact ⟨rfl, Below.refl _ _⟩

theorem containsRune_big (r : Nat) (w : World) (h0 : 128 ≤ r) (h1 : r ≤ 1114111) :
    Calls Tryz.prog 105 #[.string ⟨#[32, 9]⟩, .int .i32 r] w fun e w' => e = .returned (.bool false) ∧ Below w.heap.size w w' := by
  have cI : Calls Tryz.prog 129 #[.string ⟨#[32, 9]⟩, .int .i32 r] w fun e w' => e = .returned (.int .i64 (-1)) ∧ Below w.heap.size w w' := by
    by_cases h2 : 55296 ≤ r ∧ r ≤ 57343
    · exact indexRune_invalid _ _ _ (by omega) (by omega)
    · by_cases h3 : r = 65533
      · subst h3
        exact indexRune_error _ _ (by
          intro pos h
          match pos, h with
          | 0, _ => exact (show (32 : UInt8).toNat < 128 by decide)
          | 1, _ => exact (show (9 : UInt8).toNat < 128 by decide))
      · exact indexRune_valid _ _ (by omega) (by omega) (by omega) (by simp; omega)
  go_enter Tryz.func105, Tryz.ntmps105
  go_wp2_with (go_at_call 129; refine cI.mono ?_; rintro e w' ⟨rfl, hb⟩)
  go_ret
  exact ⟨rfl, hb⟩

end Go.Proofs.YtpifbgefkbhopaaGreatDoor
