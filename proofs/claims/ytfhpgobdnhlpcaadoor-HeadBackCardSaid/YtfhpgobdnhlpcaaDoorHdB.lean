/- (for a seat without Digits) The contracts of ascii.Trim, inToken, Token, Text. -/
import Derived.Test.YtfhpgobdnhlpcaaDoorAscE
import Derived.Test.YtfhpgobdnhlpcaaDoorAscA
import Derived.Test.YtfhpgobdnhlpcaaDoorBasP
import Derived.Test.YtfhpgobdnhlpcaaDoorTrimP
namespace Go.Proofs.YtfhpgobdnhlpcaaDoor
open Go.RowKit

theorem blank_ascii : ∀ x : Fin 128, decide (0 ≤ Lib.indexByte [32, 9] x.val.toUInt8) = blkR x.val := by decide

set_option maxHeartbeats 1000000 in
theorem blank_pays (B : Nat) (w : World) (hB : B < w.heap.size) (hc : w.cell? ⟨B, 0, none⟩ = some (.string ⟨#[32, 9]⟩)) :
    PredGrows Tryd.prog 84 #[.pointer (some ⟨B, 0, none⟩)] blkR w := by
  intro W x hx hb
  have hc' := (hb.cell (p := ⟨B, 0, none⟩) hB).trans hc
  have cC : Calls Tryd.prog 85 #[.string ⟨#[32, 9]⟩, .int .i32 x] W fun e w' => e = .returned (.bool (blkR x)) ∧ Below W.heap.size W w' := by
    by_cases h : x < 128
    · refine (Tryd.strings_ContainsRune_ascii ⟨#[32, 9]⟩ x W (by omega) (by omega)).mono ?_
      rintro e w' ⟨rfl, rfl⟩
      refine ⟨?_, Below.refl _ _⟩
      rw [← blank_ascii ⟨x, h⟩]
      rfl
    · rw [blkR_big x (by omega)]
      exact containsRune_big x W (by omega) hx
  clear hb hc
  generalize blkR x = b at cC
  show Calls Tryd.prog 84 #[.int .i32 x, .pointer (some ⟨B, 0, none⟩)] W _
  go_enter Tryd.func84, Tryd.ntmps84
  go_wp2_with (go_at_call 85; refine cC.mono ?_; rintro e w' ⟨rfl, hb⟩)
  go_ret
  exact ⟨rfl, hb⟩

/-- The tables of package utf8, as they are laid. -/
abbrev Tabs (w : World) : Prop := Lib.Utf8Tabs 4 5 w

theorem trimF_eq (s : ByteArray) : Lib.trimF blkR s = ⟨(trimL s.data.toList).toArray⟩ := by
  rw [← trimF_is, Lib.mk_data]

set_option maxHeartbeats 1000000 in
theorem trim_any (s : ByteArray) (w : World) (hs : s.size ≤ maxLen) (hT : Tabs w) :
    Calls Tryd.prog 50 #[.string s] w fun e w' => e = .returned (.string ⟨(trimL s.data.toList).toArray⟩) ∧ Below w.heap.size w w' := by
  rw [← trimF_eq]
  have hb0 : Below w.heap.size w (w.alloc (.cells #[.string ⟨#[32, 9]⟩] 9)) := (Below.refl _ _).alloc (Nat.le_refl _) _
  have cT := Tryd.strings_TrimFunc_grows 84 #[.pointer (some ⟨w.heap.size, 0, none⟩)] (enters_of Tryd.func84 (by kernel_rfl) rfl) blkR s (w.alloc (.cells #[.string ⟨#[32, 9]⟩] 9)) hs (Utf8Tabs_below hT hb0) (blank_pays w.heap.size _ (by simp) (by simp))
  generalize Lib.trimF blkR s = t at cT
  have HT := Lib.hid hT
  clear hT
  go_enter Tryd.func50, Tryd.ntmps50
  go_wp2_with (first | (go_at_call 67; refine cT.mono ?_; rintro e w' ⟨rfl, hb⟩) | go_in)
  go_ret
  exact ⟨rfl, hb0.trans (hb.mono hb0.size)⟩

set_option maxHeartbeats 1000000 in
theorem inToken_any (c : Int) (w : World) :
    Calls Tryd.prog 69 #[.int .u8 c] w fun e w' => e = .returned (.bool (tchI c)) ∧ w = w' := by
  have cL := isLetter_any c w
  have cD := isDigit_any c w
  have cI := Tryd.strings_IndexByte ⟨#[33, 35, 36, 37, 38, 39, 42, 43, 45, 46, 94, 95, 96, 124, 126]⟩ c w
  have hd : tchI c = (ltrI c || digI c || decide (0 ≤ Lib.indexByte marksL c.toNat.toUInt8)) := rfl
  have hm : (⟨#[33, 35, 36, 37, 38, 39, 42, 43, 45, 46, 94, 95, 96, 124, 126]⟩ : ByteArray).data.toList = marksL := rfl
  rw [hm] at cI
  clear hm
  generalize Lib.indexByte marksL c.toNat.toUInt8 = n at cI hd
  generalize ltrI c = l at cL hd
  generalize digI c = d at cD hd
  rw [hd]
  clear hd
  cases l <;> cases d
  all_goals
    go_enter Tryd.func69, Tryd.ntmps69
    go_wp2_with (first | (go_at_call 86; refine cL.mono ?_; rintro e w' ⟨rfl, rfl⟩) | (go_at_call 87; refine cD.mono ?_; rintro e w' ⟨rfl, rfl⟩) | (go_at_call 88; refine cI.mono ?_; rintro e w' ⟨rfl, rfl⟩))
    go_ret
    exact ⟨rfl, rfl⟩

set_option maxHeartbeats 1000000 in
theorem token_any (s : ByteArray) (w : World) (hs : s.size ≤ maxLen) :
    Calls Tryd.prog 51 #[.string s] w fun e w' => e = .returned (.bool (tokL s.data.toList)) ∧ w = w' := by
  unfold maxLen at hs
  go_enter Tryd.func51, Tryd.ntmps51
  go_wp2
  go_loop [6] (fun i => ∃ k : Nat, k ≤ s.size ∧ i = .int .i64 k ∧ Hid ((s.data.toList.take k).all (fun c => tchI c.toNat) = true)) (fun i => s.size - (intOf i).toNat)
  case atStart => exact ⟨0, Nat.zero_le _, rfl, Lib.hid rfl⟩
  case round =>
    obtain ⟨k, hk, rfl, Hall⟩ := hrel
    by_cases hlt : k < s.size
    · have cT := inToken_any (s[k].toNat : Int) w
      cases hd : tchI (s[k].toNat : Int)
      · have Hf := Lib.hid (all_false_of (fun c => tchI c.toNat) s k hlt hd)
        rw [hd] at cT
        clear hd
        go_wp2_with (go_at_call 69; refine cT.mono ?_; rintro e w' ⟨rfl, rfl⟩)
        go_ret
        exact ⟨by simp [tokL, Hf.out], rfl⟩
      · have Ha := Lib.hid (all_snoc (fun c => tchI c.toNat) s k hlt)
        rw [hd] at cT
        have Hd := Lib.hid hd
        clear hd
        go_wp2_with (go_at_call 69; refine cT.mono ?_; rintro e w' ⟨rfl, rfl⟩)
        go_round
        case rel => exact ⟨k + 1, by omega, by go_num, Lib.hid (by rw [Ha.out, Hd.out, Bool.and_true]; exact Hall.out)⟩
        case measure => simp [intOf]; omega
    · have hk' : s.size ≤ k := by omega
      go_wp2
      go_ret
      refine ⟨ret_eq (bool_eq ?_), rfl⟩
      rw [take_all s k hk'] at Hall
      rw [tokL, Hall.out, Lib.toList_data, Bool.true_and]

/-- A text that may be a field's value. -/
def txtL (l : List UInt8) : Bool := l.all (fun c => txtI c.toNat) && (trimL l == l)

set_option maxHeartbeats 1000000 in
theorem text_any (s : ByteArray) (w : World) (hs : s.size ≤ maxLen) (hT : Tabs w) :
    Calls Tryd.prog 52 #[.string s] w fun e w' => e = .returned (.bool (txtL s.data.toList)) ∧ Below w.heap.size w w' := by
  have cM := trim_any s w hs hT
  clear hT
  unfold maxLen at hs
  go_enter Tryd.func52, Tryd.ntmps52
  go_wp2
  go_loop [6] (fun i => ∃ k : Nat, k ≤ s.size ∧ i = .int .i64 k ∧ Hid ((s.data.toList.take k).all (fun c => txtI c.toNat) = true)) (fun i => s.size - (intOf i).toNat)
  case atStart => exact ⟨0, Nat.zero_le _, rfl, Lib.hid rfl⟩
  case round =>
    obtain ⟨k, hk, rfl, Hall⟩ := hrel
    by_cases hlt : k < s.size
    · have cT := inText_any (s[k].toNat : Int) w
      cases hd : txtI (s[k].toNat : Int)
      · have Hf := Lib.hid (all_false_of (fun c => txtI c.toNat) s k hlt hd)
        rw [hd] at cT
        clear hd
        go_wp2_with (go_at_call 70; refine cT.mono ?_; rintro e w' ⟨rfl, rfl⟩)
        go_ret
        exact ⟨by simp [txtL, Hf.out], Below.refl _ _⟩
      · have Ha := Lib.hid (all_snoc (fun c => txtI c.toNat) s k hlt)
        rw [hd] at cT
        have Hd := Lib.hid hd
        clear hd
        go_wp2_with (go_at_call 70; refine cT.mono ?_; rintro e w' ⟨rfl, rfl⟩)
        go_round
        case rel => exact ⟨k + 1, by omega, by go_num, Lib.hid (by rw [Ha.out, Hd.out, Bool.and_true]; exact Hall.out)⟩
        case measure => simp [intOf]; omega
    · have hk' : s.size ≤ k := by omega
      go_wp2_with (go_at_call 50; refine cM.mono ?_; rintro e w' ⟨rfl, hb⟩)
      go_ret
      refine ⟨ret_eq (bool_eq ?_), hb⟩
      rw [take_all s k hk'] at Hall
      rw [txtL, Hall.out, Bool.true_and, Lib.toList_data]

end Go.Proofs.YtfhpgobdnhlpcaaDoor
