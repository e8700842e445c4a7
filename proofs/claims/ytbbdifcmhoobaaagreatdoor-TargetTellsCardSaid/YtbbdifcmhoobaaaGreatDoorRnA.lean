/- The document's own letter, plain, hex (sculleryref09). -/
import Derived.Test.YtbbdifcmhoobaaaGreatDoorTgQ
import Derived.Test.YtbbdifcmhoobaaaGreatDoorRows
import Derived.Test.YtbbdifcmhoobaaaGreatDoorBasP
import Derived.WalkKit
import Derived.WalkSpells
import Derived.WalkLawsBesides
namespace Go.Proofs.YtbbdifcmhoobaaaGreatDoor
open Go.RowKit

set_option maxHeartbeats 1000000 in
theorem nletter_any (c : Int) (w : World) :
    Calls Tryz.prog 17 #[.int .u8 c] w fun e w' => e = .returned (.bool (ltrI c || digI c)) ∧ w = w' := by
  have hd : (ltrI c || digI c) = ((decide (97 ≤ c) && decide (c ≤ 122)) || (decide (65 ≤ c) && decide (c ≤ 90)) || (decide (48 ≤ c) && decide (c ≤ 57))) := by
    simp only [ltrI, upI, lowI, digI]
    rw [Bool.or_comm (decide (65 ≤ c) && decide (c ≤ 90))]
  rw [hd]
  clear hd
  rcases (show c < 48 ∨ (48 ≤ c ∧ c ≤ 57) ∨ (57 < c ∧ c < 65) ∨ (65 ≤ c ∧ c ≤ 90) ∨ (90 < c ∧ c < 97) ∨ (97 ≤ c ∧ c ≤ 122) ∨ 122 < c by omega) with h | h | h | h | h | h | h
  all_goals
    have a1 : ∃ b, decide (97 ≤ c) = b := ⟨_, rfl⟩
    have a2 : ∃ b, decide (c ≤ 122) = b := ⟨_, rfl⟩
    have a3 : ∃ b, decide (65 ≤ c) = b := ⟨_, rfl⟩
    have a4 : ∃ b, decide (c ≤ 90) = b := ⟨_, rfl⟩
    have a5 : ∃ b, decide (48 ≤ c) = b := ⟨_, rfl⟩
    have a6 : ∃ b, decide (c ≤ 57) = b := ⟨_, rfl⟩
    obtain ⟨b1, h1⟩ := a1
    obtain ⟨b2, h2⟩ := a2
    obtain ⟨b3, h3⟩ := a3
    obtain ⟨b4, h4⟩ := a4
    obtain ⟨b5, h5⟩ := a5
    obtain ⟨b6, h6⟩ := a6
    cases b1 <;> cases b2 <;> cases b3 <;> cases b4 <;> cases b5 <;> cases b6 <;> first | (exfalso; simp only [decide_eq_true_eq, decide_eq_false_iff_not] at h1 h2 h3 h4 h5 h6; omega) | skip
    all_goals
      clear h
      go_enter Tryz.func17, Tryz.ntmps17
      go_wp2
      go_ret
      exact ⟨by rw [h1, h2, h3, h4, h5, h6]; rfl, rfl⟩

set_option maxHeartbeats 1000000 in
theorem nplain_any (c : UInt8) (w : World) :
    Calls Tryz.prog 25 #[.int .u8 (c.toNat : Int)] w fun e w' => e = .returned (.bool (plnB c)) ∧ w = w' := by
  have cL := nletter_any (c.toNat : Int) w
  have e1 : ((c.toNat : Int) == 45) = (c == 45) := byte_beq c 45
  have e2 : ((c.toNat : Int) == 46) = (c == 46) := byte_beq c 46
  have e3 : ((c.toNat : Int) == 95) = (c == 95) := byte_beq c 95
  have e4 : ((c.toNat : Int) == 126) = (c == 126) := byte_beq c 126
  have hd : plnB c = ((ltrI c.toNat || digI c.toNat) || c == 45 || c == 46 || c == 95 || c == 126) := rfl
  rw [hd]
  clear hd
  generalize (ltrI (c.toNat : Int) || digI (c.toNat : Int)) = b0 at *
  generalize (c == 45) = b1 at *
  generalize (c == 46) = b2 at *
  generalize (c == 95) = b3 at *
  generalize (c == 126) = b4 at *
  cases b0 <;> cases b1 <;> cases b2 <;> cases b3 <;> cases b4
  all_goals
    go_enter Tryz.func25, Tryz.ntmps25
    go_wp2_with (go_at_call 17; refine cL.mono ?_; rintro e w' ⟨rfl, rfl⟩)
    go_ret
    exact ⟨rfl, rfl⟩

/-- The signs of a number by sixteen. -/
def hexS : List UInt8 := [48, 49, 50, 51, 52, 53, 54, 55, 56, 57, 65, 66, 67, 68, 69, 70]
theorem hx_at (c : UInt8) (k : Nat) (h : k < 16) : (hexS.getD k 0 == c || (decide (9 < k) && hexS.getD k 0 + 32 == c)) = decide (hxN c = k) := by
  have : ∀ x : Fin 256, ∀ j : Fin 16, (hexS.getD j.val 0 == x.val.toUInt8 || (decide (9 < j.val) && hexS.getD j.val 0 + 32 == x.val.toUInt8)) = decide (hxN x.val.toUInt8 = j.val) := by decide +kernel
  have h2 := this ⟨c.toNat, UInt8.toNat_lt c⟩ ⟨k, h⟩
  simpa using h2
theorem hx_none (c : UInt8) (h : ∀ j, j < 16 → hxN c ≠ j) : hxN c = 16 := by
  have : ∀ x : Fin 256, hxN x.val.toUInt8 ≤ 16 := by decide +kernel
  have h2 := this ⟨c.toNat, UInt8.toNat_lt c⟩
  have h3 : hxN c ≤ 16 := by simpa using h2
  by_cases h4 : hxN c < 16
  · exact absurd rfl (h _ h4)
  · omega
/-- A digit's number; -1: it is none. -/
def hxI (c : UInt8) : Int := if hxN c < 16 then (hxN c : Int) else -1
theorem hexS_small (k : Nat) (h : k < 16) : (hexS.getD k 0).toNat + 32 < 256 := by
  have : ∀ j : Fin 16, (hexS.getD j.val 0).toNat + 32 < 256 := by decide +kernel
  exact this ⟨k, h⟩

set_option maxRecDepth 100000 in
set_option maxHeartbeats 2000000 in
theorem nhex_any (c : UInt8) (w : World) :
    Calls Tryz.prog 24 #[.int .u8 (c.toNat : Int)] w fun e w' => e = .returned (.int .i64 (hxI c)) ∧ w = w' := by
  go_enter Tryz.func24, Tryz.ntmps24
  go_wp2
  go_loop [4] (fun i => ∃ k : Nat, k ≤ 16 ∧ i = .int .i64 k ∧ Hid (∀ j, j < k → hxN c ≠ j)) (fun i => 16 - (intOf i).toNat)
  case atStart => exact ⟨0, by omega, rfl, Lib.hid (fun j h => by omega)⟩
  case round =>
    obtain ⟨k, hk, rfl, H⟩ := hrel
    by_cases hlt : k < 16
    · have hls : k < (⟨#[48, 49, 50, 51, 52, 53, 54, 55, 56, 57, 65, 66, 67, 68, 69, 70]⟩ : ByteArray).size := hlt
      have hg : (⟨#[48, 49, 50, 51, 52, 53, 54, 55, 56, 57, 65, 66, 67, 68, 69, 70]⟩ : ByteArray)[k]'hls = hexS.getD k 0 := by
        have : ∀ j : Fin 16, (⟨#[48, 49, 50, 51, 52, 53, 54, 55, 56, 57, 65, 66, 67, 68, 69, 70]⟩ : ByteArray)[j.val]'j.isLt = hexS.getD j.val 0 := by decide
        exact this ⟨k, hlt⟩
      have hat := hx_at c k hlt
      have hsm := hexS_small k hlt
      have B := byte_beq (hexS.getD k 0) c
      have hw : (((hexS.getD k 0).toNat : Int) + 32) % 256 = (((hexS.getD k 0 + 32).toNat : Nat) : Int) := by
        have e : (hexS.getD k 0 + 32).toNat = (hexS.getD k 0).toNat + 32 := by
          rw [UInt8.toNat_add]
          have : (32 : UInt8).toNat = 32 := rfl
          omega
        rw [e]
        have : 0 ≤ ((hexS.getD k 0).toNat : Int) := by omega
        omega
      have B2 := byte_beq (hexS.getD k 0 + 32) c
      generalize hexS.getD k 0 = s at *
      cases h1 : (s == c)
      · cases h2 : decide ((9 : Int) < (k : Int))
        · have hn : Hid (hxN c ≠ k) := Lib.hid (by
            have h3 : decide (9 < k) = false := by rw [decide_eq_false_iff_not] at h2 ⊢; omega
            rw [h1, h3] at hat
            exact of_decide_eq_false hat.symm)
          rw [h1] at B
          rw [← hg] at B
          clear hat hsm hw B2 h1 hg
          go_wp2
          go_round
          case rel => exact ⟨k + 1, by omega, by go_num, Lib.hid (fun j hj => by
            by_cases e : j = k
            · subst e; exact hn.out
            · exact H.out j (by omega))⟩
          case measure => simp [intOf]; omega
        · cases h4 : (s + 32 == c)
          · have hn : Hid (hxN c ≠ k) := Lib.hid (by
              rw [h1, h4, Bool.and_false] at hat
              exact of_decide_eq_false hat.symm)
            rw [h1] at B
            rw [h4, ← hw, ← hg] at B2
            rw [← hg] at B
            clear hat hsm h1 h4 hg hw
            go_wp2
            go_round
            case rel => exact ⟨k + 1, by omega, by go_num, Lib.hid (fun j hj => by
              by_cases e : j = k
              · subst e; exact hn.out
              · exact H.out j (by omega))⟩
            case measure => simp [intOf]; omega
          · have hy : Hid (hxI c = (k : Int)) := Lib.hid (by
              have h3 : decide (9 < k) = true := by rw [decide_eq_true_eq] at h2 ⊢; omega
              rw [h1, h3, h4] at hat
              have := of_decide_eq_true hat.symm
              rw [hxI, this, if_pos hlt])
            rw [h1] at B
            rw [h4, ← hw, ← hg] at B2
            rw [← hg] at B
            clear hat hsm h1 h4 hg hw
            go_wp2
            go_ret
            exact ⟨ret_eq (int_eq hy.out.symm), rfl⟩
      · have hy : Hid (hxI c = (k : Int)) := Lib.hid (by
          rw [h1, Bool.true_or] at hat
          have := of_decide_eq_true hat.symm
          rw [hxI, this, if_pos hlt])
        rw [h1] at B
        rw [← hg] at B
        clear hat hsm hw B2 h1 hg
        go_wp2
        go_ret
        exact ⟨ret_eq (int_eq hy.out.symm), rfl⟩
    · have hn : Hid (hxI c = -1) := Lib.hid (by rw [hxI, hx_none c (fun j hj => H.out j (by omega)), if_neg (by decide)])
      go_wp2
      go_ret
      exact ⟨ret_eq (int_eq hn.out.symm), rfl⟩

end Go.Proofs.YtbbdifcmhoobaaaGreatDoor
