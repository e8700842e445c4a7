/- The contracts of the document's own answers for package ascii (sculleryref01): blank, letter, Tchar. -/
import Derived.Test.YtfhpgobdnhlpcaaDoorHdQ
namespace Go.Proofs.YtfhpgobdnhlpcaaDoor
open Go.RowKit

def blkI (c : Int) : Bool := c == 32 || c == 9
theorem blkI_of (c : UInt8) : blkI c.toNat = blkB c := by
  unfold blkI blkB
  have h1 : ((c.toNat : Int) == 32) = (c == 32) := byte_beq c 32
  have h2 : ((c.toNat : Int) == 9) = (c == 9) := byte_beq c 9
  rw [h1, h2]

set_option maxHeartbeats 400000 in
theorem rblank_any (c : Int) (w : World) :
    Calls Tryd.prog 54 #[.int .u8 c] w fun e w' => e = .returned (.bool (blkI c)) ∧ w = w' := by
  have hd : blkI c = (c == 32 || c == 9) := rfl
  rw [hd]
  clear hd
  cases h1 : (c == 32) <;> cases h2 : (c == 9)
  all_goals
    go_enter Tryd.func54, Tryd.ntmps54
    go_wp2
    go_ret
    exact ⟨rfl, rfl⟩

set_option maxHeartbeats 1000000 in
theorem rletter_any (c : Int) (w : World) :
    Calls Tryd.prog 72 #[.int .u8 c] w fun e w' => e = .returned (.bool (ltrI c || digI c)) ∧ w = w' := by
  have hd : (ltrI c || digI c) = ((decide (97 ≤ c) && decide (c ≤ 122)) || (decide (65 ≤ c) && decide (c ≤ 90)) || (decide (48 ≤ c) && decide (c ≤ 57))) := by
    simp only [ltrI, upI, lowI, digI]
    rw [Bool.or_comm (decide (65 ≤ c) && decide (c ≤ 90))]
  rw [hd]
  clear hd
  rcases (show c < 48 ∨ (48 ≤ c ∧ c ≤ 57) ∨ (57 < c ∧ c < 65) ∨ (65 ≤ c ∧ c ≤ 90) ∨ (90 < c ∧ c < 97) ∨ (97 ≤ c ∧ c ≤ 122) ∨ 122 < c by omega) with h | h | h | h | h | h | h
  all_goals
    have a1 : ∃ b, decide (97 ≤ c) = b := ⟨_, rfl⟩
    have a2 : ∃ b, decide (c ≤ 122) = b := ⟨_, rfl⟩
    have a3 : ∃ b, decide (65 ≤ c) = b := ⟨_, rfl⟩
    have a4 : ∃ b, decide (c ≤ 90) = b := ⟨_, rfl⟩
    have a5 : ∃ b, decide (48 ≤ c) = b := ⟨_, rfl⟩
    have a6 : ∃ b, decide (c ≤ 57) = b := ⟨_, rfl⟩
    obtain ⟨b1, h1⟩ := a1
    obtain ⟨b2, h2⟩ := a2
    obtain ⟨b3, h3⟩ := a3
    obtain ⟨b4, h4⟩ := a4
    obtain ⟨b5, h5⟩ := a5
    obtain ⟨b6, h6⟩ := a6
    cases b1 <;> cases b2 <;> cases b3 <;> cases b4 <;> cases b5 <;> cases b6 <;> first | (exfalso; simp only [decide_eq_true_eq, decide_eq_false_iff_not] at h1 h2 h3 h4 h5 h6; omega) | skip
    all_goals
      clear h
      go_enter Tryd.func72, Tryd.ntmps72
      go_wp2
      go_ret
      exact ⟨by rw [h1, h2, h3, h4, h5, h6]; rfl, rfl⟩

theorem mark_at (c : UInt8) (k : Nat) (h : k < 15) (e : marksL[k]'h = c) : markI c.toNat = true := by
  subst e
  have : ∀ j : Fin 15, markI (marksL[j.val]'j.isLt).toNat = true := by decide +kernel
  exact this ⟨k, h⟩

theorem mark_none (c : UInt8) (h : ∀ j (hj : j < 15), (marksL[j]'hj == c) = false) : markI c.toNat = false := by
  have hn : ∀ l : List UInt8, (∀ j (hj : j < l.length), (l[j] == c) = false) → Lib.indexByte l c = -1 := by
    intro l
    induction l with
    | nil => intro _; rfl
    | cons a r ih =>
      intro h
      have h0 := h 0 (by simp)
      have hr := ih (fun j hj => h (j + 1) (by simpa using hj))
      simp only [List.getElem_cons_zero] at h0
      rw [Lib.indexByte, h0, hr]
      rfl
  have e : (c.toNat : Int).toNat.toUInt8 = c := by simp
  unfold markI
  rw [e, hn marksL h]
  rfl

set_option maxHeartbeats 1000000 in
theorem rtchar_any (c : UInt8) (w : World) :
    Calls Tryd.prog 55 #[.int .u8 c.toNat] w fun e w' => e = .returned (.bool (tchI c.toNat)) ∧ w = w' := by
  have cL := rletter_any (c.toNat : Int) w
  go_enter Tryd.func55, Tryd.ntmps55
  go_wp2
  go_loop [4] (fun i => ∃ k : Nat, k ≤ 15 ∧ i = .int .i64 k ∧ Hid (∀ j (hj : j < 15), j < k → (marksL[j]'hj == c) = false)) (fun i => 15 - (intOf i).toNat)
  case atStart => exact ⟨0, by omega, rfl, Lib.hid (fun j _ h => by omega)⟩
  case round =>
    obtain ⟨k, hk, rfl, H⟩ := hrel
    by_cases hlt : k < 15
    · have hls : k < (⟨#[33, 35, 36, 37, 38, 39, 42, 43, 45, 46, 94, 95, 96, 124, 126]⟩ : ByteArray).size := hlt
      have hg : (⟨#[33, 35, 36, 37, 38, 39, 42, 43, 45, 46, 94, 95, 96, 124, 126]⟩ : ByteArray)[k]'hls = marksL[k]'hlt := rfl
      have B := byte_beq (marksL[k]'hlt) c
      cases he : (marksL[k]'hlt == c)
      · have hb : ((((⟨#[33, 35, 36, 37, 38, 39, 42, 43, 45, 46, 94, 95, 96, 124, 126]⟩ : ByteArray)[k]'hls).toNat : Int) == (c.toNat : Int)) = false := by rw [hg, B, he]
        have He := Lib.hid he
        clear hg B he
        go_wp2
        go_round
        case rel =>
          refine ⟨k + 1, by omega, by go_num, Lib.hid (fun j hj h => ?_)⟩
          by_cases e : j = k
          · subst e; exact He.out
          · exact H.out j hj (by omega)
        case measure => simp [intOf]; omega
      · have hb : ((((⟨#[33, 35, 36, 37, 38, 39, 42, 43, 45, 46, 94, 95, 96, 124, 126]⟩ : ByteArray)[k]'hls).toNat : Int) == (c.toNat : Int)) = true := by rw [hg, B, he]
        have Hm := Lib.hid (mark_at c k hlt (by simpa using he))
        clear hg B he
        go_wp2
        go_ret
        exact ⟨ret_eq (bool_eq (by rw [tchI, Hm.out, Bool.or_true])), rfl⟩
    · have Hm := Lib.hid (mark_none c (fun j hj => H.out j hj (by omega)))
      go_wp2_with (go_at_call 72; refine cL.mono ?_; rintro e w' ⟨rfl, rfl⟩)
      go_ret
      exact ⟨ret_eq (bool_eq (by rw [tchI, Hm.out, Bool.or_false])), rfl⟩

end Go.Proofs.YtfhpgobdnhlpcaaDoor
