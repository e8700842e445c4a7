/- The contracts of package target's small functions: inName, isUnreserved, isName, isVisible, isPort, isDots. -/
import Derived.Test.YtbbdifcmhoobaaaGreatDoorDigP
import Derived.Test.YtbbdifcmhoobaaaGreatDoorTgX
import Derived.Test.YtbbdifcmhoobaaaGreatDoorTgY
import Derived.Test.YtbbdifcmhoobaaaGreatDoorTgW
namespace Go.Proofs.YtbbdifcmhoobaaaGreatDoor
open Go.RowKit

def hstI (c : Int) : Bool := ltrI c || digI c || c == 45 || c == 46
theorem hstI_of (c : UInt8) : hstI c.toNat = hstB c := by
  have h1 : ((c.toNat : Int) == 45) = (c == 45) := byte_beq c 45
  have h2 : ((c.toNat : Int) == 46) = (c == 46) := byte_beq c 46
  rw [hstI, hstB, h1, h2]
  cases ltrI c.toNat <;> cases digI c.toNat <;> cases (c == 45) <;> cases (c == 46) <;> rfl

set_option maxHeartbeats 1000000 in
theorem inName_int (c : Int) (w : World) :
    Calls Tryz.prog 33 #[.int .u8 c] w fun e w' => e = .returned (.bool (hstI c)) ∧ w = w' := by
  have hd : hstI c = ((decide (97 ≤ c) && decide (c ≤ 122)) || (decide (65 ≤ c) && decide (c ≤ 90)) || (decide (48 ≤ c) && decide (c ≤ 57)) || c == 45 || c == 46) := by
    simp only [hstI, ltrI, upI, lowI, digI]
    rw [Bool.or_comm (decide (65 ≤ c) && decide (c ≤ 90))]
  rw [hd]
  clear hd
  rcases (show c < 45 ∨ c = 45 ∨ c = 46 ∨ c = 47 ∨ (48 ≤ c ∧ c ≤ 57) ∨ (57 < c ∧ c < 65) ∨ (65 ≤ c ∧ c ≤ 90) ∨ (90 < c ∧ c < 97) ∨ (97 ≤ c ∧ c ≤ 122) ∨ 122 < c by omega) with h | h | h | h | h | h | h | h | h | h
  all_goals
    first | have h1 := decide_eq_true (p := (97 : Int) ≤ c) (by omega) | have h1 := decide_eq_false (p := (97 : Int) ≤ c) (by omega)
    first | have h2 := decide_eq_true (p := c ≤ (122 : Int)) (by omega) | have h2 := decide_eq_false (p := c ≤ (122 : Int)) (by omega)
    first | have h3 := decide_eq_true (p := (65 : Int) ≤ c) (by omega) | have h3 := decide_eq_false (p := (65 : Int) ≤ c) (by omega)
    first | have h4 := decide_eq_true (p := c ≤ (90 : Int)) (by omega) | have h4 := decide_eq_false (p := c ≤ (90 : Int)) (by omega)
    first | have h5 := decide_eq_true (p := (48 : Int) ≤ c) (by omega) | have h5 := decide_eq_false (p := (48 : Int) ≤ c) (by omega)
    first | have h6 := decide_eq_true (p := c ≤ (57 : Int)) (by omega) | have h6 := decide_eq_false (p := c ≤ (57 : Int)) (by omega)
    first | have h7 : (c == 45) = true := beq_iff_eq.2 (by omega) | have h7 : (c == 45) = false := beq_eq_false_iff_ne.2 (by omega)
    first | have h8 : (c == 46) = true := beq_iff_eq.2 (by omega) | have h8 : (c == 46) = false := beq_eq_false_iff_ne.2 (by omega)
    clear h
    go_enter Tryz.func33, Tryz.ntmps33
    go_wp2
    go_ret
    exact ⟨by rw [h1, h2, h3, h4, h5, h6, h7, h8]; rfl, rfl⟩

theorem inName_any (c : UInt8) (w : World) :
    Calls Tryz.prog 33 #[.int .u8 (c.toNat : Int)] w fun e w' => e = .returned (.bool (hstB c)) ∧ w = w' := by
  rw [← hstI_of]
  exact inName_int _ w

set_option maxHeartbeats 1000000 in
theorem isUnreserved_any (c : UInt8) (w : World) :
    Calls Tryz.prog 38 #[.int .u8 (c.toNat : Int)] w fun e w' => e = .returned (.bool (plnB c)) ∧ w = w' := by
  have cL := inName_any c w
  have e3 : ((c.toNat : Int) == 95) = (c == 95) := byte_beq c 95
  have e4 : ((c.toNat : Int) == 126) = (c == 126) := byte_beq c 126
  have hd : plnB c = (hstB c || c == 95 || c == 126) := by
    rw [plnB, hstB]
    cases ltrI c.toNat <;> cases digI c.toNat <;> cases (c == 45) <;> cases (c == 46) <;> cases (c == 95) <;> cases (c == 126) <;> rfl
  rw [hd]
  clear hd
  generalize hstB c = b0 at *
  generalize (c == 95) = b3 at *
  generalize (c == 126) = b4 at *
  cases b0 <;> cases b3 <;> cases b4
  all_goals
    go_enter Tryz.func38, Tryz.ntmps38
    go_wp2_with (go_at_call 33; refine cL.mono ?_; rintro e w' ⟨rfl, rfl⟩)
    go_ret
    exact ⟨rfl, rfl⟩

set_option maxHeartbeats 1000000 in
theorem isName_any (s : ByteArray) (w : World) (hs : s.size ≤ maxLen) :
    Calls Tryz.prog 14 #[.string s] w fun e w' => e = .returned (.bool (nmL s.data.toList)) ∧ w = w' := by
  unfold maxLen at hs
  go_enter Tryz.func14, Tryz.ntmps14
  go_wp2
  go_loop [6] (fun i => ∃ k : Nat, k ≤ s.size ∧ i = .int .i64 k ∧ Hid ((s.data.toList.take k).all hstB = true)) (fun i => s.size - (intOf i).toNat)
  case atStart => exact ⟨0, Nat.zero_le _, rfl, Lib.hid rfl⟩
  case round =>
    obtain ⟨k, hk, rfl, Hall⟩ := hrel
    by_cases hlt : k < s.size
    · have cT := inName_any s[k] w
      cases hd : hstB s[k]
      · have Hf := Lib.hid (all_false_of hstB s k hlt hd)
        rw [hd] at cT
        clear hd
        go_wp2_with (go_at_call 33; refine cT.mono ?_; rintro e w' ⟨rfl, rfl⟩)
        go_ret
        exact ⟨by simp [nmL, Hf.out], rfl⟩
      · have Ha := Lib.hid (all_snoc hstB s k hlt)
        rw [hd] at cT
        have Hd := Lib.hid hd
        clear hd
        go_wp2_with (go_at_call 33; refine cT.mono ?_; rintro e w' ⟨rfl, rfl⟩)
        go_round
        case rel => exact ⟨k + 1, by omega, by go_num, Lib.hid (by rw [Ha.out, Hd.out, Bool.and_true]; exact Hall.out)⟩
        case measure => simp [intOf]; omega
    · have hk' : s.size ≤ k := by omega
      have Hr : Hid (nmL s.data.toList = !s.data.toList.isEmpty) := Lib.hid (by
        have := Hall.out
        rw [take_all s k hk'] at this
        rw [nmL, this, Bool.true_and])
      go_wp2
      go_ret
      exact ⟨ret_eq (bool_eq (by rw [Hr.out, Lib.toList_data])), rfl⟩

theorem pctI_of (c : UInt8) : pctB c = (!decide ((c.toNat : Int) < 33) && !decide (126 < (c.toNat : Int)) && !((c.toNat : Int) == 35)) := by
  have h1 : ((c.toNat : Int) == 35) = (c == 35) := byte_beq c 35
  have h2 : decide ((c.toNat : Int) < 33) = !decide (33 ≤ c.toNat) := by
    by_cases h : 33 ≤ c.toNat
    · rw [decide_eq_true h, decide_eq_false (by omega)]; rfl
    · rw [decide_eq_false h, decide_eq_true (by omega)]; rfl
  have h3 : decide (126 < (c.toNat : Int)) = !decide (c.toNat ≤ 126) := by
    by_cases h : c.toNat ≤ 126
    · rw [decide_eq_true h, decide_eq_false (by omega)]; rfl
    · rw [decide_eq_false h, decide_eq_true (by omega)]; rfl
  rw [pctB, h1, h2, h3, Bool.not_not, Bool.not_not]
  rfl
set_option maxHeartbeats 1000000 in
theorem isVisible_any (s : ByteArray) (w : World) (hs : s.size ≤ maxLen) :
    Calls Tryz.prog 20 #[.string s] w fun e w' => e = .returned (.bool (visL s.data.toList)) ∧ w = w' := by
  unfold maxLen at hs
  go_enter Tryz.func20, Tryz.ntmps20
  go_wp2
  go_loop [6] (fun i => ∃ k : Nat, k ≤ s.size ∧ i = .int .i64 k ∧ Hid ((s.data.toList.take k).all pctB = true)) (fun i => s.size - (intOf i).toNat)
  case atStart => exact ⟨0, Nat.zero_le _, rfl, Lib.hid rfl⟩
  case round =>
    obtain ⟨k, hk, rfl, Hall⟩ := hrel
    by_cases hlt : k < s.size
    · have hp := pctI_of s[k]
      have Hf : Hid (pctB s[k] = false → visL s.data.toList = false) := Lib.hid (fun h => all_false_of pctB s k hlt h)
      have Ha := Lib.hid (all_snoc pctB s k hlt)
      cases h1 : decide ((s[k].toNat : Int) < 33)
      · cases h2 : decide (126 < (s[k].toNat : Int))
        · cases h3 : ((s[k].toNat : Int) == 35)
          · have Hp : Hid (pctB s[k] = true) := Lib.hid (by rw [hp, h1, h2, h3]; rfl)
            clear hp Hf
            go_wp2
            go_round
            case rel => exact ⟨k + 1, by omega, by go_num, Lib.hid (by rw [Ha.out, Hp.out, Bool.and_true]; exact Hall.out)⟩
            case measure => simp [intOf]; omega
          · have Hr := Lib.hid (Hf.out (by rw [hp, h1, h2, h3]; rfl))
            clear hp Hf Ha
            go_wp2
            go_ret
            exact ⟨ret_eq (bool_eq Hr.out.symm), rfl⟩
        · have Hr := Lib.hid (Hf.out (by rw [hp, h1, h2]; rfl))
          clear hp Hf Ha
          go_wp2
          go_ret
          exact ⟨ret_eq (bool_eq Hr.out.symm), rfl⟩
      · have Hr := Lib.hid (Hf.out (by rw [hp, h1]; rfl))
        clear hp Hf Ha
        go_wp2
        go_ret
        exact ⟨ret_eq (bool_eq Hr.out.symm), rfl⟩
    · have hk' : s.size ≤ k := by omega
      have Hr : Hid (visL s.data.toList = true) := Lib.hid (by
        have := Hall.out
        rw [take_all s k hk'] at this
        exact this)
      go_wp2
      go_ret
      exact ⟨ret_eq (bool_eq Hr.out.symm), rfl⟩

theorem strB_toList (p : List UInt8) : (strB p).toList = p := by rw [Lib.toList_data, strB_data]
theorem isDots_any (p : List UInt8) (w : World) :
    Calls Tryz.prog 44 #[.string (strB p)] w fun e w' => e = .returned (.bool (dotS p)) ∧ w = w' := by
  have hd : dotS p = ((strB p).toList == [46] || (strB p).toList == [46, 46]) := by rw [strB_toList]; rfl
  rw [hd]
  clear hd
  generalize strB p = s
  go_enter Tryz.func44, Tryz.ntmps44
  go_wp2
  all_goals go_ret
  all_goals first | exact ⟨rfl, rfl⟩ | (rename_i h; exact ⟨ret_eq (bool_eq (by rw [h]; rfl)), rfl⟩) | (rename_i h; exact ⟨ret_eq (bool_eq (by simp [h])), rfl⟩)

set_option maxHeartbeats 1000000 in
theorem isPort_any (s : ByteArray) (w : World) (hs : s.size ≤ maxLen) :
    Calls Tryz.prog 15 #[.string s] w fun e w' => e = .returned (.bool (prtL s.data.toList)) ∧ w = w' := by
  unfold prtL
  have cD := digits_any s w hs
  have hz : decide (s.data.toList.length ≤ 5) = decide ((s.size : Int) ≤ 5) := by
    rw [← Lib.size_eq s]
    by_cases h : s.size ≤ 5
    · rw [decide_eq_true h, decide_eq_true (by omega)]
    · rw [decide_eq_false h, decide_eq_false (by omega)]
  unfold maxLen at hs
  generalize digitsN s.data.toList = n at *
  generalize digitsB s.data.toList = b at *
  rw [hz]
  have he := Lib.toList_data s
  rw [← he]
  clear he hz
  cases h1 : s.toList.isEmpty <;> cases b
  all_goals
    go_enter Tryz.func15, Tryz.ntmps15
    go_wp2_with (go_at_call 34; refine cD.mono ?_; rintro e w' ⟨rfl, rfl⟩)
    go_ret
    exact ⟨rfl, rfl⟩

end Go.Proofs.YtbbdifcmhoobaaaGreatDoor
