/- The contracts of package ascii's small functions: isDigit, isUpper, isLetter, inText. -/
import Derived.Test.YthbfcamfapgodaaGreatDoorRows
import Derived.Test.YthbfcamfapgodaaGreatDoorGZ
import Derived.WalkKit
import Derived.WalkSpells
import Derived.WalkLawsBesides
import Derived.Lib.Hide

namespace Go.Proofs.YthbfcamfapgodaaGreatDoor
open Go.RowKit

set_option maxHeartbeats 400000 in
theorem isDigit_any (c : Int) (w : World) :
    Calls Tryz.prog 81 #[.int .u8 c] w fun e w' => e = .returned (.bool (digI c)) ∧ w = w' := by
  cases h1 : decide (48 ≤ c) <;> cases h2 : decide (c ≤ 57)
  all_goals
    have hd : digI c = (decide (48 ≤ c) && decide (c ≤ 57)) := rfl
    simp only [h1, h2, Bool.and_true, Bool.and_false] at hd
    rw [hd]
    clear hd
    go_enter Tryz.func81, Tryz.ntmps81
    go_wp2
    go_ret
    exact ⟨rfl, rfl⟩

set_option maxHeartbeats 400000 in
theorem isUpper_any (c : Int) (w : World) :
    Calls Tryz.prog 80 #[.int .u8 c] w fun e w' => e = .returned (.bool (upI c)) ∧ w = w' := by
  cases h1 : decide (65 ≤ c) <;> cases h2 : decide (c ≤ 90)
  all_goals
    have hd : upI c = (decide (65 ≤ c) && decide (c ≤ 90)) := rfl
    simp only [h1, h2, Bool.and_true, Bool.and_false] at hd
    rw [hd]
    clear hd
    go_enter Tryz.func80, Tryz.ntmps80
    go_wp2
    go_ret
    exact ⟨rfl, rfl⟩

set_option maxHeartbeats 400000 in
theorem isLetter_any (c : Int) (w : World) :
    Calls Tryz.prog 89 #[.int .u8 c] w fun e w' => e = .returned (.bool (ltrI c)) ∧ w = w' := by
  have cU := isUpper_any c w
  have hd : ltrI c = (upI c || (decide (97 ≤ c) && decide (c ≤ 122))) := rfl
  generalize upI c = u at cU hd
  cases u
  · cases h1 : decide (97 ≤ c) <;> cases h2 : decide (c ≤ 122)
    all_goals
      simp only [h1, h2, Bool.and_true, Bool.and_false, Bool.false_or] at hd
      rw [hd]
      clear hd
      go_enter Tryz.func89, Tryz.ntmps89
      go_wp2_with (go_at_call 80; refine cU.mono ?_; rintro e w' ⟨rfl, rfl⟩)
      go_ret
      exact ⟨rfl, rfl⟩
  · rw [hd]
    clear hd
    go_enter Tryz.func89, Tryz.ntmps89
    go_wp2_with (go_at_call 80; refine cU.mono ?_; rintro e w' ⟨rfl, rfl⟩)
    go_ret
    exact ⟨rfl, rfl⟩

set_option maxHeartbeats 400000 in
theorem inText_any (c : Int) (w : World) :
    Calls Tryz.prog 87 #[.int .u8 c] w fun e w' => e = .returned (.bool (txtI c)) ∧ w = w' := by
  have hd : txtI c = (c == 9 || (decide (32 ≤ c) && c != 127)) := rfl
  cases h0 : (c == 9)
  · cases h1 : decide (32 ≤ c) <;> cases h2 : (c != 127)
    all_goals
      simp only [h0, h1, h2, Bool.and_true, Bool.and_false, Bool.false_or] at hd
      rw [hd]
      clear hd
      go_enter Tryz.func87, Tryz.ntmps87
      go_wp2
      go_ret
      exact ⟨rfl, rfl⟩
  · rw [hd, h0]
    clear hd
    go_enter Tryz.func87, Tryz.ntmps87
    go_wp2
    go_ret
    exact ⟨rfl, rfl⟩

end Go.Proofs.YthbfcamfapgodaaGreatDoor
