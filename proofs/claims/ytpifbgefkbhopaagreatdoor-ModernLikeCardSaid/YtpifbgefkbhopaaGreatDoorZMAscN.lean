/- The contracts of package ascii's small functions: isDigit, isUpper. · The contracts of package ascii's small functions: isLetter. -/
import Derived.Test.YtpifbgefkbhopaaGreatDoorRows
import Derived.Test.YtpifbgefkbhopaaGreatDoorZAscPlain
import Derived.WalkKit
import Derived.WalkSpells
import Derived.WalkLawsBesides
import Derived.Lib.Hide

namespace Go.Proofs.YtpifbgefkbhopaaGreatDoor
open Go.RowKit

set_option maxHeartbeats 400000 in
theorem isDigit_any_AscN (c : Int) (w : World) :
    Calls Tryz.prog 72 #[.int .u8 c] w fun e w' => e = .returned (.bool (digI c)) ∧ w = w' := by
  cases h1 : decide (48 ≤ c) <;> cases h2 : decide (c ≤ 57)
  all_goals
    have hd : digI c = (decide (48 ≤ c) && decide (c ≤ 57)) := rfl
    simp only [h1, h2, Bool.and_true, Bool.and_false] at hd
    rewrite [hd]
    clear hd
    go_enter Tryz.func72, Tryz.ntmps72
    go_wp2
    go_ret
    exact ⟨rfl, rfl⟩

set_option maxHeartbeats 400000 in
theorem isUpper_any_AscN (c : Int) (w : World) :
    Calls Tryz.prog 78 #[.int .u8 c] w fun e w' => e = .returned (.bool (upI c)) ∧ w = w' := by
  cases h1 : decide (65 ≤ c) <;> cases h2 : decide (c ≤ 90)
  all_goals
    have hd : upI c = (decide (65 ≤ c) && decide (c ≤ 90)) := rfl
    simp only [h1, h2, Bool.and_true, Bool.and_false] at hd
    rewrite [hd]
    clear hd
    go_enter Tryz.func78, Tryz.ntmps78
    go_wp2
    go_ret
    exact ⟨rfl, rfl⟩

end Go.Proofs.YtpifbgefkbhopaaGreatDoor

namespace Go.Proofs.YtpifbgefkbhopaaGreatDoor
open Go.RowKit

set_option maxHeartbeats 400000 in
theorem isLetter_any_LtrA (c : Int) (w : World) :
    Calls Tryz.prog 107 #[.int .u8 c] w fun e w' => e = .returned (.bool (ltrI c)) ∧ w = w' := by
  have cU := isUpper_any_AscN c w
  have hd : ltrI c = (upI c || (decide (97 ≤ c) && decide (c ≤ 122))) := rfl
  generalize upI c = u at cU hd
  cases u
  · cases h1 : decide (97 ≤ c) <;> cases h2 : decide (c ≤ 122)
    all_goals
      simp only [h1, h2, Bool.and_true, Bool.and_false, Bool.false_or] at hd
      rewrite [hd]
      clear hd
      go_enter Tryz.func107, Tryz.ntmps107
      go_wp2_with (go_at_call 78; refine cU.mono ?_; rintro e w' ⟨rfl, rfl⟩)
      go_ret
      exact ⟨rfl, rfl⟩
  · rewrite [hd]
    clear hd
    go_enter Tryz.func107, Tryz.ntmps107
    go_wp2_with (go_at_call 78; refine cU.mono ?_; rintro e w' ⟨rfl, rfl⟩)
    go_ret
    exact ⟨rfl, rfl⟩

end Go.Proofs.YtpifbgefkbhopaaGreatDoor
