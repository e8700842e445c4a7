/- The contracts of package ascii's small functions: isLetter. -/
import Derived.Test.YtjnagifolheloaaDoorRows
import Derived.Test.YtjnagifolheloaaDoorMAscPlain
import Derived.Test.YtjnagifolheloaaDoorMAscN
import Derived.WalkKit
import Derived.WalkSpells
import Derived.WalkLawsBesides
import Derived.Lib.Hide

namespace Go.Proofs.YtjnagifolheloaaDoor
open Go.RowKit

set_option maxHeartbeats 400000 in
theorem isLetter_any (c : Int) (w : World) :
    Calls Tryd.prog 66 #[.int .u8 c] w fun e w' => e = .returned (.bool (ltrI c)) ∧ w = w' := by
  have cU := isUpper_any c w
  have hd : ltrI c = (upI c || (decide (97 ≤ c) && decide (c ≤ 122))) := rfl
  generalize upI c = u at cU hd
  cases u
  · cases h1 : decide (97 ≤ c) <;> cases h2 : decide (c ≤ 122)
    all_goals
      simp only [h1, h2, Bool.and_true, Bool.and_false, Bool.false_or] at hd
      rw [hd]
      clear hd
      go_enter Tryd.func66, Tryd.ntmps66
      go_wp2_with (go_at_call 51; refine cU.mono ?_; rintro e w' ⟨rfl, rfl⟩)
      go_ret
      exact ⟨rfl, rfl⟩
  · rw [hd]
    clear hd
    go_enter Tryd.func66, Tryd.ntmps66
    go_wp2_with (go_at_call 51; refine cU.mono ?_; rintro e w' ⟨rfl, rfl⟩)
    go_ret
    exact ⟨rfl, rfl⟩

end Go.Proofs.YtjnagifolheloaaDoor
