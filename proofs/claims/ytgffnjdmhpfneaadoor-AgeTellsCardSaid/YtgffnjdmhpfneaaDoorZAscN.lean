/- The contracts of package ascii's small functions: isDigit, isUpper. -/
import Derived.Test.YtgffnjdmhpfneaaDoorRows
import Derived.Test.YtgffnjdmhpfneaaDoorZAscPlain
import Derived.WalkKit
import Derived.WalkSpells
import Derived.WalkLawsBesides
import Derived.Lib.Hide

namespace Go.Proofs.YtgffnjdmhpfneaaDoor
open Go.RowKit

set_option maxHeartbeats 400000 in
theorem isDigit_any (c : Int) (w : World) :
    Calls Tryd.prog 32 #[.int .u8 c] w fun e w' => e = .returned (.bool (digI c)) ∧ w = w' := by
  cases h1 : decide (48 ≤ c) <;> cases h2 : decide (c ≤ 57)
  all_goals
    have hd : digI c = (decide (48 ≤ c) && decide (c ≤ 57)) := rfl
    simp only [h1, h2, Bool.and_true, Bool.and_false] at hd
    rw [hd]
    clear hd
    go_enter Tryd.func32, Tryd.ntmps32
    go_wp2
    go_ret
    exact ⟨rfl, rfl⟩

end Go.Proofs.YtgffnjdmhpfneaaDoor
