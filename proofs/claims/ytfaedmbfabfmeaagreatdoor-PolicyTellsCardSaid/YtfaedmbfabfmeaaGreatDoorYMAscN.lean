/- The contracts of package ascii's small functions: isDigit, isUpper. · The contracts of package ascii's small functions: isLetter. -/
import Derived.Test.YtfaedmbfabfmeaaGreatDoorRows
import Derived.Test.YtfaedmbfabfmeaaGreatDoorYAscPlain
import Derived.WalkKit
import Derived.WalkSpells
import Derived.WalkLawsBesides
import Derived.Lib.Hide
set_option linter.unusedSimpArgs false
set_option maxRecDepth 100000
set_option maxHeartbeats 1000000
namespace Go.Proofs.YtfaedmbfabfmeaaGreatDoor
open Go.RowKit
theorem isDigit_any_AscN (c:Int) (w:World) :
  Calls Tryz.prog 169 #[.int .u8 c] w fun e w'=>e=.returned (.bool (digI c))∧w=w':=by
 cases h1:decide (48≤c)<;>cases h2:decide (c≤57)
 all_goals
  have hd:digI c=(decide (48≤c)&&decide (c≤57)):=rfl
  simp only [h1,h2,Bool.and_true,Bool.and_false]at hd
  rw [hd]
  clear hd
  go_enter Tryz.func169,Tryz.ntmps169
  go_wp2
  go_ret
  exact⟨rfl,rfl⟩
theorem isUpper_any_AscN (c:Int) (w:World) :
  Calls Tryz.prog 175 #[.int .u8 c] w fun e w'=>e=.returned (.bool (upI c))∧w=w':=by
 cases h1:decide (65≤c)<;>cases h2:decide (c≤90)
 all_goals
  have hd:upI c=(decide (65≤c)&&decide (c≤90)):=rfl
  simp only [h1,h2,Bool.and_true,Bool.and_false]at hd
  rw [hd]
  clear hd
  go_enter Tryz.func175,Tryz.ntmps175
  go_wp2
  go_ret
  exact⟨rfl,rfl⟩
theorem isLetter_any_LtrA (c:Int) (w:World) :
  Calls Tryz.prog 207 #[.int .u8 c] w fun e w'=>e=.returned (.bool (ltrI c))∧w=w':=by
 have cU:=isUpper_any_AscN c w
 have hd:ltrI c=(upI c||(decide (97≤c)&&decide (c≤122))):=rfl
 generalize upI c=u at cU hd
 cases u
 ·cases h1:decide (97≤c)<;>cases h2:decide (c≤122)
  all_goals
   simp only [h1,h2,Bool.and_true,Bool.and_false,Bool.false_or]at hd
   rw [hd]
   clear hd
   go_enter Tryz.func207,Tryz.ntmps207
   go_wp2_with (go_at_call 175;refine cU.mono ?_;rintro e w' ⟨rfl,rfl⟩)
   go_ret
   exact⟨rfl,rfl⟩
 ·rw [hd]
  clear hd
  go_enter Tryz.func207,Tryz.ntmps207
  go_wp2_with (go_at_call 175;refine cU.mono ?_;rintro e w' ⟨rfl,rfl⟩)
  go_ret
  exact⟨rfl,rfl⟩
end Go.Proofs.YtfaedmbfabfmeaaGreatDoor
