/- What every law of this seat needs to be lifted to its row: the tables of package utf8, as the rows list them, and a world in which they lie. -/
import Derived.Test.YtflicgnonmooaaaDoorShelf
import Derived.Test.YtflicgnonmooaaaDoorTie
import Derived.Test.YtflicgnonmooaaaDoorCards
import Derived.Test.YtflicgnonmooaaaDoorAscF
import Derived.ProofKit
import Derived.PinnedBridge
import Derived.Lay
import Derived.Lib.LaidU8T
import Derived.SevenTiedAt
import Derived.SizedLaws
namespace Go.Proofs.YtflicgnonmooaaaDoor
open Go.ChangeShapes Go.WideShapes Go.ChangeAt Go.RowKit Go.Shelf Go.Lib

theorem own : ownKnob Tryd.prog.godebug = none := by kernel_rfl
/-- The variables that the rows list. -/
def laid2 : List (String × DataW Unit) := Rows.asciiTellsRow.laid
theorem accept_eq : (Rows.laid_unicode_utf8_acceptRanges : DataW Unit) = acceptData := by kernel_rfl

theorem u8x : U8Extra Tryd.prog Tryd.lays260_ren := ⟨by kernel_rfl, by kernel_rfl, by kernel_rfl, by kernel_rfl, by kernel_rfl, by kernel_rfl, by kernel_rfl⟩

theorem tabs_of_laid {W : World} (hL0 : laidMetH Tryd.prog laid2 W) : Tabs W := by
  rw [MakeChecks.laidMetH_plain _ _ _ (by kernel_rfl)] at hL0
  exact utf8Tabs_of_readsT (U8Types.of260 Tryd.lays260) u8x (Pinned.utf8First_eq ▸ Lib.laidMet.reads hL0 (.tail _ (.head _))) (accept_eq ▸ Lib.laidMet.reads hL0 (.head _))

theorem laid2_met (os : Os) (args : Array Value) : laidMetH Tryd.prog laid2 ((World.laidAll Tryd.prog os laid2).forCall (fun _ _ => 0) ⟨#[], args, []⟩).memory := by
  rw [MakeChecks.laidMetH_plain _ _ _ (by kernel_rfl)]
  exact laidMet_laidAll _ (by kernel_rfl) (by kernel_rfl)

end Go.Proofs.YtflicgnonmooaaaDoor
