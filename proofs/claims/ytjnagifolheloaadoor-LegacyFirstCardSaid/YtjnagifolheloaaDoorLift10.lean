/- What the laws over package legacy need to be lifted to their rows: the tables, as the rows list them, and a world in which they lie; directives and fields as arguments, opened. -/
import Derived.Test.YtjnagifolheloaaDoorShelf
import Derived.Test.YtjnagifolheloaaDoorTie
import Derived.Test.YtjnagifolheloaaDoorCards
import Derived.Test.YtjnagifolheloaaDoorOpnF
import Derived.Test.YtjnagifolheloaaDoorOpnD
import Derived.Test.YtjnagifolheloaaDoorTrmA
import Derived.ProofKit
import Derived.PinnedBridge
import Derived.Lay
import Derived.Lib.LaidU8T
import Derived.SevenTiedAt
import Derived.SizedLaws
import Derived.SliceStrings
import Derived.OpenShut
import Derived.Lib.SmallJoins
import Derived.Deep.Slices
import Derived.Deep.Fields
import Derived.ChangeSame
import Derived.Deep.Strs
namespace Go.Proofs.YtjnagifolheloaaDoor
open Go.ChangeShapes Go.WideShapes Go.ChangeAt Go.RowKit Go.Shelf Go.Lib

theorem own : ownKnob Tryd.prog.godebug = none := by kernel_rfl
theorem laidOut : laidOutB Tryd.prog = true := by kernel_rfl
/-- The variables that the rows list. -/
def laid2 : List (String × DataW Unit) := Rows.legacyFirstRow.laid
theorem accept_eq : (Rows.laid_unicode_utf8_acceptRanges : DataW Unit) = acceptData := by kernel_rfl
theorem u8x : U8Extra Tryd.prog Tryd.lays260_ren := ⟨by kernel_rfl, by kernel_rfl, by kernel_rfl, by kernel_rfl, by kernel_rfl, by kernel_rfl, by kernel_rfl⟩
theorem tabs_of_laid {W : World} (hL0 : laidMetH Tryd.prog laid2 W) : Tabs W := by
  rw [MakeChecks.laidMetH_plain _ _ _ (by kernel_rfl)] at hL0
  exact utf8Tabs_of_readsT (U8Types.of260 Tryd.lays260) u8x (Pinned.utf8First_eq ▸ Lib.laidMet.reads hL0 (.tail _ (.head _))) (accept_eq ▸ Lib.laidMet.reads hL0 (.head _))
theorem laid2_met (os : Os) (args : Array Value) : laidMetH Tryd.prog laid2 ((World.laidAll Tryd.prog os laid2).forCall (fun _ _ => 0) ⟨#[], args, []⟩).memory := by
  rw [MakeChecks.laidMetH_plain _ _ _ (by kernel_rfl)]
  exact laidMet_laidAll _ (by kernel_rfl) (by kernel_rfl)

end Go.Proofs.YtjnagifolheloaaDoor
