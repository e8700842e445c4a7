/- Dates as package date, and the document's own, take them, under names of their own. -/
import Derived.Test.YtfaedmbfabfmeaaGreatDoorZMHdS
import Derived.Test.YtfaedmbfabfmeaaGreatDoorZAgC
import Derived.Test.YtfaedmbfabfmeaaGreatDoorZMBasP
import Derived.Test.YtfaedmbfabfmeaaGreatDoorZHdU
import Derived.Test.YtfaedmbfabfmeaaGreatDoorZRdE
import Derived.Test.YtfaedmbfabfmeaaGreatDoorZMBarA
import Derived.Test.YtfaedmbfabfmeaaGreatDoorZMAscN
import Derived.Test.YtfaedmbfabfmeaaGreatDoorZAscPlain
import Derived.Test.YtfaedmbfabfmeaaGreatDoorRows
import Derived.Laws.AppendOwn
import Derived.BigQuiet
import Derived.Deep.QuietTactic
import Derived.Deep.RegionWith
import Derived.Deep.RegionHeld3
import Derived.IntWalk
import Derived.WalkKit
import Derived.WalkSpells
import Derived.WalkLawsBesides
import Derived.Lib.Hide
namespace Go.Proofs.YtfaedmbfabfmeaaGreatDoor
open Go.RowKit Go.Lib
theorem secV_Z (l:List UInt8):secV (parL_DatP l)=secZ (secN l):=by
 unfold secN
 cases parL_DatP l<;>rfl
theorem dparse_any (s:List UInt8) (w:World) (hs:s.length≤100000) (hC:Cal w) :
  Calls Tryz.prog 71 #[.string (strB s)] w fun e w'=>e=.returned (secZ (secN s))∧Below w.heap.size w w':=by
 have:=parse_any s w (Nat.le_trans hs (by decide)) hC
 rw [secV_Z]at this
 exact this
end Go.Proofs.YtfaedmbfabfmeaaGreatDoor
