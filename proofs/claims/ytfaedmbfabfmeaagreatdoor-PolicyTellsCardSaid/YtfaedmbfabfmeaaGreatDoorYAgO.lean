/- Dates as package date, and the document's own, take them, under names of their own. -/
import Derived.Test.YtfaedmbfabfmeaaGreatDoorYMHdS
import Derived.Test.YtfaedmbfabfmeaaGreatDoorYAgC
import Derived.Test.YtfaedmbfabfmeaaGreatDoorYMAhA
namespace Go.Proofs.YtfaedmbfabfmeaaGreatDoor
open Go.RowKit Go.Lib
theorem secV_Z (l:List UInt8):secV (parL_DatP l)=secZ (secN l):=by
 unfold secN
 cases parL_DatP l<;>rfl
theorem dparse_any (s:List UInt8) (w:World) (hs:s.length≤100000) (hC:Cal w) :
  Calls Tryz.prog 71 #[.string (strB s)] w fun e w'=>e=.returned (secZ (secN s))∧Below w.heap.size w w':=by
 have:=parse_any s w (Nat.le_trans hs (by decide)) hC
 rw [secV_Z]at this
 exact this
theorem r5parse_any (s:List UInt8) (w:World) (hs:s.length≤100000) :
  Calls Tryz.prog 44 #[.string (strB s)] w fun e w'=>e=.returned (secZ (secN s))∧Below w.heap.size w w':=by
 have:=rparse_any_RdM s w hs
 rw [secV_Z]at this
 exact this
end Go.Proofs.YtfaedmbfabfmeaaGreatDoor
