/- The powers of ten lie; decimal digits of a number. -/
import Derived.Test.YtpifbgefkbhopaaGreatDoorZMBasP
import Derived.Test.YtpifbgefkbhopaaGreatDoorShelf
import Derived.Lib.ItoaNum
import Derived.Lib.AppendIntMem

namespace Go.Proofs.YtpifbgefkbhopaaGreatDoor
open Go.RowKit

/-- The powers of ten lie where they were laid. -/
def Pow (w : World) : Prop := Lib.TabIs Tryz.prog w "internal/strconv.uint64pow10" .u64 Lib.pow10Tab
theorem Pow.below {w w' : World} (h : Pow w) (hb : Below w.heap.size w w') : Pow w' := Lib.tabBelow_of_tabIs h w' hb

theorem itoa_nat (n : Nat) : Lib.itoa (n : Int) = Lib.decDigits n := by
  rw [Lib.itoa, if_neg (by omega)]; rfl

end Go.Proofs.YtpifbgefkbhopaaGreatDoor
