/- strconv's lower; what the inner ParseUint tells. -/
import Derived.Test.YtbbdifcmhoobaaaDoorChP
import Derived.Test.YtbbdifcmhoobaaaDoorShelf
import Derived.Lib.ConvBytes
import Derived.Lib.SmallJoins
import Derived.Lib.Walk
import Derived.Laws.Strings3
import Derived.Laws.Closers25
import Derived.Laws.Closers25b
import Derived.WalkKit
import Derived.BigCall
import Derived.BigGuard
namespace Go.Proofs.YtbbdifcmhoobaaaDoor
open Go.RowKit Go.Shelf Go.Lib

theorem lower16_any (c : UInt8) (w : World) :
    Calls Tryd.prog 60 #[.int .u8 c.toNat] w fun e w' => e = .returned (.int .u8 (lowO c : Int)) ∧ w' = w := by
  have := Tryd.internal_strconv_lower (c.toNat : Int) w
  rw [lowO_bits] at this
  exact this

/-- What the library's inner ParseUint tells. -/
def uin16 : Except Bool Nat → Value
  | .ok n => .tuple #[.int .u64 n, .nilIface]
  | .error true => .tuple #[.int .u64 0, .iface 80 (.int .i64 2)]
  | .error false => .tuple #[.int .u64 18446744073709551615, .iface 80 (.int .i64 1)]

end Go.Proofs.YtbbdifcmhoobaaaDoor
