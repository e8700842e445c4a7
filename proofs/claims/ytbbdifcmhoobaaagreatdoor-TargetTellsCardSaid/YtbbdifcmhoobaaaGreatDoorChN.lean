/- strconv's lower; what the inner ParseUint tells. -/
import Derived.Test.YtbbdifcmhoobaaaGreatDoorChP
import Derived.Test.YtbbdifcmhoobaaaGreatDoorShelf
import Derived.Lib.ConvBytes
import Derived.Lib.SmallJoins
import Derived.Lib.Walk
import Derived.Laws.Strings3
import Derived.Laws.Closers25
import Derived.Laws.Closers25b
import Derived.WalkKit
import Derived.BigCall
import Derived.BigGuard
namespace Go.Proofs.YtbbdifcmhoobaaaGreatDoor
open Go.RowKit Go.Shelf Go.Lib

theorem lower16_any (c : UInt8) (w : World) :
    Calls Tryz.prog 67 #[.int .u8 c.toNat] w fun e w' => e = .returned (.int .u8 (lowO c : Int)) ∧ w' = w := by
  have := Tryz.internal_strconv_lower (c.toNat : Int) w
  rw [lowO_bits] at this
  exact this

/-- What the library's inner ParseUint tells. -/
def uin16 : Except Bool Nat → Value
  | .ok n => .tuple #[.int .u64 n, .nilIface]
  | .error true => .tuple #[.int .u64 0, .iface 79 (.int .i64 2)]
  | .error false => .tuple #[.int .u64 18446744073709551615, .iface 79 (.int .i64 1)]

end Go.Proofs.YtbbdifcmhoobaaaGreatDoor
