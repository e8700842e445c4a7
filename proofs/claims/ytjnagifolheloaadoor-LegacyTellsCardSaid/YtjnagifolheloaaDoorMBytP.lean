/- A byte as a value. -/
import Derived.Test.YtjnagifolheloaaDoorMBasP

namespace Go.Proofs.YtjnagifolheloaaDoor

def bytV (c : UInt8) : Value := .int .u8 c.toNat

end Go.Proofs.YtjnagifolheloaaDoor
