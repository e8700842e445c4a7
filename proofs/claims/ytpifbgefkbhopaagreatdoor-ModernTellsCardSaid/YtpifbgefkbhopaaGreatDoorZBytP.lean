/- A byte as a value. -/
import Derived.Test.YtpifbgefkbhopaaGreatDoorZMBasP

namespace Go.Proofs.YtpifbgefkbhopaaGreatDoor

def bytV (c : UInt8) : Value := .int .u8 c.toNat

end Go.Proofs.YtpifbgefkbhopaaGreatDoor
