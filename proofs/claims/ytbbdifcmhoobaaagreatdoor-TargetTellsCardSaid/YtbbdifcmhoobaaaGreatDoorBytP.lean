/- A byte as a value. -/
import Derived.Test.YtbbdifcmhoobaaaGreatDoorBasP
namespace Go.Proofs.YtbbdifcmhoobaaaGreatDoor

def bytV (c : UInt8) : Value := .int .u8 c.toNat

end Go.Proofs.YtbbdifcmhoobaaaGreatDoor
