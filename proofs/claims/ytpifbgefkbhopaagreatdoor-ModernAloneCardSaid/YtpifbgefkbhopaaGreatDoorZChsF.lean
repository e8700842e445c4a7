/- Plain: a form of the rules of fields. -/
import Derived.Test.YtpifbgefkbhopaaGreatDoorZMChsP
import Derived.Test.YtpifbgefkbhopaaGreatDoorZMMoP

namespace Go.Proofs.YtpifbgefkbhopaaGreatDoor
open Go.RowKit Go.Lib

theorem chsA_form_ChsF (fs : List Fld) : ∃ (b0 b1 b2 b3 b4 b5 b6 b7 : Bool) (k0 k1 k2 k3 k4 at_ : Int), chsA fs = .tuple #[.agg #[.bool b0, .bool b1, .bool b2, .bool b3, .bool b4, .bool b5, .bool b6, .bool b7, .int .i64 k0, .int .i64 k1, .int .i64 k2, .int .i64 k3, .int .i64 k4], .int .i64 at_] := by
  unfold chsA
  split
  · obtain ⟨b0, b1, b2, b3, b4, b5, b6, b7, k0, k1, k2, k3, k4, h⟩ := rulO_form_ModA (modL (joinH (allH fs nCdn)))
    exact ⟨_, _, _, _, _, _, _, _, _, _, _, _, _, _, by rw [h]⟩
  · split
    · exact ⟨_, _, _, _, _, _, _, _, _, _, _, _, _, _, rfl⟩
    · exact ⟨_, _, _, _, _, _, _, _, _, _, _, _, _, _, rfl⟩

end Go.Proofs.YtpifbgefkbhopaaGreatDoor
