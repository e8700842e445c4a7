/- What a call leaves that hands out texts in new memory. -/
import Derived.Test.YtjnagifolheloaaDoorRows
import Derived.Test.YtjnagifolheloaaDoorMBasP
import Derived.WalkKit
import Derived.Laws.AppendOwn

namespace Go.Proofs.YtjnagifolheloaaDoor
open Go.RowKit

/-- A text as a value. -/
def strV (p : List UInt8) : Value := .string ⟨p.toArray⟩
theorem info_string : (Tryd.prog.info? 9).map (fun i => (i.zero, i.size, i.bytes)) = some (some (.string ⟨#[]⟩), 1, 16) := by kernel_rfl

/-- What a call leaves that hands out texts in new memory. -/
def StrsOut (B : Nat) (ps : List (List UInt8)) (w : World) (e : Ending) (w' : World) : Prop :=
  ∃ v, e = .returned v ∧ w'.ownsRow B 9 1 v ps.length (ps.map strV) ∧ Below w.heap.size w w'

end Go.Proofs.YtjnagifolheloaaDoor
