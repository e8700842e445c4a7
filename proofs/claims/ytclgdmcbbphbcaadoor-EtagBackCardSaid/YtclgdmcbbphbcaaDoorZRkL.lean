/- The document's own Get of fields (sculleryref06). -/
import Derived.Test.YtclgdmcbbphbcaaDoorZHdU
import Derived.Test.YtclgdmcbbphbcaaDoorZMHdS
import Derived.Test.YtclgdmcbbphbcaaDoorZMBasP
import Derived.Laws.AppendOwn
import Derived.BigQuiet
import Derived.Deep.QuietTactic

namespace Go.Proofs.YtclgdmcbbphbcaaDoor
open Go.RowKit Go.Shelf Go.Lib

theorem tail_one (ps : List (List UInt8)) (p : List UInt8) (h : ps ≠ []) : joinH (ps ++ [p]) = joinH ps ++ [44, 32] ++ p := by
  cases ps with
  | nil => exact absurd rfl h
  | cons q r => rw [List.cons_append, joinH, joinH, tailH_snoc]; simp

end Go.Proofs.YtclgdmcbbphbcaaDoor
