/- Plain: texts are the same just where their bytes are. -/
import Derived.Test.YtgffnjdmhpfneaaDoorZMBasP

namespace Go.Proofs.YtgffnjdmhpfneaaDoor
open Go.RowKit

theorem name_eq (a b : List UInt8) : ((strB a).toList == (strB b).toList) = decide (b = a) := by
  rw [Lib.toList_data, Lib.toList_data, strB_data, strB_data]
  by_cases h : b = a
  · subst h; simp
  · rw [decide_eq_false h, beq_eq_false_iff_ne]
    exact fun e => h e.symm

end Go.Proofs.YtgffnjdmhpfneaaDoor
