/- Plain: what the law AgeTold asks of fields without an age, and with one. -/
import Derived.Test.YtgffnjdmhpfneaaDoorZMHdS
import Derived.Test.YtgffnjdmhpfneaaDoorZDirS
import Derived.Test.YtgffnjdmhpfneaaDoorZMDatA

namespace Go.Proofs.YtgffnjdmhpfneaaDoor
open Go.RowKit

theorem prF_filA (f : Fld → Bool) : ∀ fs : List Fld, (prF (fs.filter f)).length ≤ (prF fs).length
  | [] => Nat.le_refl _
  | p :: fs => by
    have ih := prF_filA f fs
    rw [List.filter_cons]
    split
    · rw [prF, prF, List.length_append, List.length_append]
      omega
    · rw [prF, List.length_append]
      omega
theorem wo_ok (fs : List Fld) (hk : FldsOk fs) (hp : (prF fs).length ≤ 10000) : FldsOk (withoutH fs [nAgeA]) ∧ ∀ n, (joinH (allH (withoutH fs [nAgeA]) n)).length ≤ 90000 := by
  have h1 : (prF (withoutH fs [nAgeA])).length ≤ (prF fs).length := prF_filA _ fs
  exact ⟨⟨Nat.le_trans (List.length_filter_le _ _) hk.1, fun p hp => hk.2 p (List.mem_filter.1 hp).1⟩, fun n => Nat.le_trans (join_small _ n) (by omega)⟩
theorem wa_ok (fs : List Fld) (d : List UInt8) (hk : FldsOk fs) (hl : fs.length ≤ 90000) (hj : ∀ n, (joinH (allH fs n)).length ≤ 20000) (hd : d.length ≤ 30) : FldsOk (fs ++ [(nAgeA, d)]) ∧ ∀ n, (joinH (allH (fs ++ [(nAgeA, d)]) n)).length ≤ 90000 := by
  refine ⟨⟨by rw [List.length_append, List.length_singleton]; omega, fun p hp => ?_⟩, fun n => ?_⟩
  · rcases List.mem_append.1 hp with hp | hp
    · exact hk.2 p hp
    · obtain rfl := List.mem_singleton.1 hp
      exact ⟨show nAgeA.length ≤ 100000 by decide, show d.length ≤ 100000 by omega⟩
  · have h1 := hj n
    rw [allH_snoc]
    split
    · cases ha : allH fs n with
      | nil => simp [joinH, tailH]; omega
      | cons q r =>
        have hne : q :: r ≠ [] := by simp
        have h2 : joinH (q :: r ++ [d]) = joinH (q :: r) ++ [44, 32] ++ d := by
          rw [List.cons_append, joinH, joinH, tailH_snoc]
          simp
        rw [h2]
        rw [ha] at h1
        simp only [List.length_append, List.length_cons, List.length_nil]
        omega
    · omega

end Go.Proofs.YtgffnjdmhpfneaaDoor
