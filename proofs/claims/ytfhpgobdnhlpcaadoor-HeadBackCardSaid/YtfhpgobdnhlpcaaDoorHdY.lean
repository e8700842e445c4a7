/- Plain: values of names, behind fields left out. -/
import Derived.Test.YtfhpgobdnhlpcaaDoorHdU
namespace Go.Proofs.YtfhpgobdnhlpcaaDoor
open Go.RowKit

theorem without_in {fs : List Fld} {ns : List (List UInt8)} {p : Fld} (h : p ∈ withoutH fs ns) : p ∈ fs ∧ ¬ p.1 ∈ ns := by
  obtain ⟨h1, h2⟩ := List.mem_filter.1 h
  exact ⟨h1, by simpa using h2⟩
theorem without_len (fs : List Fld) (ns : List (List UInt8)) : (withoutH fs ns).length ≤ fs.length := List.length_filter_le _ _
theorem without_ok {fs : List Fld} (ns : List (List UInt8)) (h : FldsOk fs) : FldsOk (withoutH fs ns) :=
  ⟨Nat.le_trans (without_len fs ns) h.1, fun p hp => h.2 p (without_in hp).1⟩
theorem all_without_yes {fs : List Fld} {ns : List (List UInt8)} {q : List UInt8} (h : q ∈ ns) : allH (withoutH fs ns) q = [] := by
  unfold allH
  rw [List.map_eq_nil_iff, List.filter_eq_nil_iff]
  intro p hp e
  have e : p.1 = q := by simpa using e
  exact (without_in hp).2 (e ▸ h)
theorem all_without_no {fs : List Fld} {ns : List (List UInt8)} {q : List UInt8} (h : ¬ q ∈ ns) : allH (withoutH fs ns) q = allH fs q := by
  unfold allH withoutH
  rw [List.filter_filter]
  congr 1
  apply List.filter_congr
  intro p _
  by_cases e : p.1 = q
  · subst e
    simp [h]
  · simp [e]
theorem all_some {fs : List Fld} {p : Fld} (h : p ∈ fs) : 0 < (allH fs p.1).length := by
  rw [allH, List.length_map]
  exact List.length_pos_iff.2 (List.ne_nil_of_mem (List.mem_filter.2 ⟨h, by simp⟩))

end Go.Proofs.YtfhpgobdnhlpcaaDoor
