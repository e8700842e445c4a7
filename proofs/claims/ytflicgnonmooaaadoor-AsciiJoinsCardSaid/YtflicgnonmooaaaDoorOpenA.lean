/- Arguments opened: a slice of texts; an array of two numbers. -/
import Derived.Test.YtflicgnonmooaaaDoorLift01
import Derived.Test.YtflicgnonmooaaaDoorRefC
import Derived.SliceStrings
import Derived.OpenShut
import Derived.Lib.SmallJoins
namespace Go.Proofs.YtflicgnonmooaaaDoor
open Go.ChangeShapes Go.WideShapes Go.ChangeAt Go.RowKit Go.Shelf Go.Lib

theorem laidOut : laidOutB Tryd.prog = true := by kernel_rfl
theorem cells_string : Tryd.prog.cellsOf 9 = 1 := by kernel_rfl
theorem cells_int : Tryd.prog.cellsOf 3 = 1 := by kernel_rfl

section
variable {H : Type} {enc : TypeId × Value → H} {W : World} {base : Nat}

theorem open_strs {v : Value} {d : DataW H} {p : List MemPlace} (hv : Value.okWide Tryd.prog W .any base 26 v) (h : DataW.Trod enc Tryd.prog W 0 (fun _ => true) true 26 v d p) (hlt : ∀ x ∈ p, x.block < W.heap.size) :
    ∃ ps : List (List UInt8), Strs W v ps ∧ ∀ q ∈ ps, q.length ≤ maxLen := by
  obtain ⟨a0, len, cap, rfl⟩ := okWide_slice Tryd.underlying26 hv
  obtain ⟨fuel, hf⟩ := h
  rcases open_strings Tryd.underlying26 Tryd.underlying9 cells_string hf with ⟨hcs, _⟩ | ⟨a, len', cap', ss, hcs, _, hl, hm, hz, hx, hcell, hws⟩
  · simp [Value.cells] at hcs
    obtain ⟨rfl, rfl, rfl⟩ := hcs
    exact ⟨[], ⟨none, 0, rfl, by simp, .inl rfl⟩, fun q hq => by simp at hq⟩
  · simp [Value.cells] at hcs
    obtain ⟨rfl, rfl, rfl⟩ := hcs
    simp only [Prod.mk.injEq] at hx
    obtain ⟨rfl, rfl⟩ := hx
    simp only [if_true] at hz
    unfold maxLen at hm
    have hlen : ((ss.take len).map (fun s => s.data.toList)).length = len := by simp; omega
    refine ⟨(ss.take len).map (fun s => s.data.toList), ⟨_, cap, by rw [hlen], by omega, ?_⟩, ?_⟩
    · by_cases h0 : len = 0
      · subst h0; exact .inl rfl
      · obtain ⟨b, off, spot⟩ := a
        have hspot : spot = none := by simpa [Addr.add] using World.cell?_spot (hcell 0 (by omega))
        subst hspot
        refine .inr ⟨b, off, rfl, hlt (.cell b off) (MemPlace.mem_row.2 ⟨0, by omega, by simp⟩), fun j hj => ?_⟩
        rw [hlen] at hj
        have hjs : j < ss.length := by omega
        have := hcell j hjs
        rw [add_plain] at this
        rw [this]
        simp [strB_of, hjs]
    · intro q hq
      obtain ⟨s, hs, rfl⟩ := List.mem_map.1 hq
      have := hws s (List.mem_of_mem_take hs)
      rw [← Lib.size_eq]
      exact this

theorem open_pair {v : Value} {d : DataW H} {p : List MemPlace} (hv : Value.okWide Tryd.prog W .any base 30 v) (h : DataW.Trod enc Tryd.prog W 0 (fun _ => true) true 30 v d p) :
    ∃ x y : Int, v = .agg #[.int .i64 x, .int .i64 y] ∧ (Lit.int .i64 x).wf = true ∧ (Lit.int .i64 y).wf = true := by
  obtain ⟨cs, rfl, hsz, _⟩ : ∃ cs, v = .agg cs ∧ cs.size = Tryd.prog.cellsOf 30 ∧ Row.okWide Tryd.prog W .any base 30 cs := by
    simpa [Value.okWide, Tryd.underlying30] using hv
  obtain ⟨c0, c1, rfl⟩ := Joins.array2 (hsz.trans (by kernel_rfl))
  obtain ⟨fuel, hf⟩ := h
  obtain ⟨xs, m, _, _, _, hn, hel⟩ := DataW.trod_array Tryd.underlying30 hf
  match xs, hn, hel with
  | [y0, y1], _, hel =>
    have e0 := hel 0 (by omega)
    have e1 := hel 1 (by omega)
    rw [cells_int] at e0 e1
    simp [Value.cells] at e0 e1
    obtain ⟨x0, q0, _, w0⟩ := DataW.trod_int Tryd.underlying3 e0
    obtain ⟨x1, q1, _, w1⟩ := DataW.trod_int Tryd.underlying3 e1
    simp at q0 q1
    subst q0 q1
    exact ⟨x0, x1, rfl, w0, w1⟩
end

end Go.Proofs.YtflicgnonmooaaaDoor
