/- An array of two numbers as an argument, opened. -/
import Derived.Test.YtfhpgobdnhlpcaaDoorLift07
namespace Go.Proofs.YtfhpgobdnhlpcaaDoor
open Go.ChangeShapes Go.WideShapes Go.ChangeAt Go.RowKit Go.Shelf Go.Lib

theorem cells_int : Tryd.prog.cellsOf 3 = 1 := by kernel_rfl
section
variable {H : Type} {enc : TypeId × Value → H} {W : World} {base : Nat}
set_option maxRecDepth 100000 in
theorem open_pair {v : Value} {d : DataW H} {p : List MemPlace} (hv : Value.okWide Tryd.prog W .any base 44 v) (h : DataW.Trod enc Tryd.prog W 0 (fun _ => true) true 44 v d p) :
    ∃ x y : Int, v = .agg #[.int .i64 x, .int .i64 y] ∧ (Lit.int .i64 x).wf = true ∧ (Lit.int .i64 y).wf = true := by
  obtain ⟨cs, rfl, hsz, _⟩ : ∃ cs, v = .agg cs ∧ cs.size = Tryd.prog.cellsOf 44 ∧ Row.okWide Tryd.prog W .any base 44 cs := by
    simpa [Value.okWide, Tryd.underlying44] using hv
  obtain ⟨c0, c1, rfl⟩ := Joins.array2 (hsz.trans (by kernel_rfl))
  obtain ⟨fuel, hf⟩ := h
  obtain ⟨xs, m, _, _, _, hn, hel⟩ := DataW.trod_array Tryd.underlying44 hf
  match xs, hn, hel with
  | [y0, y1], _, hel =>
    have e0 := hel 0 (by omega)
    have e1 := hel 1 (by omega)
    rw [cells_int] at e0 e1
    simp [Value.cells] at e0 e1
    obtain ⟨x0, q0, _, w0⟩ := DataW.trod_int Tryd.underlying3 e0
    obtain ⟨x1, q1, _, w1⟩ := DataW.trod_int Tryd.underlying3 e1
    simp at q0 q1
    subst q0 q1
    exact ⟨x0, x1, rfl, w0, w1⟩
end

end Go.Proofs.YtfhpgobdnhlpcaaDoor
