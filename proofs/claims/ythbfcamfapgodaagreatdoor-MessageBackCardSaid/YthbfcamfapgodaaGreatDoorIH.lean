/- Three texts as an argument, opened. -/
import Derived.Test.YthbfcamfapgodaaGreatDoorIG

namespace Go.Proofs.YthbfcamfapgodaaGreatDoor
open Go.ChangeShapes Go.WideShapes Go.ChangeAt Go.RowKit Go.Shelf Go.Lib

theorem cells_three : Tryz.prog.cellsOf 43 = 3 := by kernel_rfl
section
variable {H : Type} {enc : TypeId × Value → H} {W : World} {base : Nat}

set_option maxRecDepth 100000 in
theorem open_three {v : Value} {d : DataW H} {p : List MemPlace} (hv : Value.okWide Tryz.prog W .any base 43 v) (h : DataW.Trod enc Tryz.prog W 0 (fun _ => true) true 43 v d p) (hz : ∀ n ∈ d.weights Tryz.prog 43, n ≤ reachBytes) :
    ∃ a b c : ByteArray, v = .agg #[.string a, .string b, .string c] ∧ a.size ≤ 140737488355328 ∧ b.size ≤ 140737488355328 := by
  obtain ⟨cs, rfl, hsz, _⟩ : ∃ cs, v = .agg cs ∧ cs.size = Tryz.prog.cellsOf 43 ∧ Row.okWide Tryz.prog W .any base 43 cs := by
    simpa [Value.okWide, Tryz.underlying43] using hv
  obtain ⟨l⟩ := cs
  match l, hsz.trans cells_three with
  | [c0, c1, c2], _ =>
    obtain ⟨fuel, hf⟩ := h
    obtain ⟨xs, m, _, hx, _, hn, hel⟩ := DataW.trod_array Tryz.underlying43 hf
    match xs, hn, hel, hx with
    | [y0, y1, y2], _, hel, hx =>
      have e0 := hel 0 (by omega)
      have e1 := hel 1 (by omega)
      have e2 := hel 2 (by omega)
      rw [cells_string] at e0 e1 e2
      simp only [Value.cells, Nat.mul_one, List.drop_zero, List.drop_succ_cons, List.take_succ_cons, List.take_zero, List.getElem?_cons_zero, List.getElem?_cons_succ] at e0 e1 e2
      rw [Prod.mk.injEq] at hx
      have hd : d = .agg [y0.1, y1.1, y2.1] := hx.1
      have hw : (DataW.agg [y0.1, y1.1, y2.1]).weights Tryz.prog 43 = y0.1.weights Tryz.prog 9 ++ (y1.1.weights Tryz.prog 9 ++ (y2.1.weights Tryz.prog 9 ++ [])) := by
        rewrite [DataW.weights, Tryz.underlying43]
        rfl
      rw [hd, hw, List.append_nil] at hz
      obtain ⟨K, q0, r0, _⟩ := DataW.trod_string Tryz.underlying9 e0
      obtain ⟨T, q1, r1, _⟩ := DataW.trod_string Tryz.underlying9 e1
      obtain ⟨S, q2, r2, _⟩ := DataW.trod_string Tryz.underlying9 e2
      simp only [List.cons.injEq, and_true] at q0 q1 q2
      have z0 := hz K.data.toList.length (List.mem_append.2 (.inl (by rewrite [r0, str_weight]; exact List.mem_singleton.2 rfl)))
      have z1 := hz T.data.toList.length (List.mem_append.2 (.inr (List.mem_append.2 (.inl (by rewrite [r1, str_weight]; exact List.mem_singleton.2 rfl)))))
      unfold reachBytes at z0 z1
      rw [← Lib.size_eq] at z0 z1
      exact ⟨K, T, S, by rw [q0, q1, q2], by omega, by omega⟩
end

end Go.Proofs.YthbfcamfapgodaaGreatDoor
