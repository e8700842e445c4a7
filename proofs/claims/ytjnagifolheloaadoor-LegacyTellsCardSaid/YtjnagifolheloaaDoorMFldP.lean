/- Fields as rows. -/
import Derived.Test.YtjnagifolheloaaDoorRows
import Derived.Test.YtjnagifolheloaaDoorMBasP
import Derived.Laws.AppendOwn
import Derived.WalkKit

namespace Go.Proofs.YtjnagifolheloaaDoor
open Go.RowKit Go.Lib

abbrev Fld := List UInt8 × List UInt8
/-- Fields as a row. -/
def cellsF (p : Fld) : List Value := [.string (strB p.1), .string (strB p.2)]
def rowF : List Fld → List Value
  | [] => []
  | p :: ps => cellsF p ++ rowF ps
theorem rowF_len : ∀ ps : List Fld, (rowF ps).length = ps.length * 2
  | [] => rfl
  | p :: ps => by rw [rowF, List.length_append, rowF_len ps, List.length_cons]; simp [cellsF]; omega
theorem rowF_snoc : ∀ (ps : List Fld) (p : Fld), rowF (ps ++ [p]) = rowF ps ++ cellsF p
  | [], p => by simp [rowF]
  | q :: ps, p => by rw [List.cons_append, rowF, rowF, rowF_snoc ps p, List.append_assoc]
theorem info_field : (Tryd.prog.info? 47).map (fun i => (i.zero, i.size, i.bytes)) = some (some (.agg #[.string ⟨#[]⟩, .string ⟨#[]⟩]), 2, 32) := by kernel_rfl
theorem cells_newF (w : World) (cs : List Value) (T : TypeId) (j : Nat) (u : Value) (h : cs[j]? = some u) : (w.alloc (.cells cs.toArray T)).cell? ((⟨w.heap.size, 0, none⟩ : Addr).add j) = some u := by
  rw [add_none]
  have hj : j < cs.length := (List.getElem?_eq_some_iff.1 h).1
  simp [h]

theorem owns_formF {w : World} {base : Nat} {e : TypeId} {size : Nat} {v : Value} {n : Nat} {xs : List Value} (h : w.ownsRow base e size v n xs) : ∃ ao cap, v = .slice ao n cap := by
  rcases h.2 with ⟨hv, h2⟩ | ⟨g, cap, cur, hv, _⟩
  · exact ⟨none, 0, by rw [hv, h2]⟩
  · exact ⟨_, cap, hv⟩

end Go.Proofs.YtjnagifolheloaaDoor
