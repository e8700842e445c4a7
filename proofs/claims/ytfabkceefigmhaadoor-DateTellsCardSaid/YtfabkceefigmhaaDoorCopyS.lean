/- Laws that no program is named in: a copy out of a string into a block that was made last; an owned row of bytes turned to a string; what text an owned row holds. -/
import Derived.Test.YtfabkceefigmhaaDoorBasP
import Derived.Laws.CopyRow
import Derived.Laws.IdiomStrings
import Derived.Laws.BytesArg
import Derived.Laws.AppendOwn
import Derived.Tactics
namespace Go.Proofs.YtfabkceefigmhaaDoor
open Go.RowKit

/-- A byte as a value. -/
def u8V (c : UInt8) : Value := .int .u8 (c.toNat : Int)

theorem push_set (h : Array Obj) (x y : Obj) : (h.push x).set h.size y (by simp) = h.push y := by
  apply Array.ext
  · simp
  · intro i h1 h2
    simp only [Array.getElem_set, Array.getElem_push]
    split
    · subst_vars; simp
    · have h3 : i < h.size := by simp at h2; omega
      simp [h3]

theorem setRow_new (W : World) (cur new : Array Value) (t : TypeId) : (W.alloc (.cells cur t)).setRow W.heap.size new = W.alloc (.cells new t) := by
  unfold World.setRow World.alloc
  simp [Array.modify, Array.modifyM]
  rw [push_set]
  rfl

theorem run_copy_str {P : Program} (W : World) (dT sT ty elem : TypeId) (off dLen dCap : Nat) (s : ByteArray) (cur new : Array Value) (t : TypeId)
    (hu : P.underlying dT = some (.slice elem)) (hs : (P.info? elem).map (·.size) = some 1) (m : Nat) (hm : Nat.min s.size dLen = m) (hfit : off + m ≤ cur.size)
    (hnew : new = (cur.toList.take off ++ ((s.data.toList.take m).map u8V ++ cur.toList.drop (off + m))).toArray) :
    (Builtin.copy_ #[dT, sT] ty #[.slice (some ⟨W.heap.size, off, none⟩) dLen dCap, .string s]).run P (W.alloc (.cells cur t)) =
      .ok (goInt m) (W.alloc (.cells new t)) := by
  have hlen : ((s.data.toList.take m).map u8V).length = m := by rw [List.length_map, List.length_take, ← Lib.size_eq]; have : m ≤ s.size := by rw [← hm]; exact Nat.min_le_left _ _
                                                                omega
  have hst := run_storeCells_at P W.heap.size off t ((s.data.toList.take m).map u8V) 0 cur (W.alloc (.cells cur t)) (heap_alloc_new W _) (by rw [hlen]; simpa using hfit) (by
    intro v hv
    obtain ⟨x, _, rfl⟩ := List.mem_map.1 hv
    rfl)
  rw [hlen] at hst
  simp only [Nat.add_zero] at hst
  cases hq : P.info? elem with
  | none => simp [hq] at hs
  | some i =>
    have h1 : List.take m (List.map (fun b : UInt8 => Value.int IntKind.u8 (b.toNat : Int)) s.data.toList) = (s.data.toList.take m).map u8V := by
      rw [← List.map_take]; rfl
    simp [Builtin.copy_, run_underlying hu, Builtin.lenOf, Builtin.firstCells, sizeOf, typeInfo, hq, hm]
    rw [← List.map_take, show (fun b : UInt8 => Value.int IntKind.u8 (b.toNat : Int)) = u8V from rfl, hst, setRow_new, hnew]
    simp [Result.andThen]

theorem wpList_copy_str {P : Program} {W : World} {ops : Array Oper} {rest : List Oper} {o : Oper} {a : Act} {Q : Exit → Act → World → Prop} (hgd : o.guard = none) (d s : Operand) (dT sT : TypeId)
    (ho : o.op = .call { callee := .builtin .copy, args := #[d, s], argTypes := #[dT, sT] }) (elem : TypeId) (hu : P.underlying dT = some (.slice elem)) (hsz : (P.info? elem).map (·.size) = some 1)
    (off dLen dCap : Nat) (str : ByteArray) (cur new : Array Value) (t : TypeId) (hd : a.eval d = .slice (some ⟨W.heap.size, off, none⟩) dLen dCap) (hs : a.eval s = .string str) (m : Nat) (hm : Nat.min str.size dLen = m) (hfit : off + m ≤ cur.size)
    (hnew : new = (cur.toList.take off ++ ((str.data.toList.take m).map u8V ++ cur.toList.drop (off + m))).toArray)
    (h : wpList P ops Q rest (a.put o.dst (goInt m)) (W.alloc (.cells new t))) : wpList P ops Q (o :: rest) a (W.alloc (.cells cur t)) := by
  refine wpList_plain hgd fun K hK => ?_
  have hrun := run_copy_str (P := P) W dT sT o.type elem off dLen dCap str cur new t hu hsz m hm hfit hnew
  unfold Oper.wp
  simp [execOp, ho, resolve, invoke, builtin, hd, hs, hrun, Result.andThen]
  exact hK _ _ h

/-- An owned row of bytes as a string. -/
theorem run_owned_str {P : Program} {w : World} {src dst e : TypeId} {B : Nat} {v : Value} {l : List UInt8} (hs : P.underlying src = some (.slice e)) (he : P.underlying e = some (.int .u8)) (hd : P.underlying dst = some .string)
    (h : w.ownsRow B e 1 v l.length (l.map u8V)) : (convert src dst v).run P w = .ok (.string (strB l)) w := by
  obtain ⟨h1, h2⟩ := h
  rcases h2 with ⟨rfl, h2⟩ | ⟨g, cap, cur, rfl, hg, hh, r⟩
  · have : l = [] := List.eq_nil_of_length_eq_zero h2
    subst this
    exact run_convert_bytes_nil w src e hs he 0 0 dst hd
  · refine run_convert_bytes_back w src dst e _ cap l hs he hd fun j hj => ?_
    exact World.ownsRow.cells (w := w) (base := B) (e := e) (size := 1) ⟨h1, .inr ⟨g, cap, cur, rfl, hg, hh, r⟩⟩ (g := g) rfl j _ (by rw [List.getElem?_map, List.getElem?_eq_getElem hj]; rfl)

end Go.Proofs.YtfabkceefigmhaaDoor
