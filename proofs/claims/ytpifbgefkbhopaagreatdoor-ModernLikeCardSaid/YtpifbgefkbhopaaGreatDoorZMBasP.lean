/- Plain facts about texts and rows of memory; no program is named. · Laws that no program is named in: a copy out of a string into a block that was made last; an owned row of bytes turned to a string; what text an owned row holds. · Plain: bytes and texts in lower case. · Plain: rows that a call owns; a map's datum that is a set of keys. (As in the texts of package item, which this seat does not have.) · Plain: texts are the same just where their bytes are. · Plain: however many cells at a block, to be written to. · Plain: numbers in memory, read only. -/
import Derived.Test.YtpifbgefkbhopaaGreatDoorZAscPlain
import Derived.Lib.IndexBytes
import Derived.Lib.Hide
import Derived.Laws.IdiomStrings
import Derived.Deep.Draws
import Derived.WalkKit
import Derived.WalkSpells
import Derived.Laws.CopyRow
import Derived.Laws.BytesArg
import Derived.Laws.AppendOwn
import Derived.Tactics
import Derived.Maps.OwnSet

namespace Go.Proofs.YtpifbgefkbhopaaGreatDoor
open Go.RowKit

/-- A text as Go's string. -/
def strB (p : List UInt8) : ByteArray := ⟨p.toArray⟩
theorem strB_data (p : List UInt8) : (strB p).data.toList = p := rfl
theorem strB_size (p : List UInt8) : (strB p).size = p.length := by rw [Lib.size_eq, strB_data]
theorem strB_of (s : ByteArray) : strB s.data.toList = s := Lib.mk_data s

theorem append_data (a b : ByteArray) : (a ++ b).data.toList = a.data.toList ++ b.data.toList := by
  simp
theorem strB_append (a b : List UInt8) : strB a ++ strB b = strB (a ++ b) := by
  rw [← strB_of (strB a ++ strB b), append_data]; rfl

theorem all_bytes (p : UInt8 → Bool) (h : ∀ x : Fin 256, p (UInt8.ofNat x.val) = true) (c : UInt8) : p c = true := by
  have := h ⟨c.toNat, c.toNat_lt⟩
  simpa using this

theorem drop_cons_at (s : ByteArray) (k : Nat) (h : k < s.size) : s.data.toList.drop k = s[k] :: s.data.toList.drop (k + 1) := by
  rw [List.drop_eq_getElem_cons (by rw [← Lib.size_eq]; exact h)]; rfl

theorem byte_beq (c d : UInt8) : ((c.toNat : Int) == (d.toNat : Int)) = (c == d) := by
  rw [Bool.eq_iff_iff]
  simp only [beq_iff_eq]
  constructor
  · intro e
    exact UInt8.toNat_inj.1 (by omega)
  · intro e
    rw [e]

theorem add_none (b j : Nat) : (⟨b, 0, none⟩ : Addr).add j = ⟨b, j, none⟩ := by unfold Addr.add; split <;> simp_all

theorem extract_take (t : ByteArray) (k : Nat) : (t.extract 0 k).data.toList = t.data.toList.take k := by rw [Lib.extract_data]; simp
theorem strB_take (p : List UInt8) (k : Nat) : (strB p).extract 0 k = strB (p.take k) := by
  rw [← strB_of ((strB p).extract 0 k), extract_take]; rfl
theorem strB_drop (p : List UInt8) (k n : Nat) (h : n = p.length) : (strB p).extract k n = strB (p.drop k) := by
  subst h
  rw [← strB_of ((strB p).extract k p.length), ← strB_size, Lib.extract_to_end]; rfl
theorem one_at (s : ByteArray) (k : Nat) (h : k < s.size) : s.extract k (k + 1) = strB [s[k]] := by
  have hl : k < s.data.toList.length := by rw [← Lib.size_eq]; exact h
  rw [← strB_of (s.extract k (k + 1)), Lib.extract_data]
  congr 1
  rw [show k + 1 - k = 1 by omega, List.drop_eq_getElem_cons hl]
  rfl

theorem takeWhile_len_le (p : UInt8 → Bool) : ∀ l : List UInt8, (l.takeWhile p).length ≤ l.length
  | [] => Nat.le_refl _
  | c :: l => by
    have := takeWhile_len_le p l
    rw [List.takeWhile_cons]
    split
    · simp only [List.length_cons]; omega
    · simp

theorem ownsRow_later {w w' : World} {base : Nat} {e : TypeId} {size : Nat} {v : Value} {n : Nat} {xs : List Value} (h : w.ownsRow base e size v n xs) (hb : Below w.heap.size w w') : w'.ownsRow base e size v n xs := by
  obtain ⟨h1, h2⟩ := h
  refine ⟨h1, ?_⟩
  rcases h2 with h2 | ⟨g, cap, cur, hv, hg, hh, r⟩
  · exact Or.inl h2
  · exact Or.inr ⟨g, cap, cur, hv, hg, by rw [hb.block g (Array.getElem?_eq_some_iff.1 hh).1]; exact hh, r⟩

theorem bcell {W w1 : World} (hb : Below W.heap.size W w1) : (∀ b o, b < W.heap.size → w1.cell? ⟨b, o, none⟩ = W.cell? ⟨b, o, none⟩) ∧ (∀ b o, b < W.heap.size → w1.frozen? ⟨b, o, none⟩ = W.frozen? ⟨b, o, none⟩) :=
  ⟨fun b o h => hb.cell (p := ⟨b, o, none⟩) h, fun b o h => hb.frozen (p := ⟨b, o, none⟩) h⟩

theorem below_drewN (w : World) (n : Nat) : Below w.heap.size w (w.drewN n) := ⟨rfl, rfl, rfl, Nat.le_refl _, fun _ _ => rfl⟩

theorem lt_of_cell {w : World} {a : Addr} {v : Value} (h : w.cell? a = some v) : a.block < w.heap.size := by
  rcases Nat.lt_or_ge a.block w.heap.size with h1 | h1
  · exact h1
  · exfalso
    unfold World.cell? at h
    rw [Array.getElem?_eq_none h1] at h
    simp at h

end Go.Proofs.YtpifbgefkbhopaaGreatDoor

namespace Go.Proofs.YtpifbgefkbhopaaGreatDoor
open Go.RowKit

/-- A byte as a value. -/
def u8V (c : UInt8) : Value := .int .u8 (c.toNat : Int)

theorem push_set (h : Array Obj) (x y : Obj) : (h.push x).set h.size y (by simp) = h.push y := by
  apply Array.ext
  · simp
  · intro i h1 h2
    simp only [Array.getElem_set, Array.getElem_push]
    split
    · subst_vars; simp
    · have h3 : i < h.size := by simp at h2; omega
      simp [h3]

theorem setRow_new (W : World) (cur new : Array Value) (t : TypeId) : (W.alloc (.cells cur t)).setRow W.heap.size new = W.alloc (.cells new t) := by
  unfold World.setRow World.alloc
  simp [Array.modify, Array.modifyM]
  rewrite [push_set]
  rfl

theorem run_copy_str {P : Program} (W : World) (dT sT ty elem : TypeId) (off dLen dCap : Nat) (s : ByteArray) (cur new : Array Value) (t : TypeId)
    (hu : P.underlying dT = some (.slice elem)) (hs : (P.info? elem).map (·.size) = some 1) (m : Nat) (hm : Nat.min s.size dLen = m) (hfit : off + m ≤ cur.size)
    (hnew : new = (cur.toList.take off ++ ((s.data.toList.take m).map u8V ++ cur.toList.drop (off + m))).toArray) :
    (Builtin.copy_ #[dT, sT] ty #[.slice (some ⟨W.heap.size, off, none⟩) dLen dCap, .string s]).run P (W.alloc (.cells cur t)) =
      .ok (goInt m) (W.alloc (.cells new t)) := by
  have hlen : ((s.data.toList.take m).map u8V).length = m := by rewrite [List.length_map, List.length_take, ← Lib.size_eq]; have : m ≤ s.size := by rewrite [← hm]; exact Nat.min_le_left _ _
                                                                omega
  have hst := run_storeCells_at P W.heap.size off t ((s.data.toList.take m).map u8V) 0 cur (W.alloc (.cells cur t)) (heap_alloc_new W _) (by rewrite [hlen]; simpa using hfit) (by
    intro v hv
    obtain ⟨x, _, rfl⟩ := List.mem_map.1 hv
    rfl)
  rw [hlen] at hst
  simp only [Nat.add_zero] at hst
  cases hq : P.info? elem with
  | none => simp [hq] at hs
  | some i =>
    have h1 : List.take m (List.map (fun b : UInt8 => Value.int IntKind.u8 (b.toNat : Int)) s.data.toList) = (s.data.toList.take m).map u8V := by
      rw [← List.map_take] <;> rfl
    simp [Builtin.copy_, run_underlying hu, Builtin.lenOf, Builtin.firstCells, sizeOf, typeInfo, hq, hm]
    rewrite [← List.map_take, show (fun b : UInt8 => Value.int IntKind.u8 (b.toNat : Int)) = u8V from rfl, hst, setRow_new, hnew]
    simp [Result.andThen]

theorem wpList_copy_str {P : Program} {W : World} {ops : Array Oper} {rest : List Oper} {o : Oper} {a : Act} {Q : Exit → Act → World → Prop} (hgd : o.guard = none) (d s : Operand) (dT sT : TypeId)
    (ho : o.op = .call { callee := .builtin .copy, args := #[d, s], argTypes := #[dT, sT] }) (elem : TypeId) (hu : P.underlying dT = some (.slice elem)) (hsz : (P.info? elem).map (·.size) = some 1)
    (off dLen dCap : Nat) (str : ByteArray) (cur new : Array Value) (t : TypeId) (hd : a.eval d = .slice (some ⟨W.heap.size, off, none⟩) dLen dCap) (hs : a.eval s = .string str) (m : Nat) (hm : Nat.min str.size dLen = m) (hfit : off + m ≤ cur.size)
    (hnew : new = (cur.toList.take off ++ ((str.data.toList.take m).map u8V ++ cur.toList.drop (off + m))).toArray)
    (h : wpList P ops Q rest (a.put o.dst (goInt m)) (W.alloc (.cells new t))) : wpList P ops Q (o :: rest) a (W.alloc (.cells cur t)) := by
  refine wpList_plain hgd fun K hK => ?_
  have hrun := run_copy_str (P := P) W dT sT o.type elem off dLen dCap str cur new t hu hsz m hm hfit hnew
  unfold Oper.wp
  simp [execOp, ho, resolve, invoke, builtin, hd, hs, hrun, Result.andThen]
  exact hK _ _ h

/-- An owned row of bytes as a string. -/
theorem run_owned_str {P : Program} {w : World} {src dst e : TypeId} {B : Nat} {v : Value} {l : List UInt8} (hs : P.underlying src = some (.slice e)) (he : P.underlying e = some (.int .u8)) (hd : P.underlying dst = some .string)
    (h : w.ownsRow B e 1 v l.length (l.map u8V)) : (convert src dst v).run P w = .ok (.string (strB l)) w := by
  obtain ⟨h1, h2⟩ := h
  rcases h2 with ⟨rfl, h2⟩ | ⟨g, cap, cur, rfl, hg, hh, r⟩
  · have : l = [] := List.eq_nil_of_length_eq_zero h2
    subst this
    exact run_convert_bytes_nil w src e hs he 0 0 dst hd
  · refine run_convert_bytes_back w src dst e _ cap l hs he hd fun j hj => ?_
    exact World.ownsRow.cells (w := w) (base := B) (e := e) (size := 1) ⟨h1, .inr ⟨g, cap, cur, rfl, hg, hh, r⟩⟩ (g := g) rfl j _ (by rw [List.getElem?_map, List.getElem?_eq_getElem hj] <;> rfl)

end Go.Proofs.YtpifbgefkbhopaaGreatDoor

namespace Go.Proofs.YtpifbgefkbhopaaGreatDoor
open Go.RowKit

/-- A byte in lower case. -/
def lowB (c : UInt8) : UInt8 := if upI c.toNat then c + 32 else c
def lowTo (l : List UInt8) (k : Nat) : List UInt8 := (l.take k).map lowB ++ l.drop k
def lowL (l : List UInt8) : List UInt8 := l.map lowB

theorem lowTo_length (l : List UInt8) (k : Nat) : (lowTo l k).length = l.length := by
  simp [lowTo]; omega
theorem lowTo_zero (l : List UInt8) : lowTo l 0 = l := by simp [lowTo]
theorem lowTo_end (l : List UInt8) (k : Nat) (h : l.length ≤ k) : lowTo l k = lowL l := by
  simp [lowTo, lowL, List.take_of_length_le h, List.drop_of_length_le h]
theorem lowTo_at (l : List UInt8) (k : Nat) (h : k < l.length) : (lowTo l k).getD k 0 = l[k] := by
  have h1 : ((l.take k).map lowB).length = k := by simp; omega
  rewrite [lowTo, List.getD_eq_getElem?_getD, List.getElem?_append_right (by omega), h1]
  simp [h]
theorem lowTo_succ (l : List UInt8) (k : Nat) (h : k < l.length) : lowTo l (k + 1) = (lowTo l k).set k (lowB l[k]) := by
  have h1 : ((l.take k).map lowB).length = k := by simp; omega
  rewrite [lowTo, lowTo, List.set_append_right _ _ (by omega), h1, Nat.sub_self, List.take_succ_eq_append_getElem h, List.drop_eq_getElem_cons h, List.map_append, List.set_cons_zero, List.append_assoc]
  rfl
theorem upI_iff (c : Int) : upI c = true ↔ 65 ≤ c ∧ c ≤ 90 := by simp [upI]
theorem lowB_up (c : UInt8) (h : upI c.toNat = true) : ((lowB c).toNat : Int) = (c.toNat : Int) - 65 + 97 := by
  rewrite [lowB, if_pos h]
  obtain ⟨a, b⟩ := (upI_iff _).1 h
  rewrite [UInt8.toNat_add]
  simp
  omega
theorem lowB_not (c : UInt8) (h : upI c.toNat = false) : lowB c = c := by rw [lowB, if_neg (by simp [h])]
theorem set_same_LowP (l : List UInt8) (k : Nat) (h : k < l.length) : l.set k (l.getD k 0) = l := by
  rewrite [List.getD_eq_getElem?_getD, List.getElem?_eq_getElem h]
  simp
theorem lowB_idem (c : UInt8) : lowB (lowB c) = lowB c := by
  have := all_bytes (fun c => lowB (lowB c) == lowB c) (by decide +kernel) c
  simpa using this
theorem lowL_idem (l : List UInt8) : lowL (lowL l) = lowL l := by
  simp [lowL, lowB_idem]
theorem lowL_length (l : List UInt8) : (lowL l).length = l.length := by simp [lowL]
theorem pos_of (l : List UInt8) : decide (0 < l.length) = !l.isEmpty := by cases l <;> rfl

end Go.Proofs.YtpifbgefkbhopaaGreatDoor

namespace Go.Proofs.YtpifbgefkbhopaaGreatDoor
open Go.RowKit Go.Maps
open Go.WideMaps (keyOf_string_mk)

theorem owns_sliceF {w : World} {base : Nat} {e : TypeId} {size : Nat} {v : Value} {n : Nat} {xs : List Value} (h : w.ownsRow base e size v n xs) (hn : 0 < n) : ∃ g cap, v = .slice (some ⟨g, 0, none⟩) n cap ∧ base ≤ g ∧ g < w.heap.size ∧ n ≤ cap := by
  rcases h.2 with ⟨_, h2⟩ | ⟨g, cap, cur, hv, hg, hh, hc, _⟩
  · omega
  · exact ⟨g, cap, hv, hg, (Array.getElem?_eq_some_iff.1 hh).1, hc⟩
theorem owns_cellsF {w : World} {base : Nat} {e : TypeId} {size n g cap : Nat} {xs : List Value} (h : w.ownsRow base e size (.slice (some ⟨g, 0, none⟩) n cap) n xs) (j : Nat) (u : Value) (hj : xs[j]? = some u) : w.cell? ⟨g, j, none⟩ = some u := by
  have := World.ownsRow.cells h (g := g) rfl j u hj
  rw [add_none] at this
  exact this

/-- A map's datum that is a set of keys. -/
def KsetF (D : DataW Unit) (ks : List (List UInt8)) : Prop :=
  Tidy D ∧ (∀ k, Maps.has D (.string k) = decide (k ∈ ks)) ∧ Maps.size D ≤ ks.length ∧ (Maps.size D = ks.length ↔ ks.Nodup)
theorem ksetF_none : KsetF (.map []) [] := ⟨tidy_empty, fun k => by simp [Maps.has], by simp [Maps.size], by simp [Maps.size]⟩
theorem ksetF_put {D : DataW Unit} {ks : List (List UInt8)} (h : KsetF D ks) (k : List UInt8) (d : DataW Unit) : KsetF (D.put (.string k) d) (ks ++ [k]) := by
  obtain ⟨h1, h2, h3, h4⟩ := h
  have hk : WideAt.IsKeyLit (.string k) := trivial
  refine ⟨h1.put hk d, fun q => ?_, ?_, ?_⟩
  · by_cases hq : q = k
    · subst hq
      rewrite [has_put_same h1.isMap hk]; simp
    · rewrite [has_put_other (by simpa using hq), h2]
      simp [hq]
  · rewrite [size_put h1, List.length_append, List.length_singleton]
    split <;> omega
  · rewrite [size_put h1, h2, List.length_append, List.length_singleton]
    by_cases hm : k ∈ ks
    · rewrite [if_pos (by simpa using hm)]
      constructor
      · intro e; omega
      · intro hn
        rw [List.nodup_append] at hn
        exact absurd rfl (hn.2.2 k hm k (by simp))
    · rewrite [if_neg (by simpa using hm)]
      constructor
      · intro e
        rewrite [List.nodup_append]
        refine ⟨h4.1 (by omega), by simp, fun a ha b hb => ?_⟩
        simp only [List.mem_singleton] at hb
        subst hb
        intro e2
        subst e2
        exact hm ha
      · intro hn
        rw [List.nodup_append] at hn
        have := h4.2 hn.1
        omega

end Go.Proofs.YtpifbgefkbhopaaGreatDoor

namespace Go.Proofs.YtpifbgefkbhopaaGreatDoor
open Go.RowKit

theorem name_eq (a b : List UInt8) : ((strB a).toList == (strB b).toList) = decide (b = a) := by
  rewrite [Lib.toList_data, Lib.toList_data, strB_data, strB_data]
  by_cases h : b = a
  · subst h; simp
  · rewrite [decide_eq_false h, beq_eq_false_iff_ne]
    exact fun e => h e.symm

end Go.Proofs.YtpifbgefkbhopaaGreatDoor

namespace Go.Proofs.YtpifbgefkbhopaaGreatDoor
open Go.RowKit Go.Lib

/-- Cells that lie at a block, to be written to. -/
def BoxN (W : World) (c : Nat) (vs : List Value) : Prop := c < W.heap.size ∧ ∀ k v, vs[k]? = some v → W.cell? ⟨c, k, none⟩ = some v ∧ W.frozen? ⟨c, k, none⟩ = false
theorem BoxN.made (w : World) (vs : List Value) (T : TypeId) : BoxN (w.alloc (.cells vs.toArray T)) w.heap.size vs := ⟨by simp, fun k v h => by
  have hk : k < vs.length := (List.getElem?_eq_some_iff.1 h).1
  constructor
  · simp [h]
  · simp⟩
theorem BoxN.next {W W1 : World} {c : Nat} {vs : List Value} (h : BoxN W c vs) (hb : Below W.heap.size W W1) : BoxN W1 c vs :=
  ⟨Nat.lt_of_lt_of_le h.1 hb.size, fun k v e => ⟨(hb.cell (p := ⟨c, k, none⟩) h.1).trans (h.2 k v e).1, (hb.frozen (p := ⟨c, k, none⟩) h.1).trans (h.2 k v e).2⟩⟩
theorem BoxN.set {W : World} {c : Nat} {vs : List Value} (h : BoxN W c vs) (k : Nat) (u : Value) (hk : k < vs.length) : BoxN (W.setCell ⟨c, k, none⟩ u) c (vs.set k u) :=
  ⟨by have := h.1; simpa using this, fun j v e => by
    rewrite [World.frozen?_setCell]
    by_cases hj : k = j
    · subst hj
      rw [List.getElem?_set_self hk] at e
      cases e
      exact ⟨World.cell?_setCell_same W ⟨c, k, none⟩ u (h.2 k _ (List.getElem?_eq_getElem hk)).1, (h.2 k _ (List.getElem?_eq_getElem hk)).2⟩
    · rw [List.getElem?_set_ne hj] at e
      exact ⟨(World.cell?_setCell_other W ⟨c, k, none⟩ ⟨c, j, none⟩ u (by simp <;> omega)).trans (h.2 j v e).1, (h.2 j v e).2⟩⟩
theorem BoxN.other {W : World} {c d k : Nat} {vs : List Value} (h : BoxN W c vs) (hd : d ≠ c) (u : Value) : BoxN (W.setCell ⟨d, k, none⟩ u) c vs :=
  ⟨by have := h.1; simpa using this, fun j v e => by
    rewrite [World.frozen?_setCell]
    exact ⟨(World.cell?_setCell_other W ⟨d, k, none⟩ ⟨c, j, none⟩ u (by simp <;> omega)).trans (h.2 j v e).1, (h.2 j v e).2⟩⟩

end Go.Proofs.YtpifbgefkbhopaaGreatDoor

namespace Go.Proofs.YtpifbgefkbhopaaGreatDoor
open Go.RowKit

/-- Numbers in memory, read only. -/
def IntsF (w : World) (v : Value) (xs : List Int) : Prop :=
  ∃ ao cap, v = .slice ao xs.length cap ∧ (xs = [] ∨ ∃ b off, ao = some ⟨b, off, none⟩ ∧ b < w.heap.size ∧ ∀ j x, xs[j]? = some x → w.cell? ⟨b, off + j, none⟩ = some (.int .i64 x))

end Go.Proofs.YtpifbgefkbhopaaGreatDoor
