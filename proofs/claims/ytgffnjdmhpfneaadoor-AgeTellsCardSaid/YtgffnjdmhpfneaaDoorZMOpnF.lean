/- Fields and texts as arguments, opened. · Numbers of 64 bits, many, three and four, as arguments, opened. -/
import Derived.Test.YtgffnjdmhpfneaaDoorZMSizA
import Derived.Test.YtgffnjdmhpfneaaDoorZMFldP
import Derived.Test.YtgffnjdmhpfneaaDoorZMBasP
import Derived.ProofKit
import Derived.SizedLaws
import Derived.SliceStrings
import Derived.OpenShut
import Derived.Lib.SmallJoins
import Derived.Deep.Slices
import Derived.Deep.Fields
import Derived.ChangeSame
import Derived.Deep.Strs

namespace Go.Proofs.YtgffnjdmhpfneaaDoor
open Go.ChangeShapes Go.WideShapes Go.ChangeAt Go.RowKit Go.Shelf Go.Lib

theorem cells_string : Tryd.prog.cellsOf 9 = 1 := by kernel_rfl
theorem cells_field : Tryd.prog.cellsOf 39 = 2 := by kernel_rfl
theorem bytes_field : Tryd.prog.bytesOf 39 = 32 := by kernel_rfl

section
variable {H : Type} {enc : TypeId × Value → H} {W : World} {base : Nat} {spare : Nat → Bool} {held : Bool}

def fieldD (H : Type) (p : Fld) : DataW H := .agg [.lit (.string p.1), .lit (.string p.2)]

theorem field_trod {fuel : Nat} {cs : List Value} {x : DataW H × List MemPlace} (hl : cs.length = 2) (h : DataW.trod enc Tryd.prog W base spare held fuel 39 cs = some x) :
    ∃ p : Fld, cs = cellsF p ∧ x.1 = fieldD H p := by
  match cs, hl with
  | [c0, c1], _ =>
    obtain ⟨y0, y1, m, rfl, _, h0, h1⟩ := trod_struct2 Tryd.underlying39 h
    simp only [cells_string, List.drop_zero, List.drop_succ_cons, List.take_succ_cons, List.take_zero] at h0 h1
    obtain ⟨K, e0, rfl, _⟩ := DataW.trod_string Tryd.underlying9 h0
    obtain ⟨V, e1, rfl, _⟩ := DataW.trod_string Tryd.underlying9 h1
    simp only [List.cons.injEq, and_true] at e0 e1
    subst e0 e1
    exact ⟨(K.data.toList, V.data.toList), by rw [cellsF, strB_of, strB_of], rfl⟩

theorem weights_all_mem {P : Program} {e : TypeId} : ∀ {ds : List (DataW H)} {d : DataW H}, d ∈ ds → ∀ n ∈ d.weights P e, n ∈ DataW.weightsAll P e ds
  | d0 :: ds, d, hd, n, hn => by
    rw [DataW.weightsAll, List.mem_append]
    rcases List.mem_cons.1 hd with rfl | hd
    · exact .inl hn
    · exact .inr (weights_all_mem hd n hn)

theorem field_weights (p : Fld) : (fieldD H p).weights Tryd.prog 39 = [p.1.length, p.2.length] := by
  rw [fieldD, DataW.weights, Tryd.underlying39]
  show DataW.weightsEach Tryd.prog [9, 9] _ = _
  simp only [DataW.weightsEach, DataW.weights, List.append_nil, List.singleton_append]

theorem cells_at {w : World} {b : Nat} {a : Addr} {n : Nat} {cs : List Value} (h : w.cells? b a n = some cs) (i : Nat) (hi : i < n) : w.cell? (a.add i) = cs[i]? := (World.cells?_some h).2.2 i hi

theorem flds_trod {fuel : Nat} {cs : List Value} {x : DataW H × List MemPlace} (h : DataW.trod enc Tryd.prog W base spare held fuel 22 cs = some x) (hz : ∀ n ∈ x.1.weights Tryd.prog 22, n ≤ reachBytes) :
    ∃ (v : Value) (fs : List Fld), cs = [v] ∧ Flds 0 W v fs ∧ FldsIn fs := by
  rcases Go.Deep.open_slice Tryd.underlying22 h with ⟨rfl, _⟩ | ⟨a, len, cap, m, n, D, Pl, rfl, _, hl, hm, hmm, rfl, hi⟩
  · exact ⟨_, [], rfl, ⟨none, 0, rfl, .inl rfl⟩, by simp, fun p hp => by cases hp⟩
  · rw [cells_field] at hi
    have hlm : len ≤ m := by rw [hmm]; split <;> omega
    have hpar : ∀ i, i < m → ∃ p : Fld, D i = fieldD H p ∧ ∀ j, j < 2 → W.cell? (a.add (i * 2 + j)) = (cellsF p)[j]? := by
      intro i him
      obtain ⟨cs', hc, ht⟩ := hi i him
      obtain ⟨p, rfl, hx⟩ := field_trod (World.cells?_some hc).2.1 ht
      refine ⟨p, hx, fun j hj => ?_⟩
      rw [← Go.Deep.add_add]
      exact cells_at hc j hj
    have hex : ∃ ps : List Fld, ps.length = len ∧ ∀ (i : Nat) (p : Fld), ps[i]? = some p → D i = fieldD H p ∧ ∀ j, j < 2 → W.cell? (a.add (i * 2 + j)) = (cellsF p)[j]? := by
      have hall : ∀ l, l ≤ m → ∃ ps : List Fld, ps.length = l ∧ ∀ (i : Nat) (p : Fld), ps[i]? = some p → D i = fieldD H p ∧ ∀ j, j < 2 → W.cell? (a.add (i * 2 + j)) = (cellsF p)[j]? := by
        intro l
        induction l with
        | zero => exact fun _ => ⟨[], rfl, fun i p h => by simp at h⟩
        | succ l ih =>
          intro hl
          obtain ⟨ps, hlen, hps⟩ := ih (by omega)
          obtain ⟨p, hp⟩ := hpar l (by omega)
          refine ⟨ps ++ [p], by simp [hlen], fun i q hq => ?_⟩
          rw [List.getElem?_append] at hq
          split at hq
          · exact hps i q hq
          · rename_i hge
            have hil : i = l := by
              have := (List.getElem?_eq_some_iff.1 hq).1
              simp only [List.length_singleton] at this
              omega
            subst hil
            rw [hlen, Nat.sub_self] at hq
            obtain rfl := Option.some.inj hq
            exact hp
      exact hall len hlm
    obtain ⟨ps, rfl, hps⟩ := hex
    have hw : (ps.length + (m - ps.length)) * 32 :: (DataW.weightsAll Tryd.prog 39 ((List.range ps.length).map D) ++ DataW.weightsAll Tryd.prog 39 ((List.range (m - ps.length)).map fun j => D (ps.length + j))) = (DataW.slice ((List.range ps.length).map D) ((List.range (m - ps.length)).map fun j => D (ps.length + j))).weights Tryd.prog 22 := by
      rw [DataW.weights, Tryd.underlying22]
      simp only [List.length_map, List.length_range, bytes_field]
    simp only [← hw] at hz
    refine ⟨_, ps, rfl, ⟨some a, cap, rfl, ?_⟩, ?_, ?_⟩
    · cases ps with
      | nil => exact .inl rfl
      | cons p0 ps =>
        obtain ⟨_, hc0⟩ := hps 0 p0 rfl
        obtain ⟨b, off, spot⟩ := a
        have hspot : spot = none := by
          have := hc0 0 (by omega)
          rw [show (cellsF p0)[0]? = some (.string (strB p0.1)) from rfl] at this
          simpa [Addr.add] using World.cell?_spot this
        subst hspot
        have hlt : b < W.heap.size := by
          have := hc0 0 (by omega)
          rw [show (cellsF p0)[0]? = some (.string (strB p0.1)) from rfl, Go.WideShapes.add_plain] at this
          exact lt_of_cell this
        refine .inr ⟨b, off, rfl, Nat.zero_le _, hlt, fun j p hj => ?_⟩
        obtain ⟨_, hc⟩ := hps j p hj
        have x0 := hc 0 (by omega)
        have x1 := hc 1 (by omega)
        rw [Go.WideShapes.add_plain] at x0 x1
        exact ⟨x0, x1⟩
    · have := hz _ (List.mem_cons_self ..)
      unfold reachBytes at this
      omega
    · intro p hp
      obtain ⟨i, hi'⟩ := List.getElem?_of_mem hp
      obtain ⟨hD, _⟩ := hps i p hi'
      have hmem : fieldD H p ∈ (List.range ps.length).map D := by
        rw [← hD]
        exact List.mem_map.2 ⟨i, List.mem_range.2 (List.getElem?_eq_some_iff.1 hi').1, rfl⟩
      have hin : ∀ n ∈ (fieldD H p).weights Tryd.prog 39, n ≤ reachBytes := fun n hn => hz n (List.mem_cons_of_mem _ (List.mem_append.2 (.inl (weights_all_mem hmem n hn))))
      rw [field_weights] at hin
      have h1 := hin p.1.length (by simp)
      have h2 := hin p.2.length (by simp)
      unfold reachBytes at h1 h2
      omega

set_option maxRecDepth 100000 in
theorem open_flds {v : Value} {d : DataW H} {p : List MemPlace} (hv : Value.okWide Tryd.prog W .any base 22 v) (h : DataW.Trod enc Tryd.prog W 0 (fun _ => true) true 22 v d p) (hz : ∀ n ∈ d.weights Tryd.prog 22, n ≤ reachBytes) :
    ∃ fs : List Fld, Flds 0 W v fs ∧ FldsIn fs := by
  obtain ⟨a0, len, cap, rfl⟩ := okWide_slice Tryd.underlying22 hv
  obtain ⟨fuel, hf⟩ := h
  obtain ⟨v', fs, e, hG, hl⟩ := flds_trod hf hz
  have e : Value.slice a0 len cap = v' := by simpa [Value.cells] using e
  subst e
  exact ⟨fs, hG, hl⟩

end

end Go.Proofs.YtgffnjdmhpfneaaDoor

namespace Go.Proofs.YtgffnjdmhpfneaaDoor
open Go.ChangeShapes Go.WideShapes Go.ChangeAt Go.RowKit Go.Shelf Go.Lib

theorem cells_longG : Tryd.prog.cellsOf 2 = 1 := by kernel_rfl

section
variable {H : Type} {enc : TypeId × Value → H} {W : World} {base : Nat} {spare : Nat → Bool} {held : Bool}

theorem longs_trod {fuel : Nat} {cs : List Value} {x : DataW H × List MemPlace} (h : DataW.trod enc Tryd.prog W base spare held fuel 23 cs = some x) :
    ∃ (v : Value) (xs : List Int), cs = [v] ∧ IntsF W v xs := by
  rcases Go.Deep.open_slice Tryd.underlying23 h with ⟨rfl, _⟩ | ⟨a, len, cap, m, n, D, Pl, rfl, _, hl, hm, hmm, rfl, hi⟩
  · exact ⟨_, [], rfl, ⟨none, 0, rfl, .inl rfl⟩⟩
  · rw [cells_longG] at hi
    have hlm : len ≤ m := by rw [hmm]; split <;> omega
    have hpar : ∀ i, i < m → ∃ y : Int, W.cell? (a.add i) = some (.int .i64 y) := by
      intro i him
      obtain ⟨cs', hc, ht⟩ := hi i him
      obtain ⟨y, e, _, _⟩ := DataW.trod_int Tryd.underlying2 ht
      subst e
      have := cells_at hc 0 (by omega)
      rw [Go.Deep.add_add] at this
      exact ⟨y, by simpa using this⟩
    have hex : ∃ xs : List Int, xs.length = len ∧ ∀ (i : Nat) (y : Int), xs[i]? = some y → W.cell? (a.add i) = some (.int .i64 y) := by
      have hall : ∀ l, l ≤ m → ∃ xs : List Int, xs.length = l ∧ ∀ (i : Nat) (y : Int), xs[i]? = some y → W.cell? (a.add i) = some (.int .i64 y) := by
        intro l
        induction l with
        | zero => exact fun _ => ⟨[], rfl, fun i p h => by simp at h⟩
        | succ l ih =>
          intro hl
          obtain ⟨ps, hlen, hps⟩ := ih (by omega)
          obtain ⟨p, hp⟩ := hpar l (by omega)
          refine ⟨ps ++ [p], by simp [hlen], fun i q hq => ?_⟩
          rw [List.getElem?_append] at hq
          split at hq
          · exact hps i q hq
          · rename_i hge
            have hil : i = l := by
              have := (List.getElem?_eq_some_iff.1 hq).1
              simp only [List.length_singleton] at this
              omega
            subst hil
            rw [hlen, Nat.sub_self] at hq
            obtain rfl := Option.some.inj hq
            exact hp
      exact hall len hlm
    obtain ⟨xs, rfl, hxs⟩ := hex
    refine ⟨_, xs, rfl, ⟨some a, cap, rfl, ?_⟩⟩
    cases xs with
    | nil => exact .inl rfl
    | cons y0 xs =>
      have hc0 := hxs 0 y0 rfl
      obtain ⟨b, off, spot⟩ := a
      have hspot : spot = none := by simpa [Addr.add] using World.cell?_spot hc0
      subst hspot
      rw [Go.WideShapes.add_plain] at hc0
      refine .inr ⟨b, off, rfl, lt_of_cell hc0, fun j y hj => ?_⟩
      have := hxs j y hj
      rwa [Go.WideShapes.add_plain] at this

set_option maxRecDepth 100000 in
theorem open_longs {v : Value} {d : DataW H} {p : List MemPlace} (hv : Value.okWide Tryd.prog W .any base 23 v) (h : DataW.Trod enc Tryd.prog W 0 (fun _ => true) true 23 v d p) :
    ∃ xs : List Int, IntsF W v xs := by
  obtain ⟨a0, len, cap, rfl⟩ := okWide_slice Tryd.underlying23 hv
  obtain ⟨fuel, hf⟩ := h
  obtain ⟨v', xs, e, hG⟩ := longs_trod hf
  have e : Value.slice a0 len cap = v' := by simpa [Value.cells] using e
  subst e
  exact ⟨xs, hG⟩

theorem cells_long3G : Tryd.prog.cellsOf 24 = 3 := by kernel_rfl
set_option maxRecDepth 100000 in
theorem open_long3 {v : Value} {d : DataW H} {p : List MemPlace} (hv : Value.okWide Tryd.prog W .any base 24 v) (h : DataW.Trod enc Tryd.prog W 0 (fun _ => true) true 24 v d p) :
    ∃ x y z : Int, v = .agg #[.int .i64 x, .int .i64 y, .int .i64 z] ∧ (Lit.int .i64 x).wf = true ∧ (Lit.int .i64 y).wf = true ∧ (Lit.int .i64 z).wf = true := by
  obtain ⟨cs, rfl, hsz, _⟩ : ∃ cs, v = .agg cs ∧ cs.size = Tryd.prog.cellsOf 24 ∧ Row.okWide Tryd.prog W .any base 24 cs := by
    simpa [Value.okWide, Tryd.underlying24] using hv
  obtain ⟨l⟩ := cs
  match l, hsz.trans cells_long3G with
  | [c0, c1, c2], _ =>
    obtain ⟨fuel, hf⟩ := h
    obtain ⟨xs, m, _, _, _, hn, hel⟩ := DataW.trod_array Tryd.underlying24 hf
    match xs, hn, hel with
    | [y0, y1, y2], _, hel =>
      have e0 := hel 0 (by omega)
      have e1 := hel 1 (by omega)
      have e2 := hel 2 (by omega)
      rw [cells_longG] at e0 e1 e2
      simp [Value.cells] at e0 e1 e2
      obtain ⟨x0, q0, _, w0⟩ := DataW.trod_int Tryd.underlying2 e0
      obtain ⟨x1, q1, _, w1⟩ := DataW.trod_int Tryd.underlying2 e1
      obtain ⟨x2, q2, _, w2⟩ := DataW.trod_int Tryd.underlying2 e2
      simp at q0 q1 q2
      subst q0 q1 q2
      exact ⟨x0, x1, x2, rfl, w0, w1, w2⟩

theorem cells_long4G : Tryd.prog.cellsOf 33 = 4 := by kernel_rfl
set_option maxRecDepth 100000 in
theorem open_long4 {v : Value} {d : DataW H} {p : List MemPlace} (hv : Value.okWide Tryd.prog W .any base 33 v) (h : DataW.Trod enc Tryd.prog W 0 (fun _ => true) true 33 v d p) :
    ∃ x y z u : Int, v = .agg #[.int .i64 x, .int .i64 y, .int .i64 z, .int .i64 u] ∧ (Lit.int .i64 x).wf = true ∧ (Lit.int .i64 y).wf = true ∧ (Lit.int .i64 z).wf = true ∧ (Lit.int .i64 u).wf = true := by
  obtain ⟨cs, rfl, hsz, _⟩ : ∃ cs, v = .agg cs ∧ cs.size = Tryd.prog.cellsOf 33 ∧ Row.okWide Tryd.prog W .any base 33 cs := by
    simpa [Value.okWide, Tryd.underlying33] using hv
  obtain ⟨l⟩ := cs
  match l, hsz.trans cells_long4G with
  | [c0, c1, c2, c3], _ =>
    obtain ⟨fuel, hf⟩ := h
    obtain ⟨xs, m, _, _, _, hn, hel⟩ := DataW.trod_array Tryd.underlying33 hf
    match xs, hn, hel with
    | [y0, y1, y2, y3], _, hel =>
      have e0 := hel 0 (by omega)
      have e1 := hel 1 (by omega)
      have e2 := hel 2 (by omega)
      have e3 := hel 3 (by omega)
      rw [cells_longG] at e0 e1 e2 e3
      simp [Value.cells] at e0 e1 e2 e3
      obtain ⟨x0, q0, _, w0⟩ := DataW.trod_int Tryd.underlying2 e0
      obtain ⟨x1, q1, _, w1⟩ := DataW.trod_int Tryd.underlying2 e1
      obtain ⟨x2, q2, _, w2⟩ := DataW.trod_int Tryd.underlying2 e2
      obtain ⟨x3, q3, _, w3⟩ := DataW.trod_int Tryd.underlying2 e3
      simp at q0 q1 q2 q3
      subst q0 q1 q2 q3
      exact ⟨x0, x1, x2, x3, rfl, w0, w1, w2, w3⟩

end

end Go.Proofs.YtgffnjdmhpfneaaDoor
