/- Fields and texts as arguments, opened. · Tags, one, two and many, two lists of fields, and two moments as arguments, opened. -/
import Derived.Test.YtclgdmcbbphbcaaGreatDoorZMSizA
import Derived.Test.YtclgdmcbbphbcaaGreatDoorZMFldP
import Derived.ProofKit
import Derived.SizedLaws
import Derived.SliceStrings
import Derived.OpenShut
import Derived.Lib.SmallJoins
import Derived.Deep.Slices
import Derived.Deep.Fields
import Derived.ChangeSame
import Derived.Deep.Strs

namespace Go.Proofs.YtclgdmcbbphbcaaGreatDoor
open Go.ChangeShapes Go.WideShapes Go.ChangeAt Go.RowKit Go.Shelf Go.Lib

theorem cells_string : Tryz.prog.cellsOf 9 = 1 := by kernel_rfl
theorem cells_field : Tryz.prog.cellsOf 51 = 2 := by kernel_rfl
theorem bytes_field : Tryz.prog.bytesOf 51 = 32 := by kernel_rfl

section
variable {H : Type} {enc : TypeId × Value → H} {W : World} {base : Nat} {spare : Nat → Bool} {held : Bool}

def fieldD (H : Type) (p : Fld) : DataW H := .agg [.lit (.string p.1), .lit (.string p.2)]

theorem field_trod {fuel : Nat} {cs : List Value} {x : DataW H × List MemPlace} (hl : cs.length = 2) (h : DataW.trod enc Tryz.prog W base spare held fuel 51 cs = some x) :
    ∃ p : Fld, cs = cellsF p ∧ x.1 = fieldD H p := by
  match cs, hl with
  | [c0, c1], _ =>
    obtain ⟨y0, y1, m, rfl, _, h0, h1⟩ := trod_struct2 Tryz.underlying51 h
    simp only [cells_string, List.drop_zero, List.drop_succ_cons, List.take_succ_cons, List.take_zero] at h0 h1
    obtain ⟨K, e0, rfl, _⟩ := DataW.trod_string Tryz.underlying9 h0
    obtain ⟨V, e1, rfl, _⟩ := DataW.trod_string Tryz.underlying9 h1
    simp only [List.cons.injEq, and_true] at e0 e1
    subst e0 e1
    exact ⟨(K.data.toList, V.data.toList), by rw [cellsF, strB_of, strB_of], rfl⟩

theorem weights_all_mem {P : Program} {e : TypeId} : ∀ {ds : List (DataW H)} {d : DataW H}, d ∈ ds → ∀ n ∈ d.weights P e, n ∈ DataW.weightsAll P e ds
  | d0 :: ds, d, hd, n, hn => by
    rw [DataW.weightsAll, List.mem_append]
    rcases List.mem_cons.1 hd with rfl | hd
    · exact .inl hn
    · exact .inr (weights_all_mem hd n hn)

theorem field_weights (p : Fld) : (fieldD H p).weights Tryz.prog 51 = [p.1.length, p.2.length] := by
  rw [fieldD, DataW.weights, Tryz.underlying51]
  show DataW.weightsEach Tryz.prog [9, 9] _ = _
  simp only [DataW.weightsEach, DataW.weights, List.append_nil, List.singleton_append]

theorem cells_at {w : World} {b : Nat} {a : Addr} {n : Nat} {cs : List Value} (h : w.cells? b a n = some cs) (i : Nat) (hi : i < n) : w.cell? (a.add i) = cs[i]? := (World.cells?_some h).2.2 i hi

theorem flds_trod {fuel : Nat} {cs : List Value} {x : DataW H × List MemPlace} (h : DataW.trod enc Tryz.prog W base spare held fuel 25 cs = some x) (hz : ∀ n ∈ x.1.weights Tryz.prog 25, n ≤ reachBytes) :
    ∃ (v : Value) (fs : List Fld), cs = [v] ∧ Flds 0 W v fs ∧ FldsIn fs := by
  rcases Go.Deep.open_slice Tryz.underlying25 h with ⟨rfl, _⟩ | ⟨a, len, cap, m, n, D, Pl, rfl, _, hl, hm, hmm, rfl, hi⟩
  · exact ⟨_, [], rfl, ⟨none, 0, rfl, .inl rfl⟩, by simp, fun p hp => by cases hp⟩
  · rw [cells_field] at hi
    have hlm : len ≤ m := by rw [hmm]; split <;> omega
    have hpar : ∀ i, i < m → ∃ p : Fld, D i = fieldD H p ∧ ∀ j, j < 2 → W.cell? (a.add (i * 2 + j)) = (cellsF p)[j]? := by
      intro i him
      obtain ⟨cs', hc, ht⟩ := hi i him
      obtain ⟨p, rfl, hx⟩ := field_trod (World.cells?_some hc).2.1 ht
      refine ⟨p, hx, fun j hj => ?_⟩
      rw [← Go.Deep.add_add]
      exact cells_at hc j hj
    have hex : ∃ ps : List Fld, ps.length = len ∧ ∀ (i : Nat) (p : Fld), ps[i]? = some p → D i = fieldD H p ∧ ∀ j, j < 2 → W.cell? (a.add (i * 2 + j)) = (cellsF p)[j]? := by
      have hall : ∀ l, l ≤ m → ∃ ps : List Fld, ps.length = l ∧ ∀ (i : Nat) (p : Fld), ps[i]? = some p → D i = fieldD H p ∧ ∀ j, j < 2 → W.cell? (a.add (i * 2 + j)) = (cellsF p)[j]? := by
        intro l
        induction l with
        | zero => exact fun _ => ⟨[], rfl, fun i p h => by simp at h⟩
        | succ l ih =>
          intro hl
          obtain ⟨ps, hlen, hps⟩ := ih (by omega)
          obtain ⟨p, hp⟩ := hpar l (by omega)
          refine ⟨ps ++ [p], by simp [hlen], fun i q hq => ?_⟩
          rw [List.getElem?_append] at hq
          split at hq
          · exact hps i q hq
          · rename_i hge
            have hil : i = l := by
              have := (List.getElem?_eq_some_iff.1 hq).1
              simp only [List.length_singleton] at this
              omega
            subst hil
            rw [hlen, Nat.sub_self] at hq
            obtain rfl := Option.some.inj hq
            exact hp
      exact hall len hlm
    obtain ⟨ps, rfl, hps⟩ := hex
    have hw : (ps.length + (m - ps.length)) * 32 :: (DataW.weightsAll Tryz.prog 51 ((List.range ps.length).map D) ++ DataW.weightsAll Tryz.prog 51 ((List.range (m - ps.length)).map fun j => D (ps.length + j))) = (DataW.slice ((List.range ps.length).map D) ((List.range (m - ps.length)).map fun j => D (ps.length + j))).weights Tryz.prog 25 := by
      rw [DataW.weights, Tryz.underlying25]
      simp only [List.length_map, List.length_range, bytes_field]
    simp only [← hw] at hz
    refine ⟨_, ps, rfl, ⟨some a, cap, rfl, ?_⟩, ?_, ?_⟩
    · cases ps with
      | nil => exact .inl rfl
      | cons p0 ps =>
        obtain ⟨_, hc0⟩ := hps 0 p0 rfl
        obtain ⟨b, off, spot⟩ := a
        have hspot : spot = none := by
          have := hc0 0 (by omega)
          rw [show (cellsF p0)[0]? = some (.string (strB p0.1)) from rfl] at this
          simpa [Addr.add] using World.cell?_spot this
        subst hspot
        have hlt : b < W.heap.size := by
          have := hc0 0 (by omega)
          rw [show (cellsF p0)[0]? = some (.string (strB p0.1)) from rfl, Go.WideShapes.add_plain] at this
          exact lt_of_cell this
        refine .inr ⟨b, off, rfl, Nat.zero_le _, hlt, fun j p hj => ?_⟩
        obtain ⟨_, hc⟩ := hps j p hj
        have x0 := hc 0 (by omega)
        have x1 := hc 1 (by omega)
        rw [Go.WideShapes.add_plain] at x0 x1
        exact ⟨x0, x1⟩
    · have := hz _ (List.mem_cons_self ..)
      unfold reachBytes at this
      omega
    · intro p hp
      obtain ⟨i, hi'⟩ := List.getElem?_of_mem hp
      obtain ⟨hD, _⟩ := hps i p hi'
      have hmem : fieldD H p ∈ (List.range ps.length).map D := by
        rw [← hD]
        exact List.mem_map.2 ⟨i, List.mem_range.2 (List.getElem?_eq_some_iff.1 hi').1, rfl⟩
      have hin : ∀ n ∈ (fieldD H p).weights Tryz.prog 51, n ≤ reachBytes := fun n hn => hz n (List.mem_cons_of_mem _ (List.mem_append.2 (.inl (weights_all_mem hmem n hn))))
      rw [field_weights] at hin
      have h1 := hin p.1.length (by simp)
      have h2 := hin p.2.length (by simp)
      unfold reachBytes at h1 h2
      omega

set_option maxRecDepth 100000 in
theorem open_flds {v : Value} {d : DataW H} {p : List MemPlace} (hv : Value.okWide Tryz.prog W .any base 25 v) (h : DataW.Trod enc Tryz.prog W 0 (fun _ => true) true 25 v d p) (hz : ∀ n ∈ d.weights Tryz.prog 25, n ≤ reachBytes) :
    ∃ fs : List Fld, Flds 0 W v fs ∧ FldsIn fs := by
  obtain ⟨a0, len, cap, rfl⟩ := okWide_slice Tryz.underlying25 hv
  obtain ⟨fuel, hf⟩ := h
  obtain ⟨v', fs, e, hG, hl⟩ := flds_trod hf hz
  have e : Value.slice a0 len cap = v' := by simpa [Value.cells] using e
  subst e
  exact ⟨fs, hG, hl⟩

end

end Go.Proofs.YtclgdmcbbphbcaaGreatDoor

namespace Go.Proofs.YtclgdmcbbphbcaaGreatDoor
open Go.ChangeShapes Go.WideShapes Go.ChangeAt Go.RowKit Go.Shelf Go.Lib

theorem cells_etag : Tryz.prog.cellsOf 23 = 2 := by kernel_rfl
theorem cells_boolE : Tryz.prog.cellsOf 4 = 1 := by kernel_rfl
theorem bytes_etag : Tryz.prog.bytesOf 23 = 24 := by kernel_rfl
theorem cells_etag2 : Tryz.prog.cellsOf 24 = 4 := by kernel_rfl
theorem cells_flds2 : Tryz.prog.cellsOf 26 = 2 := by kernel_rfl
theorem cells_fslE : Tryz.prog.cellsOf 25 = 1 := by kernel_rfl
theorem cells_longE : Tryz.prog.cellsOf 2 = 1 := by kernel_rfl

/-- Tags as an argument brings them: not longer than may be. -/
def TagsIn (ts : List Tg) : Prop := ts.length ≤ 5864062014805 ∧ ∀ p ∈ ts, p.2.length ≤ 140737488355328

section
variable {H : Type} {enc : TypeId × Value → H} {W : World} {base : Nat} {spare : Nat → Bool} {held : Bool}

def tagD (H : Type) (d : Tg) : DataW H := .agg [.lit (.bool d.1), .lit (.string d.2)]

theorem tag_trod {fuel : Nat} {cs : List Value} {x : DataW H × List MemPlace} (hl : cs.length = 2) (h : DataW.trod enc Tryz.prog W base spare held fuel 23 cs = some x) :
    ∃ p : Tg, cs = cellsT p ∧ x.1 = tagD H p := by
  match cs, hl with
  | [c0, c1], _ =>
    obtain ⟨y0, y1, m, rfl, _, h0, h1⟩ := trod_struct2 Tryz.underlying23 h
    simp only [cells_string, cells_boolE, List.drop_zero, List.drop_succ_cons, List.take_succ_cons, List.take_zero] at h0 h1
    obtain ⟨B, e0, rfl⟩ := DataW.trod_bool Tryz.underlying4 h0
    obtain ⟨K, e1, rfl, _⟩ := DataW.trod_string Tryz.underlying9 h1
    simp only [List.cons.injEq, and_true] at e0 e1
    subst e0 e1
    exact ⟨(B, K.data.toList), by rw [cellsT, strB_of], rfl⟩

theorem tag_weights (p : Tg) : (tagD H p).weights Tryz.prog 23 = [p.2.length] := by
  rw [tagD, DataW.weights, Tryz.underlying23]
  show DataW.weightsEach Tryz.prog [4, 9] _ = _
  simp only [DataW.weightsEach, DataW.weights, List.append_nil, List.nil_append]

theorem tags_trod {fuel : Nat} {cs : List Value} {x : DataW H × List MemPlace} (h : DataW.trod enc Tryz.prog W base spare held fuel 35 cs = some x) (hz : ∀ n ∈ x.1.weights Tryz.prog 35, n ≤ reachBytes) :
    ∃ (v : Value) (fs : List Tg), cs = [v] ∧ Tags 0 W v fs ∧ TagsIn fs := by
  rcases Go.Deep.open_slice Tryz.underlying35 h with ⟨rfl, _⟩ | ⟨a, len, cap, m, n, D, Pl, rfl, _, hl, hm, hmm, rfl, hi⟩
  · exact ⟨_, [], rfl, ⟨none, 0, rfl, .inl rfl⟩, by simp, fun p hp => by cases hp⟩
  · rw [cells_etag] at hi
    have hlm : len ≤ m := by rw [hmm]; split <;> omega
    have hpar : ∀ i, i < m → ∃ p : Tg, D i = tagD H p ∧ ∀ j, j < 2 → W.cell? (a.add (i * 2 + j)) = (cellsT p)[j]? := by
      intro i him
      obtain ⟨cs', hc, ht⟩ := hi i him
      obtain ⟨p, rfl, hx⟩ := tag_trod (World.cells?_some hc).2.1 ht
      refine ⟨p, hx, fun j hj => ?_⟩
      rw [← Go.Deep.add_add]
      exact cells_at hc j hj
    have hex : ∃ ps : List Tg, ps.length = len ∧ ∀ (i : Nat) (p : Tg), ps[i]? = some p → D i = tagD H p ∧ ∀ j, j < 2 → W.cell? (a.add (i * 2 + j)) = (cellsT p)[j]? := by
      have hall : ∀ l, l ≤ m → ∃ ps : List Tg, ps.length = l ∧ ∀ (i : Nat) (p : Tg), ps[i]? = some p → D i = tagD H p ∧ ∀ j, j < 2 → W.cell? (a.add (i * 2 + j)) = (cellsT p)[j]? := by
        intro l
        induction l with
        | zero => exact fun _ => ⟨[], rfl, fun i p h => by simp at h⟩
        | succ l ih =>
          intro hl
          obtain ⟨ps, hlen, hps⟩ := ih (by omega)
          obtain ⟨p, hp⟩ := hpar l (by omega)
          refine ⟨ps ++ [p], by simp [hlen], fun i q hq => ?_⟩
          rw [List.getElem?_append] at hq
          split at hq
          · exact hps i q hq
          · rename_i hge
            have hil : i = l := by
              have := (List.getElem?_eq_some_iff.1 hq).1
              simp only [List.length_singleton] at this
              omega
            subst hil
            rw [hlen, Nat.sub_self] at hq
            obtain rfl := Option.some.inj hq
            exact hp
      exact hall len hlm
    obtain ⟨ps, rfl, hps⟩ := hex
    have hw : (ps.length + (m - ps.length)) * 24 :: (DataW.weightsAll Tryz.prog 23 ((List.range ps.length).map D) ++ DataW.weightsAll Tryz.prog 23 ((List.range (m - ps.length)).map fun j => D (ps.length + j))) = (DataW.slice ((List.range ps.length).map D) ((List.range (m - ps.length)).map fun j => D (ps.length + j))).weights Tryz.prog 35 := by
      rw [DataW.weights, Tryz.underlying35]
      simp only [List.length_map, List.length_range, bytes_etag]
    simp only [← hw] at hz
    refine ⟨_, ps, rfl, ⟨some a, cap, rfl, ?_⟩, ?_, ?_⟩
    · cases ps with
      | nil => exact .inl rfl
      | cons p0 ps =>
        obtain ⟨_, hc0⟩ := hps 0 p0 rfl
        obtain ⟨b, off, spot⟩ := a
        have hspot : spot = none := by
          have := hc0 0 (by omega)
          rw [show (cellsT p0)[0]? = some (.bool p0.1) from rfl] at this
          simpa [Addr.add] using World.cell?_spot this
        subst hspot
        have hlt : b < W.heap.size := by
          have := hc0 0 (by omega)
          rw [show (cellsT p0)[0]? = some (.bool p0.1) from rfl, Go.WideShapes.add_plain] at this
          exact lt_of_cell this
        refine .inr ⟨b, off, rfl, Nat.zero_le _, hlt, fun j p hj => ?_⟩
        obtain ⟨_, hc⟩ := hps j p hj
        have x0 := hc 0 (by omega)
        have x1 := hc 1 (by omega)
        rw [Go.WideShapes.add_plain] at x0 x1
        exact ⟨x0, x1⟩
    · have := hz _ (List.mem_cons_self ..)
      unfold reachBytes at this
      omega
    · intro p hp
      obtain ⟨i, hi'⟩ := List.getElem?_of_mem hp
      obtain ⟨hD, _⟩ := hps i p hi'
      have hmem : tagD H p ∈ (List.range ps.length).map D := by
        rw [← hD]
        exact List.mem_map.2 ⟨i, List.mem_range.2 (List.getElem?_eq_some_iff.1 hi').1, rfl⟩
      have hin : ∀ n ∈ (tagD H p).weights Tryz.prog 23, n ≤ reachBytes := fun n hn => hz n (List.mem_cons_of_mem _ (List.mem_append.2 (.inl (weights_all_mem hmem n hn))))
      rw [tag_weights] at hin
      have h1 := hin p.2.length (by simp)
      unfold reachBytes at h1
      omega

set_option maxRecDepth 100000 in
theorem open_tags {v : Value} {d : DataW H} {p : List MemPlace} (hv : Value.okWide Tryz.prog W .any base 35 v) (h : DataW.Trod enc Tryz.prog W 0 (fun _ => true) true 35 v d p) (hz : ∀ n ∈ d.weights Tryz.prog 35, n ≤ reachBytes) :
    ∃ fs : List Tg, Tags 0 W v fs ∧ TagsIn fs := by
  obtain ⟨a0, len, cap, rfl⟩ := okWide_slice Tryz.underlying35 hv
  obtain ⟨fuel, hf⟩ := h
  obtain ⟨v', fs, e, hG, hl⟩ := tags_trod hf hz
  have e : Value.slice a0 len cap = v' := by simpa [Value.cells] using e
  subst e
  exact ⟨fs, hG, hl⟩

set_option maxRecDepth 100000 in
theorem open_tag {v : Value} {d : DataW H} {p : List MemPlace} (hv : Value.okWide Tryz.prog W .any base 23 v) (h : DataW.Trod enc Tryz.prog W 0 (fun _ => true) true 23 v d p) (hz : ∀ n ∈ d.weights Tryz.prog 23, n ≤ reachBytes) :
    ∃ t : Tg, v = .agg #[.bool t.1, .string (strB t.2)] ∧ t.2.length ≤ 140737488355328 := by
  obtain ⟨cs, rfl, hsz⟩ := okWide_struct Tryz.underlying23 hv
  obtain ⟨l⟩ := cs
  obtain ⟨fuel, hf⟩ := h
  obtain ⟨t, e, hd⟩ := tag_trod (by simpa [Value.cells] using hsz.trans cells_etag) hf
  have hd2 : d = tagD H t := hd
  rw [hd2, tag_weights] at hz
  have h1 := hz t.2.length (by simp)
  unfold reachBytes at h1
  refine ⟨t, ?_, by omega⟩
  have e2 : l = cellsT t := by simpa [Value.cells] using e
  rw [e2]
  rfl

set_option maxRecDepth 100000 in
theorem open_tag2 {v : Value} {d : DataW H} {p : List MemPlace} (hv : Value.okWide Tryz.prog W .any base 24 v) (h : DataW.Trod enc Tryz.prog W 0 (fun _ => true) true 24 v d p) (hz : ∀ n ∈ d.weights Tryz.prog 24, n ≤ reachBytes) :
    ∃ a b : Tg, v = .agg #[.bool a.1, .string (strB a.2), .bool b.1, .string (strB b.2)] ∧ a.2.length ≤ 140737488355328 ∧ b.2.length ≤ 140737488355328 := by
  obtain ⟨cs, rfl, hsz, _⟩ : ∃ cs, v = .agg cs ∧ cs.size = Tryz.prog.cellsOf 24 ∧ Row.okWide Tryz.prog W .any base 24 cs := by
    simpa [Value.okWide, Tryz.underlying24] using hv
  obtain ⟨l⟩ := cs
  match l, hsz.trans cells_etag2 with
  | [c0, c1, c2, c3], _ =>
    obtain ⟨fuel, hf⟩ := h
    obtain ⟨xs, m, _, hx, _, hn, hel⟩ := DataW.trod_array Tryz.underlying24 hf
    match xs, hn, hel, hx with
    | [y0, y1], _, hel, hx =>
      have e0 := hel 0 (by omega)
      have e1 := hel 1 (by omega)
      rw [cells_etag] at e0 e1
      simp only [Value.cells, Nat.zero_mul, Nat.one_mul, List.drop_zero, List.drop_succ_cons, List.take_succ_cons, List.take_zero, List.getElem?_cons_zero, List.getElem?_cons_succ] at e0 e1
      rw [Prod.mk.injEq] at hx
      have hd : d = .agg [y0.1, y1.1] := hx.1
      have hw : (DataW.agg [y0.1, y1.1]).weights Tryz.prog 24 = y0.1.weights Tryz.prog 23 ++ (y1.1.weights Tryz.prog 23 ++ []) := by
        rw [DataW.weights, Tryz.underlying24]
        rfl
      rw [hd, hw, List.append_nil] at hz
      obtain ⟨a, q0, r0⟩ := tag_trod rfl e0
      obtain ⟨b, q1, r1⟩ := tag_trod rfl e1
      rw [r0, r1, tag_weights, tag_weights] at hz
      have z0 := hz a.2.length (by simp)
      have z1 := hz b.2.length (by simp)
      unfold reachBytes at z0 z1
      simp only [cellsT, List.cons.injEq, and_true] at q0 q1
      obtain ⟨rfl, rfl⟩ := q0
      obtain ⟨rfl, rfl⟩ := q1
      exact ⟨a, b, rfl, by omega, by omega⟩

set_option maxRecDepth 100000 in
theorem open_flds2 {v : Value} {d : DataW H} {p : List MemPlace} (hv : Value.okWide Tryz.prog W .any base 26 v) (h : DataW.Trod enc Tryz.prog W 0 (fun _ => true) true 26 v d p) (hz : ∀ n ∈ d.weights Tryz.prog 26, n ≤ reachBytes) :
    ∃ (u0 u1 : Value) (f0 f1 : List Fld), v = .agg #[u0, u1] ∧ Flds 0 W u0 f0 ∧ FldsIn f0 ∧ Flds 0 W u1 f1 ∧ FldsIn f1 := by
  obtain ⟨cs, rfl, hsz, _⟩ : ∃ cs, v = .agg cs ∧ cs.size = Tryz.prog.cellsOf 26 ∧ Row.okWide Tryz.prog W .any base 26 cs := by
    simpa [Value.okWide, Tryz.underlying26] using hv
  obtain ⟨l⟩ := cs
  match l, hsz.trans cells_flds2 with
  | [c0, c1], _ =>
    obtain ⟨fuel, hf⟩ := h
    obtain ⟨xs, m, _, hx, _, hn, hel⟩ := DataW.trod_array Tryz.underlying26 hf
    match xs, hn, hel, hx with
    | [y0, y1], _, hel, hx =>
      have e0 := hel 0 (by omega)
      have e1 := hel 1 (by omega)
      rw [cells_fslE] at e0 e1
      simp only [Value.cells, Nat.mul_one, List.drop_zero, List.drop_succ_cons, List.take_succ_cons, List.take_zero, List.getElem?_cons_zero, List.getElem?_cons_succ] at e0 e1
      rw [Prod.mk.injEq] at hx
      have hd : d = .agg [y0.1, y1.1] := hx.1
      have hw : (DataW.agg [y0.1, y1.1]).weights Tryz.prog 26 = y0.1.weights Tryz.prog 25 ++ (y1.1.weights Tryz.prog 25 ++ []) := by
        rw [DataW.weights, Tryz.underlying26]
        rfl
      rw [hd, hw, List.append_nil] at hz
      obtain ⟨u0, f0, q0, hF0, hI0⟩ := flds_trod e0 (fun z hz' => hz z (List.mem_append.2 (.inl hz')))
      obtain ⟨u1, f1, q1, hF1, hI1⟩ := flds_trod e1 (fun z hz' => hz z (List.mem_append.2 (.inr hz')))
      simp only [List.cons.injEq, and_true] at q0 q1
      subst q0 q1
      exact ⟨_, _, f0, f1, rfl, hF0, hI0, hF1, hI1⟩

end

end Go.Proofs.YtclgdmcbbphbcaaGreatDoor
