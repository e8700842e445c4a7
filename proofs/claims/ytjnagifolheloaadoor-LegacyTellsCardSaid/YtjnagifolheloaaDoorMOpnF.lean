/- Fields and texts as arguments, opened. · Directives as an argument, opened. · What the laws over package legacy need to be lifted to their rows: the tables, as the rows list them, and a world in which they lie; directives and fields as arguments, opened. -/
import Derived.Test.YtjnagifolheloaaDoorMOwnD
import Derived.Test.YtjnagifolheloaaDoorMHdV
import Derived.Test.YtjnagifolheloaaDoorShelf
import Derived.Test.YtjnagifolheloaaDoorTie
import Derived.Test.YtjnagifolheloaaDoorCards
import Derived.Test.YtjnagifolheloaaDoorMTrmA
import Derived.ProofKit
import Derived.SizedLaws
import Derived.SliceStrings
import Derived.OpenShut
import Derived.Lib.SmallJoins
import Derived.Deep.Slices
import Derived.Deep.Fields
import Derived.ChangeSame
import Derived.Deep.Strs
import Derived.PinnedBridge
import Derived.Lay
import Derived.Lib.LaidU8T
import Derived.SevenTiedAt

namespace Go.Proofs.YtjnagifolheloaaDoor
open Go.ChangeShapes Go.WideShapes Go.ChangeAt Go.RowKit Go.Shelf Go.Lib

theorem cells_string : Tryd.prog.cellsOf 9 = 1 := by kernel_rfl
theorem cells_field : Tryd.prog.cellsOf 47 = 2 := by kernel_rfl
theorem bytes_field : Tryd.prog.bytesOf 47 = 32 := by kernel_rfl

section
variable {H : Type} {enc : TypeId × Value → H} {W : World} {base : Nat} {spare : Nat → Bool} {held : Bool}

def fieldD (H : Type) (p : Fld) : DataW H := .agg [.lit (.string p.1), .lit (.string p.2)]

theorem field_trod {fuel : Nat} {cs : List Value} {x : DataW H × List MemPlace} (hl : cs.length = 2) (h : DataW.trod enc Tryd.prog W base spare held fuel 47 cs = some x) :
    ∃ p : Fld, cs = cellsF p ∧ x.1 = fieldD H p := by
  match cs, hl with
  | [c0, c1], _ =>
    obtain ⟨y0, y1, m, rfl, _, h0, h1⟩ := trod_struct2 Tryd.underlying47 h
    simp only [cells_string, List.drop_zero, List.drop_succ_cons, List.take_succ_cons, List.take_zero] at h0 h1
    obtain ⟨K, e0, rfl, _⟩ := DataW.trod_string Tryd.underlying9 h0
    obtain ⟨V, e1, rfl, _⟩ := DataW.trod_string Tryd.underlying9 h1
    simp only [List.cons.injEq, and_true] at e0 e1
    subst e0 e1
    exact ⟨(K.data.toList, V.data.toList), by rw [cellsF, strB_of, strB_of], rfl⟩

theorem weights_all_mem {P : Program} {e : TypeId} : ∀ {ds : List (DataW H)} {d : DataW H}, d ∈ ds → ∀ n ∈ d.weights P e, n ∈ DataW.weightsAll P e ds
  | d0 :: ds, d, hd, n, hn => by
    rewrite [DataW.weightsAll, List.mem_append]
    rcases List.mem_cons.1 hd with rfl | hd
    · exact .inl hn
    · exact .inr (weights_all_mem hd n hn)

theorem field_weights (p : Fld) : (fieldD H p).weights Tryd.prog 47 = [p.1.length, p.2.length] := by
  rewrite [fieldD, DataW.weights, Tryd.underlying47]
  show DataW.weightsEach Tryd.prog [9, 9] _ = _
  simp only [DataW.weightsEach, DataW.weights, List.append_nil, List.singleton_append]

theorem cells_at {w : World} {b : Nat} {a : Addr} {n : Nat} {cs : List Value} (h : w.cells? b a n = some cs) (i : Nat) (hi : i < n) : w.cell? (a.add i) = cs[i]? := (World.cells?_some h).2.2 i hi

theorem flds_trod {fuel : Nat} {cs : List Value} {x : DataW H × List MemPlace} (h : DataW.trod enc Tryd.prog W base spare held fuel 23 cs = some x) (hz : ∀ n ∈ x.1.weights Tryd.prog 23, n ≤ reachBytes) :
    ∃ (v : Value) (fs : List Fld), cs = [v] ∧ Flds 0 W v fs ∧ FldsIn fs := by
  rcases Go.Deep.open_slice Tryd.underlying23 h with ⟨rfl, _⟩ | ⟨a, len, cap, m, n, D, Pl, rfl, _, hl, hm, hmm, rfl, hi⟩
  · exact ⟨_, [], rfl, ⟨none, 0, rfl, .inl rfl⟩, by simp, fun p hp => by cases hp⟩
  · rw [cells_field] at hi
    have hlm : len ≤ m := by rewrite [hmm]; split <;> omega
    have hpar : ∀ i, i < m → ∃ p : Fld, D i = fieldD H p ∧ ∀ j, j < 2 → W.cell? (a.add (i * 2 + j)) = (cellsF p)[j]? := by
      intro i him
      obtain ⟨cs', hc, ht⟩ := hi i him
      obtain ⟨p, rfl, hx⟩ := field_trod (World.cells?_some hc).2.1 ht
      refine ⟨p, hx, fun j hj => ?_⟩
      rewrite [← Go.Deep.add_add]
      exact cells_at hc j hj
    have hex : ∃ ps : List Fld, ps.length = len ∧ ∀ (i : Nat) (p : Fld), ps[i]? = some p → D i = fieldD H p ∧ ∀ j, j < 2 → W.cell? (a.add (i * 2 + j)) = (cellsF p)[j]? := by
      have hall : ∀ l, l ≤ m → ∃ ps : List Fld, ps.length = l ∧ ∀ (i : Nat) (p : Fld), ps[i]? = some p → D i = fieldD H p ∧ ∀ j, j < 2 → W.cell? (a.add (i * 2 + j)) = (cellsF p)[j]? := by
        intro l
        induction l with
        | zero => exact fun _ => ⟨[], rfl, fun i p h => by simp at h⟩
        | succ l ih =>
          intro hl
          obtain ⟨ps, hlen, hps⟩ := ih (by omega)
          obtain ⟨p, hp⟩ := hpar l (by omega)
          refine ⟨ps ++ [p], by simp [hlen], fun i q hq => ?_⟩
          rw [List.getElem?_append] at hq
          split at hq
          · exact hps i q hq
          · rename_i hge
            have hil : i = l := by
              have := (List.getElem?_eq_some_iff.1 hq).1
              simp only [List.length_singleton] at this
              omega
            subst hil
            rw [hlen, Nat.sub_self] at hq
            obtain rfl := Option.some.inj hq
            exact hp
      exact hall len hlm
    obtain ⟨ps, rfl, hps⟩ := hex
    have hw : (ps.length + (m - ps.length)) * 32 :: (DataW.weightsAll Tryd.prog 47 ((List.range ps.length).map D) ++ DataW.weightsAll Tryd.prog 47 ((List.range (m - ps.length)).map fun j => D (ps.length + j))) = (DataW.slice ((List.range ps.length).map D) ((List.range (m - ps.length)).map fun j => D (ps.length + j))).weights Tryd.prog 23 := by
      rewrite [DataW.weights, Tryd.underlying23]
      simp only [List.length_map, List.length_range, bytes_field]
    simp only [← hw] at hz
    refine ⟨_, ps, rfl, ⟨some a, cap, rfl, ?_⟩, ?_, ?_⟩
    · cases ps with
      | nil => exact .inl rfl
      | cons p0 ps =>
        obtain ⟨_, hc0⟩ := hps 0 p0 rfl
        obtain ⟨b, off, spot⟩ := a
        have hspot : spot = none := by
          have := hc0 0 (by omega)
          rw [show (cellsF p0)[0]? = some (.string (strB p0.1)) from rfl] at this
          simpa [Addr.add] using World.cell?_spot this
        subst hspot
        have hlt : b < W.heap.size := by
          have := hc0 0 (by omega)
          rw [show (cellsF p0)[0]? = some (.string (strB p0.1)) from rfl, Go.WideShapes.add_plain] at this
          exact lt_of_cell this
        refine .inr ⟨b, off, rfl, Nat.zero_le _, hlt, fun j p hj => ?_⟩
        obtain ⟨_, hc⟩ := hps j p hj
        have x0 := hc 0 (by omega)
        have x1 := hc 1 (by omega)
        rw [Go.WideShapes.add_plain] at x0 x1
        exact ⟨x0, x1⟩
    · have := hz _ (List.mem_cons_self ..)
      unfold reachBytes at this
      omega
    · intro p hp
      obtain ⟨i, hi'⟩ := List.getElem?_of_mem hp
      obtain ⟨hD, _⟩ := hps i p hi'
      have hmem : fieldD H p ∈ (List.range ps.length).map D := by
        rewrite [← hD]
        exact List.mem_map.2 ⟨i, List.mem_range.2 (List.getElem?_eq_some_iff.1 hi').1, rfl⟩
      have hin : ∀ n ∈ (fieldD H p).weights Tryd.prog 47, n ≤ reachBytes := fun n hn => hz n (List.mem_cons_of_mem _ (List.mem_append.2 (.inl (weights_all_mem hmem n hn))))
      rw [field_weights] at hin
      have h1 := hin p.1.length (by simp)
      have h2 := hin p.2.length (by simp)
      unfold reachBytes at h1 h2
      omega

set_option maxRecDepth 100000 in
theorem open_flds {v : Value} {d : DataW H} {p : List MemPlace} (hv : Value.okWide Tryd.prog W .any base 23 v) (h : DataW.Trod enc Tryd.prog W 0 (fun _ => true) true 23 v d p) (hz : ∀ n ∈ d.weights Tryd.prog 23, n ≤ reachBytes) :
    ∃ fs : List Fld, Flds 0 W v fs ∧ FldsIn fs := by
  obtain ⟨a0, len, cap, rfl⟩ := okWide_slice Tryd.underlying23 hv
  obtain ⟨fuel, hf⟩ := h
  obtain ⟨v', fs, e, hG, hl⟩ := flds_trod hf hz
  have e : Value.slice a0 len cap = v' := by simpa [Value.cells] using e
  subst e
  exact ⟨fs, hG, hl⟩

end

end Go.Proofs.YtjnagifolheloaaDoor

namespace Go.Proofs.YtjnagifolheloaaDoor
open Go.ChangeShapes Go.WideShapes Go.ChangeAt Go.RowKit Go.Shelf Go.Lib

theorem cells_ldir : Tryd.prog.cellsOf 43 = 3 := by kernel_rfl
theorem cells_boolD : Tryd.prog.cellsOf 4 = 1 := by kernel_rfl
theorem bytes_ldir : Tryd.prog.bytesOf 43 = 40 := by kernel_rfl

section
variable {H : Type} {enc : TypeId × Value → H} {W : World} {base : Nat} {spare : Nat → Bool} {held : Bool}

def dirD (H : Type) (d : Dir) : DataW H := .agg [.lit (.string d.1), .lit (.string d.2.1), .lit (.bool d.2.2)]

theorem dir_trod {fuel : Nat} {cs : List Value} {x : DataW H × List MemPlace} (hl : cs.length = 3) (h : DataW.trod enc Tryd.prog W base spare held fuel 43 cs = some x) :
    ∃ p : Dir, cs = cellsD p ∧ x.1 = dirD H p := by
  match cs, hl with
  | [c0, c1, c2], _ =>
    obtain ⟨y0, y1, y2, m, rfl, _, h0, h1, h2⟩ := Go.Deep.trod_struct3 Tryd.underlying43 h
    simp only [cells_string, cells_boolD, List.drop_zero, List.drop_succ_cons, List.take_succ_cons, List.take_zero] at h0 h1 h2
    obtain ⟨K, e0, rfl, _⟩ := DataW.trod_string Tryd.underlying9 h0
    obtain ⟨V, e1, rfl, _⟩ := DataW.trod_string Tryd.underlying9 h1
    obtain ⟨B, e2, rfl⟩ := DataW.trod_bool Tryd.underlying4 h2
    simp only [List.cons.injEq, and_true] at e0 e1 e2
    subst e0 e1 e2
    exact ⟨(K.data.toList, V.data.toList, B), by rw [cellsD, strB_of, strB_of], rfl⟩

theorem dir_weights (p : Dir) : (dirD H p).weights Tryd.prog 43 = [p.1.length, p.2.1.length] := by
  rewrite [dirD, DataW.weights, Tryd.underlying43]
  show DataW.weightsEach Tryd.prog [9, 9, 4] _ = _
  simp only [DataW.weightsEach, DataW.weights, List.append_nil, List.singleton_append]

theorem dirs_trod {fuel : Nat} {cs : List Value} {x : DataW H × List MemPlace} (h : DataW.trod enc Tryd.prog W base spare held fuel 22 cs = some x) (hz : ∀ n ∈ x.1.weights Tryd.prog 22, n ≤ reachBytes) :
    ∃ (v : Value) (fs : List Dir), cs = [v] ∧ Dirs 0 W v fs ∧ DirsIn fs := by
  rcases Go.Deep.open_slice Tryd.underlying22 h with ⟨rfl, _⟩ | ⟨a, len, cap, m, n, D, Pl, rfl, _, hl, hm, hmm, rfl, hi⟩
  · exact ⟨_, [], rfl, ⟨none, 0, rfl, .inl rfl⟩, by simp, fun p hp => by cases hp⟩
  · rw [cells_ldir] at hi
    have hlm : len ≤ m := by rewrite [hmm]; split <;> omega
    have hpar : ∀ i, i < m → ∃ p : Dir, D i = dirD H p ∧ ∀ j, j < 3 → W.cell? (a.add (i * 3 + j)) = (cellsD p)[j]? := by
      intro i him
      obtain ⟨cs', hc, ht⟩ := hi i him
      obtain ⟨p, rfl, hx⟩ := dir_trod (World.cells?_some hc).2.1 ht
      refine ⟨p, hx, fun j hj => ?_⟩
      rewrite [← Go.Deep.add_add]
      exact cells_at hc j hj
    have hex : ∃ ps : List Dir, ps.length = len ∧ ∀ (i : Nat) (p : Dir), ps[i]? = some p → D i = dirD H p ∧ ∀ j, j < 3 → W.cell? (a.add (i * 3 + j)) = (cellsD p)[j]? := by
      have hall : ∀ l, l ≤ m → ∃ ps : List Dir, ps.length = l ∧ ∀ (i : Nat) (p : Dir), ps[i]? = some p → D i = dirD H p ∧ ∀ j, j < 3 → W.cell? (a.add (i * 3 + j)) = (cellsD p)[j]? := by
        intro l
        induction l with
        | zero => exact fun _ => ⟨[], rfl, fun i p h => by simp at h⟩
        | succ l ih =>
          intro hl
          obtain ⟨ps, hlen, hps⟩ := ih (by omega)
          obtain ⟨p, hp⟩ := hpar l (by omega)
          refine ⟨ps ++ [p], by simp [hlen], fun i q hq => ?_⟩
          rw [List.getElem?_append] at hq
          split at hq
          · exact hps i q hq
          · rename_i hge
            have hil : i = l := by
              have := (List.getElem?_eq_some_iff.1 hq).1
              simp only [List.length_singleton] at this
              omega
            subst hil
            rw [hlen, Nat.sub_self] at hq
            obtain rfl := Option.some.inj hq
            exact hp
      exact hall len hlm
    obtain ⟨ps, rfl, hps⟩ := hex
    have hw : (ps.length + (m - ps.length)) * 40 :: (DataW.weightsAll Tryd.prog 43 ((List.range ps.length).map D) ++ DataW.weightsAll Tryd.prog 43 ((List.range (m - ps.length)).map fun j => D (ps.length + j))) = (DataW.slice ((List.range ps.length).map D) ((List.range (m - ps.length)).map fun j => D (ps.length + j))).weights Tryd.prog 22 := by
      rewrite [DataW.weights, Tryd.underlying22]
      simp only [List.length_map, List.length_range, bytes_ldir]
    simp only [← hw] at hz
    refine ⟨_, ps, rfl, ⟨some a, cap, rfl, ?_⟩, ?_, ?_⟩
    · cases ps with
      | nil => exact .inl rfl
      | cons p0 ps =>
        obtain ⟨_, hc0⟩ := hps 0 p0 rfl
        obtain ⟨b, off, spot⟩ := a
        have hspot : spot = none := by
          have := hc0 0 (by omega)
          rw [show (cellsD p0)[0]? = some (.string (strB p0.1)) from rfl] at this
          simpa [Addr.add] using World.cell?_spot this
        subst hspot
        have hlt : b < W.heap.size := by
          have := hc0 0 (by omega)
          rw [show (cellsD p0)[0]? = some (.string (strB p0.1)) from rfl, Go.WideShapes.add_plain] at this
          exact lt_of_cell this
        refine .inr ⟨b, off, rfl, Nat.zero_le _, hlt, fun j p hj => ?_⟩
        obtain ⟨_, hc⟩ := hps j p hj
        have x0 := hc 0 (by omega)
        have x1 := hc 1 (by omega)
        have x2 := hc 2 (by omega)
        rw [Go.WideShapes.add_plain] at x0 x1 x2
        exact ⟨x0, x1, x2⟩
    · have := hz _ (List.mem_cons_self ..)
      unfold reachBytes at this
      omega
    · intro p hp
      obtain ⟨i, hi'⟩ := List.getElem?_of_mem hp
      obtain ⟨hD, _⟩ := hps i p hi'
      have hmem : dirD H p ∈ (List.range ps.length).map D := by
        rewrite [← hD]
        exact List.mem_map.2 ⟨i, List.mem_range.2 (List.getElem?_eq_some_iff.1 hi').1, rfl⟩
      have hin : ∀ n ∈ (dirD H p).weights Tryd.prog 43, n ≤ reachBytes := fun n hn => hz n (List.mem_cons_of_mem _ (List.mem_append.2 (.inl (weights_all_mem hmem n hn))))
      rw [dir_weights] at hin
      have h1 := hin p.1.length (by simp)
      have h2 := hin p.2.1.length (by simp)
      unfold reachBytes at h1 h2
      omega

set_option maxRecDepth 100000 in
theorem open_dirs {v : Value} {d : DataW H} {p : List MemPlace} (hv : Value.okWide Tryd.prog W .any base 22 v) (h : DataW.Trod enc Tryd.prog W 0 (fun _ => true) true 22 v d p) (hz : ∀ n ∈ d.weights Tryd.prog 22, n ≤ reachBytes) :
    ∃ fs : List Dir, Dirs 0 W v fs ∧ DirsIn fs := by
  obtain ⟨a0, len, cap, rfl⟩ := okWide_slice Tryd.underlying22 hv
  obtain ⟨fuel, hf⟩ := h
  obtain ⟨v', fs, e, hG, hl⟩ := dirs_trod hf hz
  have e : Value.slice a0 len cap = v' := by simpa [Value.cells] using e
  subst e
  exact ⟨fs, hG, hl⟩

end

end Go.Proofs.YtjnagifolheloaaDoor

namespace Go.Proofs.YtjnagifolheloaaDoor
open Go.ChangeShapes Go.WideShapes Go.ChangeAt Go.RowKit Go.Shelf Go.Lib

theorem own : ownKnob Tryd.prog.godebug = none := by kernel_rfl
theorem laidOut : laidOutB Tryd.prog = true := by kernel_rfl
/-- The variables that the rows list. -/
def laid2 : List (String × DataW Unit) := Rows.legacyFirstRow.laid
theorem accept_eq : (Rows.laid_unicode_utf8_acceptRanges : DataW Unit) = acceptData := by kernel_rfl
theorem u8x : U8Extra Tryd.prog Tryd.lays260_ren := ⟨by kernel_rfl, by kernel_rfl, by kernel_rfl, by kernel_rfl, by kernel_rfl, by kernel_rfl, by kernel_rfl⟩
theorem tabs_of_laid {W : World} (hL0 : laidMetH Tryd.prog laid2 W) : Tabs W := by
  rw [MakeChecks.laidMetH_plain _ _ _ (by kernel_rfl)] at hL0
  exact utf8Tabs_of_readsT (U8Types.of260 Tryd.lays260) u8x (Pinned.utf8First_eq ▸ Lib.laidMet.reads hL0 (.tail _ (.head _))) (accept_eq ▸ Lib.laidMet.reads hL0 (.head _))
theorem laid2_met (os : Os) (args : Array Value) : laidMetH Tryd.prog laid2 ((World.laidAll Tryd.prog os laid2).forCall (fun _ _ => 0) ⟨#[], args, []⟩).memory := by
  rewrite [MakeChecks.laidMetH_plain _ _ _ (by kernel_rfl)]
  exact laidMet_laidAll _ (by kernel_rfl) (by kernel_rfl)

end Go.Proofs.YtjnagifolheloaaDoor
