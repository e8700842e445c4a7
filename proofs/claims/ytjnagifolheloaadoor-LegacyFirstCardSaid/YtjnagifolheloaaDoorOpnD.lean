/- Directives as an argument, opened. -/
import Derived.Test.YtjnagifolheloaaDoorOpnF
import Derived.Test.YtjnagifolheloaaDoorOwnD
namespace Go.Proofs.YtjnagifolheloaaDoor
open Go.ChangeShapes Go.WideShapes Go.ChangeAt Go.RowKit Go.Shelf Go.Lib

theorem cells_ldir : Tryd.prog.cellsOf 43 = 3 := by kernel_rfl
theorem cells_boolD : Tryd.prog.cellsOf 4 = 1 := by kernel_rfl
theorem bytes_ldir : Tryd.prog.bytesOf 43 = 40 := by kernel_rfl

section
variable {H : Type} {enc : TypeId × Value → H} {W : World} {base : Nat} {spare : Nat → Bool} {held : Bool}

def dirD (H : Type) (d : Dir) : DataW H := .agg [.lit (.string d.1), .lit (.string d.2.1), .lit (.bool d.2.2)]

theorem dir_trod {fuel : Nat} {cs : List Value} {x : DataW H × List MemPlace} (hl : cs.length = 3) (h : DataW.trod enc Tryd.prog W base spare held fuel 43 cs = some x) :
    ∃ p : Dir, cs = cellsD p ∧ x.1 = dirD H p := by
  match cs, hl with
  | [c0, c1, c2], _ =>
    obtain ⟨y0, y1, y2, m, rfl, _, h0, h1, h2⟩ := Go.Deep.trod_struct3 Tryd.underlying43 h
    simp only [cells_string, cells_boolD, List.drop_zero, List.drop_succ_cons, List.take_succ_cons, List.take_zero] at h0 h1 h2
    obtain ⟨K, e0, rfl, _⟩ := DataW.trod_string Tryd.underlying9 h0
    obtain ⟨V, e1, rfl, _⟩ := DataW.trod_string Tryd.underlying9 h1
    obtain ⟨B, e2, rfl⟩ := DataW.trod_bool Tryd.underlying4 h2
    simp only [List.cons.injEq, and_true] at e0 e1 e2
    subst e0 e1 e2
    exact ⟨(K.data.toList, V.data.toList, B), by rw [cellsD, strB_of, strB_of], rfl⟩

theorem dir_weights (p : Dir) : (dirD H p).weights Tryd.prog 43 = [p.1.length, p.2.1.length] := by
  rw [dirD, DataW.weights, Tryd.underlying43]
  show DataW.weightsEach Tryd.prog [9, 9, 4] _ = _
  simp only [DataW.weightsEach, DataW.weights, List.append_nil, List.singleton_append]

theorem dirs_trod {fuel : Nat} {cs : List Value} {x : DataW H × List MemPlace} (h : DataW.trod enc Tryd.prog W base spare held fuel 22 cs = some x) (hz : ∀ n ∈ x.1.weights Tryd.prog 22, n ≤ reachBytes) :
    ∃ (v : Value) (fs : List Dir), cs = [v] ∧ Dirs 0 W v fs ∧ DirsIn fs := by
  rcases Go.Deep.open_slice Tryd.underlying22 h with ⟨rfl, _⟩ | ⟨a, len, cap, m, n, D, Pl, rfl, _, hl, hm, hmm, rfl, hi⟩
  · exact ⟨_, [], rfl, ⟨none, 0, rfl, .inl rfl⟩, by simp, fun p hp => by cases hp⟩
  · rw [cells_ldir] at hi
    have hlm : len ≤ m := by rw [hmm]; split <;> omega
    have hpar : ∀ i, i < m → ∃ p : Dir, D i = dirD H p ∧ ∀ j, j < 3 → W.cell? (a.add (i * 3 + j)) = (cellsD p)[j]? := by
      intro i him
      obtain ⟨cs', hc, ht⟩ := hi i him
      obtain ⟨p, rfl, hx⟩ := dir_trod (World.cells?_some hc).2.1 ht
      refine ⟨p, hx, fun j hj => ?_⟩
      rw [← Go.Deep.add_add]
      exact cells_at hc j hj
    have hex : ∃ ps : List Dir, ps.length = len ∧ ∀ (i : Nat) (p : Dir), ps[i]? = some p → D i = dirD H p ∧ ∀ j, j < 3 → W.cell? (a.add (i * 3 + j)) = (cellsD p)[j]? := by
      have hall : ∀ l, l ≤ m → ∃ ps : List Dir, ps.length = l ∧ ∀ (i : Nat) (p : Dir), ps[i]? = some p → D i = dirD H p ∧ ∀ j, j < 3 → W.cell? (a.add (i * 3 + j)) = (cellsD p)[j]? := by
        intro l
        induction l with
        | zero => exact fun _ => ⟨[], rfl, fun i p h => by simp at h⟩
        | succ l ih =>
          intro hl
          obtain ⟨ps, hlen, hps⟩ := ih (by omega)
          obtain ⟨p, hp⟩ := hpar l (by omega)
          refine ⟨ps ++ [p], by simp [hlen], fun i q hq => ?_⟩
          rw [List.getElem?_append] at hq
          split at hq
          · exact hps i q hq
          · rename_i hge
            have hil : i = l := by
              have := (List.getElem?_eq_some_iff.1 hq).1
              simp only [List.length_singleton] at this
              omega
            subst hil
            rw [hlen, Nat.sub_self] at hq
            obtain rfl := Option.some.inj hq
            exact hp
      exact hall len hlm
    obtain ⟨ps, rfl, hps⟩ := hex
    have hw : (ps.length + (m - ps.length)) * 40 :: (DataW.weightsAll Tryd.prog 43 ((List.range ps.length).map D) ++ DataW.weightsAll Tryd.prog 43 ((List.range (m - ps.length)).map fun j => D (ps.length + j))) = (DataW.slice ((List.range ps.length).map D) ((List.range (m - ps.length)).map fun j => D (ps.length + j))).weights Tryd.prog 22 := by
      rw [DataW.weights, Tryd.underlying22]
      simp only [List.length_map, List.length_range, bytes_ldir]
    simp only [← hw] at hz
    refine ⟨_, ps, rfl, ⟨some a, cap, rfl, ?_⟩, ?_, ?_⟩
    · cases ps with
      | nil => exact .inl rfl
      | cons p0 ps =>
        obtain ⟨_, hc0⟩ := hps 0 p0 rfl
        obtain ⟨b, off, spot⟩ := a
        have hspot : spot = none := by
          have := hc0 0 (by omega)
          rw [show (cellsD p0)[0]? = some (.string (strB p0.1)) from rfl] at this
          simpa [Addr.add] using World.cell?_spot this
        subst hspot
        have hlt : b < W.heap.size := by
          have := hc0 0 (by omega)
          rw [show (cellsD p0)[0]? = some (.string (strB p0.1)) from rfl, Go.WideShapes.add_plain] at this
          exact lt_of_cell this
        refine .inr ⟨b, off, rfl, Nat.zero_le _, hlt, fun j p hj => ?_⟩
        obtain ⟨_, hc⟩ := hps j p hj
        have x0 := hc 0 (by omega)
        have x1 := hc 1 (by omega)
        have x2 := hc 2 (by omega)
        rw [Go.WideShapes.add_plain] at x0 x1 x2
        exact ⟨x0, x1, x2⟩
    · have := hz _ (List.mem_cons_self ..)
      unfold reachBytes at this
      omega
    · intro p hp
      obtain ⟨i, hi'⟩ := List.getElem?_of_mem hp
      obtain ⟨hD, _⟩ := hps i p hi'
      have hmem : dirD H p ∈ (List.range ps.length).map D := by
        rw [← hD]
        exact List.mem_map.2 ⟨i, List.mem_range.2 (List.getElem?_eq_some_iff.1 hi').1, rfl⟩
      have hin : ∀ n ∈ (dirD H p).weights Tryd.prog 43, n ≤ reachBytes := fun n hn => hz n (List.mem_cons_of_mem _ (List.mem_append.2 (.inl (weights_all_mem hmem n hn))))
      rw [dir_weights] at hin
      have h1 := hin p.1.length (by simp)
      have h2 := hin p.2.1.length (by simp)
      unfold reachBytes at h1 h2
      omega

set_option maxRecDepth 100000 in
theorem open_dirs {v : Value} {d : DataW H} {p : List MemPlace} (hv : Value.okWide Tryd.prog W .any base 22 v) (h : DataW.Trod enc Tryd.prog W 0 (fun _ => true) true 22 v d p) (hz : ∀ n ∈ d.weights Tryd.prog 22, n ≤ reachBytes) :
    ∃ fs : List Dir, Dirs 0 W v fs ∧ DirsIn fs := by
  obtain ⟨a0, len, cap, rfl⟩ := okWide_slice Tryd.underlying22 hv
  obtain ⟨fuel, hf⟩ := h
  obtain ⟨v', fs, e, hG, hl⟩ := dirs_trod hf hz
  have e : Value.slice a0 len cap = v' := by simpa [Value.cells] using e
  subst e
  exact ⟨fs, hG, hl⟩

end

end Go.Proofs.YtjnagifolheloaaDoor
