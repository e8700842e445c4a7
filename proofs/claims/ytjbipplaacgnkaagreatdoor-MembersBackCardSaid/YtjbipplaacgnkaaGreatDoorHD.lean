/- What the laws over package item need to be lifted to their rows: items and parameters as arguments, opened. · What the laws over package members need to be lifted to their rows: members and entries as arguments, opened. -/
import Derived.Test.YtjbipplaacgnkaaGreatDoorLL
import Derived.Test.YtjbipplaacgnkaaGreatDoorGI
import Derived.Test.YtjbipplaacgnkaaGreatDoorHB
import Derived.Deep.Slices
import Derived.Deep.Fields
import Derived.ChangeSame
import Derived.Deep.Strs

namespace Go.Proofs.YtjbipplaacgnkaaGreatDoor
open Go.ChangeShapes Go.WideShapes Go.ChangeAt Go.RowKit Go.Shelf Go.Lib

theorem cells_string : Tryz.prog.cellsOf 9 = 1 := by kernel_rfl
theorem cells_int : Tryz.prog.cellsOf 3 = 1 := by kernel_rfl
theorem cells_int64 : Tryz.prog.cellsOf 2 = 1 := by kernel_rfl
theorem cells_bare : Tryz.prog.cellsOf 43 = 3 := by kernel_rfl
theorem cells_param : Tryz.prog.cellsOf 97 = 4 := by kernel_rfl
theorem cells_params : Tryz.prog.cellsOf 44 = 1 := by kernel_rfl
theorem cells_item : Tryz.prog.cellsOf 46 = 4 := by kernel_rfl
theorem bytes_param : Tryz.prog.bytesOf 97 = 48 := by kernel_rfl

def bareD (H : Type) (k n : Int) (s : List UInt8) : DataW H := .agg [.lit (.int .i64 k), .lit (.int .i64 n), .lit (.string s)]
def paramD (H : Type) (p : Prm) : DataW H := .agg [.lit (.string p.key), bareD H p.k p.n p.s]

/-- What the form's reach says of parameters that are handed over. -/
def Within (ps : List Prm) : Prop := ps.length * 48 ≤ reachBytes ∧ ∀ p ∈ ps, p.key.length ≤ reachBytes ∧ p.s.length ≤ reachBytes ∧ -9223372036854775808 ≤ p.n ∧ p.n ≤ 9223372036854775807

theorem inP_of {ps : List Prm} (h : Within ps) : InP ps := by
  obtain ⟨h1, h2⟩ := h
  unfold reachBytes at h1 h2
  refine ⟨by omega, fun p hp => ?_⟩
  obtain ⟨a, b, c, d⟩ := h2 p hp
  exact ⟨by omega, by omega, c, d⟩

section
variable {H : Type} {enc : TypeId × Value → H} {W : World} {base : Nat} {spare : Nat → Bool} {held : Bool}

theorem i64_in {n : Int} (h : (Lit.int .i64 n).wf = true) : -9223372036854775808 ≤ n ∧ n ≤ 9223372036854775807 := by
  simpa [Lit.wf, IntKind.min, IntKind.max, IntKind.signed, IntKind.bits] using h

theorem bare_trod {fuel : Nat} {cs : List Value} {x : DataW H × List MemPlace} (hl : cs.length = 3) (h : DataW.trod enc Tryz.prog W base spare held fuel 43 cs = some x) :
    ∃ (k n : Int) (s : List UInt8), cs = [.int .i64 k, .int .i64 n, .string (strB s)] ∧ x.1 = bareD H k n s ∧ -9223372036854775808 ≤ n ∧ n ≤ 9223372036854775807 := by
  match cs, hl with
  | [c0, c1, c2], _ =>
    obtain ⟨y0, y1, y2, m, rfl, _, h0, h1, h2⟩ := Go.Deep.trod_struct3 Tryz.underlying43 h
    simp only [cells_string, cells_int, cells_int64, List.drop_zero, List.drop_succ_cons, List.take_succ_cons, List.take_zero] at h0 h1 h2
    obtain ⟨a, e0, rfl, w0⟩ := DataW.trod_int Tryz.underlying3 h0
    obtain ⟨b, e1, rfl, w1⟩ := DataW.trod_int Tryz.underlying2 h1
    obtain ⟨s, e2, rfl, _⟩ := DataW.trod_string Tryz.underlying9 h2
    simp only [List.cons.injEq, and_true] at e0 e1 e2
    subst e0 e1 e2
    exact ⟨a, b, s.data.toList, by rw [strB_of], rfl, (i64_in w1).1, (i64_in w1).2⟩

theorem param_trod {fuel : Nat} {cs : List Value} {x : DataW H × List MemPlace} (hl : cs.length = 4) (h : DataW.trod enc Tryz.prog W base spare held fuel 97 cs = some x) :
    ∃ p : Prm, cs = cellsP p ∧ x.1 = paramD H p ∧ -9223372036854775808 ≤ p.n ∧ p.n ≤ 9223372036854775807 := by
  match cs, hl with
  | [c0, c1, c2, c3], _ =>
    obtain ⟨y0, y1, m, rfl, _, h0, h1⟩ := trod_struct2 Tryz.underlying97 h
    simp only [cells_string, cells_bare, List.drop_zero, List.drop_succ_cons, List.take_succ_cons, List.take_zero] at h0 h1
    obtain ⟨K, e0, rfl, _⟩ := DataW.trod_string Tryz.underlying9 h0
    obtain ⟨k, n, s, e1, ex, hn⟩ := bare_trod rfl h1
    simp only [List.cons.injEq, and_true] at e0 e1
    obtain ⟨rfl, rfl, rfl⟩ := e1
    subst e0
    exact ⟨⟨K.data.toList, k, n, s⟩, by rw [cellsP, strB_of], by rw [ex]; rfl, hn⟩

theorem weights_all_mem {P : Program} {e : TypeId} : ∀ {ds : List (DataW H)} {d : DataW H}, d ∈ ds → ∀ n ∈ d.weights P e, n ∈ DataW.weightsAll P e ds
  | d0 :: ds, d, hd, n, hn => by
    rw [DataW.weightsAll, List.mem_append]
    rcases List.mem_cons.1 hd with rfl | hd
    · exact .inl hn
    · exact .inr (weights_all_mem hd n hn)

theorem bare_weights (k n : Int) (s : List UInt8) : (bareD H k n s).weights Tryz.prog 43 = [s.length] := by
  rw [bareD, DataW.weights, Tryz.underlying43]
  rfl
theorem param_weights (p : Prm) : (paramD H p).weights Tryz.prog 97 = [p.key.length, p.s.length] := by
  rw [paramD, DataW.weights, Tryz.underlying97]
  show DataW.weightsEach Tryz.prog [9, 43] _ = _
  simp only [DataW.weightsEach, bare_weights, DataW.weights, List.append_nil, List.singleton_append]

theorem cells_at {w : World} {b : Nat} {a : Addr} {n : Nat} {cs : List Value} (h : w.cells? b a n = some cs) (i : Nat) (hi : i < n) : w.cell? (a.add i) = cs[i]? := (World.cells?_some h).2.2 i hi

theorem params_trod {fuel : Nat} {cs : List Value} {x : DataW H × List MemPlace} (h : DataW.trod enc Tryz.prog W base spare held fuel 44 cs = some x) (hz : ∀ n ∈ x.1.weights Tryz.prog 44, n ≤ reachBytes) :
    ∃ (v : Value) (ps : List Prm), cs = [v] ∧ Prms W v ps ∧ Within ps := by
  rcases Go.Deep.open_slice Tryz.underlying44 h with ⟨rfl, _⟩ | ⟨a, len, cap, m, n, D, Pl, rfl, _, hl, hm, hmm, rfl, hi⟩
  · exact ⟨_, [], rfl, ⟨none, 0, rfl, .inl rfl⟩, by simp [reachBytes], fun p hp => by cases hp⟩
  · rw [cells_param] at hi
    have hlm : len ≤ m := by rw [hmm]; split <;> omega
    have hpar : ∀ i, i < m → ∃ p : Prm, D i = paramD H p ∧ (-9223372036854775808 ≤ p.n ∧ p.n ≤ 9223372036854775807) ∧ ∀ j, j < 4 → W.cell? (a.add (i * 4 + j)) = (cellsP p)[j]? := by
      intro i him
      obtain ⟨cs', hc, ht⟩ := hi i him
      obtain ⟨p, rfl, hx, hn⟩ := param_trod (World.cells?_some hc).2.1 ht
      refine ⟨p, hx, hn, fun j hj => ?_⟩
      rw [← Go.Deep.add_add]
      exact cells_at hc j hj
    have hex : ∃ ps : List Prm, ps.length = len ∧ ∀ (i : Nat) (p : Prm), ps[i]? = some p → D i = paramD H p ∧ (-9223372036854775808 ≤ p.n ∧ p.n ≤ 9223372036854775807) ∧ ∀ j, j < 4 → W.cell? (a.add (i * 4 + j)) = (cellsP p)[j]? := by
      have hall : ∀ l, l ≤ m → ∃ ps : List Prm, ps.length = l ∧ ∀ (i : Nat) (p : Prm), ps[i]? = some p → D i = paramD H p ∧ (-9223372036854775808 ≤ p.n ∧ p.n ≤ 9223372036854775807) ∧ ∀ j, j < 4 → W.cell? (a.add (i * 4 + j)) = (cellsP p)[j]? := by
        intro l
        induction l with
        | zero => exact fun _ => ⟨[], rfl, fun i p h => by simp at h⟩
        | succ l ih =>
          intro hl
          obtain ⟨ps, hlen, hps⟩ := ih (by omega)
          obtain ⟨p, hp⟩ := hpar l (by omega)
          refine ⟨ps ++ [p], by simp [hlen], fun i q hq => ?_⟩
          rw [List.getElem?_append] at hq
          split at hq
          · exact hps i q hq
          · rename_i hge
            have hil : i = l := by
              have := (List.getElem?_eq_some_iff.1 hq).1
              simp only [List.length_singleton] at this
              omega
            subst hil
            rw [hlen, Nat.sub_self] at hq
            obtain rfl := Option.some.inj hq
            exact hp
      exact hall len hlm
    obtain ⟨ps, rfl, hps⟩ := hex
    have hw : (ps.length + (m - ps.length)) * 48 :: (DataW.weightsAll Tryz.prog 97 ((List.range ps.length).map D) ++ DataW.weightsAll Tryz.prog 97 ((List.range (m - ps.length)).map fun j => D (ps.length + j))) = (DataW.slice ((List.range ps.length).map D) ((List.range (m - ps.length)).map fun j => D (ps.length + j))).weights Tryz.prog 44 := by
      rw [DataW.weights, Tryz.underlying44]
      simp only [List.length_map, List.length_range, bytes_param]
    simp only [← hw] at hz
    refine ⟨_, ps, rfl, ⟨some a, cap, rfl, ?_⟩, ?_, ?_⟩
    · cases ps with
      | nil => exact .inl rfl
      | cons p0 ps =>
        obtain ⟨_, _, hc0⟩ := hps 0 p0 rfl
        obtain ⟨b, off, spot⟩ := a
        have hspot : spot = none := by
          have := hc0 0 (by omega)
          rw [show (cellsP p0)[0]? = some (.string (strB p0.key)) from rfl] at this
          simpa [Addr.add] using World.cell?_spot this
        subst hspot
        refine .inr ⟨b, off, rfl, fun j u hj => ?_⟩
        have hjl : j < (rowP (p0 :: ps)).length := (List.getElem?_eq_some_iff.1 hj).1
        rw [rowP_len] at hjl
        obtain ⟨p, hp⟩ : ∃ p, (p0 :: ps)[j / 4]? = some p := ⟨_, List.getElem?_eq_getElem (by omega)⟩
        obtain ⟨_, _, hc⟩ := hps (j / 4) p hp
        have h4 : j % 4 < 4 := Nat.mod_lt _ (by omega)
        have hcell := hc (j % 4) h4
        rw [show j / 4 * 4 + j % 4 = j by omega, Go.WideShapes.add_plain] at hcell
        rw [hcell]
        obtain ⟨x0, x1, x2, x3⟩ := rowP_at (p0 :: ps) (j / 4) p hp
        have hj4 : j = j / 4 * 4 + j % 4 := by omega
        rw [hj4] at hj
        rcases (show j % 4 = 0 ∨ j % 4 = 1 ∨ j % 4 = 2 ∨ j % 4 = 3 by omega) with e | e | e | e
        · rw [e] at hj ⊢; exact x0.symm.trans hj
        · rw [e] at hj ⊢; exact x1.symm.trans hj
        · rw [e] at hj ⊢; exact x2.symm.trans hj
        · rw [e] at hj ⊢; exact x3.symm.trans hj
    · have := hz _ (List.mem_cons_self ..)
      omega
    · intro p hp
      obtain ⟨i, hi'⟩ := List.getElem?_of_mem hp
      obtain ⟨hD, hn, _⟩ := hps i p hi'
      have hil : i < ps.length := (List.getElem?_eq_some_iff.1 hi').1
      have hmem : D i ∈ (List.range ps.length).map D := List.mem_map.2 ⟨i, List.mem_range.2 hil, rfl⟩
      have hin := fun z hz' => hz z (List.mem_cons_of_mem _ (List.mem_append.2 (.inl (weights_all_mem hmem z hz'))))
      rw [hD, param_weights] at hin
      exact ⟨hin _ (by simp), hin _ (by simp), hn⟩

set_option maxRecDepth 100000 in
theorem open_item {v : Value} {d : DataW H} {p : List MemPlace} (hv : Value.okWide Tryz.prog W .any base 46 v) (h : DataW.Trod enc Tryz.prog W 0 (fun _ => true) true 46 v d p) (hz : ∀ n ∈ d.weights Tryz.prog 46, n ≤ reachBytes) :
    ∃ (k n : Int) (s : List UInt8) (u : Value) (ps : List Prm), v = .agg #[.int .i64 k, .int .i64 n, .string (strB s), u] ∧ Prms W u ps ∧ Within ps ∧ -9223372036854775808 ≤ n ∧ n ≤ 9223372036854775807 ∧ s.length ≤ reachBytes := by
  obtain ⟨cs, rfl, hsz⟩ := okWide_struct Tryz.underlying46 hv
  obtain ⟨l⟩ := cs
  match l, hsz.trans cells_item with
  | [c0, c1, c2, c3], _ =>
    obtain ⟨fuel, hf⟩ := h
    obtain ⟨y0, y1, m, hx, _, h0, h1⟩ := trod_struct2 Tryz.underlying46 hf
    simp only [Value.cells, cells_bare, cells_params, List.drop_zero, List.drop_succ_cons, List.take_succ_cons, List.take_zero] at h0 h1
    obtain ⟨k, n, s, e0, ex, hn⟩ := bare_trod rfl h0
    rw [Prod.mk.injEq] at hx
    obtain ⟨rfl, rfl⟩ := hx
    have hw : (DataW.agg [y0.1, y1.1]).weights Tryz.prog 46 = y0.1.weights Tryz.prog 43 ++ (y1.1.weights Tryz.prog 44 ++ []) := by
      rw [DataW.weights, Tryz.underlying46]
      rfl
    rw [hw, List.append_nil] at hz
    obtain ⟨u, ps, e1, hp, hwi⟩ := params_trod h1 (fun z hz' => hz z (List.mem_append.2 (.inr hz')))
    have hs := hz s.length (List.mem_append.2 (.inl (by rw [ex, bare_weights]; simp)))
    simp only [List.cons.injEq, and_true] at e0 e1
    obtain ⟨rfl, rfl, rfl⟩ := e0
    subst e1
    exact ⟨k, n, s, _, ps, rfl, hp, hwi, hn.1, hn.2, hs⟩
set_option maxRecDepth 100000 in
theorem open_param {v : Value} {d : DataW H} {p : List MemPlace} (hv : Value.okWide Tryz.prog W .any base 97 v) (h : DataW.Trod enc Tryz.prog W 0 (fun _ => true) true 97 v d p) (hz : ∀ n ∈ d.weights Tryz.prog 97, n ≤ reachBytes) :
    ∃ q : Prm, v = .agg #[.string (strB q.key), .int .i64 q.k, .int .i64 q.n, .string (strB q.s)] ∧ (-9223372036854775808 ≤ q.n ∧ q.n ≤ 9223372036854775807) ∧ q.key.length ≤ reachBytes ∧ q.s.length ≤ reachBytes := by
  obtain ⟨cs, rfl, hsz⟩ := okWide_struct Tryz.underlying97 hv
  obtain ⟨l⟩ := cs
  obtain ⟨fuel, hf⟩ := h
  obtain ⟨q, hc, hx, hn⟩ := param_trod (by simpa [Value.cells] using hsz.trans cells_param) hf
  have hd : d = paramD H q := hx
  rw [hd, param_weights] at hz
  refine ⟨q, ?_, hn, hz _ (by simp), hz _ (by simp)⟩
  have hl : l = cellsP q := by simpa [Value.cells] using hc
  rw [hl]; rfl
set_option maxRecDepth 100000 in
theorem item_trod {fuel : Nat} {cs : List Value} {x : DataW H × List MemPlace} (hl : cs.length = 4) (h : DataW.trod enc Tryz.prog W base spare held fuel 46 cs = some x) (hz : ∀ n ∈ x.1.weights Tryz.prog 46, n ≤ reachBytes) :
    ∃ (k n : Int) (s : List UInt8) (u : Value) (ps : List Prm), cs = [.int .i64 k, .int .i64 n, .string (strB s), u] ∧ Prms W u ps ∧ Within ps ∧ -9223372036854775808 ≤ n ∧ n ≤ 9223372036854775807 := by
  match cs, hl with
  | [c0, c1, c2, c3], _ =>
    obtain ⟨y0, y1, m, rfl, _, h0, h1⟩ := trod_struct2 Tryz.underlying46 h
    simp only [cells_bare, cells_params, List.drop_zero, List.drop_succ_cons, List.take_succ_cons, List.take_zero] at h0 h1
    obtain ⟨k, n, s, e0, ex, hn⟩ := bare_trod rfl h0
    have hw : (DataW.agg [y0.1, y1.1]).weights Tryz.prog 46 = y0.1.weights Tryz.prog 43 ++ (y1.1.weights Tryz.prog 44 ++ []) := by
      rw [DataW.weights, Tryz.underlying46]
      rfl
    simp only [hw, List.append_nil] at hz
    obtain ⟨u, ps, e1, hp, hwi⟩ := params_trod h1 (fun z hz' => hz z (List.mem_append.2 (.inr hz')))
    simp only [List.cons.injEq, and_true] at e0 e1
    obtain ⟨rfl, rfl, rfl⟩ := e0
    subst e1
    exact ⟨k, n, s, _, ps, rfl, hp, hwi, hn.1, hn.2⟩

end

end Go.Proofs.YtjbipplaacgnkaaGreatDoor

namespace Go.Proofs.YtjbipplaacgnkaaGreatDoor
open Go.ChangeShapes Go.WideShapes Go.ChangeAt Go.RowKit Go.Shelf Go.Lib

theorem cells_bool : Tryz.prog.cellsOf 4 = 1 := by kernel_rfl
theorem cells_items : Tryz.prog.cellsOf 47 = 1 := by kernel_rfl
theorem cells_member : Tryz.prog.cellsOf 49 = 7 := by kernel_rfl
theorem cells_entry : Tryz.prog.cellsOf 76 = 8 := by kernel_rfl
theorem bytes_item : Tryz.prog.bytesOf 46 = 56 := by kernel_rfl
theorem bytes_member : Tryz.prog.bytesOf 49 = 112 := by kernel_rfl
theorem bytes_entry : Tryz.prog.bytesOf 76 = 128 := by kernel_rfl

/-- What the form's reach says of an item, a member, an entry that is handed over. -/
def ItIn (x : Itm) : Prop := Within x.ps ∧ (-9223372036854775808 ≤ x.n ∧ x.n ≤ 9223372036854775807) ∧ x.s.length ≤ reachBytes
def MeIn (M : Mem) : Prop := ItIn M.it ∧ (M.its.length * 56 ≤ reachBytes ∧ ∀ x ∈ M.its, ItIn x) ∧ Within M.ps
def EnIn (E : Ent) : Prop := E.key.length ≤ reachBytes ∧ MeIn E.val

theorem Prms.off0 {W : World} {v : Value} {ps : List Prm} (h : Prms W v ps) : PrmsOff 0 none W v ps := by
  obtain ⟨ao, cap, hv, hc⟩ := h
  rcases hc with hc | ⟨b, off, h1, h2⟩
  · exact ⟨ao, cap, hv, .inl hc⟩
  · by_cases hps : ps = []
    · exact ⟨ao, cap, hv, .inl hps⟩
    · obtain ⟨p, hp⟩ : ∃ p, ps[0]? = some p := ⟨_, List.getElem?_eq_getElem (List.length_pos_iff.2 hps)⟩
      obtain ⟨x0, _⟩ := rowP_at ps 0 p hp
      exact ⟨ao, cap, hv, .inr ⟨b, off, h1, Nat.zero_le _, (fun e => by cases e), lt_of_cell (h2 _ _ x0), h2⟩⟩

section
variable {H : Type} {enc : TypeId × Value → H} {W : World} {base : Nat} {spare : Nat → Bool} {held : Bool} {α β : Type}

/-- A slice whose elements open as a row's. -/
theorem rows_trod {R : Rowing α β} {T S : TypeId} {bytes : Nat} {Q : α → Prop} (hS : Tryz.prog.underlying S = some (.slice T)) (hcT : Tryz.prog.cellsOf T = R.size) (hbT : Tryz.prog.bytesOf T = bytes) (hpos : 0 < R.size)
    (helem : ∀ (fuel : Nat) (cs : List Value) (x : DataW H × List MemPlace), cs.length = R.size → DataW.trod enc Tryz.prog W base spare held fuel T cs = some x → (∀ n ∈ x.1.weights Tryz.prog T, n ≤ reachBytes) → ∃ a u, cs = R.cells a u ∧ R.F 0 none W a u ∧ Q a)
    {fuel : Nat} {cs : List Value} {x : DataW H × List MemPlace} (h : DataW.trod enc Tryz.prog W base spare held fuel S cs = some x) (hz : ∀ n ∈ x.1.weights Tryz.prog S, n ≤ reachBytes) :
    ∃ (v : Value) (xs : List α), cs = [v] ∧ GOff R 0 none W v xs ∧ xs.length * bytes ≤ reachBytes ∧ ∀ a ∈ xs, Q a := by
  rcases Go.Deep.open_slice hS h with ⟨rfl, _⟩ | ⟨a, len, cap, m, n, D, Pl, rfl, _, hl, hm, hmm, rfl, hi⟩
  · exact ⟨_, [], rfl, ⟨none, 0, rfl, .inl rfl⟩, by simp [reachBytes], fun p hp => by cases hp⟩
  · rw [hcT] at hi
    have hlm : len ≤ m := by rw [hmm]; split <;> omega
    have hw : (len + (m - len)) * bytes :: (DataW.weightsAll Tryz.prog T ((List.range len).map D) ++ DataW.weightsAll Tryz.prog T ((List.range (m - len)).map fun j => D (len + j))) = (DataW.slice ((List.range len).map D) ((List.range (m - len)).map fun j => D (len + j))).weights Tryz.prog S := by
      rw [DataW.weights, hS]
      simp only [List.length_map, List.length_range, hbT]
    simp only [← hw] at hz
    have hel : ∀ i, i < len → ∃ (x : α) (u : β), (∀ j, j < R.size → W.cell? (a.add (i * R.size + j)) = (R.cells x u)[j]?) ∧ R.F 0 none W x u ∧ Q x := by
      intro i hil
      obtain ⟨cs', hc, ht⟩ := hi i (by omega)
      have hmem : D i ∈ (List.range len).map D := List.mem_map.2 ⟨i, List.mem_range.2 hil, rfl⟩
      obtain ⟨x, u, rfl, hF, hQ⟩ := helem _ _ _ (World.cells?_some hc).2.1 ht (fun z hz' => hz z (List.mem_cons_of_mem _ (List.mem_append.2 (.inl (weights_all_mem hmem z hz')))))
      refine ⟨x, u, fun j hj => ?_, hF, hQ⟩
      rw [← Go.Deep.add_add]
      exact cells_at hc j hj
    have hex : ∃ xs : List α, xs.length = len ∧ ∀ (i : Nat) (x : α), xs[i]? = some x → ∃ u : β, (∀ j, j < R.size → W.cell? (a.add (i * R.size + j)) = (R.cells x u)[j]?) ∧ R.F 0 none W x u ∧ Q x := by
      have hall : ∀ l, l ≤ len → ∃ xs : List α, xs.length = l ∧ ∀ (i : Nat) (x : α), xs[i]? = some x → ∃ u : β, (∀ j, j < R.size → W.cell? (a.add (i * R.size + j)) = (R.cells x u)[j]?) ∧ R.F 0 none W x u ∧ Q x := by
        intro l
        induction l with
        | zero => exact fun _ => ⟨[], rfl, fun i p h => by simp at h⟩
        | succ l ih =>
          intro hl
          obtain ⟨xs, hlen, hxs⟩ := ih (by omega)
          obtain ⟨p, hp⟩ := hel l (by omega)
          refine ⟨xs ++ [p], by simp [hlen], fun i q hq => ?_⟩
          rw [List.getElem?_append] at hq
          split at hq
          · exact hxs i q hq
          · rename_i hge
            have hil : i = l := by
              have := (List.getElem?_eq_some_iff.1 hq).1
              simp only [List.length_singleton] at this
              omega
            subst hil
            rw [hlen, Nat.sub_self] at hq
            obtain rfl := Option.some.inj hq
            exact hp
      exact hall len (Nat.le_refl _)
    obtain ⟨xs, rfl, hxs⟩ := hex
    refine ⟨_, xs, rfl, ⟨some a, cap, rfl, ?_⟩, ?_, ?_⟩
    · by_cases hn : xs = []
      · exact .inl hn
      · obtain ⟨x0, hx0⟩ : ∃ x0, xs[0]? = some x0 := ⟨_, List.getElem?_eq_getElem (List.length_pos_iff.2 hn)⟩
        obtain ⟨u0, hc0, _⟩ := hxs 0 x0 hx0
        obtain ⟨c0, hc00⟩ : ∃ c0, (R.cells x0 u0)[0]? = some c0 := ⟨_, List.getElem?_eq_getElem (by rw [R.len]; exact hpos)⟩
        have hcell := (hc0 0 hpos).trans hc00
        obtain ⟨b, off, spot⟩ := a
        have hspot : spot = none := by simpa [Addr.add] using World.cell?_spot hcell
        subst hspot
        refine .inr ⟨b, off, rfl, Nat.zero_le _, (fun e => by cases e), by have := lt_of_cell hcell; rwa [Go.WideShapes.add_plain] at this, fun j x hx => ?_⟩
        obtain ⟨u, hc, hF, _⟩ := hxs j x hx
        refine ⟨u, fun i hi => ?_, hF⟩
        have := hc i hi
        rw [Go.WideShapes.add_plain] at this
        rw [Nat.add_assoc]
        exact this
    · have := hz _ (List.mem_cons_self ..)
      have h2 : xs.length * bytes ≤ (xs.length + (m - xs.length)) * bytes := Nat.mul_le_mul_right _ (Nat.le_add_right _ _)
      omega
    · intro p hp
      obtain ⟨i, hi'⟩ := List.getElem?_of_mem hp
      obtain ⟨_, _, _, hQ⟩ := hxs i p hi'
      exact hQ

theorem item_elem (fuel : Nat) (cs : List Value) (x : DataW H × List MemPlace) (hl : cs.length = itmR.size) (h : DataW.trod enc Tryz.prog W base spare held fuel 46 cs = some x) (hz : ∀ n ∈ x.1.weights Tryz.prog 46, n ≤ reachBytes) :
    ∃ (a : Itm) (u : Value), cs = itmR.cells a u ∧ itmR.F 0 none W a u ∧ ItIn a := by
  match cs, hl with
  | [c0, c1, c2, c3], _ =>
    obtain ⟨y0, y1, m, rfl, _, h0, h1⟩ := trod_struct2 Tryz.underlying46 h
    simp only [cells_bare, cells_params, List.drop_zero, List.drop_succ_cons, List.take_succ_cons, List.take_zero] at h0 h1
    obtain ⟨k, n, s, e0, ex, hn⟩ := bare_trod rfl h0
    have hw : (DataW.agg [y0.1, y1.1]).weights Tryz.prog 46 = y0.1.weights Tryz.prog 43 ++ (y1.1.weights Tryz.prog 44 ++ []) := by
      rw [DataW.weights, Tryz.underlying46]
      rfl
    simp only [hw, List.append_nil] at hz
    obtain ⟨u, ps, e1, hp, hwi⟩ := params_trod h1 (fun z hz' => hz z (List.mem_append.2 (.inr hz')))
    have hs := hz s.length (List.mem_append.2 (.inl (by rw [ex, bare_weights]; simp)))
    simp only [List.cons.injEq, and_true] at e0 e1
    obtain ⟨rfl, rfl, rfl⟩ := e0
    subst e1
    exact ⟨⟨k, n, s, ps⟩, _, rfl, hp.off0, hwi, hn, hs⟩

theorem member_elem (fuel : Nat) (cs : List Value) (x : DataW H × List MemPlace) (hl : cs.length = memR.size) (h : DataW.trod enc Tryz.prog W base spare held fuel 49 cs = some x) (hz : ∀ n ∈ x.1.weights Tryz.prog 49, n ≤ reachBytes) :
    ∃ (a : Mem) (u : Value × Value × Value), cs = memR.cells a u ∧ memR.F 0 none W a u ∧ MeIn a := by
  match cs, hl with
  | [c0, c1, c2, c3, c4, c5, c6], _ =>
    obtain ⟨y0, y1, y2, y3, m, rfl, _, h0, h1, h2, h3⟩ := Joins.trod_struct4 Tryz.underlying49 h
    simp only [cells_bool, cells_item, cells_items, cells_params, List.drop_zero, List.drop_succ_cons, List.take_succ_cons, List.take_zero] at h0 h1 h2 h3
    obtain ⟨b, e0, rfl⟩ := DataW.trod_bool Tryz.underlying4 h0
    have hw : ∀ d0 : DataW H, (DataW.agg [d0, y1.1, y2.1, y3.1]).weights Tryz.prog 49 = d0.weights Tryz.prog 4 ++ (y1.1.weights Tryz.prog 46 ++ (y2.1.weights Tryz.prog 47 ++ (y3.1.weights Tryz.prog 44 ++ []))) := fun d0 => by
      rw [DataW.weights, Tryz.underlying49]
      rfl
    simp only [hw, List.append_nil] at hz
    obtain ⟨it, u, e1, hF, hit⟩ := item_elem _ _ _ rfl h1 (fun z hz' => hz z (List.mem_append.2 (.inr (List.mem_append.2 (.inl hz')))))
    obtain ⟨vi, its, e2, hG, hil, hii⟩ := rows_trod (R := itmR) (Q := ItIn) Tryz.underlying47 cells_item bytes_item (by decide) item_elem h2 (fun z hz' => hz z (List.mem_append.2 (.inr (List.mem_append.2 (.inr (List.mem_append.2 (.inl hz')))))))
    obtain ⟨vp, ps, e3, hp, hwi⟩ := params_trod h3 (fun z hz' => hz z (List.mem_append.2 (.inr (List.mem_append.2 (.inr (List.mem_append.2 (.inr hz')))))))
    simp only [itmR, cellsI, List.cons.injEq, and_true] at e0 e1 e2 e3
    obtain ⟨rfl, rfl, rfl, rfl⟩ := e1
    subst e0 e2 e3
    exact ⟨⟨b, it, its, ps⟩, (_, _, _), rfl, ⟨hF, hG.items, hp.off0⟩, hit, ⟨hil, hii⟩, hwi⟩

theorem entry_elem (fuel : Nat) (cs : List Value) (x : DataW H × List MemPlace) (hl : cs.length = entR.size) (h : DataW.trod enc Tryz.prog W base spare held fuel 76 cs = some x) (hz : ∀ n ∈ x.1.weights Tryz.prog 76, n ≤ reachBytes) :
    ∃ (a : Ent) (u : Value × Value × Value), cs = entR.cells a u ∧ entR.F 0 none W a u ∧ EnIn a := by
  match cs, hl with
  | [c, c0, c1, c2, c3, c4, c5, c6], _ =>
    obtain ⟨y0, y1, m, rfl, _, h0, h1⟩ := trod_struct2 Tryz.underlying76 h
    simp only [cells_string, cells_member, List.drop_zero, List.drop_succ_cons, List.take_succ_cons, List.take_zero] at h0 h1
    obtain ⟨K, e0, rfl, _⟩ := DataW.trod_string Tryz.underlying9 h0
    have hw : ∀ d0 : DataW H, (DataW.agg [d0, y1.1]).weights Tryz.prog 76 = d0.weights Tryz.prog 9 ++ (y1.1.weights Tryz.prog 49 ++ []) := fun d0 => by
      rw [DataW.weights, Tryz.underlying76]
      rfl
    simp only [hw, List.append_nil] at hz
    have hk := hz K.data.toList.length (List.mem_append.2 (.inl (by simp [DataW.weights])))
    obtain ⟨M, u, e1, hF, hM⟩ := member_elem _ _ _ rfl h1 (fun z hz' => hz z (List.mem_append.2 (.inr hz')))
    simp only [List.cons.injEq, and_true] at e0
    subst e0
    refine ⟨⟨K.data.toList, M⟩, u, ?_, hF, hk, hM⟩
    show _ = .string (strB K.data.toList) :: memR.cells M u
    rw [e1, strB_of]

set_option maxRecDepth 100000 in
theorem open_members {v : Value} {d : DataW H} {p : List MemPlace} (hv : Value.okWide Tryz.prog W .any base 23 v) (h : DataW.Trod enc Tryz.prog W 0 (fun _ => true) true 23 v d p) (hz : ∀ n ∈ d.weights Tryz.prog 23, n ≤ reachBytes) :
    ∃ xs : List Mem, GOff memR 0 none W v xs ∧ xs.length * 112 ≤ reachBytes ∧ ∀ a ∈ xs, MeIn a := by
  obtain ⟨a0, len, cap, rfl⟩ := okWide_slice Tryz.underlying23 hv
  obtain ⟨fuel, hf⟩ := h
  obtain ⟨v', xs, e, hG, hl, hQ⟩ := rows_trod (R := memR) (Q := MeIn) Tryz.underlying23 cells_member bytes_member (by decide) member_elem hf hz
  have e : Value.slice a0 len cap = v' := by simpa [Value.cells] using e
  subst e
  exact ⟨xs, hG, hl, hQ⟩
set_option maxRecDepth 100000 in
theorem open_entries {v : Value} {d : DataW H} {p : List MemPlace} (hv : Value.okWide Tryz.prog W .any base 30 v) (h : DataW.Trod enc Tryz.prog W 0 (fun _ => true) true 30 v d p) (hz : ∀ n ∈ d.weights Tryz.prog 30, n ≤ reachBytes) :
    ∃ xs : List Ent, GOff entR 0 none W v xs ∧ xs.length * 128 ≤ reachBytes ∧ ∀ a ∈ xs, EnIn a := by
  obtain ⟨a0, len, cap, rfl⟩ := okWide_slice Tryz.underlying30 hv
  obtain ⟨fuel, hf⟩ := h
  obtain ⟨v', xs, e, hG, hl, hQ⟩ := rows_trod (R := entR) (Q := EnIn) Tryz.underlying30 cells_entry bytes_entry (by decide) entry_elem hf hz
  have e : Value.slice a0 len cap = v' := by simpa [Value.cells] using e
  subst e
  exact ⟨xs, hG, hl, hQ⟩
end

theorem Within.pr {ps : List Prm} (h : Within ps) : PrIn ps := by
  obtain ⟨h1, h2⟩ := h
  unfold reachBytes at h1 h2
  refine ⟨by omega, fun p hp => ?_⟩
  obtain ⟨a, b, c, d⟩ := h2 p hp
  exact ⟨by omega, by omega, c, d⟩
theorem ItIn.ii {x : Itm} (h : ItIn x) : IiIn x := by
  obtain ⟨h1, h2, h3⟩ := h
  unfold reachBytes at h3
  exact ⟨h1.pr, by omega, h2⟩
theorem MeIn.mm {M : Mem} (h : MeIn M) : MmIn M := by
  obtain ⟨h1, ⟨h2, h3⟩, h4⟩ := h
  unfold reachBytes at h2
  exact ⟨h1.ii, fun x hx => (h3 x hx).ii, by omega, h4.pr⟩
theorem EnIn.mm {E : Ent} (h : EnIn E) : MmIn E.val ∧ E.key.length ≤ 140737488355328 := by
  obtain ⟨h1, h2⟩ := h
  unfold reachBytes at h1
  exact ⟨h2.mm, by omega⟩

end Go.Proofs.YtjbipplaacgnkaaGreatDoor
