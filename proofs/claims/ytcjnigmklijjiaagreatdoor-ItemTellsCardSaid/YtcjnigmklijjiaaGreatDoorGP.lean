/- What every law over package bare needs to be lifted to its row: the tables, as the rows list them, and a world in which they lie. · What the laws over package item need to be lifted to their rows: items and parameters as arguments, opened. -/
import Derived.Test.YtcjnigmklijjiaaGreatDoorShelf
import Derived.Test.YtcjnigmklijjiaaGreatDoorTie
import Derived.Test.YtcjnigmklijjiaaGreatDoorCards
import Derived.Test.YtcjnigmklijjiaaGreatDoorGB
import Derived.Test.YtcjnigmklijjiaaGreatDoorGG
import Derived.ProofKit
import Derived.PinnedBridge
import Derived.Lay
import Derived.Lib.LaidTab
import Derived.Lib.LaidU8
import Derived.Lib.SmallJoins
import Derived.SevenTiedAt
import Derived.SizedLaws
import Derived.OpenShut
import Derived.Deep.Slices
import Derived.Deep.Fields
import Derived.ChangeSame
import Derived.Deep.Strs

namespace Go.Proofs.YtcjnigmklijjiaaGreatDoor
open Go.ChangeShapes Go.WideShapes Go.ChangeAt Go.RowKit Go.Shelf Go.Lib

theorem own : ownKnob Tryz.prog.godebug = none := by kernel_rfl
theorem laidOut : laidOutB Tryz.prog = true := by kernel_rfl

/-- The variables that the rows list. -/
def laid2 : List (String × DataW Unit) := Rows.itemTellsRow.laid

theorem tabIs_of_reads {P : Program} {W : World} {name : String} {k : IntKind} {zs : List Int} {g : Nat} {t e : TypeId} {n : Nat}
    (hg : P.globalNamed name = some g) (hty : (P.globals[g]?).map (·.type) = some t) (ht : P.underlying t = some (.array n e)) (he : P.underlying e = some (.int k)) (hce : P.cellsOf e = 1) (hct : P.cellsOf t = n)
    (h : VarReads P W name (tabData k zs)) : TabIs P W name k zs := by
  obtain ⟨g', t', cs, fuel, p, hg', ht', hvar, hd⟩ := h
  obtain rfl := Option.some.inj (hg.symm.trans hg')
  obtain rfl := Option.some.inj (hty.symm.trans ht')
  unfold TabIs
  rw [hvar, ← cells_of_tab ht he hce hct hd]

theorem pow_eq : (Rows.laid_internal_strconv_uint64pow10 : DataW Unit) = tabData .u64 pow10Tab := by kernel_rfl
theorem alph_eq : (Rows.laid_scullery_bare_alphabet : DataW Unit) = tabData .u8 (alphL.map fun c => (c.toNat : Int)) := by kernel_rfl

set_option maxRecDepth 100000 in
theorem pow_of_laid {W : World} (hL0 : laidMetH Tryz.prog laid2 W) : Pow W := by
  rw [MakeChecks.laidMetH_plain _ _ _ (by kernel_rfl)] at hL0
  exact tabIs_of_reads (g := 3) (t := 218) (e := 199) (n := 20) (by kernel_rfl) (by kernel_rfl) Tryz.underlying218 Tryz.underlying199 (by kernel_rfl) (by kernel_rfl)
    (pow_eq ▸ Lib.laidMet.reads hL0 (.tail _ (.tail _ (.head _))))

theorem alp_tab (j : Nat) (h : j < 64) : (alphL.map fun c => (c.toNat : Int)).getD j 0 = ((alp j).toNat : Int) := by
  have : ∀ i : Fin 64, (alphL.map fun c => (c.toNat : Int)).getD i.val 0 = ((alp i.val).toNat : Int) := by decide +kernel
  exact this ⟨j, h⟩

set_option maxRecDepth 100000 in
theorem alph_of_laid {W : World} (hL0 : laidMetH Tryz.prog laid2 W) : Alph W := by
  rw [MakeChecks.laidMetH_plain _ _ _ (by kernel_rfl)] at hL0
  have h := tabIs_of_reads (g := 0) (t := 206) (e := 5) (n := 64) (by kernel_rfl) (by kernel_rfl) Tryz.underlying206 Tryz.underlying5 (by kernel_rfl) (by kernel_rfl)
    (alph_eq ▸ Lib.laidMet.reads hL0 (.tail _ (.tail _ (.tail _ (.tail _ (.head _))))))
  intro j hj
  have := TabIs.cell h (g := 0) (by kernel_rfl) j (by simpa [alphL] using hj)
  rw [alp_tab j hj] at this
  exact this

set_option maxRecDepth 100000 in
theorem laid2_met (os : Os) (args : Array Value) : laidMetH Tryz.prog laid2 ((World.laidAll Tryz.prog os laid2).forCall (fun _ _ => 0) ⟨#[], args, []⟩).memory := by
  rw [MakeChecks.laidMetH_plain _ _ _ (by kernel_rfl)]
  exact laidMet_laidAll _ (by kernel_rfl) (by kernel_rfl)

section
variable {H : Type} {enc : TypeId × Value → H} {W : World} {base : Nat}

set_option maxRecDepth 100000 in
theorem open_bare {v : Value} {d : DataW H} {p : List MemPlace} (hv : Value.okWide Tryz.prog W .any base 23 v) (h : DataW.Trod enc Tryz.prog W 0 (fun _ => true) true 23 v d p) :
    ∃ (k n : Int) (s : ByteArray), v = .agg #[.int .i64 k, .int .i64 n, .string s] ∧ (-9223372036854775808 ≤ k ∧ k ≤ 9223372036854775807) ∧ (-9223372036854775808 ≤ n ∧ n ≤ 9223372036854775807) ∧ s.size ≤ maxLen := by
  obtain ⟨v0, v1, v2, y0, y1, y2, n, rfl, _, _, h0, h1, h2⟩ := Joins.open_agg3 Tryz.underlying23 (by kernel_rfl) (by kernel_rfl) hv h
  obtain ⟨a, e0, _, w0⟩ := DataW.trod_int Tryz.underlying3 h0
  obtain ⟨b, e1, _, w1⟩ := DataW.trod_int Tryz.underlying2 h1
  obtain ⟨s, e2, _, w2⟩ := DataW.trod_string Tryz.underlying9 h2
  simp only [List.cons.injEq, and_true] at e0 e1 e2
  subst e0 e1 e2
  refine ⟨a, b, s, rfl, ?_, ?_, w2⟩
  · simpa [Lit.wf, IntKind.min, IntKind.max, IntKind.signed, IntKind.bits] using w0
  · simpa [Lit.wf, IntKind.min, IntKind.max, IntKind.signed, IntKind.bits] using w1
end

end Go.Proofs.YtcjnigmklijjiaaGreatDoor

namespace Go.Proofs.YtcjnigmklijjiaaGreatDoor
open Go.ChangeShapes Go.WideShapes Go.ChangeAt Go.RowKit Go.Shelf Go.Lib

theorem cells_string : Tryz.prog.cellsOf 9 = 1 := by kernel_rfl
theorem cells_int : Tryz.prog.cellsOf 3 = 1 := by kernel_rfl
theorem cells_int64 : Tryz.prog.cellsOf 2 = 1 := by kernel_rfl
theorem cells_bare : Tryz.prog.cellsOf 23 = 3 := by kernel_rfl
theorem cells_param : Tryz.prog.cellsOf 99 = 4 := by kernel_rfl
theorem cells_params : Tryz.prog.cellsOf 24 = 1 := by kernel_rfl
theorem cells_item : Tryz.prog.cellsOf 26 = 4 := by kernel_rfl
theorem bytes_param : Tryz.prog.bytesOf 99 = 48 := by kernel_rfl

def bareD (H : Type) (k n : Int) (s : List UInt8) : DataW H := .agg [.lit (.int .i64 k), .lit (.int .i64 n), .lit (.string s)]
def paramD (H : Type) (p : Prm) : DataW H := .agg [.lit (.string p.key), bareD H p.k p.n p.s]

/-- What the form's reach says of parameters that are handed over. -/
def Within (ps : List Prm) : Prop := ps.length * 48 ≤ reachBytes ∧ ∀ p ∈ ps, p.key.length ≤ reachBytes ∧ p.s.length ≤ reachBytes ∧ -9223372036854775808 ≤ p.n ∧ p.n ≤ 9223372036854775807

theorem inP_of {ps : List Prm} (h : Within ps) : InP ps := by
  obtain ⟨h1, h2⟩ := h
  unfold reachBytes at h1 h2
  refine ⟨by omega, fun p hp => ?_⟩
  obtain ⟨a, b, c, d⟩ := h2 p hp
  exact ⟨by omega, by omega, c, d⟩

section
variable {H : Type} {enc : TypeId × Value → H} {W : World} {base : Nat} {spare : Nat → Bool} {held : Bool}

theorem i64_in {n : Int} (h : (Lit.int .i64 n).wf = true) : -9223372036854775808 ≤ n ∧ n ≤ 9223372036854775807 := by
  simpa [Lit.wf, IntKind.min, IntKind.max, IntKind.signed, IntKind.bits] using h

theorem bare_trod {fuel : Nat} {cs : List Value} {x : DataW H × List MemPlace} (hl : cs.length = 3) (h : DataW.trod enc Tryz.prog W base spare held fuel 23 cs = some x) :
    ∃ (k n : Int) (s : List UInt8), cs = [.int .i64 k, .int .i64 n, .string (strB s)] ∧ x.1 = bareD H k n s ∧ -9223372036854775808 ≤ n ∧ n ≤ 9223372036854775807 := by
  match cs, hl with
  | [c0, c1, c2], _ =>
    obtain ⟨y0, y1, y2, m, rfl, _, h0, h1, h2⟩ := Go.Deep.trod_struct3 Tryz.underlying23 h
    simp only [cells_string, cells_int, cells_int64, List.drop_zero, List.drop_succ_cons, List.take_succ_cons, List.take_zero] at h0 h1 h2
    obtain ⟨a, e0, rfl, w0⟩ := DataW.trod_int Tryz.underlying3 h0
    obtain ⟨b, e1, rfl, w1⟩ := DataW.trod_int Tryz.underlying2 h1
    obtain ⟨s, e2, rfl, _⟩ := DataW.trod_string Tryz.underlying9 h2
    simp only [List.cons.injEq, and_true] at e0 e1 e2
    subst e0 e1 e2
    exact ⟨a, b, s.data.toList, by rw [strB_of], rfl, (i64_in w1).1, (i64_in w1).2⟩

theorem param_trod {fuel : Nat} {cs : List Value} {x : DataW H × List MemPlace} (hl : cs.length = 4) (h : DataW.trod enc Tryz.prog W base spare held fuel 99 cs = some x) :
    ∃ p : Prm, cs = cellsP p ∧ x.1 = paramD H p ∧ -9223372036854775808 ≤ p.n ∧ p.n ≤ 9223372036854775807 := by
  match cs, hl with
  | [c0, c1, c2, c3], _ =>
    obtain ⟨y0, y1, m, rfl, _, h0, h1⟩ := trod_struct2 Tryz.underlying99 h
    simp only [cells_string, cells_bare, List.drop_zero, List.drop_succ_cons, List.take_succ_cons, List.take_zero] at h0 h1
    obtain ⟨K, e0, rfl, _⟩ := DataW.trod_string Tryz.underlying9 h0
    obtain ⟨k, n, s, e1, ex, hn⟩ := bare_trod rfl h1
    simp only [List.cons.injEq, and_true] at e0 e1
    obtain ⟨rfl, rfl, rfl⟩ := e1
    subst e0
    exact ⟨⟨K.data.toList, k, n, s⟩, by rw [cellsP, strB_of], by rw [ex]; rfl, hn⟩

theorem weights_all_mem {P : Program} {e : TypeId} : ∀ {ds : List (DataW H)} {d : DataW H}, d ∈ ds → ∀ n ∈ d.weights P e, n ∈ DataW.weightsAll P e ds
  | d0 :: ds, d, hd, n, hn => by
    rw [DataW.weightsAll, List.mem_append]
    rcases List.mem_cons.1 hd with rfl | hd
    · exact .inl hn
    · exact .inr (weights_all_mem hd n hn)

theorem bare_weights (k n : Int) (s : List UInt8) : (bareD H k n s).weights Tryz.prog 23 = [s.length] := by
  rw [bareD, DataW.weights, Tryz.underlying23]
  rfl
theorem param_weights (p : Prm) : (paramD H p).weights Tryz.prog 99 = [p.key.length, p.s.length] := by
  rw [paramD, DataW.weights, Tryz.underlying99]
  show DataW.weightsEach Tryz.prog [9, 23] _ = _
  simp only [DataW.weightsEach, bare_weights, DataW.weights, List.append_nil, List.singleton_append]

theorem cells_at {w : World} {b : Nat} {a : Addr} {n : Nat} {cs : List Value} (h : w.cells? b a n = some cs) (i : Nat) (hi : i < n) : w.cell? (a.add i) = cs[i]? := (World.cells?_some h).2.2 i hi

theorem params_trod {fuel : Nat} {cs : List Value} {x : DataW H × List MemPlace} (h : DataW.trod enc Tryz.prog W base spare held fuel 24 cs = some x) (hz : ∀ n ∈ x.1.weights Tryz.prog 24, n ≤ reachBytes) :
    ∃ (v : Value) (ps : List Prm), cs = [v] ∧ Prms W v ps ∧ Within ps := by
  rcases Go.Deep.open_slice Tryz.underlying24 h with ⟨rfl, _⟩ | ⟨a, len, cap, m, n, D, Pl, rfl, _, hl, hm, hmm, rfl, hi⟩
  · exact ⟨_, [], rfl, ⟨none, 0, rfl, .inl rfl⟩, by simp [reachBytes], fun p hp => by cases hp⟩
  · rw [cells_param] at hi
    have hlm : len ≤ m := by rw [hmm]; split <;> omega
    have hpar : ∀ i, i < m → ∃ p : Prm, D i = paramD H p ∧ (-9223372036854775808 ≤ p.n ∧ p.n ≤ 9223372036854775807) ∧ ∀ j, j < 4 → W.cell? (a.add (i * 4 + j)) = (cellsP p)[j]? := by
      intro i him
      obtain ⟨cs', hc, ht⟩ := hi i him
      obtain ⟨p, rfl, hx, hn⟩ := param_trod (World.cells?_some hc).2.1 ht
      refine ⟨p, hx, hn, fun j hj => ?_⟩
      rw [← Go.Deep.add_add]
      exact cells_at hc j hj
    have hex : ∃ ps : List Prm, ps.length = len ∧ ∀ (i : Nat) (p : Prm), ps[i]? = some p → D i = paramD H p ∧ (-9223372036854775808 ≤ p.n ∧ p.n ≤ 9223372036854775807) ∧ ∀ j, j < 4 → W.cell? (a.add (i * 4 + j)) = (cellsP p)[j]? := by
      have hall : ∀ l, l ≤ m → ∃ ps : List Prm, ps.length = l ∧ ∀ (i : Nat) (p : Prm), ps[i]? = some p → D i = paramD H p ∧ (-9223372036854775808 ≤ p.n ∧ p.n ≤ 9223372036854775807) ∧ ∀ j, j < 4 → W.cell? (a.add (i * 4 + j)) = (cellsP p)[j]? := by
        intro l
        induction l with
        | zero => exact fun _ => ⟨[], rfl, fun i p h => by simp at h⟩
        | succ l ih =>
          intro hl
          obtain ⟨ps, hlen, hps⟩ := ih (by omega)
          obtain ⟨p, hp⟩ := hpar l (by omega)
          refine ⟨ps ++ [p], by simp [hlen], fun i q hq => ?_⟩
          rw [List.getElem?_append] at hq
          split at hq
          · exact hps i q hq
          · rename_i hge
            have hil : i = l := by
              have := (List.getElem?_eq_some_iff.1 hq).1
              simp only [List.length_singleton] at this
              omega
            subst hil
            rw [hlen, Nat.sub_self] at hq
            obtain rfl := Option.some.inj hq
            exact hp
      exact hall len hlm
    obtain ⟨ps, rfl, hps⟩ := hex
    have hw : (ps.length + (m - ps.length)) * 48 :: (DataW.weightsAll Tryz.prog 99 ((List.range ps.length).map D) ++ DataW.weightsAll Tryz.prog 99 ((List.range (m - ps.length)).map fun j => D (ps.length + j))) = (DataW.slice ((List.range ps.length).map D) ((List.range (m - ps.length)).map fun j => D (ps.length + j))).weights Tryz.prog 24 := by
      rw [DataW.weights, Tryz.underlying24]
      simp only [List.length_map, List.length_range, bytes_param]
    simp only [← hw] at hz
    refine ⟨_, ps, rfl, ⟨some a, cap, rfl, ?_⟩, ?_, ?_⟩
    · cases ps with
      | nil => exact .inl rfl
      | cons p0 ps =>
        obtain ⟨_, _, hc0⟩ := hps 0 p0 rfl
        obtain ⟨b, off, spot⟩ := a
        have hspot : spot = none := by
          have := hc0 0 (by omega)
          rw [show (cellsP p0)[0]? = some (.string (strB p0.key)) from rfl] at this
          simpa [Addr.add] using World.cell?_spot this
        subst hspot
        refine .inr ⟨b, off, rfl, fun j u hj => ?_⟩
        have hjl : j < (rowP (p0 :: ps)).length := (List.getElem?_eq_some_iff.1 hj).1
        rw [rowP_len] at hjl
        obtain ⟨p, hp⟩ : ∃ p, (p0 :: ps)[j / 4]? = some p := ⟨_, List.getElem?_eq_getElem (by omega)⟩
        obtain ⟨_, _, hc⟩ := hps (j / 4) p hp
        have h4 : j % 4 < 4 := Nat.mod_lt _ (by omega)
        have hcell := hc (j % 4) h4
        rw [show j / 4 * 4 + j % 4 = j by omega, Go.WideShapes.add_plain] at hcell
        rw [hcell]
        obtain ⟨x0, x1, x2, x3⟩ := rowP_at (p0 :: ps) (j / 4) p hp
        have hj4 : j = j / 4 * 4 + j % 4 := by omega
        rw [hj4] at hj
        rcases (show j % 4 = 0 ∨ j % 4 = 1 ∨ j % 4 = 2 ∨ j % 4 = 3 by omega) with e | e | e | e
        · rw [e] at hj ⊢; exact x0.symm.trans hj
        · rw [e] at hj ⊢; exact x1.symm.trans hj
        · rw [e] at hj ⊢; exact x2.symm.trans hj
        · rw [e] at hj ⊢; exact x3.symm.trans hj
    · have := hz _ (List.mem_cons_self ..)
      omega
    · intro p hp
      obtain ⟨i, hi'⟩ := List.getElem?_of_mem hp
      obtain ⟨hD, hn, _⟩ := hps i p hi'
      have hil : i < ps.length := (List.getElem?_eq_some_iff.1 hi').1
      have hmem : D i ∈ (List.range ps.length).map D := List.mem_map.2 ⟨i, List.mem_range.2 hil, rfl⟩
      have hin := fun z hz' => hz z (List.mem_cons_of_mem _ (List.mem_append.2 (.inl (weights_all_mem hmem z hz'))))
      rw [hD, param_weights] at hin
      exact ⟨hin _ (by simp), hin _ (by simp), hn⟩

set_option maxRecDepth 100000 in
theorem open_item {v : Value} {d : DataW H} {p : List MemPlace} (hv : Value.okWide Tryz.prog W .any base 26 v) (h : DataW.Trod enc Tryz.prog W 0 (fun _ => true) true 26 v d p) (hz : ∀ n ∈ d.weights Tryz.prog 26, n ≤ reachBytes) :
    ∃ (k n : Int) (s : List UInt8) (u : Value) (ps : List Prm), v = .agg #[.int .i64 k, .int .i64 n, .string (strB s), u] ∧ Prms W u ps ∧ Within ps ∧ -9223372036854775808 ≤ n ∧ n ≤ 9223372036854775807 ∧ s.length ≤ reachBytes := by
  obtain ⟨cs, rfl, hsz⟩ := okWide_struct Tryz.underlying26 hv
  obtain ⟨l⟩ := cs
  match l, hsz.trans cells_item with
  | [c0, c1, c2, c3], _ =>
    obtain ⟨fuel, hf⟩ := h
    obtain ⟨y0, y1, m, hx, _, h0, h1⟩ := trod_struct2 Tryz.underlying26 hf
    simp only [Value.cells, cells_bare, cells_params, List.drop_zero, List.drop_succ_cons, List.take_succ_cons, List.take_zero] at h0 h1
    obtain ⟨k, n, s, e0, ex, hn⟩ := bare_trod rfl h0
    rw [Prod.mk.injEq] at hx
    obtain ⟨rfl, rfl⟩ := hx
    have hw : (DataW.agg [y0.1, y1.1]).weights Tryz.prog 26 = y0.1.weights Tryz.prog 23 ++ (y1.1.weights Tryz.prog 24 ++ []) := by
      rw [DataW.weights, Tryz.underlying26]
      rfl
    rw [hw, List.append_nil] at hz
    obtain ⟨u, ps, e1, hp, hwi⟩ := params_trod h1 (fun z hz' => hz z (List.mem_append.2 (.inr hz')))
    have hs := hz s.length (List.mem_append.2 (.inl (by rw [ex, bare_weights]; simp)))
    simp only [List.cons.injEq, and_true] at e0 e1
    obtain ⟨rfl, rfl, rfl⟩ := e0
    subst e1
    exact ⟨k, n, s, _, ps, rfl, hp, hwi, hn.1, hn.2, hs⟩
set_option maxRecDepth 100000 in
theorem open_param {v : Value} {d : DataW H} {p : List MemPlace} (hv : Value.okWide Tryz.prog W .any base 99 v) (h : DataW.Trod enc Tryz.prog W 0 (fun _ => true) true 99 v d p) (hz : ∀ n ∈ d.weights Tryz.prog 99, n ≤ reachBytes) :
    ∃ q : Prm, v = .agg #[.string (strB q.key), .int .i64 q.k, .int .i64 q.n, .string (strB q.s)] ∧ (-9223372036854775808 ≤ q.n ∧ q.n ≤ 9223372036854775807) ∧ q.key.length ≤ reachBytes ∧ q.s.length ≤ reachBytes := by
  obtain ⟨cs, rfl, hsz⟩ := okWide_struct Tryz.underlying99 hv
  obtain ⟨l⟩ := cs
  obtain ⟨fuel, hf⟩ := h
  obtain ⟨q, hc, hx, hn⟩ := param_trod (by simpa [Value.cells] using hsz.trans cells_param) hf
  have hd : d = paramD H q := hx
  rw [hd, param_weights] at hz
  refine ⟨q, ?_, hn, hz _ (by simp), hz _ (by simp)⟩
  have hl : l = cellsP q := by simpa [Value.cells] using hc
  rw [hl]; rfl
set_option maxRecDepth 100000 in
theorem item_trod {fuel : Nat} {cs : List Value} {x : DataW H × List MemPlace} (hl : cs.length = 4) (h : DataW.trod enc Tryz.prog W base spare held fuel 26 cs = some x) (hz : ∀ n ∈ x.1.weights Tryz.prog 26, n ≤ reachBytes) :
    ∃ (k n : Int) (s : List UInt8) (u : Value) (ps : List Prm), cs = [.int .i64 k, .int .i64 n, .string (strB s), u] ∧ Prms W u ps ∧ Within ps ∧ -9223372036854775808 ≤ n ∧ n ≤ 9223372036854775807 := by
  match cs, hl with
  | [c0, c1, c2, c3], _ =>
    obtain ⟨y0, y1, m, rfl, _, h0, h1⟩ := trod_struct2 Tryz.underlying26 h
    simp only [cells_bare, cells_params, List.drop_zero, List.drop_succ_cons, List.take_succ_cons, List.take_zero] at h0 h1
    obtain ⟨k, n, s, e0, ex, hn⟩ := bare_trod rfl h0
    have hw : (DataW.agg [y0.1, y1.1]).weights Tryz.prog 26 = y0.1.weights Tryz.prog 23 ++ (y1.1.weights Tryz.prog 24 ++ []) := by
      rw [DataW.weights, Tryz.underlying26]
      rfl
    simp only [hw, List.append_nil] at hz
    obtain ⟨u, ps, e1, hp, hwi⟩ := params_trod h1 (fun z hz' => hz z (List.mem_append.2 (.inr hz')))
    simp only [List.cons.injEq, and_true] at e0 e1
    obtain ⟨rfl, rfl, rfl⟩ := e0
    subst e1
    exact ⟨k, n, s, _, ps, rfl, hp, hwi, hn.1, hn.2⟩

set_option maxRecDepth 100000 in
theorem open_items2 {v : Value} {d : DataW H} {p : List MemPlace} (hv : Value.okWide Tryz.prog W .any base 27 v) (h : DataW.Trod enc Tryz.prog W 0 (fun _ => true) true 27 v d p) (hz : ∀ n ∈ d.weights Tryz.prog 27, n ≤ reachBytes) :
    ∃ (k n : Int) (s : List UInt8) (u : Value) (ps : List Prm) (k' n' : Int) (s' : List UInt8) (u' : Value) (ps' : List Prm), v = .agg #[.int .i64 k, .int .i64 n, .string (strB s), u, .int .i64 k', .int .i64 n', .string (strB s'), u'] ∧ (Prms W u ps ∧ Within ps ∧ -9223372036854775808 ≤ n ∧ n ≤ 9223372036854775807) ∧ Prms W u' ps' ∧ Within ps' := by
  obtain ⟨cs, rfl, hsz, _⟩ : ∃ cs, v = .agg cs ∧ cs.size = Tryz.prog.cellsOf 27 ∧ Row.okWide Tryz.prog W .any base 27 cs := by
    simpa [Value.okWide, Tryz.underlying27] using hv
  obtain ⟨l⟩ := cs
  have h8 : Tryz.prog.cellsOf 27 = 8 := by kernel_rfl
  match l, hsz.trans h8 with
  | [c0, c1, c2, c3, c4, c5, c6, c7], _ =>
    obtain ⟨fuel, hf⟩ := h
    obtain ⟨xs, m, _, hx, _, hn, hel⟩ := DataW.trod_array Tryz.underlying27 hf
    match xs, hn, hel, hx with
    | [y0, y1], _, hel, hx =>
      have e0 := hel 0 (by omega)
      have e1 := hel 1 (by omega)
      rw [cells_item] at e0 e1
      simp only [Value.cells, Nat.zero_mul, Nat.one_mul, List.drop_zero, List.drop_succ_cons, List.take_succ_cons, List.take_zero, List.getElem?_cons_zero, List.getElem?_cons_succ] at e0 e1
      rw [Prod.mk.injEq] at hx
      have hd : d = .agg [y0.1, y1.1] := hx.1
      have hw : (DataW.agg [y0.1, y1.1]).weights Tryz.prog 27 = y0.1.weights Tryz.prog 26 ++ (y1.1.weights Tryz.prog 26 ++ []) := by
        rw [DataW.weights, Tryz.underlying27]
        rfl
      rw [hd, hw, List.append_nil] at hz
      obtain ⟨k, n, s, u, ps, q0, a0, a1, a2⟩ := item_trod rfl e0 (fun z hz' => hz z (List.mem_append.2 (.inl hz')))
      obtain ⟨k', n', s', u', ps', q1, b0, b1, _⟩ := item_trod rfl e1 (fun z hz' => hz z (List.mem_append.2 (.inr hz')))
      simp only [List.cons.injEq, and_true] at q0 q1
      obtain ⟨rfl, rfl, rfl, rfl⟩ := q0
      obtain ⟨rfl, rfl, rfl, rfl⟩ := q1
      exact ⟨k, n, s, _, ps, k', n', s', _, ps', rfl, ⟨a0, a1, a2⟩, b0, b1⟩
end

end Go.Proofs.YtcjnigmklijjiaaGreatDoor
