/- Fields and texts as arguments, opened. · Requests, responses and three texts as arguments, opened. -/
import Derived.Test.YthbfcamfapgodaaGreatDoorIF
import Derived.Test.YthbfcamfapgodaaGreatDoorGB
import Derived.Test.YthbfcamfapgodaaGreatDoorGE
import Derived.ProofKit
import Derived.SizedLaws
import Derived.SliceStrings
import Derived.OpenShut
import Derived.Lib.SmallJoins
import Derived.Deep.Slices
import Derived.Deep.Fields
import Derived.ChangeSame
import Derived.Deep.Strs

namespace Go.Proofs.YthbfcamfapgodaaGreatDoor
open Go.ChangeShapes Go.WideShapes Go.ChangeAt Go.RowKit Go.Shelf Go.Lib

theorem cells_string : Tryz.prog.cellsOf 9 = 1 := by kernel_rfl
theorem cells_field : Tryz.prog.cellsOf 70 = 2 := by kernel_rfl
theorem bytes_field : Tryz.prog.bytesOf 70 = 32 := by kernel_rfl

section
variable {H : Type} {enc : TypeId × Value → H} {W : World} {base : Nat} {spare : Nat → Bool} {held : Bool}

def fieldD (H : Type) (p : Fld) : DataW H := .agg [.lit (.string p.1), .lit (.string p.2)]

theorem field_trod {fuel : Nat} {cs : List Value} {x : DataW H × List MemPlace} (hl : cs.length = 2) (h : DataW.trod enc Tryz.prog W base spare held fuel 70 cs = some x) :
    ∃ p : Fld, cs = cellsF p ∧ x.1 = fieldD H p := by
  match cs, hl with
  | [c0, c1], _ =>
    obtain ⟨y0, y1, m, rfl, _, h0, h1⟩ := trod_struct2 Tryz.underlying70 h
    simp only [cells_string, List.drop_zero, List.drop_succ_cons, List.take_succ_cons, List.take_zero] at h0 h1
    obtain ⟨K, e0, rfl, _⟩ := DataW.trod_string Tryz.underlying9 h0
    obtain ⟨V, e1, rfl, _⟩ := DataW.trod_string Tryz.underlying9 h1
    simp only [List.cons.injEq, and_true] at e0 e1
    subst e0 e1
    exact ⟨(K.data.toList, V.data.toList), by rw [cellsF, strB_of, strB_of], rfl⟩

theorem weights_all_mem {P : Program} {e : TypeId} : ∀ {ds : List (DataW H)} {d : DataW H}, d ∈ ds → ∀ n ∈ d.weights P e, n ∈ DataW.weightsAll P e ds
  | d0 :: ds, d, hd, n, hn => by
    rewrite [DataW.weightsAll, List.mem_append]
    rcases List.mem_cons.1 hd with rfl | hd
    · exact .inl hn
    · exact .inr (weights_all_mem hd n hn)

theorem field_weights (p : Fld) : (fieldD H p).weights Tryz.prog 70 = [p.1.length, p.2.length] := by
  rewrite [fieldD, DataW.weights, Tryz.underlying70]
  show DataW.weightsEach Tryz.prog [9, 9] _ = _
  simp only [DataW.weightsEach, DataW.weights, List.append_nil, List.singleton_append]

theorem cells_at {w : World} {b : Nat} {a : Addr} {n : Nat} {cs : List Value} (h : w.cells? b a n = some cs) (i : Nat) (hi : i < n) : w.cell? (a.add i) = cs[i]? := (World.cells?_some h).2.2 i hi

theorem flds_trod {fuel : Nat} {cs : List Value} {x : DataW H × List MemPlace} (h : DataW.trod enc Tryz.prog W base spare held fuel 23 cs = some x) (hz : ∀ n ∈ x.1.weights Tryz.prog 23, n ≤ reachBytes) :
    ∃ (v : Value) (fs : List Fld), cs = [v] ∧ Flds 0 W v fs ∧ FldsIn fs := by
  rcases Go.Deep.open_slice Tryz.underlying23 h with ⟨rfl, _⟩ | ⟨a, len, cap, m, n, D, Pl, rfl, _, hl, hm, hmm, rfl, hi⟩
  · exact ⟨_, [], rfl, ⟨none, 0, rfl, .inl rfl⟩, by simp, fun p hp => by cases hp⟩
  · rw [cells_field] at hi
    have hlm : len ≤ m := by rewrite [hmm]; split <;> omega
    have hpar : ∀ i, i < m → ∃ p : Fld, D i = fieldD H p ∧ ∀ j, j < 2 → W.cell? (a.add (i * 2 + j)) = (cellsF p)[j]? := by
      intro i him
      obtain ⟨cs', hc, ht⟩ := hi i him
      obtain ⟨p, rfl, hx⟩ := field_trod (World.cells?_some hc).2.1 ht
      refine ⟨p, hx, fun j hj => ?_⟩
      rewrite [← Go.Deep.add_add]
      exact cells_at hc j hj
    have hex : ∃ ps : List Fld, ps.length = len ∧ ∀ (i : Nat) (p : Fld), ps[i]? = some p → D i = fieldD H p ∧ ∀ j, j < 2 → W.cell? (a.add (i * 2 + j)) = (cellsF p)[j]? := by
      have hall : ∀ l, l ≤ m → ∃ ps : List Fld, ps.length = l ∧ ∀ (i : Nat) (p : Fld), ps[i]? = some p → D i = fieldD H p ∧ ∀ j, j < 2 → W.cell? (a.add (i * 2 + j)) = (cellsF p)[j]? := by
        intro l
        induction l with
        | zero => exact fun _ => ⟨[], rfl, fun i p h => by simp at h⟩
        | succ l ih =>
          intro hl
          obtain ⟨ps, hlen, hps⟩ := ih (by omega)
          obtain ⟨p, hp⟩ := hpar l (by omega)
          refine ⟨ps ++ [p], by simp [hlen], fun i q hq => ?_⟩
          rw [List.getElem?_append] at hq
          split at hq
          · exact hps i q hq
          · rename_i hge
            have hil : i = l := by
              have := (List.getElem?_eq_some_iff.1 hq).1
              simp only [List.length_singleton] at this
              omega
            subst hil
            rw [hlen, Nat.sub_self] at hq
            obtain rfl := Option.some.inj hq
            exact hp
      exact hall len hlm
    obtain ⟨ps, rfl, hps⟩ := hex
    have hw : (ps.length + (m - ps.length)) * 32 :: (DataW.weightsAll Tryz.prog 70 ((List.range ps.length).map D) ++ DataW.weightsAll Tryz.prog 70 ((List.range (m - ps.length)).map fun j => D (ps.length + j))) = (DataW.slice ((List.range ps.length).map D) ((List.range (m - ps.length)).map fun j => D (ps.length + j))).weights Tryz.prog 23 := by
      rewrite [DataW.weights, Tryz.underlying23]
      simp only [List.length_map, List.length_range, bytes_field]
    simp only [← hw] at hz
    refine ⟨_, ps, rfl, ⟨some a, cap, rfl, ?_⟩, ?_, ?_⟩
    · cases ps with
      | nil => exact .inl rfl
      | cons p0 ps =>
        obtain ⟨_, hc0⟩ := hps 0 p0 rfl
        obtain ⟨b, off, spot⟩ := a
        have hspot : spot = none := by
          have := hc0 0 (by omega)
          rw [show (cellsF p0)[0]? = some (.string (strB p0.1)) from rfl] at this
          simpa [Addr.add] using World.cell?_spot this
        subst hspot
        have hlt : b < W.heap.size := by
          have := hc0 0 (by omega)
          rw [show (cellsF p0)[0]? = some (.string (strB p0.1)) from rfl, Go.WideShapes.add_plain] at this
          exact lt_of_cell this
        refine .inr ⟨b, off, rfl, Nat.zero_le _, hlt, fun j p hj => ?_⟩
        obtain ⟨_, hc⟩ := hps j p hj
        have x0 := hc 0 (by omega)
        have x1 := hc 1 (by omega)
        rw [Go.WideShapes.add_plain] at x0 x1
        exact ⟨x0, x1⟩
    · have := hz _ (List.mem_cons_self ..)
      unfold reachBytes at this
      omega
    · intro p hp
      obtain ⟨i, hi'⟩ := List.getElem?_of_mem hp
      obtain ⟨hD, _⟩ := hps i p hi'
      have hmem : fieldD H p ∈ (List.range ps.length).map D := by
        rewrite [← hD]
        exact List.mem_map.2 ⟨i, List.mem_range.2 (List.getElem?_eq_some_iff.1 hi').1, rfl⟩
      have hin : ∀ n ∈ (fieldD H p).weights Tryz.prog 70, n ≤ reachBytes := fun n hn => hz n (List.mem_cons_of_mem _ (List.mem_append.2 (.inl (weights_all_mem hmem n hn))))
      rw [field_weights] at hin
      have h1 := hin p.1.length (by simp)
      have h2 := hin p.2.length (by simp)
      unfold reachBytes at h1 h2
      omega

set_option maxRecDepth 100000 in
theorem open_flds {v : Value} {d : DataW H} {p : List MemPlace} (hv : Value.okWide Tryz.prog W .any base 23 v) (h : DataW.Trod enc Tryz.prog W 0 (fun _ => true) true 23 v d p) (hz : ∀ n ∈ d.weights Tryz.prog 23, n ≤ reachBytes) :
    ∃ fs : List Fld, Flds 0 W v fs ∧ FldsIn fs := by
  obtain ⟨a0, len, cap, rfl⟩ := okWide_slice Tryz.underlying23 hv
  obtain ⟨fuel, hf⟩ := h
  obtain ⟨v', fs, e, hG, hl⟩ := flds_trod hf hz
  have e : Value.slice a0 len cap = v' := by simpa [Value.cells] using e
  subst e
  exact ⟨fs, hG, hl⟩

end

end Go.Proofs.YthbfcamfapgodaaGreatDoor

namespace Go.Proofs.YthbfcamfapgodaaGreatDoor
open Go.ChangeShapes Go.WideShapes Go.ChangeAt Go.RowKit Go.Shelf Go.Lib

theorem cells_u8 : Tryz.prog.cellsOf 5 = 1 := by kernel_rfl
theorem bytes_u8 : Tryz.prog.bytesOf 5 = 1 := by kernel_rfl
theorem cells_intM : Tryz.prog.cellsOf 3 = 1 := by kernel_rfl
theorem cells_fsl : Tryz.prog.cellsOf 23 = 1 := by kernel_rfl
theorem cells_bsl : Tryz.prog.cellsOf 24 = 1 := by kernel_rfl
theorem cells_reqM : Tryz.prog.cellsOf 26 = 4 := by kernel_rfl
theorem cells_rspM : Tryz.prog.cellsOf 31 = 3 := by kernel_rfl

section
variable {H : Type} {enc : TypeId × Value → H} {W : World} {base : Nat} {spare : Nat → Bool} {held : Bool}

theorem byte_of {x : Int} (h : (Lit.int .u8 x).wf = true) : ∃ c : UInt8, (Value.int .u8 x) = bytV c := by
  have h2 : 0 ≤ x ∧ x ≤ 255 := by simpa [Lit.wf, IntKind.min, IntKind.max, IntKind.signed, IntKind.bits] using h
  refine ⟨UInt8.ofNat x.toNat, ?_⟩
  have : ((UInt8.ofNat x.toNat).toNat : Int) = x := by
    rewrite [UInt8.toNat_ofNat']
    omega
  rw [bytV, this]

theorem byts_trod {fuel : Nat} {cs : List Value} {x : DataW H × List MemPlace} (h : DataW.trod enc Tryz.prog W base spare held fuel 24 cs = some x) (hz : ∀ n ∈ x.1.weights Tryz.prog 24, n ≤ reachBytes) :
    ∃ (v : Value) (bs : List UInt8), cs = [v] ∧ BytF 0 W v bs ∧ bs.length ≤ 140737488355328 := by
  rcases Go.Deep.open_slice Tryz.underlying24 h with ⟨rfl, _⟩ | ⟨a, len, cap, m, n, D, Pl, rfl, _, hl, hm, hmm, rfl, hi⟩
  · exact ⟨_, [], rfl, ⟨none, 0, rfl, .inl rfl⟩, by simp⟩
  · rw [cells_u8] at hi
    have hlm : len ≤ m := by rewrite [hmm]; split <;> omega
    have hpar : ∀ i, i < m → ∃ c : UInt8, W.cell? (a.add i) = some (bytV c) := by
      intro i him
      obtain ⟨cs', hc, ht⟩ := hi i him
      obtain ⟨x0, q0, _, w0⟩ := DataW.trod_int Tryz.underlying5 ht
      obtain ⟨c, hcv⟩ := byte_of w0
      have := cells_at hc 0 (by omega)
      rw [q0, Nat.mul_one, Go.Deep.add_add, Nat.add_zero] at this
      exact ⟨c, by rw [this, ← hcv] <;> rfl⟩
    have hex : ∃ ps : List UInt8, ps.length = len ∧ ∀ (i : Nat) (c : UInt8), ps[i]? = some c → W.cell? (a.add i) = some (bytV c) := by
      have hall : ∀ l, l ≤ m → ∃ ps : List UInt8, ps.length = l ∧ ∀ (i : Nat) (c : UInt8), ps[i]? = some c → W.cell? (a.add i) = some (bytV c) := by
        intro l
        induction l with
        | zero => exact fun _ => ⟨[], rfl, fun i p h => by simp at h⟩
        | succ l ih =>
          intro hl
          obtain ⟨ps, hlen, hps⟩ := ih (by omega)
          obtain ⟨p, hp⟩ := hpar l (by omega)
          refine ⟨ps ++ [p], by simp [hlen], fun i q hq => ?_⟩
          rw [List.getElem?_append] at hq
          split at hq
          · exact hps i q hq
          · rename_i hge
            have hil : i = l := by
              have := (List.getElem?_eq_some_iff.1 hq).1
              simp only [List.length_singleton] at this
              omega
            subst hil
            rw [hlen, Nat.sub_self] at hq
            obtain rfl := Option.some.inj hq
            exact hp
      exact hall len hlm
    obtain ⟨ps, rfl, hps⟩ := hex
    have hw : (ps.length + (m - ps.length)) * 1 :: (DataW.weightsAll Tryz.prog 5 ((List.range ps.length).map D) ++ DataW.weightsAll Tryz.prog 5 ((List.range (m - ps.length)).map fun j => D (ps.length + j))) = (DataW.slice ((List.range ps.length).map D) ((List.range (m - ps.length)).map fun j => D (ps.length + j))).weights Tryz.prog 24 := by
      rewrite [DataW.weights, Tryz.underlying24]
      simp only [List.length_map, List.length_range, bytes_u8]
    simp only [← hw] at hz
    refine ⟨_, ps, rfl, ⟨some a, cap, rfl, ?_⟩, ?_⟩
    · cases ps with
      | nil => exact .inl rfl
      | cons p0 ps =>
        obtain ⟨b, off, spot⟩ := a
        have hc0 := hps 0 p0 rfl
        have hspot : spot = none := by simpa [Addr.add] using World.cell?_spot hc0
        subst hspot
        rw [Go.WideShapes.add_plain] at hc0
        refine .inr ⟨b, off, rfl, Nat.zero_le _, lt_of_cell hc0, fun j p hj => ?_⟩
        have := hps j p hj
        rw [Go.WideShapes.add_plain] at this
        exact this
    · have := hz _ (List.mem_cons_self ..)
      unfold reachBytes at this
      omega

theorem str_weight (s : ByteArray) : (DataW.lit (.string s.data.toList) : DataW H).weights Tryz.prog 9 = [s.data.toList.length] := by
  rw [DataW.weights]

set_option maxRecDepth 100000 in
theorem open_req {v : Value} {d : DataW H} {p : List MemPlace} (hv : Value.okWide Tryz.prog W .any base 26 v) (h : DataW.Trod enc Tryz.prog W 0 (fun _ => true) true 26 v d p) (hz : ∀ n ∈ d.weights Tryz.prog 26, n ≤ reachBytes) :
    ∃ (q : Rq) (f y : Value), v = .agg #[.string (strB q.m), .string (strB q.t), f, y] ∧ Flds 0 W f q.fs ∧ BytF 0 W y q.b ∧ FldsIn q.fs ∧ q.m.length ≤ 140737488355328 ∧ q.t.length ≤ 140737488355328 ∧ q.b.length ≤ 140737488355328 := by
  obtain ⟨cs, rfl, hsz⟩ := okWide_struct Tryz.underlying26 hv
  obtain ⟨l⟩ := cs
  match l, hsz.trans cells_reqM with
  | [c0, c1, c2, c3], _ =>
    obtain ⟨fuel, hf⟩ := h
    obtain ⟨y0, y1, y2, y3, m, hx, _, h0, h1, h2, h3⟩ := Go.Joins.trod_struct4 Tryz.underlying26 hf
    simp only [Value.cells, cells_string, cells_fsl, cells_bsl, List.drop_zero, List.drop_succ_cons, List.take_succ_cons, List.take_zero] at h0 h1 h2 h3
    rw [Prod.mk.injEq] at hx
    obtain ⟨rfl, rfl⟩ := hx
    have hw : (DataW.agg [y0.1, y1.1, y2.1, y3.1]).weights Tryz.prog 26 = y0.1.weights Tryz.prog 9 ++ (y1.1.weights Tryz.prog 9 ++ (y2.1.weights Tryz.prog 23 ++ (y3.1.weights Tryz.prog 24 ++ []))) := by
      rewrite [DataW.weights, Tryz.underlying26]
      rfl
    rw [hw, List.append_nil] at hz
    obtain ⟨K, e0, rfl, _⟩ := DataW.trod_string Tryz.underlying9 h0
    obtain ⟨T, e1, rfl, _⟩ := DataW.trod_string Tryz.underlying9 h1
    obtain ⟨f, fs, e2, hF, hI⟩ := flds_trod h2 (fun z hz' => hz z (List.mem_append.2 (.inr (List.mem_append.2 (.inr (List.mem_append.2 (.inl hz')))))))
    obtain ⟨y, bs, e3, hY, hB⟩ := byts_trod h3 (fun z hz' => hz z (List.mem_append.2 (.inr (List.mem_append.2 (.inr (List.mem_append.2 (.inr hz')))))))
    have z0 := hz K.data.toList.length (List.mem_append.2 (.inl (by rewrite [str_weight]; exact List.mem_singleton.2 rfl)))
    have z1 := hz T.data.toList.length (List.mem_append.2 (.inr (List.mem_append.2 (.inl (by rewrite [str_weight]; exact List.mem_singleton.2 rfl)))))
    unfold reachBytes at z0 z1
    simp only [List.cons.injEq, and_true] at e0 e1 e2 e3
    subst e0 e1 e2 e3
    refine ⟨⟨K.data.toList, T.data.toList, fs, bs⟩, _, _, ?_, hF, hY, hI, by show K.data.toList.length ≤ _; omega, by show T.data.toList.length ≤ _; omega, hB⟩
    rw [strB_of, strB_of]

set_option maxRecDepth 100000 in
theorem open_rsp {v : Value} {d : DataW H} {p : List MemPlace} (hv : Value.okWide Tryz.prog W .any base 31 v) (h : DataW.Trod enc Tryz.prog W 0 (fun _ => true) true 31 v d p) (hz : ∀ n ∈ d.weights Tryz.prog 31, n ≤ reachBytes) :
    ∃ (q : Rp) (f y : Value), v = .agg #[.int .i64 q.n, f, y] ∧ Flds 0 W f q.fs ∧ BytF 0 W y q.b ∧ FldsIn q.fs ∧ q.b.length ≤ 140737488355328 := by
  obtain ⟨cs, rfl, hsz⟩ := okWide_struct Tryz.underlying31 hv
  obtain ⟨l⟩ := cs
  match l, hsz.trans cells_rspM with
  | [c0, c2, c3], _ =>
    obtain ⟨fuel, hf⟩ := h
    obtain ⟨y0, y2, y3, m, hx, _, h0, h2, h3⟩ := Go.Deep.trod_struct3 Tryz.underlying31 hf
    simp only [Value.cells, cells_intM, cells_fsl, cells_bsl, List.drop_zero, List.drop_succ_cons, List.take_succ_cons, List.take_zero] at h0 h2 h3
    rw [Prod.mk.injEq] at hx
    obtain ⟨rfl, rfl⟩ := hx
    have hw : (DataW.agg [y0.1, y2.1, y3.1]).weights Tryz.prog 31 = y0.1.weights Tryz.prog 3 ++ (y2.1.weights Tryz.prog 23 ++ (y3.1.weights Tryz.prog 24 ++ [])) := by
      rewrite [DataW.weights, Tryz.underlying31]
      rfl
    rw [hw, List.append_nil] at hz
    obtain ⟨n, e0, _, _⟩ := DataW.trod_int Tryz.underlying3 h0
    obtain ⟨f, fs, e2, hF, hI⟩ := flds_trod h2 (fun z hz' => hz z (List.mem_append.2 (.inr (List.mem_append.2 (.inl hz')))))
    obtain ⟨y, bs, e3, hY, hB⟩ := byts_trod h3 (fun z hz' => hz z (List.mem_append.2 (.inr (List.mem_append.2 (.inr hz')))))
    simp only [List.cons.injEq, and_true] at e0 e2 e3
    subst e0 e2 e3
    exact ⟨⟨n, fs, bs⟩, _, _, rfl, hF, hY, hI, hB⟩
end

end Go.Proofs.YthbfcamfapgodaaGreatDoor
