/- The contract of target.Percent. -/
import Derived.Test.YtbbdifcmhoobaaaGreatDoorTaB
import Derived.Test.YtbbdifcmhoobaaaGreatDoorCutP
import Derived.Test.YtbbdifcmhoobaaaGreatDoorHdK
import Derived.Test.YtbbdifcmhoobaaaGreatDoorErvP
namespace Go.Proofs.YtbbdifcmhoobaaaGreatDoor
open Go.RowKit Go.Shelf Go.Lib

def strN : Value → Nat
  | .string s => s.size
  | _ => 0
theorem IsBuilder_belowT {T e : TypeId} {B b : Nat} {bs : List Value} {w w' : World} (h : Lib.IsBuilder T e B b bs w) (hb : Below w.heap.size w w') : Lib.IsBuilder T e B b bs w' := by
  have hown : ∀ v n xs, w.ownsRow (B + 1) e 1 v n xs → w'.ownsRow (B + 1) e 1 v n xs := fun v n xs h => ownsRow_later h hb
  have hown2 : ∀ v n xs, w.ownsRow B e 1 v n xs → w'.ownsRow B e 1 v n xs := fun v n xs h => ownsRow_later h hb
  rcases h with h | h
  · obtain ⟨h1, v, h2, h3, h4⟩ := h
    exact .inl ⟨h1, v, (hb.block b (Array.getElem?_eq_some_iff.1 h2).1).trans h2, (by first | exact hown _ _ _ h3 | exact hown2 _ _ _ h3), h4⟩
  · obtain ⟨h1, v, h2, h3, h4⟩ := h
    exact .inr ⟨h1, v, (hb.block b (Array.getElem?_eq_some_iff.1 h2).1).trans h2, (by first | exact hown _ _ _ h3 | exact hown2 _ _ _ h3), h4⟩

/-- The loop's turn: what is told so far, and what stands behind the last percent. -/
def pctI (l rest acc : List UInt8) (f : Bool) : Prop :=
  visL rest = true ∧ acc.length + rest.length + (if f then 1 else 0) ≤ l.length ∧ pctL l = if f then (pctL (37 :: rest)).map (acc ++ ·) else some acc
theorem pctI_start (l : List UInt8) (h : visL l = true) : (Lib.indexByte l 37 = -1 → pctI l [] l false) ∧ (∀ i : Nat, Lib.indexByte l 37 = i → i < l.length ∧ pctI l (l.drop (i + 1)) (l.take i) true) := by
  obtain ⟨h1, h2⟩ := pct_cut l h
  refine ⟨fun hi => ⟨rfl, by simp, by rw [h1 hi]; rfl⟩, fun i hi => ?_⟩
  obtain ⟨a, b, c⟩ := h2 i hi
  refine ⟨a, b, ?_, by rw [c]; rfl⟩
  rw [List.length_take, List.length_drop, if_pos rfl]
  omega
theorem pctU_len (a b : UInt8) : (pctU a b).length ≤ 3 := by
  rw [pctU]
  split <;> simp
theorem pctI_none {l rest acc : List UInt8} (h : pctI l rest acc true) (hx : hx2 rest = false) : pctL l = none := by
  obtain ⟨_, _, h3⟩ := h
  rw [h3, if_pos rfl, pctL_pct, hx]
  rfl
theorem pctI_step {l rest acc : List UInt8} (h : pctI l rest acc true) (hx : hx2 rest = true) :
    2 ≤ rest.length ∧ (Lib.indexByte (rest.drop 2) 37 = -1 → pctI l [] (acc ++ (pctU (rest.getD 0 0) (rest.getD 1 0) ++ rest.drop 2)) false) ∧
    (∀ i : Nat, Lib.indexByte (rest.drop 2) 37 = i → i < (rest.drop 2).length ∧ pctI l ((rest.drop 2).drop (i + 1)) (acc ++ (pctU (rest.getD 0 0) (rest.getD 1 0) ++ (rest.drop 2).take i)) true) := by
  obtain ⟨h1, h2, h3⟩ := h
  have hx' := hx
  simp only [hx2, Bool.and_eq_true, decide_eq_true_eq] at hx'
  have hl := hx'.1.1
  have hv : visL (rest.drop 2) = true := by
    rw [visL, List.all_eq_true] at h1 ⊢
    exact fun c hc => h1 c (List.mem_of_mem_drop hc)
  have hU := pctU_len (rest.getD 0 0) (rest.getD 1 0)
  rw [if_pos rfl] at h2
  rw [if_pos rfl, pctL_pct, hx, if_pos rfl] at h3
  generalize pctU (rest.getD 0 0) (rest.getD 1 0) = U at *
  have hd : (rest.drop 2).length = rest.length - 2 := List.length_drop
  generalize rest.drop 2 = q at *
  obtain ⟨a, b⟩ := pct_cut q hv
  refine ⟨hl, fun hi => ⟨rfl, ?_, ?_⟩, fun i hi => ?_⟩
  · simp only [List.length_append, List.length_nil, Bool.false_eq_true, if_false]
    omega
  · rw [h3, a hi]
    rfl
  · obtain ⟨c1, c2, c3⟩ := b i hi
    refine ⟨c1, c2, ?_, ?_⟩
    · simp only [List.length_append, List.length_take, List.length_drop, if_true]
      omega
    · rw [h3, c3, if_pos rfl]
      cases pctL (37 :: q.drop (i + 1)) with
      | none => rfl
      | some z => simp
theorem cutV_miss (l : List UInt8) (c : UInt8) (h : Lib.indexByte l c = -1) : cutV l c = .tuple #[.string (strB l), .string (strB []), .bool false] := by rw [cutV, if_pos h]; rfl
theorem cutV_hit (l : List UInt8) (c : UInt8) (i : Nat) (h : Lib.indexByte l c = i) : cutV l c = .tuple #[.string (strB (l.take i)), .string (strB (l.drop (i + 1))), .bool true] := by
  rw [cutV, if_neg (by rw [h]; omega), h, Int.toNat_natCast]
theorem cut_cases (l : List UInt8) (c : UInt8) : Lib.indexByte l c = -1 ∨ ∃ i : Nat, Lib.indexByte l c = i := by
  have := Lib.indexByte_ge l c
  by_cases h : Lib.indexByte l c = -1
  · exact .inl h
  · exact .inr ⟨(Lib.indexByte l c).toNat, by omega⟩
/-- What cut answers, in one form. -/
theorem cut_form (l : List UInt8) (c : UInt8) : ∃ (p r : List UInt8) (f : Bool), cutV l c = .tuple #[.string (strB p), .string (strB r), .bool f] ∧ ((f = false ∧ p = l ∧ r = [] ∧ Lib.indexByte l c = -1) ∨ (f = true ∧ ∃ i : Nat, Lib.indexByte l c = i ∧ p = l.take i ∧ r = l.drop (i + 1))) := by
  rcases cut_cases l c with h | ⟨i, h⟩
  · exact ⟨l, [], false, cutV_miss l c h, .inl ⟨rfl, rfl, rfl, h⟩⟩
  · exact ⟨_, _, true, cutV_hit l c i h, .inr ⟨rfl, i, h, rfl, rfl⟩⟩
theorem pctI_first {l p r : List UInt8} {f : Bool} (hv : visL l = true) (h : (f = false ∧ p = l ∧ r = [] ∧ Lib.indexByte l 37 = -1) ∨ (f = true ∧ ∃ i : Nat, Lib.indexByte l 37 = i ∧ p = l.take i ∧ r = l.drop (i + 1))) : pctI l r p f ∧ p.length + r.length ≤ l.length := by
  obtain ⟨a, b⟩ := pctI_start l hv
  have key : pctI l r p f := by
    rcases h with ⟨rfl, rfl, rfl, hi⟩ | ⟨rfl, i, hi, rfl, rfl⟩
    · exact a hi
    · exact (b i hi).2
  refine ⟨key, ?_⟩
  have := key.2.1
  omega
theorem pctI_next {l rest acc p r : List UInt8} {f : Bool} (h : pctI l rest acc true) (hx : hx2 rest = true)
    (hc : (f = false ∧ p = rest.drop 2 ∧ r = [] ∧ Lib.indexByte (rest.drop 2) 37 = -1) ∨ (f = true ∧ ∃ i : Nat, Lib.indexByte (rest.drop 2) 37 = i ∧ p = (rest.drop 2).take i ∧ r = (rest.drop 2).drop (i + 1))) :
    2 ≤ rest.length ∧ pctI l r (acc ++ (pctU (rest.getD 0 0) (rest.getD 1 0) ++ p)) f ∧ r.length < rest.length ∧ p.length ≤ rest.length := by
  obtain ⟨a, b, c⟩ := pctI_step h hx
  refine ⟨a, ?_⟩
  rcases hc with ⟨rfl, rfl, rfl, hi⟩ | ⟨rfl, i, hi, rfl, rfl⟩
  · exact ⟨b hi, by simp; omega, by rw [List.length_drop]; omega⟩
  · exact ⟨(c i hi).2, by simp only [List.length_drop]; omega, by rw [List.length_take, List.length_drop]; omega⟩

set_option maxRecDepth 100000 in
set_option maxHeartbeats 4000000 in
theorem percent_any (s : ByteArray) (w : World) (hs : s.size ≤ 100000) (hE : Errs w) :
    Calls Tryz.prog 7 #[.string s] w (errPost (pctL s.data.toList) w) := by
  have cV := isVisible_any s w (by unfold maxLen; omega)
  have hz := Lib.size_eq s
  cases hv : visL s.data.toList
  · rw [hv] at cV
    have HR : Hid (errV (pctL s.data.toList) = .tuple #[.string ⟨#[]⟩, .int .i64 2]) := Lib.hid (by rw [pct_invis _ _ (Nat.le_refl _) hv]; rfl)
    clear hv hz
    go_enter Tryz.func7, Tryz.ntmps7
    go_wp2_with (go_at_call 20; refine cV.mono ?_; rintro e w' ⟨rfl, rfl⟩)
    exact bodyPost_ret (v := .tuple #[.string ⟨#[]⟩, .int .i64 2]) (by simp [results, Tryz.results7, go_sem]) rfl ⟨by rw [HR.out], Below.refl _ _⟩
  · rw [hv] at cV
    have cC := cut_any s 37 w hs
    obtain ⟨p, r, f, hcv, hcf⟩ := cut_form s.data.toList 37
    obtain ⟨hi, hlen⟩ := pctI_first hv hcf
    rw [hcv] at cC
    rw [← hz] at hlen
    have HI := Lib.hid hi
    have HE := Lib.hid hE
    clear hcv hcf hi hv hE hz
    have zp : (strB p).size ≤ 100000 := by rw [strB_size]; omega
    have hlr : r.length ≤ 100000 := by omega
    obtain ⟨P0, hP0⟩ : ∃ P0, strB p = P0 := ⟨_, rfl⟩
    have Hst : Hid (Lib.byteCells [] ++ Lib.strCells P0 = Lib.byteCells p) := Lib.hid (by
      rw [← hP0, show Lib.strCells (strB p) = Lib.byteCells p from rfl]
      rfl)
    rw [hP0] at cC zp
    clear hP0
    obtain ⟨R0, hR0⟩ : ∃ R0, strB r = R0 := ⟨_, rfl⟩
    have HR0 := Lib.hid hR0
    rw [hR0] at cC
    clear hR0
    go_enter Tryz.func7, Tryz.ntmps7
    go_wp2_with fail
    refine cV.mono ?_
    rintro e w0 ⟨rfl, rfl⟩
    go_wp2_with fail
    refine cC.mono ?_
    rintro e w1 ⟨rfl, hb1⟩
    have hle1 := hb1.size
    have hfr : Lib.IsBuilder 38 5 w1.heap.size w1.heap.size (Lib.byteCells []) (w1.alloc (.cells #[.pointer none, .slice none 0 0] 38)) :=
      .inl ⟨Nat.le_refl _, .slice none 0 0, heap_alloc_new w1 _, World.ownsRow_nil _ _ _ _, by simp [Value.ownBlock]⟩
    have HB1 := Lib.hid (hb1.alloc hb1.size (.cells #[.pointer none, .slice none 0 0] 38))
    have cW := writeString_any w1.heap.size w1.heap.size (Lib.byteCells []) P0 (w1.alloc (.cells #[.pointer none, .slice none 0 0] 38)) hfr (by rw [Lib.byteCells_length]; simp; omega) (by simp)
    clear hfr hb1 cC cV
    go_wp2_with fail
    refine cW.mono ?_
    rintro e w2 ⟨rfl, hbd2, hb2⟩
    rw [Hst.out] at hbd2
    have HB2 := Lib.hid (HB1.out.trans (hb2.mono hle1))
    have HD2 := Lib.hid hbd2
    clear cW hb2 hbd2 HB1 Hst
    go_wp2_with fail
    go_loopw [5, 6] (fun v5 v6 wr => ∃ (rest acc : List UInt8) (R : ByteArray) (f : Bool), v5 = .string R ∧ v6 = .bool f ∧ Hid (strB rest = R) ∧ rest.length ≤ 100000 ∧ Hid (pctI s.data.toList rest acc f) ∧ Lib.IsBuilder 38 5 w1.heap.size w1.heap.size (Lib.byteCells acc) wr ∧ Below w.heap.size w wr) (fun v5 _ _ => strN v5)
    case atStart => exact ⟨r, p, R0, f, rfl, rfl, HR0, hlr, HI, .inr HD2.out, HB2.out⟩
    case round =>
      obtain ⟨rest, acc, R, f2, rfl, rfl, HRR, hrl, HPI, hbd, hb⟩ := hrel
      clear HD2 HB2 HI HR0
      have HBD := Lib.hid hbd
      have HB := Lib.hid hb
      have hal : acc.length ≤ 100000 := by have := HPI.out.2.1; rw [← Lib.size_eq] at this; omega
      cases f2
      · have HT : Hid (errV (pctL s.data.toList) = .tuple #[.string ⟨acc.toArray⟩, .int .i64 0]) := Lib.hid (by rw [HPI.out.2.2, if_neg (by decide)]; rfl)
        have hsz : w1.heap.size ≤ wr.heap.size := Nat.le_of_lt (by
          rcases hbd with h | h
          · exact (Array.getElem?_eq_some_iff.1 h.2.choose_spec.1).1
          · exact (Array.getElem?_eq_some_iff.1 h.2.choose_spec.1).1)
        have cS := Tryz.Builder_String_any w1.heap.size w1.heap.size acc wr hbd hsz
        clear hbd hb
        go_wp2_with fail
        refine cS.mono ?_
        rintro e w4 ⟨rfl, hb4⟩
        go_wp2_with fail
        refine bodyPost_ret (v := .tuple #[.string ⟨acc.toArray⟩, .int .i64 0]) (by simp [results, Tryz.results7, go_sem]) rfl ⟨by rw [HT.out], HB.out.trans (hb4.mono hle1)⟩
      · have hRd : R.data.toList = rest := by rw [← HRR.out, strB_data]
        have hRz : R.size = rest.length := by rw [Lib.size_eq, hRd]
        have cG := signOf_any R wr (by omega) (HE.out.below hb)
        rw [hRd, sgnV] at cG
        cases hx : hx2 rest
        · rw [hx, if_neg (by decide)] at cG
          have HT : Hid (errV (pctL s.data.toList) = .tuple #[.string ⟨#[]⟩, .int .i64 2]) := Lib.hid (by rw [pctI_none HPI.out hx]; rfl)
          clear hx hbd hb hRd hRz
          go_wp2_with fail
          refine cG.mono ?_
          rintro e w3 ⟨rfl, hb3⟩
          go_wp2_with fail
          refine bodyPost_ret (v := .tuple #[.string ⟨#[]⟩, .int .i64 2]) (by simp [results, Tryz.results7, go_sem]) rfl ⟨by rw [HT.out], HB.out.trans (hb3.mono HB.out.size)⟩
        · rw [hx, if_pos rfl] at cG
          obtain ⟨p2, r2, f3, hcv, hcf⟩ := cut_form (rest.drop 2) 37
          obtain ⟨h2, hpi2, hr2, hp2⟩ := pctI_next HPI.out hx hcf
          have HPI2 := Lib.hid hpi2
          have hal2 := hpi2.2.1
          rw [← Lib.size_eq] at hal2
          have hge : (2 : Int) ≤ (R.size : Int) := by omega
          have hge2 : 2 ≤ R.size := by omega
          obtain ⟨D, hD⟩ : ∃ D, R.extract 2 R.size = D := ⟨_, rfl⟩
          have hDd : D.data.toList = rest.drop 2 := by rw [← hD, Lib.extract_to_end, hRd]
          have hDz : D.size ≤ 100000 := by rw [Lib.size_eq, hDd, List.length_drop]; omega
          have cC := fun W => cut_any D 37 W hDz
          rw [hDd, hcv] at cC
          have hUz := pctU_len (rest.getD 0 0) (rest.getD 1 0)
          generalize pctU (rest.getD 0 0) (rest.getD 1 0) = U at *
          have hX : strB U ++ strB p2 = strB (U ++ p2) := strB_append _ _
          have hXz : (strB (U ++ p2)).size ≤ 200000 := by rw [strB_size, List.length_append]; omega
          have hX63 : ((strB U).size : Int) + (strB p2).size ≤ 9223372036854775807 := by rw [strB_size, strB_size]; omega
          have hXz2 : (strB U).size + (strB p2).size ≤ 9223372036854775807 := by rw [strB_size, strB_size]; omega
          have Hst : Hid (Lib.byteCells acc ++ Lib.strCells (strB (U ++ p2)) = Lib.byteCells (acc ++ (U ++ p2))) := Lib.hid (by
            rw [show Lib.strCells (strB (U ++ p2)) = Lib.byteCells (U ++ p2) from rfl]
            simp [Lib.byteCells])
          have Hr2 : Hid ((strB r2).size < R.size) := Lib.hid (by rw [strB_size, hRz]; exact hr2)
          have cW := fun W hW (hW2 : w1.heap.size ≤ W.heap.size) => writeString_any w1.heap.size w1.heap.size (Lib.byteCells acc) (strB (U ++ p2)) W hW (by rw [Lib.byteCells_length]; omega) hW2
          have HX := Lib.hid hX
          have HR2 : Hid (strB r2 = strB r2) := Lib.hid rfl
          have hrl2 : r2.length ≤ 100000 := by omega
          have hsz : w1.heap.size ≤ wr.heap.size := Nat.le_of_lt (by
            rcases hbd with h | h
            · exact (Array.getElem?_eq_some_iff.1 h.2.choose_spec.1).1
            · exact (Array.getElem?_eq_some_iff.1 h.2.choose_spec.1).1)
          clear hx hbd hb hRd hRz hX hcv hcf hpi2 hDd HRR hr2 HPI hp2 hal2 hrl
          generalize acc ++ (U ++ p2) = acc2 at *
          generalize strB (U ++ p2) = X at *
          generalize strB U = SU at *
          generalize strB p2 = SP at *
          obtain ⟨R2, hR2⟩ : ∃ R2, strB r2 = R2 := ⟨_, rfl⟩
          have HRR2 := Lib.hid hR2
          rw [hR2] at cC Hr2
          clear hR2 HR2
          go_wp2_with fail
          refine cG.mono ?_
          rintro e w3 ⟨rfl, hb3⟩
          go_wp2_with fail
          refine (cC _).mono ?_
          rintro e w4 ⟨rfl, hb4⟩
          have hb34 := hb3.trans (hb4.mono hb3.size)
          have hbd4 := IsBuilder_belowT HBD.out hb34
          have hsz4 : w1.heap.size ≤ w4.heap.size := Nat.le_trans hsz hb34.size
          have HB4 := Lib.hid (HB.out.trans (hb34.mono HB.out.size))
          clear hb3 hb4 hb34 cC cG
          go_wp2_with fail
          rw [HX.out]
          refine (cW _ hbd4 hsz4).mono ?_
          rintro e w5 ⟨rfl, hbd5, hb5⟩
          rw [Hst.out] at hbd5
          have HB5 := Lib.hid (HB4.out.trans (hb5.mono hle1))
          clear cW hb5 hbd4
          go_wp2_with fail
          go_roundw
          case rel => exact ⟨r2, acc2, R2, f3, rfl, rfl, HRR2, hrl2, HPI2, .inr hbd5, HB5.out⟩
          case measure => exact Hr2.out

end Go.Proofs.YtbbdifcmhoobaaaGreatDoor
