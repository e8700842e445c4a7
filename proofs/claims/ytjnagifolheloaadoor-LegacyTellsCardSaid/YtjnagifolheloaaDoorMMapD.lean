/- Directives by their names: what a map of them reads as. · The contract of legacy.byName. · The contracts of (legacy.Directive).number, and of the two functions that Of makes. -/
import Derived.Test.YtjnagifolheloaaDoorMDirP
import Derived.Test.YtjnagifolheloaaDoorRows
import Derived.Test.YtjnagifolheloaaDoorMDigP
import Derived.Test.YtjnagifolheloaaDoorMNamP
import Derived.Maps.OwnSet
import Derived.Maps.Views
import Derived.Laws.AppendOwn
import Derived.WalkKit
import Derived.WalkSpells
import Derived.WalkLawsBesides

namespace Go.Proofs.YtjnagifolheloaaDoor
open Go.RowKit Go.Maps Go.Lib
open Go.WideMaps (keyOf_string_mk)

theorem keyStrD : Keyed Tryd.prog 9 := string_keyed Tryd.underlying9
/-- A directive as a map's datum, and how a value is read as one. -/
def datD (d : Dir) : DataW Unit := .agg [.lit (.string d.1), .lit (.string d.2.1), .lit (.bool d.2.2)]
def readL : List Value → Option (DataW Unit × List MemPlace)
  | [.string n, .string v, .bool h] => some (.agg [.lit (.string n.data.toList), .lit (.string v.data.toList), .lit (.bool h)], [])
  | _ => none
def readD : Value → Option (DataW Unit × List MemPlace)
  | .agg cs => readL cs.toList
  | _ => none
theorem readD_mk (d : Dir) : readD (dirV d) = some (datD d, []) := by
  obtain ⟨n, v, h⟩ := d
  rfl
theorem readD_inv {v : Value} {d : Dir} {ps : List MemPlace} (h : readD v = some (datD d, ps)) : v = dirV d := by
  obtain ⟨n, t, b⟩ := d
  cases v with
  | agg cs =>
    obtain ⟨l⟩ := cs
    change readL l = _ at h
    unfold readL at h
    split at h
    · rename_i n' v' h'
      simp only [Option.some.injEq, Prod.mk.injEq, datD, DataW.agg.injEq, List.cons.injEq, DataW.lit.injEq, Lit.string.injEq, Lit.bool.injEq, and_true] at h
      obtain ⟨⟨h1, h2, h3⟩, _⟩ := h
      rewrite [dirV]
      dsimp only
      rw [← h1, ← h2, ← h3, strB_of, strB_of]
    · cases h
  | _ => cases h

theorem fst_snoc (l : List Dir) (d : Dir) (n : List UInt8) : fstN (l ++ [d]) n = (fstN l n).or (if d.1 = n then some d else none) := by
  unfold fstN
  rewrite [List.find?_append, List.find?_cons]
  by_cases h : d.1 = n
  · rw [if_pos h, beq_iff_eq.2 h]
  · rewrite [if_neg h, beq_eq_false_iff_ne.2 h]
    rfl
/-- A map's datum holds the first directive of each name. -/
def FstOf (D : DataW Unit) (l : List Dir) : Prop :=
  IsMap D ∧ ∀ n, Maps.has D (.string n) = hasN l n ∧ ∀ d, fstN l n = some d → ∀ z, D.atKey (.string n) z = datD d
theorem fstOf_nil : FstOf (.map []) [] := ⟨isMap_empty, fun n => ⟨rfl, fun d h => by cases h⟩⟩
theorem fstOf_put {D : DataW Unit} {l : List Dir} (h : FstOf D l) (d : Dir) (hn : fstN l d.1 = none) : FstOf (D.put (.string d.1) (datD d)) (l ++ [d]) := by
  refine ⟨h.1.put _ _, fun n => ?_⟩
  have hk : WideAt.IsKeyLit (.string d.1) := trivial
  rewrite [hasN, fst_snoc]
  by_cases hd : d.1 = n
  · subst hd
    rewrite [hn, if_pos rfl, has_put_same h.1 hk]
    refine ⟨rfl, fun e he z => ?_⟩
    obtain rfl := Option.some.inj he
    exact atKey_put_same h.1 hk _ _
  · have hne : Lit.string n ≠ .string d.1 := fun e => hd (Lit.string.inj e).symm
    rewrite [if_neg hd, Option.or_none, has_put_other hne]
    refine ⟨(h.2 n).1, fun e he z => ?_⟩
    rewrite [atKey_put_other hne]
    exact (h.2 n).2 e he z
theorem fstOf_skip {D : DataW Unit} {l : List Dir} (h : FstOf D l) (d e : Dir) (hn : fstN l d.1 = some e) : FstOf D (l ++ [d]) := by
  refine ⟨h.1, fun n => ?_⟩
  have hs : fstN (l ++ [d]) n = fstN l n := by
    rewrite [fst_snoc]
    by_cases hd : d.1 = n
    · rw [← hd, hn] <;> rfl
    · rw [if_neg hd, Option.or_none]
  rewrite [hasN, hs]
  exact h.2 n

/-- 'v, ok := m[k]' where there is one, and where there is none. -/
theorem wpList_lookup_dir {T E : TypeId} (w : World) {ops : Array Oper} {rest : List Oper} {o : Oper} {a : Act} {Q : Exit → Act → World → Prop}
    (hg : o.guard = none) (m x : Operand) (hop : o.op = Op.lookup T m x true) (ht : Tryd.prog.underlying T = some (.map 9 E))
    (hz : ∀ W, (zeroValue E).run Tryd.prog W = .ok (dirV ([], [], false)) W)
    (b n : Nat) (D : DataW Unit) (l : List Dir) (hm : a.eval m = .map (some b)) (hown : w.ownsMap Tryd.prog 9 readD b n D) (hF : FstOf D l) (k : List UInt8) (hx : a.eval x = .string (strB k)) (hk : k.length ≤ 100000)
    (N V : List UInt8) (H B : Bool) (hd : (fstN l k).getD ([], [], false) = (N, V, H)) (hh : hasN l k = B)
    (hK : wpList Tryd.prog ops Q rest (a.put o.dst (.tuple #[.agg #[.string (strB N), .string (strB V), .bool H], .bool B])) w) :
    wpList Tryd.prog ops Q (o :: rest) a w := by
  have hkey : keyOf Tryd.prog 9 (.string (strB k)) = some (.string k) := keyOf_string_mk Tryd.underlying9 (by rewrite [strB_size]; unfold maxLen; omega)
  refine wpList_lookup_own_ok w hg m x T hop 9 E keyStrD ht readD (hz w) _ [] (readD_mk _) b n D hm hown _ _ hx hkey (fun v ps hv => ?_)
  rewrite [(hF.2 k).1]
  have hvd : v = dirV ((fstN l k).getD ([], [], false)) := by
    cases hf : fstN l k with
    | none =>
      have h0 : Maps.has D (.string k) = false := by rw [(hF.2 k).1, hasN, hf] <;> rfl
      rw [atKey_of_not_has h0] at hv
      exact readD_inv hv
    | some d =>
      rw [(hF.2 k).2 d hf] at hv
      exact readD_inv hv
  rewrite [hvd, hd, hh]
  exact hK

theorem ownsMap_below {P : Program} {k : TypeId} {R : Value → Option (DataW Unit × List MemPlace)} {w w' : World} {b n : Nat} {D : DataW Unit} (h : w.ownsMap P k R b n D) (hb : Below w.heap.size w w') : w'.ownsMap P k R b n D := by
  obtain ⟨es, clock, hh, r⟩ := h
  exact ⟨es, clock, (hb.block b (Array.getElem?_eq_some_iff.1 hh).1).trans hh, r⟩
/-- A variable that holds a map of directives. -/
def Held (W : World) (B : Nat) (ds : List Dir) : Prop := B < W.heap.size ∧ ∃ M, W.cell? ⟨B, 0, none⟩ = some (.map (some M)) ∧ ∃ n D, W.ownsMap Tryd.prog 9 readD M n D ∧ FstOf D ds
theorem Held.below {W W' : World} {B : Nat} {ds : List Dir} (h : Held W B ds) (hb : Below W.heap.size W W') : Held W' B ds := by
  obtain ⟨hl, M, hc, n, D, ho, hF⟩ := h
  exact ⟨Nat.lt_of_lt_of_le hl hb.size, M, (hb.cell (p := ⟨B, 0, none⟩) hl).trans hc, n, D, ownsMap_below ho hb, hF⟩
/-- The number that a directive sets; the number that directives set by a name. -/
def numM (d : Dir) : Int := if d.1 = nStale ∧ d.2.2 = false then 2147483648 else digitsN d.2.1
def nm2 (l : List Dir) (n : List UInt8) : Int := match fstN l n with | none => -1 | some d => numM d
theorem fst_name {l : List Dir} {n : List UInt8} {d : Dir} (h : fstN l n = some d) : d.1 = n := by
  have := List.find?_some h
  simpa using this
theorem nm2_other (l : List Dir) (n : List UInt8) (h : n ≠ nStale) : nm2 l n = numN l n := by
  unfold nm2 numN
  cases hf : fstN l n with
  | none => rfl
  | some d =>
    have hn := fst_name hf
    simp only [numM]
    rw [if_neg (fun e => h (hn ▸ e.1))]
theorem nm2_stale (l : List Dir) : nm2 l nStale = stlN l nStale := by
  unfold nm2 stlN
  cases hf : fstN l nStale with
  | none => rfl
  | some d =>
    have hn := fst_name hf
    simp only [numM]
    cases d.2.2
    · rw [if_pos ⟨hn, rfl⟩, if_neg (by decide)]
    · rw [if_neg (fun e => by cases e.2), if_pos rfl]

end Go.Proofs.YtjnagifolheloaaDoor

namespace Go.Proofs.YtjnagifolheloaaDoor
open Go.RowKit Go.Maps Go.Lib
open Go.WideMaps (keyOf_string_mk)

theorem zeroDirL (W : World) : (zeroValue 43).run Tryd.prog W = .ok (dirV ([], [], false)) W := by kernel_rfl

set_option maxRecDepth 100000 in
set_option maxHeartbeats 4000000 in
theorem byName_any (lo : Nat) (v : Value) (ds : List Dir) (w : World) (hv : Dirs lo w v ds) (hok : DirsOk ds) :
    Calls Tryd.prog 22 #[v] w fun e w' => (e = .returned (.map (some w.heap.size)) ∧ ∃ n D, w'.ownsMap Tryd.prog 9 readD w.heap.size n D ∧ FstOf D ds) ∧ Below w.heap.size w w' := by
  obtain ⟨ao, cap, rfl, hc⟩ := hv
  have HC := Lib.hid hc
  have HK := Lib.hid hok.2
  have hl := hok.1
  clear hc hok
  have hmm := @run_makeMap Tryd.prog
  have Hmap0 := Lib.hid (World.ownsMap_made (H := Unit) w Tryd.prog 9 readD)
  have HB0 := Lib.hid ((Below.refl w.heap.size w).alloc (Nat.le_refl _) (.map #[] 0))
  go_enter Tryd.func22, Tryd.ntmps22
  go_wp2_with fail
  clear hmm
  go_loopw [11] (fun i wr => ∃ (k : Nat) (D : DataW Unit), k ≤ ds.length ∧ i = .int .i64 k ∧ Hid (wr.ownsMap Tryd.prog 9 readD w.heap.size k D) ∧ Hid (FstOf D (ds.take k)) ∧ Hid (Below w.heap.size w wr)) (fun i _ => ds.length - (intOf i).toNat)
  case atStart => exact ⟨0, .map [], Nat.zero_le _, rfl, Hmap0, Lib.hid (by rewrite [List.take_zero]; exact fstOf_nil), HB0⟩
  case round =>
    obtain ⟨k, D, hk, rfl, HM, HF, HB⟩ := hrel
    clear Hmap0 HB0
    by_cases hlt : k < ds.length
    · rcases HC.out with hnil | ⟨c, off, rfl, _, hcl, hcell⟩
      · exfalso
        rw [hnil] at hlt
        simp at hlt
      · obtain ⟨p, hp⟩ : ∃ p, ds[k]? = some p := ⟨_, List.getElem?_eq_getElem hlt⟩
        have HT : Hid (ds.take (k + 1) = ds.take k ++ [p]) := Lib.hid (by rw [List.take_add_one, hp] <;> rfl)
        obtain ⟨x0, x1, x2⟩ := hcell k p hp
        have a0 := (HB.out.cell (p := ⟨c, off + k * 3, none⟩) hcl).trans x0
        have a1 := (HB.out.cell (p := ⟨c, off + k * 3 + 1, none⟩) hcl).trans x1
        have a2 := (HB.out.cell (p := ⟨c, off + k * 3 + 2, none⟩) hcl).trans x2
        have hkI : (k : Int) < (ds.length : Int) := by omega
        obtain ⟨hkN, hkV⟩ := HK.out p (List.mem_of_getElem? hp)
        have hz := HB.out.size
        obtain ⟨N, V, H⟩ := p
        dsimp only at a0 a1 a2 hkN hkV
        clear hcell x0 x1 x2 hp
        have HM1 := Lib.hid (HM.out.alloc (.cells #[.string (strB N), .string (strB V), .bool H] 43))
        have hb1 : Below w.heap.size w (wr.alloc (.cells #[.string (strB N), .string (strB V), .bool H] 43)) := HB.out.alloc hz _
        have HB1 := Lib.hid hb1
        clear hb1
        cases hf : fstN (ds.take k) N with
        | some d =>
          obtain ⟨N2, V2, H2⟩ := d
          have HF2 := Lib.hid (fstOf_skip HF.out (N, V, H) _ hf)
          have e1 := Lib.hid (show (fstN (ds.take k) N).getD ([], [], false) = (N2, V2, H2) by rw [hf] <;> rfl)
          have e2 := Lib.hid (show hasN (ds.take k) N = true by rw [hasN, hf] <;> rfl)
          clear hf
          go_wp2_with (at_lookup; refine wpList_lookup_dir _ rfl _ _ rfl Tryd.underlying55 zeroDirL w.heap.size k D (ds.take k) rfl HM1.out HF.out N rfl hkN N2 V2 H2 true e1.out e2.out ?_)
          go_roundw
          case rel => exact ⟨k + 1, D, by omega, by go_num, Lib.hid ((HM1.out.alloc _).mono (Nat.le_succ _)), Lib.hid (by rewrite [HT.out]; exact HF2.out), Lib.hid (HB1.out.alloc (by have := HB1.out.size; omega) _)⟩
          case measure => simp [intOf]; omega
        | none =>
          have HF2 := Lib.hid (fstOf_put HF.out (N, V, H) hf)
          have e1 := Lib.hid (show (fstN (ds.take k) N).getD ([], [], false) = ([], [], false) by rw [hf] <;> rfl)
          have e2 := Lib.hid (show hasN (ds.take k) N = false by rw [hasN, hf] <;> rfl)
          have hkey := Lib.hid (show keyOf Tryd.prog 9 (.string (strB N)) = some (.string N) from keyOf_string_mk Tryd.underlying9 (by rewrite [strB_size]; unfold maxLen; omega))
          clear hf
          go_wp2_with (first | (at_lookup; refine wpList_lookup_dir _ rfl _ _ rfl Tryd.underlying55 zeroDirL w.heap.size k D (ds.take k) rfl HM1.out HF.out N rfl hkN [] [] false false e1.out e2.out ?_) | (at_mapUpdate; refine wpList_mapUpdate_own _ rfl _ _ _ 55 rfl 9 43 keyStrD Tryd.underlying55 readD w.heap.size k D rfl (HM1.out.alloc _) (by unfold maxLen; omega) _ _ _ rfl rfl hkey.out (datD (N, V, H)) [] (readD_mk (N, V, H)) ?_; intro w4 hmap4 hgrow4))
          go_roundw
          case rel => exact ⟨k + 1, D.put (.string N) (datD (N, V, H)), by omega, by go_num, Lib.hid hmap4, Lib.hid (by rewrite [HT.out]; exact HF2.out), Lib.hid ((HB1.out.alloc (by have := HB1.out.size; omega) _).grown hgrow4 (by have := HB1.out.size; simp; omega) (fun j e => by cases e; exact Nat.le_refl _))⟩
          case measure => simp [intOf]; omega
    · obtain rfl : k = ds.length := by omega
      have hkI : ¬ (ds.length : Int) < (ds.length : Int) := by omega
      have HF2 := Lib.hid HF.out
      rw [List.take_length] at HF2
      go_wp2_with fail
      refine bodyPost_ret (v := .map (some w.heap.size)) (by simp [results, Tryd.results22, go_sem]) rfl ⟨⟨rfl, ds.length, D, HM.out, HF2.out⟩, HB.out⟩

end Go.Proofs.YtjnagifolheloaaDoor

namespace Go.Proofs.YtjnagifolheloaaDoor
open Go.RowKit Go.Maps Go.Lib

set_option maxRecDepth 100000 in
set_option maxHeartbeats 4000000 in
theorem number_any (N V : List UInt8) (H : Bool) (w : World) (hV : V.length ≤ 100000) :
    Calls Tryd.prog 25 #[.agg #[.string (strB N), .string (strB V), .bool H]] w fun e w' => e = .returned (.int .i64 (numM (N, V, H))) ∧ Below w.heap.size w w' := by
  have cD := fun W => digits_any (strB V) W (by rewrite [strB_size]; unfold maxLen; omega)
  rw [strB_data] at cD
  have hqe : ((strB N).toList == [109, 97, 120, 45, 115, 116, 97, 108, 101]) = decide (nStale = N) := by
    rewrite [← name_eq N nStale, Lib.toList_data (strB nStale), strB_data]
    rfl
  have HB := Lib.hid ((Below.refl w.heap.size w).alloc (Nat.le_refl _) (.cells #[.string (strB N), .string (strB V), .bool H] 43))
  have HA : Hid (numM (N, V, H) = if N = nStale ∧ H = false then 2147483648 else digitsN V) := Lib.hid rfl
  generalize numM (N, V, H) = R at *
  by_cases hN : N = nStale
  · rw [decide_eq_true hN.symm] at hqe
    cases H
    · have HR : Hid (R = 2147483648) := Lib.hid (by rw [HA.out, if_pos ⟨hN, rfl⟩])
      clear HA hN
      generalize strB N = SN at *
      go_enter Tryd.func25, Tryd.ntmps25
      go_wp2_with fail
      refine bodyPost_ret (v := .int .i64 2147483648) (by simp [results, Tryd.results25, go_sem]) rfl ⟨by rw [HR.out], HB.out⟩
    · have HR : Hid (R = digitsN V) := Lib.hid (by rw [HA.out, if_neg (fun e => by cases e.2)])
      clear HA hN
      generalize strB N = SN at *
      go_enter Tryd.func25, Tryd.ntmps25
      go_wp2_with (go_at_call 41; refine (cD _).mono ?_; rintro e w2 ⟨rfl, rfl⟩)
      refine bodyPost_ret (v := .int .i64 (digitsN V)) (by simp [results, Tryd.results25, go_sem]) rfl ⟨by rw [HR.out], HB.out⟩
  · rw [decide_eq_false (fun e => hN e.symm)] at hqe
    have HR : Hid (R = digitsN V) := Lib.hid (by rw [HA.out, if_neg (fun e => hN e.1)])
    clear HA hN
    generalize strB N = SN at *
    go_enter Tryd.func25, Tryd.ntmps25
    go_wp2_with (go_at_call 41; refine (cD _).mono ?_; rintro e w2 ⟨rfl, rfl⟩)
    refine bodyPost_ret (v := .int .i64 (digitsN V)) (by simp [results, Tryd.results25, go_sem]) rfl ⟨by rw [HR.out], HB.out⟩

set_option maxRecDepth 100000 in
set_option maxHeartbeats 4000000 in
theorem set_any (B : Nat) (ds : List Dir) (n : List UInt8) (W : World) (h : Held W B ds) (hn : n.length ≤ 100000) :
    Calls Tryd.prog 23 #[.string (strB n), .pointer (some ⟨B, 0, none⟩)] W fun e w' => e = .returned (.bool (hasN ds n)) ∧ Below W.heap.size W w' := by
  obtain ⟨hl, M, hc, k, D, ho, hF⟩ := h
  have HF := Lib.hid hF
  have HO := Lib.hid ho
  clear hF ho
  obtain ⟨N, V, H, hd⟩ : ∃ N V H, (fstN ds n).getD ([], [], false) = (N, V, H) := ⟨_, _, _, rfl⟩
  have HD := Lib.hid hd
  clear hd
  obtain ⟨b, hb⟩ : ∃ b, hasN ds n = b := ⟨_, rfl⟩
  rewrite [hb]
  have HH := Lib.hid hb
  clear hb
  have HB := Lib.hid ((Below.refl W.heap.size W).alloc (Nat.le_refl _) (.cells #[.string (strB N), .string (strB V), .bool H] 43))
  go_enter Tryd.func23, Tryd.ntmps23
  go_wp2_with (at_lookup; refine wpList_lookup_dir _ rfl _ _ rfl Tryd.underlying55 zeroDirL M k D ds rfl HO.out HF.out n rfl hn N V H b HD.out HH.out ?_)
  refine bodyPost_ret (v := .bool b) (by simp [results, Tryd.results23, go_sem]) rfl ⟨rfl, HB.out⟩

set_option maxRecDepth 100000 in
set_option maxHeartbeats 4000000 in
theorem numberOf_any (B : Nat) (ds : List Dir) (n : List UInt8) (W : World) (h : Held W B ds) (hn : n.length ≤ 100000) (hok : DirsOk ds) :
    Calls Tryd.prog 24 #[.string (strB n), .pointer (some ⟨B, 0, none⟩)] W fun e w' => e = .returned (.int .i64 (nm2 ds n)) ∧ Below W.heap.size W w' := by
  obtain ⟨hl, M, hc, k, D, ho, hF⟩ := h
  have HF := Lib.hid hF
  have HO := Lib.hid ho
  clear hF ho
  cases hf : fstN ds n with
  | none =>
    have HD := Lib.hid (show (fstN ds n).getD ([], [], false) = ([], [], false) by rw [hf] <;> rfl)
    have HH := Lib.hid (show hasN ds n = false by rw [hasN, hf] <;> rfl)
    have HR := Lib.hid (show nm2 ds n = -1 by rw [nm2, hf])
    have HB := Lib.hid ((Below.refl W.heap.size W).alloc (Nat.le_refl _) (.cells #[.string (strB []), .string (strB []), .bool false] 43))
    clear hf
    go_enter Tryd.func24, Tryd.ntmps24
    go_wp2_with (at_lookup; refine wpList_lookup_dir _ rfl _ _ rfl Tryd.underlying55 zeroDirL M k D ds rfl HO.out HF.out n rfl hn [] [] false false HD.out HH.out ?_)
    refine bodyPost_ret (v := .int .i64 (-1)) (by simp [results, Tryd.results24, go_sem]) rfl ⟨by rw [HR.out], HB.out⟩
  | some d =>
    have hm := List.mem_of_find?_eq_some hf
    obtain ⟨N, V, H⟩ := d
    have cN := fun W => number_any N V H W (hok.2 _ hm).2
    have HD := Lib.hid (show (fstN ds n).getD ([], [], false) = (N, V, H) by rw [hf] <;> rfl)
    have HH := Lib.hid (show hasN ds n = true by rw [hasN, hf] <;> rfl)
    have HR := Lib.hid (show nm2 ds n = numM (N, V, H) by rw [nm2, hf])
    have HB := Lib.hid ((Below.refl W.heap.size W).alloc (Nat.le_refl _) (.cells #[.string (strB N), .string (strB V), .bool H] 43))
    clear hf hm
    go_enter Tryd.func24, Tryd.ntmps24
    go_wp2_with (first | (at_lookup; refine wpList_lookup_dir _ rfl _ _ rfl Tryd.underlying55 zeroDirL M k D ds rfl HO.out HF.out n rfl hn N V H true HD.out HH.out ?_) | (go_at_call 25; refine (cN _).mono ?_; rintro e w2 ⟨rfl, hb2⟩))
    refine bodyPost_ret (v := .int .i64 (numM (N, V, H))) (by simp [results, Tryd.results24, go_sem]) rfl ⟨by rw [HR.out], HB.out.trans (hb2.mono HB.out.size)⟩

end Go.Proofs.YtjnagifolheloaaDoor
