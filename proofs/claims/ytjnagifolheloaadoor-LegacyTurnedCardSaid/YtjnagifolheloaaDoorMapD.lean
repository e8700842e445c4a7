/- Directives by their names: what a map of them reads as. -/
import Derived.Test.YtjnagifolheloaaDoorDirP
import Derived.Test.YtjnagifolheloaaDoorRows
import Derived.Maps.OwnSet
import Derived.Maps.Views
namespace Go.Proofs.YtjnagifolheloaaDoor
open Go.RowKit Go.Maps Go.Lib
open Go.WideMaps (keyOf_string_mk)

theorem keyStrD : Keyed Tryd.prog 9 := string_keyed Tryd.underlying9
/-- A directive as a map's datum, and how a value is read as one. -/
def datD (d : Dir) : DataW Unit := .agg [.lit (.string d.1), .lit (.string d.2.1), .lit (.bool d.2.2)]
def readL : List Value → Option (DataW Unit × List MemPlace)
  | [.string n, .string v, .bool h] => some (.agg [.lit (.string n.data.toList), .lit (.string v.data.toList), .lit (.bool h)], [])
  | _ => none
def readD : Value → Option (DataW Unit × List MemPlace)
  | .agg cs => readL cs.toList
  | _ => none
theorem readD_mk (d : Dir) : readD (dirV d) = some (datD d, []) := by
  obtain ⟨n, v, h⟩ := d
  rfl
theorem readD_inv {v : Value} {d : Dir} {ps : List MemPlace} (h : readD v = some (datD d, ps)) : v = dirV d := by
  obtain ⟨n, t, b⟩ := d
  cases v with
  | agg cs =>
    obtain ⟨l⟩ := cs
    change readL l = _ at h
    unfold readL at h
    split at h
    · rename_i n' v' h'
      simp only [Option.some.injEq, Prod.mk.injEq, datD, DataW.agg.injEq, List.cons.injEq, DataW.lit.injEq, Lit.string.injEq, Lit.bool.injEq, and_true] at h
      obtain ⟨⟨h1, h2, h3⟩, _⟩ := h
      rw [dirV]
      dsimp only
      rw [← h1, ← h2, ← h3, strB_of, strB_of]
    · cases h
  | _ => cases h

theorem fst_snoc (l : List Dir) (d : Dir) (n : List UInt8) : fstN (l ++ [d]) n = (fstN l n).or (if d.1 = n then some d else none) := by
  unfold fstN
  rw [List.find?_append, List.find?_cons]
  by_cases h : d.1 = n
  · rw [if_pos h, beq_iff_eq.2 h]
  · rw [if_neg h, beq_eq_false_iff_ne.2 h]
    rfl
/-- A map's datum holds the first directive of each name. -/
def FstOf (D : DataW Unit) (l : List Dir) : Prop :=
  IsMap D ∧ ∀ n, Maps.has D (.string n) = hasN l n ∧ ∀ d, fstN l n = some d → ∀ z, D.atKey (.string n) z = datD d
theorem fstOf_nil : FstOf (.map []) [] := ⟨isMap_empty, fun n => ⟨rfl, fun d h => by cases h⟩⟩
theorem fstOf_put {D : DataW Unit} {l : List Dir} (h : FstOf D l) (d : Dir) (hn : fstN l d.1 = none) : FstOf (D.put (.string d.1) (datD d)) (l ++ [d]) := by
  refine ⟨h.1.put _ _, fun n => ?_⟩
  have hk : WideAt.IsKeyLit (.string d.1) := trivial
  rw [hasN, fst_snoc]
  by_cases hd : d.1 = n
  · subst hd
    rw [hn, if_pos rfl, has_put_same h.1 hk]
    refine ⟨rfl, fun e he z => ?_⟩
    obtain rfl := Option.some.inj he
    exact atKey_put_same h.1 hk _ _
  · have hne : Lit.string n ≠ .string d.1 := fun e => hd (Lit.string.inj e).symm
    rw [if_neg hd, Option.or_none, has_put_other hne]
    refine ⟨(h.2 n).1, fun e he z => ?_⟩
    rw [atKey_put_other hne]
    exact (h.2 n).2 e he z
theorem fstOf_skip {D : DataW Unit} {l : List Dir} (h : FstOf D l) (d e : Dir) (hn : fstN l d.1 = some e) : FstOf D (l ++ [d]) := by
  refine ⟨h.1, fun n => ?_⟩
  have hs : fstN (l ++ [d]) n = fstN l n := by
    rw [fst_snoc]
    by_cases hd : d.1 = n
    · rw [← hd, hn]; rfl
    · rw [if_neg hd, Option.or_none]
  rw [hasN, hs]
  exact h.2 n

/-- 'v, ok := m[k]' where there is one, and where there is none. -/
theorem wpList_lookup_dir {T E : TypeId} (w : World) {ops : Array Oper} {rest : List Oper} {o : Oper} {a : Act} {Q : Exit → Act → World → Prop}
    (hg : o.guard = none) (m x : Operand) (hop : o.op = Op.lookup T m x true) (ht : Tryd.prog.underlying T = some (.map 9 E))
    (hz : ∀ W, (zeroValue E).run Tryd.prog W = .ok (dirV ([], [], false)) W)
    (b n : Nat) (D : DataW Unit) (l : List Dir) (hm : a.eval m = .map (some b)) (hown : w.ownsMap Tryd.prog 9 readD b n D) (hF : FstOf D l) (k : List UInt8) (hx : a.eval x = .string (strB k)) (hk : k.length ≤ 100000)
    (N V : List UInt8) (H B : Bool) (hd : (fstN l k).getD ([], [], false) = (N, V, H)) (hh : hasN l k = B)
    (hK : wpList Tryd.prog ops Q rest (a.put o.dst (.tuple #[.agg #[.string (strB N), .string (strB V), .bool H], .bool B])) w) :
    wpList Tryd.prog ops Q (o :: rest) a w := by
  have hkey : keyOf Tryd.prog 9 (.string (strB k)) = some (.string k) := keyOf_string_mk Tryd.underlying9 (by rw [strB_size]; unfold maxLen; omega)
  refine wpList_lookup_own_ok w hg m x T hop 9 E keyStrD ht readD (hz w) _ [] (readD_mk _) b n D hm hown _ _ hx hkey (fun v ps hv => ?_)
  rw [(hF.2 k).1]
  have hvd : v = dirV ((fstN l k).getD ([], [], false)) := by
    cases hf : fstN l k with
    | none =>
      have h0 : Maps.has D (.string k) = false := by rw [(hF.2 k).1, hasN, hf]; rfl
      rw [atKey_of_not_has h0] at hv
      exact readD_inv hv
    | some d =>
      rw [(hF.2 k).2 d hf] at hv
      exact readD_inv hv
  rw [hvd, hd, hh]
  exact hK

theorem ownsMap_below {P : Program} {k : TypeId} {R : Value → Option (DataW Unit × List MemPlace)} {w w' : World} {b n : Nat} {D : DataW Unit} (h : w.ownsMap P k R b n D) (hb : Below w.heap.size w w') : w'.ownsMap P k R b n D := by
  obtain ⟨es, clock, hh, r⟩ := h
  exact ⟨es, clock, (hb.block b (Array.getElem?_eq_some_iff.1 hh).1).trans hh, r⟩
/-- A variable that holds a map of directives. -/
def Held (W : World) (B : Nat) (ds : List Dir) : Prop := B < W.heap.size ∧ ∃ M, W.cell? ⟨B, 0, none⟩ = some (.map (some M)) ∧ ∃ n D, W.ownsMap Tryd.prog 9 readD M n D ∧ FstOf D ds
theorem Held.below {W W' : World} {B : Nat} {ds : List Dir} (h : Held W B ds) (hb : Below W.heap.size W W') : Held W' B ds := by
  obtain ⟨hl, M, hc, n, D, ho, hF⟩ := h
  exact ⟨Nat.lt_of_lt_of_le hl hb.size, M, (hb.cell (p := ⟨B, 0, none⟩) hl).trans hc, n, D, ownsMap_below ho hb, hF⟩
/-- The number that a directive sets; the number that directives set by a name. -/
def numM (d : Dir) : Int := if d.1 = nStale ∧ d.2.2 = false then 2147483648 else digitsN d.2.1
def nm2 (l : List Dir) (n : List UInt8) : Int := match fstN l n with | none => -1 | some d => numM d
theorem fst_name {l : List Dir} {n : List UInt8} {d : Dir} (h : fstN l n = some d) : d.1 = n := by
  have := List.find?_some h
  simpa using this
theorem nm2_other (l : List Dir) (n : List UInt8) (h : n ≠ nStale) : nm2 l n = numN l n := by
  unfold nm2 numN
  cases hf : fstN l n with
  | none => rfl
  | some d =>
    have hn := fst_name hf
    simp only [numM]
    rw [if_neg (fun e => h (hn ▸ e.1))]
theorem nm2_stale (l : List Dir) : nm2 l nStale = stlN l nStale := by
  unfold nm2 stlN
  cases hf : fstN l nStale with
  | none => rfl
  | some d =>
    have hn := fst_name hf
    simp only [numM]
    cases d.2.2
    · rw [if_pos ⟨hn, rfl⟩, if_neg (by decide)]
    · rw [if_neg (fun e => by cases e.2), if_pos rfl]

end Go.Proofs.YtjnagifolheloaaDoor
