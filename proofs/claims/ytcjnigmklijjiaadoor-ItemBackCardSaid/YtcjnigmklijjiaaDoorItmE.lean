/- What the parser's params needs: the parameters of a text (plain), their row in memory, their places in a map. -/
import Derived.Test.YtcjnigmklijjiaaDoorItmD
import Derived.Maps.OwnSet
import Derived.Maps.Views
import Derived.Laws.OwnMore
namespace Go.Proofs.YtcjnigmklijjiaaDoor
open Go.RowKit Go.Maps

/-- Where a key stands, the row's length where it does not. -/
def idxL (ks : List (List UInt8)) (k : List UInt8) : Nat := ks.findIdx (· == k)
theorem idxL_lt (ks : List (List UInt8)) (k : List UInt8) : idxL ks k < ks.length ↔ k ∈ ks := by
  unfold idxL
  rw [List.findIdx_lt_length]
  constructor
  · rintro ⟨x, hx, h⟩
    rw [beq_iff_eq] at h
    rw [← h]; exact hx
  · intro h
    exact ⟨k, h, by simp⟩

/-- A parameter more, or another value of one. -/
def putL (ps : List Prm) (p : Prm) : List Prm :=
  if idxL (ps.map Prm.key) p.key < ps.length then ps.set (idxL (ps.map Prm.key) p.key) p else ps ++ [p]

theorem putL_len (ps : List Prm) (p : Prm) : (putL ps p).length ≤ ps.length + 1 := by
  unfold putL
  split
  · rw [List.length_set]; omega
  · simp

/-- The parameters with which a text begins, behind some, and how long they are. -/
def psL (l : List UInt8) (acc : List Prm) (m : Nat) : Option (List Prm × Nat) :=
  if h : l.head? = some 59 then
    match parL (l.drop 1) with
    | none => none
    | some (p, n) => psL (l.drop (1 + n)) (putL acc p) (m + 1 + n)
  else some (acc, m)
termination_by l.length
decreasing_by
  cases l with
  | nil => simp at h
  | cons c r => simp only [List.length_drop, List.length_cons]; omega

theorem psL_end (l : List UInt8) (acc : List Prm) (m : Nat) (h : l.head? ≠ some 59) : psL l acc m = some (acc, m) := by
  rw [psL, dif_neg h]
theorem psL_none (l : List UInt8) (acc : List Prm) (m : Nat) (h : l.head? = some 59) (h2 : parL (l.drop 1) = none) : psL l acc m = none := by
  rw [psL, dif_pos h, h2]
theorem psL_some (l : List UInt8) (acc : List Prm) (m : Nat) (p : Prm) (n : Nat) (h : l.head? = some 59) (h2 : parL (l.drop 1) = some (p, n)) : psL l acc m = psL (l.drop (1 + n)) (putL acc p) (m + 1 + n) := by
  rw [psL, dif_pos h, h2]

/-! ### in memory -/

def cellsP (p : Prm) : List Value := [.string (strB p.key), .int .i64 p.k, .int .i64 p.n, .string (strB p.s)]
def rowP (ps : List Prm) : List Value := ps.flatMap cellsP
theorem rowP_len (ps : List Prm) : (rowP ps).length = ps.length * 4 := by
  induction ps with
  | nil => rfl
  | cons p ps ih =>
    unfold rowP at ih ⊢
    rw [List.flatMap_cons, List.length_append, ih, List.length_cons]
    show 4 + _ = _
    omega
theorem rowP_snoc (ps : List Prm) (p : Prm) : rowP (ps ++ [p]) = rowP ps ++ cellsP p := by
  simp [rowP, List.flatMap_append]
theorem rowP_set : ∀ (ps : List Prm) (i : Nat) (p : Prm), i < ps.length → rowP (ps.set i p) = ((((rowP ps).set (i * 4) (.string (strB p.key))).set (i * 4 + 1) (.int .i64 p.k)).set (i * 4 + 2) (.int .i64 p.n)).set (i * 4 + 3) (.string (strB p.s))
  | [], i, _, h => by simp at h
  | q :: ps, 0, p, _ => by
    rw [List.set_cons_zero]
    unfold rowP
    rw [List.flatMap_cons, List.flatMap_cons]
    rfl
  | q :: ps, i + 1, p, h => by
    rw [List.set_cons_succ]
    have ih := rowP_set ps i p (by simpa using h)
    unfold rowP at ih ⊢
    rw [List.flatMap_cons, ih, List.flatMap_cons]
    have e : ∀ (j : Nat) (l : List Value) (v : Value), (cellsP q ++ l).set ((i + 1) * 4 + j) v = cellsP q ++ l.set (i * 4 + j) v := by
      intro j l v
      rw [List.set_append, if_neg (by show ¬ _ < 4; omega)]
      congr 2
      show (i + 1) * 4 + j - 4 = _
      omega
    have e0 := e 0
    simp only [Nat.add_zero] at e0
    rw [e0, e 1, e 2, e 3]

theorem ownsRow_moved {w w' : World} {b base : Nat} {e : TypeId} {size : Nat} {v : Value} {n : Nat} {xs : List Value} (h : w.ownsRow base e size v n xs) (hm : Moved b w w') (hb : b < base) : w'.ownsRow base e size v n xs := by
  obtain ⟨h1, h2⟩ := h
  refine ⟨h1, ?_⟩
  rcases h2 with h2 | ⟨g, cap, cur, hv, hg, hh, r⟩
  · exact Or.inl h2
  · exact Or.inr ⟨g, cap, cur, hv, hg, by rw [hm.block g (Array.getElem?_eq_some_iff.1 hh).1 (by omega)]; exact hh, r⟩
theorem ownsMap_moved {H : Type} {w w' : World} {P : Program} {k : TypeId} {R : Value → Option (DataW H × List MemPlace)} {b c n : Nat} {D : DataW H} (h : w.ownsMap P k R c n D) (hm : Moved b w w') (hb : c ≠ b) : w'.ownsMap P k R c n D := by
  have hlt := h.lt
  obtain ⟨es, clock, hh, F, hs, hD⟩ := h
  exact ⟨es, clock, (hm.block c hlt hb).trans hh, F, hs, hD⟩
theorem Moved.grown {b : Nat} {w W V : World} {row : Option Nat} (h : Moved b w W) (hg : W.grownBy V row) (hr : ∀ k, row = some k → w.heap.size ≤ k) : Moved b w V :=
  ⟨hg.os.trans h.os, hg.tape.trans h.tape, hg.output.trans h.output, Nat.le_trans h.size hg.size, fun k hk hb => (hg.block k (Nat.lt_of_lt_of_le hk h.size) (fun e => by have := hr k e.symm; omega)).trans (h.block k hk hb)⟩
theorem Par.grown {W V : World} {b : Nat} {t : ByteArray} {k : Nat} {row : Option Nat} (h : Par W b t k) (hg : W.grownBy V row) (hb : some b ≠ row) : Par V b t k := by
  have hbl := hg.block b h.lt hb
  have hc : ∀ o, V.cell? ⟨b, o, none⟩ = W.cell? ⟨b, o, none⟩ := fun o => World.cell?_of_block (w := W) (a := ⟨b, o, none⟩) hbl
  have hf : ∀ o, V.frozen? ⟨b, o, none⟩ = W.frozen? ⟨b, o, none⟩ := fun o => World.frozen?_of_block (w := W) (a := ⟨b, o, none⟩) hbl
  exact ⟨(hc 0).trans h.text, (hc 1).trans h.at_, (hf 0).trans h.f0, (hf 1).trans h.f1⟩

/-! ### the places -/

/-- A map's datum that has the place of each key. -/
def PlaceOf (D : DataW Unit) (ks : List (List UInt8)) : Prop :=
  IsMap D ∧ ∀ k, Maps.has D (.string k) = decide (k ∈ ks) ∧ (k ∈ ks → ∀ z, D.atKey (.string k) z = .lit (.int .i64 (idxL ks k : Int)))
theorem placeOf_none : PlaceOf (.map []) [] := ⟨isMap_empty, fun k => ⟨by simp [Maps.has], fun h => by simp at h⟩⟩
theorem placeOf_put {D : DataW Unit} {ks : List (List UInt8)} (h : PlaceOf D ks) (k : List UInt8) (hk : k ∉ ks) : PlaceOf (D.put (.string k) (.lit (.int .i64 (ks.length : Int)))) (ks ++ [k]) := by
  obtain ⟨h1, h2⟩ := h
  refine ⟨h1.put _ _, fun q => ?_⟩
  by_cases hq : q = k
  · subst hq
    refine ⟨?_, fun _ z => ?_⟩
    · rw [has_put_same h1 (show WideAt.IsKeyLit (.string q) from trivial)]; simp
    · rw [atKey_put_same h1 (show WideAt.IsKeyLit (.string q) from trivial)]
      have : idxL (ks ++ [q]) q = ks.length := by
        unfold idxL
        rw [List.findIdx_append]
        have hn : ¬ ks.findIdx (· == q) < ks.length := fun hlt => hk ((idxL_lt ks q).1 hlt)
        rw [if_neg hn]
        simp [List.findIdx_cons]
      rw [this]
  · have hne : (Lit.string q) ≠ .string k := by simpa using hq
    refine ⟨?_, fun hm z => ?_⟩
    · rw [has_put_other hne, (h2 q).1]
      simp [hq]
    · have hm2 : q ∈ ks := by simpa [hq] using hm
      rw [atKey_put_other hne, (h2 q).2 hm2]
      have : idxL (ks ++ [k]) q = idxL ks q := by
        unfold idxL
        rw [List.findIdx_append, if_pos (show List.findIdx _ ks < ks.length from (idxL_lt ks q).2 hm2)]
      rw [this]

end Go.Proofs.YtcjnigmklijjiaaDoor
