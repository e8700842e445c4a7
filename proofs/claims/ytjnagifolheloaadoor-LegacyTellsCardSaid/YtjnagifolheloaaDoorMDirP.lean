/- Directives in memory: rows of three cells. -/
import Derived.Test.YtjnagifolheloaaDoorMLeP
import Derived.Test.YtjnagifolheloaaDoorMFldP
import Derived.Test.YtjnagifolheloaaDoorMHdO

namespace Go.Proofs.YtjnagifolheloaaDoor
open Go.RowKit Go.Lib

/-- A directive's cells. -/
def cellsD (d : Dir) : List Value := [.string (strB d.1), .string (strB d.2.1), .bool d.2.2]
def rowD : List Dir → List Value
  | [] => []
  | p :: ps => cellsD p ++ rowD ps
theorem rowD_len : ∀ ps : List Dir, (rowD ps).length = ps.length * 3
  | [] => rfl
  | p :: ps => by rw [rowD, List.length_append, rowD_len ps, List.length_cons]; simp [cellsD]; omega
theorem rowD_snoc : ∀ (ps : List Dir) (p : Dir), rowD (ps ++ [p]) = rowD ps ++ cellsD p
  | [], p => by simp [rowD]
  | q :: ps, p => by rw [List.cons_append, rowD, rowD, rowD_snoc ps p, List.append_assoc]
/-- A directive as a value. -/
def dirV (d : Dir) : Value := .agg #[.string (strB d.1), .string (strB d.2.1), .bool d.2.2]

/-- Directives in memory, read only, from a block on. -/
def Dirs (lo : Nat) (w : World) (v : Value) (ds : List Dir) : Prop :=
  ∃ ao cap, v = .slice ao ds.length cap ∧ (ds = [] ∨ ∃ b off, ao = some ⟨b, off, none⟩ ∧ lo ≤ b ∧ b < w.heap.size ∧ ∀ j d, ds[j]? = some d → w.cell? ⟨b, off + j * 3, none⟩ = some (.string (strB d.1)) ∧ w.cell? ⟨b, off + j * 3 + 1, none⟩ = some (.string (strB d.2.1)) ∧ w.cell? ⟨b, off + j * 3 + 2, none⟩ = some (.bool d.2.2))

theorem Dirs.nothing (lo : Nat) (w : World) : Dirs lo w (.slice none 0 0) [] := ⟨none, 0, rfl, .inl rfl⟩
theorem Dirs.below {lo : Nat} {w w' : World} {v : Value} {ds : List Dir} (h : Dirs lo w v ds) (hb : Below w.heap.size w w') : Dirs lo w' v ds := by
  obtain ⟨ao, cap, hv, hc⟩ := h
  rcases hc with hc | ⟨b, off, h1, h0, h2, h3⟩
  · exact ⟨ao, cap, hv, .inl hc⟩
  · exact ⟨ao, cap, hv, .inr ⟨b, off, h1, h0, Nat.lt_of_lt_of_le h2 hb.size, fun j d hj => ⟨(hb.cell (p := ⟨b, off + j * 3, none⟩) h2).trans (h3 j d hj).1, (hb.cell (p := ⟨b, off + j * 3 + 1, none⟩) h2).trans (h3 j d hj).2.1, (hb.cell (p := ⟨b, off + j * 3 + 2, none⟩) h2).trans (h3 j d hj).2.2⟩⟩⟩
theorem Dirs.low {lo lo' : Nat} {w : World} {v : Value} {ds : List Dir} (h : Dirs lo w v ds) (hl : lo' ≤ lo) : Dirs lo' w v ds := by
  obtain ⟨ao, cap, hv, hc⟩ := h
  rcases hc with hc | ⟨b, off, h1, h0, h2, h3⟩
  · exact ⟨ao, cap, hv, .inl hc⟩
  · exact ⟨ao, cap, hv, .inr ⟨b, off, h1, Nat.le_trans hl h0, h2, h3⟩⟩
theorem rowD_at : ∀ (ds : List Dir) (j : Nat) (d : Dir), ds[j]? = some d → (rowD ds)[j * 3]? = some (.string (strB d.1)) ∧ (rowD ds)[j * 3 + 1]? = some (.string (strB d.2.1)) ∧ (rowD ds)[j * 3 + 2]? = some (.bool d.2.2)
  | [], _, _, h => by simp at h
  | q :: ds, 0, d, h => by
    obtain rfl : q = d := by simpa using h
    exact ⟨rfl, rfl, rfl⟩
  | q :: ds, j + 1, d, h => by
    have ih := rowD_at ds j d (by simpa using h)
    have e1 : (j + 1) * 3 = j * 3 + 1 + 1 + 1 := by omega
    rw [e1, rowD]
    exact ih
theorem Dirs.of_own {lo base : Nat} {e : TypeId} {w : World} {v : Value} {ds : List Dir} (h : w.ownsRow base e 3 v ds.length (rowD ds)) (hl : lo ≤ base) : Dirs lo w v ds := by
  obtain ⟨ao, cap, rfl⟩ := owns_formF h
  refine ⟨ao, cap, rfl, ?_⟩
  by_cases hx : ds = []
  · exact .inl hx
  · have hpos : 0 < ds.length := List.length_pos_iff.2 hx
    obtain ⟨g, cap2, hv, hg, hlt, _⟩ := owns_sliceF h hpos
    obtain ⟨rfl, _, rfl⟩ := Value.slice.inj hv
    refine .inr ⟨g, 0, rfl, Nat.le_trans hl hg, hlt, fun j d hj => ?_⟩
    obtain ⟨h1, h2, h3⟩ := rowD_at ds j d hj
    rw [Nat.zero_add]
    exact ⟨owns_cellsF h _ _ h1, owns_cellsF h _ _ h2, owns_cellsF h _ _ h3⟩

/-- What bounds directives. -/
def DirsOk (ds : List Dir) : Prop := ds.length ≤ 100000 ∧ ∀ d ∈ ds, d.1.length ≤ 100000 ∧ d.2.1.length ≤ 100000

/-- Three cells lie at a block, to be written to. -/
structure BoxD (W : World) (c : Nat) (x y z : Value) : Prop where
  r0 : W.cell? ⟨c, 0, none⟩ = some x
  r1 : W.cell? ⟨c, 1, none⟩ = some y
  r2 : W.cell? ⟨c, 2, none⟩ = some z
  g0 : W.frozen? ⟨c, 0, none⟩ = false
  g1 : W.frozen? ⟨c, 1, none⟩ = false
  g2 : W.frozen? ⟨c, 2, none⟩ = false
theorem BoxD.made (w : World) (x y z : Value) (T : TypeId) : BoxD (w.alloc (.cells #[x, y, z] T)) w.heap.size x y z := ⟨by simp, by simp, by simp, by simp, by simp, by simp⟩
theorem BoxD.lt {W : World} {c : Nat} {x y z : Value} (h : BoxD W c x y z) : c < W.heap.size := lt_of_cell h.r0
theorem BoxD.next {W W1 : World} {c : Nat} {x y z : Value} (h : BoxD W c x y z) (hb : Below W.heap.size W W1) : BoxD W1 c x y z :=
  ⟨(hb.cell (p := ⟨c, 0, none⟩) h.lt).trans h.r0, (hb.cell (p := ⟨c, 1, none⟩) h.lt).trans h.r1, (hb.cell (p := ⟨c, 2, none⟩) h.lt).trans h.r2, (hb.frozen (p := ⟨c, 0, none⟩) h.lt).trans h.g0, (hb.frozen (p := ⟨c, 1, none⟩) h.lt).trans h.g1, (hb.frozen (p := ⟨c, 2, none⟩) h.lt).trans h.g2⟩
theorem BoxD.put {W : World} {c : Nat} {x y z : Value} (h : BoxD W c x y z) (x' y' z' : Value) : BoxD (((W.setCell ⟨c, 0, none⟩ x').setCell ⟨c, 1, none⟩ y').setCell ⟨c, 2, none⟩ z') c x' y' z' := by
  have a0 := World.cell?_setCell_same W ⟨c, 0, none⟩ x' h.r0
  have a1 := (World.cell?_setCell_other W ⟨c, 0, none⟩ ⟨c, 1, none⟩ x' (by simp)).trans h.r1
  have a2 := (World.cell?_setCell_other W ⟨c, 0, none⟩ ⟨c, 2, none⟩ x' (by simp)).trans h.r2
  have b0 := (World.cell?_setCell_other (W.setCell ⟨c, 0, none⟩ x') ⟨c, 1, none⟩ ⟨c, 0, none⟩ y' (by simp)).trans a0
  have b1 := World.cell?_setCell_same (W.setCell ⟨c, 0, none⟩ x') ⟨c, 1, none⟩ y' a1
  have b2 := (World.cell?_setCell_other (W.setCell ⟨c, 0, none⟩ x') ⟨c, 1, none⟩ ⟨c, 2, none⟩ y' (by simp)).trans a2
  exact ⟨(World.cell?_setCell_other _ ⟨c, 2, none⟩ ⟨c, 0, none⟩ z' (by simp)).trans b0, (World.cell?_setCell_other _ ⟨c, 2, none⟩ ⟨c, 1, none⟩ z' (by simp)).trans b1, World.cell?_setCell_same _ ⟨c, 2, none⟩ z' b2,
    by rw [World.frozen?_setCell, World.frozen?_setCell, World.frozen?_setCell]; exact h.g0, by rw [World.frozen?_setCell, World.frozen?_setCell, World.frozen?_setCell]; exact h.g1, by rw [World.frozen?_setCell, World.frozen?_setCell, World.frozen?_setCell]; exact h.g2⟩
theorem BoxD.put1 {W : World} {c : Nat} {x y z : Value} (h : BoxD W c x y z) (y' : Value) : BoxD (W.setCell ⟨c, 1, none⟩ y') c x y' z :=
  ⟨(World.cell?_setCell_other W ⟨c, 1, none⟩ ⟨c, 0, none⟩ y' (by simp)).trans h.r0, World.cell?_setCell_same W ⟨c, 1, none⟩ y' h.r1, (World.cell?_setCell_other W ⟨c, 1, none⟩ ⟨c, 2, none⟩ y' (by simp)).trans h.r2,
    by rw [World.frozen?_setCell]; exact h.g0, by rw [World.frozen?_setCell]; exact h.g1, by rw [World.frozen?_setCell]; exact h.g2⟩
theorem BoxD.other {W : World} {c d k : Nat} {x y z : Value} (h : BoxD W c x y z) (hd : d ≠ c) (v : Value) : BoxD (W.setCell ⟨d, k, none⟩ v) c x y z :=
  ⟨(World.cell?_setCell_other W ⟨d, k, none⟩ ⟨c, 0, none⟩ v (by simp <;> omega)).trans h.r0, (World.cell?_setCell_other W ⟨d, k, none⟩ ⟨c, 1, none⟩ v (by simp <;> omega)).trans h.r1, (World.cell?_setCell_other W ⟨d, k, none⟩ ⟨c, 2, none⟩ v (by simp <;> omega)).trans h.r2,
    by rw [World.frozen?_setCell]; exact h.g0, by rw [World.frozen?_setCell]; exact h.g1, by rw [World.frozen?_setCell]; exact h.g2⟩
theorem below_put {w W : World} {c n : Nat} (h : Below n w W) (hc : n ≤ c) (x y z : Value) : Below n w (((W.setCell ⟨c, 0, none⟩ x).setCell ⟨c, 1, none⟩ y).setCell ⟨c, 2, none⟩ z) :=
  ((h.setCell hc _).setCell hc _).setCell hc _
theorem below_set {w W : World} {c n : Nat} (h : Below n w W) (hc : n ≤ c) (k : Nat) (v : Value) : Below n w (W.setCell ⟨c, k, none⟩ v) := h.setCell hc _

end Go.Proofs.YtjnagifolheloaaDoor
