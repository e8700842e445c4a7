/- Fields in memory. · Plain: a trimmed text is no longer. -/
import Derived.Test.YtjnagifolheloaaDoorMFldP
import Derived.Test.YtjnagifolheloaaDoorMHdO
import Derived.Test.YtjnagifolheloaaDoorMTrimP
import Derived.Test.YtjnagifolheloaaDoorMBasP

namespace Go.Proofs.YtjnagifolheloaaDoor
open Go.RowKit Go.Lib

/-- Fields in memory, read only, from a block on. -/
def Flds (lo : Nat) (w : World) (v : Value) (fs : List Fld) : Prop :=
  ∃ ao cap, v = .slice ao fs.length cap ∧ (fs = [] ∨ ∃ b off, ao = some ⟨b, off, none⟩ ∧ lo ≤ b ∧ b < w.heap.size ∧ ∀ j p, fs[j]? = some p → w.cell? ⟨b, off + j * 2, none⟩ = some (.string (strB p.1)) ∧ w.cell? ⟨b, off + j * 2 + 1, none⟩ = some (.string (strB p.2)))

theorem Flds.nothing (lo : Nat) (w : World) : Flds lo w (.slice none 0 0) [] := ⟨none, 0, rfl, .inl rfl⟩
theorem Flds.below {lo : Nat} {w w' : World} {v : Value} {fs : List Fld} (h : Flds lo w v fs) (hb : Below w.heap.size w w') : Flds lo w' v fs := by
  obtain ⟨ao, cap, hv, hc⟩ := h
  rcases hc with hc | ⟨b, off, h1, h0, h2, h3⟩
  · exact ⟨ao, cap, hv, .inl hc⟩
  · exact ⟨ao, cap, hv, .inr ⟨b, off, h1, h0, Nat.lt_of_lt_of_le h2 hb.size, fun j p hj => ⟨(hb.cell (p := ⟨b, off + j * 2, none⟩) h2).trans (h3 j p hj).1, (hb.cell (p := ⟨b, off + j * 2 + 1, none⟩) h2).trans (h3 j p hj).2⟩⟩⟩
theorem Flds.low {lo lo' : Nat} {w : World} {v : Value} {fs : List Fld} (h : Flds lo w v fs) (hl : lo' ≤ lo) : Flds lo' w v fs := by
  obtain ⟨ao, cap, hv, hc⟩ := h
  rcases hc with hc | ⟨b, off, h1, h0, h2, h3⟩
  · exact ⟨ao, cap, hv, .inl hc⟩
  · exact ⟨ao, cap, hv, .inr ⟨b, off, h1, Nat.le_trans hl h0, h2, h3⟩⟩
theorem rowF_at : ∀ (fs : List Fld) (j : Nat) (p : Fld), fs[j]? = some p → (rowF fs)[j * 2]? = some (.string (strB p.1)) ∧ (rowF fs)[j * 2 + 1]? = some (.string (strB p.2))
  | [], _, _, h => by simp at h
  | q :: fs, 0, p, h => by
    obtain rfl : q = p := by simpa using h
    exact ⟨rfl, rfl⟩
  | q :: fs, j + 1, p, h => by
    have ih := rowF_at fs j p (by simpa using h)
    have e1 : (j + 1) * 2 = j * 2 + 1 + 1 := by omega
    rewrite [e1, rowF]
    exact ih
theorem Flds.of_own {lo base : Nat} {w : World} {v : Value} {fs : List Fld} (h : w.ownsRow base 47 2 v fs.length (rowF fs)) (hl : lo ≤ base) : Flds lo w v fs := by
  obtain ⟨ao, cap, rfl⟩ := owns_formF h
  refine ⟨ao, cap, rfl, ?_⟩
  by_cases hx : fs = []
  · exact .inl hx
  · have hpos : 0 < fs.length := List.length_pos_iff.2 hx
    obtain ⟨g, cap2, hv, hg, hlt, _⟩ := owns_sliceF h hpos
    obtain ⟨rfl, _, rfl⟩ := Value.slice.inj hv
    refine .inr ⟨g, 0, rfl, Nat.le_trans hl hg, hlt, fun j p hj => ?_⟩
    obtain ⟨h1, h2⟩ := rowF_at fs j p hj
    rewrite [Nat.zero_add]
    exact ⟨owns_cellsF h _ _ h1, owns_cellsF h _ _ h2⟩

/-- What bounds fields. -/
def FldsOk (fs : List Fld) : Prop := fs.length ≤ 100000 ∧ ∀ p ∈ fs, p.1.length ≤ 100000 ∧ p.2.length ≤ 100000

end Go.Proofs.YtjnagifolheloaaDoor

namespace Go.Proofs.YtjnagifolheloaaDoor

theorem dropWhile_le (p : UInt8 → Bool) : ∀ l : List UInt8, (l.dropWhile p).length ≤ l.length
  | [] => Nat.le_refl _
  | c :: l => by
    have := dropWhile_le p l
    rewrite [List.dropWhile_cons]
    split
    · simp only [List.length_cons]; omega
    · exact Nat.le_refl _

theorem trimL_le (l : List UInt8) : (trimL l).length ≤ l.length := by
  unfold trimL trL tlL
  have h1 := dropWhile_le blkB (List.dropWhile blkB l).reverse
  have h2 := dropWhile_le blkB l
  simp only [List.length_reverse] at h1 ⊢
  omega

/-- A text that may be a field's value. -/
def txtL (l : List UInt8) : Bool := l.all (fun c => txtI c.toNat) && (trimL l == l)

end Go.Proofs.YtjnagifolheloaaDoor
