/- Plain: rows that a call owns; a map's datum that is a set of keys. (As in the texts of package item, which this seat does not have.) -/
import Derived.Test.YtjnagifolheloaaDoorMBasP
import Derived.Maps.OwnSet
import Derived.Laws.AppendOwn

namespace Go.Proofs.YtjnagifolheloaaDoor
open Go.RowKit Go.Maps
open Go.WideMaps (keyOf_string_mk)

theorem owns_sliceF {w : World} {base : Nat} {e : TypeId} {size : Nat} {v : Value} {n : Nat} {xs : List Value} (h : w.ownsRow base e size v n xs) (hn : 0 < n) : ∃ g cap, v = .slice (some ⟨g, 0, none⟩) n cap ∧ base ≤ g ∧ g < w.heap.size ∧ n ≤ cap := by
  rcases h.2 with ⟨_, h2⟩ | ⟨g, cap, cur, hv, hg, hh, hc, _⟩
  · omega
  · exact ⟨g, cap, hv, hg, (Array.getElem?_eq_some_iff.1 hh).1, hc⟩
theorem owns_cellsF {w : World} {base : Nat} {e : TypeId} {size n g cap : Nat} {xs : List Value} (h : w.ownsRow base e size (.slice (some ⟨g, 0, none⟩) n cap) n xs) (j : Nat) (u : Value) (hj : xs[j]? = some u) : w.cell? ⟨g, j, none⟩ = some u := by
  have := World.ownsRow.cells h (g := g) rfl j u hj
  rw [add_none] at this
  exact this

/-- A map's datum that is a set of keys. -/
def KsetF (D : DataW Unit) (ks : List (List UInt8)) : Prop :=
  Tidy D ∧ (∀ k, Maps.has D (.string k) = decide (k ∈ ks)) ∧ Maps.size D ≤ ks.length ∧ (Maps.size D = ks.length ↔ ks.Nodup)
theorem ksetF_none : KsetF (.map []) [] := ⟨tidy_empty, fun k => by simp [Maps.has], by simp [Maps.size], by simp [Maps.size]⟩
theorem ksetF_put {D : DataW Unit} {ks : List (List UInt8)} (h : KsetF D ks) (k : List UInt8) (d : DataW Unit) : KsetF (D.put (.string k) d) (ks ++ [k]) := by
  obtain ⟨h1, h2, h3, h4⟩ := h
  have hk : WideAt.IsKeyLit (.string k) := trivial
  refine ⟨h1.put hk d, fun q => ?_, ?_, ?_⟩
  · by_cases hq : q = k
    · subst hq
      rw [has_put_same h1.isMap hk]; simp
    · rw [has_put_other (by simpa using hq), h2]
      simp [hq]
  · rw [size_put h1, List.length_append, List.length_singleton]
    split <;> omega
  · rw [size_put h1, h2, List.length_append, List.length_singleton]
    by_cases hm : k ∈ ks
    · rw [if_pos (by simpa using hm)]
      constructor
      · intro e; omega
      · intro hn
        rw [List.nodup_append] at hn
        exact absurd rfl (hn.2.2 k hm k (by simp))
    · rw [if_neg (by simpa using hm)]
      constructor
      · intro e
        rw [List.nodup_append]
        refine ⟨h4.1 (by omega), by simp, fun a ha b hb => ?_⟩
        simp only [List.mem_singleton] at hb
        subst hb
        intro e2
        subst e2
        exact hm ha
      · intro hn
        rw [List.nodup_append] at hn
        have := h4.2 hn.1
        omega

end Go.Proofs.YtjnagifolheloaaDoor
