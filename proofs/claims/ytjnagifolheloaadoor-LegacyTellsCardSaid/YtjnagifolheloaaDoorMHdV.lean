/- Plain: texts in memory; the values of a name; fields without names. -/
import Derived.Test.YtjnagifolheloaaDoorMFldQ

namespace Go.Proofs.YtjnagifolheloaaDoor
open Go.RowKit

/-- A slice of texts in memory. -/
def StrsF (w : World) (v : Value) (ps : List (List UInt8)) : Prop :=
  ∃ ao cap, v = .slice ao ps.length cap ∧ (ps = [] ∨ ∃ b off, ao = some ⟨b, off, none⟩ ∧ b < w.heap.size ∧ ∀ j q, ps[j]? = some q → w.cell? ⟨b, off + j, none⟩ = some (.string (strB q)))
theorem StrsF.below {w w' : World} {v : Value} {ps : List (List UInt8)} (h : StrsF w v ps) (hb : Below w.heap.size w w') : StrsF w' v ps := by
  obtain ⟨ao, cap, hv, hc⟩ := h
  rcases hc with hc | ⟨b, off, h1, h2, h3⟩
  · exact ⟨ao, cap, hv, .inl hc⟩
  · exact ⟨ao, cap, hv, .inr ⟨b, off, h1, Nat.lt_of_lt_of_le h2 hb.size, fun j q hj => (hb.cell (p := ⟨b, off + j, none⟩) h2).trans (h3 j q hj)⟩⟩
/-- A row of texts. -/
def rowS (ps : List (List UInt8)) : List Value := ps.map fun q => .string (strB q)
theorem StrsF.of_own {base : Nat} {w : World} {v : Value} {ps : List (List UInt8)} (h : w.ownsRow base 9 1 v ps.length (rowS ps)) : StrsF w v ps := by
  obtain ⟨ao, cap, rfl⟩ := owns_formF h
  refine ⟨ao, cap, rfl, ?_⟩
  by_cases hx : ps = []
  · exact .inl hx
  · obtain ⟨g, cap2, hv, hg, hlt, _⟩ := owns_sliceF h (List.length_pos_iff.2 hx)
    obtain ⟨rfl, _, rfl⟩ := Value.slice.inj hv
    refine .inr ⟨g, 0, rfl, hlt, fun j q hj => ?_⟩
    rw [Nat.zero_add]
    exact owns_cellsF h _ _ (by rw [rowS, List.getElem?_map, hj]; rfl)

/-- The fields that have none of the names. -/
def withoutH (fs : List Fld) (ns : List (List UInt8)) : List Fld := fs.filter fun p => !decide (p.1 ∈ ns)
theorem withoutH_yes (fs : List Fld) (ns : List (List UInt8)) (p : Fld) (h : p.1 ∈ ns) : withoutH (fs ++ [p]) ns = withoutH fs ns := by simp [withoutH, h]
theorem withoutH_no (fs : List Fld) (ns : List (List UInt8)) (p : Fld) (h : ¬ p.1 ∈ ns) : withoutH (fs ++ [p]) ns = withoutH fs ns ++ [p] := by simp [withoutH, h]
/-- The values of the fields of a name. -/
def allH (fs : List Fld) (name : List UInt8) : List (List UInt8) := (fs.filter fun p => decide (p.1 = name)).map Prod.snd
theorem allH_yes (fs : List Fld) (name : List UInt8) (p : Fld) (h : p.1 = name) : allH (fs ++ [p]) name = allH fs name ++ [p.2] := by simp [allH, h]
theorem allH_no (fs : List Fld) (name : List UInt8) (p : Fld) (h : ¬ p.1 = name) : allH (fs ++ [p]) name = allH fs name := by simp [allH, h]
theorem allH_len (fs : List Fld) (name : List UInt8) : (allH fs name).length ≤ fs.length := by
  rw [allH, List.length_map]
  exact List.length_filter_le _ _
theorem allH_take (fs : List Fld) (name : List UInt8) (k : Nat) : allH (fs.take k) name <+: allH fs name := by
  unfold allH
  exact List.IsPrefix.map _ (List.IsPrefix.filter _ (List.take_prefix k fs))

theorem allH_in {fs : List Fld} {name q : List UInt8} (h : q ∈ allH fs name) : ∃ p ∈ fs, p.1 = name ∧ p.2 = q := by
  unfold allH at h
  obtain ⟨p, hp, rfl⟩ := List.mem_map.1 h
  obtain ⟨h1, h2⟩ := List.mem_filter.1 hp
  exact ⟨p, h1, by simpa using h2, rfl⟩

theorem info_strF : (Tryd.prog.info? 9).map (fun i => (i.zero, i.size, i.bytes)) = some (some (.string ⟨#[]⟩), 1, 16) := by kernel_rfl

theorem allH_snoc (fs : List Fld) (p : Fld) (name : List UInt8) : allH (fs ++ [p]) name = if p.1 = name then allH fs name ++ [p.2] else allH fs name := by
  unfold allH
  rw [List.filter_append, List.map_append]
  by_cases h : p.1 = name
  · rw [if_pos h]; simp [h]
  · rw [if_neg h]; simp [h]
theorem rowS_snoc (ps : List (List UInt8)) (p : List UInt8) : rowS (ps ++ [p]) = rowS ps ++ [.string (strB p)] := by simp [rowS]
theorem cell_newS (w : World) (s : ByteArray) (j : Nat) (u : Value) (h : [Value.string s][j]? = some u) : (w.alloc (.cells #[.string s] 9)).cell? ((⟨w.heap.size, 0, none⟩ : Addr).add j) = some u := by
  rw [add_none]
  match j, h with
  | 0, h => obtain rfl := Option.some.inj h; simp

theorem ownsRow_lowF {w : World} {base B : Nat} {e : TypeId} {size : Nat} {v : Value} {n : Nat} {xs : List Value} (h : w.ownsRow base e size v n xs) (hB : B ≤ base) : w.ownsRow B e size v n xs := by
  obtain ⟨h1, h2⟩ := h
  refine ⟨h1, ?_⟩
  rcases h2 with h2 | ⟨g, cap, cur, hv, hg, r⟩
  · exact .inl h2
  · exact .inr ⟨g, cap, cur, hv, Nat.le_trans hB hg, r⟩

end Go.Proofs.YtjnagifolheloaaDoor
