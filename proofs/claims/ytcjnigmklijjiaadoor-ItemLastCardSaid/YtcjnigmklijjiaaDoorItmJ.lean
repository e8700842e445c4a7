/- Parameters in memory as an argument, and the contract of item.hasEqualKeys. -/
import Derived.Test.YtcjnigmklijjiaaDoorItmF
import Derived.Maps.OwnSet
namespace Go.Proofs.YtcjnigmklijjiaaDoor
open Go.RowKit Go.Maps
open Go.WideMaps (keyOf_string_mk)

/-- A slice of parameters in memory. -/
def Prms (w : World) (v : Value) (ps : List Prm) : Prop :=
  ∃ ao cap, v = .slice ao ps.length cap ∧ (ps = [] ∨ ∃ b off, ao = some ⟨b, off, none⟩ ∧ ∀ j u, (rowP ps)[j]? = some u → w.cell? ⟨b, off + j, none⟩ = some u)

theorem Prms.of_own {w : World} {base : Nat} {e : TypeId} {v : Value} {ps : List Prm} (h : w.ownsRow base e 4 v ps.length (rowP ps)) : Prms w v ps := by
  rcases h.2 with ⟨hv, h2⟩ | ⟨g, cap, cur, hv, hg, hh, hc, hr⟩
  · have : ps = [] := List.eq_nil_of_length_eq_zero h2
    subst this
    exact ⟨none, 0, hv, .inl rfl⟩
  · refine ⟨_, cap, hv, .inr ⟨g, 0, rfl, fun j u hu => ?_⟩⟩
    have := World.ownsRow.cells h (g := g) (by rw [hv]; rfl) j u hu
    rw [add_none] at this
    rw [Nat.zero_add]; exact this

theorem Prms.below {w W : World} {v : Value} {ps : List Prm} (h : Prms w v ps) (hb : Below w.heap.size w W) : Prms W v ps := by
  obtain ⟨ao, cap, hv, h⟩ := h
  refine ⟨ao, cap, hv, ?_⟩
  rcases h with h | ⟨b, off, ha, h⟩
  · exact .inl h
  · exact .inr ⟨b, off, ha, fun j u hu => by have := h j u hu; exact (hb.cell (p := ⟨b, off + j, none⟩) (lt_of_cell this)).trans this⟩

theorem rowP_at : ∀ (ps : List Prm) (i : Nat) (p : Prm), ps[i]? = some p → (rowP ps)[i * 4]? = some (.string (strB p.key)) ∧ (rowP ps)[i * 4 + 1]? = some (.int .i64 p.k) ∧ (rowP ps)[i * 4 + 2]? = some (.int .i64 p.n) ∧ (rowP ps)[i * 4 + 3]? = some (.string (strB p.s))
  | [], i, p, h => by simp at h
  | q :: ps, 0, p, h => by
    simp only [List.getElem?_cons_zero, Option.some.injEq] at h
    subst h
    unfold rowP
    rw [List.flatMap_cons]
    exact ⟨rfl, rfl, rfl, rfl⟩
  | q :: ps, i + 1, p, h => by
    have ih := rowP_at ps i p (by simpa using h)
    unfold rowP at ih ⊢
    rw [List.flatMap_cons]
    have e : ∀ j, (cellsP q ++ ps.flatMap cellsP)[(i + 1) * 4 + j]? = (ps.flatMap cellsP)[i * 4 + j]? := by
      intro j
      rw [List.getElem?_append_right (by show 4 ≤ _; omega)]
      congr 1
      show (i + 1) * 4 + j - 4 = _
      omega
    have e0 := e 0
    simp only [Nat.add_zero] at e0
    rw [e0, e 1, e 2, e 3]
    exact ih

/-- A map's datum that is a set of keys. -/
def KeySet (D : DataW Unit) (ks : List (List UInt8)) : Prop :=
  Tidy D ∧ (∀ k, Maps.has D (.string k) = decide (k ∈ ks)) ∧ Maps.size D ≤ ks.length ∧ (Maps.size D = ks.length ↔ ks.Nodup)
theorem keySet_none : KeySet (.map []) [] := ⟨tidy_empty, fun k => by simp [Maps.has], by simp [Maps.size], by simp [Maps.size]⟩
theorem keySet_put {D : DataW Unit} {ks : List (List UInt8)} (h : KeySet D ks) (k : List UInt8) (d : DataW Unit) : KeySet (D.put (.string k) d) (ks ++ [k]) := by
  obtain ⟨h1, h2, h3, h4⟩ := h
  have hk : WideAt.IsKeyLit (.string k) := trivial
  refine ⟨h1.put hk d, fun q => ?_, ?_, ?_⟩
  · by_cases hq : q = k
    · subst hq
      rw [has_put_same h1.isMap hk]; simp
    · rw [has_put_other (by simpa using hq), h2]
      simp [hq]
  · rw [size_put h1, List.length_append, List.length_singleton]
    split <;> omega
  · rw [size_put h1, h2, List.length_append, List.length_singleton]
    by_cases hm : k ∈ ks
    · rw [if_pos (by simpa using hm)]
      constructor
      · intro e; omega
      · intro hn
        rw [List.nodup_append] at hn
        exact absurd rfl (hn.2.2 k hm k (by simp))
    · rw [if_neg (by simpa using hm)]
      constructor
      · intro e
        rw [List.nodup_append]
        refine ⟨h4.1 (by omega), by simp, fun a ha b hb => ?_⟩
        simp only [List.mem_singleton] at hb
        subst hb
        intro e2
        subst e2
        exact hm ha
      · intro hn
        rw [List.nodup_append] at hn
        have := h4.2 hn.1
        omega

/-- Whether two keys are equal. -/
def eqK (ps : List Prm) : Bool := !decide (ps.map Prm.key).Nodup

set_option maxRecDepth 100000 in
set_option maxHeartbeats 2000000 in
theorem hasEqualKeys_any (v : Value) (ps : List Prm) (w : World) (h : Prms w v ps) (hl : ps.length ≤ 100000) (hk : ∀ p ∈ ps, p.key.length ≤ 100000) :
    Calls Tryd.prog 19 #[v] w fun e w' => e = .returned (.bool (eqK ps)) ∧ Below w.heap.size w w' := by
  obtain ⟨ao, cap, rfl, hc⟩ := h
  have Hmap0 := Lib.hid (World.ownsMap_made (H := Unit) w Tryd.prog 9 unitElem)
  have HB0 : Hid (Below w.heap.size w (w.alloc (.map #[] 0))) := Lib.hid ((Below.refl _ _).alloc (Nat.le_refl _) _)
  have hmm := @run_makeMap Tryd.prog
  have HK := Lib.hid hk
  have HC := Lib.hid hc
  clear hk hc
  go_enter Tryd.func19, Tryd.ntmps19
  go_wp2_with fail
  clear hmm
  go_loopw [9] (fun i wr => ∃ (j : Nat) (D : DataW Unit), i = .int .i64 j ∧ j ≤ ps.length ∧ wr.ownsMap Tryd.prog 9 unitElem w.heap.size j D ∧ Hid (KeySet D ((ps.take j).map Prm.key)) ∧ Below w.heap.size w wr) (fun i _ => ps.length - (intOf i).toNat)
  case atStart => exact ⟨0, .map [], rfl, Nat.zero_le _, Hmap0.out, Lib.hid keySet_none, HB0.out⟩
  case round =>
    obtain ⟨j, D, rfl, hj, hmap, HD, hb⟩ := hrel
    clear Hmap0 HB0
    by_cases hlt : j < ps.length
    · rcases HC.out with hnil | ⟨c, off, rfl, hcell⟩
      · exfalso
        rw [hnil] at hlt
        simp at hlt
      · obtain ⟨p, hp⟩ : ∃ p, ps[j]? = some p := ⟨_, List.getElem?_eq_getElem hlt⟩
        obtain ⟨q0, q1, q2, q3⟩ := rowP_at ps j p hp
        have hcl : c < w.heap.size := lt_of_cell (hcell _ _ q0)
        have a0 := (hb.cell (p := ⟨c, off + j * 4, none⟩) hcl).trans (hcell _ _ q0)
        have a1 := (hb.cell (p := ⟨c, off + (j * 4 + 1), none⟩) hcl).trans (hcell _ _ q1)
        have a2 := (hb.cell (p := ⟨c, off + (j * 4 + 2), none⟩) hcl).trans (hcell _ _ q2)
        have a3 := (hb.cell (p := ⟨c, off + (j * 4 + 3), none⟩) hcl).trans (hcell _ _ q3)
        simp only [← Nat.add_assoc] at a1 a2 a3
        have hkl := HK.out p (List.mem_of_getElem? hp)
        have Hkey : Hid (keyOf Tryd.prog 9 (.string (strB p.key)) = some (.string p.key)) := Lib.hid (keyOf_string_mk Tryd.underlying9 (by rw [strB_size]; unfold maxLen; omega))
        have Htk : Hid ((ps.take (j + 1)).map Prm.key = (ps.take j).map Prm.key ++ [p.key]) := Lib.hid (by
          rw [List.take_add_one, hp]; simp)
        have hm1 := hmap.alloc (.cells #[.string (strB p.key), .int .i64 p.k, .int .i64 p.n, .string (strB p.s)] 41)
        have HM1 := Lib.hid hm1
        have HB := Lib.hid hb
        have hml : w.heap.size < wr.heap.size := hmap.lt
        clear hcell q0 q1 q2 q3 hp hm1 hb hmap
        go_wp2_with (at_mapUpdate; refine wpList_mapUpdate_own _ rfl _ _ _ 85 rfl 9 _ (string_keyed Tryd.underlying9) Tryd.underlying85 _ w.heap.size j _ rfl HM1.out (by unfold maxLen; omega) _ _ _ rfl rfl Hkey.out _ [] (unitElem_mk (H := Unit)) ?_; intro w4 hmap4 hgrow4)
        go_roundw
        case rel =>
          refine ⟨j + 1, D.put (.string p.key) (.agg []), by go_num, by omega, hmap4, Lib.hid ?_, ?_⟩
          · rw [Htk.out]; exact keySet_put HD.out _ _
          · exact (HB.out.alloc (by omega) _).grown hgrow4 (by simp; omega) (fun k e => by cases e; exact Nat.le_refl _)
        case measure => simp [intOf]; omega
    · obtain rfl : j = ps.length := by omega
      have hks := HD.out
      rw [List.take_length] at hks
      have Hr : Hid (decide ((Maps.size D : Int) < (ps.length : Int)) = eqK ps) := Lib.hid (by
        obtain ⟨_, _, h3, h4⟩ := hks
        rw [List.length_map] at h3 h4
        rw [eqK, Bool.eq_iff_iff]
        simp only [decide_eq_true_eq, Bool.not_eq_true', decide_eq_false_iff_not]
        rw [← h4]
        omega)
      have Hmap := Lib.hid hmap
      have HB := Lib.hid hb
      clear hks hmap hb
      go_wp2_with (at_len; refine wpList_len_own _ rfl _ 85 rfl 9 _ Tryd.underlying85 _ w.heap.size ps.length _ rfl Hmap.out ?_)
      go_ret
      exact ⟨ret_eq (bool_eq (by first | exact Hr.out | (rw [← Hr.out]; simp))), HB.out⟩

end Go.Proofs.YtcjnigmklijjiaaDoor
