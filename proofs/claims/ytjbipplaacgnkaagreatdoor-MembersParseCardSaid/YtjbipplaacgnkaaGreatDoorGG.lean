/- Parameters in memory as an argument, and the contract of item.hasEqualKeys. · Items in memory, whose parameters lie elsewhere: what is read of them, and what is owned. · The contracts of item.Params and item.Read. · The contract of item.paramText. · The contracts of strings.Builder's copyCheck and WriteString at this translation (its copyCheck ends in a refused place that no run comes to). -/
import Derived.Test.YtjbipplaacgnkaaGreatDoorGF
import Derived.Test.YtjbipplaacgnkaaGreatDoorGE
import Derived.Maps.OwnSet
import Derived.Lib.Builder
import Derived.Lib.AppendStr
import Derived.Lib.UnsafeStr

namespace Go.Proofs.YtjbipplaacgnkaaGreatDoor
open Go.RowKit Go.Maps
open Go.WideMaps (keyOf_string_mk)

/-- A slice of parameters in memory. -/
def Prms (w : World) (v : Value) (ps : List Prm) : Prop :=
  ∃ ao cap, v = .slice ao ps.length cap ∧ (ps = [] ∨ ∃ b off, ao = some ⟨b, off, none⟩ ∧ ∀ j u, (rowP ps)[j]? = some u → w.cell? ⟨b, off + j, none⟩ = some u)

theorem Prms.of_own {w : World} {base : Nat} {e : TypeId} {v : Value} {ps : List Prm} (h : w.ownsRow base e 4 v ps.length (rowP ps)) : Prms w v ps := by
  rcases h.2 with ⟨hv, h2⟩ | ⟨g, cap, cur, hv, hg, hh, hc, hr⟩
  · have : ps = [] := List.eq_nil_of_length_eq_zero h2
    subst this
    exact ⟨none, 0, hv, .inl rfl⟩
  · refine ⟨_, cap, hv, .inr ⟨g, 0, rfl, fun j u hu => ?_⟩⟩
    have := World.ownsRow.cells h (g := g) (by rw [hv]; rfl) j u hu
    rw [add_none] at this
    rw [Nat.zero_add]; exact this

theorem Prms.below {w W : World} {v : Value} {ps : List Prm} (h : Prms w v ps) (hb : Below w.heap.size w W) : Prms W v ps := by
  obtain ⟨ao, cap, hv, h⟩ := h
  refine ⟨ao, cap, hv, ?_⟩
  rcases h with h | ⟨b, off, ha, h⟩
  · exact .inl h
  · exact .inr ⟨b, off, ha, fun j u hu => by have := h j u hu; exact (hb.cell (p := ⟨b, off + j, none⟩) (lt_of_cell this)).trans this⟩

theorem rowP_at : ∀ (ps : List Prm) (i : Nat) (p : Prm), ps[i]? = some p → (rowP ps)[i * 4]? = some (.string (strB p.key)) ∧ (rowP ps)[i * 4 + 1]? = some (.int .i64 p.k) ∧ (rowP ps)[i * 4 + 2]? = some (.int .i64 p.n) ∧ (rowP ps)[i * 4 + 3]? = some (.string (strB p.s))
  | [], i, p, h => by simp at h
  | q :: ps, 0, p, h => by
    simp only [List.getElem?_cons_zero, Option.some.injEq] at h
    subst h
    unfold rowP
    rw [List.flatMap_cons]
    exact ⟨rfl, rfl, rfl, rfl⟩
  | q :: ps, i + 1, p, h => by
    have ih := rowP_at ps i p (by simpa using h)
    unfold rowP at ih ⊢
    rw [List.flatMap_cons]
    have e : ∀ j, (cellsP q ++ ps.flatMap cellsP)[(i + 1) * 4 + j]? = (ps.flatMap cellsP)[i * 4 + j]? := by
      intro j
      rw [List.getElem?_append_right (by show 4 ≤ _; omega)]
      congr 1
      show (i + 1) * 4 + j - 4 = _
      omega
    have e0 := e 0
    simp only [Nat.add_zero] at e0
    rw [e0, e 1, e 2, e 3]
    exact ih

/-- A map's datum that is a set of keys. -/
def KeySet (D : DataW Unit) (ks : List (List UInt8)) : Prop :=
  Tidy D ∧ (∀ k, Maps.has D (.string k) = decide (k ∈ ks)) ∧ Maps.size D ≤ ks.length ∧ (Maps.size D = ks.length ↔ ks.Nodup)
theorem keySet_none : KeySet (.map []) [] := ⟨tidy_empty, fun k => by simp [Maps.has], by simp [Maps.size], by simp [Maps.size]⟩
theorem keySet_put {D : DataW Unit} {ks : List (List UInt8)} (h : KeySet D ks) (k : List UInt8) (d : DataW Unit) : KeySet (D.put (.string k) d) (ks ++ [k]) := by
  obtain ⟨h1, h2, h3, h4⟩ := h
  have hk : WideAt.IsKeyLit (.string k) := trivial
  refine ⟨h1.put hk d, fun q => ?_, ?_, ?_⟩
  · by_cases hq : q = k
    · subst hq
      rw [has_put_same h1.isMap hk]; simp
    · rw [has_put_other (by simpa using hq), h2]
      simp [hq]
  · rw [size_put h1, List.length_append, List.length_singleton]
    split <;> omega
  · rw [size_put h1, h2, List.length_append, List.length_singleton]
    by_cases hm : k ∈ ks
    · rw [if_pos (by simpa using hm)]
      constructor
      · intro e; omega
      · intro hn
        rw [List.nodup_append] at hn
        exact absurd rfl (hn.2.2 k hm k (by simp))
    · rw [if_neg (by simpa using hm)]
      constructor
      · intro e
        rw [List.nodup_append]
        refine ⟨h4.1 (by omega), by simp, fun a ha b hb => ?_⟩
        simp only [List.mem_singleton] at hb
        subst hb
        intro e2
        subst e2
        exact hm ha
      · intro hn
        rw [List.nodup_append] at hn
        have := h4.2 hn.1
        omega

/-- Whether two keys are equal. -/
def eqK (ps : List Prm) : Bool := !decide (ps.map Prm.key).Nodup

set_option maxRecDepth 100000 in
set_option maxHeartbeats 2000000 in
theorem hasEqualKeys_any (v : Value) (ps : List Prm) (w : World) (h : Prms w v ps) (hl : ps.length ≤ 100000) (hk : ∀ p ∈ ps, p.key.length ≤ 100000) :
    Calls Tryz.prog 83 #[v] w fun e w' => e = .returned (.bool (eqK ps)) ∧ Below w.heap.size w w' := by
  obtain ⟨ao, cap, rfl, hc⟩ := h
  have Hmap0 := Lib.hid (World.ownsMap_made (H := Unit) w Tryz.prog 9 unitElem)
  have HB0 : Hid (Below w.heap.size w (w.alloc (.map #[] 0))) := Lib.hid ((Below.refl _ _).alloc (Nat.le_refl _) _)
  have hmm := @run_makeMap Tryz.prog
  have HK := Lib.hid hk
  have HC := Lib.hid hc
  clear hk hc
  go_enter Tryz.func83, Tryz.ntmps83
  go_wp2_with fail
  clear hmm
  go_loopw [9] (fun i wr => ∃ (j : Nat) (D : DataW Unit), i = .int .i64 j ∧ j ≤ ps.length ∧ wr.ownsMap Tryz.prog 9 unitElem w.heap.size j D ∧ Hid (KeySet D ((ps.take j).map Prm.key)) ∧ Below w.heap.size w wr) (fun i _ => ps.length - (intOf i).toNat)
  case atStart => exact ⟨0, .map [], rfl, Nat.zero_le _, Hmap0.out, Lib.hid keySet_none, HB0.out⟩
  case round =>
    obtain ⟨j, D, rfl, hj, hmap, HD, hb⟩ := hrel
    clear Hmap0 HB0
    by_cases hlt : j < ps.length
    · rcases HC.out with hnil | ⟨c, off, rfl, hcell⟩
      · exfalso
        rw [hnil] at hlt
        simp at hlt
      · obtain ⟨p, hp⟩ : ∃ p, ps[j]? = some p := ⟨_, List.getElem?_eq_getElem hlt⟩
        obtain ⟨q0, q1, q2, q3⟩ := rowP_at ps j p hp
        have hcl : c < w.heap.size := lt_of_cell (hcell _ _ q0)
        have a0 := (hb.cell (p := ⟨c, off + j * 4, none⟩) hcl).trans (hcell _ _ q0)
        have a1 := (hb.cell (p := ⟨c, off + (j * 4 + 1), none⟩) hcl).trans (hcell _ _ q1)
        have a2 := (hb.cell (p := ⟨c, off + (j * 4 + 2), none⟩) hcl).trans (hcell _ _ q2)
        have a3 := (hb.cell (p := ⟨c, off + (j * 4 + 3), none⟩) hcl).trans (hcell _ _ q3)
        simp only [← Nat.add_assoc] at a1 a2 a3
        have hkl := HK.out p (List.mem_of_getElem? hp)
        have Hkey : Hid (keyOf Tryz.prog 9 (.string (strB p.key)) = some (.string p.key)) := Lib.hid (keyOf_string_mk Tryz.underlying9 (by rw [strB_size]; unfold maxLen; omega))
        have Htk : Hid ((ps.take (j + 1)).map Prm.key = (ps.take j).map Prm.key ++ [p.key]) := Lib.hid (by
          rw [List.take_add_one, hp]; simp)
        have hm1 := hmap.alloc (.cells #[.string (strB p.key), .int .i64 p.k, .int .i64 p.n, .string (strB p.s)] 97)
        have HM1 := Lib.hid hm1
        have HB := Lib.hid hb
        have hml : w.heap.size < wr.heap.size := hmap.lt
        clear hcell q0 q1 q2 q3 hp hm1 hb hmap
        go_wp2_with (at_mapUpdate; refine wpList_mapUpdate_own _ rfl _ _ _ 131 rfl 9 _ (string_keyed Tryz.underlying9) Tryz.underlying131 _ w.heap.size j _ rfl HM1.out (by unfold maxLen; omega) _ _ _ rfl rfl Hkey.out _ [] (unitElem_mk (H := Unit)) ?_; intro w4 hmap4 hgrow4)
        go_roundw
        case rel =>
          refine ⟨j + 1, D.put (.string p.key) (.agg []), by go_num, by omega, hmap4, Lib.hid ?_, ?_⟩
          · rw [Htk.out]; exact keySet_put HD.out _ _
          · exact (HB.out.alloc (by omega) _).grown hgrow4 (by simp; omega) (fun k e => by cases e; exact Nat.le_refl _)
        case measure => simp [intOf]; omega
    · obtain rfl : j = ps.length := by omega
      have hks := HD.out
      rw [List.take_length] at hks
      have Hr : Hid (decide ((Maps.size D : Int) < (ps.length : Int)) = eqK ps) := Lib.hid (by
        obtain ⟨_, _, h3, h4⟩ := hks
        rw [List.length_map] at h3 h4
        rw [eqK, Bool.eq_iff_iff]
        simp only [decide_eq_true_eq, Bool.not_eq_true', decide_eq_false_iff_not]
        rw [← h4]
        omega)
      have Hmap := Lib.hid hmap
      have HB := Lib.hid hb
      clear hks hmap hb
      go_wp2_with (at_len; refine wpList_len_own _ rfl _ 131 rfl 9 _ Tryz.underlying131 _ w.heap.size ps.length _ rfl Hmap.out ?_)
      go_ret
      exact ⟨ret_eq (bool_eq (by first | exact Hr.out | (rw [← Hr.out]; simp))), HB.out⟩

end Go.Proofs.YtjbipplaacgnkaaGreatDoor

namespace Go.Proofs.YtjbipplaacgnkaaGreatDoor
open Go.RowKit Go.Maps

structure Itm where
  k : Int
  n : Int
  s : List UInt8
  ps : List Prm

/-- Parameters in memory, in no cell of the block blk. -/
def PrmsOff (lo : Nat) (blk : Option Nat) (w : World) (v : Value) (ps : List Prm) : Prop :=
  ∃ ao cap, v = .slice ao ps.length cap ∧ (ps = [] ∨ ∃ b off, ao = some ⟨b, off, none⟩ ∧ lo ≤ b ∧ some b ≠ blk ∧ b < w.heap.size ∧ ∀ j u, (rowP ps)[j]? = some u → w.cell? ⟨b, off + j, none⟩ = some u)

theorem PrmsOff.prms {lo : Nat} {blk : Option Nat} {w : World} {v : Value} {ps : List Prm} (h : PrmsOff lo blk w v ps) : Prms w v ps := by
  obtain ⟨ao, cap, hv, hc⟩ := h
  rcases hc with hc | ⟨b, off, h1, _, _, _, h2⟩
  · exact ⟨ao, cap, hv, .inl hc⟩
  · exact ⟨ao, cap, hv, .inr ⟨b, off, h1, h2⟩⟩
theorem PrmsOff.grown {lo : Nat} {blk : Option Nat} {w w' : World} {v : Value} {ps : List Prm} (h : PrmsOff lo blk w v ps) (hg : w.grownBy w' blk) : PrmsOff lo blk w' v ps := by
  obtain ⟨ao, cap, hv, hc⟩ := h
  rcases hc with hc | ⟨b, off, h1, h0, h2, h3, h4⟩
  · exact ⟨ao, cap, hv, .inl hc⟩
  · exact ⟨ao, cap, hv, .inr ⟨b, off, h1, h0, h2, Nat.lt_of_lt_of_le h3 hg.size, fun j u hj => (grown_cell hg h3 h2 _).trans (h4 j u hj)⟩⟩
theorem PrmsOff.below {lo : Nat} {blk : Option Nat} {w w' : World} {v : Value} {ps : List Prm} (h : PrmsOff lo blk w v ps) (hb : Below w.heap.size w w') : PrmsOff lo blk w' v ps := by
  obtain ⟨ao, cap, hv, hc⟩ := h
  rcases hc with hc | ⟨b, off, h1, h0, h2, h3, h4⟩
  · exact ⟨ao, cap, hv, .inl hc⟩
  · exact ⟨ao, cap, hv, .inr ⟨b, off, h1, h0, h2, Nat.lt_of_lt_of_le h3 hb.size, fun j u hj => (hb.cell (p := ⟨b, off + j, none⟩) h3).trans (h4 j u hj)⟩⟩
theorem PrmsOff.elsewhere {lo : Nat} {blk : Option Nat} {w : World} {v : Value} {ps : List Prm} (h : PrmsOff lo blk w v ps) (g : Nat) (hg : blk = some g ∨ w.heap.size ≤ g) : PrmsOff lo (some g) w v ps := by
  obtain ⟨ao, cap, hv, hc⟩ := h
  rcases hc with hc | ⟨b, off, h1, h0, h2, h3, h4⟩
  · exact ⟨ao, cap, hv, .inl hc⟩
  · refine ⟨ao, cap, hv, .inr ⟨b, off, h1, h0, ?_, h3, h4⟩⟩
    rcases hg with rfl | hg
    · exact h2
    · intro e
      have := Option.some.inj e
      omega
theorem PrmsOff.low {lo lo' : Nat} {blk : Option Nat} {w : World} {v : Value} {ps : List Prm} (h : PrmsOff lo blk w v ps) (hl : lo' ≤ lo) : PrmsOff lo' blk w v ps := by
  obtain ⟨ao, cap, hv, hc⟩ := h
  rcases hc with hc | ⟨b, off, h1, h0, h2, h3, h4⟩
  · exact ⟨ao, cap, hv, .inl hc⟩
  · exact ⟨ao, cap, hv, .inr ⟨b, off, h1, Nat.le_trans hl h0, h2, h3, h4⟩⟩
/-- What lies from some block on lies in none before it. -/
theorem PrmsOff.avoid {lo : Nat} {blk blk' : Option Nat} {w : World} {v : Value} {ps : List Prm} (h : PrmsOff lo blk w v ps) (hb : ∀ g, blk' = some g → g < lo) : PrmsOff lo blk' w v ps := by
  obtain ⟨ao, cap, hv, hc⟩ := h
  rcases hc with hc | ⟨b, off, h1, h0, h2, h3, h4⟩
  · exact ⟨ao, cap, hv, .inl hc⟩
  · exact ⟨ao, cap, hv, .inr ⟨b, off, h1, h0, fun e => by have := hb b e.symm; omega, h3, h4⟩⟩
theorem PrmsOff.nothing (lo : Nat) (blk : Option Nat) (w : World) : PrmsOff lo blk w (.slice none 0 0) [] := ⟨none, 0, rfl, .inl rfl⟩
/-- What a call made lies in no block that was there before. -/
theorem PrmsOff.made {lo : Nat} {blk : Option Nat} {w : World} {v : Value} {ps : List Prm} {base : Nat} {e : TypeId} (h : w.ownsRow base e 4 v ps.length (rowP ps)) (hlo : lo ≤ base) (hb : ∀ g, blk = some g → g < base) : PrmsOff lo blk w v ps := by
  rcases h.2 with ⟨hv, h2⟩ | ⟨g, cap, cur, hv, hg, hh, hc, hr⟩
  · obtain ⟨ao, cap, hv2, hc⟩ := Prms.of_own h
    rw [hv] at hv2 ⊢
    obtain ⟨rfl, hl, rfl⟩ := Value.slice.inj hv2
    exact ⟨none, 0, by rw [← hl], .inl (List.eq_nil_of_length_eq_zero hl.symm)⟩
  · obtain ⟨ao, cap2, hv2, hc2⟩ := Prms.of_own h
    refine ⟨ao, cap2, hv2, ?_⟩
    rcases hc2 with hc2 | ⟨b, off, h1, h2⟩
    · exact .inl hc2
    · by_cases hps : ps = []
      · exact .inl hps
      · rw [hv] at hv2
        obtain ⟨hao, _, _⟩ := Value.slice.inj hv2
        rw [h1] at hao
        obtain ⟨rfl, rfl, _⟩ := Addr.mk.inj (Option.some.inj hao)
        have hlt := (World.ownsRow.lt h g (by rw [hv]; rfl)).2
        exact .inr ⟨g, 0, h1, Nat.le_trans hlo hg, fun e => by have := hb g e.symm; omega, hlt, h2⟩

def cellsI (x : Itm) (u : Value) : List Value := [.int .i64 x.k, .int .i64 x.n, .string (strB x.s), u]
def rowI : List (Itm × Value) → List Value
  | [] => []
  | (x, u) :: r => cellsI x u ++ rowI r
theorem rowI_snoc (l : List (Itm × Value)) (x : Itm) (u : Value) : rowI (l ++ [(x, u)]) = rowI l ++ cellsI x u := by
  induction l with
  | nil => simp [rowI]
  | cons y r ih =>
    obtain ⟨y, v⟩ := y
    rw [List.cons_append, rowI, rowI, ih, List.append_assoc]
theorem rowI_at : ∀ (l : List (Itm × Value)) (i : Nat) (x : Itm) (u : Value), l[i]? = some (x, u) → (rowI l)[i * 4]? = some (.int .i64 x.k) ∧ (rowI l)[i * 4 + 1]? = some (.int .i64 x.n) ∧ (rowI l)[i * 4 + 2]? = some (.string (strB x.s)) ∧ (rowI l)[i * 4 + 3]? = some u
  | [], i, x, u, h => by simp at h
  | (y, v) :: l, 0, x, u, h => by
    obtain ⟨rfl, rfl⟩ := Prod.mk.inj (Option.some.inj h)
    exact ⟨rfl, rfl, rfl, rfl⟩
  | (y, v) :: l, i + 1, x, u, h => by
    have := rowI_at l i x u h
    rw [rowI]
    have e : ∀ j, (cellsI y v ++ rowI l)[(i + 1) * 4 + j]? = (rowI l)[i * 4 + j]? := fun j => by
      rw [List.getElem?_append_right (by simp [cellsI]; omega)]
      congr 1
      simp [cellsI]; omega
    have e0 := e 0
    rw [Nat.add_zero, Nat.add_zero] at e0
    rw [e0, e 1, e 2, e 3]
    exact this

/-- Items in memory, nothing of them in the block blk. -/
def ItmsOff (lo : Nat) (blk : Option Nat) (w : World) (v : Value) (xs : List Itm) : Prop :=
  ∃ ao cap, v = .slice ao xs.length cap ∧ (xs = [] ∨ ∃ b off, ao = some ⟨b, off, none⟩ ∧ lo ≤ b ∧ some b ≠ blk ∧ b < w.heap.size ∧ ∀ j x, xs[j]? = some x → ∃ u, (w.cell? ⟨b, off + j * 4, none⟩ = some (.int .i64 x.k) ∧ w.cell? ⟨b, off + j * 4 + 1, none⟩ = some (.int .i64 x.n) ∧ w.cell? ⟨b, off + j * 4 + 2, none⟩ = some (.string (strB x.s)) ∧ w.cell? ⟨b, off + j * 4 + 3, none⟩ = some u) ∧ PrmsOff lo blk w u x.ps)

theorem ItmsOff.nothing (lo : Nat) (blk : Option Nat) (w : World) : ItmsOff lo blk w (.slice none 0 0) [] := ⟨none, 0, rfl, .inl rfl⟩
theorem ItmsOff.below {lo : Nat} {blk : Option Nat} {w w' : World} {v : Value} {xs : List Itm} (h : ItmsOff lo blk w v xs) (hb : Below w.heap.size w w') : ItmsOff lo blk w' v xs := by
  obtain ⟨ao, cap, hv, hc⟩ := h
  rcases hc with hc | ⟨b, off, h1, h0, h2, h3, h4⟩
  · exact ⟨ao, cap, hv, .inl hc⟩
  · refine ⟨ao, cap, hv, .inr ⟨b, off, h1, h0, h2, Nat.lt_of_lt_of_le h3 hb.size, fun j x hx => ?_⟩⟩
    obtain ⟨u, ⟨c0, c1, c2, c3⟩, hp⟩ := h4 j x hx
    have hk : ∀ i, w'.cell? ⟨b, i, none⟩ = w.cell? ⟨b, i, none⟩ := fun i => hb.cell (p := ⟨b, i, none⟩) h3
    exact ⟨u, ⟨(hk _).trans c0, (hk _).trans c1, (hk _).trans c2, (hk _).trans c3⟩, hp.below hb⟩
theorem ItmsOff.grown {lo : Nat} {blk : Option Nat} {w w' : World} {v : Value} {xs : List Itm} (h : ItmsOff lo blk w v xs) (hg : w.grownBy w' blk) : ItmsOff lo blk w' v xs := by
  obtain ⟨ao, cap, hv, hc⟩ := h
  rcases hc with hc | ⟨b, off, h1, h0, h2, h3, h4⟩
  · exact ⟨ao, cap, hv, .inl hc⟩
  · refine ⟨ao, cap, hv, .inr ⟨b, off, h1, h0, h2, Nat.lt_of_lt_of_le h3 hg.size, fun j x hx => ?_⟩⟩
    obtain ⟨u, ⟨c0, c1, c2, c3⟩, hp⟩ := h4 j x hx
    have hk : ∀ i, w'.cell? ⟨b, i, none⟩ = w.cell? ⟨b, i, none⟩ := fun i => grown_cell hg h3 h2 i
    exact ⟨u, ⟨(hk _).trans c0, (hk _).trans c1, (hk _).trans c2, (hk _).trans c3⟩, hp.grown hg⟩
theorem ItmsOff.low {lo lo' : Nat} {blk : Option Nat} {w : World} {v : Value} {xs : List Itm} (h : ItmsOff lo blk w v xs) (hl : lo' ≤ lo) : ItmsOff lo' blk w v xs := by
  obtain ⟨ao, cap, hv, hc⟩ := h
  rcases hc with hc | ⟨b, off, h1, h0, h2, h3, h4⟩
  · exact ⟨ao, cap, hv, .inl hc⟩
  · refine ⟨ao, cap, hv, .inr ⟨b, off, h1, Nat.le_trans hl h0, h2, h3, fun j x hx => ?_⟩⟩
    obtain ⟨u, hc, hp⟩ := h4 j x hx
    exact ⟨u, hc, hp.low hl⟩
theorem ItmsOff.avoid {lo : Nat} {blk blk' : Option Nat} {w : World} {v : Value} {xs : List Itm} (h : ItmsOff lo blk w v xs) (hb : ∀ g, blk' = some g → g < lo) : ItmsOff lo blk' w v xs := by
  obtain ⟨ao, cap, hv, hc⟩ := h
  rcases hc with hc | ⟨b, off, h1, h0, h2, h3, h4⟩
  · exact ⟨ao, cap, hv, .inl hc⟩
  · refine ⟨ao, cap, hv, .inr ⟨b, off, h1, h0, fun e => by have := hb b e.symm; omega, h3, fun j x hx => ?_⟩⟩
    obtain ⟨u, hc, hp⟩ := h4 j x hx
    exact ⟨u, hc, hp.avoid hb⟩
theorem ItmsOff.form {lo : Nat} {blk : Option Nat} {w : World} {v : Value} {xs : List Itm} (h : ItmsOff lo blk w v xs) : ∃ ao cap, v = .slice ao xs.length cap := by
  obtain ⟨ao, cap, hv, _⟩ := h
  exact ⟨ao, cap, hv⟩
theorem PrmsOff.form {lo : Nat} {blk : Option Nat} {w : World} {v : Value} {ps : List Prm} (h : PrmsOff lo blk w v ps) : ∃ ao cap, v = .slice ao ps.length cap := by
  obtain ⟨ao, cap, hv, _⟩ := h
  exact ⟨ao, cap, hv⟩

theorem PrmsOff.moved {lo c : Nat} {blk : Option Nat} {w w' : World} {v : Value} {ps : List Prm} (h : PrmsOff lo blk w v ps) (hm : Moved c w w') (hc : c < lo) : PrmsOff lo blk w' v ps := by
  obtain ⟨ao, cap, hv, hh⟩ := h
  rcases hh with hh | ⟨b, off, h1, h0, h2, h3, h4⟩
  · exact ⟨ao, cap, hv, .inl hh⟩
  · exact ⟨ao, cap, hv, .inr ⟨b, off, h1, h0, h2, Nat.lt_of_lt_of_le h3 hm.size, fun j u hj => (hm.cell (p := ⟨b, off + j, none⟩) h3 (by show b ≠ c; omega)).trans (h4 j u hj)⟩⟩
theorem ItmsOff.moved {lo c : Nat} {blk : Option Nat} {w w' : World} {v : Value} {xs : List Itm} (h : ItmsOff lo blk w v xs) (hm : Moved c w w') (hc : c < lo) : ItmsOff lo blk w' v xs := by
  obtain ⟨ao, cap, hv, hh⟩ := h
  rcases hh with hh | ⟨b, off, h1, h0, h2, h3, h4⟩
  · exact ⟨ao, cap, hv, .inl hh⟩
  · refine ⟨ao, cap, hv, .inr ⟨b, off, h1, h0, h2, Nat.lt_of_lt_of_le h3 hm.size, fun j x hx => ?_⟩⟩
    obtain ⟨u, ⟨c0, c1, c2, c3⟩, hp⟩ := h4 j x hx
    have hk : ∀ i, w'.cell? ⟨b, i, none⟩ = w.cell? ⟨b, i, none⟩ := fun i => hm.cell (p := ⟨b, i, none⟩) h3 (by show b ≠ c; omega)
    exact ⟨u, ⟨(hk _).trans c0, (hk _).trans c1, (hk _).trans c2, (hk _).trans c3⟩, hp.moved hm hc⟩

/-- Items that a call owns: their row, and their parameters elsewhere. -/
def OwnI (T : TypeId) (w : World) (base : Nat) (v : Value) (xs : List Itm) : Prop :=
  ∃ us : List Value, us.length = xs.length ∧ w.ownsRow base T 4 v xs.length (rowI (xs.zip us)) ∧ ∀ (j : Nat) (u : Value) (x : Itm), us[j]? = some u → xs[j]? = some x → PrmsOff base v.ownBlock w u x.ps

/-- The cells of an owned row, by its list. -/
theorem owns_cells {w : World} {base : Nat} {e : TypeId} {size n g cap : Nat} {xs : List Value} (h : w.ownsRow base e size (.slice (some ⟨g, 0, none⟩) n cap) n xs) (j : Nat) (u : Value) (hj : xs[j]? = some u) : w.cell? ⟨g, j, none⟩ = some u := by
  have := World.ownsRow.cells h (g := g) rfl j u hj
  rw [add_none] at this
  exact this

theorem OwnI.nothing (T : TypeId) (w : World) (base : Nat) : OwnI T w base (.slice none 0 0) [] := ⟨[], rfl, World.ownsRow_nil _ _ _ _, fun j u x h => by simp at h⟩
theorem OwnI.below {T : TypeId} {w w' : World} {base : Nat} {v : Value} {xs : List Itm} (h : OwnI T w base v xs) (hb : Below w.heap.size w w') : OwnI T w' base v xs := by
  obtain ⟨us, h1, h2, h3⟩ := h
  exact ⟨us, h1, ownsRow_later h2 hb, fun j u x hu hx => (h3 j u x hu hx).below hb⟩
theorem OwnI.low {T : TypeId} {w : World} {base B : Nat} {v : Value} {xs : List Itm} (h : OwnI T w base v xs) (hB : B ≤ base) : OwnI T w B v xs := by
  obtain ⟨us, h1, h2, h3⟩ := h
  exact ⟨us, h1, ownsRow_low h2 hB, fun j u x hu hx => (h3 j u x hu hx).low hB⟩

/-- One more item, behind those that are owned. -/
theorem OwnI.snoc {T : TypeId} {w w1 : World} {base : Nat} {v u : Value} {xs : List Itm} {x : Itm} {us : List Value} {g cap : Nat} (h1 : us.length = xs.length) (h3 : ∀ (j : Nat) (u : Value) (x : Itm), us[j]? = some u → xs[j]? = some x → PrmsOff base v.ownBlock w u x.ps) (hu : PrmsOff base v.ownBlock w u x.ps)
    (hown : w1.ownsRow base T 4 (.slice (some ⟨g, 0, none⟩) (xs.length + 1) cap) (xs.length + 1) (rowI (xs.zip us) ++ cellsI x u)) (hg : w.grownBy w1 v.ownBlock) (hat : v.ownBlock = some g ∨ g = w.heap.size) : OwnI T w1 base (.slice (some ⟨g, 0, none⟩) (xs.length + 1) cap) (xs ++ [x]) := by
  have hoff : ∀ u' ps, PrmsOff base v.ownBlock w u' ps → PrmsOff base (some g) w1 u' ps := fun u' ps hp => by
    rcases hat with hat | hat
    · have := hp.grown hg
      rw [hat] at this
      exact this
    · obtain ⟨ao, c2, hv, hc⟩ := hp
      rcases hc with hc | ⟨b, off, q1, q0, q2, q3, q4⟩
      · exact ⟨ao, c2, hv, .inl hc⟩
      · refine ⟨ao, c2, hv, .inr ⟨b, off, q1, q0, ?_, Nat.lt_of_lt_of_le q3 hg.size, fun j u hj => (grown_cell hg q3 q2 _).trans (q4 j u hj)⟩⟩
        intro e
        have := Option.some.inj e
        omega
  refine ⟨us ++ [u], by simp [h1], ?_, ?_⟩
  · rw [List.length_append, List.zip_append h1.symm]
    show w1.ownsRow base T 4 _ (xs.length + 1) (rowI (xs.zip us ++ [(x, u)]))
    rw [rowI_snoc]
    exact hown
  · intro j u' x' hu' hx'
    rw [List.getElem?_append] at hu' hx'
    show PrmsOff base (some g) w1 u' x'.ps
    by_cases hj : j < us.length
    · rw [if_pos hj] at hu'
      rw [if_pos (by omega)] at hx'
      exact hoff _ _ (h3 j u' x' hu' hx')
    · rw [if_neg hj] at hu'
      rw [if_neg (by omega)] at hx'
      have hj0 : j - us.length = 0 := by
        have := (List.getElem?_eq_some_iff.1 hu').1
        simp only [List.length_singleton] at this
        omega
      rw [hj0] at hu'
      rw [← h1, hj0] at hx'
      obtain rfl := Option.some.inj hu'
      obtain rfl := Option.some.inj hx'
      exact hoff _ _ hu

theorem OwnI.off {T : TypeId} {w : World} {base : Nat} {v : Value} {xs : List Itm} {blk : Option Nat} (h : OwnI T w base v xs) (hb : ∀ g, blk = some g → g < base) : ItmsOff base blk w v xs := by
  obtain ⟨us, h1, h2, h3⟩ := h
  rcases h2.2 with ⟨hv, hz⟩ | ⟨g, cap, cur, hv, hg, hh, hc, hr⟩
  · obtain ⟨ao, cap, hv2⟩ := owns_form h2
    rw [hv] at hv2 ⊢
    obtain ⟨rfl, hl, rfl⟩ := Value.slice.inj hv2
    exact ⟨none, 0, by rw [← hl], .inl (List.eq_nil_of_length_eq_zero hl.symm)⟩
  · by_cases hxs : xs = []
    · obtain ⟨ao, cap2, hv2⟩ := owns_form h2
      exact ⟨ao, cap2, hv2, .inl hxs⟩
    · have hlt := (World.ownsRow.lt h2 g (by rw [hv]; rfl)).2
      have hn : 0 < xs.length := List.length_pos_iff.2 hxs
      obtain ⟨g2, cap2, hv2, _, _, _⟩ := owns_slice h2 hn
      refine ⟨_, cap2, hv2, .inr ⟨g2, 0, rfl, ?_⟩⟩
      rw [hv] at hv2
      obtain ⟨hao, _, _⟩ := Value.slice.inj hv2
      obtain ⟨rfl, _, _⟩ := Addr.mk.inj (Option.some.inj hao)
      refine ⟨hg, fun e => by have := hb g e.symm; omega, hlt, fun j x hx => ?_⟩
      have hjl : j < us.length := by rw [h1]; exact (List.getElem?_eq_some_iff.1 hx).1
      obtain ⟨u, hu⟩ : ∃ u, us[j]? = some u := ⟨_, List.getElem?_eq_getElem hjl⟩
      have hz : (xs.zip us)[j]? = some (x, u) := by rw [List.getElem?_zip_eq_some]; exact ⟨hx, hu⟩
      obtain ⟨x0, x1, x2, x3⟩ := rowI_at _ j x u hz
      rw [hv] at h2
      have hcell := owns_cells h2
      simp only [Nat.zero_add]
      exact ⟨u, ⟨hcell _ _ x0, hcell _ _ x1, hcell _ _ x2, hcell _ _ x3⟩, (h3 j u x hu hx).avoid hb⟩

end Go.Proofs.YtjbipplaacgnkaaGreatDoor

namespace Go.Proofs.YtjbipplaacgnkaaGreatDoor
open Go.RowKit Go.Maps

def psPost (o : Option (List Prm × Nat)) (w : World) (e : Ending) (w' : World) : Prop :=
  Below w.heap.size w w' ∧ match o with
    | none => e = .returned (.tuple #[.slice none 0 0, .int .i64 0, .int .i64 2])
    | some (ps, m) => ∃ v, e = .returned (.tuple #[v, .int .i64 (m : Int), .int .i64 0]) ∧ w'.ownsRow w.heap.size 97 4 v ps.length (rowP ps)

set_option maxRecDepth 100000 in
set_option maxHeartbeats 2000000 in
theorem iparams_any (s : ByteArray) (w : World) (hs : s.size ≤ 100000) (hA : Alph w) :
    Calls Tryz.prog 75 #[.string s] w (psPost (psL s.data.toList [] 0) w) := by
  have hgl : 2 < w.heap.size := lt_of_cell (hA 0 (by decide))
  have HA := Lib.hid hA
  clear hA
  go_enter Tryz.func75, Tryz.ntmps75
  go_wp2_with fail
  refine (parserOf_any _ _).mono ?_
  rintro e w2 ⟨rfl, hb2⟩
  have hz2 := hb2.size
  have cI := params_any w2.heap.size s 0 (w2.alloc (.cells #[.string s, .int .i64 0] 148)) (Par.made w2 s) hs (Nat.zero_le _) (HA.out.below (hb2.alloc hb2.size _)) (by omega)
  rw [List.drop_zero] at cI
  have HB2 := Lib.hid (hb2.alloc hb2.size (.cells #[.string s, .int .i64 0] 148))
  clear hb2
  cases hit : psL s.data.toList [] 0 with
  | none =>
    rw [hit] at cI
    have HL := Lib.hid hit
    clear hit
    go_wp2_with fail
    refine cI.mono ?_
    rintro e w3 ⟨hM3, rfl⟩
    have hB3 := HB2.out.trans (hM3.below (by omega) (by simp; omega))
    clear cI hM3 HB2
    go_wp2_with fail
    refine bodyPost_ret (v := .tuple #[.slice none 0 0, .int .i64 0, .int .i64 2]) (by simp [results, Tryz.results75, go_sem]) rfl ?_
    rw [HL.out]
    exact ⟨hB3, rfl⟩
  | some x =>
    obtain ⟨ps, m⟩ := x
    rw [hit] at cI
    have HL := Lib.hid hit
    clear hit
    go_wp2_with fail
    refine cI.mono ?_
    rintro e w3 ⟨hM3, v, rfl, hown, hP3⟩
    rw [Nat.zero_add] at hP3
    obtain ⟨ao, cap, rfl⟩ := owns_form hown
    have hB3 := HB2.out.trans (hM3.below (by omega) (by simp; omega))
    have c1 := hP3.at_
    have hw := ownsRow_low hown (show w.heap.size ≤ _ by simp; omega)
    have HO := Lib.hid hw
    clear cI hM3 HB2 hP3 hown hw
    go_wp2_with fail
    go_quiet (fail)
    go_wp2_with fail
    refine bodyPost_ret (v := .tuple #[.slice ao ps.length cap, .int .i64 (m : Int), .int .i64 0]) (by simp [results, Tryz.results75, go_sem]) rfl ?_
    rw [HL.out]
    refine ⟨hB3.trans ((below_drewN _ _).mono hB3.size), _, rfl, ?_⟩
    exact ownsRow_later HO.out (below_drewN _ _)

theorem Moved.drew1 {b : Nat} {w W : World} (h : Moved b w W) : Moved b w W.drew := ⟨h.os, h.tape, h.output, h.size, h.block⟩

def ireadPost (o : Option (Got × List Prm × Nat)) (w : World) (e : Ending) (w' : World) : Prop :=
  Below w.heap.size w w' ∧ match o with
    | none => e = .returned (.tuple #[.agg #[.int .i64 0, .int .i64 0, .string ⟨#[]⟩, .slice none 0 0], .int .i64 0, .int .i64 2])
    | some (g, ps, m) => ∃ v, e = .returned (.tuple #[.agg #[.int .i64 g.k, .int .i64 g.n, .string (strB g.s), v], .int .i64 (m : Int), .int .i64 0]) ∧ w'.ownsRow w.heap.size 97 4 v ps.length (rowP ps)

set_option maxRecDepth 100000 in
set_option maxHeartbeats 2000000 in
theorem iread_any (s : ByteArray) (w : World) (hs : s.size ≤ 100000) (hA : Alph w) :
    Calls Tryz.prog 50 #[.string s] w (ireadPost (itmL s.data.toList) w) := by
  have hgl : 2 < w.heap.size := lt_of_cell (hA 0 (by decide))
  have HA := Lib.hid hA
  have hb0 : Below w.heap.size w (w.alloc zeroItem) := (Below.refl _ _).alloc (Nat.le_refl _) _
  have HR0 := Lib.hid (ResI.made w)
  clear hA
  go_enter Tryz.func50, Tryz.ntmps50
  go_wp2_with fail
  refine (parserOf_any _ _).mono ?_
  rintro e w2 ⟨rfl, hb2⟩
  have hbw := hb0.trans (hb2.mono hb0.size)
  have hz2 : w.heap.size < w2.heap.size := by have := hb2.size; simp at this; omega
  have hR2 := HR0.out.moved (Moved.of_below (b := w2.heap.size) hb2) (by omega)
  have cI := item_any w2.heap.size s 0 (w2.alloc (.cells #[.string s, .int .i64 0] 148)) (Par.made w2 s) hs (Nat.zero_le _) (HA.out.below (hbw.alloc hbw.size _)) (by omega)
  rw [List.drop_zero] at cI
  have HBw := Lib.hid (hbw.alloc hbw.size (.cells #[.string s, .int .i64 0] 148))
  have HR2 := Lib.hid hR2
  clear hb2 hbw hR2 HR0 hb0
  cases hit : itmL s.data.toList with
  | none =>
    rw [hit] at cI
    have HL := Lib.hid hit
    clear hit
    go_wp2_with fail
    refine cI.mono ?_
    rintro e w3 ⟨hM3, rfl⟩
    have hR3 := (HR2.out.moved ((Moved.refl w2.heap.size w2).alloc _) (by omega)).moved hM3 (by omega)
    have hB3 := HBw.out.trans (hM3.below (by omega) (by simp; omega))
    have hlt3 := hR3.lt
    obtain ⟨r0, r1, r2, r3, g0, g1, g2, g3⟩ := hR3
    clear cI hM3 HBw HR2
    go_wp2_with fail
    refine bodyPost_ret (v := .tuple #[.agg #[.int .i64 0, .int .i64 0, .string ⟨#[]⟩, .slice none 0 0], .int .i64 0, .int .i64 2]) (by simp [results, Tryz.results50, go_sem, r0, r1, r2, r3, hlt3]) rfl ?_
    rw [HL.out]
    refine ⟨?_, rfl⟩
    repeat (first | with_reducible refine Below.alloc ?_ (by simp; omega) _ | with_reducible refine Below.setCell ?_ (by simp) _)
    exact hB3
  | some x =>
    obtain ⟨⟨gk, gn, gs, gm⟩, ps, m⟩ := x
    rw [hit] at cI
    have HL := Lib.hid hit
    clear hit
    go_wp2_with fail
    refine cI.mono ?_
    rintro e w3 ⟨hM3, v, rfl, hown, hP3⟩
    simp only
    generalize hSe : strB gs = S
    have HS := Lib.hid hSe
    clear hSe
    rw [Nat.zero_add] at hP3
    obtain ⟨ao, cap, rfl⟩ := owns_form hown
    have hR3 := (HR2.out.moved ((Moved.refl w2.heap.size w2).alloc _) (by omega)).moved hM3 (by omega)
    have hB3 := HBw.out.trans (hM3.below (by omega) (by simp; omega))
    have hlt3 := hR3.lt
    have hlt4 : w2.heap.size < w3.heap.size := hP3.lt
    obtain ⟨r0, r1, r2, r3, g0, g1, g2, g3⟩ := hR3
    have c0 := hP3.text
    have c1 := hP3.at_
    have HO := Lib.hid hown
    clear cI hM3 HBw HR2 hP3 hown
    go_wp2_with fail
    go_region
    all_goals
      go_wp2_with fail
      refine bodyPost_ret (v := .tuple #[.agg #[.int .i64 gk, .int .i64 gn, .string S, .slice ao ps.length cap], .int .i64 (m : Int), .int .i64 0]) (by simp [results, Tryz.results50, go_sem, r0, r1, r2, r3, hlt3]) rfl ?_
      rw [HL.out]
      refine ⟨?_, _, by rw [HS.out], ?_⟩
      · repeat (first | with_reducible refine Below.alloc ?_ (by simp; omega) _ | with_reducible refine Below.setCell ?_ (by simp) _ | with_reducible refine Below.drew ?_)
        exact hB3
      · refine ownsRow_low (ownsRow_moved (HO.out) (b := w.heap.size) ?_ (by simp; omega)) (by simp; omega)
        repeat (first | with_reducible refine Moved.drew1 ?_ | with_reducible refine Moved.alloc ?_ _ | with_reducible refine Moved.setCell ?_ _)
        exact Moved.refl _ _

end Go.Proofs.YtjbipplaacgnkaaGreatDoor

namespace Go.Proofs.YtjbipplaacgnkaaGreatDoor
open Go.RowKit

/-- The text of a parameter, if it may be. -/
def pmT (p : Prm) : Option (List UInt8) :=
  if rightL p.k p.n p.s = true ∧ keyL p.key = true then
    some (if p.k = 6 ∧ p.n = 1 then 59 :: p.key else 59 :: (p.key ++ 61 :: textL p.k p.n p.s))
  else none

theorem pmT_none (p : Prm) (h : rightL p.k p.n p.s = false ∨ keyL p.key = false) : pmT p = none := by
  rw [pmT, if_neg]
  rintro ⟨h1, h2⟩
  rcases h with h | h
  · rw [h1] at h; cases h
  · rw [h2] at h; cases h
theorem pmT_one (p : Prm) (h1 : rightL p.k p.n p.s = true) (h2 : keyL p.key = true) (h3 : p.k = 6 ∧ p.n = 1) : pmT p = some (59 :: p.key) := by
  rw [pmT, if_pos ⟨h1, h2⟩, if_pos h3]
theorem pmT_all (p : Prm) (h1 : rightL p.k p.n p.s = true) (h2 : keyL p.key = true) (h3 : ¬ (p.k = 6 ∧ p.n = 1)) : pmT p = some (59 :: (p.key ++ 61 :: textL p.k p.n p.s)) := by
  rw [pmT, if_pos ⟨h1, h2⟩, if_neg h3]

theorem param_cells (w : World) (K : ByteArray) (k n : Int) (s : ByteArray) (W : World) (hb : Below (w.heap.size + 1) (w.alloc (.cells #[.string K, .int .i64 k, .int .i64 n, .string s] 97)) W) :
    W.cell? ⟨w.heap.size, 0, none⟩ = some (.string K) ∧ W.cell? ⟨w.heap.size, 1, none⟩ = some (.int .i64 k) ∧ W.cell? ⟨w.heap.size, 2, none⟩ = some (.int .i64 n) ∧ W.cell? ⟨w.heap.size, 3, none⟩ = some (.string s) := by
  refine ⟨?_, ?_, ?_, ?_⟩
  · rw [hb.cell (p := ⟨w.heap.size, 0, none⟩) (by simp)]; simp
  · rw [hb.cell (p := ⟨w.heap.size, 1, none⟩) (by simp)]; simp
  · rw [hb.cell (p := ⟨w.heap.size, 2, none⟩) (by simp)]; simp
  · rw [hb.cell (p := ⟨w.heap.size, 3, none⟩) (by simp)]; simp

theorem cell_next {W W1 : World} {b o : Nat} {v : Value} (hb : Below W.heap.size W W1) (h : W.cell? ⟨b, o, none⟩ = some v) : W1.cell? ⟨b, o, none⟩ = some v :=
  (hb.cell (p := ⟨b, o, none⟩) (lt_of_cell h)).trans h

abbrev heldP (w W : World) (c : Nat) (K s : ByteArray) (k n : Int) : Prop :=
  W.cell? ⟨c, 0, none⟩ = some (.string K) ∧ W.cell? ⟨c, 1, none⟩ = some (.int .i64 k) ∧ W.cell? ⟨c, 2, none⟩ = some (.int .i64 n) ∧ W.cell? ⟨c, 3, none⟩ = some (.string s) ∧ Below w.heap.size w W
theorem heldP_next {w W W1 : World} {c : Nat} {K s : ByteArray} {k n : Int} (hb : Below W.heap.size W W1) (h : heldP w W c K s k n) : heldP w W1 c K s k n :=
  ⟨cell_next hb h.1, cell_next hb h.2.1, cell_next hb h.2.2.1, cell_next hb h.2.2.2.1, h.2.2.2.2.trans (hb.mono h.2.2.2.2.size)⟩

set_option maxRecDepth 100000 in
set_option maxHeartbeats 2000000 in
theorem paramText_any (K : List UInt8) (k n : Int) (s : List UInt8) (w : World) (hK : K.length ≤ 100000) (hs : s.length ≤ 100000) (hn : -9223372036854775808 ≤ n ∧ n ≤ 9223372036854775807) (hA : Alph w) (hP : Pow w) :
    Calls Tryz.prog 84 #[.agg #[.string (strB K), .int .i64 k, .int .i64 n, .string (strB s)]] w (printPost (textV (pmT ⟨K, k, n, s⟩)) w) := by
  have hb0 : Below w.heap.size w (w.alloc (.cells #[.string (strB K), .int .i64 k, .int .i64 n, .string (strB s)] 97)) := (Below.refl _ _).alloc (Nat.le_refl _) _
  have cP := print_any k n (strB s) (w.alloc (.cells #[.string (strB K), .int .i64 k, .int .i64 n, .string (strB s)] 97)) (by rw [strB_size]; exact hs) hn (hA.below hb0) (hP.below hb0)
  have cK := fun W => key_any (strB K) W (by rw [strB_size]; unfold maxLen; omega)
  rw [strB_data] at cP cK
  have hKz : (strB K).size ≤ 100000 := by rw [strB_size]; exact hK
  clear hA hP
  cases hr : rightL k n s
  · rw [pmT_none ⟨K, k, n, s⟩ (.inl hr)]
    rw [printL, hr, if_neg (by simp)] at cP
    show Calls _ _ _ _ (printPost (.tuple #[.string ⟨#[]⟩, .int .i64 2]) w)
    have hv : textV none = .tuple #[.string ⟨#[]⟩, .int .i64 2] := rfl
    rw [hv] at cP
    clear hr hv cK
    go_enter Tryz.func84, Tryz.ntmps84
    go_wp2_with fail
    refine cP.mono ?_
    rintro e w1 ⟨rfl, hb1⟩
    go_wp2_with fail
    go_ret2
    exact ⟨rfl, hb0.trans (hb1.mono hb0.size)⟩
  · have htl := textL_len k n s hr
    rw [printL, hr, if_pos rfl] at cP
    obtain ⟨X, hX⟩ : ∃ X, strB (textL k n s) = X := ⟨_, rfl⟩
    have hv : textV (some (textL k n s)) = .tuple #[.string X, .int .i64 0] := by rw [← hX]; rfl
    have hXz : X.size ≤ 300000 := by rw [← hX, strB_size]; omega
    rw [hv] at cP
    clear hv htl
    cases hk : keyL K
    · rw [pmT_none ⟨K, k, n, s⟩ (.inr hk)]
      rw [hk] at cK
      show Calls _ _ _ _ (printPost (.tuple #[.string ⟨#[]⟩, .int .i64 2]) w)
      clear hr hk hX
      go_enter Tryz.func84, Tryz.ntmps84
      go_wp2_with fail
      refine cP.mono ?_
      rintro e w1 ⟨rfl, hb1⟩
      obtain ⟨c0, c1, c2, c3⟩ := param_cells w (strB K) k n (strB s) w1 (by simpa using hb1)
      go_wp2_with fail
      refine (cK _).mono ?_
      rintro e w' ⟨rfl, rfl⟩
      go_wp2_with fail
      go_ret2
      exact ⟨rfl, hb0.trans (hb1.mono hb0.size)⟩
    · rw [hk] at cK
      have cU : ∀ W, heldP w W w.heap.size (strB K) (strB s) k n → Calls Tryz.prog 109 #[] W fun e w' => e = .returned (.agg #[.int .i64 6, .int .i64 1, .string ⟨#[]⟩]) ∧ heldP w w' w.heap.size (strB K) (strB s) k n :=
        fun W h => (unspoken_any W).mono fun e w' hh => ⟨hh.1, heldP_next hh.2 h⟩
      by_cases h61 : k = 6 ∧ n = 1
      · obtain ⟨rfl, rfl⟩ := h61
        have hse : s = [] := by
          rcases right_kind 6 1 s hr with ⟨h, _⟩ | ⟨_, h, _⟩ | ⟨h, _⟩ | ⟨h, _⟩ | ⟨h, _⟩
          · omega
          · exact h
          · omega
          · omega
          · omega
        subst hse
        rw [pmT_one ⟨K, 6, 1, []⟩ hr hk ⟨rfl, rfl⟩]
        have HV : Hid (textV (some (59 :: K)) = .tuple #[.string ((⟨#[59]⟩ : ByteArray) ++ strB K), .int .i64 0]) := Lib.hid (by rw [show (⟨#[59]⟩ : ByteArray) = strB [59] from rfl, strB_append]; rfl)
        rw [HV.out]
        rw [show strB [] = (⟨#[]⟩ : ByteArray) from rfl] at *
        clear hr hk hX HV
        generalize strB K = KB at *
        go_enter Tryz.func84, Tryz.ntmps84
        go_wp2_with fail
        refine cP.mono ?_
        rintro e w1 ⟨rfl, hb1⟩
        obtain ⟨c0, c1, c2, c3⟩ := param_cells w KB 6 1 ⟨#[]⟩ w1 (by simpa using hb1)
        have hS0 : heldP w w1.drew w.heap.size KB ⟨#[]⟩ 6 1 := ⟨c0, c1, c2, c3, (hb0.trans (hb1.mono hb0.size)).drew⟩
        go_wp2_with fail
        refine (cK _).mono ?_
        rintro e w' ⟨rfl, rfl⟩
        go_wp2_with fail
        go_region_held3 (fun W => W.cell? ⟨w.heap.size, 0, none⟩ = some (.string KB) ∧ W.cell? ⟨w.heap.size, 1, none⟩ = some (.int .i64 6) ∧ W.cell? ⟨w.heap.size, 2, none⟩ = some (.int .i64 1) ∧ W.cell? ⟨w.heap.size, 3, none⟩ = some (.string ⟨#[]⟩) ∧ Below w.heap.size w W) (first | assumption | go_keep)
          (first | (go_at_call 109; refine (cU _ (by assumption)).mono ?_; rintro e w' ⟨rfl, hh⟩))
        all_goals
          obtain ⟨d0, d1, d2, d3, dB⟩ := (by assumption : heldP w _ w.heap.size KB ⟨#[]⟩ 6 1)
        all_goals go_wp2_with fail
        all_goals go_ret2
        all_goals exact ⟨rfl, dB⟩
      · by_cases hk6 : k = 6
        · subst hk6
          obtain ⟨hse, hn0⟩ : s = [] ∧ n = 0 := by
            rcases right_kind 6 n s hr with ⟨h, _⟩ | ⟨_, h, h2⟩ | ⟨h, _⟩ | ⟨h, _⟩ | ⟨h, _⟩
            · omega
            · exact ⟨h, by omega⟩
            · omega
            · omega
            · omega
          subst hse hn0
          rw [pmT_all ⟨K, 6, 0, []⟩ hr hk (by simp)]
          have HV : Hid (textV (some (59 :: (K ++ 61 :: textL 6 0 []))) = .tuple #[.string ((⟨#[59]⟩ : ByteArray) ++ strB K ++ (⟨#[61]⟩ : ByteArray) ++ X), .int .i64 0]) := Lib.hid (by
            rw [← hX, show (⟨#[59]⟩ : ByteArray) = strB [59] from rfl, show (⟨#[61]⟩ : ByteArray) = strB [61] from rfl, strB_append, strB_append, strB_append, textV]
            simp only [List.append_assoc, List.cons_append, List.nil_append])
          rw [HV.out]
          rw [show strB [] = (⟨#[]⟩ : ByteArray) from rfl] at *
          clear hr hk hX HV
          generalize strB K = KB at *
          go_enter Tryz.func84, Tryz.ntmps84
          go_wp2_with fail
          refine cP.mono ?_
          rintro e w1 ⟨rfl, hb1⟩
          obtain ⟨c0, c1, c2, c3⟩ := param_cells w KB 6 0 ⟨#[]⟩ w1 (by simpa using hb1)
          have hS0 : heldP w w1.drew w.heap.size KB ⟨#[]⟩ 6 0 := ⟨c0, c1, c2, c3, (hb0.trans (hb1.mono hb0.size)).drew⟩
          go_wp2_with fail
          refine (cK _).mono ?_
          rintro e w' ⟨rfl, rfl⟩
          go_wp2_with fail
          go_region_held3 (fun W => W.cell? ⟨w.heap.size, 0, none⟩ = some (.string KB) ∧ W.cell? ⟨w.heap.size, 1, none⟩ = some (.int .i64 6) ∧ W.cell? ⟨w.heap.size, 2, none⟩ = some (.int .i64 0) ∧ W.cell? ⟨w.heap.size, 3, none⟩ = some (.string ⟨#[]⟩) ∧ Below w.heap.size w W) (first | assumption | go_keep)
            (first | (go_at_call 109; refine (cU _ (by assumption)).mono ?_; rintro e w' ⟨rfl, hh⟩))
          all_goals
            obtain ⟨d0, d1, d2, d3, dB⟩ := (by assumption : heldP w _ w.heap.size KB ⟨#[]⟩ 6 0)
          all_goals go_wp2_with fail
          all_goals go_ret2
          all_goals exact ⟨rfl, dB⟩
        · have g6 : (k == 6) = false := by simpa using hk6
          rw [pmT_all ⟨K, k, n, s⟩ hr hk (by simp; omega)]
          have HV : Hid (textV (some (59 :: (K ++ 61 :: textL k n s))) = .tuple #[.string ((⟨#[59]⟩ : ByteArray) ++ strB K ++ (⟨#[61]⟩ : ByteArray) ++ X), .int .i64 0]) := Lib.hid (by
            rw [← hX, show (⟨#[59]⟩ : ByteArray) = strB [59] from rfl, show (⟨#[61]⟩ : ByteArray) = strB [61] from rfl, strB_append, strB_append, strB_append, textV]
            simp only [List.append_assoc, List.cons_append, List.nil_append])
          rw [HV.out]
          clear hr hk hX HV
          generalize strB K = KB at *
          generalize strB s = SB at *
          go_enter Tryz.func84, Tryz.ntmps84
          go_wp2_with fail
          refine cP.mono ?_
          rintro e w1 ⟨rfl, hb1⟩
          obtain ⟨c0, c1, c2, c3⟩ := param_cells w KB k n SB w1 (by simpa using hb1)
          have hS0 : heldP w w1.drew w.heap.size KB SB k n := ⟨c0, c1, c2, c3, (hb0.trans (hb1.mono hb0.size)).drew⟩
          go_wp2_with fail
          refine (cK _).mono ?_
          rintro e w' ⟨rfl, rfl⟩
          go_wp2_with fail
          go_region_held3 (fun W => W.cell? ⟨w.heap.size, 0, none⟩ = some (.string KB) ∧ W.cell? ⟨w.heap.size, 1, none⟩ = some (.int .i64 k) ∧ W.cell? ⟨w.heap.size, 2, none⟩ = some (.int .i64 n) ∧ W.cell? ⟨w.heap.size, 3, none⟩ = some (.string SB) ∧ Below w.heap.size w W) (first | assumption | go_keep)
            (first | (go_at_call 109; refine (cU _ (by assumption)).mono ?_; rintro e w' ⟨rfl, hh⟩))
          all_goals
            obtain ⟨d0, d1, d2, d3, dB⟩ := (by assumption : heldP w _ w.heap.size KB SB k n)
          all_goals go_wp2_with fail
          all_goals go_ret2
          all_goals exact ⟨rfl, dB⟩

end Go.Proofs.YtjbipplaacgnkaaGreatDoor

namespace Go.Proofs.YtjbipplaacgnkaaGreatDoor
open Go.RowKit

theorem size_builder : (Tryz.prog.info? 120).map (·.size) = some 2 := by kernel_rfl
theorem lies_builder : liesAt Tryz.prog Tryz.prog.depth 120 (2 / Tryz.prog.cellsOf 120) 0 120 1 = true := by kernel_rfl

set_option maxHeartbeats 1000000 in
set_option maxRecDepth 100000 in
theorem copyCheck_used (b : Nat) (w : World) (h0 : w.cell? ⟨b, 0, none⟩ = some (.pointer (some ⟨b, 0, none⟩))) :
    Calls Tryz.prog 81 #[.pointer (some ⟨b, 0, none⟩)] w fun e w' => e = .returned (.tuple #[]) ∧ w' = w := by
  obtain ⟨j, hj, _⟩ := Option.map_eq_some_iff.1 size_builder
  go_enter Tryz.func81, Tryz.ntmps81
  go_wp2
  rw [Lib.run_neq_ptr_same w _ Tryz.underlying117 hj]
  go_wp2
  go_end0
  exact ⟨rfl, rfl⟩

set_option maxHeartbeats 1000000 in
set_option maxRecDepth 100000 in
theorem copyCheck_fresh (b : Nat) (w : World) (h0 : w.cell? ⟨b, 0, none⟩ = some (.pointer none)) (hsh : w.shape? b = some (120, 2)) (hfz : w.frozen? ⟨b, 0, none⟩ = false) :
    Calls Tryz.prog 81 #[.pointer (some ⟨b, 0, none⟩)] w fun e w' => e = .returned (.tuple #[]) ∧ w' = w.setCell ⟨b, 0, none⟩ (.pointer (some ⟨b, 0, none⟩)) := by
  obtain ⟨j, hj, hjs⟩ := Option.map_eq_some_iff.1 size_builder
  go_enter Tryz.func81, Tryz.ntmps81
  go_wp2
  rw [Lib.run_to_unsafe w ⟨b, 0, none⟩ Tryz.underlying117 Tryz.underlying177 hj (by rw [hjs]; decide) hsh (Nat.zero_lt_succ 1)]
  simp only [Result.andThen]
  rw [Oper.upon_value]
  go_wp2
  rw [run_callFunc_extern Tryz.func103 (by kernel_rfl) (by kernel_rfl) (by kernel_rfl) (e := Extern.AbiNoEscape.same) (by kernel_rfl)]
  rw [Lib.run_noEscape]
  simp only [Result.andThen]
  rw [Oper.upon_value]
  go_wp2
  rw [Lib.run_from_unsafe w ⟨b, 0, none⟩ Tryz.underlying177 Tryz.underlying117 hj hsh lies_builder]
  simp only [Result.andThen]
  rw [Oper.upon_value]
  go_wp2
  go_end0
  exact ⟨rfl, rfl⟩

theorem copyCheck_any (B b : Nat) (bs : List Value) (w : World) (h : Lib.IsBuilder 120 5 B b bs w) :
    Calls Tryz.prog 81 #[.pointer (some ⟨b, 0, none⟩)] w fun e w' => e = .returned (.tuple #[]) ∧ (Lib.BuilderAt 120 5 B b (.pointer (some ⟨b, 0, none⟩)) bs w' ∧ Below B w w') := by
  rcases h with h | h
  · refine (copyCheck_fresh b w h.cell0 h.shape h.frozen0).mono ?_
    rintro e w' ⟨rfl, rfl⟩
    exact ⟨rfl, h.used _, (Below.refl B w).setCell (p := ⟨b, 0, none⟩) h.1 _⟩
  · refine (copyCheck_used b w h.cell0).mono ?_
    rintro e w' ⟨rfl, rfl⟩
    exact ⟨rfl, h, Below.refl B _⟩

set_option maxHeartbeats 2000000 in
set_option maxRecDepth 100000 in
theorem writeString_any (B b : Nat) (bs : List Value) (s : ByteArray) (w : World) (h : Lib.IsBuilder 120 5 B b bs w) (hlen : bs.length + s.size ≤ 140737488355328) (hBw : B ≤ w.heap.size) :
    Calls Tryz.prog 59 #[.pointer (some ⟨b, 0, none⟩), .string s] w fun e w' => e = .returned (.tuple #[.int .i64 s.size, .nilIface]) ∧ (Lib.BuilderAt 120 5 B b (.pointer (some ⟨b, 0, none⟩)) (bs ++ Lib.strCells s) w' ∧ Below B w w') := by
  obtain ⟨i0, hi, hz0, hz1, hz2⟩ := info_parts info_u8
  go_enter Tryz.func59, Tryz.ntmps59
  go_wp2_with fail
  refine (copyCheck_any B b bs _ h).mono ?_
  rintro e w1 ⟨rfl, h1, hb1⟩
  obtain ⟨hB, v, hbk, hown, hne⟩ := h1
  have c0 : w1.cell? ⟨b, 0, none⟩ = some (.pointer (some ⟨b, 0, none⟩)) := by rw [Lib.cell_of_heap hbk]; rfl
  have c1 : w1.cell? ⟨b, 1, none⟩ = some v := by rw [Lib.cell_of_heap hbk]; rfl
  go_wp2_with (at_builtin; refine Lib.wpList_append_own_string _ rfl _ _ 118 9 rfl B 5 i0 Tryz.underlying118 Tryz.underlying9 hi hz0 hz1 hz2 _ _ _ rfl hown s rfl ?c3 ?c4 ?c5 ?_)
  case c3 => unfold maxLen; omega
  case c4 => omega
  case c5 => have := hb1.size; omega
  intro v' w2 hown' hgrow _
  have hlt : b < w1.heap.size := by
    rcases Nat.lt_or_ge b w1.heap.size with h' | h'
    · exact h'
    · simp [Array.getElem?_eq_none h'] at hbk
  have hb2 : w2.heap[b]? = some (.cells #[.pointer (some ⟨b, 0, none⟩), v] 120 (0, 0)) := by
    rw [hgrow.block b hlt (fun e => hne e.symm)]
    exact hbk
  have d0 : w2.cell? ⟨b, 0, none⟩ = some (.pointer (some ⟨b, 0, none⟩)) := by rw [Lib.cell_of_heap hb2]; rfl
  have d1 : w2.cell? ⟨b, 1, none⟩ = some v := by rw [Lib.cell_of_heap hb2]; rfl
  have f1 : w2.frozen? ⟨b, 1, none⟩ = false := Lib.frozen_of_heap hb2 1
  obtain ⟨ao, n', cap, rfl⟩ : ∃ ao n' cap, v' = .slice ao n' cap := by
    rcases hown'.2 with ⟨hv, _⟩ | ⟨g, cap, cur, hv, _⟩
    · exact ⟨_, _, _, hv⟩
    · exact ⟨_, _, _, hv⟩
  go_wp2
  go_ret2
  refine ⟨rfl, ?_, ?_⟩
  · exact Lib.BuilderAt.put (T := 120) (e := 5) hB hb2 (bs' := bs ++ Lib.strCells s) (by simpa [Lib.strCells_length] using hown') (by decide)
  · exact (hb1.grown hgrow (by have := hb1.size; omega) (fun k hk => (hown.lt k hk).1)).setCell (p := ⟨b, 1, none⟩) hB _

end Go.Proofs.YtjbipplaacgnkaaGreatDoor
