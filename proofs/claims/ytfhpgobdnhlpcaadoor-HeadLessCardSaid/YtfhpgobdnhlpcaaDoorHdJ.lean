/- The contract of head.Without. -/
import Derived.Test.YtfhpgobdnhlpcaaDoorHdL
namespace Go.Proofs.YtfhpgobdnhlpcaaDoor
open Go.RowKit Go.Maps
open Go.WideMaps (keyOf_string_mk)

/-- A slice of texts in memory. -/
def StrsF (w : World) (v : Value) (ps : List (List UInt8)) : Prop :=
  ∃ ao cap, v = .slice ao ps.length cap ∧ (ps = [] ∨ ∃ b off, ao = some ⟨b, off, none⟩ ∧ b < w.heap.size ∧ ∀ j q, ps[j]? = some q → w.cell? ⟨b, off + j, none⟩ = some (.string (strB q)))
theorem StrsF.below {w w' : World} {v : Value} {ps : List (List UInt8)} (h : StrsF w v ps) (hb : Below w.heap.size w w') : StrsF w' v ps := by
  obtain ⟨ao, cap, hv, hc⟩ := h
  rcases hc with hc | ⟨b, off, h1, h2, h3⟩
  · exact ⟨ao, cap, hv, .inl hc⟩
  · exact ⟨ao, cap, hv, .inr ⟨b, off, h1, Nat.lt_of_lt_of_le h2 hb.size, fun j q hj => (hb.cell (p := ⟨b, off + j, none⟩) h2).trans (h3 j q hj)⟩⟩
/-- A row of texts. -/
def rowS (ps : List (List UInt8)) : List Value := ps.map fun q => .string (strB q)
theorem StrsF.of_own {base : Nat} {w : World} {v : Value} {ps : List (List UInt8)} (h : w.ownsRow base 9 1 v ps.length (rowS ps)) : StrsF w v ps := by
  obtain ⟨ao, cap, rfl⟩ := owns_formF h
  refine ⟨ao, cap, rfl, ?_⟩
  by_cases hx : ps = []
  · exact .inl hx
  · obtain ⟨g, cap2, hv, hg, hlt, _⟩ := owns_sliceF h (List.length_pos_iff.2 hx)
    obtain ⟨rfl, _, rfl⟩ := Value.slice.inj hv
    refine .inr ⟨g, 0, rfl, hlt, fun j q hj => ?_⟩
    rw [Nat.zero_add]
    exact owns_cellsF h _ _ (by rw [rowS, List.getElem?_map, hj]; rfl)

/-- The fields that have none of the names. -/
def withoutH (fs : List Fld) (ns : List (List UInt8)) : List Fld := fs.filter fun p => !decide (p.1 ∈ ns)
theorem withoutH_yes (fs : List Fld) (ns : List (List UInt8)) (p : Fld) (h : p.1 ∈ ns) : withoutH (fs ++ [p]) ns = withoutH fs ns := by simp [withoutH, h]
theorem withoutH_no (fs : List Fld) (ns : List (List UInt8)) (p : Fld) (h : ¬ p.1 ∈ ns) : withoutH (fs ++ [p]) ns = withoutH fs ns ++ [p] := by simp [withoutH, h]
theorem zeroUnit (w : World) : (zeroValue 71).run Tryd.prog w = .ok (.agg #[]) w := by kernel_rfl
theorem keyStrF : Keyed Tryd.prog 9 := string_keyed Tryd.underlying9
theorem grown_cellF {W V : World} {row : Option Nat} (hg : W.grownBy V row) {c : Nat} (hc : c < W.heap.size) (hne : some c ≠ row) (o : Nat) : V.cell? ⟨c, o, none⟩ = W.cell? ⟨c, o, none⟩ :=
  World.cell?_of_block (w := W) (a := ⟨c, o, none⟩) (hg.block c hc hne)
theorem own_neF {w : World} {base c : Nat} {e : TypeId} {size : Nat} {v : Value} {n : Nat} {xs : List Value} (h : w.ownsRow base e size v n xs) (hc : c < base) : some c ≠ v.ownBlock := by
  intro e1
  have := (World.ownsRow.lt h c e1.symm).1
  omega
theorem ownsRow_lowF {w : World} {base B : Nat} {e : TypeId} {size : Nat} {v : Value} {n : Nat} {xs : List Value} (h : w.ownsRow base e size v n xs) (hB : B ≤ base) : w.ownsRow B e size v n xs := by
  obtain ⟨h1, h2⟩ := h
  refine ⟨h1, ?_⟩
  rcases h2 with h2 | ⟨g, cap, cur, hv, hg, r⟩
  · exact .inl h2
  · exact .inr ⟨g, cap, cur, hv, Nat.le_trans hB hg, r⟩

set_option maxRecDepth 100000 in
set_option maxHeartbeats 4000000 in
theorem hwithout_any (lo : Nat) (v v2 : Value) (fs : List Fld) (ns : List (List UInt8)) (w : World) (h : Flds lo w v fs) (h2 : StrsF w v2 ns) (hk : FldsOk fs) (hn : ns.length ≤ 100000) (hnl : ∀ q ∈ ns, q.length ≤ maxLen) :
    Calls Tryd.prog 24 #[v, v2] w fun e w' => (∃ u, e = .returned u ∧ w'.ownsRow w.heap.size 42 2 u (withoutH fs ns).length (rowF (withoutH fs ns))) ∧ Below w.heap.size w w' := by
  obtain ⟨i0, hi, hz0, hz1, hz2⟩ := info_parts info_field
  obtain ⟨ao, cap, rfl, hc⟩ := h
  obtain ⟨ao2, cap2, rfl, hc2⟩ := h2
  have hl := hk.1
  have Hmap0 := Lib.hid (World.ownsMap_made (H := Unit) w Tryd.prog 9 unitElem)
  have HB0 : Hid (Below w.heap.size w (w.alloc (.map #[] 0))) := Lib.hid ((Below.refl _ _).alloc (Nat.le_refl _) _)
  have hmm := @run_makeMap Tryd.prog
  have HK := Lib.hid hk
  have HC := Lib.hid hc
  have HC2 := Lib.hid hc2
  have HNL := Lib.hid hnl
  clear hk hc hc2 hnl
  go_enter Tryd.func24, Tryd.ntmps24
  go_wp2_with fail
  clear hmm
  go_loopw [16] (fun i wr => ∃ (j : Nat) (D : DataW Unit), i = .int .i64 j ∧ j ≤ ns.length ∧ wr.ownsMap Tryd.prog 9 unitElem w.heap.size j D ∧ Hid (KsetF D (ns.take j)) ∧ Below w.heap.size w wr) (fun i _ => ns.length - (intOf i).toNat)
  case atStart => exact ⟨0, .map [], rfl, Nat.zero_le _, Hmap0.out, Lib.hid ksetF_none, HB0.out⟩
  case round =>
    obtain ⟨j, D, rfl, hj, hmap, HD, hb⟩ := hrel
    clear Hmap0 HB0
    by_cases hlt : j < ns.length
    · rcases HC2.out with hnil | ⟨c, off, rfl, hcl, hcell⟩
      · exfalso
        rw [hnil] at hlt
        simp at hlt
      · obtain ⟨p, hp⟩ : ∃ p, ns[j]? = some p := ⟨_, List.getElem?_eq_getElem hlt⟩
        have a0 := (hb.cell (p := ⟨c, off + j, none⟩) hcl).trans (hcell j p hp)
        have hkl := HNL.out p (List.mem_of_getElem? hp)
        have Hkey : Hid (keyOf Tryd.prog 9 (.string (strB p)) = some (.string p)) := Lib.hid (keyOf_string_mk Tryd.underlying9 (by rw [strB_size]; exact hkl))
        have Htk : Hid (ns.take (j + 1) = ns.take j ++ [p]) := Lib.hid (by rw [List.take_add_one, hp]; rfl)
        have HB := Lib.hid hb
        have HM := Lib.hid hmap
        clear hcell hp hb hmap hkl
        go_wp2_with (at_mapUpdate; refine wpList_mapUpdate_own _ rfl _ _ _ 70 rfl 9 _ keyStrF Tryd.underlying70 _ w.heap.size j _ rfl HM.out (by unfold maxLen; omega) _ _ _ rfl rfl Hkey.out _ [] (unitElem_mk (H := Unit)) ?_; intro w4 hmap4 hgrow4)
        go_roundw
        case rel =>
          refine ⟨j + 1, D.put (.string p) (.agg []), by go_num, by omega, hmap4, Lib.hid ?_, ?_⟩
          · rw [Htk.out]; exact ksetF_put HD.out _ _
          · exact HB.out.grown hgrow4 HB.out.size (fun k e => by cases e; exact Nat.le_refl _)
        case measure => simp [intOf]; omega
    · obtain rfl : j = ns.length := by omega
      have hks := HD.out
      rw [List.take_length] at hks
      have Hmap := Lib.hid hmap
      have HKS := Lib.hid hks.2.1
      have HB := Lib.hid hb
      clear hks hmap hb HD
      rename World => W1
      go_wp2_with fail
      go_loopw [8, 26] (fun r i wr => ∃ (j : Nat) (acc : List Fld) (av : Option Addr) (cv : Nat), r = .slice av acc.length cv ∧ i = .int .i64 j ∧ j ≤ fs.length ∧ acc.length ≤ j ∧ Hid (acc = withoutH (fs.take j) ns) ∧ wr.ownsRow (w.heap.size + 1) 42 2 (.slice av acc.length cv) acc.length (rowF acc) ∧ wr.ownsMap Tryd.prog 9 unitElem w.heap.size ns.length D ∧ Below w.heap.size w wr) (fun _ i _ => fs.length - (intOf i).toNat)
      case atStart => exact ⟨0, [], none, 0, rfl, rfl, Nat.zero_le _, by simp, Lib.hid rfl, World.ownsRow_nil _ _ _ _, Hmap.out, HB.out⟩
      case round =>
        obtain ⟨k, acc, av, cv, rfl, rfl, hkl, hal, HA, hown, hmap, hb⟩ := hrel
        clear Hmap HB
        by_cases hlt2 : k < fs.length
        · rcases HC.out with hnil | ⟨c, off, rfl, _, hcl, hcell⟩
          · exfalso
            rw [hnil] at hlt2
            simp at hlt2
          · obtain ⟨p, hp⟩ : ∃ p, fs[k]? = some p := ⟨_, List.getElem?_eq_getElem hlt2⟩
            have Htk : Hid (fs.take (k + 1) = fs.take k ++ [p]) := Lib.hid (by rw [List.take_add_one, hp]; rfl)
            obtain ⟨x0, x1⟩ := hcell k p hp
            have a0 := (hb.cell (p := ⟨c, off + k * 2, none⟩) hcl).trans x0
            have a1 := (hb.cell (p := ⟨c, off + k * 2 + 1, none⟩) hcl).trans x1
            have hpl := (HK.out.2 p (List.mem_of_getElem? hp)).1
            have Hkey : Hid (keyOf Tryd.prog 9 (.string (strB p.1)) = some (.string p.1)) := Lib.hid (keyOf_string_mk Tryd.underlying9 (by rw [strB_size]; unfold maxLen; omega))
            have hhas := HKS.out p.1
            have hb1 := hb.alloc hb.size (.cells #[.string (strB p.1), .string (strB p.2)] 42)
            have HM1 := Lib.hid (hmap.alloc (.cells #[.string (strB p.1), .string (strB p.2)] 42))
            have HO := Lib.hid hown
            have HMp := Lib.hid hmap
            have HB := Lib.hid hb
            have hml : w.heap.size < wr.heap.size := hmap.lt
            by_cases hmem : p.1 ∈ ns
            · rw [decide_eq_true hmem] at hhas
              have HH := Lib.hid hhas
              have HN : Hid (withoutH (fs.take (k + 1)) ns = withoutH (fs.take k) ns) := Lib.hid (by rw [Htk.out]; exact withoutH_yes _ _ _ hmem)
              clear hcell x0 x1 hp hb hown hmap hb1 hhas hpl hmem
              go_wp2_with (at_lookup; refine wpList_lookup_own_unit _ rfl _ _ 70 rfl 9 71 keyStrF Tryd.underlying70 (zeroUnit _) w.heap.size ns.length D rfl HM1.out _ _ rfl Hkey.out ?_; rw [HH.out])
              go_roundw
              case rel =>
                exact ⟨k + 1, acc, av, cv, rfl, by go_num, by omega, by omega, Lib.hid (by rw [HN.out]; exact HA.out), (HO.out.alloc _).alloc _, (HMp.out.alloc _).alloc _, (HB.out.alloc HB.out.size _).alloc (by simp; omega) _⟩
              case measure => simp [intOf]; omega
            · rw [decide_eq_false hmem] at hhas
              have HH := Lib.hid hhas
              have HN : Hid (withoutH (fs.take (k + 1)) ns = withoutH (fs.take k) ns ++ [p]) := Lib.hid (by rw [Htk.out]; exact withoutH_no _ _ _ hmem)
              have hnew := cells_newF ((wr.alloc (.cells #[.string (strB p.1), .string (strB p.2)] 42)).alloc (.cells #[] 71)) (cellsF p) 42
              rw [show ((wr.alloc (.cells #[.string (strB p.1), .string (strB p.2)] 42)).alloc (.cells #[] 71)).heap.size = wr.heap.size + 2 by simp] at hnew
              have HNew := Lib.hid hnew
              clear hnew
              clear hcell x0 x1 hp hb hown hmap hb1 hhas hpl hmem
              go_wp2_with (first | (at_lookup; refine wpList_lookup_own_unit _ rfl _ _ 70 rfl 9 71 keyStrF Tryd.underlying70 (zeroUnit _) w.heap.size ns.length D rfl HM1.out _ _ rfl Hkey.out ?_; rw [HH.out]) | (at_builtin; refine wpList_append_own _ rfl _ _ 22 rfl (w.heap.size + 1) 42 i0 (.agg #[.string ⟨#[]⟩, .string ⟨#[]⟩]) 2 32 Tryd.underlying22 hi hz0 hz1 hz2 rfl (by decide) (.slice av acc.length cv) acc.length (rowF acc) rfl (((HO.out.alloc _).alloc _).alloc _) ⟨wr.heap.size + 2, 0, none⟩ 1 1 (cellsF p) rfl rfl HNew.out (by simp [Value.oneCell', cellsF]) (by unfold maxLen; omega) (by omega) (by simp; omega) ?_; intro v' w5 hown5 hgrow5 _; obtain ⟨a5, c5, rfl⟩ := owns_formF hown5))
              go_roundw
              case rel =>
                refine ⟨k + 1, acc ++ [p], a5, c5, by rw [List.length_append]; rfl, by go_num, by omega, by simp; omega, Lib.hid (by rw [HN.out, HA.out]), by rw [List.length_append, rowF_snoc]; exact hown5, ?_, ?_⟩
                · exact (((HMp.out.alloc _).alloc _).alloc _).kept hgrow5 (own_neF HO.out (Nat.lt_succ_self _))
                · exact (((HB.out.alloc HB.out.size _).alloc (by simp; omega) _).alloc (by simp; omega) _).grown hgrow5 (by simp; omega) (fun k e => by have := (World.ownsRow.lt HO.out k e).1; omega)
              case measure => simp [intOf]; omega
        · obtain rfl : k = fs.length := by omega
          have HR : Hid (acc = withoutH fs ns) := Lib.hid (by have := HA.out; rwa [List.take_length] at this)
          have HO := Lib.hid (ownsRow_lowF hown (Nat.le_succ w.heap.size))
          have HB := Lib.hid hb
          clear hown hmap hb HA
          go_wp2_with fail
          go_ret
          refine ⟨⟨_, rfl, ?_⟩, HB.out⟩
          rw [← HR.out]
          exact HO.out

end Go.Proofs.YtfhpgobdnhlpcaaDoor
