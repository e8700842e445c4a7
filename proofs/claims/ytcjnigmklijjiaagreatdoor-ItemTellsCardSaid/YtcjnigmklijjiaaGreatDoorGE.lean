/- The contract of the parser's params. · The contract of the parser's item. · The contracts of item.parserOf and item.Parse. · The contract of item.paramText. · Parameters in memory as an argument, and the contract of item.hasEqualKeys. -/
import Derived.Test.YtcjnigmklijjiaaGreatDoorGD
import Derived.Maps.OwnSet

namespace Go.Proofs.YtcjnigmklijjiaaGreatDoor
open Go.RowKit Go.Maps
open Go.WideMaps (keyOf_string_mk)

theorem info_param : (Tryz.prog.info? 99).map (fun i => (i.zero, i.size, i.bytes)) = some (some (.agg #[.string ⟨#[]⟩, .int .i64 0, .int .i64 0, .string ⟨#[]⟩]), 4, 48) := by kernel_rfl
theorem keyStr : Keyed Tryz.prog 9 := string_keyed Tryz.underlying9
theorem zeroInt (w : World) : (zeroValue 3).run Tryz.prog w = .ok (.int .i64 0) w := by kernel_rfl

theorem parL_key (l : List UInt8) (p : Prm) (n : Nat) (h : parL l = some (p, n)) : p.key.length ≤ l.length := by
  have hk : ∀ (q : List UInt8) (j : Nat), ((l.drop j).take (klen q)).length ≤ l.length := fun q j => by
    rw [List.length_take, List.length_drop]; omega
  unfold parL at h
  split at h
  · cases h
  · split at h
    · split at h
      · cases h
      · have := congrArg (fun o => o.map (fun x => x.1.key)) h
        simp only [Option.map_some, Option.some.injEq] at this
        rw [← this]; exact hk _ _
    · have := congrArg (fun o => o.map (fun x => x.1.key)) h
      simp only [Option.map_some, Option.some.injEq] at this
      rw [← this]; exact hk _ _

/-- What params leaves. -/
def parsPost (o : Option (List Prm × Nat)) (b : Nat) (t : ByteArray) (k : Nat) (w : World) (e : Ending) (w' : World) : Prop :=
  Moved b w w' ∧ match o with
    | none => e = .returned (.tuple #[.slice none 0 0, .int .i64 2])
    | some (ps, m) => ∃ v, e = .returned (.tuple #[v, .int .i64 0]) ∧ w'.ownsRow w.heap.size 99 4 v ps.length (rowP ps) ∧ Par w' b t (k + m)

theorem ownsRow_low {w : World} {base B : Nat} {e : TypeId} {size : Nat} {v : Value} {n : Nat} {xs : List Value} (h : w.ownsRow base e size v n xs) (hB : B ≤ base) : w.ownsRow B e size v n xs := by
  obtain ⟨h1, h2⟩ := h
  refine ⟨h1, ?_⟩
  rcases h2 with h2 | ⟨g, cap, cur, hv, hg, r⟩
  · exact .inl h2
  · exact .inr ⟨g, cap, cur, hv, Nat.le_trans hB hg, r⟩

theorem owns_slice {w : World} {base : Nat} {e : TypeId} {size : Nat} {v : Value} {n : Nat} {xs : List Value} (h : w.ownsRow base e size v n xs) (hn : 0 < n) : ∃ g cap, v = .slice (some ⟨g, 0, none⟩) n cap ∧ base ≤ g ∧ g < w.heap.size ∧ n ≤ cap := by
  rcases h.2 with ⟨_, h2⟩ | ⟨g, cap, cur, hv, hg, hh, hc, _⟩
  · omega
  · exact ⟨g, cap, hv, hg, (Array.getElem?_eq_some_iff.1 hh).1, hc⟩
theorem owns_form {w : World} {base : Nat} {e : TypeId} {size : Nat} {v : Value} {n : Nat} {xs : List Value} (h : w.ownsRow base e size v n xs) : ∃ ao cap, v = .slice ao n cap := by
  rcases h.2 with ⟨hv, h2⟩ | ⟨g, cap, cur, hv, _⟩
  · exact ⟨none, 0, by rw [hv, h2]⟩
  · exact ⟨_, cap, hv⟩
theorem owns_cell {w : World} {base : Nat} {e : TypeId} {size n g cap : Nat} {xs : List Value} (h : w.ownsRow base e size (.slice (some ⟨g, 0, none⟩) n cap) n xs) (j : Nat) (hj : j < n * size) : ∃ u, w.cell? ⟨g, j, none⟩ = some u ∧ w.frozen? ⟨g, j, none⟩ = false := by
  have h1 := h.cellAt j hj
  have h2 : j < xs.length := by rw [h.1]; exact hj
  exact ⟨xs[j], by rw [h1, List.getElem?_eq_getElem h2], h.frozenAt j⟩

theorem keys_set (acc : List Prm) (p : Prm) (i : Nat) (hie : idxL (acc.map Prm.key) p.key = i) (hix : i < acc.length) : (acc.set i p).map Prm.key = acc.map Prm.key := by
  have hm : i < (acc.map Prm.key).length := by simpa using hix
  have hk : (acc.map Prm.key)[i] = p.key := by
    have h1 : (acc.map Prm.key).findIdx (· == p.key) < (acc.map Prm.key).length := by
      show idxL _ _ < _
      rw [hie]; exact hm
    have := List.findIdx_getElem (w := h1)
    have e : (acc.map Prm.key).findIdx (· == p.key) = i := hie
    simp only [e, beq_iff_eq] at this
    exact this
  rw [List.map_set, ← hk, List.set_getElem_self]

theorem grown_cell {W V : World} {row : Option Nat} (hg : W.grownBy V row) {c : Nat} (hc : c < W.heap.size) (hne : some c ≠ row) (o : Nat) : V.cell? ⟨c, o, none⟩ = W.cell? ⟨c, o, none⟩ :=
  World.cell?_of_block (w := W) (a := ⟨c, o, none⟩) (hg.block c hc hne)

theorem own_ne {w : World} {base c : Nat} {e : TypeId} {size : Nat} {v : Value} {n : Nat} {xs : List Value} (h : w.ownsRow base e size v n xs) (hc : c < base) : some c ≠ v.ownBlock := by
  intro e1
  have := (World.ownsRow.lt h c e1.symm).1
  omega

set_option maxRecDepth 100000 in
set_option maxHeartbeats 2000000 in
theorem params_any (b : Nat) (t : ByteArray) (k : Nat) (w : World) (h : Par w b t k) (ht : t.size ≤ 100000) (hk : k ≤ t.size) (hA : Alph w) (hAb : 0 ≠ b) :
    Calls Tryz.prog 53 #[.pointer (some ⟨b, 0, none⟩)] w (parsPost (psL (t.data.toList.drop k) [] 0) b t k w) := by
  obtain ⟨i0, hi, hz0, hz1, hz2⟩ := info_parts info_param
  have hbl := h.lt
  have HA := Lib.hid hA
  have HP0 := Lib.hid (h.alloc (.map #[] 0))
  have HM0 := Lib.hid ((Moved.refl b w).alloc (.map #[] 0))
  have Hmap0 := Lib.hid (World.ownsMap_made (H := Unit) w Tryz.prog 9 (plainElem Tryz.prog 3))
  have hmm := @run_makeMap Tryz.prog
  clear hA h
  go_enter Tryz.func53, Tryz.ntmps53
  go_wp2_with fail
  clear hmm
  go_loopw [4] (fun v wr => ∃ (K : Nat) (acc : List Prm) (D : DataW Unit), k ≤ K ∧ K ≤ t.size ∧ acc.length ≤ K ∧ Hid (psL (t.data.toList.drop k) [] 0 = psL (t.data.toList.drop K) acc (K - k)) ∧ Par wr b t K ∧ Moved b w wr ∧ wr.ownsRow (w.heap.size + 1) 99 4 v acc.length (rowP acc) ∧ wr.ownsMap Tryz.prog 9 (plainElem Tryz.prog 3) w.heap.size acc.length D ∧ Hid (PlaceOf D (acc.map Prm.key))) (fun _ wr => t.size - atOf wr b)
  case atStart => exact ⟨k, [], .map [], Nat.le_refl _, hk, Nat.zero_le _, Lib.hid (by rw [Nat.sub_self]), HP0.out, HM0.out, World.ownsRow_nil _ _ _ _, Hmap0.out, Lib.hid placeOf_none⟩
  case round =>
    obtain ⟨K, acc, D, hkK, hK, hal, H, hP, hM, hown, hmap, HD⟩ := hrel
    clear HP0 HM0 Hmap0
    have hP1 := Lib.hid hP
    have hM1 := Lib.hid hM
    by_cases h59 : (t.data.toList.drop K).head? = some 59
    · have cT := take_yes b t K 59 _ hP ht h59
      have hKs : K + 1 ≤ t.size := by
        by_cases hlt : K < t.size
        · omega
        · rw [List.drop_of_length_le (by rw [← Lib.size_eq]; omega)] at h59; cases h59
      have hown1 := Lib.hid hown
      have hmap1 := Lib.hid hmap
      have hdrop : (t.data.toList.drop K).drop 1 = t.data.toList.drop (K + 1) := by rw [List.drop_drop]
      clear hP hM hown hmap
      go_wp2_with fail
      refine cT.mono ?_
      rintro e w1 ⟨rfl, hP2, hM2⟩
      have hMw1 := hM1.out.trans hM2
      have cV := param_any b t (K + 1) w1 hP2 ht hKs (HA.out.moved hMw1 hAb) hAb
      have HO1 := Lib.hid (ownsRow_moved hown1.out hM2 (by omega))
      have HT1 := Lib.hid (ownsMap_moved hmap1.out hM2 (by omega))
      have HM1 := Lib.hid hMw1
      have HPK := Lib.hid hP2
      clear cT hM2 hMw1 hP2 hown1 hmap1
      cases hp : parL (t.data.toList.drop (K + 1)) with
      | none =>
        rw [psL_none _ _ _ h59 (by rw [hdrop, hp])] at H
        rw [hp] at cV
        clear hp h59 hdrop
        go_wp2_with fail
        refine cV.mono ?_
        rintro e w2 ⟨rfl, hM3, _⟩
        have hM4 := HM1.out.trans hM3
        simp only [prmV]
        clear cV hM3
        go_wp2_with fail
        go_ret2
        refine ⟨hM4.alloc _, ?_⟩
        rw [H.out]
        rfl
      | some pn =>
        obtain ⟨p, n⟩ := pn
        have hkl := parL_key _ p n hp
        rw [List.length_drop, ← Lib.size_eq] at hkl
        rw [psL_some _ _ _ p n h59 (by rw [hdrop, hp]), List.drop_drop] at H
        rw [hp] at cV
        have hkey : keyOf Tryz.prog 9 (.string (strB p.key)) = some (.string p.key) := keyOf_string_mk Tryz.underlying9 (by rw [strB_size]; unfold maxLen; omega)
        have Hkey := Lib.hid hkey
        clear hp h59 hdrop hkey
        go_wp2_with fail
        refine cV.mono ?_
        rintro e w2 ⟨rfl, hM3, K3, hK3, hP3, hadv⟩
        obtain rfl : K3 = K + 1 + n := hadv _ rfl
        have hM4 := HM1.out.trans hM3
        have hO2 := ownsRow_moved HO1.out hM3 (by omega)
        have hT2 := ownsMap_moved HT1.out hM3 (by omega)
        have hw2 : w.heap.size < w2.heap.size := hT2.lt
        simp only [prmV]
        have HM4 := Lib.hid hM4
        have HP4 := Lib.hid hP3
        have HO2 := Lib.hid hO2
        have hT3 := hT2.alloc (.cells #[.string (strB p.key), .int .i64 p.k, .int .i64 p.n, .string (strB p.s)] 99)
        have HT3 := Lib.hid hT3
        have HT2 := Lib.hid hT2
        clear cV hM3 hadv hM4 hO2 hT2 hP3 HO1 HT1 HM1 hT3
        by_cases hmem : p.key ∈ acc.map Prm.key
        · have hhas : Maps.has D (.string p.key) = true := by rw [(HD.out.2 p.key).1]; simpa using hmem
          have hix : idxL (acc.map Prm.key) p.key < acc.length := by have := (idxL_lt _ _).2 hmem; simpa using this
          have hat0 := (HD.out.2 p.key).2 hmem (.lit (.int .i64 0))
          obtain ⟨i, hie⟩ : ∃ i, idxL (acc.map Prm.key) p.key = i := ⟨_, rfl⟩
          rw [hie] at hix hat0
          have Hat0 := Lib.hid hat0
          have Hie := Lib.hid hie
          clear hat0 hie hmem
          have Hhas := Lib.hid hhas
          clear hhas
          obtain ⟨g, cap, rfl, hgB, hg2, hcap⟩ := owns_slice HO2.out (by omega)
          obtain ⟨u0, a0, f0⟩ := owns_cell HO2.out (i * 4) (by omega)
          obtain ⟨u1, a1, f1⟩ := owns_cell HO2.out (i * 4 + 1) (by omega)
          obtain ⟨u2, a2, f2⟩ := owns_cell HO2.out (i * 4 + 2) (by omega)
          obtain ⟨u3, a3, f3⟩ := owns_cell HO2.out (i * 4 + 3) (by omega)
          have hixI : (i : Int) < (acc.length : Int) := by omega
          go_wp2_with (at_lookup; refine wpList_lookup_own_ok_int _ rfl _ _ 158 rfl 9 3 .i64 keyStr Tryz.underlying158 Tryz.underlying3 (zeroInt _) w.heap.size acc.length _ rfl HT3.out _ _ rfl Hkey.out ?_; intro c hat hwc; have hc : c = (i : Int) := (by have := hat.symm.trans Hat0.out; simpa using this); subst hc; rw [Hhas.out]; clear hat hwc)
          go_roundw
          case rel =>
            have s0 := HO2.out.stored (i * 4) (.string (strB p.key))
            have s1 := s0.1.stored (i * 4 + 1) (.int .i64 p.k)
            have s2 := s1.1.stored (i * 4 + 2) (.int .i64 p.n)
            have s3 := s2.1.stored (i * 4 + 3) (.string (strB p.s))
            have hne : some w.heap.size ≠ some g := by simp; omega
            have m0 := (((HT2.out.kept s0.2 hne).kept s1.2 hne).kept s2.2 hne).kept s3.2 hne
            have hgb : g ≠ b := by omega
            refine ⟨K + 1 + n, acc.set i p, D, by omega, hK3, by rw [List.length_set]; omega, Lib.hid ?_, ?_, ?_, ?_, ?_, Lib.hid ?_⟩
            · rw [H.out, show K + (1 + n) = K + 1 + n by omega, show K - k + 1 + n = K + 1 + n - k by omega, putL, Hie.out, if_pos hix]
            · exact ((((HP4.out.other hgb _).other hgb _).other hgb _).other hgb _).alloc _
            · exact ((((HM4.out.setNew (by omega) _).setNew (by omega) _).setNew (by omega) _).setNew (by omega) _).alloc _
            · rw [List.length_set, rowP_set acc i p hix]
              exact s3.1.alloc _
            · rw [List.length_set]
              exact m0.alloc _
            · rw [keys_set acc p i Hie.out hix]
              exact HD.out
          case measure =>
            have e1 : atOf ((((((w2.setCell ⟨g, i * 4, none⟩ (.string (strB p.key))).setCell ⟨g, i * 4 + 1, none⟩ (.int .i64 p.k)).setCell ⟨g, i * 4 + 2, none⟩ (.int .i64 p.n)).setCell ⟨g, i * 4 + 3, none⟩ (.string (strB p.s))).alloc (.cells #[.string (strB p.key), .int .i64 p.k, .int .i64 p.n, .string (strB p.s)] 99))) b = K + 1 + n :=
              (((((HP4.out.other (by omega) _).other (by omega) _).other (by omega) _).other (by omega) _).alloc _).atOf
            rw [e1, hP1.out.atOf]
            omega
        · have hhas : Maps.has D (.string p.key) = false := by rw [(HD.out.2 p.key).1]; simpa using hmem
          have Hhas := Lib.hid hhas
          have Hmem := Lib.hid hmem
          obtain ⟨ao, cap, rfl⟩ := owns_form HO2.out
          have hO3 := HO2.out.alloc (.cells #[.string (strB p.key), .int .i64 p.k, .int .i64 p.n, .string (strB p.s)] 99)
          have HO3 := Lib.hid hO3
          clear hhas hmem hO3
          go_wp2_with (first | (at_lookup; refine wpList_lookup_own_ok_int _ rfl _ _ 158 rfl 9 3 .i64 keyStr Tryz.underlying158 Tryz.underlying3 (zeroInt _) w.heap.size acc.length _ rfl HT3.out _ _ rfl Hkey.out ?_; intro c hat hwc; rw [Hhas.out]; clear hat hwc) | (at_mapUpdate; refine wpList_mapUpdate_own _ rfl _ _ _ 158 rfl 9 3 keyStr Tryz.underlying158 _ w.heap.size acc.length _ rfl HT3.out (by unfold maxLen; omega) _ _ _ rfl rfl Hkey.out _ [] (plainElem_int Tryz.underlying3 (WalkArith.wf_i64 (by omega))) ?_; intro w4 hmap4 hgrow4; have hO4 := HO3.out.kept hgrow4 (.inr (Ne.symm (own_ne HO3.out (Nat.lt_succ_self _)))); have hw4 := hgrow4.size; have e0 := grown_cell hgrow4 (c := w2.heap.size) (by simp) (by simp; omega) 0; have e1 := grown_cell hgrow4 (c := w2.heap.size) (by simp) (by simp; omega) 1; have e2 := grown_cell hgrow4 (c := w2.heap.size) (by simp) (by simp; omega) 2; have e3 := grown_cell hgrow4 (c := w2.heap.size) (by simp) (by simp; omega) 3) | (at_builtin; refine wpList_append_own _ rfl _ _ 24 rfl (w.heap.size + 1) 99 i0 (.agg #[.string ⟨#[]⟩, .int .i64 0, .int .i64 0, .string ⟨#[]⟩]) 4 48 Tryz.underlying24 hi hz0 hz1 hz2 rfl (by decide) _ _ _ rfl (hO4.alloc _) ⟨_, 0, none⟩ 1 1 (cellsP p) rfl rfl (cells_new _ _ _) (by simp [Value.oneCell', cellsP]) (by unfold maxLen; omega) (by omega) (by simp at hw4; simp; omega) ?_; intro v' w5 hown5 hgrow5 _))
          have hPf : Par w5 b t (K + 1 + n) := ((((HP4.out.alloc _).grown hgrow4 (by simp; omega)).alloc _).grown hgrow5 (own_ne hO4 (by omega)))
          go_roundw
          case rel =>
            have hnix : ¬ idxL (acc.map Prm.key) p.key < acc.length := by
              intro h1
              exact Hmem.out ((idxL_lt _ _).1 (by simpa using h1))
            refine ⟨K + 1 + n, acc ++ [p], D.put (.string p.key) (.lit (.int .i64 (acc.length : Int))), by omega, hK3, by simp; omega, Lib.hid ?_, hPf, ?_, ?_, ?_, Lib.hid ?_⟩
            · rw [H.out, show K + (1 + n) = K + 1 + n by omega, show K - k + 1 + n = K + 1 + n - k by omega, putL, if_neg hnix]
            · exact (((HM4.out.alloc _).grown hgrow4 (fun k e => by cases e; exact Nat.le_refl _)).alloc _).grown hgrow5 (fun k e => Nat.le_trans (Nat.le_succ _) (World.ownsRow.lt hO4 k e).1)
            · rw [rowP_snoc, List.length_append]
              exact hown5
            · rw [List.length_append]
              exact (hmap4.alloc _).kept hgrow5 (own_ne hO4 (Nat.lt_succ_self _))
            · have := placeOf_put HD.out p.key Hmem.out
              rw [List.length_map] at this
              rw [List.map_append]
              exact this
          case measure =>
            rw [hPf.atOf, hP1.out.atOf]
            omega
    · have cT := take_no b t K 59 _ hP ht hK h59
      rw [psL_end _ _ _ h59] at H
      clear hP hM h59
      go_wp2_with fail
      refine cT.mono ?_
      rintro e w1 ⟨rfl, hP2, hM2⟩
      have hown1 := Lib.hid (ownsRow_low (ownsRow_moved hown hM2 (by omega)) (Nat.le_succ w.heap.size))
      clear cT hown hmap
      go_wp2_with fail
      go_ret2
      refine ⟨hM1.out.trans hM2, ?_⟩
      rw [H.out]
      exact ⟨_, rfl, hown1.out, by rw [show k + (K - k) = K by omega]; exact hP2⟩

end Go.Proofs.YtcjnigmklijjiaaGreatDoor

namespace Go.Proofs.YtcjnigmklijjiaaGreatDoor
open Go.RowKit

abbrev zeroItem : Obj := .cells #[.int .i64 0, .int .i64 0, .string ⟨#[]⟩, .slice none 0 0] 26
/-- The cells of an item that is none yet. -/
structure ResI (W : World) (c : Nat) : Prop where
  r0 : W.cell? ⟨c, 0, none⟩ = some (.int .i64 0)
  r1 : W.cell? ⟨c, 1, none⟩ = some (.int .i64 0)
  r2 : W.cell? ⟨c, 2, none⟩ = some (.string ⟨#[]⟩)
  r3 : W.cell? ⟨c, 3, none⟩ = some (.slice none 0 0)
  g0 : W.frozen? ⟨c, 0, none⟩ = false
  g1 : W.frozen? ⟨c, 1, none⟩ = false
  g2 : W.frozen? ⟨c, 2, none⟩ = false
  g3 : W.frozen? ⟨c, 3, none⟩ = false
theorem ResI.made (w : World) : ResI (w.alloc zeroItem) w.heap.size := ⟨by simp, by simp, by simp, by simp, by simp, by simp, by simp, by simp⟩
theorem ResI.lt {W : World} {c : Nat} (h : ResI W c) : c < W.heap.size := lt_of_cell h.r0
theorem ResI.moved {W W1 : World} {b c : Nat} (h : ResI W c) (hm : Moved b W W1) (hc : c ≠ b) : ResI W1 c :=
  ⟨(hm.cell (p := ⟨c, 0, none⟩) h.lt hc).trans h.r0, (hm.cell (p := ⟨c, 1, none⟩) h.lt hc).trans h.r1, (hm.cell (p := ⟨c, 2, none⟩) h.lt hc).trans h.r2, (hm.cell (p := ⟨c, 3, none⟩) h.lt hc).trans h.r3, (hm.frozen (p := ⟨c, 0, none⟩) h.lt hc).trans h.g0, (hm.frozen (p := ⟨c, 1, none⟩) h.lt hc).trans h.g1, (hm.frozen (p := ⟨c, 2, none⟩) h.lt hc).trans h.g2, (hm.frozen (p := ⟨c, 3, none⟩) h.lt hc).trans h.g3⟩

/-- The item with which a text begins, and how long it is. -/
def itmL (l : List UInt8) : Option (Got × List Prm × Nat) := match readL l with
  | none => none
  | some g => match psL (l.drop g.m) [] 0 with
    | none => none
    | some (ps, m) => some (g, ps, g.m + m)

def itmPost (o : Option (Got × List Prm × Nat)) (b : Nat) (t : ByteArray) (k : Nat) (w : World) (e : Ending) (w' : World) : Prop :=
  Moved b w w' ∧ match o with
    | none => e = .returned (.tuple #[.agg #[.int .i64 0, .int .i64 0, .string ⟨#[]⟩, .slice none 0 0], .int .i64 2])
    | some (g, ps, m) => ∃ v, e = .returned (.tuple #[.agg #[.int .i64 g.k, .int .i64 g.n, .string (strB g.s), v], .int .i64 0]) ∧ w'.ownsRow w.heap.size 99 4 v ps.length (rowP ps) ∧ Par w' b t (k + m)

set_option maxRecDepth 100000 in
set_option maxHeartbeats 2000000 in
theorem item_any (b : Nat) (t : ByteArray) (k : Nat) (w : World) (h : Par w b t k) (ht : t.size ≤ 100000) (hk : k ≤ t.size) (hA : Alph w) (hAb : 0 ≠ b) :
    Calls Tryz.prog 49 #[.pointer (some ⟨b, 0, none⟩)] w (itmPost (itmL (t.data.toList.drop k)) b t k w) := by
  have hbl := h.lt
  have hbn : b ≠ w.heap.size := by omega
  have HA := Lib.hid hA
  have HM0 := Lib.hid ((Moved.refl b w).alloc zeroItem)
  have HR0 := Lib.hid (ResI.made w)
  have cV := value_any b t k (w.alloc zeroItem) (h.alloc _) ht hk (hA.moved HM0.out hAb)
  have ho : ∀ g, readL (t.data.toList.drop k) = some g → k + g.m ≤ t.size := by
    intro g hg
    have := (readL_right _ g hg).2.2.1
    rw [List.length_drop, ← Lib.size_eq] at this
    omega
  clear hA h
  cases hrd : readL (t.data.toList.drop k) with
  | none =>
    have hI : itmL (t.data.toList.drop k) = none := by rw [itmL, hrd]
    rw [hI]
    rw [hrd] at cV
    simp only [valV] at cV
    clear hrd ho hI
    go_enter Tryz.func49, Tryz.ntmps49
    go_wp2_with fail
    refine cV.mono ?_
    rintro e w1 ⟨rfl, _, hM1⟩
    have hMw := HM0.out.trans hM1
    have hR1 := HR0.out.moved hM1 (Ne.symm hbn)
    have hlt1 := hR1.lt
    obtain ⟨r0, r1, r2, r3, g0, g1, g2, g3⟩ := hR1
    clear cV hM1 HM0 HR0
    go_wp2_with fail
    refine bodyPost_ret (v := .tuple #[.agg #[.int .i64 0, .int .i64 0, .string ⟨#[]⟩, .slice none 0 0], .int .i64 2]) (by simp [results, Tryz.results49, go_sem, r0, r1, r2, r3, hlt1]) rfl ⟨?_, rfl⟩
    repeat (first | with_reducible refine Moved.alloc ?_ _ | (with_reducible refine Moved.setNew ?_ (by omega) _) | with_reducible refine Moved.setCell ?_ _)
    exact hMw
  | some g =>
    have hg2 := ho g hrd
    obtain ⟨gk, gn, gs, gm⟩ := g
    simp only at hg2
    rw [hrd] at cV
    simp only [valV, advL] at cV
    have hI : itmL (t.data.toList.drop k) = match psL (t.data.toList.drop (k + gm)) [] 0 with
        | none => none
        | some (ps, m) => some (⟨gk, gn, gs, gm⟩, ps, gm + m) := by rw [itmL, hrd]; simp only [List.drop_drop]
    rw [hI]
    clear hI hrd ho
    obtain ⟨S, hS⟩ : ∃ S, strB gs = S := ⟨_, rfl⟩
    have HS := Lib.hid hS
    rw [hS] at cV
    clear hS
    cases hps : psL (t.data.toList.drop (k + gm)) [] 0 with
    | none =>
      go_enter Tryz.func49, Tryz.ntmps49
      go_wp2_with fail
      refine cV.mono ?_
      rintro e w1 ⟨rfl, hP1, hM1⟩
      have hMw := HM0.out.trans hM1
      have hR1 := HR0.out.moved hM1 (Ne.symm hbn)
      have cS := params_any b t (k + gm) (w1.alloc (.cells #[.int .i64 gk, .int .i64 gn, .string S] 23)) (hP1.alloc _) ht hg2 (HA.out.moved (hMw.alloc _) hAb) hAb
      rw [hps] at cS
      have HM1 := Lib.hid hMw
      have HR1 := Lib.hid hR1
      clear cV hM1 HM0 HR0 hps hMw hR1 hP1
      go_wp2_with fail
      refine cS.mono ?_
      rintro e w2 ⟨hM2, rfl⟩
      have hMw := (HM1.out.alloc _).trans hM2
      have hR2 := (HR1.out.moved ((Moved.refl b w1).alloc _) (Ne.symm hbn)).moved hM2 (Ne.symm hbn)
      have hlt2 := hR2.lt
      obtain ⟨r0, r1, r2, r3, g0, g1, g2, g3⟩ := hR2
      clear cS hM2 HM1 HR1
      go_wp2_with fail
      refine bodyPost_ret (v := .tuple #[.agg #[.int .i64 0, .int .i64 0, .string ⟨#[]⟩, .slice none 0 0], .int .i64 2]) (by simp [results, Tryz.results49, go_sem, r0, r1, r2, r3]) rfl ⟨?_, rfl⟩
      repeat (first | with_reducible refine Moved.alloc ?_ _ | (with_reducible refine Moved.setNew ?_ (by omega) _) | with_reducible refine Moved.setCell ?_ _)
      exact hMw
    | some pm =>
      obtain ⟨ps, m⟩ := pm
      go_enter Tryz.func49, Tryz.ntmps49
      go_wp2_with fail
      refine cV.mono ?_
      rintro e w1 ⟨rfl, hP1, hM1⟩
      have hMw := HM0.out.trans hM1
      have hR1 := HR0.out.moved hM1 (Ne.symm hbn)
      have cS := params_any b t (k + gm) (w1.alloc (.cells #[.int .i64 gk, .int .i64 gn, .string S] 23)) (hP1.alloc _) ht hg2 (HA.out.moved (hMw.alloc _) hAb) hAb
      rw [hps] at cS
      have HM1 := Lib.hid hMw
      have HR1 := Lib.hid hR1
      have hlt1 : w.heap.size < w1.heap.size := hR1.lt
      clear cV hM1 HM0 HR0 hps hMw hR1 hP1
      go_wp2_with fail
      refine cS.mono ?_
      rintro e w2 ⟨hM2, v, rfl, hown, hP2⟩
      have hMw := (HM1.out.alloc _).trans hM2
      have hR2 := (HR1.out.moved ((Moved.refl b w1).alloc _) (Ne.symm hbn)).moved hM2 (Ne.symm hbn)
      have hlt2 := hR2.lt
      have hcb := hM2.cell (p := ⟨w1.heap.size, 0, none⟩) (by simp) (by have := hM2; simp; omega)
      have hcb1 := hM2.cell (p := ⟨w1.heap.size, 1, none⟩) (by simp) (by simp; omega)
      have hcb2 := hM2.cell (p := ⟨w1.heap.size, 2, none⟩) (by simp) (by simp; omega)
      simp at hcb hcb1 hcb2
      obtain ⟨r0, r1, r2, r3, g0, g1, g2, g3⟩ := hR2
      obtain ⟨ao, cap, rfl⟩ := owns_form hown
      have HO := Lib.hid hown
      have HP2 := Lib.hid hP2
      clear cS hM2 HM1 HR1 hown hP2
      go_wp2_with fail
      refine bodyPost_ret (v := .tuple #[.agg #[.int .i64 gk, .int .i64 gn, .string S, .slice ao ps.length cap], .int .i64 0]) (by simp [results, Tryz.results49, go_sem, r0, r1, r2, r3]) rfl ?_
      refine ⟨?_, _, by rw [HS.out], ?_, ?_⟩
      · repeat (first | with_reducible refine Moved.alloc ?_ _ | (with_reducible refine Moved.setNew ?_ (by omega) _) | with_reducible refine Moved.setCell ?_ _)
        exact hMw
      · refine ownsRow_low (ownsRow_moved HO.out (b := w.heap.size) ?_ (by simp; omega)) (by simp; omega)
        repeat (with_reducible refine Moved.setCell ?_ _)
        exact Moved.refl _ _
      · repeat (with_reducible refine Par.other ?_ (by omega) _)
        rw [← Nat.add_assoc]
        exact HP2.out

end Go.Proofs.YtcjnigmklijjiaaGreatDoor

namespace Go.Proofs.YtcjnigmklijjiaaGreatDoor
open Go.RowKit

set_option maxHeartbeats 1000000 in
theorem parserOf_any (s : ByteArray) (w : World) :
    Calls Tryz.prog 48 #[.string s] w fun e w' => e = .returned (.agg #[.string s, .int .i64 0]) ∧ Below w.heap.size w w' := by
  go_enter Tryz.func48, Tryz.ntmps48
  go_wp2
  exact bodyPost_ret (v := .agg #[.string s, .int .i64 0]) (by simp [results, Tryz.results48, go_sem]) rfl ⟨rfl, (Below.refl _ _).alloc (Nat.le_refl _) _⟩

theorem Par.made (w : World) (t : ByteArray) : Par (w.alloc (.cells #[.string t, .int .i64 0] 105)) w.heap.size t 0 := ⟨by simp, by simp, by simp, by simp⟩

theorem trim_any (s : ByteArray) (w : World) (hs : s.size ≤ 100000) :
    Calls Tryz.prog 51 #[.string s, .string ⟨#[32]⟩] w fun e w' => e = .returned (.string (strB (Lib.trimB s.data.toList 32))) ∧ Below w.heap.size w w' := by
  refine (Tryz.strings_Trim_one s 32 (by decide) w (by omega)).mono ?_
  rintro e w' ⟨rfl, rfl | rfl⟩
  · exact ⟨rfl, Below.refl _ _⟩
  · exact ⟨rfl, (Below.refl _ _).drew⟩

theorem trimB_le (l : List UInt8) (c : UInt8) : (Lib.trimB l c).length ≤ l.length := by
  have h1 := trimRightB_le l c
  have h2 : (Lib.trimLeftB (Lib.trimRightB l c) c).length ≤ (Lib.trimRightB l c).length := (List.dropWhile_sublist _).length_le
  exact Nat.le_trans h2 h1

theorem parL_le (l : List UInt8) (p : Prm) (n : Nat) (h : parL l = some (p, n)) : n ≤ l.length := by
  have hs := spc_le l
  have hk := klen_le (l.drop (spcL l))
  rw [List.length_drop] at hk
  unfold parL at h
  split at h
  · cases h
  · split at h
    · rename_i h61
      have hlt : spcL l + klen (l.drop (spcL l)) < l.length := by
        by_cases hc : spcL l + klen (l.drop (spcL l)) < l.length
        · exact hc
        · rw [List.drop_of_length_le (by omega)] at h61; cases h61
      split at h
      · cases h
      · rename_i g hg
        have hm := (readL_right _ g hg).2.2.1
        rw [List.length_drop] at hm
        have := congrArg (fun o => o.map (fun x => x.2)) h
        simp only [Option.map_some, Option.some.injEq] at this
        omega
    · have := congrArg (fun o => o.map (fun x => x.2)) h
      simp only [Option.map_some, Option.some.injEq] at this
      omega

theorem psL_le (n : Nat) : ∀ (l : List UInt8) (acc : List Prm) (m : Nat) (ps : List Prm) (k : Nat), l.length ≤ n → psL l acc m = some (ps, k) → k ≤ m + l.length := by
  induction n with
  | zero =>
    intro l acc m ps k hl h
    have : l = [] := List.eq_nil_of_length_eq_zero (by omega)
    subst this
    rw [psL_end _ _ _ (by simp)] at h
    have := congrArg (fun o => o.map (fun x => x.2)) h
    simp only [Option.map_some, Option.some.injEq] at this
    omega
  | succ n ih =>
    intro l acc m ps k hl h
    by_cases h59 : l.head? = some 59
    · cases hp : parL (l.drop 1) with
      | none => rw [psL_none _ _ _ h59 hp] at h; cases h
      | some pn =>
        obtain ⟨p, j⟩ := pn
        have hj := parL_le _ p j hp
        have hlen : 1 ≤ l.length := by
          cases l with
          | nil => simp at h59
          | cons c r => simp
        rw [List.length_drop] at hj
        rw [psL_some _ _ _ p j h59 hp] at h
        have := ih (l.drop (1 + j)) (putL acc p) (m + 1 + j) ps k (by rw [List.length_drop]; omega) h
        rw [List.length_drop] at this
        omega
    · rw [psL_end _ _ _ h59] at h
      have := congrArg (fun o => o.map (fun x => x.2)) h
      simp only [Option.map_some, Option.some.injEq] at this
      omega

theorem itmL_le (l : List UInt8) (g : Got) (ps : List Prm) (m : Nat) (h : itmL l = some (g, ps, m)) : m ≤ l.length := by
  unfold itmL at h
  split at h
  · cases h
  · rename_i g' hg
    have h1 := (readL_right _ g' hg).2.2.1
    split at h
    · cases h
    · rename_i ps' m' hp
      have h2 := psL_le _ _ _ _ _ _ (Nat.le_refl _) hp
      rw [List.length_drop] at h2
      have := congrArg (fun o => o.map (fun x => x.2.2)) h
      simp only [Option.map_some, Option.some.injEq] at this
      omega

/-- The item that a text is, apart from spaces around it. -/
def parseL (l : List UInt8) : Option (Got × List Prm) := match itmL (Lib.trimB l 32) with
  | none => none
  | some (g, ps, m) => if m < (Lib.trimB l 32).length then none else some (g, ps)

def parsePost (o : Option (Got × List Prm)) (w : World) (e : Ending) (w' : World) : Prop :=
  Below w.heap.size w w' ∧ match o with
    | none => e = .returned (.tuple #[.agg #[.int .i64 0, .int .i64 0, .string ⟨#[]⟩, .slice none 0 0], .int .i64 2])
    | some (g, ps) => ∃ v, e = .returned (.tuple #[.agg #[.int .i64 g.k, .int .i64 g.n, .string (strB g.s), v], .int .i64 0]) ∧ w'.ownsRow w.heap.size 99 4 v ps.length (rowP ps)

set_option maxRecDepth 100000 in
set_option maxHeartbeats 2000000 in
theorem parse_any (s : ByteArray) (w : World) (hs : s.size ≤ 100000) (hA : Alph w) :
    Calls Tryz.prog 15 #[.string s] w (parsePost (parseL s.data.toList) w) := by
  have hgl : 0 < w.heap.size := lt_of_cell (hA 0 (by decide))
  have HA := Lib.hid hA
  have hb0 : Below w.heap.size w (w.alloc zeroItem) := (Below.refl _ _).alloc (Nat.le_refl _) _
  have HR0 := Lib.hid (ResI.made w)
  have cT := fun W => trim_any s W hs
  have hle := trimB_le s.data.toList 32
  rw [← Lib.size_eq] at hle
  obtain ⟨T, hT⟩ : ∃ T, strB (Lib.trimB s.data.toList 32) = T := ⟨_, rfl⟩
  rw [hT] at cT
  have hTd : T.data.toList = Lib.trimB s.data.toList 32 := by rw [← hT]; rfl
  have hTs : T.size ≤ 100000 := by rw [Lib.size_eq, hTd]; omega
  have HL : Hid (parseL s.data.toList = match itmL T.data.toList with
      | none => none
      | some (g, ps, m) => if m < T.size then none else some (g, ps)) := Lib.hid (by rw [parseL, Lib.size_eq, hTd])
  clear hA hT hTd hle
  go_enter Tryz.func15, Tryz.ntmps15
  go_wp2_with fail
  refine (cT _).mono ?_
  rintro e w1 ⟨rfl, hb1⟩
  go_wp2_with fail
  refine (parserOf_any _ _).mono ?_
  rintro e w2 ⟨rfl, hb2⟩
  have hb12 := hb1.trans (hb2.mono hb1.size)
  have hbw := hb0.trans (hb12.mono hb0.size)
  have hz2 : w.heap.size < w2.heap.size := by have := hb12.size; simp at this; omega
  have hR2 := HR0.out.moved (Moved.of_below (b := w2.heap.size) hb12) (by omega)
  have cI := item_any w2.heap.size T 0 (w2.alloc (.cells #[.string T, .int .i64 0] 105)) (Par.made w2 T) hTs (Nat.zero_le _) (HA.out.below (hbw.alloc hbw.size _)) (by omega)
  rw [List.drop_zero] at cI
  have HBw := Lib.hid (hbw.alloc hbw.size (.cells #[.string T, .int .i64 0] 105))
  have HR2 := Lib.hid hR2
  clear hb1 hb2 hb12 hbw hR2 cT HR0 hb0
  cases hit : itmL T.data.toList with
  | none =>
    rw [hit] at cI
    have HN : Hid (parseL s.data.toList = none) := Lib.hid (by rw [HL.out, hit])
    clear hit HL
    go_wp2_with fail
    refine cI.mono ?_
    rintro e w3 ⟨hM3, rfl⟩
    have hR3 := (HR2.out.moved ((Moved.refl w2.heap.size w2).alloc _) (by omega)).moved hM3 (by omega)
    have hB3 := HBw.out.trans (hM3.below (by omega) (by simp; omega))
    have hlt3 := hR3.lt
    obtain ⟨r0, r1, r2, r3, g0, g1, g2, g3⟩ := hR3
    clear cI hM3 HBw HR2
    go_wp2_with fail
    refine bodyPost_ret (v := .tuple #[.agg #[.int .i64 0, .int .i64 0, .string ⟨#[]⟩, .slice none 0 0], .int .i64 2]) (by simp [results, Tryz.results15, go_sem, r0, r1, r2, r3, hlt3]) rfl ?_
    refine ⟨?_, by rw [HN.out]⟩
    repeat (first | with_reducible refine Below.alloc ?_ (by simp; omega) _ | with_reducible refine Below.setCell ?_ (by simp) _)
    exact hB3
  | some x =>
    obtain ⟨g, ps, m⟩ := x
    have hml := itmL_le _ g ps m hit
    rw [← Lib.size_eq] at hml
    rw [hit] at cI
    by_cases hm : m < T.size
    · have HN : Hid (parseL s.data.toList = none) := Lib.hid (by rw [HL.out, hit]; simp only [if_pos hm])
      clear hit HL
      go_wp2_with fail
      refine cI.mono ?_
      rintro e w3 ⟨hM3, v, rfl, hown, hP3⟩
      rw [Nat.zero_add] at hP3
      obtain ⟨ao, cap, rfl⟩ := owns_form hown
      have hR3 := (HR2.out.moved ((Moved.refl w2.heap.size w2).alloc _) (by omega)).moved hM3 (by omega)
      have hB3 := HBw.out.trans (hM3.below (by omega) (by simp; omega))
      have hlt3 := hR3.lt
      have hlt4 : w2.heap.size < w3.heap.size := hP3.lt
      obtain ⟨r0, r1, r2, r3, g0, g1, g2, g3⟩ := hR3
      have c0 := hP3.text
      have c1 := hP3.at_
      clear cI hM3 HBw HR2 hP3 hown
      go_wp2_with fail
      refine bodyPost_ret (v := .tuple #[.agg #[.int .i64 0, .int .i64 0, .string ⟨#[]⟩, .slice none 0 0], .int .i64 2]) (by simp [results, Tryz.results15, go_sem, r0, r1, r2, r3, hlt3]) rfl ?_
      refine ⟨?_, by rw [HN.out]⟩
      repeat (first | with_reducible refine Below.alloc ?_ (by simp; omega) _ | with_reducible refine Below.setCell ?_ (by simp) _)
      exact hB3
    · have HN : Hid (parseL s.data.toList = some (g, ps)) := Lib.hid (by rw [HL.out, hit]; simp only [if_neg hm])
      clear hit HL
      obtain ⟨gk, gn, gs, gm⟩ := g
      go_wp2_with fail
      refine cI.mono ?_
      rintro e w3 ⟨hM3, v, rfl, hown, hP3⟩
      simp only
      generalize hSe : strB gs = S
      have HS := Lib.hid hSe
      clear hSe
      rw [Nat.zero_add] at hP3
      obtain ⟨ao, cap, rfl⟩ := owns_form hown
      have hR3 := (HR2.out.moved ((Moved.refl w2.heap.size w2).alloc _) (by omega)).moved hM3 (by omega)
      have hB3 := HBw.out.trans (hM3.below (by omega) (by simp; omega))
      have hlt3 := hR3.lt
      have hlt4 : w2.heap.size < w3.heap.size := hP3.lt
      obtain ⟨r0, r1, r2, r3, g0, g1, g2, g3⟩ := hR3
      have c0 := hP3.text
      have c1 := hP3.at_
      have HO := Lib.hid hown
      have hmI : ¬ (m : Int) < (T.size : Int) := by omega
      clear cI hM3 HBw HR2 hP3 hown
      go_wp2_with fail
      refine bodyPost_ret (v := .tuple #[.agg #[.int .i64 gk, .int .i64 gn, .string S, .slice ao ps.length cap], .int .i64 0]) (by simp [results, Tryz.results15, go_sem, r0, r1, r2, r3, hlt3]) rfl ?_
      refine ⟨?_, ?_⟩
      · repeat (first | with_reducible refine Below.alloc ?_ (by simp; omega) _ | with_reducible refine Below.setCell ?_ (by simp) _)
        exact hB3
      · rw [HN.out]
        refine ⟨_, by rw [HS.out], ?_⟩
        refine ownsRow_low (ownsRow_moved (HO.out) (b := w.heap.size) ?_ (by simp; omega)) (by simp; omega)
        repeat (first | with_reducible refine Moved.alloc ?_ _ | with_reducible refine Moved.setCell ?_ _)
        exact Moved.refl _ _

end Go.Proofs.YtcjnigmklijjiaaGreatDoor

namespace Go.Proofs.YtcjnigmklijjiaaGreatDoor
open Go.RowKit

/-- The text of a parameter, if it may be. -/
def pmT (p : Prm) : Option (List UInt8) :=
  if rightL p.k p.n p.s = true ∧ keyL p.key = true then
    some (if p.k = 6 ∧ p.n = 1 then 59 :: p.key else 59 :: (p.key ++ 61 :: textL p.k p.n p.s))
  else none

theorem pmT_none (p : Prm) (h : rightL p.k p.n p.s = false ∨ keyL p.key = false) : pmT p = none := by
  rw [pmT, if_neg]
  rintro ⟨h1, h2⟩
  rcases h with h | h
  · rw [h1] at h; cases h
  · rw [h2] at h; cases h
theorem pmT_one (p : Prm) (h1 : rightL p.k p.n p.s = true) (h2 : keyL p.key = true) (h3 : p.k = 6 ∧ p.n = 1) : pmT p = some (59 :: p.key) := by
  rw [pmT, if_pos ⟨h1, h2⟩, if_pos h3]
theorem pmT_all (p : Prm) (h1 : rightL p.k p.n p.s = true) (h2 : keyL p.key = true) (h3 : ¬ (p.k = 6 ∧ p.n = 1)) : pmT p = some (59 :: (p.key ++ 61 :: textL p.k p.n p.s)) := by
  rw [pmT, if_pos ⟨h1, h2⟩, if_neg h3]

theorem param_cells (w : World) (K : ByteArray) (k n : Int) (s : ByteArray) (W : World) (hb : Below (w.heap.size + 1) (w.alloc (.cells #[.string K, .int .i64 k, .int .i64 n, .string s] 99)) W) :
    W.cell? ⟨w.heap.size, 0, none⟩ = some (.string K) ∧ W.cell? ⟨w.heap.size, 1, none⟩ = some (.int .i64 k) ∧ W.cell? ⟨w.heap.size, 2, none⟩ = some (.int .i64 n) ∧ W.cell? ⟨w.heap.size, 3, none⟩ = some (.string s) := by
  refine ⟨?_, ?_, ?_, ?_⟩
  · rw [hb.cell (p := ⟨w.heap.size, 0, none⟩) (by simp)]; simp
  · rw [hb.cell (p := ⟨w.heap.size, 1, none⟩) (by simp)]; simp
  · rw [hb.cell (p := ⟨w.heap.size, 2, none⟩) (by simp)]; simp
  · rw [hb.cell (p := ⟨w.heap.size, 3, none⟩) (by simp)]; simp

theorem cell_next {W W1 : World} {b o : Nat} {v : Value} (hb : Below W.heap.size W W1) (h : W.cell? ⟨b, o, none⟩ = some v) : W1.cell? ⟨b, o, none⟩ = some v :=
  (hb.cell (p := ⟨b, o, none⟩) (lt_of_cell h)).trans h

abbrev heldP (w W : World) (c : Nat) (K s : ByteArray) (k n : Int) : Prop :=
  W.cell? ⟨c, 0, none⟩ = some (.string K) ∧ W.cell? ⟨c, 1, none⟩ = some (.int .i64 k) ∧ W.cell? ⟨c, 2, none⟩ = some (.int .i64 n) ∧ W.cell? ⟨c, 3, none⟩ = some (.string s) ∧ Below w.heap.size w W
theorem heldP_next {w W W1 : World} {c : Nat} {K s : ByteArray} {k n : Int} (hb : Below W.heap.size W W1) (h : heldP w W c K s k n) : heldP w W1 c K s k n :=
  ⟨cell_next hb h.1, cell_next hb h.2.1, cell_next hb h.2.2.1, cell_next hb h.2.2.2.1, h.2.2.2.2.trans (hb.mono h.2.2.2.2.size)⟩

set_option maxRecDepth 100000 in
set_option maxHeartbeats 2000000 in
theorem paramText_any (K : List UInt8) (k n : Int) (s : List UInt8) (w : World) (hK : K.length ≤ 100000) (hs : s.length ≤ 100000) (hn : -9223372036854775808 ≤ n ∧ n ≤ 9223372036854775807) (hA : Alph w) (hP : Pow w) :
    Calls Tryz.prog 58 #[.agg #[.string (strB K), .int .i64 k, .int .i64 n, .string (strB s)]] w (printPost (textV (pmT ⟨K, k, n, s⟩)) w) := by
  have hb0 : Below w.heap.size w (w.alloc (.cells #[.string (strB K), .int .i64 k, .int .i64 n, .string (strB s)] 99)) := (Below.refl _ _).alloc (Nat.le_refl _) _
  have cP := print_any k n (strB s) (w.alloc (.cells #[.string (strB K), .int .i64 k, .int .i64 n, .string (strB s)] 99)) (by rw [strB_size]; exact hs) hn (hA.below hb0) (hP.below hb0)
  have cK := fun W => key_any (strB K) W (by rw [strB_size]; unfold maxLen; omega)
  rw [strB_data] at cP cK
  have hKz : (strB K).size ≤ 100000 := by rw [strB_size]; exact hK
  clear hA hP
  cases hr : rightL k n s
  · rw [pmT_none ⟨K, k, n, s⟩ (.inl hr)]
    rw [printL, hr, if_neg (by simp)] at cP
    show Calls _ _ _ _ (printPost (.tuple #[.string ⟨#[]⟩, .int .i64 2]) w)
    have hv : textV none = .tuple #[.string ⟨#[]⟩, .int .i64 2] := rfl
    rw [hv] at cP
    clear hr hv cK
    go_enter Tryz.func58, Tryz.ntmps58
    go_wp2_with fail
    refine cP.mono ?_
    rintro e w1 ⟨rfl, hb1⟩
    go_wp2_with fail
    go_ret2
    exact ⟨rfl, hb0.trans (hb1.mono hb0.size)⟩
  · have htl := textL_len k n s hr
    rw [printL, hr, if_pos rfl] at cP
    obtain ⟨X, hX⟩ : ∃ X, strB (textL k n s) = X := ⟨_, rfl⟩
    have hv : textV (some (textL k n s)) = .tuple #[.string X, .int .i64 0] := by rw [← hX]; rfl
    have hXz : X.size ≤ 300000 := by rw [← hX, strB_size]; omega
    rw [hv] at cP
    clear hv htl
    cases hk : keyL K
    · rw [pmT_none ⟨K, k, n, s⟩ (.inr hk)]
      rw [hk] at cK
      show Calls _ _ _ _ (printPost (.tuple #[.string ⟨#[]⟩, .int .i64 2]) w)
      clear hr hk hX
      go_enter Tryz.func58, Tryz.ntmps58
      go_wp2_with fail
      refine cP.mono ?_
      rintro e w1 ⟨rfl, hb1⟩
      obtain ⟨c0, c1, c2, c3⟩ := param_cells w (strB K) k n (strB s) w1 (by simpa using hb1)
      go_wp2_with fail
      refine (cK _).mono ?_
      rintro e w' ⟨rfl, rfl⟩
      go_wp2_with fail
      go_ret2
      exact ⟨rfl, hb0.trans (hb1.mono hb0.size)⟩
    · rw [hk] at cK
      have cU : ∀ W, heldP w W w.heap.size (strB K) (strB s) k n → Calls Tryz.prog 106 #[] W fun e w' => e = .returned (.agg #[.int .i64 6, .int .i64 1, .string ⟨#[]⟩]) ∧ heldP w w' w.heap.size (strB K) (strB s) k n :=
        fun W h => (unspoken_any W).mono fun e w' hh => ⟨hh.1, heldP_next hh.2 h⟩
      by_cases h61 : k = 6 ∧ n = 1
      · obtain ⟨rfl, rfl⟩ := h61
        have hse : s = [] := by
          rcases right_kind 6 1 s hr with ⟨h, _⟩ | ⟨_, h, _⟩ | ⟨h, _⟩ | ⟨h, _⟩ | ⟨h, _⟩
          · omega
          · exact h
          · omega
          · omega
          · omega
        subst hse
        rw [pmT_one ⟨K, 6, 1, []⟩ hr hk ⟨rfl, rfl⟩]
        have HV : Hid (textV (some (59 :: K)) = .tuple #[.string ((⟨#[59]⟩ : ByteArray) ++ strB K), .int .i64 0]) := Lib.hid (by rw [show (⟨#[59]⟩ : ByteArray) = strB [59] from rfl, strB_append]; rfl)
        rw [HV.out]
        rw [show strB [] = (⟨#[]⟩ : ByteArray) from rfl] at *
        clear hr hk hX HV
        generalize strB K = KB at *
        go_enter Tryz.func58, Tryz.ntmps58
        go_wp2_with fail
        refine cP.mono ?_
        rintro e w1 ⟨rfl, hb1⟩
        obtain ⟨c0, c1, c2, c3⟩ := param_cells w KB 6 1 ⟨#[]⟩ w1 (by simpa using hb1)
        have hS0 : heldP w w1.drew w.heap.size KB ⟨#[]⟩ 6 1 := ⟨c0, c1, c2, c3, (hb0.trans (hb1.mono hb0.size)).drew⟩
        go_wp2_with fail
        refine (cK _).mono ?_
        rintro e w' ⟨rfl, rfl⟩
        go_wp2_with fail
        go_region_held3 (fun W => W.cell? ⟨w.heap.size, 0, none⟩ = some (.string KB) ∧ W.cell? ⟨w.heap.size, 1, none⟩ = some (.int .i64 6) ∧ W.cell? ⟨w.heap.size, 2, none⟩ = some (.int .i64 1) ∧ W.cell? ⟨w.heap.size, 3, none⟩ = some (.string ⟨#[]⟩) ∧ Below w.heap.size w W) (first | assumption | go_keep)
          (first | (go_at_call 106; refine (cU _ (by assumption)).mono ?_; rintro e w' ⟨rfl, hh⟩))
        all_goals
          obtain ⟨d0, d1, d2, d3, dB⟩ := (by assumption : heldP w _ w.heap.size KB ⟨#[]⟩ 6 1)
        all_goals go_wp2_with fail
        all_goals go_ret2
        all_goals exact ⟨rfl, dB⟩
      · by_cases hk6 : k = 6
        · subst hk6
          obtain ⟨hse, hn0⟩ : s = [] ∧ n = 0 := by
            rcases right_kind 6 n s hr with ⟨h, _⟩ | ⟨_, h, h2⟩ | ⟨h, _⟩ | ⟨h, _⟩ | ⟨h, _⟩
            · omega
            · exact ⟨h, by omega⟩
            · omega
            · omega
            · omega
          subst hse hn0
          rw [pmT_all ⟨K, 6, 0, []⟩ hr hk (by simp)]
          have HV : Hid (textV (some (59 :: (K ++ 61 :: textL 6 0 []))) = .tuple #[.string ((⟨#[59]⟩ : ByteArray) ++ strB K ++ (⟨#[61]⟩ : ByteArray) ++ X), .int .i64 0]) := Lib.hid (by
            rw [← hX, show (⟨#[59]⟩ : ByteArray) = strB [59] from rfl, show (⟨#[61]⟩ : ByteArray) = strB [61] from rfl, strB_append, strB_append, strB_append, textV]
            simp only [List.append_assoc, List.cons_append, List.nil_append])
          rw [HV.out]
          rw [show strB [] = (⟨#[]⟩ : ByteArray) from rfl] at *
          clear hr hk hX HV
          generalize strB K = KB at *
          go_enter Tryz.func58, Tryz.ntmps58
          go_wp2_with fail
          refine cP.mono ?_
          rintro e w1 ⟨rfl, hb1⟩
          obtain ⟨c0, c1, c2, c3⟩ := param_cells w KB 6 0 ⟨#[]⟩ w1 (by simpa using hb1)
          have hS0 : heldP w w1.drew w.heap.size KB ⟨#[]⟩ 6 0 := ⟨c0, c1, c2, c3, (hb0.trans (hb1.mono hb0.size)).drew⟩
          go_wp2_with fail
          refine (cK _).mono ?_
          rintro e w' ⟨rfl, rfl⟩
          go_wp2_with fail
          go_region_held3 (fun W => W.cell? ⟨w.heap.size, 0, none⟩ = some (.string KB) ∧ W.cell? ⟨w.heap.size, 1, none⟩ = some (.int .i64 6) ∧ W.cell? ⟨w.heap.size, 2, none⟩ = some (.int .i64 0) ∧ W.cell? ⟨w.heap.size, 3, none⟩ = some (.string ⟨#[]⟩) ∧ Below w.heap.size w W) (first | assumption | go_keep)
            (first | (go_at_call 106; refine (cU _ (by assumption)).mono ?_; rintro e w' ⟨rfl, hh⟩))
          all_goals
            obtain ⟨d0, d1, d2, d3, dB⟩ := (by assumption : heldP w _ w.heap.size KB ⟨#[]⟩ 6 0)
          all_goals go_wp2_with fail
          all_goals go_ret2
          all_goals exact ⟨rfl, dB⟩
        · have g6 : (k == 6) = false := by simpa using hk6
          rw [pmT_all ⟨K, k, n, s⟩ hr hk (by simp; omega)]
          have HV : Hid (textV (some (59 :: (K ++ 61 :: textL k n s))) = .tuple #[.string ((⟨#[59]⟩ : ByteArray) ++ strB K ++ (⟨#[61]⟩ : ByteArray) ++ X), .int .i64 0]) := Lib.hid (by
            rw [← hX, show (⟨#[59]⟩ : ByteArray) = strB [59] from rfl, show (⟨#[61]⟩ : ByteArray) = strB [61] from rfl, strB_append, strB_append, strB_append, textV]
            simp only [List.append_assoc, List.cons_append, List.nil_append])
          rw [HV.out]
          clear hr hk hX HV
          generalize strB K = KB at *
          generalize strB s = SB at *
          go_enter Tryz.func58, Tryz.ntmps58
          go_wp2_with fail
          refine cP.mono ?_
          rintro e w1 ⟨rfl, hb1⟩
          obtain ⟨c0, c1, c2, c3⟩ := param_cells w KB k n SB w1 (by simpa using hb1)
          have hS0 : heldP w w1.drew w.heap.size KB SB k n := ⟨c0, c1, c2, c3, (hb0.trans (hb1.mono hb0.size)).drew⟩
          go_wp2_with fail
          refine (cK _).mono ?_
          rintro e w' ⟨rfl, rfl⟩
          go_wp2_with fail
          go_region_held3 (fun W => W.cell? ⟨w.heap.size, 0, none⟩ = some (.string KB) ∧ W.cell? ⟨w.heap.size, 1, none⟩ = some (.int .i64 k) ∧ W.cell? ⟨w.heap.size, 2, none⟩ = some (.int .i64 n) ∧ W.cell? ⟨w.heap.size, 3, none⟩ = some (.string SB) ∧ Below w.heap.size w W) (first | assumption | go_keep)
            (first | (go_at_call 106; refine (cU _ (by assumption)).mono ?_; rintro e w' ⟨rfl, hh⟩))
          all_goals
            obtain ⟨d0, d1, d2, d3, dB⟩ := (by assumption : heldP w _ w.heap.size KB SB k n)
          all_goals go_wp2_with fail
          all_goals go_ret2
          all_goals exact ⟨rfl, dB⟩

end Go.Proofs.YtcjnigmklijjiaaGreatDoor

namespace Go.Proofs.YtcjnigmklijjiaaGreatDoor
open Go.RowKit Go.Maps
open Go.WideMaps (keyOf_string_mk)

/-- A slice of parameters in memory. -/
def Prms (w : World) (v : Value) (ps : List Prm) : Prop :=
  ∃ ao cap, v = .slice ao ps.length cap ∧ (ps = [] ∨ ∃ b off, ao = some ⟨b, off, none⟩ ∧ ∀ j u, (rowP ps)[j]? = some u → w.cell? ⟨b, off + j, none⟩ = some u)

theorem Prms.of_own {w : World} {base : Nat} {e : TypeId} {v : Value} {ps : List Prm} (h : w.ownsRow base e 4 v ps.length (rowP ps)) : Prms w v ps := by
  rcases h.2 with ⟨hv, h2⟩ | ⟨g, cap, cur, hv, hg, hh, hc, hr⟩
  · have : ps = [] := List.eq_nil_of_length_eq_zero h2
    subst this
    exact ⟨none, 0, hv, .inl rfl⟩
  · refine ⟨_, cap, hv, .inr ⟨g, 0, rfl, fun j u hu => ?_⟩⟩
    have := World.ownsRow.cells h (g := g) (by rw [hv]; rfl) j u hu
    rw [add_none] at this
    rw [Nat.zero_add]; exact this

theorem Prms.below {w W : World} {v : Value} {ps : List Prm} (h : Prms w v ps) (hb : Below w.heap.size w W) : Prms W v ps := by
  obtain ⟨ao, cap, hv, h⟩ := h
  refine ⟨ao, cap, hv, ?_⟩
  rcases h with h | ⟨b, off, ha, h⟩
  · exact .inl h
  · exact .inr ⟨b, off, ha, fun j u hu => by have := h j u hu; exact (hb.cell (p := ⟨b, off + j, none⟩) (lt_of_cell this)).trans this⟩

theorem rowP_at : ∀ (ps : List Prm) (i : Nat) (p : Prm), ps[i]? = some p → (rowP ps)[i * 4]? = some (.string (strB p.key)) ∧ (rowP ps)[i * 4 + 1]? = some (.int .i64 p.k) ∧ (rowP ps)[i * 4 + 2]? = some (.int .i64 p.n) ∧ (rowP ps)[i * 4 + 3]? = some (.string (strB p.s))
  | [], i, p, h => by simp at h
  | q :: ps, 0, p, h => by
    simp only [List.getElem?_cons_zero, Option.some.injEq] at h
    subst h
    unfold rowP
    rw [List.flatMap_cons]
    exact ⟨rfl, rfl, rfl, rfl⟩
  | q :: ps, i + 1, p, h => by
    have ih := rowP_at ps i p (by simpa using h)
    unfold rowP at ih ⊢
    rw [List.flatMap_cons]
    have e : ∀ j, (cellsP q ++ ps.flatMap cellsP)[(i + 1) * 4 + j]? = (ps.flatMap cellsP)[i * 4 + j]? := by
      intro j
      rw [List.getElem?_append_right (by show 4 ≤ _; omega)]
      congr 1
      show (i + 1) * 4 + j - 4 = _
      omega
    have e0 := e 0
    simp only [Nat.add_zero] at e0
    rw [e0, e 1, e 2, e 3]
    exact ih

/-- A map's datum that is a set of keys. -/
def KeySet (D : DataW Unit) (ks : List (List UInt8)) : Prop :=
  Tidy D ∧ (∀ k, Maps.has D (.string k) = decide (k ∈ ks)) ∧ Maps.size D ≤ ks.length ∧ (Maps.size D = ks.length ↔ ks.Nodup)
theorem keySet_none : KeySet (.map []) [] := ⟨tidy_empty, fun k => by simp [Maps.has], by simp [Maps.size], by simp [Maps.size]⟩
theorem keySet_put {D : DataW Unit} {ks : List (List UInt8)} (h : KeySet D ks) (k : List UInt8) (d : DataW Unit) : KeySet (D.put (.string k) d) (ks ++ [k]) := by
  obtain ⟨h1, h2, h3, h4⟩ := h
  have hk : WideAt.IsKeyLit (.string k) := trivial
  refine ⟨h1.put hk d, fun q => ?_, ?_, ?_⟩
  · by_cases hq : q = k
    · subst hq
      rw [has_put_same h1.isMap hk]; simp
    · rw [has_put_other (by simpa using hq), h2]
      simp [hq]
  · rw [size_put h1, List.length_append, List.length_singleton]
    split <;> omega
  · rw [size_put h1, h2, List.length_append, List.length_singleton]
    by_cases hm : k ∈ ks
    · rw [if_pos (by simpa using hm)]
      constructor
      · intro e; omega
      · intro hn
        rw [List.nodup_append] at hn
        exact absurd rfl (hn.2.2 k hm k (by simp))
    · rw [if_neg (by simpa using hm)]
      constructor
      · intro e
        rw [List.nodup_append]
        refine ⟨h4.1 (by omega), by simp, fun a ha b hb => ?_⟩
        simp only [List.mem_singleton] at hb
        subst hb
        intro e2
        subst e2
        exact hm ha
      · intro hn
        rw [List.nodup_append] at hn
        have := h4.2 hn.1
        omega

/-- Whether two keys are equal. -/
def eqK (ps : List Prm) : Bool := !decide (ps.map Prm.key).Nodup

set_option maxRecDepth 100000 in
set_option maxHeartbeats 2000000 in
theorem hasEqualKeys_any (v : Value) (ps : List Prm) (w : World) (h : Prms w v ps) (hl : ps.length ≤ 100000) (hk : ∀ p ∈ ps, p.key.length ≤ 100000) :
    Calls Tryz.prog 57 #[v] w fun e w' => e = .returned (.bool (eqK ps)) ∧ Below w.heap.size w w' := by
  obtain ⟨ao, cap, rfl, hc⟩ := h
  have Hmap0 := Lib.hid (World.ownsMap_made (H := Unit) w Tryz.prog 9 unitElem)
  have HB0 : Hid (Below w.heap.size w (w.alloc (.map #[] 0))) := Lib.hid ((Below.refl _ _).alloc (Nat.le_refl _) _)
  have hmm := @run_makeMap Tryz.prog
  have HK := Lib.hid hk
  have HC := Lib.hid hc
  clear hk hc
  go_enter Tryz.func57, Tryz.ntmps57
  go_wp2_with fail
  clear hmm
  go_loopw [9] (fun i wr => ∃ (j : Nat) (D : DataW Unit), i = .int .i64 j ∧ j ≤ ps.length ∧ wr.ownsMap Tryz.prog 9 unitElem w.heap.size j D ∧ Hid (KeySet D ((ps.take j).map Prm.key)) ∧ Below w.heap.size w wr) (fun i _ => ps.length - (intOf i).toNat)
  case atStart => exact ⟨0, .map [], rfl, Nat.zero_le _, Hmap0.out, Lib.hid keySet_none, HB0.out⟩
  case round =>
    obtain ⟨j, D, rfl, hj, hmap, HD, hb⟩ := hrel
    clear Hmap0 HB0
    by_cases hlt : j < ps.length
    · rcases HC.out with hnil | ⟨c, off, rfl, hcell⟩
      · exfalso
        rw [hnil] at hlt
        simp at hlt
      · obtain ⟨p, hp⟩ : ∃ p, ps[j]? = some p := ⟨_, List.getElem?_eq_getElem hlt⟩
        obtain ⟨q0, q1, q2, q3⟩ := rowP_at ps j p hp
        have hcl : c < w.heap.size := lt_of_cell (hcell _ _ q0)
        have a0 := (hb.cell (p := ⟨c, off + j * 4, none⟩) hcl).trans (hcell _ _ q0)
        have a1 := (hb.cell (p := ⟨c, off + (j * 4 + 1), none⟩) hcl).trans (hcell _ _ q1)
        have a2 := (hb.cell (p := ⟨c, off + (j * 4 + 2), none⟩) hcl).trans (hcell _ _ q2)
        have a3 := (hb.cell (p := ⟨c, off + (j * 4 + 3), none⟩) hcl).trans (hcell _ _ q3)
        simp only [← Nat.add_assoc] at a1 a2 a3
        have hkl := HK.out p (List.mem_of_getElem? hp)
        have Hkey : Hid (keyOf Tryz.prog 9 (.string (strB p.key)) = some (.string p.key)) := Lib.hid (keyOf_string_mk Tryz.underlying9 (by rw [strB_size]; unfold maxLen; omega))
        have Htk : Hid ((ps.take (j + 1)).map Prm.key = (ps.take j).map Prm.key ++ [p.key]) := Lib.hid (by
          rw [List.take_add_one, hp]; simp)
        have hm1 := hmap.alloc (.cells #[.string (strB p.key), .int .i64 p.k, .int .i64 p.n, .string (strB p.s)] 99)
        have HM1 := Lib.hid hm1
        have HB := Lib.hid hb
        have hml : w.heap.size < wr.heap.size := hmap.lt
        clear hcell q0 q1 q2 q3 hp hm1 hb hmap
        go_wp2_with (at_mapUpdate; refine wpList_mapUpdate_own _ rfl _ _ _ 165 rfl 9 _ (string_keyed Tryz.underlying9) Tryz.underlying165 _ w.heap.size j _ rfl HM1.out (by unfold maxLen; omega) _ _ _ rfl rfl Hkey.out _ [] (unitElem_mk (H := Unit)) ?_; intro w4 hmap4 hgrow4)
        go_roundw
        case rel =>
          refine ⟨j + 1, D.put (.string p.key) (.agg []), by go_num, by omega, hmap4, Lib.hid ?_, ?_⟩
          · rw [Htk.out]; exact keySet_put HD.out _ _
          · exact (HB.out.alloc (by omega) _).grown hgrow4 (by simp; omega) (fun k e => by cases e; exact Nat.le_refl _)
        case measure => simp [intOf]; omega
    · obtain rfl : j = ps.length := by omega
      have hks := HD.out
      rw [List.take_length] at hks
      have Hr : Hid (decide ((Maps.size D : Int) < (ps.length : Int)) = eqK ps) := Lib.hid (by
        obtain ⟨_, _, h3, h4⟩ := hks
        rw [List.length_map] at h3 h4
        rw [eqK, Bool.eq_iff_iff]
        simp only [decide_eq_true_eq, Bool.not_eq_true', decide_eq_false_iff_not]
        rw [← h4]
        omega)
      have Hmap := Lib.hid hmap
      have HB := Lib.hid hb
      clear hks hmap hb
      go_wp2_with (at_len; refine wpList_len_own _ rfl _ 165 rfl 9 _ Tryz.underlying165 _ w.heap.size ps.length _ rfl Hmap.out ?_)
      go_ret
      exact ⟨ret_eq (bool_eq (by first | exact Hr.out | (rw [← Hr.out]; simp))), HB.out⟩

end Go.Proofs.YtcjnigmklijjiaaGreatDoor
