/- The contract of the parser's params. -/
import Derived.Test.YtcjnigmklijjiaaDoorItmE
namespace Go.Proofs.YtcjnigmklijjiaaDoor
open Go.RowKit Go.Maps
open Go.WideMaps (keyOf_string_mk)

theorem info_param : (Tryd.prog.info? 41).map (fun i => (i.zero, i.size, i.bytes)) = some (some (.agg #[.string ⟨#[]⟩, .int .i64 0, .int .i64 0, .string ⟨#[]⟩]), 4, 48) := by kernel_rfl
theorem keyStr : Keyed Tryd.prog 9 := string_keyed Tryd.underlying9
theorem zeroInt (w : World) : (zeroValue 3).run Tryd.prog w = .ok (.int .i64 0) w := by kernel_rfl

theorem parL_key (l : List UInt8) (p : Prm) (n : Nat) (h : parL l = some (p, n)) : p.key.length ≤ l.length := by
  have hk : ∀ (q : List UInt8) (j : Nat), ((l.drop j).take (klen q)).length ≤ l.length := fun q j => by
    rw [List.length_take, List.length_drop]; omega
  unfold parL at h
  split at h
  · cases h
  · split at h
    · split at h
      · cases h
      · have := congrArg (fun o => o.map (fun x => x.1.key)) h
        simp only [Option.map_some, Option.some.injEq] at this
        rw [← this]; exact hk _ _
    · have := congrArg (fun o => o.map (fun x => x.1.key)) h
      simp only [Option.map_some, Option.some.injEq] at this
      rw [← this]; exact hk _ _

/-- What params leaves. -/
def parsPost (o : Option (List Prm × Nat)) (b : Nat) (t : ByteArray) (k : Nat) (w : World) (e : Ending) (w' : World) : Prop :=
  Moved b w w' ∧ match o with
    | none => e = .returned (.tuple #[.slice none 0 0, .int .i64 2])
    | some (ps, m) => ∃ v, e = .returned (.tuple #[v, .int .i64 0]) ∧ w'.ownsRow w.heap.size 41 4 v ps.length (rowP ps) ∧ Par w' b t (k + m)

theorem ownsRow_low {w : World} {base B : Nat} {e : TypeId} {size : Nat} {v : Value} {n : Nat} {xs : List Value} (h : w.ownsRow base e size v n xs) (hB : B ≤ base) : w.ownsRow B e size v n xs := by
  obtain ⟨h1, h2⟩ := h
  refine ⟨h1, ?_⟩
  rcases h2 with h2 | ⟨g, cap, cur, hv, hg, r⟩
  · exact .inl h2
  · exact .inr ⟨g, cap, cur, hv, Nat.le_trans hB hg, r⟩

theorem owns_slice {w : World} {base : Nat} {e : TypeId} {size : Nat} {v : Value} {n : Nat} {xs : List Value} (h : w.ownsRow base e size v n xs) (hn : 0 < n) : ∃ g cap, v = .slice (some ⟨g, 0, none⟩) n cap ∧ base ≤ g ∧ g < w.heap.size ∧ n ≤ cap := by
  rcases h.2 with ⟨_, h2⟩ | ⟨g, cap, cur, hv, hg, hh, hc, _⟩
  · omega
  · exact ⟨g, cap, hv, hg, (Array.getElem?_eq_some_iff.1 hh).1, hc⟩
theorem owns_form {w : World} {base : Nat} {e : TypeId} {size : Nat} {v : Value} {n : Nat} {xs : List Value} (h : w.ownsRow base e size v n xs) : ∃ ao cap, v = .slice ao n cap := by
  rcases h.2 with ⟨hv, h2⟩ | ⟨g, cap, cur, hv, _⟩
  · exact ⟨none, 0, by rw [hv, h2]⟩
  · exact ⟨_, cap, hv⟩
theorem owns_cell {w : World} {base : Nat} {e : TypeId} {size n g cap : Nat} {xs : List Value} (h : w.ownsRow base e size (.slice (some ⟨g, 0, none⟩) n cap) n xs) (j : Nat) (hj : j < n * size) : ∃ u, w.cell? ⟨g, j, none⟩ = some u ∧ w.frozen? ⟨g, j, none⟩ = false := by
  have h1 := h.cellAt j hj
  have h2 : j < xs.length := by rw [h.1]; exact hj
  exact ⟨xs[j], by rw [h1, List.getElem?_eq_getElem h2], h.frozenAt j⟩

theorem keys_set (acc : List Prm) (p : Prm) (i : Nat) (hie : idxL (acc.map Prm.key) p.key = i) (hix : i < acc.length) : (acc.set i p).map Prm.key = acc.map Prm.key := by
  have hm : i < (acc.map Prm.key).length := by simpa using hix
  have hk : (acc.map Prm.key)[i] = p.key := by
    have h1 : (acc.map Prm.key).findIdx (· == p.key) < (acc.map Prm.key).length := by
      show idxL _ _ < _
      rw [hie]; exact hm
    have := List.findIdx_getElem (w := h1)
    have e : (acc.map Prm.key).findIdx (· == p.key) = i := hie
    simp only [e, beq_iff_eq] at this
    exact this
  rw [List.map_set, ← hk, List.set_getElem_self]

theorem grown_cell {W V : World} {row : Option Nat} (hg : W.grownBy V row) {c : Nat} (hc : c < W.heap.size) (hne : some c ≠ row) (o : Nat) : V.cell? ⟨c, o, none⟩ = W.cell? ⟨c, o, none⟩ :=
  World.cell?_of_block (w := W) (a := ⟨c, o, none⟩) (hg.block c hc hne)

theorem own_ne {w : World} {base c : Nat} {e : TypeId} {size : Nat} {v : Value} {n : Nat} {xs : List Value} (h : w.ownsRow base e size v n xs) (hc : c < base) : some c ≠ v.ownBlock := by
  intro e1
  have := (World.ownsRow.lt h c e1.symm).1
  omega

set_option maxRecDepth 100000 in
set_option maxHeartbeats 2000000 in
theorem params_any (b : Nat) (t : ByteArray) (k : Nat) (w : World) (h : Par w b t k) (ht : t.size ≤ 100000) (hk : k ≤ t.size) (hA : Alph w) (hAb : 0 ≠ b) :
    Calls Tryd.prog 37 #[.pointer (some ⟨b, 0, none⟩)] w (parsPost (psL (t.data.toList.drop k) [] 0) b t k w) := by
  obtain ⟨i0, hi, hz0, hz1, hz2⟩ := info_parts info_param
  have hbl := h.lt
  have HA := Lib.hid hA
  have HP0 := Lib.hid (h.alloc (.map #[] 0))
  have HM0 := Lib.hid ((Moved.refl b w).alloc (.map #[] 0))
  have Hmap0 := Lib.hid (World.ownsMap_made (H := Unit) w Tryd.prog 9 (plainElem Tryd.prog 3))
  have hmm := @run_makeMap Tryd.prog
  clear hA h
  go_enter Tryd.func37, Tryd.ntmps37
  go_wp2_with fail
  clear hmm
  go_loopw [4] (fun v wr => ∃ (K : Nat) (acc : List Prm) (D : DataW Unit), k ≤ K ∧ K ≤ t.size ∧ acc.length ≤ K ∧ Hid (psL (t.data.toList.drop k) [] 0 = psL (t.data.toList.drop K) acc (K - k)) ∧ Par wr b t K ∧ Moved b w wr ∧ wr.ownsRow (w.heap.size + 1) 41 4 v acc.length (rowP acc) ∧ wr.ownsMap Tryd.prog 9 (plainElem Tryd.prog 3) w.heap.size acc.length D ∧ Hid (PlaceOf D (acc.map Prm.key))) (fun _ wr => t.size - atOf wr b)
  case atStart => exact ⟨k, [], .map [], Nat.le_refl _, hk, Nat.zero_le _, Lib.hid (by rw [Nat.sub_self]), HP0.out, HM0.out, World.ownsRow_nil _ _ _ _, Hmap0.out, Lib.hid placeOf_none⟩
  case round =>
    obtain ⟨K, acc, D, hkK, hK, hal, H, hP, hM, hown, hmap, HD⟩ := hrel
    clear HP0 HM0 Hmap0
    have hP1 := Lib.hid hP
    have hM1 := Lib.hid hM
    by_cases h59 : (t.data.toList.drop K).head? = some 59
    · have cT := take_yes b t K 59 _ hP ht h59
      have hKs : K + 1 ≤ t.size := by
        by_cases hlt : K < t.size
        · omega
        · rw [List.drop_of_length_le (by rw [← Lib.size_eq]; omega)] at h59; cases h59
      have hown1 := Lib.hid hown
      have hmap1 := Lib.hid hmap
      have hdrop : (t.data.toList.drop K).drop 1 = t.data.toList.drop (K + 1) := by rw [List.drop_drop]
      clear hP hM hown hmap
      go_wp2_with fail
      refine cT.mono ?_
      rintro e w1 ⟨rfl, hP2, hM2⟩
      have hMw1 := hM1.out.trans hM2
      have cV := param_any b t (K + 1) w1 hP2 ht hKs (HA.out.moved hMw1 hAb) hAb
      have HO1 := Lib.hid (ownsRow_moved hown1.out hM2 (by omega))
      have HT1 := Lib.hid (ownsMap_moved hmap1.out hM2 (by omega))
      have HM1 := Lib.hid hMw1
      have HPK := Lib.hid hP2
      clear cT hM2 hMw1 hP2 hown1 hmap1
      cases hp : parL (t.data.toList.drop (K + 1)) with
      | none =>
        rw [psL_none _ _ _ h59 (by rw [hdrop, hp])] at H
        rw [hp] at cV
        clear hp h59 hdrop
        go_wp2_with fail
        refine cV.mono ?_
        rintro e w2 ⟨rfl, hM3, _⟩
        have hM4 := HM1.out.trans hM3
        simp only [prmV]
        clear cV hM3
        go_wp2_with fail
        go_ret2
        refine ⟨hM4.alloc _, ?_⟩
        rw [H.out]
        rfl
      | some pn =>
        obtain ⟨p, n⟩ := pn
        have hkl := parL_key _ p n hp
        rw [List.length_drop, ← Lib.size_eq] at hkl
        rw [psL_some _ _ _ p n h59 (by rw [hdrop, hp]), List.drop_drop] at H
        rw [hp] at cV
        have hkey : keyOf Tryd.prog 9 (.string (strB p.key)) = some (.string p.key) := keyOf_string_mk Tryd.underlying9 (by rw [strB_size]; unfold maxLen; omega)
        have Hkey := Lib.hid hkey
        clear hp h59 hdrop hkey
        go_wp2_with fail
        refine cV.mono ?_
        rintro e w2 ⟨rfl, hM3, K3, hK3, hP3, hadv⟩
        obtain rfl : K3 = K + 1 + n := hadv _ rfl
        have hM4 := HM1.out.trans hM3
        have hO2 := ownsRow_moved HO1.out hM3 (by omega)
        have hT2 := ownsMap_moved HT1.out hM3 (by omega)
        have hw2 : w.heap.size < w2.heap.size := hT2.lt
        simp only [prmV]
        have HM4 := Lib.hid hM4
        have HP4 := Lib.hid hP3
        have HO2 := Lib.hid hO2
        have hT3 := hT2.alloc (.cells #[.string (strB p.key), .int .i64 p.k, .int .i64 p.n, .string (strB p.s)] 41)
        have HT3 := Lib.hid hT3
        have HT2 := Lib.hid hT2
        clear cV hM3 hadv hM4 hO2 hT2 hP3 HO1 HT1 HM1 hT3
        by_cases hmem : p.key ∈ acc.map Prm.key
        · have hhas : Maps.has D (.string p.key) = true := by rw [(HD.out.2 p.key).1]; simpa using hmem
          have hix : idxL (acc.map Prm.key) p.key < acc.length := by have := (idxL_lt _ _).2 hmem; simpa using this
          have hat0 := (HD.out.2 p.key).2 hmem (.lit (.int .i64 0))
          obtain ⟨i, hie⟩ : ∃ i, idxL (acc.map Prm.key) p.key = i := ⟨_, rfl⟩
          rw [hie] at hix hat0
          have Hat0 := Lib.hid hat0
          have Hie := Lib.hid hie
          clear hat0 hie hmem
          have Hhas := Lib.hid hhas
          clear hhas
          obtain ⟨g, cap, rfl, hgB, hg2, hcap⟩ := owns_slice HO2.out (by omega)
          obtain ⟨u0, a0, f0⟩ := owns_cell HO2.out (i * 4) (by omega)
          obtain ⟨u1, a1, f1⟩ := owns_cell HO2.out (i * 4 + 1) (by omega)
          obtain ⟨u2, a2, f2⟩ := owns_cell HO2.out (i * 4 + 2) (by omega)
          obtain ⟨u3, a3, f3⟩ := owns_cell HO2.out (i * 4 + 3) (by omega)
          have hixI : (i : Int) < (acc.length : Int) := by omega
          go_wp2_with (at_lookup; refine wpList_lookup_own_ok_int _ rfl _ _ 98 rfl 9 3 .i64 keyStr Tryd.underlying98 Tryd.underlying3 (zeroInt _) w.heap.size acc.length _ rfl HT3.out _ _ rfl Hkey.out ?_; intro c hat hwc; have hc : c = (i : Int) := (by have := hat.symm.trans Hat0.out; simpa using this); subst hc; rw [Hhas.out]; clear hat hwc)
          go_roundw
          case rel =>
            have s0 := HO2.out.stored (i * 4) (.string (strB p.key))
            have s1 := s0.1.stored (i * 4 + 1) (.int .i64 p.k)
            have s2 := s1.1.stored (i * 4 + 2) (.int .i64 p.n)
            have s3 := s2.1.stored (i * 4 + 3) (.string (strB p.s))
            have hne : some w.heap.size ≠ some g := by simp; omega
            have m0 := (((HT2.out.kept s0.2 hne).kept s1.2 hne).kept s2.2 hne).kept s3.2 hne
            have hgb : g ≠ b := by omega
            refine ⟨K + 1 + n, acc.set i p, D, by omega, hK3, by rw [List.length_set]; omega, Lib.hid ?_, ?_, ?_, ?_, ?_, Lib.hid ?_⟩
            · rw [H.out, show K + (1 + n) = K + 1 + n by omega, show K - k + 1 + n = K + 1 + n - k by omega, putL, Hie.out, if_pos hix]
            · exact ((((HP4.out.other hgb _).other hgb _).other hgb _).other hgb _).alloc _
            · exact ((((HM4.out.setNew (by omega) _).setNew (by omega) _).setNew (by omega) _).setNew (by omega) _).alloc _
            · rw [List.length_set, rowP_set acc i p hix]
              exact s3.1.alloc _
            · rw [List.length_set]
              exact m0.alloc _
            · rw [keys_set acc p i Hie.out hix]
              exact HD.out
          case measure =>
            have e1 : atOf ((((((w2.setCell ⟨g, i * 4, none⟩ (.string (strB p.key))).setCell ⟨g, i * 4 + 1, none⟩ (.int .i64 p.k)).setCell ⟨g, i * 4 + 2, none⟩ (.int .i64 p.n)).setCell ⟨g, i * 4 + 3, none⟩ (.string (strB p.s))).alloc (.cells #[.string (strB p.key), .int .i64 p.k, .int .i64 p.n, .string (strB p.s)] 41))) b = K + 1 + n :=
              (((((HP4.out.other (by omega) _).other (by omega) _).other (by omega) _).other (by omega) _).alloc _).atOf
            rw [e1, hP1.out.atOf]
            omega
        · have hhas : Maps.has D (.string p.key) = false := by rw [(HD.out.2 p.key).1]; simpa using hmem
          have Hhas := Lib.hid hhas
          have Hmem := Lib.hid hmem
          obtain ⟨ao, cap, rfl⟩ := owns_form HO2.out
          have hO3 := HO2.out.alloc (.cells #[.string (strB p.key), .int .i64 p.k, .int .i64 p.n, .string (strB p.s)] 41)
          have HO3 := Lib.hid hO3
          clear hhas hmem hO3
          go_wp2_with (first | (at_lookup; refine wpList_lookup_own_ok_int _ rfl _ _ 98 rfl 9 3 .i64 keyStr Tryd.underlying98 Tryd.underlying3 (zeroInt _) w.heap.size acc.length _ rfl HT3.out _ _ rfl Hkey.out ?_; intro c hat hwc; rw [Hhas.out]; clear hat hwc) | (at_mapUpdate; refine wpList_mapUpdate_own _ rfl _ _ _ 98 rfl 9 3 keyStr Tryd.underlying98 _ w.heap.size acc.length _ rfl HT3.out (by unfold maxLen; omega) _ _ _ rfl rfl Hkey.out _ [] (plainElem_int Tryd.underlying3 (WalkArith.wf_i64 (by omega))) ?_; intro w4 hmap4 hgrow4; have hO4 := HO3.out.kept hgrow4 (.inr (Ne.symm (own_ne HO3.out (Nat.lt_succ_self _)))); have hw4 := hgrow4.size; have e0 := grown_cell hgrow4 (c := w2.heap.size) (by simp) (by simp; omega) 0; have e1 := grown_cell hgrow4 (c := w2.heap.size) (by simp) (by simp; omega) 1; have e2 := grown_cell hgrow4 (c := w2.heap.size) (by simp) (by simp; omega) 2; have e3 := grown_cell hgrow4 (c := w2.heap.size) (by simp) (by simp; omega) 3) | (at_builtin; refine wpList_append_own _ rfl _ _ 24 rfl (w.heap.size + 1) 41 i0 (.agg #[.string ⟨#[]⟩, .int .i64 0, .int .i64 0, .string ⟨#[]⟩]) 4 48 Tryd.underlying24 hi hz0 hz1 hz2 rfl (by decide) _ _ _ rfl (hO4.alloc _) ⟨_, 0, none⟩ 1 1 (cellsP p) rfl rfl (cells_new _ _ _) (by simp [Value.oneCell', cellsP]) (by unfold maxLen; omega) (by omega) (by simp at hw4; simp; omega) ?_; intro v' w5 hown5 hgrow5 _))
          have hPf : Par w5 b t (K + 1 + n) := ((((HP4.out.alloc _).grown hgrow4 (by simp; omega)).alloc _).grown hgrow5 (own_ne hO4 (by omega)))
          go_roundw
          case rel =>
            have hnix : ¬ idxL (acc.map Prm.key) p.key < acc.length := by
              intro h1
              exact Hmem.out ((idxL_lt _ _).1 (by simpa using h1))
            refine ⟨K + 1 + n, acc ++ [p], D.put (.string p.key) (.lit (.int .i64 (acc.length : Int))), by omega, hK3, by simp; omega, Lib.hid ?_, hPf, ?_, ?_, ?_, Lib.hid ?_⟩
            · rw [H.out, show K + (1 + n) = K + 1 + n by omega, show K - k + 1 + n = K + 1 + n - k by omega, putL, if_neg hnix]
            · exact (((HM4.out.alloc _).grown hgrow4 (fun k e => by cases e; exact Nat.le_refl _)).alloc _).grown hgrow5 (fun k e => Nat.le_trans (Nat.le_succ _) (World.ownsRow.lt hO4 k e).1)
            · rw [rowP_snoc, List.length_append]
              exact hown5
            · rw [List.length_append]
              exact (hmap4.alloc _).kept hgrow5 (own_ne hO4 (Nat.lt_succ_self _))
            · have := placeOf_put HD.out p.key Hmem.out
              rw [List.length_map] at this
              rw [List.map_append]
              exact this
          case measure =>
            rw [hPf.atOf, hP1.out.atOf]
            omega
    · have cT := take_no b t K 59 _ hP ht hK h59
      rw [psL_end _ _ _ h59] at H
      clear hP hM h59
      go_wp2_with fail
      refine cT.mono ?_
      rintro e w1 ⟨rfl, hP2, hM2⟩
      have hown1 := Lib.hid (ownsRow_low (ownsRow_moved hown hM2 (by omega)) (Nat.le_succ w.heap.size))
      clear cT hown hmap
      go_wp2_with fail
      go_ret2
      refine ⟨hM1.out.trans hM2, ?_⟩
      rw [H.out]
      exact ⟨_, rfl, hown1.out, by rw [show k + (K - k) = K by omega]; exact hP2⟩

end Go.Proofs.YtcjnigmklijjiaaDoor
