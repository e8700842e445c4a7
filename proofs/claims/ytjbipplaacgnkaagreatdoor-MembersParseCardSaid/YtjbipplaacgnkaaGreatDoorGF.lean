/- What the parser's params needs: the parameters of a text (plain), their row in memory, their places in a map. · The contract of the parser's params. · The contract of the parser's item. · The contract of item.parserOf; how far a parser reads. · What package members calls of package strings: TrimLeft, CutPrefix, HasPrefix; endsItem. -/
import Derived.Test.YtjbipplaacgnkaaGreatDoorGE
import Derived.Maps.OwnSet
import Derived.Maps.Views
import Derived.Laws.OwnMore
import Derived.Shelf.Strings.SlTrimAscii

namespace Go.Proofs.YtjbipplaacgnkaaGreatDoor
open Go.RowKit Go.Maps

/-- Where a key stands, the row's length where it does not. -/
def idxL (ks : List (List UInt8)) (k : List UInt8) : Nat := ks.findIdx (· == k)
theorem idxL_lt (ks : List (List UInt8)) (k : List UInt8) : idxL ks k < ks.length ↔ k ∈ ks := by
  unfold idxL
  rw [List.findIdx_lt_length]
  constructor
  · rintro ⟨x, hx, h⟩
    rw [beq_iff_eq] at h
    rw [← h]; exact hx
  · intro h
    exact ⟨k, h, by simp⟩

/-- A parameter more, or another value of one. -/
def putL (ps : List Prm) (p : Prm) : List Prm :=
  if idxL (ps.map Prm.key) p.key < ps.length then ps.set (idxL (ps.map Prm.key) p.key) p else ps ++ [p]

theorem putL_len (ps : List Prm) (p : Prm) : (putL ps p).length ≤ ps.length + 1 := by
  unfold putL
  split
  · rw [List.length_set]; omega
  · simp

/-- The parameters with which a text begins, behind some, and how long they are. -/
def psL (l : List UInt8) (acc : List Prm) (m : Nat) : Option (List Prm × Nat) :=
  if _h : l.head? = some 59 then
    match parL (l.drop 1) with
    | none => none
    | some (p, n) => psL (l.drop (1 + n)) (putL acc p) (m + 1 + n)
  else some (acc, m)
termination_by l.length
decreasing_by
  cases l with
  | nil => simp at _h
  | cons c r => simp only [List.length_drop, List.length_cons]; omega

theorem psL_end (l : List UInt8) (acc : List Prm) (m : Nat) (h : l.head? ≠ some 59) : psL l acc m = some (acc, m) := by
  rw [psL, dif_neg h]
theorem psL_none (l : List UInt8) (acc : List Prm) (m : Nat) (h : l.head? = some 59) (h2 : parL (l.drop 1) = none) : psL l acc m = none := by
  rw [psL, dif_pos h, h2]
theorem psL_some (l : List UInt8) (acc : List Prm) (m : Nat) (p : Prm) (n : Nat) (h : l.head? = some 59) (h2 : parL (l.drop 1) = some (p, n)) : psL l acc m = psL (l.drop (1 + n)) (putL acc p) (m + 1 + n) := by
  rw [psL, dif_pos h, h2]

/-! ### in memory -/

def cellsP (p : Prm) : List Value := [.string (strB p.key), .int .i64 p.k, .int .i64 p.n, .string (strB p.s)]
def rowP (ps : List Prm) : List Value := ps.flatMap cellsP
theorem rowP_len (ps : List Prm) : (rowP ps).length = ps.length * 4 := by
  induction ps with
  | nil => rfl
  | cons p ps ih =>
    unfold rowP at ih ⊢
    rw [List.flatMap_cons, List.length_append, ih, List.length_cons]
    show 4 + _ = _
    omega
theorem rowP_snoc (ps : List Prm) (p : Prm) : rowP (ps ++ [p]) = rowP ps ++ cellsP p := by
  simp [rowP, List.flatMap_append]
theorem rowP_set : ∀ (ps : List Prm) (i : Nat) (p : Prm), i < ps.length → rowP (ps.set i p) = ((((rowP ps).set (i * 4) (.string (strB p.key))).set (i * 4 + 1) (.int .i64 p.k)).set (i * 4 + 2) (.int .i64 p.n)).set (i * 4 + 3) (.string (strB p.s))
  | [], i, _, h => by simp at h
  | q :: ps, 0, p, _ => by
    rw [List.set_cons_zero]
    unfold rowP
    rw [List.flatMap_cons, List.flatMap_cons]
    rfl
  | q :: ps, i + 1, p, h => by
    rw [List.set_cons_succ]
    have ih := rowP_set ps i p (by simpa using h)
    unfold rowP at ih ⊢
    rw [List.flatMap_cons, ih, List.flatMap_cons]
    have e : ∀ (j : Nat) (l : List Value) (v : Value), (cellsP q ++ l).set ((i + 1) * 4 + j) v = cellsP q ++ l.set (i * 4 + j) v := by
      intro j l v
      rw [List.set_append, if_neg (by show ¬ _ < 4; omega)]
      congr 2
      show (i + 1) * 4 + j - 4 = _
      omega
    have e0 := e 0
    simp only [Nat.add_zero] at e0
    rw [e0, e 1, e 2, e 3]

theorem ownsRow_moved {w w' : World} {b base : Nat} {e : TypeId} {size : Nat} {v : Value} {n : Nat} {xs : List Value} (h : w.ownsRow base e size v n xs) (hm : Moved b w w') (hb : b < base) : w'.ownsRow base e size v n xs := by
  obtain ⟨h1, h2⟩ := h
  refine ⟨h1, ?_⟩
  rcases h2 with h2 | ⟨g, cap, cur, hv, hg, hh, r⟩
  · exact Or.inl h2
  · exact Or.inr ⟨g, cap, cur, hv, hg, by rw [hm.block g (Array.getElem?_eq_some_iff.1 hh).1 (by omega)]; exact hh, r⟩
theorem ownsMap_moved {H : Type} {w w' : World} {P : Program} {k : TypeId} {R : Value → Option (DataW H × List MemPlace)} {b c n : Nat} {D : DataW H} (h : w.ownsMap P k R c n D) (hm : Moved b w w') (hb : c ≠ b) : w'.ownsMap P k R c n D := by
  have hlt := h.lt
  obtain ⟨es, clock, hh, F, hs, hD⟩ := h
  exact ⟨es, clock, (hm.block c hlt hb).trans hh, F, hs, hD⟩
theorem Moved.grown {b : Nat} {w W V : World} {row : Option Nat} (h : Moved b w W) (hg : W.grownBy V row) (hr : ∀ k, row = some k → w.heap.size ≤ k) : Moved b w V :=
  ⟨hg.os.trans h.os, hg.tape.trans h.tape, hg.output.trans h.output, Nat.le_trans h.size hg.size, fun k hk hb => (hg.block k (Nat.lt_of_lt_of_le hk h.size) (fun e => by have := hr k e.symm; omega)).trans (h.block k hk hb)⟩
theorem Par.grown {W V : World} {b : Nat} {t : ByteArray} {k : Nat} {row : Option Nat} (h : Par W b t k) (hg : W.grownBy V row) (hb : some b ≠ row) : Par V b t k := by
  have hbl := hg.block b h.lt hb
  have hc : ∀ o, V.cell? ⟨b, o, none⟩ = W.cell? ⟨b, o, none⟩ := fun o => World.cell?_of_block (w := W) (a := ⟨b, o, none⟩) hbl
  have hf : ∀ o, V.frozen? ⟨b, o, none⟩ = W.frozen? ⟨b, o, none⟩ := fun o => World.frozen?_of_block (w := W) (a := ⟨b, o, none⟩) hbl
  exact ⟨(hc 0).trans h.text, (hc 1).trans h.at_, (hf 0).trans h.f0, (hf 1).trans h.f1⟩

/-! ### the places -/

/-- A map's datum that has the place of each key. -/
def PlaceOf (D : DataW Unit) (ks : List (List UInt8)) : Prop :=
  IsMap D ∧ ∀ k, Maps.has D (.string k) = decide (k ∈ ks) ∧ (k ∈ ks → ∀ z, D.atKey (.string k) z = .lit (.int .i64 (idxL ks k : Int)))
theorem placeOf_none : PlaceOf (.map []) [] := ⟨isMap_empty, fun k => ⟨by simp [Maps.has], fun h => by simp at h⟩⟩
theorem placeOf_put {D : DataW Unit} {ks : List (List UInt8)} (h : PlaceOf D ks) (k : List UInt8) (hk : k ∉ ks) : PlaceOf (D.put (.string k) (.lit (.int .i64 (ks.length : Int)))) (ks ++ [k]) := by
  obtain ⟨h1, h2⟩ := h
  refine ⟨h1.put _ _, fun q => ?_⟩
  by_cases hq : q = k
  · subst hq
    refine ⟨?_, fun _ z => ?_⟩
    · rw [has_put_same h1 (show WideAt.IsKeyLit (.string q) from trivial)]; simp
    · rw [atKey_put_same h1 (show WideAt.IsKeyLit (.string q) from trivial)]
      have : idxL (ks ++ [q]) q = ks.length := by
        unfold idxL
        rw [List.findIdx_append]
        have hn : ¬ ks.findIdx (· == q) < ks.length := fun hlt => hk ((idxL_lt ks q).1 hlt)
        rw [if_neg hn]
        simp [List.findIdx_cons]
      rw [this]
  · have hne : (Lit.string q) ≠ .string k := by simpa using hq
    refine ⟨?_, fun hm z => ?_⟩
    · rw [has_put_other hne, (h2 q).1]
      simp [hq]
    · have hm2 : q ∈ ks := by simpa [hq] using hm
      rw [atKey_put_other hne, (h2 q).2 hm2]
      have : idxL (ks ++ [k]) q = idxL ks q := by
        unfold idxL
        rw [List.findIdx_append, if_pos (show List.findIdx _ ks < ks.length from (idxL_lt ks q).2 hm2)]
      rw [this]

end Go.Proofs.YtjbipplaacgnkaaGreatDoor

namespace Go.Proofs.YtjbipplaacgnkaaGreatDoor
open Go.RowKit Go.Maps
open Go.WideMaps (keyOf_string_mk)

theorem info_param : (Tryz.prog.info? 97).map (fun i => (i.zero, i.size, i.bytes)) = some (some (.agg #[.string ⟨#[]⟩, .int .i64 0, .int .i64 0, .string ⟨#[]⟩]), 4, 48) := by kernel_rfl
theorem keyStr : Keyed Tryz.prog 9 := string_keyed Tryz.underlying9
theorem zeroInt (w : World) : (zeroValue 3).run Tryz.prog w = .ok (.int .i64 0) w := by kernel_rfl

theorem parL_key (l : List UInt8) (p : Prm) (n : Nat) (h : parL l = some (p, n)) : p.key.length ≤ l.length := by
  have hk : ∀ (q : List UInt8) (j : Nat), ((l.drop j).take (klen q)).length ≤ l.length := fun q j => by
    rw [List.length_take, List.length_drop]; omega
  unfold parL at h
  split at h
  · cases h
  · split at h
    · split at h
      · cases h
      · have := congrArg (fun o => o.map (fun x => x.1.key)) h
        simp only [Option.map_some, Option.some.injEq] at this
        rw [← this]; exact hk _ _
    · have := congrArg (fun o => o.map (fun x => x.1.key)) h
      simp only [Option.map_some, Option.some.injEq] at this
      rw [← this]; exact hk _ _

/-- What params leaves. -/
def parsPost (o : Option (List Prm × Nat)) (b : Nat) (t : ByteArray) (k : Nat) (w : World) (e : Ending) (w' : World) : Prop :=
  Moved b w w' ∧ match o with
    | none => e = .returned (.tuple #[.slice none 0 0, .int .i64 2])
    | some (ps, m) => ∃ v, e = .returned (.tuple #[v, .int .i64 0]) ∧ w'.ownsRow w.heap.size 97 4 v ps.length (rowP ps) ∧ Par w' b t (k + m)

theorem ownsRow_low {w : World} {base B : Nat} {e : TypeId} {size : Nat} {v : Value} {n : Nat} {xs : List Value} (h : w.ownsRow base e size v n xs) (hB : B ≤ base) : w.ownsRow B e size v n xs := by
  obtain ⟨h1, h2⟩ := h
  refine ⟨h1, ?_⟩
  rcases h2 with h2 | ⟨g, cap, cur, hv, hg, r⟩
  · exact .inl h2
  · exact .inr ⟨g, cap, cur, hv, Nat.le_trans hB hg, r⟩

theorem owns_slice {w : World} {base : Nat} {e : TypeId} {size : Nat} {v : Value} {n : Nat} {xs : List Value} (h : w.ownsRow base e size v n xs) (hn : 0 < n) : ∃ g cap, v = .slice (some ⟨g, 0, none⟩) n cap ∧ base ≤ g ∧ g < w.heap.size ∧ n ≤ cap := by
  rcases h.2 with ⟨_, h2⟩ | ⟨g, cap, cur, hv, hg, hh, hc, _⟩
  · omega
  · exact ⟨g, cap, hv, hg, (Array.getElem?_eq_some_iff.1 hh).1, hc⟩
theorem owns_form {w : World} {base : Nat} {e : TypeId} {size : Nat} {v : Value} {n : Nat} {xs : List Value} (h : w.ownsRow base e size v n xs) : ∃ ao cap, v = .slice ao n cap := by
  rcases h.2 with ⟨hv, h2⟩ | ⟨g, cap, cur, hv, _⟩
  · exact ⟨none, 0, by rw [hv, h2]⟩
  · exact ⟨_, cap, hv⟩
theorem owns_cell {w : World} {base : Nat} {e : TypeId} {size n g cap : Nat} {xs : List Value} (h : w.ownsRow base e size (.slice (some ⟨g, 0, none⟩) n cap) n xs) (j : Nat) (hj : j < n * size) : ∃ u, w.cell? ⟨g, j, none⟩ = some u ∧ w.frozen? ⟨g, j, none⟩ = false := by
  have h1 := h.cellAt j hj
  have h2 : j < xs.length := by rw [h.1]; exact hj
  exact ⟨xs[j], by rw [h1, List.getElem?_eq_getElem h2], h.frozenAt j⟩

theorem keys_set (acc : List Prm) (p : Prm) (i : Nat) (hie : idxL (acc.map Prm.key) p.key = i) (hix : i < acc.length) : (acc.set i p).map Prm.key = acc.map Prm.key := by
  have hm : i < (acc.map Prm.key).length := by simpa using hix
  have hk : (acc.map Prm.key)[i] = p.key := by
    have h1 : (acc.map Prm.key).findIdx (· == p.key) < (acc.map Prm.key).length := by
      show idxL _ _ < _
      rw [hie]; exact hm
    have := List.findIdx_getElem (w := h1)
    have e : (acc.map Prm.key).findIdx (· == p.key) = i := hie
    simp only [e, beq_iff_eq] at this
    exact this
  rw [List.map_set, ← hk, List.set_getElem_self]

theorem grown_cell {W V : World} {row : Option Nat} (hg : W.grownBy V row) {c : Nat} (hc : c < W.heap.size) (hne : some c ≠ row) (o : Nat) : V.cell? ⟨c, o, none⟩ = W.cell? ⟨c, o, none⟩ :=
  World.cell?_of_block (w := W) (a := ⟨c, o, none⟩) (hg.block c hc hne)

theorem own_ne {w : World} {base c : Nat} {e : TypeId} {size : Nat} {v : Value} {n : Nat} {xs : List Value} (h : w.ownsRow base e size v n xs) (hc : c < base) : some c ≠ v.ownBlock := by
  intro e1
  have := (World.ownsRow.lt h c e1.symm).1
  omega

set_option maxRecDepth 100000 in
set_option maxHeartbeats 2000000 in
theorem params_any (b : Nat) (t : ByteArray) (k : Nat) (w : World) (h : Par w b t k) (ht : t.size ≤ 100000) (hk : k ≤ t.size) (hA : Alph w) (hAb : 2 ≠ b) :
    Calls Tryz.prog 96 #[.pointer (some ⟨b, 0, none⟩)] w (parsPost (psL (t.data.toList.drop k) [] 0) b t k w) := by
  obtain ⟨i0, hi, hz0, hz1, hz2⟩ := info_parts info_param
  have hbl := h.lt
  have HA := Lib.hid hA
  have HP0 := Lib.hid (h.alloc (.map #[] 0))
  have HM0 := Lib.hid ((Moved.refl b w).alloc (.map #[] 0))
  have Hmap0 := Lib.hid (World.ownsMap_made (H := Unit) w Tryz.prog 9 (plainElem Tryz.prog 3))
  have hmm := @run_makeMap Tryz.prog
  clear hA h
  go_enter Tryz.func96, Tryz.ntmps96
  go_wp2_with fail
  clear hmm
  go_loopw [4] (fun v wr => ∃ (K : Nat) (acc : List Prm) (D : DataW Unit), k ≤ K ∧ K ≤ t.size ∧ acc.length ≤ K ∧ Hid (psL (t.data.toList.drop k) [] 0 = psL (t.data.toList.drop K) acc (K - k)) ∧ Par wr b t K ∧ Moved b w wr ∧ wr.ownsRow (w.heap.size + 1) 97 4 v acc.length (rowP acc) ∧ wr.ownsMap Tryz.prog 9 (plainElem Tryz.prog 3) w.heap.size acc.length D ∧ Hid (PlaceOf D (acc.map Prm.key))) (fun _ wr => t.size - atOf wr b)
  case atStart => exact ⟨k, [], .map [], Nat.le_refl _, hk, Nat.zero_le _, Lib.hid (by rw [Nat.sub_self]), HP0.out, HM0.out, World.ownsRow_nil _ _ _ _, Hmap0.out, Lib.hid placeOf_none⟩
  case round =>
    obtain ⟨K, acc, D, hkK, hK, hal, H, hP, hM, hown, hmap, HD⟩ := hrel
    clear HP0 HM0 Hmap0
    have hP1 := Lib.hid hP
    have hM1 := Lib.hid hM
    by_cases h59 : (t.data.toList.drop K).head? = some 59
    · have cT := take_yes b t K 59 _ hP ht h59
      have hKs : K + 1 ≤ t.size := by
        by_cases hlt : K < t.size
        · omega
        · rw [List.drop_of_length_le (by rw [← Lib.size_eq]; omega)] at h59; cases h59
      have hown1 := Lib.hid hown
      have hmap1 := Lib.hid hmap
      have hdrop : (t.data.toList.drop K).drop 1 = t.data.toList.drop (K + 1) := by rw [List.drop_drop]
      clear hP hM hown hmap
      go_wp2_with fail
      refine cT.mono ?_
      rintro e w1 ⟨rfl, hP2, hM2⟩
      have hMw1 := hM1.out.trans hM2
      have cV := param_any b t (K + 1) w1 hP2 ht hKs (HA.out.moved hMw1 hAb) hAb
      have HO1 := Lib.hid (ownsRow_moved hown1.out hM2 (by omega))
      have HT1 := Lib.hid (ownsMap_moved hmap1.out hM2 (by omega))
      have HM1 := Lib.hid hMw1
      have HPK := Lib.hid hP2
      clear cT hM2 hMw1 hP2 hown1 hmap1
      cases hp : parL (t.data.toList.drop (K + 1)) with
      | none =>
        rw [psL_none _ _ _ h59 (by rw [hdrop, hp])] at H
        rw [hp] at cV
        clear hp h59 hdrop
        go_wp2_with fail
        refine cV.mono ?_
        rintro e w2 ⟨rfl, hM3, _⟩
        have hM4 := HM1.out.trans hM3
        simp only [prmV]
        clear cV hM3
        go_wp2_with fail
        go_ret2
        refine ⟨hM4.alloc _, ?_⟩
        rw [H.out]
        rfl
      | some pn =>
        obtain ⟨p, n⟩ := pn
        have hkl := parL_key _ p n hp
        rw [List.length_drop, ← Lib.size_eq] at hkl
        rw [psL_some _ _ _ p n h59 (by rw [hdrop, hp]), List.drop_drop] at H
        rw [hp] at cV
        have hkey : keyOf Tryz.prog 9 (.string (strB p.key)) = some (.string p.key) := keyOf_string_mk Tryz.underlying9 (by rw [strB_size]; unfold maxLen; omega)
        have Hkey := Lib.hid hkey
        clear hp h59 hdrop hkey
        go_wp2_with fail
        refine cV.mono ?_
        rintro e w2 ⟨rfl, hM3, K3, hK3, hP3, hadv⟩
        obtain rfl : K3 = K + 1 + n := hadv _ rfl
        have hM4 := HM1.out.trans hM3
        have hO2 := ownsRow_moved HO1.out hM3 (by omega)
        have hT2 := ownsMap_moved HT1.out hM3 (by omega)
        have hw2 : w.heap.size < w2.heap.size := hT2.lt
        simp only [prmV]
        have HM4 := Lib.hid hM4
        have HP4 := Lib.hid hP3
        have HO2 := Lib.hid hO2
        have hT3 := hT2.alloc (.cells #[.string (strB p.key), .int .i64 p.k, .int .i64 p.n, .string (strB p.s)] 97)
        have HT3 := Lib.hid hT3
        have HT2 := Lib.hid hT2
        clear cV hM3 hadv hM4 hO2 hT2 hP3 HO1 HT1 HM1 hT3
        by_cases hmem : p.key ∈ acc.map Prm.key
        · have hhas : Maps.has D (.string p.key) = true := by rw [(HD.out.2 p.key).1]; simpa using hmem
          have hix : idxL (acc.map Prm.key) p.key < acc.length := by have := (idxL_lt _ _).2 hmem; simpa using this
          have hat0 := (HD.out.2 p.key).2 hmem (.lit (.int .i64 0))
          obtain ⟨i, hie⟩ : ∃ i, idxL (acc.map Prm.key) p.key = i := ⟨_, rfl⟩
          rw [hie] at hix hat0
          have Hat0 := Lib.hid hat0
          have Hie := Lib.hid hie
          clear hat0 hie hmem
          have Hhas := Lib.hid hhas
          clear hhas
          obtain ⟨g, cap, rfl, hgB, hg2, hcap⟩ := owns_slice HO2.out (by omega)
          obtain ⟨u0, a0, f0⟩ := owns_cell HO2.out (i * 4) (by omega)
          obtain ⟨u1, a1, f1⟩ := owns_cell HO2.out (i * 4 + 1) (by omega)
          obtain ⟨u2, a2, f2⟩ := owns_cell HO2.out (i * 4 + 2) (by omega)
          obtain ⟨u3, a3, f3⟩ := owns_cell HO2.out (i * 4 + 3) (by omega)
          have hixI : (i : Int) < (acc.length : Int) := by omega
          go_wp2_with (at_lookup; refine wpList_lookup_own_ok_int _ rfl _ _ 110 rfl 9 3 .i64 keyStr Tryz.underlying110 Tryz.underlying3 (zeroInt _) w.heap.size acc.length _ rfl HT3.out _ _ rfl Hkey.out ?_; intro c hat hwc; have hc : c = (i : Int) := (by have := hat.symm.trans Hat0.out; simpa using this); subst hc; rw [Hhas.out]; clear hat hwc)
          go_roundw
          case rel =>
            have s0 := HO2.out.stored (i * 4) (.string (strB p.key))
            have s1 := s0.1.stored (i * 4 + 1) (.int .i64 p.k)
            have s2 := s1.1.stored (i * 4 + 2) (.int .i64 p.n)
            have s3 := s2.1.stored (i * 4 + 3) (.string (strB p.s))
            have hne : some w.heap.size ≠ some g := by simp; omega
            have m0 := (((HT2.out.kept s0.2 hne).kept s1.2 hne).kept s2.2 hne).kept s3.2 hne
            have hgb : g ≠ b := by omega
            refine ⟨K + 1 + n, acc.set i p, D, by omega, hK3, by rw [List.length_set]; omega, Lib.hid ?_, ?_, ?_, ?_, ?_, Lib.hid ?_⟩
            · rw [H.out, show K + (1 + n) = K + 1 + n by omega, show K - k + 1 + n = K + 1 + n - k by omega, putL, Hie.out, if_pos hix]
            · exact ((((HP4.out.other hgb _).other hgb _).other hgb _).other hgb _).alloc _
            · exact ((((HM4.out.setNew (by omega) _).setNew (by omega) _).setNew (by omega) _).setNew (by omega) _).alloc _
            · rw [List.length_set, rowP_set acc i p hix]
              exact s3.1.alloc _
            · rw [List.length_set]
              exact m0.alloc _
            · rw [keys_set acc p i Hie.out hix]
              exact HD.out
          case measure =>
            have e1 : atOf ((((((w2.setCell ⟨g, i * 4, none⟩ (.string (strB p.key))).setCell ⟨g, i * 4 + 1, none⟩ (.int .i64 p.k)).setCell ⟨g, i * 4 + 2, none⟩ (.int .i64 p.n)).setCell ⟨g, i * 4 + 3, none⟩ (.string (strB p.s))).alloc (.cells #[.string (strB p.key), .int .i64 p.k, .int .i64 p.n, .string (strB p.s)] 97))) b = K + 1 + n :=
              (((((HP4.out.other (by omega) _).other (by omega) _).other (by omega) _).other (by omega) _).alloc _).atOf
            rw [e1, hP1.out.atOf]
            omega
        · have hhas : Maps.has D (.string p.key) = false := by rw [(HD.out.2 p.key).1]; simpa using hmem
          have Hhas := Lib.hid hhas
          have Hmem := Lib.hid hmem
          obtain ⟨ao, cap, rfl⟩ := owns_form HO2.out
          have hO3 := HO2.out.alloc (.cells #[.string (strB p.key), .int .i64 p.k, .int .i64 p.n, .string (strB p.s)] 97)
          have HO3 := Lib.hid hO3
          clear hhas hmem hO3
          go_wp2_with (first | (at_lookup; refine wpList_lookup_own_ok_int _ rfl _ _ 110 rfl 9 3 .i64 keyStr Tryz.underlying110 Tryz.underlying3 (zeroInt _) w.heap.size acc.length _ rfl HT3.out _ _ rfl Hkey.out ?_; intro c hat hwc; rw [Hhas.out]; clear hat hwc) | (at_mapUpdate; refine wpList_mapUpdate_own _ rfl _ _ _ 110 rfl 9 3 keyStr Tryz.underlying110 _ w.heap.size acc.length _ rfl HT3.out (by unfold maxLen; omega) _ _ _ rfl rfl Hkey.out _ [] (plainElem_int Tryz.underlying3 (WalkArith.wf_i64 (by omega))) ?_; intro w4 hmap4 hgrow4; have hO4 := HO3.out.kept hgrow4 (.inr (Ne.symm (own_ne HO3.out (Nat.lt_succ_self _)))); have hw4 := hgrow4.size; have e0 := grown_cell hgrow4 (c := w2.heap.size) (by simp) (by simp; omega) 0; have e1 := grown_cell hgrow4 (c := w2.heap.size) (by simp) (by simp; omega) 1; have e2 := grown_cell hgrow4 (c := w2.heap.size) (by simp) (by simp; omega) 2; have e3 := grown_cell hgrow4 (c := w2.heap.size) (by simp) (by simp; omega) 3) | (at_builtin; refine wpList_append_own _ rfl _ _ 44 rfl (w.heap.size + 1) 97 i0 (.agg #[.string ⟨#[]⟩, .int .i64 0, .int .i64 0, .string ⟨#[]⟩]) 4 48 Tryz.underlying44 hi hz0 hz1 hz2 rfl (by decide) _ _ _ rfl (hO4.alloc _) ⟨_, 0, none⟩ 1 1 (cellsP p) rfl rfl (cells_new _ _ _) (by simp [Value.oneCell', cellsP]) (by unfold maxLen; omega) (by omega) (by simp at hw4; simp; omega) ?_; intro v' w5 hown5 hgrow5 _))
          have hPf : Par w5 b t (K + 1 + n) := ((((HP4.out.alloc _).grown hgrow4 (by simp; omega)).alloc _).grown hgrow5 (own_ne hO4 (by omega)))
          go_roundw
          case rel =>
            have hnix : ¬ idxL (acc.map Prm.key) p.key < acc.length := by
              intro h1
              exact Hmem.out ((idxL_lt _ _).1 (by simpa using h1))
            refine ⟨K + 1 + n, acc ++ [p], D.put (.string p.key) (.lit (.int .i64 (acc.length : Int))), by omega, hK3, by simp; omega, Lib.hid ?_, hPf, ?_, ?_, ?_, Lib.hid ?_⟩
            · rw [H.out, show K + (1 + n) = K + 1 + n by omega, show K - k + 1 + n = K + 1 + n - k by omega, putL, if_neg hnix]
            · exact (((HM4.out.alloc _).grown hgrow4 (fun k e => by cases e; exact Nat.le_refl _)).alloc _).grown hgrow5 (fun k e => Nat.le_trans (Nat.le_succ _) (World.ownsRow.lt hO4 k e).1)
            · rw [rowP_snoc, List.length_append]
              exact hown5
            · rw [List.length_append]
              exact (hmap4.alloc _).kept hgrow5 (own_ne hO4 (Nat.lt_succ_self _))
            · have := placeOf_put HD.out p.key Hmem.out
              rw [List.length_map] at this
              rw [List.map_append]
              exact this
          case measure =>
            rw [hPf.atOf, hP1.out.atOf]
            omega
    · have cT := take_no b t K 59 _ hP ht hK h59
      rw [psL_end _ _ _ h59] at H
      clear hP hM h59
      go_wp2_with fail
      refine cT.mono ?_
      rintro e w1 ⟨rfl, hP2, hM2⟩
      have hown1 := Lib.hid (ownsRow_low (ownsRow_moved hown hM2 (by omega)) (Nat.le_succ w.heap.size))
      clear cT hown hmap
      go_wp2_with fail
      go_ret2
      refine ⟨hM1.out.trans hM2, ?_⟩
      rw [H.out]
      exact ⟨_, rfl, hown1.out, by rw [show k + (K - k) = K by omega]; exact hP2⟩

end Go.Proofs.YtjbipplaacgnkaaGreatDoor

namespace Go.Proofs.YtjbipplaacgnkaaGreatDoor
open Go.RowKit

abbrev zeroItem : Obj := .cells #[.int .i64 0, .int .i64 0, .string ⟨#[]⟩, .slice none 0 0] 46
/-- The cells of an item that is none yet. -/
structure ResI (W : World) (c : Nat) : Prop where
  r0 : W.cell? ⟨c, 0, none⟩ = some (.int .i64 0)
  r1 : W.cell? ⟨c, 1, none⟩ = some (.int .i64 0)
  r2 : W.cell? ⟨c, 2, none⟩ = some (.string ⟨#[]⟩)
  r3 : W.cell? ⟨c, 3, none⟩ = some (.slice none 0 0)
  g0 : W.frozen? ⟨c, 0, none⟩ = false
  g1 : W.frozen? ⟨c, 1, none⟩ = false
  g2 : W.frozen? ⟨c, 2, none⟩ = false
  g3 : W.frozen? ⟨c, 3, none⟩ = false
theorem ResI.made (w : World) : ResI (w.alloc zeroItem) w.heap.size := ⟨by simp, by simp, by simp, by simp, by simp, by simp, by simp, by simp⟩
theorem ResI.lt {W : World} {c : Nat} (h : ResI W c) : c < W.heap.size := lt_of_cell h.r0
theorem ResI.moved {W W1 : World} {b c : Nat} (h : ResI W c) (hm : Moved b W W1) (hc : c ≠ b) : ResI W1 c :=
  ⟨(hm.cell (p := ⟨c, 0, none⟩) h.lt hc).trans h.r0, (hm.cell (p := ⟨c, 1, none⟩) h.lt hc).trans h.r1, (hm.cell (p := ⟨c, 2, none⟩) h.lt hc).trans h.r2, (hm.cell (p := ⟨c, 3, none⟩) h.lt hc).trans h.r3, (hm.frozen (p := ⟨c, 0, none⟩) h.lt hc).trans h.g0, (hm.frozen (p := ⟨c, 1, none⟩) h.lt hc).trans h.g1, (hm.frozen (p := ⟨c, 2, none⟩) h.lt hc).trans h.g2, (hm.frozen (p := ⟨c, 3, none⟩) h.lt hc).trans h.g3⟩

/-- The item with which a text begins, and how long it is. -/
def itmL (l : List UInt8) : Option (Got × List Prm × Nat) := match readL l with
  | none => none
  | some g => match psL (l.drop g.m) [] 0 with
    | none => none
    | some (ps, m) => some (g, ps, g.m + m)

def itmPost (o : Option (Got × List Prm × Nat)) (b : Nat) (t : ByteArray) (k : Nat) (w : World) (e : Ending) (w' : World) : Prop :=
  Moved b w w' ∧ match o with
    | none => e = .returned (.tuple #[.agg #[.int .i64 0, .int .i64 0, .string ⟨#[]⟩, .slice none 0 0], .int .i64 2])
    | some (g, ps, m) => ∃ v, e = .returned (.tuple #[.agg #[.int .i64 g.k, .int .i64 g.n, .string (strB g.s), v], .int .i64 0]) ∧ w'.ownsRow w.heap.size 97 4 v ps.length (rowP ps) ∧ Par w' b t (k + m)

set_option maxRecDepth 100000 in
set_option maxHeartbeats 2000000 in
theorem item_any (b : Nat) (t : ByteArray) (k : Nat) (w : World) (h : Par w b t k) (ht : t.size ≤ 100000) (hk : k ≤ t.size) (hA : Alph w) (hAb : 2 ≠ b) :
    Calls Tryz.prog 77 #[.pointer (some ⟨b, 0, none⟩)] w (itmPost (itmL (t.data.toList.drop k)) b t k w) := by
  have hbl := h.lt
  have hbn : b ≠ w.heap.size := by omega
  have HA := Lib.hid hA
  have HM0 := Lib.hid ((Moved.refl b w).alloc zeroItem)
  have HR0 := Lib.hid (ResI.made w)
  have cV := value_any b t k (w.alloc zeroItem) (h.alloc _) ht hk (hA.moved HM0.out hAb)
  have ho : ∀ g, readL (t.data.toList.drop k) = some g → k + g.m ≤ t.size := by
    intro g hg
    have := (readL_right _ g hg).2.2.1
    rw [List.length_drop, ← Lib.size_eq] at this
    omega
  clear hA h
  cases hrd : readL (t.data.toList.drop k) with
  | none =>
    have hI : itmL (t.data.toList.drop k) = none := by rw [itmL, hrd]
    rw [hI]
    rw [hrd] at cV
    simp only [valV] at cV
    clear hrd ho hI
    go_enter Tryz.func77, Tryz.ntmps77
    go_wp2_with fail
    refine cV.mono ?_
    rintro e w1 ⟨rfl, _, hM1⟩
    have hMw := HM0.out.trans hM1
    have hR1 := HR0.out.moved hM1 (Ne.symm hbn)
    have hlt1 := hR1.lt
    obtain ⟨r0, r1, r2, r3, g0, g1, g2, g3⟩ := hR1
    clear cV hM1 HM0 HR0
    go_wp2_with fail
    refine bodyPost_ret (v := .tuple #[.agg #[.int .i64 0, .int .i64 0, .string ⟨#[]⟩, .slice none 0 0], .int .i64 2]) (by simp [results, Tryz.results77, go_sem, r0, r1, r2, r3, hlt1]) rfl ⟨?_, rfl⟩
    repeat (first | with_reducible refine Moved.alloc ?_ _ | (with_reducible refine Moved.setNew ?_ (by omega) _) | with_reducible refine Moved.setCell ?_ _)
    exact hMw
  | some g =>
    have hg2 := ho g hrd
    obtain ⟨gk, gn, gs, gm⟩ := g
    simp only at hg2
    rw [hrd] at cV
    simp only [valV, advL] at cV
    have hI : itmL (t.data.toList.drop k) = match psL (t.data.toList.drop (k + gm)) [] 0 with
        | none => none
        | some (ps, m) => some (⟨gk, gn, gs, gm⟩, ps, gm + m) := by rw [itmL, hrd]; simp only [List.drop_drop]
    rw [hI]
    clear hI hrd ho
    obtain ⟨S, hS⟩ : ∃ S, strB gs = S := ⟨_, rfl⟩
    have HS := Lib.hid hS
    rw [hS] at cV
    clear hS
    cases hps : psL (t.data.toList.drop (k + gm)) [] 0 with
    | none =>
      go_enter Tryz.func77, Tryz.ntmps77
      go_wp2_with fail
      refine cV.mono ?_
      rintro e w1 ⟨rfl, hP1, hM1⟩
      have hMw := HM0.out.trans hM1
      have hR1 := HR0.out.moved hM1 (Ne.symm hbn)
      have cS := params_any b t (k + gm) (w1.alloc (.cells #[.int .i64 gk, .int .i64 gn, .string S] 43)) (hP1.alloc _) ht hg2 (HA.out.moved (hMw.alloc _) hAb) hAb
      rw [hps] at cS
      have HM1 := Lib.hid hMw
      have HR1 := Lib.hid hR1
      clear cV hM1 HM0 HR0 hps hMw hR1 hP1
      go_wp2_with fail
      refine cS.mono ?_
      rintro e w2 ⟨hM2, rfl⟩
      have hMw := (HM1.out.alloc _).trans hM2
      have hR2 := (HR1.out.moved ((Moved.refl b w1).alloc _) (Ne.symm hbn)).moved hM2 (Ne.symm hbn)
      have hlt2 := hR2.lt
      obtain ⟨r0, r1, r2, r3, g0, g1, g2, g3⟩ := hR2
      clear cS hM2 HM1 HR1
      go_wp2_with fail
      refine bodyPost_ret (v := .tuple #[.agg #[.int .i64 0, .int .i64 0, .string ⟨#[]⟩, .slice none 0 0], .int .i64 2]) (by simp [results, Tryz.results77, go_sem, r0, r1, r2, r3]) rfl ⟨?_, rfl⟩
      repeat (first | with_reducible refine Moved.alloc ?_ _ | (with_reducible refine Moved.setNew ?_ (by omega) _) | with_reducible refine Moved.setCell ?_ _)
      exact hMw
    | some pm =>
      obtain ⟨ps, m⟩ := pm
      go_enter Tryz.func77, Tryz.ntmps77
      go_wp2_with fail
      refine cV.mono ?_
      rintro e w1 ⟨rfl, hP1, hM1⟩
      have hMw := HM0.out.trans hM1
      have hR1 := HR0.out.moved hM1 (Ne.symm hbn)
      have cS := params_any b t (k + gm) (w1.alloc (.cells #[.int .i64 gk, .int .i64 gn, .string S] 43)) (hP1.alloc _) ht hg2 (HA.out.moved (hMw.alloc _) hAb) hAb
      rw [hps] at cS
      have HM1 := Lib.hid hMw
      have HR1 := Lib.hid hR1
      have hlt1 : w.heap.size < w1.heap.size := hR1.lt
      clear cV hM1 HM0 HR0 hps hMw hR1 hP1
      go_wp2_with fail
      refine cS.mono ?_
      rintro e w2 ⟨hM2, v, rfl, hown, hP2⟩
      have hMw := (HM1.out.alloc _).trans hM2
      have hR2 := (HR1.out.moved ((Moved.refl b w1).alloc _) (Ne.symm hbn)).moved hM2 (Ne.symm hbn)
      have hlt2 := hR2.lt
      have hcb := hM2.cell (p := ⟨w1.heap.size, 0, none⟩) (by simp) (by have := hM2; simp; omega)
      have hcb1 := hM2.cell (p := ⟨w1.heap.size, 1, none⟩) (by simp) (by simp; omega)
      have hcb2 := hM2.cell (p := ⟨w1.heap.size, 2, none⟩) (by simp) (by simp; omega)
      simp at hcb hcb1 hcb2
      obtain ⟨r0, r1, r2, r3, g0, g1, g2, g3⟩ := hR2
      obtain ⟨ao, cap, rfl⟩ := owns_form hown
      have HO := Lib.hid hown
      have HP2 := Lib.hid hP2
      clear cS hM2 HM1 HR1 hown hP2
      go_wp2_with fail
      refine bodyPost_ret (v := .tuple #[.agg #[.int .i64 gk, .int .i64 gn, .string S, .slice ao ps.length cap], .int .i64 0]) (by simp [results, Tryz.results77, go_sem, r0, r1, r2, r3]) rfl ?_
      refine ⟨?_, _, by rw [HS.out], ?_, ?_⟩
      · repeat (first | with_reducible refine Moved.alloc ?_ _ | (with_reducible refine Moved.setNew ?_ (by omega) _) | with_reducible refine Moved.setCell ?_ _)
        exact hMw
      · refine ownsRow_low (ownsRow_moved HO.out (b := w.heap.size) ?_ (by simp; omega)) (by simp; omega)
        repeat (with_reducible refine Moved.setCell ?_ _)
        exact Moved.refl _ _
      · repeat (with_reducible refine Par.other ?_ (by omega) _)
        rw [← Nat.add_assoc]
        exact HP2.out

end Go.Proofs.YtjbipplaacgnkaaGreatDoor

namespace Go.Proofs.YtjbipplaacgnkaaGreatDoor
open Go.RowKit

set_option maxHeartbeats 1000000 in
theorem parserOf_any (s : ByteArray) (w : World) :
    Calls Tryz.prog 76 #[.string s] w fun e w' => e = .returned (.agg #[.string s, .int .i64 0]) ∧ Below w.heap.size w w' := by
  go_enter Tryz.func76, Tryz.ntmps76
  go_wp2
  exact bodyPost_ret (v := .agg #[.string s, .int .i64 0]) (by simp [results, Tryz.results76, go_sem]) rfl ⟨rfl, (Below.refl _ _).alloc (Nat.le_refl _) _⟩

theorem Par.made (w : World) (t : ByteArray) : Par (w.alloc (.cells #[.string t, .int .i64 0] 148)) w.heap.size t 0 := ⟨by simp, by simp, by simp, by simp⟩

theorem trimB_le (l : List UInt8) (c : UInt8) : (Lib.trimB l c).length ≤ l.length := by
  have h1 := trimRightB_le l c
  have h2 : (Lib.trimLeftB (Lib.trimRightB l c) c).length ≤ (Lib.trimRightB l c).length := (List.dropWhile_sublist _).length_le
  exact Nat.le_trans h2 h1

theorem parL_le (l : List UInt8) (p : Prm) (n : Nat) (h : parL l = some (p, n)) : n ≤ l.length := by
  have hs := spc_le l
  have hk := klen_le (l.drop (spcL l))
  rw [List.length_drop] at hk
  unfold parL at h
  split at h
  · cases h
  · split at h
    · rename_i h61
      have hlt : spcL l + klen (l.drop (spcL l)) < l.length := by
        by_cases hc : spcL l + klen (l.drop (spcL l)) < l.length
        · exact hc
        · rw [List.drop_of_length_le (by omega)] at h61; cases h61
      split at h
      · cases h
      · rename_i g hg
        have hm := (readL_right _ g hg).2.2.1
        rw [List.length_drop] at hm
        have := congrArg (fun o => o.map (fun x => x.2)) h
        simp only [Option.map_some, Option.some.injEq] at this
        omega
    · have := congrArg (fun o => o.map (fun x => x.2)) h
      simp only [Option.map_some, Option.some.injEq] at this
      omega

theorem psL_le (n : Nat) : ∀ (l : List UInt8) (acc : List Prm) (m : Nat) (ps : List Prm) (k : Nat), l.length ≤ n → psL l acc m = some (ps, k) → k ≤ m + l.length := by
  induction n with
  | zero =>
    intro l acc m ps k hl h
    have : l = [] := List.eq_nil_of_length_eq_zero (by omega)
    subst this
    rw [psL_end _ _ _ (by simp)] at h
    have := congrArg (fun o => o.map (fun x => x.2)) h
    simp only [Option.map_some, Option.some.injEq] at this
    omega
  | succ n ih =>
    intro l acc m ps k hl h
    by_cases h59 : l.head? = some 59
    · cases hp : parL (l.drop 1) with
      | none => rw [psL_none _ _ _ h59 hp] at h; cases h
      | some pn =>
        obtain ⟨p, j⟩ := pn
        have hj := parL_le _ p j hp
        have hlen : 1 ≤ l.length := by
          cases l with
          | nil => simp at h59
          | cons c r => simp
        rw [List.length_drop] at hj
        rw [psL_some _ _ _ p j h59 hp] at h
        have := ih (l.drop (1 + j)) (putL acc p) (m + 1 + j) ps k (by rw [List.length_drop]; omega) h
        rw [List.length_drop] at this
        omega
    · rw [psL_end _ _ _ h59] at h
      have := congrArg (fun o => o.map (fun x => x.2)) h
      simp only [Option.map_some, Option.some.injEq] at this
      omega

theorem itmL_le (l : List UInt8) (g : Got) (ps : List Prm) (m : Nat) (h : itmL l = some (g, ps, m)) : m ≤ l.length := by
  unfold itmL at h
  split at h
  · cases h
  · rename_i g' hg
    have h1 := (readL_right _ g' hg).2.2.1
    split at h
    · cases h
    · rename_i ps' m' hp
      have h2 := psL_le _ _ _ _ _ _ (Nat.le_refl _) hp
      rw [List.length_drop] at h2
      have := congrArg (fun o => o.map (fun x => x.2.2)) h
      simp only [Option.map_some, Option.some.injEq] at this
      omega

/-- The item that a text is, apart from spaces around it. -/
def parseL (l : List UInt8) : Option (Got × List Prm) := match itmL (Lib.trimB l 32) with
  | none => none
  | some (g, ps, m) => if m < (Lib.trimB l 32).length then none else some (g, ps)

def parsePost (o : Option (Got × List Prm)) (w : World) (e : Ending) (w' : World) : Prop :=
  Below w.heap.size w w' ∧ match o with
    | none => e = .returned (.tuple #[.agg #[.int .i64 0, .int .i64 0, .string ⟨#[]⟩, .slice none 0 0], .int .i64 2])
    | some (g, ps) => ∃ v, e = .returned (.tuple #[.agg #[.int .i64 g.k, .int .i64 g.n, .string (strB g.s), v], .int .i64 0]) ∧ w'.ownsRow w.heap.size 97 4 v ps.length (rowP ps)

end Go.Proofs.YtjbipplaacgnkaaGreatDoor

namespace Go.Proofs.YtjbipplaacgnkaaGreatDoor
open Go.RowKit

/-- A text without the spaces, and without the spaces and tabs, that it begins with. -/
def spD (l : List UInt8) : List UInt8 := l.dropWhile (· == 32)
def blD (l : List UInt8) : List UInt8 := l.dropWhile (fun c => c == 32 || c == 9)

theorem spD_le (l : List UInt8) : (spD l).length ≤ l.length := (List.dropWhile_sublist _).length_le
theorem blD_le (l : List UInt8) : (blD l).length ≤ l.length := (List.dropWhile_sublist _).length_le

theorem trimL1_any (s : ByteArray) (w : World) :
    Calls Tryz.prog 47 #[.string s, .string ⟨#[32]⟩] w fun e w' => e = .returned (.string (strB (spD s.data.toList))) ∧ Below w.heap.size w w' := by
  refine (Tryz.strings_TrimLeft_one s 32 (by decide) w).mono ?_
  rintro e w' ⟨rfl, rfl⟩
  exact ⟨rfl, Below.refl _ _⟩

theorem trimL2_any (s : ByteArray) (w : World) :
    Calls Tryz.prog 47 #[.string s, .string ⟨#[32, 9]⟩] w fun e w' => e = .returned (.string (strB (blD s.data.toList))) ∧ Below w.heap.size w w' := by
  refine (Any.strings_TrimLeft_laid Tryz.lays161 (by kernel_rfl) s ⟨#[32, 9]⟩ w (by decide) ?_).mono ?_
  · intro j b h
    have hj : j < 2 := (List.getElem?_eq_some_iff.1 h).1
    rcases (show j = 0 ∨ j = 1 by omega) with rfl | rfl
    · obtain rfl := Option.some.inj h; decide
    · obtain rfl := Option.some.inj h; decide
  · intro e w' h
    have hd : Lib.trimLeftS s.data.toList [32, 9] = blD s.data.toList := by
      unfold Lib.trimLeftS blD
      congr 1
      funext c
      simp only [List.contains, List.elem]
      cases c == 32 <;> cases c == 9 <;> rfl
    rw [show (⟨#[32, 9]⟩ : ByteArray).data.toList = [32, 9] from rfl, hd] at h
    exact h

/-- What CutPrefix answers for one byte. -/
theorem cut_yes (s : ByteArray) (c : UInt8) (w : World) (h : s.data.toList.head? = some c) :
    Calls Tryz.prog 48 #[.string s, .string ⟨#[c]⟩] w fun e w' => e = .returned (.tuple #[.string (strB (s.data.toList.drop 1)), .bool true]) ∧ w = w' := by
  refine (Tryz.strings_CutPrefix s ⟨#[c]⟩ w).mono ?_
  rintro e w' ⟨rfl, rfl⟩
  have hp : Lib.hasPrefix s.data.toList [c] = true := by
    cases hl : s.data.toList with
    | nil => rw [hl] at h; cases h
    | cons d r =>
      rw [hl] at h
      obtain rfl := Option.some.inj h
      simp [Lib.hasPrefix]
  rw [show (⟨#[c]⟩ : ByteArray).data.toList = [c] from rfl, Lib.trimPrefix, hp]
  exact ⟨rfl, rfl⟩
theorem cut_no (s : ByteArray) (c : UInt8) (w : World) (h : s.data.toList.head? ≠ some c) :
    Calls Tryz.prog 48 #[.string s, .string ⟨#[c]⟩] w fun e w' => e = .returned (.tuple #[.string s, .bool false]) ∧ w = w' := by
  refine (Tryz.strings_CutPrefix s ⟨#[c]⟩ w).mono ?_
  rintro e w' ⟨rfl, rfl⟩
  have hp : Lib.hasPrefix s.data.toList [c] = false := by
    cases hl : s.data.toList with
    | nil => rfl
    | cons d r =>
      rw [hl] at h
      simp only [List.head?_cons, ne_eq, Option.some.injEq] at h
      unfold Lib.hasPrefix
      simp only [List.isPrefixOf, Bool.and_true, beq_eq_false_iff_ne, ne_eq]
      exact fun e => h e.symm
  rw [show (⟨#[c]⟩ : ByteArray).data.toList = [c] from rfl, Lib.trimPrefix, hp]
  exact ⟨rfl, rfl⟩
theorem hasPrefix_any (s : ByteArray) (c : UInt8) (w : World) :
    Calls Tryz.prog 94 #[.string s, .string ⟨#[c]⟩] w fun e w' => e = .returned (.bool (s.data.toList.head? == some c)) ∧ w = w' := by
  refine (Tryz.strings_HasPrefix s ⟨#[c]⟩ w).mono ?_
  rintro e w' ⟨rfl, rfl⟩
  refine ⟨?_, rfl⟩
  congr 2
  rw [show (⟨#[c]⟩ : ByteArray).data.toList = [c] from rfl]
  cases hl : s.data.toList with
  | nil => rfl
  | cons d r =>
    unfold Lib.hasPrefix
    rw [Bool.eq_iff_iff]
    simp only [List.isPrefixOf, Bool.and_true, beq_iff_eq, List.head?_cons, Option.some.injEq]
    exact eq_comm

/-- What may stand behind an item of an inner list. -/
def endI (l : List UInt8) : Bool := l.head? == some 32 || l.head? == some 41

theorem endsItem_any (s : ByteArray) (w : World) :
    Calls Tryz.prog 95 #[.string s] w fun e w' => e = .returned (.bool (endI s.data.toList)) ∧ w = w' := by
  have c1 := fun W => hasPrefix_any s 32 W
  have c2 := fun W => hasPrefix_any s 41 W
  unfold endI
  cases h1 : s.data.toList.head? == some 32
  · rw [h1] at c1
    go_enter Tryz.func95, Tryz.ntmps95
    go_wp2_with fail
    refine (c1 _).mono ?_
    rintro e w1 ⟨rfl, rfl⟩
    go_wp2_with fail
    refine (c2 _).mono ?_
    rintro e w1 ⟨rfl, rfl⟩
    go_wp2_with fail
    go_ret
    exact ⟨by simp, rfl⟩
  · rw [h1] at c1
    go_enter Tryz.func95, Tryz.ntmps95
    go_wp2_with fail
    refine (c1 _).mono ?_
    rintro e w1 ⟨rfl, rfl⟩
    go_wp2_with fail
    go_ret
    exact ⟨by simp, rfl⟩

end Go.Proofs.YtjbipplaacgnkaaGreatDoor
