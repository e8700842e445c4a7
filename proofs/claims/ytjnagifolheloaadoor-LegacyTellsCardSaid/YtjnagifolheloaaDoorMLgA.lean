/- The contract of strings.Builder's WriteByte, and of legacy.valueOf. · The contract of legacy.valueOf. -/
import Derived.Test.YtjnagifolheloaaDoorMHdK
import Derived.Test.YtjnagifolheloaaDoorMPrnP
import Derived.Test.YtjnagifolheloaaDoorMTokA
import Derived.Test.YtjnagifolheloaaDoorMLeP
import Derived.Shelf.Strings.Prefix

namespace Go.Proofs.YtjnagifolheloaaDoor
open Go.RowKit Go.Lib

set_option maxHeartbeats 2000000 in
set_option maxRecDepth 100000 in
theorem writeByte_any (B b : Nat) (bs : List Value) (c : Int) (w : World) (h : Lib.IsBuilder 81 5 B b bs w) (hlen : bs.length + 1 ≤ 140737488355328) (hBw : B ≤ w.heap.size) :
    Calls Tryd.prog 54 #[.pointer (some ⟨b, 0, none⟩), .int .u8 c] w fun e w' => e = .returned .nilIface ∧ (Lib.BuilderAt 81 5 B b (.pointer (some ⟨b, 0, none⟩)) (bs ++ [.int .u8 c]) w' ∧ Below B w w') := by
  obtain ⟨i0, hi, hz0, hz1, hz2⟩ := info_parts info_u8
  go_enter Tryd.func54, Tryd.ntmps54
  go_wp2_with fail
  refine (copyCheck_any B b bs _ h).mono ?_
  rintro e w1 ⟨rfl, h1, hb1⟩
  obtain ⟨hB, v, hbk, hown, hne⟩ := h1
  have c0 : w1.cell? ⟨b, 0, none⟩ = some (.pointer (some ⟨b, 0, none⟩)) := by rw [Lib.cell_of_heap hbk] <;> rfl
  have c1 : w1.cell? ⟨b, 1, none⟩ = some v := by rw [Lib.cell_of_heap hbk] <;> rfl
  go_wp2_with (at_builtin; refine wpList_append_own _ rfl _ _ 77 rfl B 5 i0 (.int .u8 0) 1 1 Tryd.underlying77 hi hz0 hz1 hz2 rfl (by decide) _ _ _ rfl (hown.alloc _) ⟨w1.heap.size, 0, none⟩ 1 1 [.int .u8 c] rfl rfl ?c1 ?c2 ?c3 ?c4 ?c5 ?_)
  case c1 =>
    intro j u hj
    match j, hj with
    | 0, hj => simp at hj; subst hj; simp [Addr.add]
  case c2 => intro u hu; simp at hu; subst hu; rfl
  case c3 => unfold maxLen; omega
  case c4 => omega
  case c5 => have := hb1.size; simp; omega
  intro v' w2 hown' hgrow _
  have hlt : b < w1.heap.size := by
    rcases Nat.lt_or_ge b w1.heap.size with h' | h'
    · exact h'
    · simp [Array.getElem?_eq_none h'] at hbk
  have hb2 : w2.heap[b]? = some (.cells #[.pointer (some ⟨b, 0, none⟩), v] 81 (0, 0)) := by
    rewrite [hgrow.block b (by simp; omega) (fun e => hne e.symm), Lib.alloc_old w1 _ b hlt]
    exact hbk
  have d0 : w2.cell? ⟨b, 0, none⟩ = some (.pointer (some ⟨b, 0, none⟩)) := by rw [Lib.cell_of_heap hb2] <;> rfl
  have d1 : w2.cell? ⟨b, 1, none⟩ = some v := by rw [Lib.cell_of_heap hb2] <;> rfl
  have f1 : w2.frozen? ⟨b, 1, none⟩ = false := Lib.frozen_of_heap hb2 1
  obtain ⟨g, cap, rfl⟩ : ∃ g cap, v' = .slice (some ⟨g, 0, none⟩) (bs.length + 1) cap := by
    rcases hown'.2 with ⟨_, h0⟩ | ⟨g, cap, cur, hv, _⟩
    · omega
    · exact ⟨g, cap, hv⟩
  go_wp2
  go_ret
  refine ⟨rfl, ?_, ?_⟩
  · exact Lib.BuilderAt.put (T := 81) (e := 5) hB hb2 (bs' := bs ++ [.int .u8 c]) (by simpa using hown') (by decide)
  · exact ((hb1.alloc (by have := hb1.size; omega) _).grown hgrow (by have := hb1.size; simp; omega) (fun k hk => (hown.lt k hk).1)).setCell (p := ⟨b, 1, none⟩) hB _

/-- What a text tells as a value. -/
def valL (t : List UInt8) : Option (List UInt8) := if tokL t = true then some t else unqL t
/-- What valueOf answers. -/
def valPost (o : Option (List UInt8)) (w : World) (e : Ending) (w' : World) : Prop := (∃ X, e = .returned (.tuple #[.string X, .bool o.isSome]) ∧ ∀ t, o = some t → X = strB t) ∧ Below w.heap.size w w'
/-- What is left of a quoted text, behind an escaping sign or not. -/
def unqE (b : Bool) (l : List UInt8) : Option (List UInt8) :=
  if b = true then (match l with | [] => none | c :: r => (unqG r).map (c :: ·)) else unqG l
def vqI (l : List UInt8) (k : Nat) (esc : Bool) (acc : List UInt8) : Prop := acc.length ≤ k ∧ unqG l = (unqE esc (l.drop k)).map (acc ++ ·)
theorem vqI_start (l : List UInt8) : vqI l 0 false [] := ⟨Nat.le_refl _, by
  rewrite [List.drop_zero]
  show unqG l = (unqG l).map _
  cases unqG l <;> rfl⟩
theorem vqI_none {l acc : List UInt8} {k : Nat} {b : Bool} (h : vqI l k b acc) (hd : l.drop k = []) : unqG l = none := by
  rewrite [h.2, hd]
  cases b <;> rfl
theorem vqI_end {l acc : List UInt8} {k : Nat} (h : vqI l k false acc) (hd : l.drop k = 34 :: l.drop (k + 1)) : unqG l = if l.drop (k + 1) = [] then some acc else none := by
  rewrite [h.2, hd]
  show (unqG _).map _ = _
  rewrite [unqG_end]
  split
  · rw [Option.map_some, List.append_nil]
  · rfl
theorem vqI_esc {l acc : List UInt8} {k : Nat} (h : vqI l k false acc) (hd : l.drop k = 92 :: l.drop (k + 1)) : vqI l (k + 1) true acc := by
  refine ⟨Nat.le_succ_of_le h.1, ?_⟩
  rewrite [h.2, hd]
  show (unqG _).map _ = _
  cases hr : l.drop (k + 1) with
  | nil => rfl
  | cons d t => rw [unqG_esc] <;> rfl
theorem vqI_any {l acc : List UInt8} {k : Nat} {c : UInt8} (h : vqI l k true acc) (hd : l.drop k = c :: l.drop (k + 1)) : vqI l (k + 1) false (acc ++ [c]) := by
  refine ⟨by rewrite [List.length_append, List.length_singleton]; have := h.1; omega, ?_⟩
  rewrite [h.2, hd]
  show ((unqG _).map _).map _ = (unqG _).map _
  cases unqG (l.drop (k + 1)) <;> simp
theorem vqI_other {l acc : List UInt8} {k : Nat} {c : UInt8} (h : vqI l k false acc) (hd : l.drop k = c :: l.drop (k + 1)) (h1 : c ≠ 34) (h2 : c ≠ 92) : vqI l (k + 1) false (acc ++ [c]) := by
  refine ⟨by rewrite [List.length_append, List.length_singleton]; have := h.1; omega, ?_⟩
  rewrite [h.2, hd]
  show (unqG _).map _ = (unqG _).map _
  rewrite [unqG_other c _ h1 h2]
  cases unqG (l.drop (k + 1)) <;> simp
theorem cut_yesV (s : ByteArray) (w : World) (h : s.data.toList.head? = some 34) :
    Calls Tryd.prog 52 #[.string s, .string ⟨#[34]⟩] w fun e w' => e = .returned (.tuple #[.string (strB (s.data.toList.drop 1)), .bool true]) ∧ w = w' := by
  refine (Tryd.strings_CutPrefix s ⟨#[34]⟩ w).mono ?_
  rintro e w' ⟨rfl, rfl⟩
  have hp : Lib.hasPrefix s.data.toList [34] = true := by
    cases hl : s.data.toList with
    | nil => rw [hl] at h; cases h
    | cons d r =>
      rw [hl] at h
      obtain rfl := Option.some.inj h
      simp [Lib.hasPrefix]
  rewrite [show (⟨#[34]⟩ : ByteArray).data.toList = [34] from rfl, Lib.trimPrefix, hp]
  exact ⟨rfl, rfl⟩
theorem cut_noV (s : ByteArray) (w : World) (h : s.data.toList.head? ≠ some 34) :
    Calls Tryd.prog 52 #[.string s, .string ⟨#[34]⟩] w fun e w' => e = .returned (.tuple #[.string s, .bool false]) ∧ w = w' := by
  refine (Tryd.strings_CutPrefix s ⟨#[34]⟩ w).mono ?_
  rintro e w' ⟨rfl, rfl⟩
  have hp : Lib.hasPrefix s.data.toList [34] = false := by
    cases hl : s.data.toList with
    | nil => rfl
    | cons d r =>
      rw [hl] at h
      simp only [List.head?_cons, ne_eq, Option.some.injEq] at h
      unfold Lib.hasPrefix
      simp only [List.isPrefixOf, Bool.and_true, beq_eq_false_iff_ne, ne_eq]
      exact fun e => h e.symm
  rewrite [show (⟨#[34]⟩ : ByteArray).data.toList = [34] from rfl, Lib.trimPrefix, hp]
  exact ⟨rfl, rfl⟩

end Go.Proofs.YtjnagifolheloaaDoor

namespace Go.Proofs.YtjnagifolheloaaDoor
open Go.RowKit Go.Lib

set_option maxRecDepth 100000 in
set_option maxHeartbeats 4000000 in
/-- Neither a token nor begun by a quote. -/
theorem value_plain (s : ByteArray) (w : World) (hs : s.size ≤ 100000) (h : tokL s.data.toList = true ∨ s.data.toList.head? ≠ some 34) :
    Calls Tryd.prog 36 #[.string s] w (valPost (valL s.data.toList) w) := by
  have cT := token_any s w (by unfold maxLen; omega)
  cases ht : tokL s.data.toList
  · have hh : s.data.toList.head? ≠ some 34 := by
      rcases h with h | h
      · rw [ht] at h; cases h
      · exact h
    have cC := cut_noV s w hh
    have hv : valL s.data.toList = none := by
      rewrite [valL, if_neg (by rewrite [ht]; decide)]
      cases hl : s.data.toList with
      | nil => rfl
      | cons c r =>
        rw [hl] at hh
        rw [unqL, if_neg (fun e => hh (by rw [e] <;> rfl))]
    rw [ht] at cT
    rewrite [hv]
    clear hv hh h ht
    go_enter Tryd.func36, Tryd.ntmps36
    go_wp2_with (first | (go_at_call 34; refine cT.mono ?_; rintro e w' ⟨rfl, rfl⟩) | (go_at_call 52; refine cC.mono ?_; rintro e w' ⟨rfl, rfl⟩))
    refine bodyPost_ret (v := .tuple #[.string ⟨#[]⟩, .bool false]) (by simp [results, Tryd.results36, go_sem]) rfl ⟨⟨_, rfl, fun t ht => by cases ht⟩, Below.refl _ _⟩
  · have hv : valL s.data.toList = some s.data.toList := by rw [valL, if_pos ht]
    rw [ht] at cT
    rewrite [hv]
    clear hv h ht
    go_enter Tryd.func36, Tryd.ntmps36
    go_wp2_with (go_at_call 34; refine cT.mono ?_; rintro e w' ⟨rfl, rfl⟩)
    refine bodyPost_ret (v := .tuple #[.string s, .bool true]) (by simp [results, Tryd.results36, go_sem]) rfl ⟨⟨_, rfl, fun t ht => by rw [← Option.some.inj ht, strB_of]⟩, Below.refl _ _⟩

set_option maxRecDepth 100000 in
set_option maxHeartbeats 4000000 in
/-- Begun by a quote. -/
theorem value_quoted (s : ByteArray) (w : World) (hs : s.size ≤ 100000) (ht : tokL s.data.toList = false) (hh : s.data.toList.head? = some 34) :
    Calls Tryd.prog 36 #[.string s] w (valPost (valL s.data.toList) w) := by
  have cT := token_any s w (by unfold maxLen; omega)
  have cC := cut_yesV s w hh
  have hv : valL s.data.toList = unqG (s.data.toList.drop 1) := by
    rewrite [valL, if_neg (by rewrite [ht]; decide)]
    cases hl : s.data.toList with
    | nil => rw [hl] at hh; cases hh
    | cons c r =>
      rw [hl] at hh
      obtain rfl := Option.some.inj hh
      rewrite [unqL, if_pos rfl]
      rfl
  have hz : (s.data.toList.drop 1).length ≤ 100000 := by rewrite [List.length_drop, ← Lib.size_eq]; omega
  rw [ht] at cT
  rewrite [hv]
  clear hv hh ht
  generalize s.data.toList.drop 1 = l at *
  have HR : Hid ((strB l).data.toList = l) := Lib.hid rfl
  have hRz : (strB l).size ≤ 100000 := by rewrite [strB_size]; exact hz
  rewrite [← HR.out]
  have HS := Lib.hid (vqI_start (strB l).data.toList)
  clear hz HR
  generalize strB l = R at *
  clear l
  obtain ⟨O, hO⟩ : ∃ O, unqG R.data.toList = O := ⟨_, rfl⟩
  rewrite [hO]
  have HO := Lib.hid hO
  clear hO
  have Hfr := Lib.hid (show Lib.IsBuilder 81 5 w.heap.size w.heap.size (Lib.byteCells []) (w.alloc (.cells #[.pointer none, .slice none 0 0] 81)) from
      .inl ⟨Nat.le_refl _, .slice none 0 0, heap_alloc_new w _, World.ownsRow_nil _ _ _ _, by simp [Value.ownBlock]⟩)
  have HB1 := Lib.hid ((Below.refl w.heap.size w).alloc (Nat.le_refl _) (.cells #[.pointer none, .slice none 0 0] 81))
  go_enter Tryd.func36, Tryd.ntmps36
  go_wp2_with (first | (go_at_call 34; refine cT.mono ?_; rintro e w' ⟨rfl, rfl⟩) | (go_at_call 52; refine cC.mono ?_; rintro e w' ⟨rfl, rfl⟩))
  clear cT cC
  go_loopw [7, 22] (fun q i wr => ∃ (k : Nat) (esc : Bool) (acc : List UInt8), q = .bool esc ∧ i = .int .i64 k ∧ k ≤ R.size ∧ Hid (vqI R.data.toList k esc acc) ∧ Hid (Lib.IsBuilder 81 5 w.heap.size w.heap.size (Lib.byteCells acc) wr) ∧ Hid (Below w.heap.size w wr)) (fun _ i _ => R.size - (intOf i).toNat)
  case atStart => exact ⟨0, false, [], rfl, rfl, Nat.zero_le _, HS, Hfr, HB1⟩
  case round =>
    obtain ⟨k, esc, acc, rfl, rfl, hk, H, HBD, HB⟩ := hrel
    clear HS Hfr HB1
    have hal : acc.length ≤ 100000 := Nat.le_trans H.out.1 (Nat.le_trans hk hRz)
    have hbl := IsBuilder_ltF HBD.out
    have hbs := HB.out.size
    by_cases hlt : k < R.size
    · have hkI : (k : Int) < (R.size : Int) := by omega
      have hd := Lib.hid (drop_cons_at R k hlt)
      have B34 : (((R[k]'hlt).toNat : Int) == 34) = ((R[k]'hlt) == 34) := byte_beq _ 34
      have B92 : (((R[k]'hlt).toNat : Int) == 92) = ((R[k]'hlt) == 92) := byte_beq _ 92
      have cW := writeByte_any w.heap.size w.heap.size (Lib.byteCells acc) ((R[k]'hlt).toNat : Int) wr HBD.out (by rewrite [Lib.byteCells_length]; omega) hbs
      have Hst : Hid (Lib.byteCells acc ++ [.int .u8 ((R[k]'hlt).toNat : Int)] = Lib.byteCells (acc ++ [R[k]'hlt])) := Lib.hid (by simp [Lib.byteCells])
      cases esc
      · cases c92 : ((R[k]'hlt) == 92)
        · rw [c92] at B92
          cases c34 : ((R[k]'hlt) == 34)
          · rw [c34] at B34
            have HN := Lib.hid (vqI_other H.out hd.out (by simpa using c34) (by simpa using c92))
            clear c34 c92 hd
            go_wp2_with (go_at_call 54; refine cW.mono ?_; rintro e w3 ⟨rfl, hbd3, hb3⟩)
            rw [Hst.out] at hbd3
            have HB3 := Lib.hid (HB.out.trans (hb3.mono (Nat.le_refl _)))
            have HBD3 := Lib.hid hbd3
            clear hbd3 hb3 cW
            go_roundw
            case rel => exact ⟨k + 1, false, acc ++ [R[k]'hlt], rfl, by go_num, by omega, HN, Lib.hid (.inr HBD3.out), HB3⟩
            case measure => simp [intOf]; omega
          · rw [c34] at B34
            have h34 : R[k]'hlt = 34 := beq_iff_eq.1 c34
            have hd2 := hd.out
            rw [h34] at hd2
            have HE := Lib.hid (vqI_end H.out hd2)
            have cS := Tryd.Builder_String_any w.heap.size w.heap.size acc wr HBD.out hbs
            have HV : Hid (((k : Int) == (R.size : Int) - 1) = O.isSome) := Lib.hid (by
              rewrite [← HO.out, HE.out]
              by_cases hl : R.data.toList.drop (k + 1) = []
              · have h1 := congrArg List.length hl
                rw [List.length_drop, ← Lib.size_eq, List.length_nil] at h1
                rewrite [if_pos hl, beq_iff_eq.2 (by omega)]
                rfl
              · have h1 : ¬ (k : Int) = (R.size : Int) - 1 := fun e => hl (List.drop_of_length_le (by rewrite [← Lib.size_eq]; omega))
                rewrite [if_neg hl, beq_eq_false_iff_ne.2 h1]
                rfl)
            have HU : Hid (∀ t, O = some t → (⟨acc.toArray⟩ : ByteArray) = strB t) := Lib.hid (fun t ht => by
              rw [← HO.out, HE.out] at ht
              split at ht
              · rw [← Option.some.inj ht] <;> rfl
              · cases ht)
            clear c34 c92 hd hd2 h34 cW
            go_wp2_with (go_at_call 53; refine cS.mono ?_; rintro e w4 ⟨rfl, hb4⟩)
            refine bodyPost_ret (v := .tuple #[.string ⟨acc.toArray⟩, .bool ((k : Int) == (R.size : Int) - 1)]) (by simp [results, Tryd.results36, go_sem]) rfl ⟨⟨_, by rw [HV.out], HU.out⟩, HB.out.trans (hb4.mono (Nat.le_refl _))⟩
        · rw [c92] at B92
          have h92 : R[k]'hlt = 92 := beq_iff_eq.1 c92
          have hd2 := hd.out
          rw [h92] at hd2
          have HN := Lib.hid (vqI_esc H.out hd2)
          clear c92 hd hd2 cW
          go_wp2_with fail
          go_roundw
          case rel => exact ⟨k + 1, true, acc, rfl, by go_num, by omega, HN, HBD, HB⟩
          case measure => simp [intOf]; omega
      · have HN := Lib.hid (vqI_any H.out hd.out)
        clear hd
        cases c92 : ((R[k]'hlt) == 92)
        all_goals
          rw [c92] at B92
          cases c34 : ((R[k]'hlt) == 34)
          all_goals
            rw [c34] at B34
            clear c34 c92
            go_wp2_with (go_at_call 54; refine cW.mono ?_; rintro e w3 ⟨rfl, hbd3, hb3⟩)
            rw [Hst.out] at hbd3
            have HB3 := Lib.hid (HB.out.trans (hb3.mono (Nat.le_refl _)))
            have HBD3 := Lib.hid hbd3
            clear hbd3 hb3
            go_roundw
            case rel => exact ⟨k + 1, false, acc ++ [R[k]'hlt], rfl, by go_num, by omega, HN, Lib.hid (.inr HBD3.out), HB3⟩
            case measure => simp [intOf]; omega
    · have hkI : ¬ (k : Int) < (R.size : Int) := by omega
      have hn := Lib.hid (show O = none by rewrite [← HO.out]; exact vqI_none H.out (List.drop_of_length_le (by rewrite [← Lib.size_eq]; omega)))
      go_wp2_with fail
      refine bodyPost_ret (v := .tuple #[.string ⟨#[]⟩, .bool false]) (by simp [results, Tryd.results36, go_sem]) rfl ⟨⟨⟨#[]⟩, by rw [hn.out] <;> rfl, fun t ht => by rw [hn.out] at ht; cases ht⟩, HB.out⟩

theorem value_any (s : ByteArray) (w : World) (hs : s.size ≤ 100000) :
    Calls Tryd.prog 36 #[.string s] w (valPost (valL s.data.toList) w) := by
  by_cases h : tokL s.data.toList = true ∨ s.data.toList.head? ≠ some 34
  · exact value_plain s w hs h
  · have h1 : tokL s.data.toList = false := by
      cases ht : tokL s.data.toList
      · rfl
      · exact absurd (.inl ht) h
    have h2 : s.data.toList.head? = some 34 := Classical.byContradiction fun e => h (.inr e)
    exact value_quoted s w hs h1 h2

end Go.Proofs.YtjnagifolheloaaDoor
