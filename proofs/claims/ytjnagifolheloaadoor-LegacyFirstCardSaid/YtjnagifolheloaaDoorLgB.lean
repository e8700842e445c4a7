/- The contract of legacy.valueOf. -/
import Derived.Test.YtjnagifolheloaaDoorLgA
namespace Go.Proofs.YtjnagifolheloaaDoor
open Go.RowKit Go.Lib

set_option maxRecDepth 100000 in
set_option maxHeartbeats 4000000 in
/-- Neither a token nor begun by a quote. -/
theorem value_plain (s : ByteArray) (w : World) (hs : s.size ≤ 100000) (h : tokL s.data.toList = true ∨ s.data.toList.head? ≠ some 34) :
    Calls Tryd.prog 36 #[.string s] w (valPost (valL s.data.toList) w) := by
  have cT := token_any s w (by unfold maxLen; omega)
  cases ht : tokL s.data.toList
  · have hh : s.data.toList.head? ≠ some 34 := by
      rcases h with h | h
      · rw [ht] at h; cases h
      · exact h
    have cC := cut_noV s w hh
    have hv : valL s.data.toList = none := by
      rw [valL, if_neg (by rw [ht]; decide)]
      cases hl : s.data.toList with
      | nil => rfl
      | cons c r =>
        rw [hl] at hh
        rw [unqL, if_neg (fun e => hh (by rw [e]; rfl))]
    rw [ht] at cT
    rw [hv]
    clear hv hh h ht
    go_enter Tryd.func36, Tryd.ntmps36
    go_wp2_with (first | (go_at_call 34; refine cT.mono ?_; rintro e w' ⟨rfl, rfl⟩) | (go_at_call 52; refine cC.mono ?_; rintro e w' ⟨rfl, rfl⟩))
    refine bodyPost_ret (v := .tuple #[.string ⟨#[]⟩, .bool false]) (by simp [results, Tryd.results36, go_sem]) rfl ⟨⟨_, rfl, fun t ht => by cases ht⟩, Below.refl _ _⟩
  · have hv : valL s.data.toList = some s.data.toList := by rw [valL, if_pos ht]
    rw [ht] at cT
    rw [hv]
    clear hv h ht
    go_enter Tryd.func36, Tryd.ntmps36
    go_wp2_with (go_at_call 34; refine cT.mono ?_; rintro e w' ⟨rfl, rfl⟩)
    refine bodyPost_ret (v := .tuple #[.string s, .bool true]) (by simp [results, Tryd.results36, go_sem]) rfl ⟨⟨_, rfl, fun t ht => by rw [← Option.some.inj ht, strB_of]⟩, Below.refl _ _⟩

set_option maxRecDepth 100000 in
set_option maxHeartbeats 4000000 in
/-- Begun by a quote. -/
theorem value_quoted (s : ByteArray) (w : World) (hs : s.size ≤ 100000) (ht : tokL s.data.toList = false) (hh : s.data.toList.head? = some 34) :
    Calls Tryd.prog 36 #[.string s] w (valPost (valL s.data.toList) w) := by
  have cT := token_any s w (by unfold maxLen; omega)
  have cC := cut_yesV s w hh
  have hv : valL s.data.toList = unqG (s.data.toList.drop 1) := by
    rw [valL, if_neg (by rw [ht]; decide)]
    cases hl : s.data.toList with
    | nil => rw [hl] at hh; cases hh
    | cons c r =>
      rw [hl] at hh
      obtain rfl := Option.some.inj hh
      rw [unqL, if_pos rfl]
      rfl
  have hz : (s.data.toList.drop 1).length ≤ 100000 := by rw [List.length_drop, ← Lib.size_eq]; omega
  rw [ht] at cT
  rw [hv]
  clear hv hh ht
  generalize s.data.toList.drop 1 = l at *
  have HR : Hid ((strB l).data.toList = l) := Lib.hid rfl
  have hRz : (strB l).size ≤ 100000 := by rw [strB_size]; exact hz
  rw [← HR.out]
  have HS := Lib.hid (vqI_start (strB l).data.toList)
  clear hz HR
  generalize strB l = R at *
  clear l
  obtain ⟨O, hO⟩ : ∃ O, unqG R.data.toList = O := ⟨_, rfl⟩
  rw [hO]
  have HO := Lib.hid hO
  clear hO
  have Hfr := Lib.hid (show Lib.IsBuilder 81 5 w.heap.size w.heap.size (Lib.byteCells []) (w.alloc (.cells #[.pointer none, .slice none 0 0] 81)) from
      .inl ⟨Nat.le_refl _, .slice none 0 0, heap_alloc_new w _, World.ownsRow_nil _ _ _ _, by simp [Value.ownBlock]⟩)
  have HB1 := Lib.hid ((Below.refl w.heap.size w).alloc (Nat.le_refl _) (.cells #[.pointer none, .slice none 0 0] 81))
  go_enter Tryd.func36, Tryd.ntmps36
  go_wp2_with (first | (go_at_call 34; refine cT.mono ?_; rintro e w' ⟨rfl, rfl⟩) | (go_at_call 52; refine cC.mono ?_; rintro e w' ⟨rfl, rfl⟩))
  clear cT cC
  go_loopw [7, 22] (fun q i wr => ∃ (k : Nat) (esc : Bool) (acc : List UInt8), q = .bool esc ∧ i = .int .i64 k ∧ k ≤ R.size ∧ Hid (vqI R.data.toList k esc acc) ∧ Hid (Lib.IsBuilder 81 5 w.heap.size w.heap.size (Lib.byteCells acc) wr) ∧ Hid (Below w.heap.size w wr)) (fun _ i _ => R.size - (intOf i).toNat)
  case atStart => exact ⟨0, false, [], rfl, rfl, Nat.zero_le _, HS, Hfr, HB1⟩
  case round =>
    obtain ⟨k, esc, acc, rfl, rfl, hk, H, HBD, HB⟩ := hrel
    clear HS Hfr HB1
    have hal : acc.length ≤ 100000 := Nat.le_trans H.out.1 (Nat.le_trans hk hRz)
    have hbl := IsBuilder_ltF HBD.out
    have hbs := HB.out.size
    by_cases hlt : k < R.size
    · have hkI : (k : Int) < (R.size : Int) := by omega
      have hd := Lib.hid (drop_cons_at R k hlt)
      have B34 : (((R[k]'hlt).toNat : Int) == 34) = ((R[k]'hlt) == 34) := byte_beq _ 34
      have B92 : (((R[k]'hlt).toNat : Int) == 92) = ((R[k]'hlt) == 92) := byte_beq _ 92
      have cW := writeByte_any w.heap.size w.heap.size (Lib.byteCells acc) ((R[k]'hlt).toNat : Int) wr HBD.out (by rw [Lib.byteCells_length]; omega) hbs
      have Hst : Hid (Lib.byteCells acc ++ [.int .u8 ((R[k]'hlt).toNat : Int)] = Lib.byteCells (acc ++ [R[k]'hlt])) := Lib.hid (by simp [Lib.byteCells])
      cases esc
      · cases c92 : ((R[k]'hlt) == 92)
        · rw [c92] at B92
          cases c34 : ((R[k]'hlt) == 34)
          · rw [c34] at B34
            have HN := Lib.hid (vqI_other H.out hd.out (by simpa using c34) (by simpa using c92))
            clear c34 c92 hd
            go_wp2_with (go_at_call 54; refine cW.mono ?_; rintro e w3 ⟨rfl, hbd3, hb3⟩)
            rw [Hst.out] at hbd3
            have HB3 := Lib.hid (HB.out.trans (hb3.mono (Nat.le_refl _)))
            have HBD3 := Lib.hid hbd3
            clear hbd3 hb3 cW
            go_roundw
            case rel => exact ⟨k + 1, false, acc ++ [R[k]'hlt], rfl, by go_num, by omega, HN, Lib.hid (.inr HBD3.out), HB3⟩
            case measure => simp [intOf]; omega
          · rw [c34] at B34
            have h34 : R[k]'hlt = 34 := beq_iff_eq.1 c34
            have hd2 := hd.out
            rw [h34] at hd2
            have HE := Lib.hid (vqI_end H.out hd2)
            have cS := Tryd.Builder_String_any w.heap.size w.heap.size acc wr HBD.out hbs
            have HV : Hid (((k : Int) == (R.size : Int) - 1) = O.isSome) := Lib.hid (by
              rw [← HO.out, HE.out]
              by_cases hl : R.data.toList.drop (k + 1) = []
              · have h1 := congrArg List.length hl
                rw [List.length_drop, ← Lib.size_eq, List.length_nil] at h1
                rw [if_pos hl, beq_iff_eq.2 (by omega)]
                rfl
              · have h1 : ¬ (k : Int) = (R.size : Int) - 1 := fun e => hl (List.drop_of_length_le (by rw [← Lib.size_eq]; omega))
                rw [if_neg hl, beq_eq_false_iff_ne.2 h1]
                rfl)
            have HU : Hid (∀ t, O = some t → (⟨acc.toArray⟩ : ByteArray) = strB t) := Lib.hid (fun t ht => by
              rw [← HO.out, HE.out] at ht
              split at ht
              · rw [← Option.some.inj ht]; rfl
              · cases ht)
            clear c34 c92 hd hd2 h34 cW
            go_wp2_with (go_at_call 53; refine cS.mono ?_; rintro e w4 ⟨rfl, hb4⟩)
            refine bodyPost_ret (v := .tuple #[.string ⟨acc.toArray⟩, .bool ((k : Int) == (R.size : Int) - 1)]) (by simp [results, Tryd.results36, go_sem]) rfl ⟨⟨_, by rw [HV.out], HU.out⟩, HB.out.trans (hb4.mono (Nat.le_refl _))⟩
        · rw [c92] at B92
          have h92 : R[k]'hlt = 92 := beq_iff_eq.1 c92
          have hd2 := hd.out
          rw [h92] at hd2
          have HN := Lib.hid (vqI_esc H.out hd2)
          clear c92 hd hd2 cW
          go_wp2_with fail
          go_roundw
          case rel => exact ⟨k + 1, true, acc, rfl, by go_num, by omega, HN, HBD, HB⟩
          case measure => simp [intOf]; omega
      · have HN := Lib.hid (vqI_any H.out hd.out)
        clear hd
        cases c92 : ((R[k]'hlt) == 92)
        all_goals
          rw [c92] at B92
          cases c34 : ((R[k]'hlt) == 34)
          all_goals
            rw [c34] at B34
            clear c34 c92
            go_wp2_with (go_at_call 54; refine cW.mono ?_; rintro e w3 ⟨rfl, hbd3, hb3⟩)
            rw [Hst.out] at hbd3
            have HB3 := Lib.hid (HB.out.trans (hb3.mono (Nat.le_refl _)))
            have HBD3 := Lib.hid hbd3
            clear hbd3 hb3
            go_roundw
            case rel => exact ⟨k + 1, false, acc ++ [R[k]'hlt], rfl, by go_num, by omega, HN, Lib.hid (.inr HBD3.out), HB3⟩
            case measure => simp [intOf]; omega
    · have hkI : ¬ (k : Int) < (R.size : Int) := by omega
      have hn := Lib.hid (show O = none by rw [← HO.out]; exact vqI_none H.out (List.drop_of_length_le (by rw [← Lib.size_eq]; omega)))
      go_wp2_with fail
      refine bodyPost_ret (v := .tuple #[.string ⟨#[]⟩, .bool false]) (by simp [results, Tryd.results36, go_sem]) rfl ⟨⟨⟨#[]⟩, by rw [hn.out]; rfl, fun t ht => by rw [hn.out] at ht; cases ht⟩, HB.out⟩

theorem value_any (s : ByteArray) (w : World) (hs : s.size ≤ 100000) :
    Calls Tryd.prog 36 #[.string s] w (valPost (valL s.data.toList) w) := by
  by_cases h : tokL s.data.toList = true ∨ s.data.toList.head? ≠ some 34
  · exact value_plain s w hs h
  · have h1 : tokL s.data.toList = false := by
      cases ht : tokL s.data.toList
      · rfl
      · exact absurd (.inl ht) h
    have h2 : s.data.toList.head? = some 34 := Classical.byContradiction fun e => h (.inr e)
    exact value_quoted s w hs h1 h2

end Go.Proofs.YtjnagifolheloaaDoor
