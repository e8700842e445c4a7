/- The contract of strings.IndexAny at a space, a tab and a semicolon, over any text. -/
import Derived.Test.YthbfcamfapgodaaGreatDoorGB
import Derived.Test.YthbfcamfapgodaaGreatDoorGA
import Derived.Test.YthbfcamfapgodaaGreatDoorG2
import Derived.Lib.IndexAny
import Derived.Lib.OthersKept

namespace Go.Proofs.YthbfcamfapgodaaGreatDoor
open Go.RowKit Go.Shelf Go.Lib

theorem encode_cases3 (r : Int) (h0 : 128 ≤ r) : (∃ x y : UInt8, 128 ≤ y.toNat ∧ Utf8.encode r = ⟨#[x, y]⟩) ∨ (∃ x y z : UInt8, 128 ≤ z.toNat ∧ Utf8.encode r = ⟨#[x, y, z]⟩) ∨ (∃ x y z u : UInt8, Utf8.encode r = ⟨#[x, y, z, u]⟩) := by
  have hc : ∃ c : Nat, 128 ≤ c ∧ (if Utf8.valid r then r.toNat else Utf8.runeError) = c := by
    split
    · exact ⟨_, by omega, rfl⟩
    · exact ⟨_, by decide, rfl⟩
  obtain ⟨c, h, e⟩ := hc
  unfold Utf8.encode
  simp only [e]
  rewrite [if_neg (by omega)]
  split
  · refine .inl ⟨_, _, ?_, rfl⟩
    rewrite [UInt8.toNat_ofNat']
    omega
  · split
    · refine .inr (.inl ⟨_, _, _, ?_, rfl⟩)
      rewrite [UInt8.toNat_ofNat']
      omega
    · exact .inr (.inr ⟨_, _, _, _, rfl⟩)

theorem semi_no (y : UInt8) (h : 128 ≤ y.toNat) : Lib.indexByte [59] y = -1 := by
  have hn : (59 == y) = false := by
    have : ¬ (59 : UInt8) = y := fun e => by rw [← e] at h; exact absurd h (by decide)
    simpa using this
  rewrite [Lib.indexByte, hn, Lib.indexByte]
  rfl

set_option maxHeartbeats 1000000 in
set_option maxRecDepth 100000 in
theorem indexRune_valid3 (r : Int) (w : World) (h0 : 128 ≤ r) (h1 : r ≤ 1114111) (h2 : r < 55296 ∨ 57343 < r) (h3 : (r == 65533) = false) :
    Calls Tryz.prog 142 #[.string ⟨#[32, 9, 59]⟩, .int .i32 r] w fun e w' => e = .returned (.int .i64 (-1)) ∧ Below w.heap.size w w' := by
  have cV := Tryz.utf8_ValidRune r w
  have hv : Lib.validRune r = true := by unfold Lib.validRune; simp; omega
  rw [hv] at cV
  clear hv
  rcases encode_cases3 r h0 with ⟨x, y, hy, he⟩ | ⟨x, y, z, hy, he⟩ | ⟨x, y, z, u, he⟩
  · have hne : ((((⟨#[32, 9, 59]⟩ : ByteArray)[1]'(by decide)).toNat : Int) != ((((⟨#[x, y]⟩ : ByteArray)[1]'(Nat.lt_succ_self 1))).toNat : Int)) = true := by
      have h9 : ((9 : Int) != (y.toNat : Int)) = true := by simp; omega
      exact h9
    have hib : Lib.indexByte ((⟨#[32, 9, 59]⟩ : ByteArray).extract 2 3).data.toList ((((⟨#[x, y]⟩ : ByteArray)[1]'(Nat.lt_succ_self 1)).toNat : Int)).toNat.toUInt8 = -1 := by
      have e1 : ((⟨#[32, 9, 59]⟩ : ByteArray).extract 2 3).data.toList = [59] := by rw [Lib.extract_data] <;> rfl
      have e2 : ((((⟨#[x, y]⟩ : ByteArray)[1]'(Nat.lt_succ_self 1)).toNat : Int)).toNat.toUInt8 = y := by
        show ((y.toNat : Int)).toNat.toUInt8 = y
        simp
      rewrite [e1, e2]
      exact semi_no y hy
    go_enter Tryz.func142, Tryz.ntmps142
    go_wp2_with (go_at_call 152; refine cV.mono ?_; rintro e w' ⟨rfl, rfl⟩)
    go_step3
    go_wp2_with fail
    refine wp_loop_rounds 1 ?_
    rewrite [rounds_succ]
    go_wp2_with fail
    go_step3
    go_wp2_with fail
    go_quiet (fail)
    go_wp2_with fail
    go_quiet ((go_at_call 90; exact quiet_add_same ((Tryz.strings_IndexByte _ _ _).mono (fun e w' h => ⟨h.1.trans (congrArg (fun n => Ending.returned (.int .i64 n)) (show _ = (-1 : Int) from hib)), h.2⟩))))
    go_wp2_with fail
    rewrite [Exit.noGoto_ret]
    go_wp2_with fail
    rewrite [Exit.noGoto_ret]
    go_ret
    exact ⟨rfl, below_drewNg _ _⟩
  · have hne : ((((⟨#[32, 9, 59]⟩ : ByteArray)[2]'(by decide)).toNat : Int) != ((((⟨#[x, y, z]⟩ : ByteArray)[2]'(Nat.lt_succ_self 2))).toNat : Int)) = true := by
      have h9 : ((59 : Int) != (z.toNat : Int)) = true := by simp; omega
      exact h9
    go_enter Tryz.func142, Tryz.ntmps142
    go_wp2_with (go_at_call 152; refine cV.mono ?_; rintro e w' ⟨rfl, rfl⟩)
    go_step3
    go_wp2_with fail
    refine wp_loop_rounds 1 ?_
    rewrite [rounds_succ]
    go_wp2_with fail
    go_step3
    go_wp2_with fail
    go_quiet (fail)
    go_wp2_with fail
    go_quiet ((go_at_call 90; exact quiet_add_same (Tryz.strings_IndexByte _ _ _)))
    go_wp2_with fail
    rewrite [Exit.noGoto_ret]
    go_wp2_with fail
    rewrite [Exit.noGoto_ret]
    go_ret
    exact ⟨rfl, below_drewNg _ _⟩
  · go_enter Tryz.func142, Tryz.ntmps142
    go_wp2_with (go_at_call 152; refine cV.mono ?_; rintro e w' ⟨rfl, rfl⟩)
    go_step3
    go_wp2_with fail
    refine wp_loop_rounds 1 ?_
    rewrite [rounds_succ]
    go_wp2
    rewrite [Exit.noGoto_ret]
    go_ret
    exact ⟨rfl, Below.refl _ _⟩

theorem indexRune_big3 (r : Nat) (w : World) (h0 : 128 ≤ r) (h1 : r ≤ 1114111) :
    Calls Tryz.prog 142 #[.string ⟨#[32, 9, 59]⟩, .int .i32 r] w fun e w' => e = .returned (.int .i64 (-1)) ∧ Below w.heap.size w w' := by
  by_cases h2 : 55296 ≤ r ∧ r ≤ 57343
  · exact indexRune_invalid _ _ _ (by omega) (by omega)
  · by_cases h3 : r = 65533
    · subst h3
      exact indexRune_error _ _ (by
        intro pos h
        match pos, h with
        | 0, _ => exact (show (32 : UInt8).toNat < 128 by decide)
        | 1, _ => exact (show (9 : UInt8).toNat < 128 by decide)
        | 2, _ => exact (show (59 : UInt8).toNat < 128 by decide))
    · exact indexRune_valid3 _ _ (by omega) (by omega) (by omega) (by simp; omega)

set_option maxRecDepth 100000 in
set_option maxHeartbeats 2000000 in
theorem decodeN_cont (n b0 b1 b2 b3 : Nat) (h : 128 ≤ b0) : 128 ≤ (Lib.decodeN n b0 b1 b2 b3).1 ∧ (Lib.decodeN n b0 b1 b2 b3).1 ≤ 1114111 ∧ 1 ≤ (Lib.decodeN n b0 b1 b2 b3).2 ∧ (Lib.decodeN n b0 b1 b2 b3).2 ≤ 4 ∧ (1 < (Lib.decodeN n b0 b1 b2 b3).2 → 128 ≤ b1) ∧ (2 < (Lib.decodeN n b0 b1 b2 b3).2 → 128 ≤ b2) ∧ (3 < (Lib.decodeN n b0 b1 b2 b3).2 → 128 ≤ b3) := by
  unfold Lib.decodeN
  repeat' split
  all_goals first | (exfalso; omega) | (dsimp only; refine ⟨?_, ?_, ?_, ?_, ?_, ?_, ?_⟩ <;> omega)

abbrev sepL : List UInt8 := [32, 9, 59]
theorem sep_big (b : UInt8) (h : 128 ≤ b.toNat) : sepL.contains b = false := by
  have : ∀ i : Fin 256, 128 ≤ i.val → sepL.contains (UInt8.ofNat i.val) = false := by decide +kernel
  have := this ⟨b.toNat, b.toNat_lt⟩ h
  simpa using this

theorem noAny_skip {s : ByteArray} {pos : Nat} (hp : pos < s.size) (h : 128 ≤ (s[pos]'hp).toNat) (hn : Lib.NoAny s.data.toList sepL pos) :
    128 ≤ (Utf8.decode s pos).1 ∧ (Utf8.decode s pos).1 ≤ 1114111 ∧ 1 ≤ (Utf8.decode s pos).2 ∧ Lib.NoAny s.data.toList sepL (pos + (Utf8.decode s pos).2) := by
  have hl : pos < s.data.toList.length := by rewrite [← Lib.size_eq]; exact hp
  have hb0 : s.data.toList.getD pos 0 = s[pos]'hp := by rw [getD_of_lt _ _ hl] <;> rfl
  rewrite [Lib.decode_N]
  obtain ⟨h1, h2, h3, h4, h5, h6, h7⟩ := decodeN_cont (s.data.toList.length - pos) (s.data.toList.getD pos 0).toNat (s.data.toList.getD (pos + 1) 0).toNat (s.data.toList.getD (pos + 2) 0).toNat (s.data.toList.getD (pos + 3) 0).toNat (by rewrite [hb0]; exact h)
  refine ⟨h1, h2, h3, ?_⟩
  intro j b hj hb
  have hbd : s.data.toList.getD j 0 = b := by rw [List.getD_eq_getElem?_getD, hb] <;> rfl
  by_cases hlt : j < pos
  · exact hn j b hlt hb
  · refine sep_big b ?_
    rewrite [← hbd]
    obtain ⟨k, rfl⟩ : ∃ k, j = pos + k := ⟨j - pos, by omega⟩
    match k, (show k < 4 by omega), hj with
    | 0, _, _ => rewrite [Nat.add_zero, hb0]; exact h
    | 1, _, hj => exact h5 (by omega)
    | 2, _, hj => exact h6 (by omega)
    | 3, _, hj => exact h7 (by omega)

theorem chars_emp : (⟨#[32, 9, 59]⟩ : ByteArray).toList.isEmpty = false := by rw [Lib.toList_data] <;> rfl

set_option maxHeartbeats 4000000 in
set_option maxRecDepth 100000 in
theorem indexAny_any (s : ByteArray) (w : World) (hs : s.size ≤ 100000) :
    Calls Tryz.prog 136 #[.string s, .string ⟨#[32, 9, 59]⟩] w fun e w' => e = .returned (.int .i64 (Lib.indexAny s.data.toList sepL)) ∧ Below w.heap.size w w' := by
  by_cases h8 : 8 < s.size
  · refine (Tryz.strings_IndexAny_long (zero_of_info (n := 256) (by kernel_rfl)).1 s ⟨#[32, 9, 59]⟩ w (by decide) h8 (by omega) (by decide) (by
      intro j b hb
      match j, hb with
      | 0, hb => obtain rfl := Option.some.inj hb; decide
      | 1, hb => obtain rfl := Option.some.inj hb; decide
      | 2, hb => obtain rfl := Option.some.inj hb; decide)).mono fun e w' ⟨h1, h2⟩ => ⟨h1, ?_⟩
    rewrite [h2]
    exact ((Below.refl _ _).alloc (Nat.le_refl _) _).alloc (by simp) _
  · have h8z : decide ((8 : Int) < (s.size : Int)) = false := decide_eq_false (by omega)
    have cA := fun W => (Tryz.strings_shouldUseASCIISet (s.size : Int) W).mono (R' := fun e w' => e = .returned (.bool (decide ((8 : Int) < (s.size : Int)))) ∧ W = w') (fun e w' h => ⟨h.1, h.2.symm⟩)
    rw [h8z] at cA
    clear h8z
    go_enter Tryz.func136, Tryz.ntmps136
    go_wp2_with fail
    refine (cA _).mono ?_
    rintro e w1 ⟨rfl, rfl⟩
    clear cA
    go_wp2_with fail
    go_loopg [9, 10] s.size (fun gf _ _ wx => ∃ pos : Nat, wx.heap[w.heap.size]? = some (.stringIter s pos) ∧ Below w.heap.size w wx ∧ s.size ≤ pos + gf ∧ Hid (Lib.NoAny s.data.toList sepL pos))
    case atStart => exact ⟨0, World.iter_heap w s 0, (Below.refl _ w).alloc (Nat.le_refl _) _, by omega, Lib.hid (Lib.NoAny.zero _ _)⟩
    case round =>
      obtain ⟨pos, hit, hbw, hfu, HN⟩ := hrel
      by_cases hps : pos < s.size
      · obtain ⟨g', rfl⟩ : ∃ g', gk = g' + 1 := ⟨gk - 1, by omega⟩
        obtain ⟨x, hx⟩ : ∃ x : UInt8, s[pos]'hps = x := ⟨_, rfl⟩
        have Hx : Hid (s.data.toList[pos]? = some x) := Lib.hid (by rewrite [← hx]; exact Lib.data_getElem? s pos hps)
        by_cases h128 : x.toNat < 128
        · have hnx : ∀ ty, (Instr.next (.pointer (some ⟨w.heap.size, 0, none⟩)) true ty).run Tryz.prog wr = _ := fun ty => Lib.run_next_ascii_at wr w.heap.size s pos ty hit hps (by rewrite [hx]; exact h128)
          rw [hx] at hnx
          have hit2 := Lib.iterAt_heap wr w.heap.size s pos (pos + 1) hit
          have hbw2 := Lib.below_iterAt hbw (k := w.heap.size) (Nat.le_refl _) s (pos + 1)
          have hcon := Lib.contains_iff_indexByte sepL x
          have cI := fun W => (Tryz.strings_IndexRune_ascii ⟨#[32, 9, 59]⟩ (x.toNat : Int) W (by omega) (by omega))
          have hback : ((x.toNat : Int)).toNat.toUInt8 = x := by simp
          rw [hback, show (⟨#[32, 9, 59]⟩ : ByteArray).data.toList = sepL from rfl] at cI
          clear hx hback
          generalize Lib.indexByte sepL x = ix at *
          generalize wr.iterAt w.heap.size s (pos + 1) = W at hnx hit2 hbw2
          cases hin : sepL.contains x
          · rw [hin] at hcon
            have hlt : ¬ ((0 : Int) ≤ ix) := of_decide_eq_false hcon.symm
            have Hn := Lib.hid (HN.out.succ Hx.out hin)
            clear hcon hin
            go_wp2_with (go_at_call 142; refine (cI _).mono ?_; rintro e w' ⟨rfl, rfl⟩)
            go_roundg g'
            case measure => omega
            case rel => exact ⟨pos + 1, hit2, hbw2, by omega, Hn⟩
          · rw [hin] at hcon
            have hge : (0 : Int) ≤ ix := of_decide_eq_true hcon.symm
            have Hr := Lib.hid (Lib.indexAny_hit HN.out Hx.out hin)
            clear hcon hin
            go_wp2_with (go_at_call 142; refine (cI _).mono ?_; rintro e w' ⟨rfl, rfl⟩)
            go_ret
            exact ⟨by rw [Hr.out] <;> rfl, hbw2⟩
        · obtain ⟨k1, k2, k3, k4⟩ := noAny_skip hps (by rewrite [hx]; omega) HN.out
          have hnx : ∀ ty, (Instr.next (.pointer (some ⟨w.heap.size, 0, none⟩)) true ty).run Tryz.prog wr = _ := fun ty => Lib.run_next_any_at wr w.heap.size s pos ty hit hps
          have hit2 := Lib.iterAt_heap wr w.heap.size s pos (pos + (Utf8.decode s pos).2) hit
          have hbw2 := Lib.below_iterAt hbw (k := w.heap.size) (Nat.le_refl _) s (pos + (Utf8.decode s pos).2)
          have cI := fun W => indexRune_big3 (Utf8.decode s pos).1 W k1 k2
          have Hn := Lib.hid k4
          clear hx k4
          generalize (Utf8.decode s pos).2 = wd at *
          generalize (Utf8.decode s pos).1 = rn at *
          generalize wr.iterAt w.heap.size s (pos + wd) = W at hnx hit2 hbw2
          go_wp2_with fail
          refine (cI _).mono ?_
          rintro e w2 ⟨rfl, hb2⟩
          have hz := (Array.getElem?_eq_some_iff.1 hit2).1
          have hit3 : w2.heap[w.heap.size]? = some (.stringIter s (pos + wd)) := (hb2.block w.heap.size hz).trans hit2
          have hbw3 := hbw2.trans (hb2.mono hbw2.size)
          clear cI hb2 hit2 hbw2
          go_wp2_with fail
          go_roundg g'
          case measure => omega
          case rel => exact ⟨pos + wd, hit3, hbw3, by omega, Hn⟩
      · have hnx : ∀ ty, (Instr.next (.pointer (some ⟨w.heap.size, 0, none⟩)) true ty).run Tryz.prog wr = _ := fun ty => Lib.run_next_end_at wr w.heap.size s pos ty hit hps
        have Hr : Hid (Lib.indexAny s.data.toList sepL = -1) := Lib.hid (Lib.indexAny_none (fun j b hj hb => HN.out j b (by rw [← Lib.size_eq] at hj; omega) hb))
        go_wp2
        go_ret
        exact ⟨by rw [Hr.out] <;> rfl, hbw⟩

end Go.Proofs.YthbfcamfapgodaaGreatDoor
