/- The contract of strings.IndexAny at a slash and a question mark, over any text. -/
import Derived.Test.YtbbdifcmhoobaaaGreatDoorIrnA
import Derived.Test.YtbbdifcmhoobaaaGreatDoorBasP
import Derived.Lib.IndexAny
import Derived.Lib.OthersKept
namespace Go.Proofs.YtbbdifcmhoobaaaGreatDoor
open Go.RowKit Go.Shelf Go.Lib

set_option maxHeartbeats 1000000 in
set_option maxRecDepth 100000 in
theorem indexRune_valid2 (r : Int) (w : World) (h0 : 128 ≤ r) (h1 : r ≤ 1114111) (h2 : r < 55296 ∨ 57343 < r) (h3 : (r == 65533) = false) :
    Calls Tryz.prog 54 #[.string ⟨#[47, 63]⟩, .int .i32 r] w fun e w' => e = .returned (.int .i64 (-1)) ∧ Below w.heap.size w w' := by
  have cV := Tryz.utf8_ValidRune r w
  have hv : Lib.validRune r = true := by unfold Lib.validRune; simp; omega
  rw [hv] at cV
  clear hv
  rcases encode_cases r h0 with ⟨x, y, hy, he⟩ | ⟨x, y, z, he⟩ | ⟨x, y, z, u, he⟩
  · have hne : ((((⟨#[47, 63]⟩ : ByteArray)[1]'(by decide)).toNat : Int) != ((((⟨#[x, y]⟩ : ByteArray)[1]'(Nat.lt_succ_self 1))).toNat : Int)) = true := by
      have h9 : ((63 : Int) != (y.toNat : Int)) = true := by simp; omega
      exact h9
    go_enter Tryz.func54, Tryz.ntmps54
    go_wp2_with (go_at_call 79; refine cV.mono ?_; rintro e w' ⟨rfl, rfl⟩)
    go_step3
    go_wp2_with fail
    refine wp_loop_rounds 1 ?_
    rw [rounds_succ]
    go_wp2_with fail
    go_step3
    go_wp2_with fail
    go_quiet (fail)
    go_wp2_with fail
    go_quiet ((go_at_call 78; exact quiet_add_same (Tryz.strings_IndexByte _ _ _)))
    go_wp2_with fail
    rw [Exit.noGoto_ret]
    go_wp2_with fail
    rw [Exit.noGoto_ret]
    go_ret
    exact ⟨rfl, below_drewN _ _⟩
  · go_enter Tryz.func54, Tryz.ntmps54
    go_wp2_with (go_at_call 79; refine cV.mono ?_; rintro e w' ⟨rfl, rfl⟩)
    go_step3
    go_wp2_with fail
    refine wp_loop_rounds 1 ?_
    rw [rounds_succ]
    go_wp2
    rw [Exit.noGoto_ret]
    go_ret
    exact ⟨rfl, Below.refl _ _⟩
  · go_enter Tryz.func54, Tryz.ntmps54
    go_wp2_with (go_at_call 79; refine cV.mono ?_; rintro e w' ⟨rfl, rfl⟩)
    go_step3
    go_wp2_with fail
    refine wp_loop_rounds 1 ?_
    rw [rounds_succ]
    go_wp2
    rw [Exit.noGoto_ret]
    go_ret
    exact ⟨rfl, Below.refl _ _⟩

theorem indexRune_big2 (r : Nat) (w : World) (h0 : 128 ≤ r) (h1 : r ≤ 1114111) :
    Calls Tryz.prog 54 #[.string ⟨#[47, 63]⟩, .int .i32 r] w fun e w' => e = .returned (.int .i64 (-1)) ∧ Below w.heap.size w w' := by
  by_cases h2 : 55296 ≤ r ∧ r ≤ 57343
  · exact indexRune_invalid _ _ _ (by omega) (by omega)
  · by_cases h3 : r = 65533
    · subst h3
      exact indexRune_error _ _ (by
        intro pos h
        match pos, h with
        | 0, _ => exact (show (47 : UInt8).toNat < 128 by decide)
        | 1, _ => exact (show (63 : UInt8).toNat < 128 by decide))
    · exact indexRune_valid2 _ _ (by omega) (by omega) (by omega) (by simp; omega)

abbrev sepT : List UInt8 := [47, 63]
theorem sepT_big (b : UInt8) (h : 128 ≤ b.toNat) : sepT.contains b = false := by
  have : ∀ i : Fin 256, 128 ≤ i.val → sepT.contains (UInt8.ofNat i.val) = false := by decide +kernel
  have := this ⟨b.toNat, b.toNat_lt⟩ h
  simpa using this

theorem noAny_skipT {s : ByteArray} {pos : Nat} (hp : pos < s.size) (h : 128 ≤ (s[pos]'hp).toNat) (hn : Lib.NoAny s.data.toList sepT pos) :
    128 ≤ (Utf8.decode s pos).1 ∧ (Utf8.decode s pos).1 ≤ 1114111 ∧ 1 ≤ (Utf8.decode s pos).2 ∧ Lib.NoAny s.data.toList sepT (pos + (Utf8.decode s pos).2) := by
  have hl : pos < s.data.toList.length := by rw [← Lib.size_eq]; exact hp
  have hb0 : s.data.toList.getD pos 0 = s[pos]'hp := by rw [List.getD_eq_getElem?_getD, List.getElem?_eq_getElem hl]; rfl
  rw [Lib.decode_N]
  obtain ⟨h1, h2, h3, h4, h5, h6, h7⟩ := decodeN_cont (s.data.toList.length - pos) (s.data.toList.getD pos 0).toNat (s.data.toList.getD (pos + 1) 0).toNat (s.data.toList.getD (pos + 2) 0).toNat (s.data.toList.getD (pos + 3) 0).toNat (by rw [hb0]; exact h)
  refine ⟨h1, h2, h3, ?_⟩
  intro j b hj hb
  have hbd : s.data.toList.getD j 0 = b := by rw [List.getD_eq_getElem?_getD, hb]; rfl
  by_cases hlt : j < pos
  · exact hn j b hlt hb
  · refine sepT_big b ?_
    rw [← hbd]
    obtain ⟨k, rfl⟩ : ∃ k, j = pos + k := ⟨j - pos, by omega⟩
    match k, (show k < 4 by omega), hj with
    | 0, _, _ => rw [Nat.add_zero, hb0]; exact h
    | 1, _, hj => exact h5 (by omega)
    | 2, _, hj => exact h6 (by omega)
    | 3, _, hj => exact h7 (by omega)

theorem charsT_emp : (⟨#[47, 63]⟩ : ByteArray).toList.isEmpty = false := by rw [Lib.toList_data]; rfl

set_option maxHeartbeats 4000000 in
set_option maxRecDepth 100000 in
theorem indexAny2_any (s : ByteArray) (w : World) (hs : s.size ≤ 100000) :
    Calls Tryz.prog 40 #[.string s, .string ⟨#[47, 63]⟩] w fun e w' => e = .returned (.int .i64 (Lib.indexAny s.data.toList sepT)) ∧ Below w.heap.size w w' := by
  by_cases h8 : 8 < s.size
  · refine (Tryz.strings_IndexAny_long (zero_of_info (n := 256) (by kernel_rfl)).1 s ⟨#[47, 63]⟩ w (by decide) h8 (by omega) (by decide) (by
      intro j b hb
      match j, hb with
      | 0, hb => obtain rfl := Option.some.inj hb; decide
      | 1, hb => obtain rfl := Option.some.inj hb; decide)).mono fun e w' ⟨h1, h2⟩ => ⟨h1, ?_⟩
    rw [h2]
    exact ((Below.refl _ _).alloc (Nat.le_refl _) _).alloc (by simp) _
  · have h8z : decide ((8 : Int) < (s.size : Int)) = false := decide_eq_false (by omega)
    have cA := fun W => (Tryz.strings_shouldUseASCIISet (s.size : Int) W).mono (R' := fun e w' => e = .returned (.bool (decide ((8 : Int) < (s.size : Int)))) ∧ W = w') (fun e w' h => ⟨h.1, h.2.symm⟩)
    rw [h8z] at cA
    clear h8z
    go_enter Tryz.func40, Tryz.ntmps40
    go_wp2_with fail
    refine (cA _).mono ?_
    rintro e w1 ⟨rfl, rfl⟩
    clear cA
    go_wp2_with fail
    go_loopg [9, 10] s.size (fun gf _ _ wx => ∃ pos : Nat, wx.heap[w.heap.size]? = some (.stringIter s pos) ∧ Below w.heap.size w wx ∧ s.size ≤ pos + gf ∧ Hid (Lib.NoAny s.data.toList sepT pos))
    case atStart => exact ⟨0, World.iter_heap w s 0, (Below.refl _ w).alloc (Nat.le_refl _) _, by omega, Lib.hid (Lib.NoAny.zero _ _)⟩
    case round =>
      obtain ⟨pos, hit, hbw, hfu, HN⟩ := hrel
      by_cases hps : pos < s.size
      · obtain ⟨g', rfl⟩ : ∃ g', gk = g' + 1 := ⟨gk - 1, by omega⟩
        obtain ⟨x, hx⟩ : ∃ x : UInt8, s[pos]'hps = x := ⟨_, rfl⟩
        have Hx : Hid (s.data.toList[pos]? = some x) := Lib.hid (by rw [← hx]; exact Lib.data_getElem? s pos hps)
        by_cases h128 : x.toNat < 128
        · have hnx : ∀ ty, (Instr.next (.pointer (some ⟨w.heap.size, 0, none⟩)) true ty).run Tryz.prog wr = _ := fun ty => Lib.run_next_ascii_at wr w.heap.size s pos ty hit hps (by rw [hx]; exact h128)
          rw [hx] at hnx
          have hit2 := Lib.iterAt_heap wr w.heap.size s pos (pos + 1) hit
          have hbw2 := Lib.below_iterAt hbw (k := w.heap.size) (Nat.le_refl _) s (pos + 1)
          have hcon := Lib.contains_iff_indexByte sepT x
          have cI := fun W => (Tryz.strings_IndexRune_ascii ⟨#[47, 63]⟩ (x.toNat : Int) W (by omega) (by omega))
          have hback : ((x.toNat : Int)).toNat.toUInt8 = x := by simp
          rw [hback, show (⟨#[47, 63]⟩ : ByteArray).data.toList = sepT from rfl] at cI
          clear hx hback
          generalize Lib.indexByte sepT x = ix at *
          generalize wr.iterAt w.heap.size s (pos + 1) = W at hnx hit2 hbw2
          cases hin : sepT.contains x
          · rw [hin] at hcon
            have hlt : ¬ ((0 : Int) ≤ ix) := of_decide_eq_false hcon.symm
            have Hn := Lib.hid (HN.out.succ Hx.out hin)
            clear hcon hin
            go_wp2_with (go_at_call 54; refine (cI _).mono ?_; rintro e w' ⟨rfl, rfl⟩)
            go_roundg g'
            case measure => omega
            case rel => exact ⟨pos + 1, hit2, hbw2, by omega, Hn⟩
          · rw [hin] at hcon
            have hge : (0 : Int) ≤ ix := of_decide_eq_true hcon.symm
            have Hr := Lib.hid (Lib.indexAny_hit HN.out Hx.out hin)
            clear hcon hin
            go_wp2_with (go_at_call 54; refine (cI _).mono ?_; rintro e w' ⟨rfl, rfl⟩)
            go_ret
            exact ⟨by rw [Hr.out]; rfl, hbw2⟩
        · obtain ⟨k1, k2, k3, k4⟩ := noAny_skipT hps (by rw [hx]; omega) HN.out
          have hnx : ∀ ty, (Instr.next (.pointer (some ⟨w.heap.size, 0, none⟩)) true ty).run Tryz.prog wr = _ := fun ty => Lib.run_next_any_at wr w.heap.size s pos ty hit hps
          have hit2 := Lib.iterAt_heap wr w.heap.size s pos (pos + (Utf8.decode s pos).2) hit
          have hbw2 := Lib.below_iterAt hbw (k := w.heap.size) (Nat.le_refl _) s (pos + (Utf8.decode s pos).2)
          have cI := fun W => indexRune_big2 (Utf8.decode s pos).1 W k1 k2
          have Hn := Lib.hid k4
          clear hx k4
          generalize (Utf8.decode s pos).2 = wd at *
          generalize (Utf8.decode s pos).1 = rn at *
          generalize wr.iterAt w.heap.size s (pos + wd) = W at hnx hit2 hbw2
          go_wp2_with fail
          refine (cI _).mono ?_
          rintro e w2 ⟨rfl, hb2⟩
          have hz := (Array.getElem?_eq_some_iff.1 hit2).1
          have hit3 : w2.heap[w.heap.size]? = some (.stringIter s (pos + wd)) := (hb2.block w.heap.size hz).trans hit2
          have hbw3 := hbw2.trans (hb2.mono hbw2.size)
          clear cI hb2 hit2 hbw2
          go_wp2_with fail
          go_roundg g'
          case measure => omega
          case rel => exact ⟨pos + wd, hit3, hbw3, by omega, Hn⟩
      · have hnx : ∀ ty, (Instr.next (.pointer (some ⟨w.heap.size, 0, none⟩)) true ty).run Tryz.prog wr = _ := fun ty => Lib.run_next_end_at wr w.heap.size s pos ty hit hps
        have Hr : Hid (Lib.indexAny s.data.toList sepT = -1) := Lib.hid (Lib.indexAny_none (fun j b hj hb => HN.out j b (by rw [← Lib.size_eq] at hj; omega) hb))
        go_wp2
        go_ret
        exact ⟨by rw [Hr.out]; rfl, hbw⟩

end Go.Proofs.YtbbdifcmhoobaaaGreatDoor
