/- The contracts of the document's own answers for package ascii (sculleryref01): Token, Trim, Text. -/
import Derived.Test.YtfhpgobdnhlpcaaDoorRjA
namespace Go.Proofs.YtfhpgobdnhlpcaaDoor
open Go.RowKit

theorem pos_of (l : List UInt8) : decide (0 < l.length) = !l.isEmpty := by cases l <;> rfl

set_option maxHeartbeats 1000000 in
theorem rtoken_any (s : ByteArray) (w : World) (hs : s.size ≤ maxLen) :
    Calls Tryd.prog 33 #[.string s] w fun e w' => e = .returned (.bool (tokL s.data.toList)) ∧ w = w' := by
  unfold maxLen at hs
  go_enter Tryd.func33, Tryd.ntmps33
  go_wp2
  go_loop [3] (fun i => ∃ k : Nat, k ≤ s.size ∧ i = .int .i64 k ∧ Hid ((s.data.toList.take k).all (fun c => tchI c.toNat) = true)) (fun i => s.size - (intOf i).toNat)
  case atStart => exact ⟨0, Nat.zero_le _, rfl, Lib.hid rfl⟩
  case round =>
    obtain ⟨k, hk, rfl, Hall⟩ := hrel
    by_cases hlt : k < s.size
    · have cT := rtchar_any s[k] w
      cases hd : tchI (s[k].toNat : Int)
      · have Hf := Lib.hid (all_false_of (fun c => tchI c.toNat) s k hlt hd)
        rw [hd] at cT
        clear hd
        go_wp2_with (go_at_call 55; refine cT.mono ?_; rintro e w' ⟨rfl, rfl⟩)
        go_ret
        exact ⟨by simp [tokL, Hf.out], rfl⟩
      · have Ha := Lib.hid (all_snoc (fun c => tchI c.toNat) s k hlt)
        rw [hd] at cT
        have Hd := Lib.hid hd
        clear hd
        go_wp2_with (go_at_call 55; refine cT.mono ?_; rintro e w' ⟨rfl, rfl⟩)
        go_round
        case rel => exact ⟨k + 1, by omega, by go_num, Lib.hid (by rw [Ha.out, Hd.out, Bool.and_true]; exact Hall.out)⟩
        case measure => simp [intOf]; omega
    · have hk' : s.size ≤ k := by omega
      have Hp : Hid (decide (0 < s.size) = !s.data.toList.isEmpty) := Lib.hid (by rw [Lib.size_eq]; exact pos_of _)
      go_wp2
      go_ret
      refine ⟨ret_eq (bool_eq ?_), rfl⟩
      rw [take_all s k hk'] at Hall
      rw [tokL, Hall.out, Bool.true_and, ← Hp.out]

theorem trimL_tail (l : List UInt8) (h : 0 < l.length) (hb : blkB l[0] = true) : trimL l = trimL (l.drop 1) := by
  cases l with
  | nil => simp at h
  | cons c r =>
    simp only [List.getElem_cons_zero] at hb
    rw [trimL, trimL, List.drop_one, List.tail_cons]
    have e : tlL (c :: r) = tlL r := by rw [tlL, List.dropWhile_cons_of_pos hb]; rfl
    rw [e]

theorem tlL_stop (l : List UInt8) (h : 0 < l.length) (hb : blkB l[0] = false) : tlL l = l := by
  cases l with
  | nil => simp at h
  | cons c r =>
    simp only [List.getElem_cons_zero] at hb
    rw [tlL, List.dropWhile_cons_of_neg (by rw [hb]; decide)]

theorem trimL_init (l : List UInt8) (h : 0 < l.length) (hb : blkB l[0] = false) (hl : blkB (l[l.length - 1]'(by omega)) = true) : trimL l = trimL (l.take (l.length - 1)) := by
  have h2 : 1 < l.length := by
    rcases Nat.lt_or_ge 1 l.length with h' | h'
    · exact h'
    · have e : l.length - 1 = 0 := by omega
      simp only [e] at hl
      rw [hb] at hl
      cases hl
  have hb2 : blkB ((l.take (l.length - 1))[0]'(by rw [List.length_take]; omega)) = false := by simpa using hb
  rw [trimL, trimL, tlL_stop l h hb, tlL_stop (l.take (l.length - 1)) (by rw [List.length_take]; omega) hb2]
  have := trL_take l l.length h (Nat.le_refl _)
  rw [List.take_length, getD_of_lt _ _ (by omega), hl, if_pos rfl] at this
  exact this

theorem trimL_done (l : List UInt8) (h : 0 < l.length) (hb : blkB l[0] = false) (hl : blkB (l[l.length - 1]'(by omega)) = false) : trimL l = l := by
  rw [trimL, tlL_stop l h hb]
  have := trL_take l l.length h (Nat.le_refl _)
  rw [List.take_length, getD_of_lt _ _ (by omega), hl, if_neg (by decide)] at this
  exact this

set_option maxHeartbeats 1000000 in
theorem rtrim_any : ∀ (n : Nat) (s : ByteArray) (w : World), s.size ≤ n → s.size ≤ maxLen →
    Calls Tryd.prog 32 #[.string s] w fun e w' => e = .returned (.string (strB (trimL s.data.toList))) ∧ w = w'
  | 0, s, w, hn, hs => by
    have hz : s.size = 0 := by omega
    have he : s.data.toList = [] := List.eq_nil_of_length_eq_zero (by rw [← Lib.size_eq]; exact hz)
    have Hend : Hid (strB (trimL s.data.toList) = s) := Lib.hid (by rw [he, show trimL [] = [] from rfl, ← he, strB_of])
    clear he
    go_enter Tryd.func32, Tryd.ntmps32
    go_wp2
    go_ret
    exact ⟨by rw [Hend.out]; rfl, rfl⟩
  | n + 1, s, w, hn, hs => by
    have hsz := Lib.size_eq s
    by_cases hp : 0 < s.size
    · have hpl : 0 < s.data.toList.length := by omega
      have hlast : s.size - 1 < s.size := by omega
      have cB0 := rblank_any ((s[0]'hp).toNat : Int) w
      rw [blkI_of] at cB0
      have cB1 := rblank_any ((s[s.size - 1]'hlast).toNat : Int) w
      rw [blkI_of] at cB1
      have i0 : s[0]'hp = s.data.toList[0]'hpl := rfl
      have i1 : s[s.size - 1]'hlast = s.data.toList[s.data.toList.length - 1]'(by omega) := by
        simp only [← hsz]; rfl
      have x1 : (s.extract 1 s.size).data.toList = s.data.toList.drop 1 := Lib.extract_to_end s 1
      have x2 : (s.extract 0 (s.size - 1)).data.toList = s.data.toList.take (s.size - 1) := extract_take s _
      have z1 : (s.extract 1 s.size).size ≤ n := by rw [Lib.size_eq, x1, List.length_drop]; omega
      have z2 : (s.extract 0 (s.size - 1)).size ≤ n := by rw [Lib.size_eq, x2, List.length_take]; omega
      have c1 := rtrim_any n (s.extract 1 s.size) w z1 (by unfold maxLen at hs ⊢; rw [Lib.size_eq, x1, List.length_drop]; omega)
      have c2 := rtrim_any n (s.extract 0 (s.size - 1)) w z2 (by unfold maxLen at hs ⊢; rw [Lib.size_eq, x2, List.length_take]; omega)
      rw [x1] at c1
      rw [x2] at c2
      clear x1 x2 z1 z2
      cases hb0 : blkB (s[0]'hp)
      · cases hb1 : blkB (s[s.size - 1]'hlast)
        · have Hend := Lib.hid (trimL_done s.data.toList hpl (by rw [← i0]; exact hb0) (by rw [← i1]; exact hb1))
          rw [hb0] at cB0
          rw [hb1] at cB1
          clear hb0 hb1 i0 i1 hsz c1 c2
          unfold maxLen at hs
          go_enter Tryd.func32, Tryd.ntmps32
          go_wp2_with fail
          refine cB0.mono ?_
          rintro e w' ⟨rfl, rfl⟩
          go_wp2_with fail
          refine cB1.mono ?_
          rintro e w' ⟨rfl, rfl⟩
          go_wp2_with fail
          go_ret
          exact ⟨by rw [Hend.out, strB_of]; rfl, rfl⟩
        · have Hend := Lib.hid (trimL_init s.data.toList hpl (by rw [← i0]; exact hb0) (by rw [← i1]; exact hb1))
          rw [hb0] at cB0
          rw [hb1] at cB1
          have Hsz := Lib.hid hsz
          clear hb0 hb1 i0 i1 hsz c1
          unfold maxLen at hs
          go_enter Tryd.func32, Tryd.ntmps32
          go_wp2_with fail
          refine cB0.mono ?_
          rintro e w' ⟨rfl, rfl⟩
          go_wp2_with fail
          refine cB1.mono ?_
          rintro e w' ⟨rfl, rfl⟩
          go_wp2_with fail
          refine c2.mono ?_
          rintro e w' ⟨rfl, rfl⟩
          go_wp2_with fail
          go_ret
          exact ⟨by rw [Hend.out, ← Hsz.out]; rfl, rfl⟩
      · have Hend := Lib.hid (trimL_tail s.data.toList hpl (by rw [← i0]; exact hb0))
        generalize trimL (s.data.toList.drop 1) = t1 at c1 Hend
        rw [hb0] at cB0
        clear hb0 i0 i1 hsz c2 cB1
        unfold maxLen at hs
        go_enter Tryd.func32, Tryd.ntmps32
        go_wp2_with fail
        refine cB0.mono ?_
        rintro e w' ⟨rfl, rfl⟩
        go_wp2_with fail
        refine c1.mono ?_
        rintro e w' ⟨rfl, rfl⟩
        go_wp2_with fail
        go_ret
        exact ⟨by rw [Hend.out]; rfl, rfl⟩
    · exact rtrim_any n s w (by omega) hs

theorem txt_iff (c : Int) (h0 : 0 ≤ c) (h1 : c ≤ 255) : txtI c = !((decide (c < 32) && c != 9) || c == 127) := by
  unfold txtI
  by_cases a : c = 9
  · subst a; decide
  · by_cases b : c = 127
    · subst b; decide
    · have a1 : (c == 9) = false := by simp [a]
      have b1 : (c == 127) = false := by simp [b]
      have a2 : (c != 9) = true := by simp [a]
      have b2 : (c != 127) = true := by simp [b]
      rw [a1, a2, b1, b2]
      by_cases d : c < 32
      · rw [decide_eq_true d, decide_eq_false (by omega)]; rfl
      · rw [decide_eq_false d, decide_eq_true (show 32 ≤ c by omega)]; rfl

set_option maxHeartbeats 1000000 in
theorem rtext_any (s : ByteArray) (w : World) (hs : s.size ≤ maxLen) :
    Calls Tryd.prog 34 #[.string s] w fun e w' => e = .returned (.bool (txtL s.data.toList)) ∧ w = w' := by
  have cM := rtrim_any s.size s w (Nat.le_refl _) hs
  unfold maxLen at hs
  go_enter Tryd.func34, Tryd.ntmps34
  go_wp2
  go_loop [3] (fun i => ∃ k : Nat, k ≤ s.size ∧ i = .int .i64 k ∧ Hid ((s.data.toList.take k).all (fun c => txtI c.toNat) = true)) (fun i => s.size - (intOf i).toNat)
  case atStart => exact ⟨0, Nat.zero_le _, rfl, Lib.hid rfl⟩
  case round =>
    obtain ⟨k, hk, rfl, Hall⟩ := hrel
    by_cases hlt : k < s.size
    · have hx := txt_iff (s[k].toNat : Int) (by omega) (by have := s[k].toNat_lt; omega)
      have Hf := Lib.hid (all_false_of (fun c => txtI c.toNat) s k hlt)
      have Ha := Lib.hid (all_snoc (fun c => txtI c.toNat) s k hlt)
      cases d1 : decide ((s[k].toNat : Int) < 32) <;> cases d2 : ((s[k].toNat : Int) != 9) <;> cases d3 : ((s[k].toNat : Int) == 127)
      all_goals
        rw [d1, d2, d3] at hx
        have Hx := Lib.hid hx
        clear hx
        go_wp2
        first
          | (go_ret
             exact ⟨by simp [txtL, Hf.out Hx.out], rfl⟩)
          | (go_round
             case rel => exact ⟨k + 1, by omega, by go_num, Lib.hid (by rw [Ha.out, Hx.out, Hall.out]; rfl)⟩
             case measure => simp [intOf]; omega)
    · have hk' : s.size ≤ k := by omega
      go_wp2_with (go_at_call 32; refine cM.mono ?_; rintro e w' ⟨rfl, rfl⟩)
      go_ret
      refine ⟨ret_eq (bool_eq ?_), rfl⟩
      rw [take_all s k hk'] at Hall
      rw [txtL, Hall.out, Bool.true_and, Lib.toList_data, Lib.toList_data, strB_data]

end Go.Proofs.YtfhpgobdnhlpcaaDoor
