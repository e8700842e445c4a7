/- The contracts of the document's own answers for package ascii (sculleryref01): blank, letter, Tchar. · The contracts of the document's own answers for package ascii (sculleryref01): Token, Trim. -/
import Derived.Test.YtjnagifolheloaaDoorRows
import Derived.Test.YtjnagifolheloaaDoorMTokP
import Derived.WalkKit
import Derived.WalkSpells
import Derived.WalkLawsBesides

namespace Go.Proofs.YtjnagifolheloaaDoor
open Go.RowKit

def blkI (c : Int) : Bool := c == 32 || c == 9
theorem blkI_of (c : UInt8) : blkI c.toNat = blkB c := by
  unfold blkI blkB
  have h1 : ((c.toNat : Int) == 32) = (c == 32) := byte_beq c 32
  have h2 : ((c.toNat : Int) == 9) = (c == 9) := byte_beq c 9
  rw [h1, h2]

set_option maxHeartbeats 400000 in
theorem rblank_any (c : Int) (w : World) :
    Calls Tryd.prog 55 #[.int .u8 c] w fun e w' => e = .returned (.bool (blkI c)) ∧ w = w' := by
  have hd : blkI c = (c == 32 || c == 9) := rfl
  rewrite [hd]
  clear hd
  cases h1 : (c == 32) <;> cases h2 : (c == 9)
  all_goals
    go_enter Tryd.func55, Tryd.ntmps55
    go_wp2
    go_ret
    exact ⟨rfl, rfl⟩

set_option maxHeartbeats 1000000 in
theorem rletter_any (c : Int) (w : World) :
    Calls Tryd.prog 70 #[.int .u8 c] w fun e w' => e = .returned (.bool (ltrI c || digI c)) ∧ w = w' := by
  have hd : (ltrI c || digI c) = ((decide (97 ≤ c) && decide (c ≤ 122)) || (decide (65 ≤ c) && decide (c ≤ 90)) || (decide (48 ≤ c) && decide (c ≤ 57))) := by
    simp only [ltrI, upI, lowI, digI]
    rw [Bool.or_comm (decide (65 ≤ c) && decide (c ≤ 90))]
  rewrite [hd]
  clear hd
  rcases (show c < 48 ∨ (48 ≤ c ∧ c ≤ 57) ∨ (57 < c ∧ c < 65) ∨ (65 ≤ c ∧ c ≤ 90) ∨ (90 < c ∧ c < 97) ∨ (97 ≤ c ∧ c ≤ 122) ∨ 122 < c by omega) with h | h | h | h | h | h | h
  all_goals
    have a1 : ∃ b, decide (97 ≤ c) = b := ⟨_, rfl⟩
    have a2 : ∃ b, decide (c ≤ 122) = b := ⟨_, rfl⟩
    have a3 : ∃ b, decide (65 ≤ c) = b := ⟨_, rfl⟩
    have a4 : ∃ b, decide (c ≤ 90) = b := ⟨_, rfl⟩
    have a5 : ∃ b, decide (48 ≤ c) = b := ⟨_, rfl⟩
    have a6 : ∃ b, decide (c ≤ 57) = b := ⟨_, rfl⟩
    obtain ⟨b1, h1⟩ := a1
    obtain ⟨b2, h2⟩ := a2
    obtain ⟨b3, h3⟩ := a3
    obtain ⟨b4, h4⟩ := a4
    obtain ⟨b5, h5⟩ := a5
    obtain ⟨b6, h6⟩ := a6
    cases b1 <;> cases b2 <;> cases b3 <;> cases b4 <;> cases b5 <;> cases b6 <;> first | (exfalso; simp only [decide_eq_true_eq, decide_eq_false_iff_not] at h1 h2 h3 h4 h5 h6; omega) | skip
    all_goals
      clear h
      go_enter Tryd.func70, Tryd.ntmps70
      go_wp2
      go_ret
      exact ⟨by rw [h1, h2, h3, h4, h5, h6] <;> rfl, rfl⟩

theorem mark_at (c : UInt8) (k : Nat) (h : k < 15) (e : marksL[k]'h = c) : markI c.toNat = true := by
  subst e
  have : ∀ j : Fin 15, markI (marksL[j.val]'j.isLt).toNat = true := by decide +kernel
  exact this ⟨k, h⟩

theorem mark_none (c : UInt8) (h : ∀ j (hj : j < 15), (marksL[j]'hj == c) = false) : markI c.toNat = false := by
  have hn : ∀ l : List UInt8, (∀ j (hj : j < l.length), (l[j] == c) = false) → Lib.indexByte l c = -1 := by
    intro l
    induction l with
    | nil => intro _; rfl
    | cons a r ih =>
      intro h
      have h0 := h 0 (by simp)
      have hr := ih (fun j hj => h (j + 1) (by simpa using hj))
      simp only [List.getElem_cons_zero] at h0
      rewrite [Lib.indexByte, h0, hr]
      rfl
  have e : (c.toNat : Int).toNat.toUInt8 = c := by simp
  unfold markI
  rewrite [e, hn marksL h]
  rfl

set_option maxHeartbeats 1000000 in
theorem rtchar_any (c : UInt8) (w : World) :
    Calls Tryd.prog 56 #[.int .u8 c.toNat] w fun e w' => e = .returned (.bool (tchI c.toNat)) ∧ w = w' := by
  have cL := rletter_any (c.toNat : Int) w
  go_enter Tryd.func56, Tryd.ntmps56
  go_wp2
  go_loop [4] (fun i => ∃ k : Nat, k ≤ 15 ∧ i = .int .i64 k ∧ Hid (∀ j (hj : j < 15), j < k → (marksL[j]'hj == c) = false)) (fun i => 15 - (intOf i).toNat)
  case atStart => exact ⟨0, by omega, rfl, Lib.hid (fun j _ h => by omega)⟩
  case round =>
    obtain ⟨k, hk, rfl, H⟩ := hrel
    by_cases hlt : k < 15
    · have hls : k < (⟨#[33, 35, 36, 37, 38, 39, 42, 43, 45, 46, 94, 95, 96, 124, 126]⟩ : ByteArray).size := hlt
      have hg : (⟨#[33, 35, 36, 37, 38, 39, 42, 43, 45, 46, 94, 95, 96, 124, 126]⟩ : ByteArray)[k]'hls = marksL[k]'hlt := rfl
      have B := byte_beq (marksL[k]'hlt) c
      cases he : (marksL[k]'hlt == c)
      · have hb : ((((⟨#[33, 35, 36, 37, 38, 39, 42, 43, 45, 46, 94, 95, 96, 124, 126]⟩ : ByteArray)[k]'hls).toNat : Int) == (c.toNat : Int)) = false := by rw [hg, B, he]
        have He := Lib.hid he
        clear hg B he
        go_wp2
        go_round
        case rel =>
          refine ⟨k + 1, by omega, by go_num, Lib.hid (fun j hj h => ?_)⟩
          by_cases e : j = k
          · subst e; exact He.out
          · exact H.out j hj (by omega)
        case measure => simp [intOf]; omega
      · have hb : ((((⟨#[33, 35, 36, 37, 38, 39, 42, 43, 45, 46, 94, 95, 96, 124, 126]⟩ : ByteArray)[k]'hls).toNat : Int) == (c.toNat : Int)) = true := by rw [hg, B, he]
        have Hm := Lib.hid (mark_at c k hlt (by simpa using he))
        clear hg B he
        go_wp2
        go_ret
        exact ⟨ret_eq (bool_eq (by rw [tchI, Hm.out, Bool.or_true])), rfl⟩
    · have Hm := Lib.hid (mark_none c (fun j hj => H.out j hj (by omega)))
      go_wp2_with (go_at_call 70; refine cL.mono ?_; rintro e w' ⟨rfl, rfl⟩)
      go_ret
      exact ⟨ret_eq (bool_eq (by rw [tchI, Hm.out, Bool.or_false])), rfl⟩

end Go.Proofs.YtjnagifolheloaaDoor

namespace Go.Proofs.YtjnagifolheloaaDoor
open Go.RowKit

set_option maxHeartbeats 1000000 in
theorem rtoken_any (s : ByteArray) (w : World) (hs : s.size ≤ maxLen) :
    Calls Tryd.prog 39 #[.string s] w fun e w' => e = .returned (.bool (tokL s.data.toList)) ∧ w = w' := by
  unfold maxLen at hs
  go_enter Tryd.func39, Tryd.ntmps39
  go_wp2
  go_loop [3] (fun i => ∃ k : Nat, k ≤ s.size ∧ i = .int .i64 k ∧ Hid ((s.data.toList.take k).all (fun c => tchI c.toNat) = true)) (fun i => s.size - (intOf i).toNat)
  case atStart => exact ⟨0, Nat.zero_le _, rfl, Lib.hid rfl⟩
  case round =>
    obtain ⟨k, hk, rfl, Hall⟩ := hrel
    by_cases hlt : k < s.size
    · have cT := rtchar_any s[k] w
      cases hd : tchI (s[k].toNat : Int)
      · have Hf := Lib.hid (all_false_of (fun c => tchI c.toNat) s k hlt hd)
        rw [hd] at cT
        clear hd
        go_wp2_with (go_at_call 56; refine cT.mono ?_; rintro e w' ⟨rfl, rfl⟩)
        go_ret
        exact ⟨by simp [tokL, Hf.out], rfl⟩
      · have Ha := Lib.hid (all_snoc (fun c => tchI c.toNat) s k hlt)
        rw [hd] at cT
        have Hd := Lib.hid hd
        clear hd
        go_wp2_with (go_at_call 56; refine cT.mono ?_; rintro e w' ⟨rfl, rfl⟩)
        go_round
        case rel => exact ⟨k + 1, by omega, by go_num, Lib.hid (by rewrite [Ha.out, Hd.out, Bool.and_true]; exact Hall.out)⟩
        case measure => simp [intOf]; omega
    · have hk' : s.size ≤ k := by omega
      have Hp : Hid (decide (0 < s.size) = !s.data.toList.isEmpty) := Lib.hid (by rewrite [Lib.size_eq]; exact pos_of _)
      go_wp2
      go_ret
      refine ⟨ret_eq (bool_eq ?_), rfl⟩
      rw [take_all s k hk'] at Hall
      rw [tokL, Hall.out, Bool.true_and, ← Hp.out]

theorem trimL_tail (l : List UInt8) (h : 0 < l.length) (hb : blkB l[0] = true) : trimL l = trimL (l.drop 1) := by
  cases l with
  | nil => simp at h
  | cons c r =>
    simp only [List.getElem_cons_zero] at hb
    rewrite [trimL, trimL, List.drop_one, List.tail_cons]
    have e : tlL (c :: r) = tlL r := by rw [tlL, List.dropWhile_cons_of_pos hb] <;> rfl
    rw [e]

theorem tlL_stop (l : List UInt8) (h : 0 < l.length) (hb : blkB l[0] = false) : tlL l = l := by
  cases l with
  | nil => simp at h
  | cons c r =>
    simp only [List.getElem_cons_zero] at hb
    rw [tlL, List.dropWhile_cons_of_neg (by rewrite [hb]; decide)]

theorem trimL_init (l : List UInt8) (h : 0 < l.length) (hb : blkB l[0] = false) (hl : blkB (l[l.length - 1]'(by omega)) = true) : trimL l = trimL (l.take (l.length - 1)) := by
  have h2 : 1 < l.length := by
    rcases Nat.lt_or_ge 1 l.length with h' | h'
    · exact h'
    · have e : l.length - 1 = 0 := by omega
      simp only [e] at hl
      rw [hb] at hl
      cases hl
  have hb2 : blkB ((l.take (l.length - 1))[0]'(by rewrite [List.length_take]; omega)) = false := by simpa using hb
  rewrite [trimL, trimL, tlL_stop l h hb, tlL_stop (l.take (l.length - 1)) (by rewrite [List.length_take]; omega) hb2]
  have := trL_take l l.length h (Nat.le_refl _)
  rw [List.take_length, getD_of_lt _ _ (by omega), hl, if_pos rfl] at this
  exact this

theorem trimL_done (l : List UInt8) (h : 0 < l.length) (hb : blkB l[0] = false) (hl : blkB (l[l.length - 1]'(by omega)) = false) : trimL l = l := by
  rewrite [trimL, tlL_stop l h hb]
  have := trL_take l l.length h (Nat.le_refl _)
  rw [List.take_length, getD_of_lt _ _ (by omega), hl, if_neg (by decide)] at this
  exact this

set_option maxHeartbeats 1000000 in
theorem rtrim_any : ∀ (n : Nat) (s : ByteArray) (w : World), s.size ≤ n → s.size ≤ maxLen →
    Calls Tryd.prog 37 #[.string s] w fun e w' => e = .returned (.string (strB (trimL s.data.toList))) ∧ w = w'
  | 0, s, w, hn, hs => by
    have hz : s.size = 0 := by omega
    have he : s.data.toList = [] := List.eq_nil_of_length_eq_zero (by rewrite [← Lib.size_eq]; exact hz)
    have Hend : Hid (strB (trimL s.data.toList) = s) := Lib.hid (by rw [he, show trimL [] = [] from rfl, ← he, strB_of])
    clear he
    go_enter Tryd.func37, Tryd.ntmps37
    go_wp2
    go_ret
    exact ⟨by rw [Hend.out] <;> rfl, rfl⟩
  | n + 1, s, w, hn, hs => by
    have hsz := Lib.size_eq s
    by_cases hp : 0 < s.size
    · have hpl : 0 < s.data.toList.length := by omega
      have hlast : s.size - 1 < s.size := by omega
      have cB0 := rblank_any ((s[0]'hp).toNat : Int) w
      rw [blkI_of] at cB0
      have cB1 := rblank_any ((s[s.size - 1]'hlast).toNat : Int) w
      rw [blkI_of] at cB1
      have i0 : s[0]'hp = s.data.toList[0]'hpl := rfl
      have i1 : s[s.size - 1]'hlast = s.data.toList[s.data.toList.length - 1]'(by omega) := by
        simp only [← hsz]; rfl
      have x1 : (s.extract 1 s.size).data.toList = s.data.toList.drop 1 := Lib.extract_to_end s 1
      have x2 : (s.extract 0 (s.size - 1)).data.toList = s.data.toList.take (s.size - 1) := extract_take s _
      have z1 : (s.extract 1 s.size).size ≤ n := by rewrite [Lib.size_eq, x1, List.length_drop]; omega
      have z2 : (s.extract 0 (s.size - 1)).size ≤ n := by rewrite [Lib.size_eq, x2, List.length_take]; omega
      have c1 := rtrim_any n (s.extract 1 s.size) w z1 (by unfold maxLen at hs ⊢; rewrite [Lib.size_eq, x1, List.length_drop]; omega)
      have c2 := rtrim_any n (s.extract 0 (s.size - 1)) w z2 (by unfold maxLen at hs ⊢; rewrite [Lib.size_eq, x2, List.length_take]; omega)
      rw [x1] at c1
      rw [x2] at c2
      clear x1 x2 z1 z2
      cases hb0 : blkB (s[0]'hp)
      · cases hb1 : blkB (s[s.size - 1]'hlast)
        · have Hend := Lib.hid (trimL_done s.data.toList hpl (by rewrite [← i0]; exact hb0) (by rewrite [← i1]; exact hb1))
          rw [hb0] at cB0
          rw [hb1] at cB1
          clear hb0 hb1 i0 i1 hsz c1 c2
          unfold maxLen at hs
          go_enter Tryd.func37, Tryd.ntmps37
          go_wp2_with fail
          refine cB0.mono ?_
          rintro e w' ⟨rfl, rfl⟩
          go_wp2_with fail
          refine cB1.mono ?_
          rintro e w' ⟨rfl, rfl⟩
          go_wp2_with fail
          go_ret
          exact ⟨by rw [Hend.out, strB_of] <;> rfl, rfl⟩
        · have Hend := Lib.hid (trimL_init s.data.toList hpl (by rewrite [← i0]; exact hb0) (by rewrite [← i1]; exact hb1))
          rw [hb0] at cB0
          rw [hb1] at cB1
          have Hsz := Lib.hid hsz
          clear hb0 hb1 i0 i1 hsz c1
          unfold maxLen at hs
          go_enter Tryd.func37, Tryd.ntmps37
          go_wp2_with fail
          refine cB0.mono ?_
          rintro e w' ⟨rfl, rfl⟩
          go_wp2_with fail
          refine cB1.mono ?_
          rintro e w' ⟨rfl, rfl⟩
          go_wp2_with fail
          refine c2.mono ?_
          rintro e w' ⟨rfl, rfl⟩
          go_wp2_with fail
          go_ret
          exact ⟨by rw [Hend.out, ← Hsz.out] <;> rfl, rfl⟩
      · have Hend := Lib.hid (trimL_tail s.data.toList hpl (by rewrite [← i0]; exact hb0))
        generalize trimL (s.data.toList.drop 1) = t1 at c1 Hend
        rw [hb0] at cB0
        clear hb0 i0 i1 hsz c2 cB1
        unfold maxLen at hs
        go_enter Tryd.func37, Tryd.ntmps37
        go_wp2_with fail
        refine cB0.mono ?_
        rintro e w' ⟨rfl, rfl⟩
        go_wp2_with fail
        refine c1.mono ?_
        rintro e w' ⟨rfl, rfl⟩
        go_wp2_with fail
        go_ret
        exact ⟨by rw [Hend.out] <;> rfl, rfl⟩
    · exact rtrim_any n s w (by omega) hs

theorem txt_iff (c : Int) (h0 : 0 ≤ c) (h1 : c ≤ 255) : txtI c = !((decide (c < 32) && c != 9) || c == 127) := by
  unfold txtI
  by_cases a : c = 9
  · subst a; decide
  · by_cases b : c = 127
    · subst b; decide
    · have a1 : (c == 9) = false := by simp [a]
      have b1 : (c == 127) = false := by simp [b]
      have a2 : (c != 9) = true := by simp [a]
      have b2 : (c != 127) = true := by simp [b]
      rewrite [a1, a2, b1, b2]
      by_cases d : c < 32
      · rw [decide_eq_true d, decide_eq_false (by omega)] <;> rfl
      · rw [decide_eq_false d, decide_eq_true (show 32 ≤ c by omega)] <;> rfl

end Go.Proofs.YtjnagifolheloaaDoor
