/- The contracts of the document's own answers for package ascii (sculleryref01): blank, letter, Tchar. · The contracts of the document's own answers for package ascii (sculleryref01): Token, Trim, Text. · The contracts of the document's own answers for package ascii (sculleryref01): Lower. · The contract of the document's own Digits (sculleryref01). -/
import Derived.Test.YthbfcamfapgodaaGreatDoorGB
import Derived.Test.YthbfcamfapgodaaGreatDoorGA
import Derived.Laws.BytesArg

namespace Go.Proofs.YthbfcamfapgodaaGreatDoor
open Go.RowKit

def blkI (c : Int) : Bool := c == 32 || c == 9
theorem blkI_of (c : UInt8) : blkI c.toNat = blkB c := by
  unfold blkI blkB
  have h1 : ((c.toNat : Int) == 32) = (c == 32) := byte_beq c 32
  have h2 : ((c.toNat : Int) == 9) = (c == 9) := byte_beq c 9
  rw [h1, h2]

set_option maxHeartbeats 400000 in
theorem rblank_any (c : Int) (w : World) :
    Calls Tryz.prog 84 #[.int .u8 c] w fun e w' => e = .returned (.bool (blkI c)) ∧ w = w' := by
  have hd : blkI c = (c == 32 || c == 9) := rfl
  rewrite [hd]
  clear hd
  cases h1 : (c == 32) <;> cases h2 : (c == 9)
  all_goals
    go_enter Tryz.func84, Tryz.ntmps84
    go_wp2
    go_ret
    exact ⟨rfl, rfl⟩

set_option maxHeartbeats 1000000 in
theorem rletter_any (c : Int) (w : World) :
    Calls Tryz.prog 83 #[.int .u8 c] w fun e w' => e = .returned (.bool (ltrI c || digI c)) ∧ w = w' := by
  have hd : (ltrI c || digI c) = ((decide (97 ≤ c) && decide (c ≤ 122)) || (decide (65 ≤ c) && decide (c ≤ 90)) || (decide (48 ≤ c) && decide (c ≤ 57))) := by
    simp only [ltrI, upI, lowI, digI]
    rw [Bool.or_comm (decide (65 ≤ c) && decide (c ≤ 90))]
  rewrite [hd]
  clear hd
  rcases (show c < 48 ∨ (48 ≤ c ∧ c ≤ 57) ∨ (57 < c ∧ c < 65) ∨ (65 ≤ c ∧ c ≤ 90) ∨ (90 < c ∧ c < 97) ∨ (97 ≤ c ∧ c ≤ 122) ∨ 122 < c by omega) with h | h | h | h | h | h | h
  all_goals
    have a1 : ∃ b, decide (97 ≤ c) = b := ⟨_, rfl⟩
    have a2 : ∃ b, decide (c ≤ 122) = b := ⟨_, rfl⟩
    have a3 : ∃ b, decide (65 ≤ c) = b := ⟨_, rfl⟩
    have a4 : ∃ b, decide (c ≤ 90) = b := ⟨_, rfl⟩
    have a5 : ∃ b, decide (48 ≤ c) = b := ⟨_, rfl⟩
    have a6 : ∃ b, decide (c ≤ 57) = b := ⟨_, rfl⟩
    obtain ⟨b1, h1⟩ := a1
    obtain ⟨b2, h2⟩ := a2
    obtain ⟨b3, h3⟩ := a3
    obtain ⟨b4, h4⟩ := a4
    obtain ⟨b5, h5⟩ := a5
    obtain ⟨b6, h6⟩ := a6
    cases b1 <;> cases b2 <;> cases b3 <;> cases b4 <;> cases b5 <;> cases b6 <;> first | (exfalso; simp only [decide_eq_true_eq, decide_eq_false_iff_not] at h1 h2 h3 h4 h5 h6; omega) | skip
    all_goals
      clear h
      go_enter Tryz.func83, Tryz.ntmps83
      go_wp2
      go_ret
      exact ⟨by rw [h1, h2, h3, h4, h5, h6] <;> rfl, rfl⟩

theorem mark_at (c : UInt8) (k : Nat) (h : k < 15) (e : marksL[k]'h = c) : markI c.toNat = true := by
  subst e
  have : ∀ j : Fin 15, markI (marksL[j.val]'j.isLt).toNat = true := by decide +kernel
  exact this ⟨k, h⟩

theorem mark_none (c : UInt8) (h : ∀ j (hj : j < 15), (marksL[j]'hj == c) = false) : markI c.toNat = false := by
  have hn : ∀ l : List UInt8, (∀ j (hj : j < l.length), (l[j] == c) = false) → Lib.indexByte l c = -1 := by
    intro l
    induction l with
    | nil => intro _; rfl
    | cons a r ih =>
      intro h
      have h0 := h 0 (by simp)
      have hr := ih (fun j hj => h (j + 1) (by simpa using hj))
      simp only [List.getElem_cons_zero] at h0
      rewrite [Lib.indexByte, h0, hr]
      rfl
  have e : (c.toNat : Int).toNat.toUInt8 = c := by simp
  unfold markI
  rewrite [e, hn marksL h]
  rfl

set_option maxHeartbeats 1000000 in
theorem rtchar_any (c : UInt8) (w : World) :
    Calls Tryz.prog 61 #[.int .u8 c.toNat] w fun e w' => e = .returned (.bool (tchI c.toNat)) ∧ w = w' := by
  have cL := rletter_any (c.toNat : Int) w
  go_enter Tryz.func61, Tryz.ntmps61
  go_wp2
  go_loop [4] (fun i => ∃ k : Nat, k ≤ 15 ∧ i = .int .i64 k ∧ Hid (∀ j (hj : j < 15), j < k → (marksL[j]'hj == c) = false)) (fun i => 15 - (intOf i).toNat)
  case atStart => exact ⟨0, by omega, rfl, Lib.hid (fun j _ h => by omega)⟩
  case round =>
    obtain ⟨k, hk, rfl, H⟩ := hrel
    by_cases hlt : k < 15
    · have hls : k < (⟨#[33, 35, 36, 37, 38, 39, 42, 43, 45, 46, 94, 95, 96, 124, 126]⟩ : ByteArray).size := hlt
      have hg : (⟨#[33, 35, 36, 37, 38, 39, 42, 43, 45, 46, 94, 95, 96, 124, 126]⟩ : ByteArray)[k]'hls = marksL[k]'hlt := rfl
      have B := byte_beq (marksL[k]'hlt) c
      cases he : (marksL[k]'hlt == c)
      · have hb : ((((⟨#[33, 35, 36, 37, 38, 39, 42, 43, 45, 46, 94, 95, 96, 124, 126]⟩ : ByteArray)[k]'hls).toNat : Int) == (c.toNat : Int)) = false := by rw [hg, B, he]
        have He := Lib.hid he
        clear hg B he
        go_wp2
        go_round
        case rel =>
          refine ⟨k + 1, by omega, by go_num, Lib.hid (fun j hj h => ?_)⟩
          by_cases e : j = k
          · subst e; exact He.out
          · exact H.out j hj (by omega)
        case measure => simp [intOf]; omega
      · have hb : ((((⟨#[33, 35, 36, 37, 38, 39, 42, 43, 45, 46, 94, 95, 96, 124, 126]⟩ : ByteArray)[k]'hls).toNat : Int) == (c.toNat : Int)) = true := by rw [hg, B, he]
        have Hm := Lib.hid (mark_at c k hlt (by simpa using he))
        clear hg B he
        go_wp2
        go_ret
        exact ⟨ret_eq (bool_eq (by rw [tchI, Hm.out, Bool.or_true])), rfl⟩
    · have Hm := Lib.hid (mark_none c (fun j hj => H.out j hj (by omega)))
      go_wp2_with (go_at_call 83; refine cL.mono ?_; rintro e w' ⟨rfl, rfl⟩)
      go_ret
      exact ⟨ret_eq (bool_eq (by rw [tchI, Hm.out, Bool.or_false])), rfl⟩

end Go.Proofs.YthbfcamfapgodaaGreatDoor

namespace Go.Proofs.YthbfcamfapgodaaGreatDoor
open Go.RowKit

theorem pos_of (l : List UInt8) : decide (0 < l.length) = !l.isEmpty := by cases l <;> rfl

set_option maxHeartbeats 1000000 in
theorem rtoken_any (s : ByteArray) (w : World) (hs : s.size ≤ maxLen) :
    Calls Tryz.prog 31 #[.string s] w fun e w' => e = .returned (.bool (tokL s.data.toList)) ∧ w = w' := by
  unfold maxLen at hs
  go_enter Tryz.func31, Tryz.ntmps31
  go_wp2
  go_loop [3] (fun i => ∃ k : Nat, k ≤ s.size ∧ i = .int .i64 k ∧ Hid ((s.data.toList.take k).all (fun c => tchI c.toNat) = true)) (fun i => s.size - (intOf i).toNat)
  case atStart => exact ⟨0, Nat.zero_le _, rfl, Lib.hid rfl⟩
  case round =>
    obtain ⟨k, hk, rfl, Hall⟩ := hrel
    by_cases hlt : k < s.size
    · have cT := rtchar_any s[k] w
      cases hd : tchI (s[k].toNat : Int)
      · have Hf := Lib.hid (all_false_of (fun c => tchI c.toNat) s k hlt hd)
        rw [hd] at cT
        clear hd
        go_wp2_with (go_at_call 61; refine cT.mono ?_; rintro e w' ⟨rfl, rfl⟩)
        go_ret
        exact ⟨by simp [tokL, Hf.out], rfl⟩
      · have Ha := Lib.hid (all_snoc (fun c => tchI c.toNat) s k hlt)
        rw [hd] at cT
        have Hd := Lib.hid hd
        clear hd
        go_wp2_with (go_at_call 61; refine cT.mono ?_; rintro e w' ⟨rfl, rfl⟩)
        go_round
        case rel => exact ⟨k + 1, by omega, by go_num, Lib.hid (by rewrite [Ha.out, Hd.out, Bool.and_true]; exact Hall.out)⟩
        case measure => simp [intOf]; omega
    · have hk' : s.size ≤ k := by omega
      have Hp : Hid (decide (0 < s.size) = !s.data.toList.isEmpty) := Lib.hid (by rewrite [Lib.size_eq]; exact pos_of _)
      go_wp2
      go_ret
      refine ⟨ret_eq (bool_eq ?_), rfl⟩
      rw [take_all s k hk'] at Hall
      rw [tokL, Hall.out, Bool.true_and, ← Hp.out]

theorem trimL_tail (l : List UInt8) (h : 0 < l.length) (hb : blkB l[0] = true) : trimL l = trimL (l.drop 1) := by
  cases l with
  | nil => simp at h
  | cons c r =>
    simp only [List.getElem_cons_zero] at hb
    rewrite [trimL, trimL, List.drop_one, List.tail_cons]
    have e : tlL (c :: r) = tlL r := by rw [tlL, List.dropWhile_cons_of_pos hb] <;> rfl
    rw [e]

theorem tlL_stop (l : List UInt8) (h : 0 < l.length) (hb : blkB l[0] = false) : tlL l = l := by
  cases l with
  | nil => simp at h
  | cons c r =>
    simp only [List.getElem_cons_zero] at hb
    rw [tlL, List.dropWhile_cons_of_neg (by rewrite [hb]; decide)]

theorem trimL_init (l : List UInt8) (h : 0 < l.length) (hb : blkB l[0] = false) (hl : blkB (l[l.length - 1]'(by omega)) = true) : trimL l = trimL (l.take (l.length - 1)) := by
  have h2 : 1 < l.length := by
    rcases Nat.lt_or_ge 1 l.length with h' | h'
    · exact h'
    · have e : l.length - 1 = 0 := by omega
      simp only [e] at hl
      rw [hb] at hl
      cases hl
  have hb2 : blkB ((l.take (l.length - 1))[0]'(by rewrite [List.length_take]; omega)) = false := by simpa using hb
  rewrite [trimL, trimL, tlL_stop l h hb, tlL_stop (l.take (l.length - 1)) (by rewrite [List.length_take]; omega) hb2]
  have := trL_take l l.length h (Nat.le_refl _)
  rw [List.take_length, getD_of_lt _ _ (by omega), hl, if_pos rfl] at this
  exact this

theorem trimL_done (l : List UInt8) (h : 0 < l.length) (hb : blkB l[0] = false) (hl : blkB (l[l.length - 1]'(by omega)) = false) : trimL l = l := by
  rewrite [trimL, tlL_stop l h hb]
  have := trL_take l l.length h (Nat.le_refl _)
  rw [List.take_length, getD_of_lt _ _ (by omega), hl, if_neg (by decide)] at this
  exact this

set_option maxHeartbeats 1000000 in
theorem rtrim_any : ∀ (n : Nat) (s : ByteArray) (w : World), s.size ≤ n → s.size ≤ maxLen →
    Calls Tryz.prog 62 #[.string s] w fun e w' => e = .returned (.string (strB (trimL s.data.toList))) ∧ w = w'
  | 0, s, w, hn, hs => by
    have hz : s.size = 0 := by omega
    have he : s.data.toList = [] := List.eq_nil_of_length_eq_zero (by rewrite [← Lib.size_eq]; exact hz)
    have Hend : Hid (strB (trimL s.data.toList) = s) := Lib.hid (by rw [he, show trimL [] = [] from rfl, ← he, strB_of])
    clear he
    go_enter Tryz.func62, Tryz.ntmps62
    go_wp2
    go_ret
    exact ⟨by rw [Hend.out] <;> rfl, rfl⟩
  | n + 1, s, w, hn, hs => by
    have hsz := Lib.size_eq s
    by_cases hp : 0 < s.size
    · have hpl : 0 < s.data.toList.length := by omega
      have hlast : s.size - 1 < s.size := by omega
      have cB0 := rblank_any ((s[0]'hp).toNat : Int) w
      rw [blkI_of] at cB0
      have cB1 := rblank_any ((s[s.size - 1]'hlast).toNat : Int) w
      rw [blkI_of] at cB1
      have i0 : s[0]'hp = s.data.toList[0]'hpl := rfl
      have i1 : s[s.size - 1]'hlast = s.data.toList[s.data.toList.length - 1]'(by omega) := by
        simp only [← hsz]; rfl
      have x1 : (s.extract 1 s.size).data.toList = s.data.toList.drop 1 := Lib.extract_to_end s 1
      have x2 : (s.extract 0 (s.size - 1)).data.toList = s.data.toList.take (s.size - 1) := extract_take s _
      have z1 : (s.extract 1 s.size).size ≤ n := by rewrite [Lib.size_eq, x1, List.length_drop]; omega
      have z2 : (s.extract 0 (s.size - 1)).size ≤ n := by rewrite [Lib.size_eq, x2, List.length_take]; omega
      have c1 := rtrim_any n (s.extract 1 s.size) w z1 (by unfold maxLen at hs ⊢; rewrite [Lib.size_eq, x1, List.length_drop]; omega)
      have c2 := rtrim_any n (s.extract 0 (s.size - 1)) w z2 (by unfold maxLen at hs ⊢; rewrite [Lib.size_eq, x2, List.length_take]; omega)
      rw [x1] at c1
      rw [x2] at c2
      clear x1 x2 z1 z2
      cases hb0 : blkB (s[0]'hp)
      · cases hb1 : blkB (s[s.size - 1]'hlast)
        · have Hend := Lib.hid (trimL_done s.data.toList hpl (by rewrite [← i0]; exact hb0) (by rewrite [← i1]; exact hb1))
          rw [hb0] at cB0
          rw [hb1] at cB1
          clear hb0 hb1 i0 i1 hsz c1 c2
          unfold maxLen at hs
          go_enter Tryz.func62, Tryz.ntmps62
          go_wp2_with fail
          refine cB0.mono ?_
          rintro e w' ⟨rfl, rfl⟩
          go_wp2_with fail
          refine cB1.mono ?_
          rintro e w' ⟨rfl, rfl⟩
          go_wp2_with fail
          go_ret
          exact ⟨by rw [Hend.out, strB_of] <;> rfl, rfl⟩
        · have Hend := Lib.hid (trimL_init s.data.toList hpl (by rewrite [← i0]; exact hb0) (by rewrite [← i1]; exact hb1))
          rw [hb0] at cB0
          rw [hb1] at cB1
          have Hsz := Lib.hid hsz
          clear hb0 hb1 i0 i1 hsz c1
          unfold maxLen at hs
          go_enter Tryz.func62, Tryz.ntmps62
          go_wp2_with fail
          refine cB0.mono ?_
          rintro e w' ⟨rfl, rfl⟩
          go_wp2_with fail
          refine cB1.mono ?_
          rintro e w' ⟨rfl, rfl⟩
          go_wp2_with fail
          refine c2.mono ?_
          rintro e w' ⟨rfl, rfl⟩
          go_wp2_with fail
          go_ret
          exact ⟨by rw [Hend.out, ← Hsz.out] <;> rfl, rfl⟩
      · have Hend := Lib.hid (trimL_tail s.data.toList hpl (by rewrite [← i0]; exact hb0))
        generalize trimL (s.data.toList.drop 1) = t1 at c1 Hend
        rw [hb0] at cB0
        clear hb0 i0 i1 hsz c2 cB1
        unfold maxLen at hs
        go_enter Tryz.func62, Tryz.ntmps62
        go_wp2_with fail
        refine cB0.mono ?_
        rintro e w' ⟨rfl, rfl⟩
        go_wp2_with fail
        refine c1.mono ?_
        rintro e w' ⟨rfl, rfl⟩
        go_wp2_with fail
        go_ret
        exact ⟨by rw [Hend.out] <;> rfl, rfl⟩
    · exact rtrim_any n s w (by omega) hs

theorem txt_iff (c : Int) (h0 : 0 ≤ c) (h1 : c ≤ 255) : txtI c = !((decide (c < 32) && c != 9) || c == 127) := by
  unfold txtI
  by_cases a : c = 9
  · subst a; decide
  · by_cases b : c = 127
    · subst b; decide
    · have a1 : (c == 9) = false := by simp [a]
      have b1 : (c == 127) = false := by simp [b]
      have a2 : (c != 9) = true := by simp [a]
      have b2 : (c != 127) = true := by simp [b]
      rewrite [a1, a2, b1, b2]
      by_cases d : c < 32
      · rw [decide_eq_true d, decide_eq_false (by omega)] <;> rfl
      · rw [decide_eq_false d, decide_eq_true (show 32 ≤ c by omega)] <;> rfl

set_option maxHeartbeats 1000000 in
theorem rtext_any (s : ByteArray) (w : World) (hs : s.size ≤ maxLen) :
    Calls Tryz.prog 40 #[.string s] w fun e w' => e = .returned (.bool (txtL s.data.toList)) ∧ w = w' := by
  have cM := rtrim_any s.size s w (Nat.le_refl _) hs
  unfold maxLen at hs
  go_enter Tryz.func40, Tryz.ntmps40
  go_wp2
  go_loop [3] (fun i => ∃ k : Nat, k ≤ s.size ∧ i = .int .i64 k ∧ Hid ((s.data.toList.take k).all (fun c => txtI c.toNat) = true)) (fun i => s.size - (intOf i).toNat)
  case atStart => exact ⟨0, Nat.zero_le _, rfl, Lib.hid rfl⟩
  case round =>
    obtain ⟨k, hk, rfl, Hall⟩ := hrel
    by_cases hlt : k < s.size
    · have hx := txt_iff (s[k].toNat : Int) (by omega) (by have := s[k].toNat_lt; omega)
      have Hf := Lib.hid (all_false_of (fun c => txtI c.toNat) s k hlt)
      have Ha := Lib.hid (all_snoc (fun c => txtI c.toNat) s k hlt)
      cases d1 : decide ((s[k].toNat : Int) < 32) <;> cases d2 : ((s[k].toNat : Int) != 9) <;> cases d3 : ((s[k].toNat : Int) == 127)
      all_goals
        rw [d1, d2, d3] at hx
        have Hx := Lib.hid hx
        clear hx
        go_wp2
        first
          | (go_ret
             exact ⟨by simp [txtL, Hf.out Hx.out], rfl⟩)
          | (go_round
             case rel => exact ⟨k + 1, by omega, by go_num, Lib.hid (by rw [Ha.out, Hx.out, Hall.out] <;> rfl)⟩
             case measure => simp [intOf]; omega)
    · have hk' : s.size ≤ k := by omega
      go_wp2_with (go_at_call 62; refine cM.mono ?_; rintro e w' ⟨rfl, rfl⟩)
      go_ret
      refine ⟨ret_eq (bool_eq ?_), rfl⟩
      rw [take_all s k hk'] at Hall
      rw [txtL, Hall.out, Bool.true_and, Lib.toList_data, Lib.toList_data, strB_data]

end Go.Proofs.YthbfcamfapgodaaGreatDoor

namespace Go.Proofs.YthbfcamfapgodaaGreatDoor
open Go.RowKit

theorem info_byte : (Tryz.prog.info? 5).map (fun i => (i.zero, i.size, i.bytes)) = some (some (.int .u8 0), 1, 1) := by kernel_rfl

theorem lowB_up32 (c : UInt8) (h : upI c.toNat = true) : ((lowB c).toNat : Int) = (c.toNat : Int) + 32 := by
  rewrite [lowB_up c h]; omega

theorem lowL_snoc (s : ByteArray) (k : Nat) (h : k < s.size) : lowL (s.data.toList.take (k + 1)) = lowL (s.data.toList.take k) ++ [lowB s[k]] := by
  rewrite [take_snoc s k h]; simp [lowL]

set_option maxHeartbeats 2000000 in
theorem rlower_any (s : ByteArray) (w : World) (hs : s.size ≤ 1099511627776) :
    Calls Tryz.prog 63 #[.string s] w fun e w' => e = .returned (.string (strB (lowL s.data.toList))) ∧ Below w.heap.size w w' := by
  obtain ⟨i0, hi, hz0, hz1, hz2⟩ := info_parts info_byte
  go_enter Tryz.func63, Tryz.ntmps63
  go_wp2_with fail
  go_loopw [3, 4] (fun v i wr => ∃ k : Nat, k ≤ s.size ∧ i = .int .i64 k ∧ wr.ownsRow w.heap.size 5 1 v k ((lowL (s.data.toList.take k)).map bytV) ∧ Below w.heap.size w wr) (fun _ i _ => s.size - (intOf i).toNat)
  case atStart => exact ⟨0, by omega, rfl, World.ownsRow_made _ _ _ (Nat.le_refl _) (by decide) rfl, (Below.refl _ _).alloc (Nat.le_refl _) _⟩
  case round =>
    obtain ⟨k, hk, rfl, hown, hb⟩ := hrel
    by_cases hlt : k < s.size
    · have Hsn := Lib.hid (lowL_snoc s k hlt)
      cases d1 : decide (65 ≤ (s[k].toNat : Int)) <;> cases d2 : decide ((s[k].toNat : Int) ≤ 90)
      · have Hlow := Lib.hid (lowB_not s[k] (by rw [upI, d1, d2] <;> rfl))
        go_wp2_with (at_builtin; refine wpList_append_own _ rfl _ _ 24 rfl w.heap.size 5 i0 (.int .u8 0) 1 1 Tryz.underlying24 hi hz0 hz1 hz2 rfl (by decide) _ _ _ rfl (hown.alloc _) ⟨_, 0, none⟩ 1 1 [.int .u8 (s[k].toNat : Int)] rfl rfl (cell_one_new _ _ _) (by intro u hu; simp at hu; subst hu; rfl) (by unfold maxLen; omega) (by omega) (by have := hb.size; simp; omega) ?_; intro v' w1 hown' hgrow _)
        go_roundw
        case rel =>
          refine ⟨k + 1, by omega, by go_num, ?_, (hb.alloc hb.size _).grown hgrow (by have := hb.size; simp; omega) (fun k e => (World.ownsRow.lt hown k e).1)⟩
          rewrite [Hsn.out, List.map_append, List.map_singleton, bytV, Hlow.out]
          exact hown'
        case measure => simp [intOf]; omega
      · have Hlow := Lib.hid (lowB_not s[k] (by rw [upI, d1, d2] <;> rfl))
        go_wp2_with (at_builtin; refine wpList_append_own _ rfl _ _ 24 rfl w.heap.size 5 i0 (.int .u8 0) 1 1 Tryz.underlying24 hi hz0 hz1 hz2 rfl (by decide) _ _ _ rfl (hown.alloc _) ⟨_, 0, none⟩ 1 1 [.int .u8 (s[k].toNat : Int)] rfl rfl (cell_one_new _ _ _) (by intro u hu; simp at hu; subst hu; rfl) (by unfold maxLen; omega) (by omega) (by have := hb.size; simp; omega) ?_; intro v' w1 hown' hgrow _)
        go_roundw
        case rel =>
          refine ⟨k + 1, by omega, by go_num, ?_, (hb.alloc hb.size _).grown hgrow (by have := hb.size; simp; omega) (fun k e => (World.ownsRow.lt hown k e).1)⟩
          rewrite [Hsn.out, List.map_append, List.map_singleton, bytV, Hlow.out]
          exact hown'
        case measure => simp [intOf]; omega
      · have Hlow := Lib.hid (lowB_not s[k] (by rw [upI, d1, d2] <;> rfl))
        go_wp2_with (at_builtin; refine wpList_append_own _ rfl _ _ 24 rfl w.heap.size 5 i0 (.int .u8 0) 1 1 Tryz.underlying24 hi hz0 hz1 hz2 rfl (by decide) _ _ _ rfl (hown.alloc _) ⟨_, 0, none⟩ 1 1 [.int .u8 (s[k].toNat : Int)] rfl rfl (cell_one_new _ _ _) (by intro u hu; simp at hu; subst hu; rfl) (by unfold maxLen; omega) (by omega) (by have := hb.size; simp; omega) ?_; intro v' w1 hown' hgrow _)
        go_roundw
        case rel =>
          refine ⟨k + 1, by omega, by go_num, ?_, (hb.alloc hb.size _).grown hgrow (by have := hb.size; simp; omega) (fun k e => (World.ownsRow.lt hown k e).1)⟩
          rewrite [Hsn.out, List.map_append, List.map_singleton, bytV, Hlow.out]
          exact hown'
        case measure => simp [intOf]; omega
      · have hu : upI (s[k].toNat : Int) = true := by rw [upI, d1, d2] <;> rfl
        have Hlow := Lib.hid (lowB_up32 s[k] hu)
        obtain ⟨h65, h90⟩ := (upI_iff _).1 hu
        clear hu
        go_wp2_with (at_builtin; refine wpList_append_own _ rfl _ _ 24 rfl w.heap.size 5 i0 (.int .u8 0) 1 1 Tryz.underlying24 hi hz0 hz1 hz2 rfl (by decide) _ _ _ rfl (hown.alloc _) ⟨_, 0, none⟩ 1 1 [.int .u8 ((s[k].toNat : Int) + 32)] rfl rfl (cell_one_new _ _ _) (by intro u hu; simp at hu; subst hu; rfl) (by unfold maxLen; omega) (by omega) (by have := hb.size; simp; omega) ?_; intro v' w1 hown' hgrow _)
        go_roundw
        case rel =>
          refine ⟨k + 1, by omega, by go_num, ?_, (hb.alloc hb.size _).grown hgrow (by have := hb.size; simp; omega) (fun k e => (World.ownsRow.lt hown k e).1)⟩
          rewrite [Hsn.out, List.map_append, List.map_singleton, bytV, Hlow.out]
          exact hown'
        case measure => simp [intOf]; omega
    · have hk' : s.size ≤ k := by omega
      obtain rfl : k = s.size := by omega
      have Hlen : Hid ((lowL s.data.toList).length = s.size) := Lib.hid (by rw [lowL_length, Lib.size_eq])
      rw [take_all s s.size (Nat.le_refl _)] at hown
      rcases hown.2 with ⟨hv, hz⟩ | ⟨g, cap, cur, hv, _, hh, _⟩
      · have hnil : Hid (strB (lowL s.data.toList) = ByteArray.empty) := Lib.hid (by
          have : lowL s.data.toList = [] := List.eq_nil_of_length_eq_zero (by rewrite [Hlen.out]; exact hz)
          rw [this] <;> rfl)
        have hback := run_convert_bytes_nil (P := Tryz.prog) wr 24 5 Tryz.underlying24 Tryz.underlying5 0 0 9 Tryz.underlying9
        rewrite [hv]
        have Hz := Lib.hid hz
        clear hown hv hz
        go_wp2
        go_ret
        exact ⟨by rw [hnil.out] <;> rfl, hb⟩
      · have hback := run_convert_bytes_back (P := Tryz.prog) wr 24 9 5 ⟨g, 0, none⟩ cap (lowL s.data.toList) Tryz.underlying24 Tryz.underlying5 Tryz.underlying9 (by
          intro j hj
          exact World.ownsRow.cells hown (g := g) (by rw [hv] <;> rfl) j _ (by rw [List.getElem?_map, List.getElem?_eq_getElem hj] <;> rfl))
        rw [Hlen.out] at hback
        rewrite [hv]
        clear hown hv hh
        go_wp2
        go_ret
        exact ⟨rfl, hb⟩

end Go.Proofs.YthbfcamfapgodaaGreatDoor

namespace Go.Proofs.YthbfcamfapgodaaGreatDoor
open Go.RowKit

set_option maxHeartbeats 1000000 in
theorem rdigits_any (s : ByteArray) (w : World) (hs : s.size ≤ maxLen) :
    Calls Tryz.prog 64 #[.string s] w fun e w' => e = .returned (.tuple #[.int .i64 (digitsN s.data.toList), .bool (digitsB s.data.toList)]) ∧ w = w' := by
  unfold maxLen at hs
  go_enter Tryz.func64, Tryz.ntmps64
  go_wp2
  go_loop [4, 5] (fun n i => ∃ k : Nat, k ≤ s.size ∧ i = .int .i64 k ∧ Hid (digAll (s.data.toList.take k) = true) ∧ n = .int .i64 (digN (s.data.toList.take k))) (fun _ i => s.size - (intOf i).toNat)
  case atStart => exact ⟨0, Nat.zero_le _, rfl, rfl, rfl⟩
  case round =>
    obtain ⟨k, hk, rfl, Hall, rfl⟩ := hrel
    obtain ⟨hn0, hn1⟩ := digN_in s k Hall.out
    by_cases hlt : k < s.size
    · by_cases hd : digI (s[k].toNat : Int) = true
      · have Hs := Lib.hid (digN_snoc s k hlt)
        have Ha := Lib.hid (all_snoc (fun c => digI c.toNat) s k hlt)
        obtain ⟨h48, h57⟩ := (digI_iff _).1 hd
        have d1 : decide ((s[k].toNat : Int) < 48) = false := by simp; omega
        have d2 : decide (57 < (s[k].toNat : Int)) = false := by simp; omega
        have Hd := Lib.hid hd
        clear hd
        go_wp2
        go_round
        case rel => exact ⟨k + 1, by omega, by go_num, Lib.hid (by rewrite [digAll, Ha.out, Hd.out, Bool.and_true]; exact Hall.out), by rewrite [Hs.out, digStep]; exact int_eq (by omega)⟩
        case measure => simp [intOf]; omega
      · have Hf := Lib.hid (all_false_of (fun c => digI c.toNat) s k hlt (by simpa using hd))
        have hn : ¬ (48 ≤ (s[k].toNat : Int) ∧ (s[k].toNat : Int) ≤ 57) := fun h => hd ((digI_iff _).2 h)
        clear hd
        cases d1 : decide ((s[k].toNat : Int) < 48) <;> cases d2 : decide (57 < (s[k].toNat : Int))
        · exfalso; simp at d1 d2; omega
        all_goals
          clear hn
          go_wp2
          go_ret2
          exact ⟨by simp [digitsN, digitsB, digAll, Hf.out], rfl⟩
    · have hk' : s.size ≤ k := by omega
      have Hp : Hid (decide (0 < s.size) = !s.data.toList.isEmpty) := Lib.hid (by rewrite [Lib.size_eq]; exact pos_of _)
      go_wp2
      go_ret2
      rw [take_all s k hk'] at Hall ⊢
      refine ⟨two_eq (int_eq ?_) (bool_eq ?_), rfl⟩
      · rw [digitsN, if_pos Hall.out]
      · rw [digitsB, Hall.out, Bool.true_and, ← Hp.out]

end Go.Proofs.YthbfcamfapgodaaGreatDoor
