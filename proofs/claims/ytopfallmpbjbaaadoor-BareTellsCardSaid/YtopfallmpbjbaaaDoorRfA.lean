/- The contracts of the document's own answers for one byte, and of its small functions (sculleryref01, sculleryref02). -/
import Derived.Test.YtopfallmpbjbaaaDoorBarR
namespace Go.Proofs.YtopfallmpbjbaaaDoor
open Go.RowKit

set_option maxHeartbeats 1000000 in
theorem rletter_any (c : Int) (w : World) :
    Calls Tryd.prog 89 #[.int .u8 c] w fun e w' => e = .returned (.bool (ltrI c || digI c)) ∧ w = w' := by
  have hd : (ltrI c || digI c) = ((decide (97 ≤ c) && decide (c ≤ 122)) || (decide (65 ≤ c) && decide (c ≤ 90)) || (decide (48 ≤ c) && decide (c ≤ 57))) := by
    simp only [ltrI, upI, lowI, digI]
    rw [Bool.or_comm (decide (65 ≤ c) && decide (c ≤ 90))]
  rw [hd]
  clear hd
  rcases (show c < 48 ∨ (48 ≤ c ∧ c ≤ 57) ∨ (57 < c ∧ c < 65) ∨ (65 ≤ c ∧ c ≤ 90) ∨ (90 < c ∧ c < 97) ∨ (97 ≤ c ∧ c ≤ 122) ∨ 122 < c by omega) with h | h | h | h | h | h | h
  all_goals
    have a1 : ∃ b, decide (97 ≤ c) = b := ⟨_, rfl⟩
    have a2 : ∃ b, decide (c ≤ 122) = b := ⟨_, rfl⟩
    have a3 : ∃ b, decide (65 ≤ c) = b := ⟨_, rfl⟩
    have a4 : ∃ b, decide (c ≤ 90) = b := ⟨_, rfl⟩
    have a5 : ∃ b, decide (48 ≤ c) = b := ⟨_, rfl⟩
    have a6 : ∃ b, decide (c ≤ 57) = b := ⟨_, rfl⟩
    obtain ⟨b1, h1⟩ := a1
    obtain ⟨b2, h2⟩ := a2
    obtain ⟨b3, h3⟩ := a3
    obtain ⟨b4, h4⟩ := a4
    obtain ⟨b5, h5⟩ := a5
    obtain ⟨b6, h6⟩ := a6
    cases b1 <;> cases b2 <;> cases b3 <;> cases b4 <;> cases b5 <;> cases b6 <;> first | (exfalso; simp only [decide_eq_true_eq, decide_eq_false_iff_not] at h1 h2 h3 h4 h5 h6; omega) | skip
    all_goals
      clear h
      go_enter Tryd.func89, Tryd.ntmps89
      go_wp2
      go_ret
      exact ⟨by rw [h1, h2, h3, h4, h5, h6]; rfl, rfl⟩

theorem mark_at (c : UInt8) (k : Nat) (h : k < 15) (e : marksL[k]'h = c) : markI c.toNat = true := by
  subst e
  have : ∀ j : Fin 15, markI (marksL[j.val]'j.isLt).toNat = true := by decide +kernel
  exact this ⟨k, h⟩

theorem mark_none (c : UInt8) (h : ∀ j (hj : j < 15), (marksL[j]'hj == c) = false) : markI c.toNat = false := by
  have hn : ∀ l : List UInt8, (∀ j (hj : j < l.length), (l[j] == c) = false) → Lib.indexByte l c = -1 := by
    intro l
    induction l with
    | nil => intro _; rfl
    | cons a r ih =>
      intro h
      have h0 := h 0 (by simp)
      have hr := ih (fun j hj => h (j + 1) (by simpa using hj))
      simp only [List.getElem_cons_zero] at h0
      rw [Lib.indexByte, h0, hr]
      rfl
  have e : (c.toNat : Int).toNat.toUInt8 = c := by simp
  unfold markI
  rw [e, hn marksL h]
  rfl

set_option maxHeartbeats 1000000 in
theorem rtchar_any (c : UInt8) (w : World) :
    Calls Tryd.prog 69 #[.int .u8 c.toNat] w fun e w' => e = .returned (.bool (tchI c.toNat)) ∧ w = w' := by
  have cL := rletter_any (c.toNat : Int) w
  go_enter Tryd.func69, Tryd.ntmps69
  go_wp2
  go_loop [4] (fun i => ∃ k : Nat, k ≤ 15 ∧ i = .int .i64 k ∧ Hid (∀ j (hj : j < 15), j < k → (marksL[j]'hj == c) = false)) (fun i => 15 - (intOf i).toNat)
  case atStart => exact ⟨0, by omega, rfl, Lib.hid (fun j _ h => by omega)⟩
  case round =>
    obtain ⟨k, hk, rfl, H⟩ := hrel
    by_cases hlt : k < 15
    · have hls : k < (⟨#[33, 35, 36, 37, 38, 39, 42, 43, 45, 46, 94, 95, 96, 124, 126]⟩ : ByteArray).size := hlt
      have hg : (⟨#[33, 35, 36, 37, 38, 39, 42, 43, 45, 46, 94, 95, 96, 124, 126]⟩ : ByteArray)[k]'hls = marksL[k]'hlt := rfl
      have B := byte_beq (marksL[k]'hlt) c
      cases he : (marksL[k]'hlt == c)
      · have hb : ((((⟨#[33, 35, 36, 37, 38, 39, 42, 43, 45, 46, 94, 95, 96, 124, 126]⟩ : ByteArray)[k]'hls).toNat : Int) == (c.toNat : Int)) = false := by rw [hg, B, he]
        have He := Lib.hid he
        clear hg B he
        go_wp2
        go_round
        case rel =>
          refine ⟨k + 1, by omega, by go_num, Lib.hid (fun j hj h => ?_)⟩
          by_cases e : j = k
          · subst e; exact He.out
          · exact H.out j hj (by omega)
        case measure => simp [intOf]; omega
      · have hb : ((((⟨#[33, 35, 36, 37, 38, 39, 42, 43, 45, 46, 94, 95, 96, 124, 126]⟩ : ByteArray)[k]'hls).toNat : Int) == (c.toNat : Int)) = true := by rw [hg, B, he]
        have Hm := Lib.hid (mark_at c k hlt (by simpa using he))
        clear hg B he
        go_wp2
        go_ret
        exact ⟨ret_eq (bool_eq (by rw [tchI, Hm.out, Bool.or_true])), rfl⟩
    · have Hm := Lib.hid (mark_none c (fun j hj => H.out j hj (by omega)))
      go_wp2_with (go_at_call 89; refine cL.mono ?_; rintro e w' ⟨rfl, rfl⟩)
      go_ret
      exact ⟨ret_eq (bool_eq (by rw [tchI, Hm.out, Bool.or_false])), rfl⟩


set_option maxHeartbeats 1000000 in
theorem falpha_any (c : Int) (w : World) :
    Calls Tryd.prog 42 #[.int .u8 c] w fun e w' => e = .returned (.bool (ltrI c)) ∧ w = w' := by
  have hd : ltrI c = ((decide (97 ≤ c) && decide (c ≤ 122)) || (decide (65 ≤ c) && decide (c ≤ 90))) := by
    simp only [ltrI, upI, lowI]
    rw [Bool.or_comm]
  rw [hd]
  clear hd
  rcases (show c < 65 ∨ (65 ≤ c ∧ c ≤ 90) ∨ (90 < c ∧ c < 97) ∨ (97 ≤ c ∧ c ≤ 122) ∨ 122 < c by omega) with h | h | h | h | h
  all_goals
    have a1 : ∃ b, decide (97 ≤ c) = b := ⟨_, rfl⟩
    have a2 : ∃ b, decide (c ≤ 122) = b := ⟨_, rfl⟩
    have a3 : ∃ b, decide (65 ≤ c) = b := ⟨_, rfl⟩
    have a4 : ∃ b, decide (c ≤ 90) = b := ⟨_, rfl⟩
    obtain ⟨b1, h1⟩ := a1
    obtain ⟨b2, h2⟩ := a2
    obtain ⟨b3, h3⟩ := a3
    obtain ⟨b4, h4⟩ := a4
    cases b1 <;> cases b2 <;> cases b3 <;> cases b4 <;> first | (exfalso; simp only [decide_eq_true_eq, decide_eq_false_iff_not] at h1 h2 h3 h4; omega) | skip
    all_goals
      clear h
      go_enter Tryd.func42, Tryd.ntmps42
      go_wp2
      go_ret
      exact ⟨by rw [h1, h2, h3, h4]; rfl, rfl⟩

set_option maxHeartbeats 400000 in
theorem fdigit_any (c : Int) (w : World) :
    Calls Tryd.prog 39 #[.int .u8 c] w fun e w' => e = .returned (.bool (digI c)) ∧ w = w' := by
  cases h1 : decide (48 ≤ c) <;> cases h2 : decide (c ≤ 57)
  all_goals
    have hd : digI c = (decide (48 ≤ c) && decide (c ≤ 57)) := rfl
    simp only [h1, h2, Bool.and_true, Bool.and_false] at hd
    rw [hd]
    clear hd
    go_enter Tryd.func39, Tryd.ntmps39
    go_wp2
    go_ret
    exact ⟨rfl, rfl⟩

set_option maxHeartbeats 1000000 in
theorem ftoken_any (c : UInt8) (w : World) :
    Calls Tryd.prog 43 #[.int .u8 c.toNat] w fun e w' => e = .returned (.bool (ttI c.toNat)) ∧ w = w' := by
  have cT := rtchar_any c w
  have hd : ttI c.toNat = (tchI c.toNat || ((c.toNat : Int) == 58) || ((c.toNat : Int) == 47)) := rfl
  generalize (c.toNat : Int) = x at *
  generalize tchI x = a at cT hd
  generalize ttI x = r at hd
  cases h1 : (x == 58) <;> cases h2 : (x == 47)
  all_goals
    rw [h1, h2] at hd
    subst hd
    cases a
    all_goals
      go_enter Tryd.func43, Tryd.ntmps43
      go_wp2_with (go_at_call 69; refine cT.mono ?_; rintro e w' ⟨rfl, rfl⟩)
      go_ret
      exact ⟨rfl, rfl⟩

/-- The alphabet as the document's own answer has it. -/
def alphB : ByteArray := ⟨alphL.toArray⟩
theorem alphB_at (n : Nat) (h : n < 64) : alphB.extract n (n + 1) = strB [alp n] := by
  have : ∀ i : Fin 64, alphB.extract i.val (i.val + 1) = strB [alp i.val] := by
    intro i
    have hi : i.val < alphB.size := i.isLt
    rw [one_at alphB i.val hi]
    congr 2
    rw [alp, List.getD_eq_getElem?_getD, List.getElem?_eq_getElem (by exact hi)]
    rfl
  exact this ⟨n, h⟩

set_option maxRecDepth 10000 in
set_option maxHeartbeats 400000 in
theorem fsign_any (n : Nat) (w : World) (h : n < 64) :
    Calls Tryd.prog 49 #[.int .i64 (n : Int)] w fun e w' => e = .returned (.string (strB [alp n])) ∧ w = w' := by
  have H := Lib.hid (alphB_at n h)
  go_enter Tryd.func49, Tryd.ntmps49
  go_wp2
  go_ret
  exact ⟨by rw [← H.out]; rfl, rfl⟩

/-- The place of a character in the alphabet; none: -1. -/
def pgo : List UInt8 → Nat → UInt8 → Int
  | [], _, _ => -1
  | x :: r, k, c => if x == c then (k : Int) else pgo r (k + 1) c
def placeI (c : UInt8) : Int := pgo alphL 0 c

set_option maxHeartbeats 1000000 in
theorem fplace_any (c : UInt8) (w : World) :
    Calls Tryd.prog 46 #[.int .u8 c.toNat] w fun e w' => e = .returned (.int .i64 (placeI c)) ∧ w = w' := by
  go_enter Tryd.func46, Tryd.ntmps46
  go_wp2
  go_loop [3] (fun i => ∃ k : Nat, k ≤ 64 ∧ i = .int .i64 k ∧ Hid (placeI c = pgo (alphL.drop k) k c)) (fun i => 64 - (intOf i).toNat)
  case atStart => exact ⟨0, by omega, rfl, Lib.hid rfl⟩
  case round =>
    obtain ⟨k, hk, rfl, H⟩ := hrel
    by_cases hlt : k < 64
    · have cS := fsign_any k w hlt
      have Hd := Lib.hid (alp_drop k hlt)
      have B : Hid ((((alp k).toNat : Int) == (c.toNat : Int)) = (alp k == c)) := Lib.hid (byte_beq _ _)
      have hone : (strB [alp k]).size = 1 := rfl
      have h0 : 0 < (strB [alp k]).size := by rw [hone]; decide
      have hat : (strB [alp k])[0]'h0 = alp k := rfl
      generalize strB [alp k] = S at *
      cases he : (((alp k).toNat : Int) == (c.toNat : Int))
      · have He := Lib.hid (B.out.symm.trans he)
        rw [← hat] at he
        clear hat
        go_wp2_with (go_at_call 49; refine cS.mono ?_; rintro e w' ⟨rfl, rfl⟩)
        go_round
        case rel => exact ⟨k + 1, by omega, by go_num, Lib.hid (by rw [H.out, Hd.out, pgo, He.out]; rfl)⟩
        case measure => simp [intOf]; omega
      · have He := Lib.hid (B.out.symm.trans he)
        rw [← hat] at he
        clear hat
        go_wp2_with (go_at_call 49; refine cS.mono ?_; rintro e w' ⟨rfl, rfl⟩)
        go_ret
        exact ⟨ret_eq (int_eq (by rw [H.out, Hd.out, pgo, He.out]; rfl)), rfl⟩
    · obtain rfl : k = 64 := by omega
      go_wp2
      go_ret
      exact ⟨ret_eq (int_eq (by rw [H.out]; rfl)), rfl⟩

set_option maxHeartbeats 1000000 in
theorem fdigits_any (s : ByteArray) (a : Nat) (w : World) (hs : s.size ≤ 100000) (ha : a ≤ s.size) :
    Calls Tryd.prog 67 #[.string s, .int .i64 (a : Int)] w fun e w' => e = .returned (.int .i64 ((ldig (s.data.toList.drop a)).length : Int)) ∧ w = w' := by
  go_enter Tryd.func67, Tryd.ntmps67
  go_wp2
  go_loop [5] (fun i => ∃ k : Nat, a + k ≤ s.size ∧ i = .int .i64 k ∧ Hid ((ldig (s.data.toList.drop a)).length = k + (ldig (s.data.toList.drop (a + k))).length)) (fun i => s.size - (intOf i).toNat)
  case atStart => exact ⟨0, by omega, rfl, Lib.hid (by simp)⟩
  case round =>
    obtain ⟨k, hk, rfl, H⟩ := hrel
    by_cases hlt : a + k < s.size
    · have Hdr := Lib.hid (drop_cons_at s (a + k) hlt)
      have cT := fdigit_any (s[a + k].toNat : Int) w
      cases hd : digI (s[a + k].toNat : Int)
      · have Hf : Hid ((ldig (s.data.toList.drop a)).length = k) := Lib.hid (by rw [H.out, Hdr.out, ldig, List.takeWhile_cons, hd]; simp)
        rw [hd] at cT
        clear hd H Hdr
        go_wp2_with (go_at_call 39; refine cT.mono ?_; rintro e w' ⟨rfl, rfl⟩)
        go_ret
        exact ⟨ret_eq (int_eq (by rw [Hf.out])), rfl⟩
      · have Hf := Lib.hid hd
        rw [hd] at cT
        clear hd
        go_wp2_with (go_at_call 39; refine cT.mono ?_; rintro e w' ⟨rfl, rfl⟩)
        go_round
        case rel => exact ⟨k + 1, by omega, by go_num, Lib.hid (by rw [show a + (k + 1) = a + k + 1 by omega, H.out, Hdr.out, ldig, List.takeWhile_cons, Hf.out, ldig]; simp; omega)⟩
        case measure => simp [intOf]; omega
    · have Hd : Hid (s.data.toList.drop (a + k) = []) := Lib.hid (List.drop_of_length_le (by rw [← Lib.size_eq]; omega))
      go_wp2
      go_ret
      exact ⟨ret_eq (int_eq (by rw [H.out, Hd.out]; simp [ldig])), rfl⟩

set_option maxHeartbeats 1000000 in
theorem fvalue_any (s : ByteArray) (w : World) (hs : s.size ≤ 15) (hall : s.data.toList.all (fun c => digI c.toNat) = true) :
    Calls Tryd.prog 68 #[.string s] w fun e w' => e = .returned (.int .i64 (numL s.data.toList)) ∧ w = w' := by
  have Hall := Lib.hid hall
  clear hall
  go_enter Tryd.func68, Tryd.ntmps68
  go_wp2
  go_loop [3, 4] (fun n i => ∃ k : Nat, k ≤ s.size ∧ i = .int .i64 k ∧ n = .int .i64 (numL (s.data.toList.take k))) (fun _ i => s.size - (intOf i).toNat)
  case atStart => exact ⟨0, by omega, rfl, rfl⟩
  case round =>
    obtain ⟨k, hk, rfl, rfl⟩ := hrel
    by_cases hlt : k < s.size
    · obtain ⟨n0, n1⟩ := numL_in (s.data.toList.take k) (by
        rw [List.all_eq_true]
        intro x hx
        exact List.all_eq_true.1 Hall.out x (List.mem_of_mem_take hx)) (by rw [List.length_take]; omega)
      have Hs : Hid (numL (s.data.toList.take (k + 1)) = 10 * numL (s.data.toList.take k) + ((s[k].toNat : Int)) - 48) := Lib.hid (by rw [take_snoc s k hlt, numL_snoc]; omega)
      have hd : digI (s[k].toNat : Int) = true := List.all_eq_true.1 Hall.out s[k] (Array.getElem_mem_toList hlt)
      obtain ⟨h48, h57⟩ := (digI_iff _).1 hd
      clear hd
      generalize numL (s.data.toList.take k) = m at n0 n1 Hs
      go_wp2
      go_round
      case rel => exact ⟨k + 1, by omega, by go_num, by rw [Hs.out]⟩
      case measure => simp [intOf]; omega
    · have Hk : Hid (s.data.toList.take k = s.data.toList) := Lib.hid (take_all s k (by omega))
      go_wp2
      go_ret
      exact ⟨ret_eq (int_eq (by rw [Hk.out])), rfl⟩

theorem digB_at (n : Nat) (h : n < 10) : (⟨#[48, 49, 50, 51, 52, 53, 54, 55, 56, 57]⟩ : ByteArray).extract n (n + 1) = strB (Lib.decDigits n) := by
  have : ∀ i : Fin 10, (⟨#[48, 49, 50, 51, 52, 53, 54, 55, 56, 57]⟩ : ByteArray).extract i.val (i.val + 1) = strB [UInt8.ofNat (48 + i.val)] := by decide +kernel
  rw [Lib.decDigits_one h]
  exact this ⟨n, h⟩

set_option maxRecDepth 100000 in
set_option maxHeartbeats 1000000 in
theorem fnumber_any (w : World) : ∀ (n : Nat), n < 1000000000000000000 →
    Calls Tryd.prog 30 #[.int .i64 (n : Int)] w fun e w' => e = .returned (.string (strB (Lib.decDigits n))) ∧ w = w' := by
  intro n
  induction n using Nat.strongRecOn with
  | _ n ih =>
    intro hn
    by_cases h : n < 10
    · have H := Lib.hid (digB_at n h)
      have hd : decide ((n : Int) < 10) = true := by simp; omega
      clear ih
      go_enter Tryd.func30, Tryd.ntmps30
      go_wp2
      go_ret
      exact ⟨by rw [← H.out]; rfl, rfl⟩
    · have hd : decide ((n : Int) < 10) = false := by simp; omega
      have c1 := ih (n / 10) (by omega) (by omega)
      have c2 := ih (n % 10) (by omega) (by omega)
      have H : Hid (strB (Lib.decDigits n) = strB (Lib.decDigits (n / 10)) ++ strB (Lib.decDigits (n % 10))) := Lib.hid (by
        rw [strB_append, Lib.decDigits_one (i := n % 10) (by omega), Lib.decDigits, dif_neg h])
      have q1 : (n : Int) / 10 = ((n / 10 : Nat) : Int) := by omega
      have q2 : (n : Int) % 10 = ((n % 10 : Nat) : Int) := by omega
      have l1 : (strB (Lib.decDigits (n / 10))).size ≤ 20 := by
        rw [strB_size, Lib.decDigits_length]; exact nDigits_lt 20 _ (by omega) (by omega)
      have l2 : (strB (Lib.decDigits (n % 10))).size ≤ 20 := by
        rw [strB_size, Lib.decDigits_length]; exact nDigits_lt 20 _ (by omega) (by omega)
      clear ih
      rw [H.out]
      clear H
      generalize strB (Lib.decDigits (n / 10)) = A at *
      generalize strB (Lib.decDigits (n % 10)) = B at *
      generalize n / 10 = m1 at q1 c1
      generalize n % 10 = m2 at q2 c2
      go_enter Tryd.func30, Tryd.ntmps30
      go_wp2_with fail
      refine c1.mono ?_
      rintro e w' ⟨rfl, rfl⟩
      go_wp2_with fail
      refine c2.mono ?_
      rintro e w' ⟨rfl, rfl⟩
      go_wp2_with fail
      go_ret
      exact ⟨rfl, rfl⟩

end Go.Proofs.YtopfallmpbjbaaaDoor
