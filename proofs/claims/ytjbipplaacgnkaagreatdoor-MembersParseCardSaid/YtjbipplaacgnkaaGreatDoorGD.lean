/- The contract of bare.Right. · The contracts of bare.decimalText and bare.stringText. · The contract of bare.Print. · Plain facts about bare items: digits, base64 there and back. No program is walked. · Plain facts about bare items: what is printed is read, and what is read may be. No program is walked. -/
import Derived.Test.YtjbipplaacgnkaaGreatDoorGB
import Derived.Test.YtjbipplaacgnkaaGreatDoorGC
import Derived.Lib.AppendIntMem
import Derived.Lib.ItoaNum
import Derived.Lib.TrimByte
import Derived.Laws.OwnMore

namespace Go.Proofs.YtjbipplaacgnkaaGreatDoor
open Go.RowKit

def inNum (n : Int) : Bool := decide (-1000000000000000 < n) && decide (n < 1000000000000000)

/-- Whether a bare item is valid. -/
def rightL (k n : Int) (s : List UInt8) : Bool :=
  if k = 1 ∨ k = 2 then s.isEmpty && inNum n
  else if k = 6 then s.isEmpty && (n == 0 || n == 1)
  else if k = 3 then n == 0 && prL s
  else if k = 4 then n == 0 && (!s.isEmpty && tlen s == s.length)
  else if k = 5 then n == 0
  else false

theorem right_num (k n : Int) (s : List UInt8) (h : k = 1 ∨ k = 2) : rightL k n s = (s.isEmpty && inNum n) := by rw [rightL, if_pos h]
theorem right_bool (n : Int) (s : List UInt8) : rightL 6 n s = (s.isEmpty && (n == 0 || n == 1)) := rfl
theorem right_str (n : Int) (s : List UInt8) : rightL 3 n s = (n == 0 && prL s) := rfl
theorem right_tok (n : Int) (s : List UInt8) : rightL 4 n s = (n == 0 && (!s.isEmpty && tlen s == s.length)) := rfl
theorem right_bytes (n : Int) (s : List UInt8) : rightL 5 n s = (n == 0) := rfl

def rightPost (r : Bool) (w : World) (e : Ending) (w' : World) : Prop := e = .returned (.bool r) ∧ Below w.heap.size w w'

theorem toList_emp (s : ByteArray) : s.toList.isEmpty = s.data.toList.isEmpty := by rw [Lib.toList_data]

set_option maxRecDepth 100000 in
set_option maxHeartbeats 4000000 in
theorem right_any (k n : Int) (s : ByteArray) (w : World) (hs : s.size ≤ 100000) :
    Calls Tryz.prog 104 #[.agg #[.int .i64 k, .int .i64 n, .string s]] w (rightPost (rightL k n s.data.toList) w) := by
  have cP := fun W => isPrintable_any s W (by unfold maxLen; omega)
  have cT := fun W => tokenLength_any s W (by unfold maxLen; omega)
  by_cases h12 : k = 1 ∨ k = 2
  · obtain ⟨r, hr⟩ : ∃ r, rightL k n s.data.toList = r := ⟨_, rfl⟩
    rw [hr]
    rw [right_num k n _ h12, ← toList_emp, inNum] at hr
    rcases h12 with rfl | rfl
    all_goals
      cases h1 : s.toList.isEmpty <;> cases h2 : decide (-1000000000000000 < n) <;> cases h3 : decide (n < 1000000000000000)
      all_goals
        rw [h1, h2, h3] at hr
        simp only [Bool.and_true, Bool.and_false] at hr
        subst hr
        clear cP cT
        go_enter Tryz.func104, Tryz.ntmps104
        go_wp2
        go_ret
        exact ⟨rfl, (Below.refl _ _).alloc (Nat.le_refl _) _⟩
  · by_cases h6 : k = 6
    · subst h6
      obtain ⟨r, hr⟩ : ∃ r, rightL 6 n s.data.toList = r := ⟨_, rfl⟩
      rw [hr]
      rw [right_bool, ← toList_emp] at hr
      cases h1 : s.toList.isEmpty <;> cases h2 : (n == 0) <;> cases h3 : (n == 1)
      all_goals
        rw [h1, h2, h3] at hr
        simp only [Bool.and_true, Bool.and_false, Bool.or_true, Bool.or_false] at hr
        subst hr
        clear cP cT h12
        first
        | (exfalso; simp only [beq_iff_eq] at h2 h3; omega)
        | (go_enter Tryz.func104, Tryz.ntmps104
           go_wp2
           go_ret
           exact ⟨rfl, (Below.refl _ _).alloc (Nat.le_refl _) _⟩)
    · by_cases h3 : k = 3
      · subst h3
        obtain ⟨r, hr⟩ : ∃ r, rightL 3 n s.data.toList = r := ⟨_, rfl⟩
        rw [hr]
        rw [right_str] at hr
        generalize prL s.data.toList = b at hr cP
        cases h2 : (n == 0)
        all_goals
          rw [h2] at hr
          simp only [Bool.true_and, Bool.false_and] at hr
          subst hr
          clear cT h12 h6
          go_enter Tryz.func104, Tryz.ntmps104
          go_wp2_with (go_at_call 122; refine (cP _).mono ?_; rintro e w' ⟨rfl, rfl⟩)
          go_ret
          exact ⟨rfl, (Below.refl _ _).alloc (Nat.le_refl _) _⟩
      · by_cases h4 : k = 4
        · subst h4
          obtain ⟨r, hr⟩ : ∃ r, rightL 4 n s.data.toList = r := ⟨_, rfl⟩
          rw [hr]
          rw [right_tok, ← toList_emp, ← Lib.size_eq] at hr
          generalize tlen s.data.toList = b at hr cT
          have Hq : Hid ((((b : Nat) : Int) == (s.size : Int)) = (b == s.size)) := Lib.hid (by rw [Bool.eq_iff_iff]; simp; omega)
          cases h2 : (n == 0) <;> cases h1 : s.toList.isEmpty
          all_goals
            rw [h2, h1] at hr
            simp only [Bool.true_and, Bool.false_and, Bool.not_true, Bool.not_false] at hr
            clear cP h12 h6 h3
            have Hr := Lib.hid hr
            clear hr
            go_enter Tryz.func104, Tryz.ntmps104
            go_wp2_with fail
            go_quiet ((go_at_call 123; exact Calls.quiet_of_same ((cT _).mono (fun _ _ h => ⟨h.1, h.2.symm⟩))))
            go_wp2
            go_ret
            refine ⟨ret_eq (bool_eq (by first | exact Hr.out | (rw [← Hr.out]; exact Hq.out))), ?_⟩
            have hb1 : Below w.heap.size w (w.alloc (.cells #[.int .i64 4, .int .i64 n, .string s] 43)) := (Below.refl _ _).alloc (Nat.le_refl _) _
            exact hb1.trans ((below_drewN _ _).mono hb1.size)
        · by_cases h5 : k = 5
          · subst h5
            rw [right_bytes]
            clear cP cT h12 h6 h3 h4
            cases h2 : (n == 0)
            all_goals
              go_enter Tryz.func104, Tryz.ntmps104
              go_wp2
              go_ret
              exact ⟨rfl, (Below.refl _ _).alloc (Nat.le_refl _) _⟩
          · have hr : rightL k n s.data.toList = false := by rw [rightL, if_neg h12, if_neg h6, if_neg h3, if_neg h4, if_neg h5]
            rw [hr]
            have g1 : (k == 1) = false := by simp; omega
            have g2 : (k == 2) = false := by simp; omega
            have g3 : (k == 3) = false := by simpa using h3
            have g4 : (k == 4) = false := by simpa using h4
            have g5 : (k == 5) = false := by simpa using h5
            have g6 : (k == 6) = false := by simpa using h6
            clear cP cT h12 h6 h3 h4 h5 hr
            go_enter Tryz.func104, Tryz.ntmps104
            go_wp2
            go_ret
            exact ⟨rfl, (Below.refl _ _).alloc (Nat.le_refl _) _⟩

end Go.Proofs.YtjbipplaacgnkaaGreatDoor

namespace Go.Proofs.YtjbipplaacgnkaaGreatDoor
open Go.RowKit

/-- The powers of ten lie where they were laid. -/
def Pow (w : World) : Prop := Lib.TabIs Tryz.prog w "internal/strconv.uint64pow10" .u64 Lib.pow10Tab
theorem Pow.below {w w' : World} (h : Pow w) (hb : Below w.heap.size w w') : Pow w' := Lib.tabBelow_of_tabIs h w' hb

theorem fmt_any (n : Int) (h0 : -9223372036854775808 ≤ n) (h1 : n ≤ 9223372036854775807) (w : World) (hP : Pow w) :
    Calls Tryz.prog 105 #[.int .i64 n, .int .i64 10] w fun e w' => e = .returned (.string (strB (Lib.itoa n))) ∧ Below w.heap.size w w' := by
  refine (Tryz.strconv_FormatInt_10 n h0 h1 w hP).mono ?_
  rintro e w' ⟨rfl, k, os, rfl⟩
  exact ⟨rfl, Lib.below_grow _ _ (Nat.le_refl _) k os⟩

theorem itoa_nat (n : Nat) : Lib.itoa (n : Int) = Lib.decDigits n := by
  rw [Lib.itoa, if_neg (by omega)]; rfl
theorem itoa_neg (n : Nat) (h : 0 < n) : Lib.itoa (-(n : Int)) = 45 :: Lib.decDigits n := by
  rw [Lib.itoa, if_pos (by omega)]; simp

theorem dec_thousand (m : Nat) (h : m < 1000) : Lib.decDigits (1000 + m) = [49, UInt8.ofNat (48 + m / 100), UInt8.ofNat (48 + m / 10 % 10), UInt8.ofNat (48 + m % 10)] := by
  rw [Lib.decDigits, dif_neg (by omega), Lib.decDigits, dif_neg (by omega), Lib.decDigits_two (by omega) (by omega)]
  rw [show (1000 + m) / 10 / 10 / 10 = 1 by omega, show (1000 + m) / 10 / 10 % 10 = m / 100 by omega, show (1000 + m) / 10 % 10 = m / 10 % 10 by omega, show (1000 + m) % 10 = m % 10 by omega]
  rfl

theorem nDigits_le (u : Nat) : Lib.nDigits u ≤ u + 1 := by
  induction u using Nat.strongRecOn with
  | _ u ih =>
    by_cases h : u < 10
    · rw [Lib.nDigits_small h]; omega
    · rw [Lib.nDigits_big h]
      have := ih (u / 10) (by omega)
      omega
theorem decDigits_le (u : Nat) : (Lib.decDigits u).length ≤ u + 1 := by rw [Lib.decDigits_length]; exact nDigits_le u

/-- The text of a decimal that is not below 0, in thousandths. -/
def decN (n : Nat) : List UInt8 := Lib.decDigits (n / 1000) ++ (46 :: UInt8.ofNat (48 + n % 1000 / 100) :: Lib.trimRightB [UInt8.ofNat (48 + n % 1000 / 10 % 10), UInt8.ofNat (48 + n % 1000 % 10)] 48)
def decT (n : Int) : List UInt8 := if n < 0 then 45 :: decN n.natAbs else decN n.natAbs

set_option maxRecDepth 100000 in
set_option maxHeartbeats 4000000 in
theorem decimalText_any (n : Int) (h0 : -1000000000000000 < n) (h1 : n < 1000000000000000) (w : World) (hP : Pow w) :
    Calls Tryz.prog 106 #[.int .i64 n] w fun e w' => e = .returned (.string (strB (decT n))) ∧ Below w.heap.size w w' := by
  have HP := Lib.hid hP
  clear hP
  obtain ⟨m, hm⟩ : ∃ m : Nat, n.natAbs = m := ⟨_, rfl⟩
  have hm2 : m < 1000000000000000 := by omega
  obtain ⟨W0, hW0⟩ : ∃ W0, strB (Lib.decDigits (m / 1000)) = W0 := ⟨_, rfl⟩
  obtain ⟨Q, hQ⟩ : ∃ Q, strB (Lib.decDigits (1000 + m % 1000)) = Q := ⟨_, rfl⟩
  have cF := fun W hW => fmt_any ((m / 1000 : Nat) : Int) (by omega) (by omega) W hW
  have cG := fun W hW => fmt_any ((1000 + m % 1000 : Nat) : Int) (by omega) (by omega) W hW
  rw [itoa_nat, hW0] at cF
  rw [itoa_nat, hQ] at cG
  have hql : Q.data.toList = [49, UInt8.ofNat (48 + m % 1000 / 100), UInt8.ofNat (48 + m % 1000 / 10 % 10), UInt8.ofNat (48 + m % 1000 % 10)] := by
    rw [← hQ, strB_data, dec_thousand _ (by omega)]
  have HQ := Lib.hid hql
  have hqs : Q.size = 4 := by rw [Lib.size_eq, hql]; rfl
  have HN : Hid (decN m = W0.data.toList ++ (46 :: UInt8.ofNat (48 + m % 1000 / 100) :: Lib.trimRightB [UInt8.ofNat (48 + m % 1000 / 10 % 10), UInt8.ofNat (48 + m % 1000 % 10)] 48)) := Lib.hid (by rw [← hW0, strB_data]; rfl)
  obtain ⟨P, hPp⟩ : ∃ P, Q.extract 1 4 = P := ⟨_, rfl⟩
  have HPl : Hid (P.data.toList = [UInt8.ofNat (48 + m % 1000 / 100), UInt8.ofNat (48 + m % 1000 / 10 % 10), UInt8.ofNat (48 + m % 1000 % 10)]) := Lib.hid (by rw [← hPp, Lib.extract_data, hql]; rfl)
  have hps : P.size = 3 := by rw [Lib.size_eq, HPl.out]; rfl
  have hw0 : W0.size ≤ 1000000000001 := by
    have := decDigits_le (m / 1000)
    rw [← hW0, strB_size]; omega
  clear hW0 hQ hql
  have cT := fun W => Tryz.strings_TrimRight_one (P.extract 1 3) 48 (by decide) W (by rw [Lib.size_eq, Lib.extract_data, HPl.out]; simp)
  obtain ⟨T, hT⟩ : ∃ T : ByteArray, (⟨(Lib.trimRightB (P.extract 1 3).data.toList 48).toArray⟩ : ByteArray) = T := ⟨_, rfl⟩
  rw [hT] at cT
  have HT : Hid (T.data.toList = Lib.trimRightB [UInt8.ofNat (48 + m % 1000 / 10 % 10), UInt8.ofNat (48 + m % 1000 % 10)] 48) := Lib.hid (by
    rw [← hT, Lib.extract_data, HPl.out]; rfl)
  clear hT
  have ht2 : T.size ≤ 2 := by
    have := trimRightB_le [UInt8.ofNat (48 + m % 1000 / 10 % 10), UInt8.ofNat (48 + m % 1000 % 10)] 48
    rw [Lib.size_eq, HT.out]; exact this
  have N1 : Hid (¬ 9223372036854775807 < W0.size) := Lib.hid (by omega)
  have N2 : Hid (¬ 9223372036854775807 < 1 + W0.size) := Lib.hid (by omega)
  have N3 : Hid (¬ 9223372036854775807 < W0.size + 1) := Lib.hid (by omega)
  have N4 : Hid (¬ 9223372036854775807 < 1 + W0.size + 1) := Lib.hid (by omega)
  have N5 : Hid (¬ 9223372036854775807 < W0.size + 1 + 1) := Lib.hid (by omega)
  have N6 : Hid (¬ 9223372036854775807 < 1 + W0.size + 1 + 1) := Lib.hid (by omega)
  have N7 : Hid (¬ 9223372036854775807 < W0.size + 1 + 1 + T.size) := Lib.hid (by omega)
  have N8 : Hid (¬ 9223372036854775807 < 1 + W0.size + 1 + 1 + T.size) := Lib.hid (by omega)
  have Hfin : Hid (∀ S : ByteArray, (((((S ++ W0) ++ (⟨#[46]⟩ : ByteArray)) ++ P.extract 0 1) ++ T)) = strB (S.data.toList ++ decN m)) := Lib.hid (by
    intro S
    rw [← strB_of (S ++ W0 ++ (⟨#[46]⟩ : ByteArray) ++ P.extract 0 1 ++ T)]
    congr 1
    rw [append_data, append_data, append_data, append_data, HT.out, HN.out, extract_take, HPl.out]
    simp)
  by_cases hn : n < 0
  · have e1 : Hid (decT n = 45 :: decN m) := Lib.hid (by rw [decT, if_pos hn, hm])
    have hneg : -n = (m : Int) := by omega
    have q1 : ((m : Int) / 1000) = ((m / 1000 : Nat) : Int) := by omega
    have q2 : 1000 + ((m : Int) % 1000) = ((1000 + m % 1000 : Nat) : Int) := by omega
    have hd : decide (n < 0) = true := by simpa using hn
    clear hm HN HT HPl
    generalize m / 1000 = m1 at q1 cF
    generalize 1000 + m % 1000 = m2 at q2 cG
    go_enter Tryz.func106, Tryz.ntmps106
    go_wp2_with fail
    refine (cF _ HP.out).mono ?_
    rintro e w1 ⟨rfl, hb1⟩
    go_wp2_with fail
    refine (cG _ (HP.out.below hb1)).mono ?_
    rintro e w2 ⟨rfl, hb2⟩
    go_wp2_with fail
    have n1 := N1.out
    have n2 := N2.out
    have n3 := N3.out
    have n4 := N4.out
    have n5 := N5.out
    have n6 := N6.out
    have n7 := N7.out
    have n8 := N8.out
    go_quiet ((go_at_call 125; exact Calls.quiet_of_same (cT _)))
    go_wp2
    go_ret
    have hb3 := hb1.trans (hb2.mono hb1.size)
    refine ⟨?_, hb3.trans ((below_drewN w2 nq).mono hb3.size)⟩
    rw [e1.out]
    exact congrArg (fun s => Ending.returned (.string s)) (Hfin.out ⟨#[45]⟩)
  · have e1 : Hid (decT n = decN m) := Lib.hid (by rw [decT, if_neg hn, hm])
    obtain rfl : n = (m : Int) := by omega
    have q1 : ((m : Int) / 1000) = ((m / 1000 : Nat) : Int) := by omega
    have q2 : 1000 + ((m : Int) % 1000) = ((1000 + m % 1000 : Nat) : Int) := by omega
    have hd : decide ((m : Int) < 0) = false := by simp
    clear hm HN HT HPl h0 h1 hn
    generalize m / 1000 = m1 at q1 cF
    generalize 1000 + m % 1000 = m2 at q2 cG
    go_enter Tryz.func106, Tryz.ntmps106
    go_wp2_with fail
    refine (cF _ HP.out).mono ?_
    rintro e w1 ⟨rfl, hb1⟩
    go_wp2_with fail
    refine (cG _ (HP.out.below hb1)).mono ?_
    rintro e w2 ⟨rfl, hb2⟩
    go_wp2_with fail
    have n1 := N1.out
    have n2 := N2.out
    have n3 := N3.out
    have n4 := N4.out
    have n5 := N5.out
    have n6 := N6.out
    have n7 := N7.out
    have n8 := N8.out
    go_quiet ((go_at_call 125; exact Calls.quiet_of_same (cT _)))
    go_wp2
    go_ret
    have hb3 := hb1.trans (hb2.mono hb1.size)
    refine ⟨?_, hb3.trans ((below_drewN w2 nq).mono hb3.size)⟩
    rw [e1.out]
    exact congrArg (fun s => Ending.returned (.string s)) (Hfin.out ⟨#[]⟩)

theorem encL_len : ∀ l : List UInt8, (encL l).length = (l.length + 2) / 3 * 4
  | [] => rfl
  | [_] => by simp [encL]
  | [_, _] => by simp [encL]
  | x :: y :: z :: r => by
    have := encL_len r
    simp only [encL, List.length_cons, this]
    omega

/-- A text with its quotes and backslashes escaped. -/
def escL : List UInt8 → List UInt8
  | [] => []
  | c :: r => if escI c.toNat then 92 :: c :: escL r else c :: escL r
def strT (l : List UInt8) : List UInt8 := 34 :: (escL l ++ [34])

theorem escL_len : ∀ l : List UInt8, (escL l).length ≤ 2 * l.length
  | [] => Nat.le_refl _
  | c :: r => by
    have := escL_len r
    unfold escL
    split <;> simp only [List.length_cons] <;> omega

set_option maxRecDepth 100000 in
set_option maxHeartbeats 4000000 in
theorem stringText_any (s : ByteArray) (w : World) (hs : s.size ≤ 100000) :
    Calls Tryz.prog 107 #[.string s] w fun e w' => e = .returned (.string (strB (strT s.data.toList))) ∧ Below w.heap.size w w' := by
  obtain ⟨i0, hi, hz0, hz1, hz2⟩ := info_parts info_u8
  have ap := fun (a : UInt8) (W : World) (v : Value) (acc : List UInt8) (h : W.ownsRow w.heap.size 5 1 v acc.length (acc.map u8V)) => h
  have hb0 : Below w.heap.size w (w.alloc (.cells #[.int .u8 34] 5)) := (Below.refl _ _).alloc (Nat.le_refl _) _
  have hown0 : (w.alloc (.cells #[.int .u8 34] 5)).ownsRow w.heap.size 5 1 (.slice (some ⟨w.heap.size, 0, none⟩) 1 1) 1 [.int .u8 34] := World.ownsRow_lit w #[.int .u8 34] 1 (Nat.le_refl _) (by decide) rfl
  clear ap
  have Hown0 := Lib.hid hown0
  clear hown0
  go_enter Tryz.func107, Tryz.ntmps107
  go_wp2_with fail
  go_loopw [3, 8] (fun v i wr => ∃ (k : Nat) (acc : List UInt8), i = .int .i64 k ∧ k ≤ s.size ∧ acc.length ≤ 2 * k + 1 ∧ Hid (34 :: escL s.data.toList = acc ++ escL (s.data.toList.drop k)) ∧ wr.ownsRow w.heap.size 5 1 v acc.length (acc.map u8V) ∧ Below w.heap.size w wr) (fun _ i _ => s.size - (intOf i).toNat)
  case atStart => exact ⟨0, [34], rfl, by omega, by simp, Lib.hid rfl, Hown0.out, hb0⟩
  case round =>
    obtain ⟨k, acc, rfl, hk, hal, H, hown, hb⟩ := hrel
    clear hb0 Hown0
    by_cases hlt : k < s.size
    · have Hdr := Lib.hid (drop_cons_at s k hlt)
      have cE := fun W => isEscaped_any (s[k].toNat : Int) W
      cases he : escI (s[k].toNat : Int)
      · have He := Lib.hid he
        rw [he] at cE
        clear he
        go_wp2_with (first | (go_at_call 126; refine (cE _).mono ?_; rintro e w' ⟨rfl, rfl⟩) | (at_builtin; refine wpList_append_own _ rfl _ _ 118 rfl w.heap.size 5 i0 (.int .u8 0) 1 1 Tryz.underlying118 hi hz0 hz1 hz2 rfl (by decide) _ _ _ rfl (hown.alloc _) ⟨_, 0, none⟩ 1 1 [.int .u8 (s[k].toNat : Int)] rfl rfl (cells_new _ _ _) (by simp [Value.oneCell']) (by unfold maxLen; omega) (by omega) (by have := hb.size; simp; omega) ?_; intro v' w2 hown' hgrow _))
        go_roundw
        case rel =>
          have hz3 := hb.size
          refine ⟨k + 1, acc ++ [s[k]], by go_num, by omega, by simp; omega, Lib.hid ?_, by simpa [u8V] using hown', ?_⟩
          · rw [H.out, Hdr.out, escL, if_neg (by simp [He.out]), List.append_assoc]; rfl
          · exact (hb.alloc (by omega) _).grown hgrow (by simp; omega) (fun k e => (World.ownsRow.lt hown k e).1)
        case measure => simp [intOf]; omega
      · have He := Lib.hid he
        rw [he] at cE
        clear he
        go_wp2_with (first | (go_at_call 126; refine (cE _).mono ?_; rintro e w' ⟨rfl, rfl⟩) | (at_builtin; refine wpList_append_own _ rfl (.tmp 15) _ 118 rfl w.heap.size 5 i0 (.int .u8 0) 1 1 Tryz.underlying118 hi hz0 hz1 hz2 rfl (by decide) _ _ _ rfl (hown.alloc _) ⟨_, 0, none⟩ 1 1 [.int .u8 92] rfl rfl (cells_new _ _ _) (by simp [Value.oneCell']) (by unfold maxLen; omega) (by omega) (by have := hb.size; simp; omega) ?_; intro v1 w1 hown1 hgrow1 _; have hb1 : Below w.heap.size w w1 := (hb.alloc (by have := hb.size; omega) _).grown hgrow1 (by have := hb.size; simp; omega) (fun k e => (World.ownsRow.lt hown k e).1)) | (at_builtin; refine wpList_append_own _ rfl (.tmp 18) _ 118 rfl w.heap.size 5 i0 (.int .u8 0) 1 1 Tryz.underlying118 hi hz0 hz1 hz2 rfl (by decide) _ _ _ rfl (hown1.alloc _) ⟨_, 0, none⟩ 1 1 [.int .u8 (s[k].toNat : Int)] rfl rfl (cells_new _ _ _) (by simp [Value.oneCell']) (by unfold maxLen; omega) (by omega) (by have := hb1.size; simp; omega) ?_; intro v' w2 hown' hgrow _))
        go_roundw
        case rel =>
          have hz3 := hb1.size
          refine ⟨k + 1, acc ++ [92, s[k]], by go_num, by omega, by simp; omega, Lib.hid ?_, by simpa [u8V] using hown', ?_⟩
          · rw [H.out, Hdr.out, escL, if_pos He.out, List.append_assoc]; rfl
          · exact (hb1.alloc (by omega) _).grown hgrow (by simp; omega) (fun k e => (World.ownsRow.lt hown1 k e).1)
        case measure => simp [intOf]; omega
    · have Hd : Hid (34 :: escL s.data.toList = acc) := Lib.hid (by rw [H.out, List.drop_of_length_le (by rw [← Lib.size_eq]; omega), escL, List.append_nil])
      go_wp2_with (at_builtin; refine wpList_append_own _ rfl _ _ 118 rfl w.heap.size 5 i0 (.int .u8 0) 1 1 Tryz.underlying118 hi hz0 hz1 hz2 rfl (by decide) _ _ _ rfl (hown.alloc _) ⟨_, 0, none⟩ 1 1 [.int .u8 34] rfl rfl (cells_new _ _ _) (by simp [Value.oneCell']) (by unfold maxLen; omega) (by omega) (by have := hb.size; simp; omega) ?_; intro v' w2 hown' hgrow _; have hcv := run_owned_str (P := Tryz.prog) (l := acc ++ [34]) Tryz.underlying118 Tryz.underlying5 Tryz.underlying9 (by simpa [u8V] using hown'))
      go_ret
      refine ⟨?_, (hb.alloc (by have := hb.size; omega) _).grown hgrow (by have := hb.size; simp; omega) (fun k e => (World.ownsRow.lt hown k e).1)⟩
      rw [strT, ← List.cons_append, Hd.out]
      rfl

end Go.Proofs.YtjbipplaacgnkaaGreatDoor

namespace Go.Proofs.YtjbipplaacgnkaaGreatDoor
open Go.RowKit

/-- The text of a bare item that is valid. -/
def textL (k n : Int) (s : List UInt8) : List UInt8 :=
  if k = 1 then Lib.itoa n else if k = 2 then decT n else if k = 3 then strT s else if k = 4 then s else if k = 5 then 58 :: (encL s ++ [58]) else 63 :: Lib.itoa n

def printL (k n : Int) (s : List UInt8) : Option (List UInt8) := if rightL k n s then some (textL k n s) else none

/-- A text and OK, or none and ErrForm. -/
def textV (o : Option (List UInt8)) : Value := match o with
  | some b => .tuple #[.string (strB b), .int .i64 0]
  | none => .tuple #[.string (strB []), .int .i64 2]

def printPost (v : Value) (w : World) (e : Ending) (w' : World) : Prop := e = .returned v ∧ Below w.heap.size w w'

theorem right_kind (k n : Int) (s : List UInt8) (h : rightL k n s = true) : ((k = 1 ∨ k = 2) ∧ s = [] ∧ -1000000000000000 < n ∧ n < 1000000000000000) ∨ (k = 6 ∧ s = [] ∧ (n = 0 ∨ n = 1)) ∨ (k = 3 ∧ n = 0 ∧ prL s = true) ∨ (k = 4 ∧ n = 0 ∧ s ≠ [] ∧ tlen s = s.length) ∨ (k = 5 ∧ n = 0) := by
  unfold rightL inNum at h
  split at h
  · rename_i hk
    simp at h
    exact .inl ⟨hk, h.1, h.2.1, h.2.2⟩
  · split at h
    · rename_i hk
      simp at h
      exact .inr (.inl ⟨hk, h.1, h.2⟩)
    · split at h
      · rename_i hk
        simp at h
        exact .inr (.inr (.inl ⟨hk, h.1, h.2⟩))
      · split at h
        · rename_i hk
          simp at h
          exact .inr (.inr (.inr (.inl ⟨hk, h.1, h.2.1, h.2.2⟩)))
        · split at h
          · rename_i hk
            simp at h
            exact .inr (.inr (.inr (.inr ⟨hk, h⟩)))
          · cases h

set_option maxRecDepth 100000 in
set_option maxHeartbeats 4000000 in
theorem print_any (k n : Int) (s : ByteArray) (w : World) (hs : s.size ≤ 100000) (hn : -9223372036854775808 ≤ n ∧ n ≤ 9223372036854775807) (hA : Alph w) (hP : Pow w) :
    Calls Tryz.prog 82 #[.agg #[.int .i64 k, .int .i64 n, .string s]] w (printPost (textV (printL k n s.data.toList)) w) := by
  have HA := Lib.hid hA
  have HP := Lib.hid hP
  clear hA hP
  have cR := fun W => right_any k n s W hs
  have hb0 : Below w.heap.size w (w.alloc (.cells #[.int .i64 k, .int .i64 n, .string s] 43)) := (Below.refl _ _).alloc (Nat.le_refl _) _
  have cell0 : ∀ W, Below (w.heap.size + 1) (w.alloc (.cells #[.int .i64 k, .int .i64 n, .string s] 43)) W → (W.cell? ⟨w.heap.size, 0, none⟩ = some (.int .i64 k) ∧ W.cell? ⟨w.heap.size, 1, none⟩ = some (.int .i64 n) ∧ W.cell? ⟨w.heap.size, 2, none⟩ = some (.string s)) ∧ w.heap.size < W.heap.size := by
    intro W hW
    refine ⟨⟨?_, ?_, ?_⟩, ?_⟩
    · rw [hW.cell (p := ⟨w.heap.size, 0, none⟩) (by simp)]; simp
    · rw [hW.cell (p := ⟨w.heap.size, 1, none⟩) (by simp)]; simp
    · rw [hW.cell (p := ⟨w.heap.size, 2, none⟩) (by simp)]; simp
    · have := hW.size; simp at this; omega
  have Cell0 := Lib.hid cell0
  clear cell0
  cases hr : rightL k n s.data.toList
  · have Hpl : Hid (textV (printL k n s.data.toList) = .tuple #[.string ⟨#[]⟩, .int .i64 2]) := Lib.hid (by rw [printL, hr]; rfl)
    rw [hr] at cR
    rw [Hpl.out]
    clear hr
    go_enter Tryz.func82, Tryz.ntmps82
    go_wp2_with fail
    refine (cR _).mono ?_
    rintro e w1 ⟨rfl, hb1⟩
    go_wp2
    go_ret2
    exact ⟨rfl, hb0.trans (hb1.mono hb0.size)⟩
  · have hk := right_kind k n _ hr
    have Hpl : Hid (printL k n s.data.toList = some (textL k n s.data.toList)) := Lib.hid (by rw [printL, hr]; rfl)
    rw [hr] at cR
    rw [Hpl.out]
    clear hr
    rcases hk with ⟨rfl | rfl, _, g0, g1⟩ | ⟨rfl, _, g0⟩ | ⟨rfl, rfl, _⟩ | ⟨rfl, rfl, _, _⟩ | ⟨rfl, rfl⟩
    · have cF := fun W hW => fmt_any n hn.1 hn.2 W hW
      show Calls _ _ _ _ (printPost (.tuple #[.string (strB (Lib.itoa n)), .int .i64 0]) w)
      generalize strB (Lib.itoa n) = z at cF
      go_enter Tryz.func82, Tryz.ntmps82
      go_wp2_with fail
      refine (cR _).mono ?_
      rintro e w1 ⟨rfl, hb1⟩
      have hb1' := hb0.trans (hb1.mono hb0.size)
      obtain ⟨⟨q0, q1, q2⟩, q3⟩ := Cell0.out w1 (hb1.mono (by simp))
      clear hb1
      go_wp2_with fail
      refine (cF _ (HP.out.below hb1')).mono ?_
      rintro e w2 ⟨rfl, hb2⟩
      go_wp2
      go_ret2
      exact ⟨rfl, hb1'.trans (hb2.mono hb1'.size)⟩
    · have cF := fun W hW => decimalText_any n g0 g1 W hW
      show Calls _ _ _ _ (printPost (.tuple #[.string (strB (decT n)), .int .i64 0]) w)
      generalize strB (decT n) = z at cF
      go_enter Tryz.func82, Tryz.ntmps82
      go_wp2_with fail
      refine (cR _).mono ?_
      rintro e w1 ⟨rfl, hb1⟩
      have hb1' := hb0.trans (hb1.mono hb0.size)
      obtain ⟨⟨q0, q1, q2⟩, q3⟩ := Cell0.out w1 (hb1.mono (by simp))
      clear hb1
      go_wp2_with fail
      refine (cF _ (HP.out.below hb1')).mono ?_
      rintro e w2 ⟨rfl, hb2⟩
      go_wp2
      go_ret2
      exact ⟨rfl, hb1'.trans (hb2.mono hb1'.size)⟩
    · have cF := fun W hW => fmt_any n hn.1 hn.2 W hW
      have Hfin : Hid ((⟨#[63]⟩ : ByteArray) ++ strB (Lib.itoa n) = strB (63 :: Lib.itoa n)) := Lib.hid (strB_append [63] _)
      have hz : (strB (Lib.itoa n)).size ≤ 10 := by
        rw [strB_size]
        rcases g0 with rfl | rfl <;> simp [Lib.itoa, Lib.decDigits_one]
      show Calls _ _ _ _ (printPost (.tuple #[.string (strB (63 :: Lib.itoa n)), .int .i64 0]) w)
      generalize strB (63 :: Lib.itoa n) = y at Hfin
      generalize strB (Lib.itoa n) = z at cF Hfin hz
      go_enter Tryz.func82, Tryz.ntmps82
      go_wp2_with fail
      refine (cR _).mono ?_
      rintro e w1 ⟨rfl, hb1⟩
      have hb1' := hb0.trans (hb1.mono hb0.size)
      obtain ⟨⟨q0, q1, q2⟩, q3⟩ := Cell0.out w1 (hb1.mono (by simp))
      clear hb1
      go_wp2_with fail
      refine (cF _ (HP.out.below hb1')).mono ?_
      rintro e w2 ⟨rfl, hb2⟩
      go_wp2
      go_ret2
      exact ⟨by rw [← Hfin.out]; rfl, hb1'.trans (hb2.mono hb1'.size)⟩
    · have cF := fun W => stringText_any s W hs
      show Calls _ _ _ _ (printPost (.tuple #[.string (strB (strT s.data.toList)), .int .i64 0]) w)
      generalize strB (strT s.data.toList) = z at cF
      go_enter Tryz.func82, Tryz.ntmps82
      go_wp2_with fail
      refine (cR _).mono ?_
      rintro e w1 ⟨rfl, hb1⟩
      have hb1' := hb0.trans (hb1.mono hb0.size)
      obtain ⟨⟨q0, q1, q2⟩, q3⟩ := Cell0.out w1 (hb1.mono (by simp))
      clear hb1
      go_wp2_with fail
      refine (cF _).mono ?_
      rintro e w2 ⟨rfl, hb2⟩
      go_wp2
      go_ret2
      exact ⟨rfl, hb1'.trans (hb2.mono hb1'.size)⟩
    · show Calls _ _ _ _ (printPost (.tuple #[.string (strB s.data.toList), .int .i64 0]) w)
      rw [strB_of]
      go_enter Tryz.func82, Tryz.ntmps82
      go_wp2_with fail
      refine (cR _).mono ?_
      rintro e w1 ⟨rfl, hb1⟩
      have hb1' := hb0.trans (hb1.mono hb0.size)
      obtain ⟨⟨q0, q1, q2⟩, q3⟩ := Cell0.out w1 (hb1.mono (by simp))
      clear hb1
      go_wp2
      go_ret2
      exact ⟨rfl, hb1'⟩
    · have cF := fun W hW => encode_any s W (by omega) hW
      have Hfin : Hid (((⟨#[58]⟩ : ByteArray) ++ strB (encL s.data.toList)) ++ (⟨#[58]⟩ : ByteArray) = strB (58 :: (encL s.data.toList ++ [58]))) := Lib.hid (by
        rw [show (⟨#[58]⟩ : ByteArray) = strB [58] from rfl, strB_append, strB_append]; rfl)
      have hz : (strB (encL s.data.toList)).size ≤ 1000000 := by
        have := encL_len s.data.toList
        rw [← Lib.size_eq] at this
        rw [strB_size]; omega
      show Calls _ _ _ _ (printPost (.tuple #[.string (strB (58 :: (encL s.data.toList ++ [58]))), .int .i64 0]) w)
      generalize strB (58 :: (encL s.data.toList ++ [58])) = y at Hfin
      generalize strB (encL s.data.toList) = z at cF Hfin hz
      go_enter Tryz.func82, Tryz.ntmps82
      go_wp2_with fail
      refine (cR _).mono ?_
      rintro e w1 ⟨rfl, hb1⟩
      have hb1' := hb0.trans (hb1.mono hb0.size)
      obtain ⟨⟨q0, q1, q2⟩, q3⟩ := Cell0.out w1 (hb1.mono (by simp))
      clear hb1
      go_wp2_with fail
      refine (cF _ (HA.out.below hb1')).mono ?_
      rintro e w2 ⟨rfl, hb2⟩
      go_wp2
      go_ret2
      exact ⟨by rw [← Hfin.out]; rfl, hb1'.trans (hb2.mono hb1'.size)⟩

end Go.Proofs.YtjbipplaacgnkaaGreatDoor

namespace Go.Proofs.YtjbipplaacgnkaaGreatDoor

theorem digit_nat (i : Nat) (h : i < 10) : (UInt8.ofNat (48 + i)).toNat = 48 + i := by
  rw [UInt8.toNat_ofNat']; omega

theorem digit_digI (i : Nat) (h : i < 10) : digI ((UInt8.ofNat (48 + i)).toNat : Int) = true := by
  rw [digit_nat i h]
  exact (digI_iff _).2 (by omega)

theorem decDigits_all (u : Nat) : (Lib.decDigits u).all (fun c => digI c.toNat) = true := by
  induction u using Nat.strongRecOn with
  | _ u ih =>
    by_cases h : u < 10
    · rw [Lib.decDigits, dif_pos h]
      simp only [List.all_cons, List.all_nil, Bool.and_true]
      exact digit_digI u h
    · rw [Lib.decDigits, dif_neg h, List.all_append, ih _ (by omega)]
      simp only [List.all_cons, List.all_nil, Bool.and_true, Bool.true_and]
      exact digit_digI _ (by omega)

theorem decDigits_num (u : Nat) : numL (Lib.decDigits u) = (u : Int) := by
  induction u using Nat.strongRecOn with
  | _ u ih =>
    by_cases h : u < 10
    · rw [Lib.decDigits, dif_pos h]
      simp only [numL, List.foldl_cons, List.foldl_nil]
      rw [digit_nat u h]; omega
    · rw [Lib.decDigits, dif_neg h, numL_snoc, ih _ (by omega), digit_nat _ (by omega)]
      omega

theorem nDigits_lt : ∀ (k u : Nat), 1 ≤ k → u < 10 ^ k → Lib.nDigits u ≤ k
  | 0, _, h, _ => absurd h (by omega)
  | k + 1, u, _, h => by
    by_cases h1 : u < 10
    · rw [Lib.nDigits_small h1]; omega
    · rw [Lib.nDigits_big h1]
      rcases Nat.eq_zero_or_pos k with rfl | hk
      · exact absurd h (by omega)
      · have := nDigits_lt k (u / 10) hk (by rw [Nat.pow_succ] at h; omega)
        omega

theorem decDigits_15 (u : Nat) (h : u < 1000000000000000) : (Lib.decDigits u).length ≤ 15 := by
  rw [Lib.decDigits_length]; exact nDigits_lt 15 u (by omega) h
theorem decDigits_12 (u : Nat) (h : u < 1000000000000) : (Lib.decDigits u).length ≤ 12 := by
  rw [Lib.decDigits_length]; exact nDigits_lt 12 u (by omega) h
theorem decDigits_1 (u : Nat) : 1 ≤ (Lib.decDigits u).length := by
  rw [Lib.decDigits_length]; exact Lib.nDigits_pos u

theorem numL_zeros (z : Nat) (l : List UInt8) : numL (List.replicate z 48 ++ l) = numL l := by
  induction z with
  | zero => rfl
  | succ z ih =>
    rw [List.replicate_succ, List.cons_append]
    unfold numL at ih ⊢
    rw [List.foldl_cons]
    exact ih

theorem numL_three (z : List UInt8) (a b c : UInt8) : numL (z ++ [a, b, c]) = 1000 * numL z + 100 * ((a.toNat : Int) - 48) + 10 * ((b.toNat : Int) - 48) + ((c.toNat : Int) - 48) := by
  simp only [numL, List.foldl_append, List.foldl_cons, List.foldl_nil]
  omega

/-- What may stand behind a value: nothing, or a byte that no token has. -/
def ends : List UInt8 → Bool
  | [] => true
  | c :: _ => !ttI c.toNat

theorem digit_tt (c : UInt8) : (!digI c.toNat || ttI c.toNat) = true := all_bytes (fun c => !digI c.toNat || ttI c.toNat) (by decide +kernel) c

theorem ldig_ends (t : List UInt8) (h : ends t = true) : ldig t = [] := by
  cases t with
  | nil => rfl
  | cons c t =>
    have := digit_tt c
    simp only [ends, Bool.not_eq_true'] at h
    rw [h, Bool.or_false, Bool.not_eq_true'] at this
    rw [ldig, List.takeWhile_cons, this]; rfl

theorem takeWhile_all (p : UInt8 → Bool) : ∀ (z t : List UInt8), z.all p = true → (z ++ t).takeWhile p = z ++ t.takeWhile p
  | [], _, _ => rfl
  | c :: z, t, h => by
    rw [List.all_cons, Bool.and_eq_true] at h
    rw [List.cons_append, List.takeWhile_cons, h.1, takeWhile_all p z t h.2]; rfl

theorem ldig_app (z t : List UInt8) (h : z.all (fun c => digI c.toNat) = true) (ht : ldig t = []) : ldig (z ++ t) = z := by
  rw [ldig, takeWhile_all _ _ _ h]
  rw [ldig] at ht
  rw [ht, List.append_nil]

theorem ends_not46 (t : List UInt8) (h : ends t = true) : t.head? ≠ some 46 := by
  cases t with
  | nil => simp
  | cons c t =>
    intro e
    simp only [List.head?_cons, Option.some.injEq] at e
    subst e
    exact absurd h (by rw [ends]; decide)

theorem numTail_of (b : Nat) (sg : Int) (l z t : List UInt8) (hd : l.drop b = z ++ t) (hz : z.all (fun c => digI c.toNat) = true) (h1 : 1 ≤ z.length) (h2 : z.length ≤ 15) (ht : ends t = true) :
    numTail b sg l = some ⟨1, sg * numL z, [], b + z.length⟩ := by
  refine numTail_int ?_ h1 h2 ?_
  · rw [hd, ldig_app z t hz (ldig_ends t ht)]
  · rw [← List.drop_drop, hd, List.drop_left]
    exact ends_not46 t ht

theorem numTail_dec_of (b : Nat) (sg : Int) (l z p t : List UInt8) (hd : l.drop b = z ++ 46 :: (p ++ t)) (hz : z.all (fun c => digI c.toNat) = true) (h1 : 1 ≤ z.length) (h2 : z.length ≤ 12)
    (hp : p.all (fun c => digI c.toNat) = true) (h3 : 1 ≤ p.length) (h4 : p.length ≤ 3) (ht : ends t = true) :
    numTail b sg l = some ⟨2, sg * numL (z ++ (p ++ [48, 48]).take 3), [], b + z.length + 1 + p.length⟩ := by
  refine numTail_dec ?_ h1 h2 ?_ ?_ h3 h4
  · rw [hd, ldig_app z _ hz]
    rw [ldig, List.takeWhile_cons]; rfl
  · rw [← List.drop_drop, hd, List.drop_left]; rfl
  · rw [Nat.add_assoc, ← List.drop_drop, hd, ← List.drop_drop, List.drop_left, List.drop_one, List.tail_cons, ldig_app p t hp (ldig_ends t ht)]

/-! ### base64 -/

/-- The characters ahead of what fills the last group up. -/
def encU : List UInt8 → List UInt8
  | x :: y :: z :: r => c0 x y z :: c1 x y z :: c2 x y z :: c3 x y z :: encU r
  | [x, y] => [c0 x y 0, c1 x y 0, c2 x y 0]
  | [x] => [c0 x 0 0, c1 x 0 0]
  | [] => []

theorem encL_pad : ∀ l : List UInt8, encL l = encU l ∨ encL l = encU l ++ [61] ∨ encL l = encU l ++ [61, 61]
  | [] => .inl rfl
  | [_] => .inr (.inr rfl)
  | [_, _] => .inr (.inl rfl)
  | x :: y :: z :: r => by
    rcases encL_pad r with h | h | h
    · exact .inl (by rw [encL, encU, h])
    · exact .inr (.inl (by rw [encL, encU, h]; rfl))
    · exact .inr (.inr (by rw [encL, encU, h]; rfl))

theorem alp_fin : ∀ i : Fin 64, alp i.val ≠ 61 ∧ alp i.val ≠ 58 ∧ valB (alp i.val) = i.val := by decide +kernel
theorem alp_none (n : Nat) (h : ¬ n < 64) : alp n = 0 := by
  rw [alp, List.getD_eq_getElem?_getD, List.getElem?_eq_none (by simpa [alphL] using h)]; rfl
theorem alp_61 (n : Nat) : alp n ≠ 61 ∧ alp n ≠ 58 := by
  by_cases h : n < 64
  · exact ⟨(alp_fin ⟨n, h⟩).1, (alp_fin ⟨n, h⟩).2.1⟩
  · rw [alp_none n h]; decide
theorem valB_alp (n : Nat) (h : n < 64) : valB (alp n) = n := (alp_fin ⟨n, h⟩).2.2

theorem encU_mem : ∀ (l : List UInt8) (c : UInt8), c ∈ encU l → c ≠ 61 ∧ c ≠ 58
  | [], _, h => by simp [encU] at h
  | [x], c, h => by
    simp only [encU, List.mem_cons, List.not_mem_nil, or_false] at h
    rcases h with rfl | rfl <;> exact alp_61 _
  | [x, y], c, h => by
    simp only [encU, List.mem_cons, List.not_mem_nil, or_false] at h
    rcases h with rfl | rfl | rfl <;> exact alp_61 _
  | x :: y :: z :: r, c, h => by
    simp only [encU, List.mem_cons] at h
    rcases h with rfl | rfl | rfl | rfl | h
    · exact alp_61 _
    · exact alp_61 _
    · exact alp_61 _
    · exact alp_61 _
    · exact encU_mem r c h

theorem trim_snoc (u : List UInt8) (c : UInt8) : Lib.trimRightB (u ++ [c]) c = Lib.trimRightB u c := by
  simp [Lib.trimRightB]
theorem trim_none (u : List UInt8) (c : UInt8) (h : ∀ x ∈ u, x ≠ c) : Lib.trimRightB u c = u := by
  rw [Lib.trimRightB_take u c u.length (Nat.le_refl _)]
  · simp
  · intro j b hj hb
    rw [List.getElem?_eq_none hj] at hb; cases hb
  · intro b _ hb
    exact h b (List.mem_of_getElem? hb)
theorem trim_enc (l : List UInt8) : Lib.trimRightB (encL l) 61 = encU l := by
  have h := trim_none (encU l) 61 (fun x hx => (encU_mem l x hx).1)
  rcases encL_pad l with e | e | e
  · rw [e, h]
  · rw [e, trim_snoc, h]
  · rw [e, show encU l ++ [61, 61] = (encU l ++ [61]) ++ [61] by simp, trim_snoc, trim_snoc, h]

theorem gN_four (a b c d : UInt8) : gN [a, b, c, d] 4 = ((valB a * 64 + valB b) * 64 + valB c) * 64 + valB d := by
  simp [gN, vAt]
theorem gN_three (a b c : UInt8) : gN [a, b, c] 4 = ((valB a * 64 + valB b) * 64 + valB c) * 64 := by
  simp [gN, vAt]
theorem gN_two (a b : UInt8) : gN [a, b] 4 = (valB a * 64 + valB b) * 64 * 64 := by
  simp [gN, vAt]

theorem val_c0 (x y z : UInt8) : valB (c0 x y z) = (65536 * x.toNat + 256 * y.toNat + z.toNat) / 262144 := by
  have h1 := x.toNat_lt
  have h2 := y.toNat_lt
  have h3 := z.toNat_lt
  exact valB_alp _ (by omega)
theorem val_c1 (x y z : UInt8) : valB (c1 x y z) = (65536 * x.toNat + 256 * y.toNat + z.toNat) / 4096 % 64 := valB_alp _ (by omega)
theorem val_c2 (x y z : UInt8) : valB (c2 x y z) = (65536 * x.toNat + 256 * y.toNat + z.toNat) / 64 % 64 := valB_alp _ (by omega)
theorem val_c3 (x y z : UInt8) : valB (c3 x y z) = (65536 * x.toNat + 256 * y.toNat + z.toNat) % 64 := valB_alp _ (by omega)

theorem by3_of (x y z : UInt8) (n : Nat) (h : n = 65536 * x.toNat + 256 * y.toNat + z.toNat) : by3 n = [x, y, z] := by
  have h1 := x.toNat_lt
  have h2 := y.toNat_lt
  have h3 := z.toNat_lt
  have e0 : UInt8.ofNat (n / 65536) = x := by
    apply UInt8.toNat_inj.1
    rw [UInt8.toNat_ofNat']; omega
  have e1 : UInt8.ofNat (n / 256) = y := by
    apply UInt8.toNat_inj.1
    rw [UInt8.toNat_ofNat']; omega
  have e2 : UInt8.ofNat n = z := by
    apply UInt8.toNat_inj.1
    rw [UInt8.toNat_ofNat']; omega
  rw [by3, b0, b1, b2, e0, e1, e2]

theorem z0 : (0 : UInt8).toNat = 0 := rfl

theorem rawG_encU : ∀ l : List UInt8, (∃ t, rawG (encU l) = l ++ t) ∧ (encU l).length * 3 / 4 = l.length
  | [] => ⟨⟨[], rfl⟩, rfl⟩
  | [x] => by
    have h1 := x.toNat_lt
    refine ⟨⟨[0, 0], ?_⟩, by simp [encU]⟩
    rw [encU, rawG_step _ (by simp)]
    simp only [List.take_succ_cons, List.take_nil, List.drop_succ_cons, List.drop_nil]
    rw [gN_two, by3_of x 0 0 _ (by rw [val_c0, val_c1, z0]; omega)]
    rfl
  | [x, y] => by
    have h1 := x.toNat_lt
    have h2 := y.toNat_lt
    refine ⟨⟨[0], ?_⟩, by simp [encU]⟩
    rw [encU, rawG_step _ (by simp)]
    simp only [List.take_succ_cons, List.take_nil, List.drop_succ_cons, List.drop_nil]
    rw [gN_three, by3_of x y 0 _ (by rw [val_c0, val_c1, val_c2, z0]; omega)]
    rfl
  | x :: y :: z :: r => by
    have h1 := x.toNat_lt
    have h2 := y.toNat_lt
    have h3 := z.toNat_lt
    obtain ⟨⟨t, ht⟩, hl⟩ := rawG_encU r
    refine ⟨⟨t, ?_⟩, ?_⟩
    · rw [encU, rawG_step _ (by simp)]
      simp only [List.take_succ_cons, List.take_zero, List.drop_succ_cons, List.drop_zero]
      rw [gN_four, by3_of x y z _ (by rw [val_c0, val_c1, val_c2, val_c3]; omega), ht]
      rfl
    · rw [encU]
      simp only [List.length_cons]
      omega

theorem rawL_encU (l : List UInt8) : rawL (encU l) = l := by
  obtain ⟨⟨t, ht⟩, hl⟩ := rawG_encU l
  rw [rawL, ht, hl, List.take_left]

/-- What was encoded is decoded. -/
theorem decL_encL (l : List UInt8) : decL (encL l) = some l := by
  rw [decL, trim_enc, rawL_encU, if_pos rfl]
theorem decL_some (s d : List UInt8) (h : decL s = some d) : encL d = s := by
  unfold decL at h
  split at h
  · rename_i e
    rw [← Option.some.inj h]; exact e
  · cases h

theorem encL_58 (l : List UInt8) (c : UInt8) (h : c ∈ encL l) : c ≠ 58 := by
  rcases encL_pad l with e | e | e
  all_goals
    rw [e] at h
    first
    | exact (encU_mem l c h).2
    | (rw [List.mem_append] at h
       rcases h with h | h
       · exact (encU_mem l c h).2
       · simp only [List.mem_cons, List.not_mem_nil, or_false, or_self] at h
         subst h
         decide)

theorem indexByte_at (c : UInt8) (t : List UInt8) : ∀ u : List UInt8, (∀ x ∈ u, x ≠ c) → Lib.indexByte (u ++ c :: t) c = (u.length : Int)
  | [], _ => by simp [Lib.indexByte]
  | x :: u, h => by
    have hx : (x == c) = false := by simpa using h x (List.mem_cons_self ..)
    have ih := indexByte_at c t u (fun y hy => h y (List.mem_cons_of_mem _ hy))
    have hn : ((u.length : Int) == -1) = false := by simp
    rw [List.cons_append, Lib.indexByte, hx, ih, hn]
    simp

end Go.Proofs.YtjbipplaacgnkaaGreatDoor

namespace Go.Proofs.YtjbipplaacgnkaaGreatDoor

theorem readL_num (c : UInt8) (r : List UInt8) (h : c = 45 ∨ digI c.toNat = true) : readL (c :: r) = readNumL (c :: r) := by
  unfold readL
  rcases h with rfl | h
  · rfl
  · simp only [h, Bool.or_true, if_true]

theorem decDigits_cons (m : Nat) : ∃ c r, Lib.decDigits m = c :: r ∧ digI c.toNat = true := by
  have h1 := decDigits_1 m
  have h2 := decDigits_all m
  match h : Lib.decDigits m with
  | [] => rw [h] at h1; simp at h1
  | c :: r =>
    rw [h, List.all_cons, Bool.and_eq_true] at h2
    exact ⟨c, r, rfl, h2.1⟩

theorem digit_not45 (c : UInt8) (h : digI c.toNat = true) : c ≠ 45 := by
  intro e; subst e; exact absurd h (by decide)

/-- A number behind its sign, where digits come first. -/
theorem readL_plus (c : UInt8) (r : List UInt8) (h : digI c.toNat = true) : readL (c :: r) = numTail 0 1 (c :: r) := by
  rw [readL_num c r (.inr h), readNumL, if_neg]
  simpa using digit_not45 c h
theorem readL_minus (r : List UInt8) : readL (45 :: r) = numTail 1 (-1) (45 :: r) := by
  rw [readL_num 45 r (.inl rfl), readNumL, if_pos (by simp)]

theorem read_int (m : Nat) (h : m < 1000000000000000) (t : List UInt8) (ht : ends t = true) :
    readL (Lib.decDigits m ++ t) = some ⟨1, (m : Int), [], (Lib.decDigits m).length⟩ ∧ readL (45 :: (Lib.decDigits m ++ t)) = some ⟨1, -(m : Int), [], (Lib.decDigits m).length + 1⟩ := by
  refine ⟨?_, ?_⟩
  · obtain ⟨c, r, e, hc⟩ := decDigits_cons m
    have := numTail_of 0 1 (Lib.decDigits m ++ t) (Lib.decDigits m) t (List.drop_zero ..) (decDigits_all m) (decDigits_1 m) (decDigits_15 m h) ht
    rw [decDigits_num] at this
    rw [← Int.one_mul (m : Int), ← Nat.zero_add (Lib.decDigits m).length, ← this, e]
    exact readL_plus c (r ++ t) hc
  · rw [readL_minus, numTail_of 1 (-1) (45 :: (Lib.decDigits m ++ t)) (Lib.decDigits m) t rfl (decDigits_all m) (decDigits_1 m) (decDigits_15 m h) ht, decDigits_num, Nat.add_comm, Int.neg_one_mul]

theorem trim_two (a b : UInt8) : ∃ q, Lib.trimRightB [a, b] 48 = q ∧ q.length ≤ 2 ∧ (∀ x, x ∈ q → x = a ∨ x = b) ∧ (q ++ [48, 48]).take 2 = [a, b] := by
  by_cases hb : b = 48
  · subst hb
    by_cases ha : a = 48
    · subst ha
      exact ⟨[], by decide, by simp, by simp, rfl⟩
    · refine ⟨[a], ?_, by simp, by simp, rfl⟩
      have : (a == 48) = false := by simpa using ha
      simp [Lib.trimRightB, this]
  · refine ⟨[a, b], ?_, by simp, by simp, rfl⟩
    have : (b == 48) = false := by simpa using hb
    simp [Lib.trimRightB, this]

theorem decN_is (m : Nat) : ∃ p, decN m = Lib.decDigits (m / 1000) ++ 46 :: p ∧ 1 ≤ p.length ∧ p.length ≤ 3 ∧ p.all (fun c => digI c.toNat) = true ∧ numL (Lib.decDigits (m / 1000) ++ (p ++ [48, 48]).take 3) = (m : Int) := by
  obtain ⟨q, h1, h2, h3, h4⟩ := trim_two (UInt8.ofNat (48 + m % 1000 / 10 % 10)) (UInt8.ofNat (48 + m % 1000 % 10))
  refine ⟨UInt8.ofNat (48 + m % 1000 / 100) :: q, by rw [decN, h1], by simp, by simp; omega, ?_, ?_⟩
  · rw [List.all_cons, digit_digI _ (by omega), Bool.true_and, List.all_eq_true]
    intro x hx
    rcases h3 x hx with rfl | rfl
    · exact digit_digI _ (by omega)
    · exact digit_digI _ (by omega)
  · rw [List.cons_append, List.take_succ_cons, h4, numL_three, decDigits_num, digit_nat _ (by omega), digit_nat _ (by omega), digit_nat _ (by omega)]
    omega

theorem read_dec (m : Nat) (h : m < 1000000000000000) (t : List UInt8) (ht : ends t = true) :
    readL (decN m ++ t) = some ⟨2, (m : Int), [], (decN m).length⟩ ∧ readL (45 :: (decN m ++ t)) = some ⟨2, -(m : Int), [], (decN m).length + 1⟩ := by
  obtain ⟨p, e, p1, p3, pa, pn⟩ := decN_is m
  obtain ⟨c, r, ec, hc⟩ := decDigits_cons (m / 1000)
  rw [e]
  refine ⟨?_, ?_⟩
  · have := numTail_dec_of 0 1 (Lib.decDigits (m / 1000) ++ 46 :: p ++ t) (Lib.decDigits (m / 1000)) p t (by simp) (decDigits_all _) (decDigits_1 _) (decDigits_12 _ (by omega)) pa p1 p3 ht
    rw [pn] at this
    have h2 : readL (Lib.decDigits (m / 1000) ++ 46 :: p ++ t) = numTail 0 1 (Lib.decDigits (m / 1000) ++ 46 :: p ++ t) := by
      rw [ec]; exact readL_plus c _ hc
    rw [h2, this, Int.one_mul, List.length_append, List.length_cons]
    congr 2; omega
  · rw [readL_minus, numTail_dec_of 1 (-1) (45 :: (Lib.decDigits (m / 1000) ++ 46 :: p ++ t)) (Lib.decDigits (m / 1000)) p t (by simp) (decDigits_all _) (decDigits_1 _) (decDigits_12 _ (by omega)) pa p1 p3 ht, pn, Int.neg_one_mul, List.length_append, List.length_cons]
    congr 2; omega

theorem escI_cases (c : UInt8) (h : escI c.toNat = true) : c = 34 ∨ c = 92 := by
  have := all_bytes (fun c => !escI c.toNat || (c == 34 || c == 92)) (by decide +kernel) c
  rw [h] at this
  simpa using this
theorem escI_none (c : UInt8) (h : escI c.toNat = false) : c ≠ 34 ∧ c ≠ 92 := by
  refine ⟨?_, ?_⟩ <;> (intro e; subst e; exact absurd h (by decide))

theorem rsL_print (t : List UInt8) : ∀ (s acc : List UInt8) (m : Nat), prL s = true → rsL (escL s ++ 34 :: t) acc m = some ⟨3, 0, acc ++ s, m + (escL s).length + 1⟩
  | [], acc, m, _ => by rw [escL, List.nil_append, rsL_quote, List.append_nil]; rfl
  | c :: s, acc, m, h => by
    rw [prL, List.all_cons, Bool.and_eq_true] at h
    have ih := fun a b => rsL_print t s a b h.2
    unfold escL
    cases he : escI c.toNat
    · obtain ⟨n1, n2⟩ := escI_none c he
      rw [if_neg (by simp), List.cons_append, rsL_other _ _ _ _ n1 n2, if_pos h.1, ih]
      simp only [List.append_assoc, List.length_cons, List.cons_append, List.nil_append]
      congr 2; omega
    · rw [if_pos rfl, List.cons_append, List.cons_append, rsL_esc, if_pos he, ih]
      simp only [List.append_assoc, List.length_cons, List.cons_append, List.nil_append]
      congr 2; omega

theorem read_str (s t : List UInt8) (h : prL s = true) : readL (strT s ++ t) = some ⟨3, 0, s, (strT s).length⟩ := by
  have h1 : strT s ++ t = 34 :: (escL s ++ 34 :: t) := by simp [strT]
  have h2 : readL (34 :: (escL s ++ 34 :: t)) = readStrL (34 :: (escL s ++ 34 :: t)) := rfl
  rw [h1, h2, readStrL, List.drop_one, List.tail_cons, rsL_print t s [] 1 h, strT]
  simp only [List.length_cons, List.length_append, List.length_nil, List.nil_append]
  congr 2; omega

theorem btI_facts (c : UInt8) (h : btI c.toNat = true) : (c == 45 || digI c.toNat) = false ∧ (c == 34) = false := by
  have := all_bytes (fun c => !btI c.toNat || (!(c == 45 || digI c.toNat) && !(c == 34))) (by decide +kernel) c
  rw [h, Bool.not_true, Bool.false_or, Bool.and_eq_true, Bool.not_eq_true', Bool.not_eq_true'] at this
  exact this

theorem readL_tok (c : UInt8) (r : List UInt8) (h : btI c.toNat = true) : readL (c :: r) = some ⟨4, 0, (c :: r).take (tlen (c :: r)), tlen (c :: r)⟩ := by
  obtain ⟨h1, h2⟩ := btI_facts c h
  unfold readL
  simp only [h1, h2, h, if_true, if_false, Bool.false_eq_true]

theorem takeWhile_len (p : UInt8 → Bool) : ∀ l : List UInt8, (l.takeWhile p).length = l.length → l.all p = true
  | [], _ => rfl
  | c :: l, h => by
    rw [List.takeWhile_cons] at h
    split at h
    · rename_i hc
      simp only [List.length_cons, Nat.add_right_cancel_iff] at h
      rw [List.all_cons, hc, takeWhile_len p l h]; rfl
    · simp at h

theorem tlen_app (s t : List UInt8) (h0 : s ≠ []) (h : tlen s = s.length) (ht : ends t = true) : ∃ c r, s = c :: r ∧ btI c.toNat = true ∧ tlen (s ++ t) = s.length := by
  match s, h0 with
  | c :: r, _ =>
    rw [tlen] at h
    split at h
    · rename_i hc
      simp only [List.length_cons] at h
      have hr := takeWhile_len (fun c => ttI c.toNat) r (by omega)
      refine ⟨c, r, rfl, hc, ?_⟩
      rw [List.cons_append, tlen, if_pos hc, takeWhile_all _ r t hr]
      have : t.takeWhile (fun c => ttI c.toNat) = [] := by
        cases t with
        | nil => rfl
        | cons d t =>
          simp only [ends, Bool.not_eq_true'] at ht
          rw [List.takeWhile_cons, ht]; rfl
      rw [this, List.append_nil, List.length_cons]; omega
    · simp at h

theorem read_tok (s t : List UInt8) (h0 : s ≠ []) (h : tlen s = s.length) (ht : ends t = true) : readL (s ++ t) = some ⟨4, 0, s, s.length⟩ := by
  obtain ⟨c, r, rfl, hc, hl⟩ := tlen_app s t h0 h ht
  have := readL_tok c (r ++ t) hc
  rw [List.cons_append] at hl ⊢
  rw [this, hl, ← List.cons_append, List.take_left]

theorem read_bytes (s t : List UInt8) : readL (58 :: (encL s ++ [58]) ++ t) = some ⟨5, 0, s, (58 :: (encL s ++ [58])).length⟩ := by
  have h1 : 58 :: (encL s ++ [58]) ++ t = 58 :: (encL s ++ 58 :: t) := by simp
  have h2 : readL (58 :: (encL s ++ 58 :: t)) = readBytesL (58 :: (encL s ++ 58 :: t)) := rfl
  have h3 := indexByte_at 58 t (encL s) (fun x hx => encL_58 s x hx)
  rw [h1, h2, readBytesL, List.drop_one, List.tail_cons, h3, if_neg (by omega), Int.toNat_natCast, List.take_left, decL_encL]
  simp only [List.length_cons, List.length_append, List.length_nil]

theorem read_bool (n : Int) (h : n = 0 ∨ n = 1) (t : List UInt8) : readL (63 :: Lib.itoa n ++ t) = some ⟨6, n, [], (63 :: Lib.itoa n).length⟩ := by
  rcases h with rfl | rfl
  · have : Lib.itoa 0 = [48] := by simp [Lib.itoa, Lib.decDigits_one]
    rw [this]; rfl
  · have : Lib.itoa 1 = [49] := by simp [Lib.itoa, Lib.decDigits_one]
    rw [this]; rfl

/-- What was printed is read, whatever stands behind it that ends it. -/
theorem readL_text (k n : Int) (s t : List UInt8) (h : rightL k n s = true) (ht : ends t = true) : readL (textL k n s ++ t) = some ⟨k, n, s, (textL k n s).length⟩ := by
  rcases right_kind k n s h with ⟨rfl | rfl, rfl, g0, g1⟩ | ⟨rfl, rfl, g0⟩ | ⟨rfl, rfl, g0⟩ | ⟨rfl, rfl, g0, g1⟩ | ⟨rfl, rfl⟩
  · show readL (Lib.itoa n ++ t) = some ⟨1, n, [], (Lib.itoa n).length⟩
    obtain ⟨m, hm⟩ : ∃ m : Nat, n.natAbs = m := ⟨_, rfl⟩
    obtain ⟨r1, r2⟩ := read_int m (by omega) t ht
    by_cases hn : n < 0
    · have e1 : Lib.itoa n = 45 :: Lib.decDigits m := by rw [Lib.itoa, if_pos hn, hm]
      rw [e1, List.cons_append, r2, List.length_cons]
      congr 2; omega
    · have e1 : Lib.itoa n = Lib.decDigits m := by rw [Lib.itoa, if_neg hn, show n.toNat = m by omega]
      rw [e1, r1]
      congr 2; omega
  · show readL (decT n ++ t) = some ⟨2, n, [], (decT n).length⟩
    obtain ⟨m, hm⟩ : ∃ m : Nat, n.natAbs = m := ⟨_, rfl⟩
    obtain ⟨r1, r2⟩ := read_dec m (by omega) t ht
    by_cases hn : n < 0
    · have e1 : decT n = 45 :: decN m := by rw [decT, if_pos hn, hm]
      rw [e1, List.cons_append, r2, List.length_cons]
      congr 2; omega
    · have e1 : decT n = decN m := by rw [decT, if_neg hn, hm]
      rw [e1, r1]
      congr 2; omega
  · exact read_bool n g0 t
  · exact read_str s t g0
  · exact read_tok s t g0 g1 ht
  · exact read_bytes s t

end Go.Proofs.YtjbipplaacgnkaaGreatDoor
