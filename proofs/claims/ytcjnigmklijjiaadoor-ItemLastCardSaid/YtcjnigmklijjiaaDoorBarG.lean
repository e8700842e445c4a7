/- The contracts of bare.decimalText and bare.stringText. -/
import Derived.Test.YtcjnigmklijjiaaDoorRawP
import Derived.Lib.AppendIntMem
import Derived.Lib.ItoaNum
import Derived.Lib.TrimByte
import Derived.Laws.OwnMore
namespace Go.Proofs.YtcjnigmklijjiaaDoor
open Go.RowKit

/-- The powers of ten lie where they were laid. -/
def Pow (w : World) : Prop := Lib.TabIs Tryd.prog w "internal/strconv.uint64pow10" .u64 Lib.pow10Tab
theorem Pow.below {w w' : World} (h : Pow w) (hb : Below w.heap.size w w') : Pow w' := Lib.tabBelow_of_tabIs h w' hb

theorem fmt_any (n : Int) (h0 : -9223372036854775808 ≤ n) (h1 : n ≤ 9223372036854775807) (w : World) (hP : Pow w) :
    Calls Tryd.prog 25 #[.int .i64 n, .int .i64 10] w fun e w' => e = .returned (.string (strB (Lib.itoa n))) ∧ Below w.heap.size w w' := by
  refine (Tryd.strconv_FormatInt_10 n h0 h1 w hP).mono ?_
  rintro e w' ⟨rfl, k, os, rfl⟩
  exact ⟨rfl, Lib.below_grow _ _ (Nat.le_refl _) k os⟩

theorem itoa_nat (n : Nat) : Lib.itoa (n : Int) = Lib.decDigits n := by
  rw [Lib.itoa, if_neg (by omega)]; rfl
theorem itoa_neg (n : Nat) (h : 0 < n) : Lib.itoa (-(n : Int)) = 45 :: Lib.decDigits n := by
  rw [Lib.itoa, if_pos (by omega)]; simp

theorem dec_thousand (m : Nat) (h : m < 1000) : Lib.decDigits (1000 + m) = [49, UInt8.ofNat (48 + m / 100), UInt8.ofNat (48 + m / 10 % 10), UInt8.ofNat (48 + m % 10)] := by
  rw [Lib.decDigits, dif_neg (by omega), Lib.decDigits, dif_neg (by omega), Lib.decDigits_two (by omega) (by omega)]
  rw [show (1000 + m) / 10 / 10 / 10 = 1 by omega, show (1000 + m) / 10 / 10 % 10 = m / 100 by omega, show (1000 + m) / 10 % 10 = m / 10 % 10 by omega, show (1000 + m) % 10 = m % 10 by omega]
  rfl

theorem nDigits_le (u : Nat) : Lib.nDigits u ≤ u + 1 := by
  induction u using Nat.strongRecOn with
  | _ u ih =>
    by_cases h : u < 10
    · rw [Lib.nDigits_small h]; omega
    · rw [Lib.nDigits_big h]
      have := ih (u / 10) (by omega)
      omega
theorem decDigits_le (u : Nat) : (Lib.decDigits u).length ≤ u + 1 := by rw [Lib.decDigits_length]; exact nDigits_le u

/-- The text of a decimal that is not below 0, in thousandths. -/
def decN (n : Nat) : List UInt8 := Lib.decDigits (n / 1000) ++ (46 :: UInt8.ofNat (48 + n % 1000 / 100) :: Lib.trimRightB [UInt8.ofNat (48 + n % 1000 / 10 % 10), UInt8.ofNat (48 + n % 1000 % 10)] 48)
def decT (n : Int) : List UInt8 := if n < 0 then 45 :: decN n.natAbs else decN n.natAbs

set_option maxRecDepth 100000 in
set_option maxHeartbeats 4000000 in
theorem decimalText_any (n : Int) (h0 : -1000000000000000 < n) (h1 : n < 1000000000000000) (w : World) (hP : Pow w) :
    Calls Tryd.prog 26 #[.int .i64 n] w fun e w' => e = .returned (.string (strB (decT n))) ∧ Below w.heap.size w w' := by
  have HP := Lib.hid hP
  clear hP
  obtain ⟨m, hm⟩ : ∃ m : Nat, n.natAbs = m := ⟨_, rfl⟩
  have hm2 : m < 1000000000000000 := by omega
  obtain ⟨W0, hW0⟩ : ∃ W0, strB (Lib.decDigits (m / 1000)) = W0 := ⟨_, rfl⟩
  obtain ⟨Q, hQ⟩ : ∃ Q, strB (Lib.decDigits (1000 + m % 1000)) = Q := ⟨_, rfl⟩
  have cF := fun W hW => fmt_any ((m / 1000 : Nat) : Int) (by omega) (by omega) W hW
  have cG := fun W hW => fmt_any ((1000 + m % 1000 : Nat) : Int) (by omega) (by omega) W hW
  rw [itoa_nat, hW0] at cF
  rw [itoa_nat, hQ] at cG
  have hql : Q.data.toList = [49, UInt8.ofNat (48 + m % 1000 / 100), UInt8.ofNat (48 + m % 1000 / 10 % 10), UInt8.ofNat (48 + m % 1000 % 10)] := by
    rw [← hQ, strB_data, dec_thousand _ (by omega)]
  have HQ := Lib.hid hql
  have hqs : Q.size = 4 := by rw [Lib.size_eq, hql]; rfl
  have HN : Hid (decN m = W0.data.toList ++ (46 :: UInt8.ofNat (48 + m % 1000 / 100) :: Lib.trimRightB [UInt8.ofNat (48 + m % 1000 / 10 % 10), UInt8.ofNat (48 + m % 1000 % 10)] 48)) := Lib.hid (by rw [← hW0, strB_data]; rfl)
  obtain ⟨P, hPp⟩ : ∃ P, Q.extract 1 4 = P := ⟨_, rfl⟩
  have HPl : Hid (P.data.toList = [UInt8.ofNat (48 + m % 1000 / 100), UInt8.ofNat (48 + m % 1000 / 10 % 10), UInt8.ofNat (48 + m % 1000 % 10)]) := Lib.hid (by rw [← hPp, Lib.extract_data, hql]; rfl)
  have hps : P.size = 3 := by rw [Lib.size_eq, HPl.out]; rfl
  have hw0 : W0.size ≤ 1000000000001 := by
    have := decDigits_le (m / 1000)
    rw [← hW0, strB_size]; omega
  clear hW0 hQ hql
  have cT := fun W => Tryd.strings_TrimRight_one (P.extract 1 3) 48 (by decide) W (by rw [Lib.size_eq, Lib.extract_data, HPl.out]; simp)
  obtain ⟨T, hT⟩ : ∃ T : ByteArray, (⟨(Lib.trimRightB (P.extract 1 3).data.toList 48).toArray⟩ : ByteArray) = T := ⟨_, rfl⟩
  rw [hT] at cT
  have HT : Hid (T.data.toList = Lib.trimRightB [UInt8.ofNat (48 + m % 1000 / 10 % 10), UInt8.ofNat (48 + m % 1000 % 10)] 48) := Lib.hid (by
    rw [← hT, Lib.extract_data, HPl.out]; rfl)
  clear hT
  have ht2 : T.size ≤ 2 := by
    have := trimRightB_le [UInt8.ofNat (48 + m % 1000 / 10 % 10), UInt8.ofNat (48 + m % 1000 % 10)] 48
    rw [Lib.size_eq, HT.out]; exact this
  have N1 : Hid (¬ 9223372036854775807 < W0.size) := Lib.hid (by omega)
  have N2 : Hid (¬ 9223372036854775807 < 1 + W0.size) := Lib.hid (by omega)
  have N3 : Hid (¬ 9223372036854775807 < W0.size + 1) := Lib.hid (by omega)
  have N4 : Hid (¬ 9223372036854775807 < 1 + W0.size + 1) := Lib.hid (by omega)
  have N5 : Hid (¬ 9223372036854775807 < W0.size + 1 + 1) := Lib.hid (by omega)
  have N6 : Hid (¬ 9223372036854775807 < 1 + W0.size + 1 + 1) := Lib.hid (by omega)
  have N7 : Hid (¬ 9223372036854775807 < W0.size + 1 + 1 + T.size) := Lib.hid (by omega)
  have N8 : Hid (¬ 9223372036854775807 < 1 + W0.size + 1 + 1 + T.size) := Lib.hid (by omega)
  have Hfin : Hid (∀ S : ByteArray, (((((S ++ W0) ++ (⟨#[46]⟩ : ByteArray)) ++ P.extract 0 1) ++ T)) = strB (S.data.toList ++ decN m)) := Lib.hid (by
    intro S
    rw [← strB_of (S ++ W0 ++ (⟨#[46]⟩ : ByteArray) ++ P.extract 0 1 ++ T)]
    congr 1
    rw [append_data, append_data, append_data, append_data, HT.out, HN.out, extract_take, HPl.out]
    simp)
  by_cases hn : n < 0
  · have e1 : Hid (decT n = 45 :: decN m) := Lib.hid (by rw [decT, if_pos hn, hm])
    have hneg : -n = (m : Int) := by omega
    have q1 : ((m : Int) / 1000) = ((m / 1000 : Nat) : Int) := by omega
    have q2 : 1000 + ((m : Int) % 1000) = ((1000 + m % 1000 : Nat) : Int) := by omega
    have hd : decide (n < 0) = true := by simpa using hn
    clear hm HN HT HPl
    generalize m / 1000 = m1 at q1 cF
    generalize 1000 + m % 1000 = m2 at q2 cG
    go_enter Tryd.func26, Tryd.ntmps26
    go_wp2_with fail
    refine (cF _ HP.out).mono ?_
    rintro e w1 ⟨rfl, hb1⟩
    go_wp2_with fail
    refine (cG _ (HP.out.below hb1)).mono ?_
    rintro e w2 ⟨rfl, hb2⟩
    go_wp2_with fail
    have n1 := N1.out
    have n2 := N2.out
    have n3 := N3.out
    have n4 := N4.out
    have n5 := N5.out
    have n6 := N6.out
    have n7 := N7.out
    have n8 := N8.out
    go_quiet ((go_at_call 45; exact Calls.quiet_of_same (cT _)))
    go_wp2
    go_ret
    have hb3 := hb1.trans (hb2.mono hb1.size)
    refine ⟨?_, hb3.trans ((below_drewN w2 nq).mono hb3.size)⟩
    rw [e1.out]
    exact congrArg (fun s => Ending.returned (.string s)) (Hfin.out ⟨#[45]⟩)
  · have e1 : Hid (decT n = decN m) := Lib.hid (by rw [decT, if_neg hn, hm])
    obtain rfl : n = (m : Int) := by omega
    have q1 : ((m : Int) / 1000) = ((m / 1000 : Nat) : Int) := by omega
    have q2 : 1000 + ((m : Int) % 1000) = ((1000 + m % 1000 : Nat) : Int) := by omega
    have hd : decide ((m : Int) < 0) = false := by simp
    clear hm HN HT HPl h0 h1 hn
    generalize m / 1000 = m1 at q1 cF
    generalize 1000 + m % 1000 = m2 at q2 cG
    go_enter Tryd.func26, Tryd.ntmps26
    go_wp2_with fail
    refine (cF _ HP.out).mono ?_
    rintro e w1 ⟨rfl, hb1⟩
    go_wp2_with fail
    refine (cG _ (HP.out.below hb1)).mono ?_
    rintro e w2 ⟨rfl, hb2⟩
    go_wp2_with fail
    have n1 := N1.out
    have n2 := N2.out
    have n3 := N3.out
    have n4 := N4.out
    have n5 := N5.out
    have n6 := N6.out
    have n7 := N7.out
    have n8 := N8.out
    go_quiet ((go_at_call 45; exact Calls.quiet_of_same (cT _)))
    go_wp2
    go_ret
    have hb3 := hb1.trans (hb2.mono hb1.size)
    refine ⟨?_, hb3.trans ((below_drewN w2 nq).mono hb3.size)⟩
    rw [e1.out]
    exact congrArg (fun s => Ending.returned (.string s)) (Hfin.out ⟨#[]⟩)

theorem encL_len : ∀ l : List UInt8, (encL l).length = (l.length + 2) / 3 * 4
  | [] => rfl
  | [_] => by simp [encL]
  | [_, _] => by simp [encL]
  | x :: y :: z :: r => by
    have := encL_len r
    simp only [encL, List.length_cons, this]
    omega

/-- A text with its quotes and backslashes escaped. -/
def escL : List UInt8 → List UInt8
  | [] => []
  | c :: r => if escI c.toNat then 92 :: c :: escL r else c :: escL r
def strT (l : List UInt8) : List UInt8 := 34 :: (escL l ++ [34])

theorem escL_len : ∀ l : List UInt8, (escL l).length ≤ 2 * l.length
  | [] => Nat.le_refl _
  | c :: r => by
    have := escL_len r
    unfold escL
    split <;> simp only [List.length_cons] <;> omega

set_option maxRecDepth 100000 in
set_option maxHeartbeats 4000000 in
theorem stringText_any (s : ByteArray) (w : World) (hs : s.size ≤ 100000) :
    Calls Tryd.prog 27 #[.string s] w fun e w' => e = .returned (.string (strB (strT s.data.toList))) ∧ Below w.heap.size w w' := by
  obtain ⟨i0, hi, hz0, hz1, hz2⟩ := info_parts info_u8
  have ap := fun (a : UInt8) (W : World) (v : Value) (acc : List UInt8) (h : W.ownsRow w.heap.size 5 1 v acc.length (acc.map u8V)) => h
  have hb0 : Below w.heap.size w (w.alloc (.cells #[.int .u8 34] 5)) := (Below.refl _ _).alloc (Nat.le_refl _) _
  have hown0 : (w.alloc (.cells #[.int .u8 34] 5)).ownsRow w.heap.size 5 1 (.slice (some ⟨w.heap.size, 0, none⟩) 1 1) 1 [.int .u8 34] := World.ownsRow_lit w #[.int .u8 34] 1 (Nat.le_refl _) (by decide) rfl
  clear ap
  have Hown0 := Lib.hid hown0
  clear hown0
  go_enter Tryd.func27, Tryd.ntmps27
  go_wp2_with fail
  go_loopw [3, 8] (fun v i wr => ∃ (k : Nat) (acc : List UInt8), i = .int .i64 k ∧ k ≤ s.size ∧ acc.length ≤ 2 * k + 1 ∧ Hid (34 :: escL s.data.toList = acc ++ escL (s.data.toList.drop k)) ∧ wr.ownsRow w.heap.size 5 1 v acc.length (acc.map u8V) ∧ Below w.heap.size w wr) (fun _ i _ => s.size - (intOf i).toNat)
  case atStart => exact ⟨0, [34], rfl, by omega, by simp, Lib.hid rfl, Hown0.out, hb0⟩
  case round =>
    obtain ⟨k, acc, rfl, hk, hal, H, hown, hb⟩ := hrel
    clear hb0 Hown0
    by_cases hlt : k < s.size
    · have Hdr := Lib.hid (drop_cons_at s k hlt)
      have cE := fun W => isEscaped_any (s[k].toNat : Int) W
      cases he : escI (s[k].toNat : Int)
      · have He := Lib.hid he
        rw [he] at cE
        clear he
        go_wp2_with (first | (go_at_call 46; refine (cE _).mono ?_; rintro e w' ⟨rfl, rfl⟩) | (at_builtin; refine wpList_append_own _ rfl _ _ 59 rfl w.heap.size 5 i0 (.int .u8 0) 1 1 Tryd.underlying59 hi hz0 hz1 hz2 rfl (by decide) _ _ _ rfl (hown.alloc _) ⟨_, 0, none⟩ 1 1 [.int .u8 (s[k].toNat : Int)] rfl rfl (cells_new _ _ _) (by simp [Value.oneCell']) (by unfold maxLen; omega) (by omega) (by have := hb.size; simp; omega) ?_; intro v' w2 hown' hgrow _))
        go_roundw
        case rel =>
          have hz3 := hb.size
          refine ⟨k + 1, acc ++ [s[k]], by go_num, by omega, by simp; omega, Lib.hid ?_, by simpa [u8V] using hown', ?_⟩
          · rw [H.out, Hdr.out, escL, if_neg (by simp [He.out]), List.append_assoc]; rfl
          · exact (hb.alloc (by omega) _).grown hgrow (by simp; omega) (fun k e => (World.ownsRow.lt hown k e).1)
        case measure => simp [intOf]; omega
      · have He := Lib.hid he
        rw [he] at cE
        clear he
        go_wp2_with (first | (go_at_call 46; refine (cE _).mono ?_; rintro e w' ⟨rfl, rfl⟩) | (at_builtin; refine wpList_append_own _ rfl (.tmp 15) _ 59 rfl w.heap.size 5 i0 (.int .u8 0) 1 1 Tryd.underlying59 hi hz0 hz1 hz2 rfl (by decide) _ _ _ rfl (hown.alloc _) ⟨_, 0, none⟩ 1 1 [.int .u8 92] rfl rfl (cells_new _ _ _) (by simp [Value.oneCell']) (by unfold maxLen; omega) (by omega) (by have := hb.size; simp; omega) ?_; intro v1 w1 hown1 hgrow1 _; have hb1 : Below w.heap.size w w1 := (hb.alloc (by have := hb.size; omega) _).grown hgrow1 (by have := hb.size; simp; omega) (fun k e => (World.ownsRow.lt hown k e).1)) | (at_builtin; refine wpList_append_own _ rfl (.tmp 18) _ 59 rfl w.heap.size 5 i0 (.int .u8 0) 1 1 Tryd.underlying59 hi hz0 hz1 hz2 rfl (by decide) _ _ _ rfl (hown1.alloc _) ⟨_, 0, none⟩ 1 1 [.int .u8 (s[k].toNat : Int)] rfl rfl (cells_new _ _ _) (by simp [Value.oneCell']) (by unfold maxLen; omega) (by omega) (by have := hb1.size; simp; omega) ?_; intro v' w2 hown' hgrow _))
        go_roundw
        case rel =>
          have hz3 := hb1.size
          refine ⟨k + 1, acc ++ [92, s[k]], by go_num, by omega, by simp; omega, Lib.hid ?_, by simpa [u8V] using hown', ?_⟩
          · rw [H.out, Hdr.out, escL, if_pos He.out, List.append_assoc]; rfl
          · exact (hb1.alloc (by omega) _).grown hgrow (by simp; omega) (fun k e => (World.ownsRow.lt hown1 k e).1)
        case measure => simp [intOf]; omega
    · have Hd : Hid (34 :: escL s.data.toList = acc) := Lib.hid (by rw [H.out, List.drop_of_length_le (by rw [← Lib.size_eq]; omega), escL, List.append_nil])
      go_wp2_with (at_builtin; refine wpList_append_own _ rfl _ _ 59 rfl w.heap.size 5 i0 (.int .u8 0) 1 1 Tryd.underlying59 hi hz0 hz1 hz2 rfl (by decide) _ _ _ rfl (hown.alloc _) ⟨_, 0, none⟩ 1 1 [.int .u8 34] rfl rfl (cells_new _ _ _) (by simp [Value.oneCell']) (by unfold maxLen; omega) (by omega) (by have := hb.size; simp; omega) ?_; intro v' w2 hown' hgrow _; have hcv := run_owned_str (P := Tryd.prog) (l := acc ++ [34]) Tryd.underlying59 Tryd.underlying5 Tryd.underlying9 (by simpa [u8V] using hown'))
      go_ret
      refine ⟨?_, (hb.alloc (by have := hb.size; omega) _).grown hgrow (by have := hb.size; simp; omega) (fun k e => (World.ownsRow.lt hown k e).1)⟩
      rw [strT, ← List.cons_append, Hd.out]
      rfl

end Go.Proofs.YtcjnigmklijjiaaDoor
