/- Plain: the first lines of a request and of a response, told by what stands ahead and at the end. · The contracts of message.cutLine, isTarget, isStatus, requestLine, statusLine. -/
import Derived.Test.YthbfcamfapgodaaGreatDoorGE
import Derived.Test.YthbfcamfapgodaaGreatDoorGB
import Derived.Test.YthbfcamfapgodaaGreatDoorG3
import Derived.BigQuiet
import Derived.Deep.QuietTactic
import Derived.Deep.DeepCutAuto

namespace Go.Proofs.YthbfcamfapgodaaGreatDoor
open Go.RowKit

theorem index_cut : ∀ (l : List UInt8) (c : UInt8), Lib.indexByte l c ≠ -1 → l = l.take (Lib.indexByte l c).toNat ++ c :: l.drop ((Lib.indexByte l c).toNat + 1)
  | [], _, h => absurd rfl h
  | x :: l, c, h => by
    cases hx : x == c with
    | true =>
      have e : x = c := by simpa using hx
      have hi : Lib.indexByte (x :: l) c = 0 := by rw [Lib.indexByte, hx] <;> rfl
      rewrite [hi, e]
      rfl
    | false =>
      have hn : Lib.indexByte l c ≠ -1 := fun h1 => h (by rw [Lib.indexByte, hx, h1] <;> rfl)
      have hge := Lib.indexByte_ge l c
      have hb : (Lib.indexByte l c == -1) = false := by rewrite [beq_eq_false_iff_ne]; exact hn
      have hi : Lib.indexByte (x :: l) c = Lib.indexByte l c + 1 := by rw [Lib.indexByte, hx, hb] <;> rfl
      have ht : (Lib.indexByte l c + 1).toNat = (Lib.indexByte l c).toNat + 1 := by omega
      have ih := index_cut l c hn
      rw [hi, ht, List.take_succ_cons, List.drop_succ_cons, List.cons_append, ← ih]
theorem cut_some {l a b : List UInt8} (h : cut32 l = (a, b, true)) : l = a ++ 32 :: b := by
  unfold cut32 at h
  split at h
  · cases h
  · rename_i hn
    have := index_cut l 32 hn
    simp only [Prod.mk.injEq] at h
    rw [h.1, h.2.1] at this
    exact this
theorem cut_none {l a b : List UInt8} (h : cut32 l = (a, b, false)) : b = [] := by
  unfold cut32 at h
  split at h
  · simp only [Prod.mk.injEq] at h
    exact h.2.1.symm
  · cases h
theorem cut_at (t r : List UInt8) (h : ∀ x ∈ t, x ≠ 32) : cut32 (t ++ 32 :: r) = (t, r, true) := by
  have hi := index_mid t 32 r h
  have hn : ¬ ((t.length : Int) = -1) := by omega
  rewrite [cut32, hi, if_neg hn, Int.toNat_natCast]
  simp
theorem tgt_not32 {t : List UInt8} (h : tgtL t = true) : ∀ x ∈ t, x ≠ 32 := by
  rw [tgtL, Bool.and_eq_true, List.all_eq_true] at h
  intro x hx he
  have := h.1 x hx
  rw [he] at this
  exact absurd this (by decide)

/-- What stands behind a target. -/
def sfx : List UInt8 := 32 :: h11
theorem suf_iff (r : List UInt8) : Lib.hasSuffix r sfx = true ↔ ∃ t, r = t ++ sfx := by
  unfold Lib.hasSuffix
  rewrite [List.isSuffixOf_iff_suffix]
  exact ⟨fun ⟨t, h⟩ => ⟨t, h.symm⟩, fun ⟨t, h⟩ => ⟨t, h.symm⟩⟩
theorem suf_trim (t : List UInt8) : Lib.trimSuffix (t ++ sfx) sfx = t := by
  rw [Lib.trimSuffix, if_pos ((suf_iff _).2 ⟨t, rfl⟩), List.length_append, Nat.add_sub_cancel, List.take_left']
  rfl
/-- The first line of a request. -/
theorem frL_suf (l m r : List UInt8) (one : Bool) (h : cut32 l = (m, r, one)) :
    frL l = if (Lib.hasSuffix r sfx && tokL m && tgtL (Lib.trimSuffix r sfx)) = true then some (m, Lib.trimSuffix r sfx) else none := by
  rewrite [frL, h]
  cases one with
  | false =>
    obtain rfl := cut_none h
    rfl
  | true =>
    dsimp only
    rewrite [Bool.true_and]
    cases hs : Lib.hasSuffix r sfx with
    | true =>
      obtain ⟨t, rfl⟩ := (suf_iff r).1 hs
      rewrite [suf_trim, Bool.true_and]
      cases ht : tgtL t with
      | true =>
        have hc : cut32 (t ++ sfx) = (t, h11, true) := cut_at t h11 (tgt_not32 ht)
        rewrite [hc]
        dsimp only
        rewrite [ht, decide_eq_true rfl]
        simp
      | false =>
        refine (if_neg fun hh => ?_).trans (if_neg (by simp)).symm
        simp only [Bool.and_eq_true, decide_eq_true_eq] at hh
        obtain ⟨⟨⟨h1, _⟩, h2⟩, h3⟩ := hh
        obtain ⟨⟨a, b, o⟩, hc⟩ : ∃ p, cut32 (t ++ sfx) = p := ⟨_, rfl⟩
        rw [hc] at h1 h2 h3
        dsimp only at h1 h2 h3
        subst h1 h3
        have e := cut_some hc
        have := List.append_cancel_right (show t ++ sfx = a ++ sfx from e)
        rw [← this, ht] at h2
        cases h2
    | false =>
      refine (if_neg fun hh => ?_).trans (if_neg (by simp)).symm
      simp only [Bool.and_eq_true, decide_eq_true_eq] at hh
      obtain ⟨⟨⟨h1, _⟩, _⟩, h3⟩ := hh
      obtain ⟨⟨a, b, o⟩, hc⟩ : ∃ p, cut32 r = p := ⟨_, rfl⟩
      rw [hc] at h1 h3
      dsimp only at h1 h3
      subst h1 h3
      have := (suf_iff r).2 ⟨a, cut_some hc⟩
      rw [hs] at this
      cases this

/-- What stands ahead of a status. -/
def pfx : List UInt8 := h11 ++ [32]
theorem pre_iff (l : List UInt8) : Lib.hasPrefix l pfx = true ↔ ∃ r, l = h11 ++ 32 :: r := by
  unfold Lib.hasPrefix
  rewrite [List.isPrefixOf_iff_prefix]
  constructor
  · rintro ⟨t, h⟩
    exact ⟨t, by rw [← h] <;> rfl⟩
  · rintro ⟨r, h⟩
    exact ⟨r, by rw [h] <;> rfl⟩
theorem pre_trim (r : List UInt8) : Lib.trimPrefix (h11 ++ 32 :: r) pfx = r := by
  rewrite [Lib.trimPrefix, if_pos ((pre_iff _).2 ⟨r, rfl⟩)]
  rfl
theorem h11_not32 : ∀ x ∈ h11, x ≠ 32 := by decide
theorem dig_none {l : List UInt8} (h : digitsB l = false) : digitsN l = 0 := by
  unfold digitsB at h
  unfold digitsN
  split
  · rename_i hd
    rw [hd] at h
    cases l with
    | nil => rfl
    | cons x r => simp at h
  · rfl
/-- The first line of a response. -/
theorem frP_pre (l r d t : List UInt8) (two : Bool) (hr : Lib.trimPrefix l pfx = r) (h : cut32 r = (d, t, two)) :
    frP l = if (Lib.hasPrefix l pfx && two && decide (d.length = 3) && (decide (100 ≤ digitsN d) && decide (digitsN d ≤ 599)) && txtL t) = true then some (digitsN d) else none := by
  have hst : stB d = (decide (d.length = 3) && (decide (100 ≤ digitsN d) && decide (digitsN d ≤ 599))) := by
    rewrite [stB]
    cases hb : digitsB d with
    | true => cases decide (d.length = 3) <;> cases decide (100 ≤ digitsN d) <;> rfl
    | false =>
      rewrite [dig_none hb]
      simp
  cases hp : Lib.hasPrefix l pfx with
  | true =>
    obtain ⟨r', rfl⟩ := (pre_iff l).1 hp
    rw [pre_trim] at hr
    subst hr
    rewrite [frP, cut_at h11 r' h11_not32]
    dsimp only
    rewrite [h]
    dsimp only
    rewrite [hst, decide_eq_true rfl]
    cases two <;> simp
  | false =>
    rewrite [frP]
    refine (if_neg fun hh => ?_).trans (if_neg (by simp)).symm
    simp only [Bool.and_eq_true, decide_eq_true_eq] at hh
    obtain ⟨⟨⟨⟨h1, _⟩, h3⟩, _⟩, _⟩ := hh
    obtain ⟨⟨a, b, o⟩, hc⟩ : ∃ p, cut32 l = p := ⟨_, rfl⟩
    rw [hc] at h1 h3
    dsimp only at h1 h3
    subst h1 h3
    have := (pre_iff l).2 ⟨b, cut_some hc⟩
    rw [hp] at this
    cases this

/-- The first line of a text, and what is behind it. -/
def lnxV (l : List UInt8) : Value :=
  if (lineL l).2 = 0 then .tuple #[.string (strB (lineL l).1), .string (strB (l.drop ((lineL l).1.length + 2))), .int .i64 0]
  else .tuple #[.string ⟨#[]⟩, .string ⟨#[]⟩, .int .i64 (lineL l).2]
theorem trimSuf_len {l : List UInt8} (h : Lib.hasSuffix l [13] = true) : (Lib.trimSuffix l [13]).length + 1 = l.length := by
  have h4 : [(13 : UInt8)].length ≤ l.length := by
    have h5 := h
    unfold Lib.hasSuffix at h5
    exact (List.isSuffixOf_iff_suffix.1 h5).length_le
  unfold Lib.trimSuffix
  rewrite [if_pos h, List.length_take]
  simp only [List.length_singleton] at h4 ⊢
  omega

end Go.Proofs.YthbfcamfapgodaaGreatDoor

namespace Go.Proofs.YthbfcamfapgodaaGreatDoor
open Go.RowKit Go.Shelf Go.Lib

set_option maxHeartbeats 2000000 in
theorem mcutline_any (s : ByteArray) (w : World) (hs : s.size ≤ 100000) :
    Calls Tryz.prog 54 #[.string s] w fun e w' => e = .returned (lnxV s.data.toList) ∧ Below w.heap.size w w' := by
  have cC := cut_any s 10 w hs
  have hsz := Lib.size_eq s
  unfold cutV at cC
  by_cases h : Lib.indexByte s.data.toList 10 = -1
  · rw [if_pos h] at cC
    have cS := fun W => Tryz.strings_CutSuffix (strB s.data.toList) ⟨#[13]⟩ W (by rewrite [strB_size, ← hsz]; omega)
    have HL : Hid (lineL s.data.toList = ([], if 2002 < s.size then 4 else 3)) := Lib.hid (by rw [lineL, if_pos h, hsz])
    generalize Lib.hasSuffix (strB s.data.toList).data.toList (⟨#[13]⟩ : ByteArray).data.toList = b at *
    generalize (⟨(Lib.trimSuffix (strB s.data.toList).data.toList (⟨#[13]⟩ : ByteArray).data.toList).toArray⟩ : ByteArray) = T at *
    clear h hsz
    generalize strB s.data.toList = B at *
    by_cases h2 : 2002 < s.size
    · rw [if_pos h2] at HL
      have d : (2002 : Int) < (s.size : Int) := by omega
      clear h2
      go_enter Tryz.func54, Tryz.ntmps54
      go_wp2_with fail
      refine cC.mono ?_
      rintro e w1 ⟨rfl, hb1⟩
      go_wp2_with fail
      refine (cS _).mono ?_
      rintro e w2 ⟨rfl, rfl⟩
      go_wp2_with fail
      refine bodyPost_ret (v := .tuple #[.string ⟨#[]⟩, .string ⟨#[]⟩, .int .i64 4]) (by simp [results, Tryz.results54, go_sem]) rfl ⟨?_, hb1⟩
      rewrite [lnxV, HL.out]
      rfl
    · rw [if_neg h2] at HL
      have d : ¬ (2002 : Int) < (s.size : Int) := by omega
      clear h2
      go_enter Tryz.func54, Tryz.ntmps54
      go_wp2_with fail
      refine cC.mono ?_
      rintro e w1 ⟨rfl, hb1⟩
      go_wp2_with fail
      refine (cS _).mono ?_
      rintro e w2 ⟨rfl, rfl⟩
      go_wp2_with fail
      refine bodyPost_ret (v := .tuple #[.string ⟨#[]⟩, .string ⟨#[]⟩, .int .i64 3]) (by simp [results, Tryz.results54, go_sem]) rfl ⟨?_, hb1⟩
      rewrite [lnxV, HL.out]
      rfl
  · rw [if_neg h] at cC
    obtain ⟨k, hk⟩ : ∃ k, (Lib.indexByte s.data.toList 10).toNat = k := ⟨_, rfl⟩
    rw [hk] at cC
    have cS := fun W => Tryz.strings_CutSuffix (strB (s.data.toList.take k)) ⟨#[13]⟩ W (by rewrite [strB_size, List.length_take]; omega)
    rw [strB_data, show (⟨#[13]⟩ : ByteArray).data.toList = [13] from rfl] at cS
    have hL : lineL s.data.toList = (if Lib.hasSuffix (s.data.toList.take k) [13] = false then ([], 2) else if 2000 < (Lib.trimSuffix (s.data.toList.take k) [13]).length then ([], 4) else (Lib.trimSuffix (s.data.toList.take k) [13], 0)) := by rw [lineL, if_neg h, hk]
    obtain ⟨b, hb⟩ : ∃ b, Lib.hasSuffix (s.data.toList.take k) [13] = b := ⟨_, rfl⟩
    obtain ⟨t, ht⟩ : ∃ t, Lib.trimSuffix (s.data.toList.take k) [13] = t := ⟨_, rfl⟩
    have HK : Hid (b = true → s.data.toList.drop (k + 1) = s.data.toList.drop (t.length + 2)) := Lib.hid (fun hbt => by
      have h1 := trimSuf_len (hb.trans hbt)
      rw [ht, List.length_take] at h1
      have h2 := (index_le s.data.toList 10 h).2
      rw [hk] at h2
      rw [show k + 1 = t.length + 2 by omega])
    rw [hb, ht] at cS hL
    have HL := Lib.hid hL
    generalize strB (s.data.toList.take k) = B at *
    obtain ⟨D, hD⟩ : ∃ D, strB (s.data.toList.drop (k + 1)) = D := ⟨_, rfl⟩
    rw [hD] at cC
    have HD := Lib.hid hD
    clear hD
    clear h hk hb ht hL hsz
    cases b
    · rw [if_pos rfl] at HL
      go_enter Tryz.func54, Tryz.ntmps54
      go_wp2_with fail
      refine cC.mono ?_
      rintro e w1 ⟨rfl, hb1⟩
      go_wp2_with fail
      refine (cS _).mono ?_
      rintro e w2 ⟨rfl, rfl⟩
      go_wp2_with fail
      refine bodyPost_ret (v := .tuple #[.string ⟨#[]⟩, .string ⟨#[]⟩, .int .i64 2]) (by simp [results, Tryz.results54, go_sem]) rfl ⟨?_, hb1⟩
      rewrite [lnxV, HL.out]
      rfl
    · rw [if_neg (by decide)] at HL
      by_cases hl : 2000 < t.length
      · rw [if_pos hl] at HL
        have d : (2000 : Int) < ((⟨t.toArray⟩ : ByteArray).size : Int) := by rewrite [Lib.size_eq]; simp; omega
        go_enter Tryz.func54, Tryz.ntmps54
        go_wp2_with fail
        refine cC.mono ?_
        rintro e w1 ⟨rfl, hb1⟩
        go_wp2_with fail
        refine (cS _).mono ?_
        rintro e w2 ⟨rfl, rfl⟩
        generalize (⟨t.toArray⟩ : ByteArray) = T at *
        go_wp2_with fail
        refine bodyPost_ret (v := .tuple #[.string ⟨#[]⟩, .string ⟨#[]⟩, .int .i64 4]) (by simp [results, Tryz.results54, go_sem]) rfl ⟨?_, hb1⟩
        rewrite [lnxV, HL.out]
        rfl
      · rw [if_neg hl] at HL
        have d : ¬ (2000 : Int) < ((⟨t.toArray⟩ : ByteArray).size : Int) := by rewrite [Lib.size_eq]; simp; omega
        have HT : Hid (strB t = (⟨t.toArray⟩ : ByteArray)) := Lib.hid rfl
        go_enter Tryz.func54, Tryz.ntmps54
        go_wp2_with fail
        refine cC.mono ?_
        rintro e w1 ⟨rfl, hb1⟩
        go_wp2_with fail
        refine (cS _).mono ?_
        rintro e w2 ⟨rfl, rfl⟩
        generalize (⟨t.toArray⟩ : ByteArray) = T at *
        go_wp2_with fail
        refine bodyPost_ret (v := .tuple #[.string T, .string D, .int .i64 0]) (by simp [results, Tryz.results54, go_sem]) rfl ⟨?_, hb1⟩
        rewrite [lnxV, HL.out, if_pos rfl]
        dsimp only
        rw [HT.out, ← HK.out trivial, HD.out]

set_option maxRecDepth 100000 in
set_option maxHeartbeats 2000000 in
theorem mtarget_any (s : ByteArray) (w : World) (hs : s.size ≤ 100000) :
    Calls Tryz.prog 43 #[.string s] w fun e w' => e = .returned (.bool (tgtL s.data.toList)) ∧ w = w' := by
  go_enter Tryz.func43, Tryz.ntmps43
  go_wp2_with fail
  go_loop [6] (fun i => ∃ k : Nat, k ≤ s.size ∧ i = .int .i64 k ∧ Hid ((s.data.toList.take k).all tgtB = true)) (fun i => s.size - (intOf i).toNat)
  case atStart => exact ⟨0, Nat.zero_le _, rfl, Lib.hid (by simp)⟩
  case round =>
    obtain ⟨k, hk, rfl, H⟩ := hrel
    by_cases hlt : k < s.size
    · have Hs := Lib.hid (tgt_snoc s k hlt tgtB)
      have Hno := Lib.hid (tgt_no s k hlt tgtB)
      have Hd : Hid (tgtB s[k] = !(decide ((s[k].toNat : Int) < 33) || decide ((126 : Int) < (s[k].toNat : Int)))) := Lib.hid rfl
      cases d1 : decide ((s[k].toNat : Int) < 33) <;> cases d2 : decide ((126 : Int) < (s[k].toNat : Int))
      · have Hn : Hid ((s.data.toList.take (k + 1)).all tgtB = true) := Lib.hid (by rw [Hs.out, H.out, Hd.out, d1, d2] <;> rfl)
        go_wp2_with fail
        go_round
        case rel => exact ⟨k + 1, by omega, by go_num, Lib.hid Hn.out⟩
        case measure => simp [intOf]; omega
      all_goals
        have HR : Hid (tgtL s.data.toList = false) := Lib.hid (by rw [tgtL, Hno.out (by rw [Hd.out, d1, d2] <;> rfl)] <;> rfl)
        go_wp2_with fail
        go_ret
        exact ⟨by rw [HR.out] <;> rfl, rfl⟩
    · have hall : s.data.toList.take k = s.data.toList := take_all s k (by omega)
      have hH := H.out
      rw [hall] at hH
      obtain ⟨b, hb⟩ : ∃ b, s.toList.isEmpty = b := ⟨_, rfl⟩
      have HR : Hid (tgtL s.data.toList = !b) := Lib.hid (by rw [tgtL, hH, ← hb, Lib.toList_data] <;> rfl)
      clear hH H hall
      cases b
      all_goals
        go_wp2_with fail
        go_ret
        exact ⟨by rw [HR.out] <;> rfl, rfl⟩

set_option maxHeartbeats 1000000 in
theorem mstatus_any (n : Int) (w : World) :
    Calls Tryz.prog 49 #[.int .i64 n] w fun e w' => e = .returned (.bool (decide (100 ≤ n) && decide (n ≤ 599))) ∧ w = w' := by
  cases d1 : decide ((100 : Int) ≤ n) <;> cases d2 : decide (n ≤ (599 : Int))
  all_goals
    go_enter Tryz.func49, Tryz.ntmps49
    go_wp2_with fail
    go_ret
    exact ⟨rfl, rfl⟩

set_option maxRecDepth 100000 in
set_option maxHeartbeats 4000000 in
theorem mreqline_any (s : ByteArray) (w : World) (hs : s.size ≤ 100000) :
    Calls Tryz.prog 21 #[.string s] w fun e w' => (∃ m t b, e = .returned (.tuple #[.string (strB m), .string (strB t), .bool b]) ∧ frL s.data.toList = if b = true then some (m, t) else none) ∧ Below w.heap.size w w' := by
  have cC := cut_any s 32 w hs
  obtain ⟨⟨m, r, one⟩, hp⟩ : ∃ p, cut32 s.data.toList = p := ⟨_, rfl⟩
  have hl := cut32_len s.data.toList
  rw [cutV_32, hp] at cC
  rw [hp] at hl
  dsimp only at cC hl
  have HF := Lib.hid (frL_suf _ _ _ _ hp)
  have hz := Lib.size_eq s
  have hl3 : (Lib.trimSuffix r sfx).length ≤ r.length := by
    unfold Lib.trimSuffix
    split
    · exact List.length_take_le' _ _
    · exact Nat.le_refl _
  have cS := fun W => Tryz.strings_CutSuffix (strB r) ⟨#[32, 72, 84, 84, 80, 47, 49, 46, 49]⟩ W (by rewrite [strB_size]; omega)
  rw [strB_data, show (⟨#[32, 72, 84, 84, 80, 47, 49, 46, 49]⟩ : ByteArray).data.toList = sfx from rfl] at cS
  have cT := fun W => token_any (strB m) W (by rewrite [strB_size]; unfold maxLen; omega)
  have cG := fun W => mtarget_any (strB (Lib.trimSuffix r sfx)) W (by rewrite [strB_size]; omega)
  rw [strB_data] at cT cG
  rw [show (⟨(Lib.trimSuffix r sfx).toArray⟩ : ByteArray) = strB (Lib.trimSuffix r sfx) from rfl] at cS
  clear hp hl hz hl3
  generalize Lib.trimSuffix r sfx = t at *
  generalize Lib.hasSuffix r sfx = b at *
  generalize tokL m = tk at *
  generalize tgtL t = tg at *
  have HM : Hid (∀ X, X = strB m → X = strB m) := Lib.hid fun _ h => h
  generalize hM : strB m = M at cC cT
  generalize hT : strB t = T at cS cG
  generalize strB r = R at *
  have HMM := Lib.hid hM
  have HTT := Lib.hid hT
  clear hM hT HM
  cases b
  · go_enter Tryz.func21, Tryz.ntmps21
    go_wp2_with fail
    refine cC.mono ?_
    rintro e w1 ⟨rfl, hb1⟩
    go_wp2_with fail
    refine (cS _).mono ?_
    rintro e w2 ⟨rfl, rfl⟩
    go_wp2_with fail
    refine bodyPost_ret (v := .tuple #[.string M, .string T, .bool false]) (by simp [results, Tryz.results21, go_sem]) rfl ⟨⟨m, t, false, ?_, ?_⟩, hb1⟩
    · rw [HMM.out, HTT.out]
    · exact HF.out
  cases tk
  · go_enter Tryz.func21, Tryz.ntmps21
    go_wp2_with fail
    refine cC.mono ?_
    rintro e w1 ⟨rfl, hb1⟩
    go_wp2_with fail
    refine (cS _).mono ?_
    rintro e w2 ⟨rfl, rfl⟩
    go_wp2_with fail
    refine (cT _).mono ?_
    rintro e w2 ⟨rfl, rfl⟩
    go_wp2_with fail
    refine bodyPost_ret (v := .tuple #[.string M, .string T, .bool false]) (by simp [results, Tryz.results21, go_sem]) rfl ⟨⟨m, t, false, ?_, ?_⟩, hb1⟩
    · rw [HMM.out, HTT.out]
    · exact HF.out
  · cases tg
    all_goals
      go_enter Tryz.func21, Tryz.ntmps21
      go_wp2_with fail
      refine cC.mono ?_
      rintro e w1 ⟨rfl, hb1⟩
      go_wp2_with fail
      refine (cS _).mono ?_
      rintro e w2 ⟨rfl, rfl⟩
      go_wp2_with fail
      refine (cT _).mono ?_
      rintro e w2 ⟨rfl, rfl⟩
      go_wp2_with fail
      refine (cG _).mono ?_
      rintro e w2 ⟨rfl, rfl⟩
      go_wp2_with fail
      first
      | (refine bodyPost_ret (v := .tuple #[.string M, .string T, .bool false]) (by simp [results, Tryz.results21, go_sem]) rfl ⟨⟨m, t, false, ?_, HF.out⟩, hb1⟩; rw [HMM.out, HTT.out])
      | (refine bodyPost_ret (v := .tuple #[.string M, .string T, .bool true]) (by simp [results, Tryz.results21, go_sem]) rfl ⟨⟨m, t, true, ?_, HF.out⟩, hb1⟩; rw [HMM.out, HTT.out])

set_option maxRecDepth 100000 in
set_option maxHeartbeats 4000000 in
theorem mstatusline_any (s : ByteArray) (w : World) (hs : s.size ≤ 100000) (hT : Tabs w) :
    Calls Tryz.prog 38 #[.string s] w fun e w' => (∃ n b, e = .returned (.tuple #[.int .i64 n, .bool b]) ∧ frP s.data.toList = if b = true then some n else none) ∧ Below w.heap.size w w' := by
  have cP := fun W => Tryz.strings_CutPrefix s ⟨#[72, 84, 84, 80, 47, 49, 46, 49, 32]⟩ W
  rw [show (⟨#[72, 84, 84, 80, 47, 49, 46, 49, 32]⟩ : ByteArray).data.toList = pfx from rfl] at cP
  obtain ⟨r, hr⟩ : ∃ r, Lib.trimPrefix s.data.toList pfx = r := ⟨_, rfl⟩
  obtain ⟨⟨d, t, two⟩, hp⟩ : ∃ p, cut32 r = p := ⟨_, rfl⟩
  have hz := Lib.size_eq s
  have hl3 : r.length ≤ s.data.toList.length := by
    rewrite [← hr]
    unfold Lib.trimPrefix
    split
    · rewrite [List.length_drop]; omega
    · exact Nat.le_refl _
  have hl := cut32_len r
  rw [hp] at hl
  have cC := fun W => cut_any (strB r) 32 W (by rewrite [strB_size]; omega)
  rw [strB_data, cutV_32, hp] at cC
  dsimp only at cC hl
  have HF := Lib.hid (frP_pre _ _ _ _ _ hr hp)
  rw [hr, show (⟨r.toArray⟩ : ByteArray) = strB r from rfl] at cP
  have cD := fun W => digits_any (strB d) W (by rewrite [strB_size]; unfold maxLen; omega)
  have cX := fun W h => text_any (strB t) W (by rewrite [strB_size]; unfold maxLen; omega) h
  have cZ := fun W => mstatus_any (digitsN d) W
  rw [strB_data] at cD cX
  have hds := strB_size d
  clear hp hl hz hl3 hr
  generalize Lib.hasPrefix s.data.toList pfx = b at *
  generalize txtL t = tx at *
  generalize digitsN d = n at *
  generalize digitsB d = db at *
  generalize (decide (100 ≤ n) && decide (n ≤ 599)) = st at *
  generalize strB r = R at *
  generalize strB t = T at *
  have HT := Lib.hid hT
  clear hT
  by_cases h3 : d.length = 3
  · have d3 : (((strB d).size : Int) == 3) = true := by rw [hds, h3] <;> rfl
    rw [decide_eq_true h3] at HF
    clear hds h3
    generalize strB d = D at *
    cases b
    · go_enter Tryz.func38, Tryz.ntmps38
      go_wp2_with fail
      refine (cP _).mono ?_
      rintro e w1 ⟨rfl, rfl⟩
      go_wp2_with fail
      refine (cC _).mono ?_
      rintro e w2 ⟨rfl, hb2⟩
      go_wp2_with fail
      refine (cD _).mono ?_
      rintro e w3 ⟨rfl, rfl⟩
      go_wp2_with fail
      exact bodyPost_ret (v := .tuple #[.int .i64 n, .bool false]) (by simp [results, Tryz.results38, go_sem]) rfl ⟨⟨n, false, rfl, HF.out⟩, hb2⟩
    cases two
    · go_enter Tryz.func38, Tryz.ntmps38
      go_wp2_with fail
      refine (cP _).mono ?_
      rintro e w1 ⟨rfl, rfl⟩
      go_wp2_with fail
      refine (cC _).mono ?_
      rintro e w2 ⟨rfl, hb2⟩
      go_wp2_with fail
      refine (cD _).mono ?_
      rintro e w3 ⟨rfl, rfl⟩
      go_wp2_with fail
      exact bodyPost_ret (v := .tuple #[.int .i64 n, .bool false]) (by simp [results, Tryz.results38, go_sem]) rfl ⟨⟨n, false, rfl, HF.out⟩, hb2⟩
    cases st
    · go_enter Tryz.func38, Tryz.ntmps38
      go_wp2_with fail
      refine (cP _).mono ?_
      rintro e w1 ⟨rfl, rfl⟩
      go_wp2_with fail
      refine (cC _).mono ?_
      rintro e w2 ⟨rfl, hb2⟩
      go_wp2_with fail
      refine (cD _).mono ?_
      rintro e w3 ⟨rfl, rfl⟩
      go_wp2_with fail
      refine (cZ _).mono ?_
      rintro e w3 ⟨rfl, rfl⟩
      go_wp2_with fail
      exact bodyPost_ret (v := .tuple #[.int .i64 n, .bool false]) (by simp [results, Tryz.results38, go_sem]) rfl ⟨⟨n, false, rfl, HF.out⟩, hb2⟩
    cases tx
    all_goals
      go_enter Tryz.func38, Tryz.ntmps38
      go_wp2_with fail
      refine (cP _).mono ?_
      rintro e w1 ⟨rfl, rfl⟩
      go_wp2_with fail
      refine (cC _).mono ?_
      rintro e w2 ⟨rfl, hb2⟩
      go_wp2_with fail
      refine (cD _).mono ?_
      rintro e w3 ⟨rfl, rfl⟩
      go_wp2_with fail
      refine (cZ _).mono ?_
      rintro e w3 ⟨rfl, rfl⟩
      go_wp2_with fail
      refine (cX _ (Utf8Tabs_below HT.out hb2)).mono ?_
      rintro e w4 ⟨rfl, hb4⟩
      have HB4 := Lib.hid (hb2.trans (hb4.mono hb2.size))
      go_wp2_with fail
      first
      | exact bodyPost_ret (v := .tuple #[.int .i64 n, .bool false]) (by simp [results, Tryz.results38, go_sem]) rfl ⟨⟨n, false, rfl, HF.out⟩, HB4.out⟩
      | exact bodyPost_ret (v := .tuple #[.int .i64 n, .bool true]) (by simp [results, Tryz.results38, go_sem]) rfl ⟨⟨n, true, rfl, HF.out⟩, HB4.out⟩
  · have d3 : (((strB d).size : Int) == 3) = false := by rewrite [beq_eq_false_iff_ne, hds]; omega
    rw [decide_eq_false h3] at HF
    have HF0 : Hid (frP s.data.toList = none) := Lib.hid (by rewrite [HF.out]; simp)
    clear hds h3 HF
    generalize strB d = D at *
    cases b <;> cases two
    all_goals
      go_enter Tryz.func38, Tryz.ntmps38
      go_wp2_with fail
      refine (cP _).mono ?_
      rintro e w1 ⟨rfl, rfl⟩
      go_wp2_with fail
      refine (cC _).mono ?_
      rintro e w2 ⟨rfl, hb2⟩
      go_wp2_with fail
      refine (cD _).mono ?_
      rintro e w3 ⟨rfl, rfl⟩
      go_wp2_with fail
      exact bodyPost_ret (v := .tuple #[.int .i64 n, .bool false]) (by simp [results, Tryz.results38, go_sem]) rfl ⟨⟨n, false, rfl, HF0.out⟩, hb2⟩

end Go.Proofs.YthbfcamfapgodaaGreatDoor
