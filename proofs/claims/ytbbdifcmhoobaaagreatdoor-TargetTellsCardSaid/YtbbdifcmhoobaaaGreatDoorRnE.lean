/- The document's own Normal (sculleryref09). -/
import Derived.Test.YtbbdifcmhoobaaaGreatDoorRnB
import Derived.Test.YtbbdifcmhoobaaaGreatDoorRnC
import Derived.Test.YtbbdifcmhoobaaaGreatDoorRnD
import Derived.Test.YtbbdifcmhoobaaaGreatDoorTaI
namespace Go.Proofs.YtbbdifcmhoobaaaGreatDoor
open Go.RowKit Go.Lib

/-- Where a URI's host ends. -/
theorem end_at {l : List UInt8} {k : Nat} (h7 : 7 ≤ k) (hk : k ≤ l.length) (h : ∀ c ∈ (l.take k).drop 7, endB c = true) (he : k = l.length ∨ ∃ c r, l.drop k = c :: r ∧ endB c = false) :
    (l.drop 7).takeWhile endB = (l.take k).drop 7 ∧ (l.drop 7).dropWhile endB = l.drop k := by
  have hs : l.drop 7 = (l.take k).drop 7 ++ l.drop k := by
    conv => lhs; rw [← List.take_append_drop k l]
    rw [List.drop_append_of_le_length (by rw [List.length_take]; omega)]
  rcases he with rfl | ⟨c, r, hd, hc⟩
  · rw [List.drop_length, List.append_nil] at hs
    rw [hs, List.drop_length]
    exact takeWhile_all _ h
  · rw [hs, hd]
    exact takeWhile_mid _ c r h hc
/-- Where the query begins, told from behind. -/
def qAt (l : List UInt8) (j at_ : Nat) : Prop := at_ = j + ((l.drop j).takeWhile queB).length
theorem qAt_start (l : List UInt8) : qAt l l.length l.length := by
  rw [qAt, List.drop_length]
  rfl
theorem qAt_hit {l : List UInt8} {j : Nat} (hd : l.drop j = 63 :: l.drop (j + 1)) : qAt l j j := by
  rw [qAt, hd, List.takeWhile_cons, if_neg (by decide)]
  rfl
theorem qAt_miss {l : List UInt8} {j at_ : Nat} {c : UInt8} (h : qAt l (j + 1) at_) (hd : l.drop j = c :: l.drop (j + 1)) (hc : c ≠ 63) : qAt l j at_ := by
  have hq : queB c = true := by simpa [queB] using hc
  rw [qAt] at h ⊢
  rw [h, hd, List.takeWhile_cons, if_pos hq, List.length_cons]
  omega
theorem qAt_end {l : List UInt8} {at_ : Nat} (h : qAt l 0 at_) : at_ ≤ l.length ∧ l.take at_ = l.takeWhile queB ∧ l.drop at_ = l.dropWhile queB := by
  rw [qAt, List.drop_zero, Nat.zero_add] at h
  have hs := take_drop_q l
  have hle := takeWhile_len_le queB l
  refine ⟨by omega, ?_, ?_⟩
  · conv => lhs; rw [← hs]
    rw [h]
    exact List.take_left
  · conv => lhs; rw [← hs]
    rw [h]
    exact List.drop_left
theorem bad_head {t : List UInt8} : (t ≠ [] ∧ t.head? ≠ some 47 ∧ t.head? ≠ some 63) ↔ ∃ c r, t = c :: r ∧ c ≠ 47 ∧ c ≠ 63 := by
  cases t with
  | nil => simp
  | cons c r => simp

set_option maxRecDepth 100000 in
set_option maxHeartbeats 8000000 in
theorem nnormal_A1 (s1 s2 : ByteArray) (h1 t1 : List UInt8) (w : World) (z1 : s1.size ≤ 100000) (z2 : s2.size ≤ 100000) (hA : decide (7 ≤ (s2.size : Int)) = false) (hs1 : s1.data.toList = h1) (hs2 : s2.data.toList = t1) (hh : hostL h1 = none) :
    Calls Tryz.prog 10 #[.string s1, .string s2] w (errPost none w) := by
  have cH := fun W => nhost_any s1 W z1
  rw [hs1, hh] at cH
  have cP := fun W => npercent_any s2 W z2
  rw [hs2] at cP
  obtain ⟨XA, XE, hXE⟩ := errV_form (pctL t1)
  unfold errPost at cP
  rw [hXE] at cP
  clear hXE hh
  clear hs1 hs2
  go_enter Tryz.func10, Tryz.ntmps10
  go_wp2_with fail
  refine (cH _).mono ?_
  rintro e wc ⟨rfl, hbc⟩
  have hb1 := (Below.refl w.heap.size w).trans (hbc.mono (Below.refl w.heap.size w).size)
  unfold errV
  go_wp2_with fail
  refine (cP _).mono ?_
  rintro e wd ⟨rfl, hbd⟩
  have hb2 := hb1.trans (hbd.mono hb1.size)
  go_wp2_with fail
  refine bodyPost_ret (v := .tuple #[.string ⟨#[]⟩, .int .i64 2]) (by simp [results, Tryz.results10, go_sem]) rfl ⟨rfl, hb2⟩

set_option maxRecDepth 100000 in
set_option maxHeartbeats 8000000 in
theorem nnormal_A2 (s1 s2 : ByteArray) (h1 t1 : List UInt8) (w : World) (z1 : s1.size ≤ 100000) (z2 : s2.size ≤ 100000) (hA : decide (7 ≤ (s2.size : Int)) = false) (hs1 : s1.data.toList = h1) (hs2 : s2.data.toList = t1) (hh0 : List UInt8) (hh : hostL h1 = some hh0) (hp : pctL t1 = none) :
    Calls Tryz.prog 10 #[.string s1, .string s2] w (errPost none w) := by
  have cH := fun W => nhost_any s1 W z1
  rw [hs1, hh] at cH
  have cP := fun W => npercent_any s2 W z2
  rw [hs2] at cP
  rw [hp] at cP
  clear hh hp
  clear hs1 hs2
  go_enter Tryz.func10, Tryz.ntmps10
  go_wp2_with fail
  refine (cH _).mono ?_
  rintro e wc ⟨rfl, hbc⟩
  have hb1 := (Below.refl w.heap.size w).trans (hbc.mono (Below.refl w.heap.size w).size)
  unfold errV
  go_wp2_with fail
  refine (cP _).mono ?_
  rintro e wd ⟨rfl, hbd⟩
  have hb2 := hb1.trans (hbd.mono hb1.size)
  unfold errV
  go_wp2_with fail
  refine bodyPost_ret (v := .tuple #[.string ⟨#[]⟩, .int .i64 2]) (by simp [results, Tryz.results10, go_sem]) rfl ⟨rfl, hb2⟩

set_option maxRecDepth 100000 in
set_option maxHeartbeats 8000000 in
theorem nnormal_A3 (s1 s2 : ByteArray) (h1 t1 : List UInt8) (w : World) (z1 : s1.size ≤ 100000) (z2 : s2.size ≤ 100000) (hA : decide (7 ≤ (s2.size : Int)) = false) (hs1 : s1.data.toList = h1) (hs2 : s2.data.toList = t1) (hh0 p0 : List UInt8) (hh : hostL h1 = some hh0) (hp : pctL t1 = some p0) (hbad : t1 ≠ [] ∧ t1.head? ≠ some 47 ∧ t1.head? ≠ some 63) :
    Calls Tryz.prog 10 #[.string s1, .string s2] w (errPost none w) := by
  have cH := fun W => nhost_any s1 W z1
  rw [hs1, hh] at cH
  have cP := fun W => npercent_any s2 W z2
  rw [hs2] at cP
  rw [hp] at cP
  obtain ⟨c0, r0, ht, n47, n63⟩ := bad_head.1 hbad
  have hTl : s2.data.toList = c0 :: r0 := by rw [hs2, ht]
  have hT0 : 0 < s2.size := by rw [Lib.size_eq, hTl, List.length_cons]; omega
  have hT1 : s2.toList.isEmpty = false := by rw [Lib.toList_data, hTl]; rfl
  have hT2 : s2[0]'hT0 = c0 := by
    have hd := drop_cons_at s2 0 hT0
    rw [List.drop_zero, hTl] at hd
    exact (List.cons.inj hd).1.symm
  have m1 : ((((s2[0]'hT0).toNat : Int)) == 47) = false := (byte_beq _ 47).trans (by rw [hT2]; simpa using n47)
  have m2 : ((((s2[0]'hT0).toNat : Int)) == 63) = false := (byte_beq _ 63).trans (by rw [hT2]; simpa using n63)
  have m3 : ((((s2[0]'hT0).toNat : Int)) != 47) = true := by rw [bne, m1]; rfl
  have m4 : ((((s2[0]'hT0).toNat : Int)) != 63) = true := by rw [bne, m2]; rfl
  clear hh hp hTl hT2 ht
  clear hs1 hs2
  go_enter Tryz.func10, Tryz.ntmps10
  go_wp2_with fail
  refine (cH _).mono ?_
  rintro e wc ⟨rfl, hbc⟩
  have hb1 := (Below.refl w.heap.size w).trans (hbc.mono (Below.refl w.heap.size w).size)
  unfold errV
  go_wp2_with fail
  refine (cP _).mono ?_
  rintro e wd ⟨rfl, hbd⟩
  have hb2 := hb1.trans (hbd.mono hb1.size)
  unfold errV
  go_wp2_with fail
  refine bodyPost_ret (v := .tuple #[.string ⟨#[]⟩, .int .i64 2]) (by simp [results, Tryz.results10, go_sem]) rfl ⟨rfl, hb2⟩

set_option maxRecDepth 100000 in
set_option maxHeartbeats 8000000 in
theorem nnormal_A4 (s1 s2 : ByteArray) (h1 t1 : List UInt8) (w : World) (z1 : s1.size ≤ 100000) (z2 : s2.size ≤ 100000) (hA : decide (7 ≤ (s2.size : Int)) = false) (hs1 : s1.data.toList = h1) (hs2 : s2.data.toList = t1) (hh0 p0 : List UInt8) (hh : hostL h1 = some hh0) (hp : pctL t1 = some p0) (hbad : ¬ (t1 ≠ [] ∧ t1.head? ≠ some 47 ∧ t1.head? ≠ some 63)) :
    Calls Tryz.prog 10 #[.string s1, .string s2] w (errPost (some (htpL ++ hh0 ++ pthN p0 ++ p0.dropWhile queB)) w) := by
  have cH := fun W => nhost_any s1 W z1
  rw [hs1, hh] at cH
  have cP := fun W => npercent_any s2 W z2
  rw [hs2] at cP
  have hhl := host_len hh
  have hpl := (pct_stays _ t1 p0 (Nat.le_refl _) hp).2
  have ezH : h1.length ≤ 100000 := by rw [← hs1, ← Lib.size_eq]; exact z1
  have ezT : t1.length ≤ 100000 := by rw [← hs2, ← Lib.size_eq]; exact z2
  have hTe : s2.toList = t1 := by rw [Lib.toList_data, hs2]
  rw [hp] at cP
  have zP : (strB p0).size ≤ 100000 := by rw [strB_size]; omega
  have hdl := dots_len (p0.takeWhile queB)
  have q1 := takeWhile_len_le queB p0
  have hol : (pthN p0).length ≤ 100001 := by
    rw [pthN]
    split
    · simp
    · omega
  have q2 := dropWhile_len queB p0
  have HX : Hid ((⟨#[104, 116, 116, 112, 58, 47, 47]⟩ : ByteArray) ++ strB hh0 ++ strB (pthN p0) ++ strB (p0.dropWhile queB) = strB (htpL ++ hh0 ++ pthN p0 ++ p0.dropWhile queB)) := Lib.hid (by
    rw [show (⟨#[104, 116, 116, 112, 58, 47, 47]⟩ : ByteArray) = strB htpL from rfl, strB_append, strB_append, strB_append])
  have y1 : (strB hh0).size ≤ 100000 := by rw [strB_size]; omega
  have y2 : (strB (pthN p0)).size ≤ 100001 := by rw [strB_size]; exact hol
  have y3 : (strB (p0.dropWhile queB)).size ≤ 100000 := by rw [strB_size]; omega
  obtain ⟨PP, hPP⟩ : ∃ PP, strB p0 = PP := ⟨_, rfl⟩
  have hPd : PP.data.toList = p0 := by rw [← hPP, strB_data]
  have hPz := Lib.hid (Lib.size_eq PP)
  rw [hPP] at zP
  have HPP := Lib.hid hPP
  have HPD := Lib.hid hPd
  have hok : (s2.toList.isEmpty = true) ∨ ∃ h0 : 0 < s2.size, s2.toList.isEmpty = false ∧ (((((s2[0]'h0).toNat : Int)) == 47) = true ∨ ((((s2[0]'h0).toNat : Int)) == 47) = false ∧ ((((s2[0]'h0).toNat : Int)) == 63) = true) := by
    cases hq9 : t1 with
    | nil => exact .inl (by rw [hTe, hq9]; rfl)
    | cons c0 r0 =>
      have hTl : s2.data.toList = c0 :: r0 := by rw [hs2, hq9]
      have hT0 : 0 < s2.size := by rw [Lib.size_eq, hTl, List.length_cons]; omega
      have hT2 : s2[0]'hT0 = c0 := by
        have hd := drop_cons_at s2 0 hT0
        rw [List.drop_zero, hTl] at hd
        exact (List.cons.inj hd).1.symm
      refine .inr ⟨hT0, by rw [hTe, hq9]; rfl, ?_⟩
      by_cases a47 : c0 = 47
      · exact .inl ((byte_beq _ 47).trans (by rw [hT2, a47]; rfl))
      · refine .inr ⟨(byte_beq _ 47).trans (by rw [hT2]; simpa using a47), (byte_beq _ 63).trans ?_⟩
        rw [hT2]
        by_cases a63 : c0 = 63
        · rw [a63]; rfl
        · exact absurd (bad_head.2 ⟨c0, r0, hq9, a47, a63⟩) hbad
  clear hh hp hhl hpl ezH ezT q1 q2 hdl hol hTe hPd hPP hbad
  generalize htpL ++ hh0 ++ pthN p0 ++ p0.dropWhile queB = OUT at *
  clear hs1 hs2
  rcases hok with hT1 | ⟨hT0, hT1, m1 | ⟨m1, m2⟩⟩
  · go_enter Tryz.func10, Tryz.ntmps10
    go_wp2_with fail
    refine (cH _).mono ?_
    rintro e wc ⟨rfl, hbc⟩
    have hb1 := (Below.refl w.heap.size w).trans (hbc.mono (Below.refl w.heap.size w).size)
    unfold errV
    go_wp2_with fail
    refine (cP _).mono ?_
    rintro e wd ⟨rfl, hbd⟩
    have hb2 := hb1.trans (hbd.mono hb1.size)
    unfold errV
    dsimp only
    rw [HPP.out]
    go_wp2_with fail
    go_loop [11, 12] (fun v11 v12 => ∃ (j a : Nat), v11 = .int .i64 a ∧ v12 = .int .i64 ((j : Int) - 1) ∧ j ≤ PP.size ∧ a ≤ PP.size ∧ Hid (qAt PP.data.toList j a)) (fun _ v12 => (intOf v12 + 1).toNat)
    case atStart => exact ⟨PP.size, PP.size, rfl, by go_num, Nat.le_refl _, Nat.le_refl _, Lib.hid (by rw [hPz.out]; exact qAt_start _)⟩
    case round =>
      obtain ⟨j, a, rfl, rfl, hj, ha, HQ⟩ := hrel
      cases j with
      | succ j =>
        have hjl : j < PP.size := by omega
        have d1 : ((j + 1 : Nat) : Int) - 1 = (j : Int) := by omega
        rw [d1]
        have d2 : (0 : Int) ≤ (j : Int) := by omega
        have hd := drop_cons_at PP j hjl
        have hw : IntKind.i64.wrap ((j : Int) - 1) = (j : Int) - 1 := IntWalk.i64_in _ (by omega)
        cases e63 : (((PP[j]'hjl).toNat : Int) == 63)
        · have hc : PP[j]'hjl ≠ 63 := fun h => by rw [h] at e63; exact absurd e63 (by decide)
          have HN := Lib.hid (qAt_miss HQ.out hd hc)
          clear hd hc
          go_wp2_with fail
          go_round
          case rel => exact ⟨j, a, rfl, by go_num, by omega, ha, HN⟩
          case measure => simp [intOf] <;> omega
        · have hc : PP[j]'hjl = 63 := by
            have := byte_beq (PP[j]'hjl) 63
            rw [show (((63 : UInt8).toNat : Int)) = 63 from rfl, e63] at this
            exact beq_iff_eq.1 this.symm
          rw [hc] at hd
          have HN := Lib.hid (qAt_hit hd)
          clear hd hc
          go_wp2_with fail
          go_round
          case rel => exact ⟨j, j, rfl, by go_num, by omega, by omega, HN⟩
          case measure => simp [intOf] <;> omega
      | zero =>
        have d1 : ((0 : Nat) : Int) - 1 = -1 := by omega
        rw [d1]
        obtain ⟨u1, u2, u3⟩ := qAt_end HQ.out
        have v1 : (a : Int) ≤ (PP.size : Int) := by omega
        have v2 : (0 : Int) ≤ (a : Int) := by omega
        obtain ⟨QA, hQA⟩ : ∃ QA, PP.extract 0 a = QA := ⟨_, rfl⟩
        have hQAd : QA.data.toList = p0.takeWhile queB := by rw [← hQA, extract_take, u2, HPD.out]
        have zQ : QA.size ≤ 100000 := by
          rw [Lib.size_eq, hQAd]
          have := takeWhile_len_le queB p0
          rw [← HPD.out, ← Lib.size_eq] at this
          rw [← HPD.out]
          omega
        have hQB : PP.extract a PP.size = strB (p0.dropWhile queB) := by rw [← strB_of (PP.extract a PP.size), Lib.extract_to_end, u3, HPD.out]
        have cD := fun W => ndots_any QA W zQ
        rw [hQAd] at cD
        clear hQAd u1 u2 u3 HQ
        generalize strB (p0.dropWhile queB) = QB at *
        by_cases hde : dotsL (p0.takeWhile queB) = []
        · have hpt : pthN p0 = [47] := by rw [pthN, if_pos hde]
          rw [hde] at cD
          rw [hpt] at HX
          have es : strB [] = (⟨#[]⟩ : ByteArray) := rfl
          rw [es] at cD
          clear hde hpt es
          go_wp2_with fail
          refine (cD _).mono ?_
          rintro e we ⟨rfl, hbe⟩
          go_wp2_with fail
          refine bodyPost_ret (v := .tuple #[.string ((⟨#[104, 116, 116, 112, 58, 47, 47]⟩ : ByteArray) ++ strB hh0 ++ (⟨#[47]⟩ : ByteArray) ++ QB), .int .i64 0]) (by simp [results, Tryz.results10, go_sem]) rfl ⟨by rw [show errV (some OUT) = .tuple #[.string (strB OUT), .int .i64 0] from rfl, ← HX.out] <;> rfl, hb2.trans (hbe.mono hb2.size)⟩
        · have hpt : pthN p0 = dotsL (p0.takeWhile queB) := by rw [pthN, if_neg hde]
          have ede : (strB (pthN p0)).toList.isEmpty = false := by
            rw [strB_toList, hpt]
            cases hq8 : dotsL (p0.takeWhile queB) with
            | nil => exact absurd hq8 hde
            | cons x y => rfl
          rw [← hpt] at cD
          clear hde hpt
          generalize strB (pthN p0) = OO at *
          go_wp2_with fail
          refine (cD _).mono ?_
          rintro e we ⟨rfl, hbe⟩
          go_wp2_with fail
          refine bodyPost_ret (v := .tuple #[.string ((⟨#[104, 116, 116, 112, 58, 47, 47]⟩ : ByteArray) ++ strB hh0 ++ OO ++ QB), .int .i64 0]) (by simp [results, Tryz.results10, go_sem]) rfl ⟨by rw [show errV (some OUT) = .tuple #[.string (strB OUT), .int .i64 0] from rfl, ← HX.out] <;> rfl, hb2.trans (hbe.mono hb2.size)⟩
  · have m3 : ((((s2[0]'hT0).toNat : Int)) != 47) = false := by rw [bne, m1]; rfl
    go_enter Tryz.func10, Tryz.ntmps10
    go_wp2_with fail
    refine (cH _).mono ?_
    rintro e wc ⟨rfl, hbc⟩
    have hb1 := (Below.refl w.heap.size w).trans (hbc.mono (Below.refl w.heap.size w).size)
    unfold errV
    go_wp2_with fail
    refine (cP _).mono ?_
    rintro e wd ⟨rfl, hbd⟩
    have hb2 := hb1.trans (hbd.mono hb1.size)
    unfold errV
    dsimp only
    rw [HPP.out]
    go_wp2_with fail
    go_loop [11, 12] (fun v11 v12 => ∃ (j a : Nat), v11 = .int .i64 a ∧ v12 = .int .i64 ((j : Int) - 1) ∧ j ≤ PP.size ∧ a ≤ PP.size ∧ Hid (qAt PP.data.toList j a)) (fun _ v12 => (intOf v12 + 1).toNat)
    case atStart => exact ⟨PP.size, PP.size, rfl, by go_num, Nat.le_refl _, Nat.le_refl _, Lib.hid (by rw [hPz.out]; exact qAt_start _)⟩
    case round =>
      obtain ⟨j, a, rfl, rfl, hj, ha, HQ⟩ := hrel
      cases j with
      | succ j =>
        have hjl : j < PP.size := by omega
        have d1 : ((j + 1 : Nat) : Int) - 1 = (j : Int) := by omega
        rw [d1]
        have d2 : (0 : Int) ≤ (j : Int) := by omega
        have hd := drop_cons_at PP j hjl
        have hw : IntKind.i64.wrap ((j : Int) - 1) = (j : Int) - 1 := IntWalk.i64_in _ (by omega)
        cases e63 : (((PP[j]'hjl).toNat : Int) == 63)
        · have hc : PP[j]'hjl ≠ 63 := fun h => by rw [h] at e63; exact absurd e63 (by decide)
          have HN := Lib.hid (qAt_miss HQ.out hd hc)
          clear hd hc
          go_wp2_with fail
          go_round
          case rel => exact ⟨j, a, rfl, by go_num, by omega, ha, HN⟩
          case measure => simp [intOf] <;> omega
        · have hc : PP[j]'hjl = 63 := by
            have := byte_beq (PP[j]'hjl) 63
            rw [show (((63 : UInt8).toNat : Int)) = 63 from rfl, e63] at this
            exact beq_iff_eq.1 this.symm
          rw [hc] at hd
          have HN := Lib.hid (qAt_hit hd)
          clear hd hc
          go_wp2_with fail
          go_round
          case rel => exact ⟨j, j, rfl, by go_num, by omega, by omega, HN⟩
          case measure => simp [intOf] <;> omega
      | zero =>
        have d1 : ((0 : Nat) : Int) - 1 = -1 := by omega
        rw [d1]
        obtain ⟨u1, u2, u3⟩ := qAt_end HQ.out
        have v1 : (a : Int) ≤ (PP.size : Int) := by omega
        have v2 : (0 : Int) ≤ (a : Int) := by omega
        obtain ⟨QA, hQA⟩ : ∃ QA, PP.extract 0 a = QA := ⟨_, rfl⟩
        have hQAd : QA.data.toList = p0.takeWhile queB := by rw [← hQA, extract_take, u2, HPD.out]
        have zQ : QA.size ≤ 100000 := by
          rw [Lib.size_eq, hQAd]
          have := takeWhile_len_le queB p0
          rw [← HPD.out, ← Lib.size_eq] at this
          rw [← HPD.out]
          omega
        have hQB : PP.extract a PP.size = strB (p0.dropWhile queB) := by rw [← strB_of (PP.extract a PP.size), Lib.extract_to_end, u3, HPD.out]
        have cD := fun W => ndots_any QA W zQ
        rw [hQAd] at cD
        clear hQAd u1 u2 u3 HQ
        generalize strB (p0.dropWhile queB) = QB at *
        by_cases hde : dotsL (p0.takeWhile queB) = []
        · have hpt : pthN p0 = [47] := by rw [pthN, if_pos hde]
          rw [hde] at cD
          rw [hpt] at HX
          have es : strB [] = (⟨#[]⟩ : ByteArray) := rfl
          rw [es] at cD
          clear hde hpt es
          go_wp2_with fail
          refine (cD _).mono ?_
          rintro e we ⟨rfl, hbe⟩
          go_wp2_with fail
          refine bodyPost_ret (v := .tuple #[.string ((⟨#[104, 116, 116, 112, 58, 47, 47]⟩ : ByteArray) ++ strB hh0 ++ (⟨#[47]⟩ : ByteArray) ++ QB), .int .i64 0]) (by simp [results, Tryz.results10, go_sem]) rfl ⟨by rw [show errV (some OUT) = .tuple #[.string (strB OUT), .int .i64 0] from rfl, ← HX.out] <;> rfl, hb2.trans (hbe.mono hb2.size)⟩
        · have hpt : pthN p0 = dotsL (p0.takeWhile queB) := by rw [pthN, if_neg hde]
          have ede : (strB (pthN p0)).toList.isEmpty = false := by
            rw [strB_toList, hpt]
            cases hq8 : dotsL (p0.takeWhile queB) with
            | nil => exact absurd hq8 hde
            | cons x y => rfl
          rw [← hpt] at cD
          clear hde hpt
          generalize strB (pthN p0) = OO at *
          go_wp2_with fail
          refine (cD _).mono ?_
          rintro e we ⟨rfl, hbe⟩
          go_wp2_with fail
          refine bodyPost_ret (v := .tuple #[.string ((⟨#[104, 116, 116, 112, 58, 47, 47]⟩ : ByteArray) ++ strB hh0 ++ OO ++ QB), .int .i64 0]) (by simp [results, Tryz.results10, go_sem]) rfl ⟨by rw [show errV (some OUT) = .tuple #[.string (strB OUT), .int .i64 0] from rfl, ← HX.out] <;> rfl, hb2.trans (hbe.mono hb2.size)⟩
  · have m3 : ((((s2[0]'hT0).toNat : Int)) != 47) = true := by rw [bne, m1]; rfl
    have m4 : ((((s2[0]'hT0).toNat : Int)) != 63) = false := by rw [bne, m2]; rfl
    go_enter Tryz.func10, Tryz.ntmps10
    go_wp2_with fail
    refine (cH _).mono ?_
    rintro e wc ⟨rfl, hbc⟩
    have hb1 := (Below.refl w.heap.size w).trans (hbc.mono (Below.refl w.heap.size w).size)
    unfold errV
    go_wp2_with fail
    refine (cP _).mono ?_
    rintro e wd ⟨rfl, hbd⟩
    have hb2 := hb1.trans (hbd.mono hb1.size)
    unfold errV
    dsimp only
    rw [HPP.out]
    go_wp2_with fail
    go_loop [11, 12] (fun v11 v12 => ∃ (j a : Nat), v11 = .int .i64 a ∧ v12 = .int .i64 ((j : Int) - 1) ∧ j ≤ PP.size ∧ a ≤ PP.size ∧ Hid (qAt PP.data.toList j a)) (fun _ v12 => (intOf v12 + 1).toNat)
    case atStart => exact ⟨PP.size, PP.size, rfl, by go_num, Nat.le_refl _, Nat.le_refl _, Lib.hid (by rw [hPz.out]; exact qAt_start _)⟩
    case round =>
      obtain ⟨j, a, rfl, rfl, hj, ha, HQ⟩ := hrel
      cases j with
      | succ j =>
        have hjl : j < PP.size := by omega
        have d1 : ((j + 1 : Nat) : Int) - 1 = (j : Int) := by omega
        rw [d1]
        have d2 : (0 : Int) ≤ (j : Int) := by omega
        have hd := drop_cons_at PP j hjl
        have hw : IntKind.i64.wrap ((j : Int) - 1) = (j : Int) - 1 := IntWalk.i64_in _ (by omega)
        cases e63 : (((PP[j]'hjl).toNat : Int) == 63)
        · have hc : PP[j]'hjl ≠ 63 := fun h => by rw [h] at e63; exact absurd e63 (by decide)
          have HN := Lib.hid (qAt_miss HQ.out hd hc)
          clear hd hc
          go_wp2_with fail
          go_round
          case rel => exact ⟨j, a, rfl, by go_num, by omega, ha, HN⟩
          case measure => simp [intOf] <;> omega
        · have hc : PP[j]'hjl = 63 := by
            have := byte_beq (PP[j]'hjl) 63
            rw [show (((63 : UInt8).toNat : Int)) = 63 from rfl, e63] at this
            exact beq_iff_eq.1 this.symm
          rw [hc] at hd
          have HN := Lib.hid (qAt_hit hd)
          clear hd hc
          go_wp2_with fail
          go_round
          case rel => exact ⟨j, j, rfl, by go_num, by omega, by omega, HN⟩
          case measure => simp [intOf] <;> omega
      | zero =>
        have d1 : ((0 : Nat) : Int) - 1 = -1 := by omega
        rw [d1]
        obtain ⟨u1, u2, u3⟩ := qAt_end HQ.out
        have v1 : (a : Int) ≤ (PP.size : Int) := by omega
        have v2 : (0 : Int) ≤ (a : Int) := by omega
        obtain ⟨QA, hQA⟩ : ∃ QA, PP.extract 0 a = QA := ⟨_, rfl⟩
        have hQAd : QA.data.toList = p0.takeWhile queB := by rw [← hQA, extract_take, u2, HPD.out]
        have zQ : QA.size ≤ 100000 := by
          rw [Lib.size_eq, hQAd]
          have := takeWhile_len_le queB p0
          rw [← HPD.out, ← Lib.size_eq] at this
          rw [← HPD.out]
          omega
        have hQB : PP.extract a PP.size = strB (p0.dropWhile queB) := by rw [← strB_of (PP.extract a PP.size), Lib.extract_to_end, u3, HPD.out]
        have cD := fun W => ndots_any QA W zQ
        rw [hQAd] at cD
        clear hQAd u1 u2 u3 HQ
        generalize strB (p0.dropWhile queB) = QB at *
        by_cases hde : dotsL (p0.takeWhile queB) = []
        · have hpt : pthN p0 = [47] := by rw [pthN, if_pos hde]
          rw [hde] at cD
          rw [hpt] at HX
          have es : strB [] = (⟨#[]⟩ : ByteArray) := rfl
          rw [es] at cD
          clear hde hpt es
          go_wp2_with fail
          refine (cD _).mono ?_
          rintro e we ⟨rfl, hbe⟩
          go_wp2_with fail
          refine bodyPost_ret (v := .tuple #[.string ((⟨#[104, 116, 116, 112, 58, 47, 47]⟩ : ByteArray) ++ strB hh0 ++ (⟨#[47]⟩ : ByteArray) ++ QB), .int .i64 0]) (by simp [results, Tryz.results10, go_sem]) rfl ⟨by rw [show errV (some OUT) = .tuple #[.string (strB OUT), .int .i64 0] from rfl, ← HX.out] <;> rfl, hb2.trans (hbe.mono hb2.size)⟩
        · have hpt : pthN p0 = dotsL (p0.takeWhile queB) := by rw [pthN, if_neg hde]
          have ede : (strB (pthN p0)).toList.isEmpty = false := by
            rw [strB_toList, hpt]
            cases hq8 : dotsL (p0.takeWhile queB) with
            | nil => exact absurd hq8 hde
            | cons x y => rfl
          rw [← hpt] at cD
          clear hde hpt
          generalize strB (pthN p0) = OO at *
          go_wp2_with fail
          refine (cD _).mono ?_
          rintro e we ⟨rfl, hbe⟩
          go_wp2_with fail
          refine bodyPost_ret (v := .tuple #[.string ((⟨#[104, 116, 116, 112, 58, 47, 47]⟩ : ByteArray) ++ strB hh0 ++ OO ++ QB), .int .i64 0]) (by simp [results, Tryz.results10, go_sem]) rfl ⟨by rw [show errV (some OUT) = .tuple #[.string (strB OUT), .int .i64 0] from rfl, ← HX.out] <;> rfl, hb2.trans (hbe.mono hb2.size)⟩

set_option maxRecDepth 100000 in
set_option maxHeartbeats 8000000 in
theorem nnormal_B1 (s1 s2 : ByteArray) (h1 t1 : List UInt8) (w : World) (z1 : s1.size ≤ 100000) (z2 : s2.size ≤ 100000) (h7 : 7 ≤ s2.size) (hB : ¬ lowL (s2.data.toList.take 7) = htpL) (hs1 : s1.data.toList = h1) (hs2 : s2.data.toList = t1) (hh : hostL h1 = none) :
    Calls Tryz.prog 10 #[.string s1, .string s2] w (errPost none w) := by
  have hA : decide (7 ≤ (s2.size : Int)) = true := decide_eq_true (by omega)
  have hA2 : (7 : Int) ≤ (s2.size : Int) := by omega
  have cL := fun W => rlower_any (s2.extract 0 7) W (by rw [Lib.size_eq, extract_take, List.length_take]; omega)
  rw [extract_take] at cL
  have hB1 : ((strB (lowL (s2.data.toList.take 7))).toList == [104, 116, 116, 112, 58, 47, 47]) = false := by
    rw [strB_toList]
    simpa [htpL] using hB
  have hB2 : ¬ (strB (lowL (s2.data.toList.take 7))).toList = [104, 116, 116, 112, 58, 47, 47] := by
    rw [strB_toList]
    exact hB
  clear hB
  generalize strB (lowL (s2.data.toList.take 7)) = LL at *
  have cH := fun W => nhost_any s1 W z1
  rw [hs1, hh] at cH
  have cP := fun W => npercent_any s2 W z2
  rw [hs2] at cP
  obtain ⟨XA, XE, hXE⟩ := errV_form (pctL t1)
  unfold errPost at cP
  rw [hXE] at cP
  clear hXE hh
  clear hs1 hs2
  go_enter Tryz.func10, Tryz.ntmps10
  go_wp2_with fail
  refine (cL _).mono ?_
  rintro e wa ⟨rfl, hba⟩
  go_wp2_with fail
  refine (cH _).mono ?_
  rintro e wc ⟨rfl, hbc⟩
  have hb1 := hba.trans (hbc.mono hba.size)
  unfold errV
  go_wp2_with fail
  refine (cP _).mono ?_
  rintro e wd ⟨rfl, hbd⟩
  have hb2 := hb1.trans (hbd.mono hb1.size)
  go_wp2_with fail
  refine bodyPost_ret (v := .tuple #[.string ⟨#[]⟩, .int .i64 2]) (by simp [results, Tryz.results10, go_sem]) rfl ⟨rfl, hb2⟩

set_option maxRecDepth 100000 in
set_option maxHeartbeats 8000000 in
theorem nnormal_B2 (s1 s2 : ByteArray) (h1 t1 : List UInt8) (w : World) (z1 : s1.size ≤ 100000) (z2 : s2.size ≤ 100000) (h7 : 7 ≤ s2.size) (hB : ¬ lowL (s2.data.toList.take 7) = htpL) (hs1 : s1.data.toList = h1) (hs2 : s2.data.toList = t1) (hh0 : List UInt8) (hh : hostL h1 = some hh0) (hp : pctL t1 = none) :
    Calls Tryz.prog 10 #[.string s1, .string s2] w (errPost none w) := by
  have hA : decide (7 ≤ (s2.size : Int)) = true := decide_eq_true (by omega)
  have hA2 : (7 : Int) ≤ (s2.size : Int) := by omega
  have cL := fun W => rlower_any (s2.extract 0 7) W (by rw [Lib.size_eq, extract_take, List.length_take]; omega)
  rw [extract_take] at cL
  have hB1 : ((strB (lowL (s2.data.toList.take 7))).toList == [104, 116, 116, 112, 58, 47, 47]) = false := by
    rw [strB_toList]
    simpa [htpL] using hB
  have hB2 : ¬ (strB (lowL (s2.data.toList.take 7))).toList = [104, 116, 116, 112, 58, 47, 47] := by
    rw [strB_toList]
    exact hB
  clear hB
  generalize strB (lowL (s2.data.toList.take 7)) = LL at *
  have cH := fun W => nhost_any s1 W z1
  rw [hs1, hh] at cH
  have cP := fun W => npercent_any s2 W z2
  rw [hs2] at cP
  rw [hp] at cP
  clear hh hp
  clear hs1 hs2
  go_enter Tryz.func10, Tryz.ntmps10
  go_wp2_with fail
  refine (cL _).mono ?_
  rintro e wa ⟨rfl, hba⟩
  go_wp2_with fail
  refine (cH _).mono ?_
  rintro e wc ⟨rfl, hbc⟩
  have hb1 := hba.trans (hbc.mono hba.size)
  unfold errV
  go_wp2_with fail
  refine (cP _).mono ?_
  rintro e wd ⟨rfl, hbd⟩
  have hb2 := hb1.trans (hbd.mono hb1.size)
  unfold errV
  go_wp2_with fail
  refine bodyPost_ret (v := .tuple #[.string ⟨#[]⟩, .int .i64 2]) (by simp [results, Tryz.results10, go_sem]) rfl ⟨rfl, hb2⟩

set_option maxRecDepth 100000 in
set_option maxHeartbeats 8000000 in
theorem nnormal_B3 (s1 s2 : ByteArray) (h1 t1 : List UInt8) (w : World) (z1 : s1.size ≤ 100000) (z2 : s2.size ≤ 100000) (h7 : 7 ≤ s2.size) (hB : ¬ lowL (s2.data.toList.take 7) = htpL) (hs1 : s1.data.toList = h1) (hs2 : s2.data.toList = t1) (hh0 p0 : List UInt8) (hh : hostL h1 = some hh0) (hp : pctL t1 = some p0) (hbad : t1 ≠ [] ∧ t1.head? ≠ some 47 ∧ t1.head? ≠ some 63) :
    Calls Tryz.prog 10 #[.string s1, .string s2] w (errPost none w) := by
  have hA : decide (7 ≤ (s2.size : Int)) = true := decide_eq_true (by omega)
  have hA2 : (7 : Int) ≤ (s2.size : Int) := by omega
  have cL := fun W => rlower_any (s2.extract 0 7) W (by rw [Lib.size_eq, extract_take, List.length_take]; omega)
  rw [extract_take] at cL
  have hB1 : ((strB (lowL (s2.data.toList.take 7))).toList == [104, 116, 116, 112, 58, 47, 47]) = false := by
    rw [strB_toList]
    simpa [htpL] using hB
  have hB2 : ¬ (strB (lowL (s2.data.toList.take 7))).toList = [104, 116, 116, 112, 58, 47, 47] := by
    rw [strB_toList]
    exact hB
  clear hB
  generalize strB (lowL (s2.data.toList.take 7)) = LL at *
  have cH := fun W => nhost_any s1 W z1
  rw [hs1, hh] at cH
  have cP := fun W => npercent_any s2 W z2
  rw [hs2] at cP
  rw [hp] at cP
  obtain ⟨c0, r0, ht, n47, n63⟩ := bad_head.1 hbad
  have hTl : s2.data.toList = c0 :: r0 := by rw [hs2, ht]
  have hT0 : 0 < s2.size := by rw [Lib.size_eq, hTl, List.length_cons]; omega
  have hT1 : s2.toList.isEmpty = false := by rw [Lib.toList_data, hTl]; rfl
  have hT2 : s2[0]'hT0 = c0 := by
    have hd := drop_cons_at s2 0 hT0
    rw [List.drop_zero, hTl] at hd
    exact (List.cons.inj hd).1.symm
  have m1 : ((((s2[0]'hT0).toNat : Int)) == 47) = false := (byte_beq _ 47).trans (by rw [hT2]; simpa using n47)
  have m2 : ((((s2[0]'hT0).toNat : Int)) == 63) = false := (byte_beq _ 63).trans (by rw [hT2]; simpa using n63)
  have m3 : ((((s2[0]'hT0).toNat : Int)) != 47) = true := by rw [bne, m1]; rfl
  have m4 : ((((s2[0]'hT0).toNat : Int)) != 63) = true := by rw [bne, m2]; rfl
  clear hh hp hTl hT2 ht
  clear hs1 hs2
  go_enter Tryz.func10, Tryz.ntmps10
  go_wp2_with fail
  refine (cL _).mono ?_
  rintro e wa ⟨rfl, hba⟩
  go_wp2_with fail
  refine (cH _).mono ?_
  rintro e wc ⟨rfl, hbc⟩
  have hb1 := hba.trans (hbc.mono hba.size)
  unfold errV
  go_wp2_with fail
  refine (cP _).mono ?_
  rintro e wd ⟨rfl, hbd⟩
  have hb2 := hb1.trans (hbd.mono hb1.size)
  unfold errV
  go_wp2_with fail
  refine bodyPost_ret (v := .tuple #[.string ⟨#[]⟩, .int .i64 2]) (by simp [results, Tryz.results10, go_sem]) rfl ⟨rfl, hb2⟩

set_option maxRecDepth 100000 in
set_option maxHeartbeats 8000000 in
theorem nnormal_B4 (s1 s2 : ByteArray) (h1 t1 : List UInt8) (w : World) (z1 : s1.size ≤ 100000) (z2 : s2.size ≤ 100000) (h7 : 7 ≤ s2.size) (hB : ¬ lowL (s2.data.toList.take 7) = htpL) (hs1 : s1.data.toList = h1) (hs2 : s2.data.toList = t1) (hh0 p0 : List UInt8) (hh : hostL h1 = some hh0) (hp : pctL t1 = some p0) (hbad : ¬ (t1 ≠ [] ∧ t1.head? ≠ some 47 ∧ t1.head? ≠ some 63)) :
    Calls Tryz.prog 10 #[.string s1, .string s2] w (errPost (some (htpL ++ hh0 ++ pthN p0 ++ p0.dropWhile queB)) w) := by
  have hA : decide (7 ≤ (s2.size : Int)) = true := decide_eq_true (by omega)
  have hA2 : (7 : Int) ≤ (s2.size : Int) := by omega
  have cL := fun W => rlower_any (s2.extract 0 7) W (by rw [Lib.size_eq, extract_take, List.length_take]; omega)
  rw [extract_take] at cL
  have hB1 : ((strB (lowL (s2.data.toList.take 7))).toList == [104, 116, 116, 112, 58, 47, 47]) = false := by
    rw [strB_toList]
    simpa [htpL] using hB
  have hB2 : ¬ (strB (lowL (s2.data.toList.take 7))).toList = [104, 116, 116, 112, 58, 47, 47] := by
    rw [strB_toList]
    exact hB
  clear hB
  generalize strB (lowL (s2.data.toList.take 7)) = LL at *
  have cH := fun W => nhost_any s1 W z1
  rw [hs1, hh] at cH
  have cP := fun W => npercent_any s2 W z2
  rw [hs2] at cP
  have hhl := host_len hh
  have hpl := (pct_stays _ t1 p0 (Nat.le_refl _) hp).2
  have ezH : h1.length ≤ 100000 := by rw [← hs1, ← Lib.size_eq]; exact z1
  have ezT : t1.length ≤ 100000 := by rw [← hs2, ← Lib.size_eq]; exact z2
  have hTe : s2.toList = t1 := by rw [Lib.toList_data, hs2]
  rw [hp] at cP
  have zP : (strB p0).size ≤ 100000 := by rw [strB_size]; omega
  have hdl := dots_len (p0.takeWhile queB)
  have q1 := takeWhile_len_le queB p0
  have hol : (pthN p0).length ≤ 100001 := by
    rw [pthN]
    split
    · simp
    · omega
  have q2 := dropWhile_len queB p0
  have HX : Hid ((⟨#[104, 116, 116, 112, 58, 47, 47]⟩ : ByteArray) ++ strB hh0 ++ strB (pthN p0) ++ strB (p0.dropWhile queB) = strB (htpL ++ hh0 ++ pthN p0 ++ p0.dropWhile queB)) := Lib.hid (by
    rw [show (⟨#[104, 116, 116, 112, 58, 47, 47]⟩ : ByteArray) = strB htpL from rfl, strB_append, strB_append, strB_append])
  have y1 : (strB hh0).size ≤ 100000 := by rw [strB_size]; omega
  have y2 : (strB (pthN p0)).size ≤ 100001 := by rw [strB_size]; exact hol
  have y3 : (strB (p0.dropWhile queB)).size ≤ 100000 := by rw [strB_size]; omega
  obtain ⟨PP, hPP⟩ : ∃ PP, strB p0 = PP := ⟨_, rfl⟩
  have hPd : PP.data.toList = p0 := by rw [← hPP, strB_data]
  have hPz := Lib.hid (Lib.size_eq PP)
  rw [hPP] at zP
  have HPP := Lib.hid hPP
  have HPD := Lib.hid hPd
  have hok : (s2.toList.isEmpty = true) ∨ ∃ h0 : 0 < s2.size, s2.toList.isEmpty = false ∧ (((((s2[0]'h0).toNat : Int)) == 47) = true ∨ ((((s2[0]'h0).toNat : Int)) == 47) = false ∧ ((((s2[0]'h0).toNat : Int)) == 63) = true) := by
    cases hq9 : t1 with
    | nil => exact .inl (by rw [hTe, hq9]; rfl)
    | cons c0 r0 =>
      have hTl : s2.data.toList = c0 :: r0 := by rw [hs2, hq9]
      have hT0 : 0 < s2.size := by rw [Lib.size_eq, hTl, List.length_cons]; omega
      have hT2 : s2[0]'hT0 = c0 := by
        have hd := drop_cons_at s2 0 hT0
        rw [List.drop_zero, hTl] at hd
        exact (List.cons.inj hd).1.symm
      refine .inr ⟨hT0, by rw [hTe, hq9]; rfl, ?_⟩
      by_cases a47 : c0 = 47
      · exact .inl ((byte_beq _ 47).trans (by rw [hT2, a47]; rfl))
      · refine .inr ⟨(byte_beq _ 47).trans (by rw [hT2]; simpa using a47), (byte_beq _ 63).trans ?_⟩
        rw [hT2]
        by_cases a63 : c0 = 63
        · rw [a63]; rfl
        · exact absurd (bad_head.2 ⟨c0, r0, hq9, a47, a63⟩) hbad
  clear hh hp hhl hpl ezH ezT q1 q2 hdl hol hTe hPd hPP hbad
  generalize htpL ++ hh0 ++ pthN p0 ++ p0.dropWhile queB = OUT at *
  clear hs1 hs2
  rcases hok with hT1 | ⟨hT0, hT1, m1 | ⟨m1, m2⟩⟩
  · go_enter Tryz.func10, Tryz.ntmps10
    go_wp2_with fail
    refine (cL _).mono ?_
    rintro e wa ⟨rfl, hba⟩
    go_wp2_with fail
    refine (cH _).mono ?_
    rintro e wc ⟨rfl, hbc⟩
    have hb1 := hba.trans (hbc.mono hba.size)
    unfold errV
    go_wp2_with fail
    refine (cP _).mono ?_
    rintro e wd ⟨rfl, hbd⟩
    have hb2 := hb1.trans (hbd.mono hb1.size)
    unfold errV
    dsimp only
    rw [HPP.out]
    go_wp2_with fail
    go_loop [11, 12] (fun v11 v12 => ∃ (j a : Nat), v11 = .int .i64 a ∧ v12 = .int .i64 ((j : Int) - 1) ∧ j ≤ PP.size ∧ a ≤ PP.size ∧ Hid (qAt PP.data.toList j a)) (fun _ v12 => (intOf v12 + 1).toNat)
    case atStart => exact ⟨PP.size, PP.size, rfl, by go_num, Nat.le_refl _, Nat.le_refl _, Lib.hid (by rw [hPz.out]; exact qAt_start _)⟩
    case round =>
      obtain ⟨j, a, rfl, rfl, hj, ha, HQ⟩ := hrel
      cases j with
      | succ j =>
        have hjl : j < PP.size := by omega
        have d1 : ((j + 1 : Nat) : Int) - 1 = (j : Int) := by omega
        rw [d1]
        have d2 : (0 : Int) ≤ (j : Int) := by omega
        have hd := drop_cons_at PP j hjl
        have hw : IntKind.i64.wrap ((j : Int) - 1) = (j : Int) - 1 := IntWalk.i64_in _ (by omega)
        cases e63 : (((PP[j]'hjl).toNat : Int) == 63)
        · have hc : PP[j]'hjl ≠ 63 := fun h => by rw [h] at e63; exact absurd e63 (by decide)
          have HN := Lib.hid (qAt_miss HQ.out hd hc)
          clear hd hc
          go_wp2_with fail
          go_round
          case rel => exact ⟨j, a, rfl, by go_num, by omega, ha, HN⟩
          case measure => simp [intOf] <;> omega
        · have hc : PP[j]'hjl = 63 := by
            have := byte_beq (PP[j]'hjl) 63
            rw [show (((63 : UInt8).toNat : Int)) = 63 from rfl, e63] at this
            exact beq_iff_eq.1 this.symm
          rw [hc] at hd
          have HN := Lib.hid (qAt_hit hd)
          clear hd hc
          go_wp2_with fail
          go_round
          case rel => exact ⟨j, j, rfl, by go_num, by omega, by omega, HN⟩
          case measure => simp [intOf] <;> omega
      | zero =>
        have d1 : ((0 : Nat) : Int) - 1 = -1 := by omega
        rw [d1]
        obtain ⟨u1, u2, u3⟩ := qAt_end HQ.out
        have v1 : (a : Int) ≤ (PP.size : Int) := by omega
        have v2 : (0 : Int) ≤ (a : Int) := by omega
        obtain ⟨QA, hQA⟩ : ∃ QA, PP.extract 0 a = QA := ⟨_, rfl⟩
        have hQAd : QA.data.toList = p0.takeWhile queB := by rw [← hQA, extract_take, u2, HPD.out]
        have zQ : QA.size ≤ 100000 := by
          rw [Lib.size_eq, hQAd]
          have := takeWhile_len_le queB p0
          rw [← HPD.out, ← Lib.size_eq] at this
          rw [← HPD.out]
          omega
        have hQB : PP.extract a PP.size = strB (p0.dropWhile queB) := by rw [← strB_of (PP.extract a PP.size), Lib.extract_to_end, u3, HPD.out]
        have cD := fun W => ndots_any QA W zQ
        rw [hQAd] at cD
        clear hQAd u1 u2 u3 HQ
        generalize strB (p0.dropWhile queB) = QB at *
        by_cases hde : dotsL (p0.takeWhile queB) = []
        · have hpt : pthN p0 = [47] := by rw [pthN, if_pos hde]
          rw [hde] at cD
          rw [hpt] at HX
          have es : strB [] = (⟨#[]⟩ : ByteArray) := rfl
          rw [es] at cD
          clear hde hpt es
          go_wp2_with fail
          refine (cD _).mono ?_
          rintro e we ⟨rfl, hbe⟩
          go_wp2_with fail
          refine bodyPost_ret (v := .tuple #[.string ((⟨#[104, 116, 116, 112, 58, 47, 47]⟩ : ByteArray) ++ strB hh0 ++ (⟨#[47]⟩ : ByteArray) ++ QB), .int .i64 0]) (by simp [results, Tryz.results10, go_sem]) rfl ⟨by rw [show errV (some OUT) = .tuple #[.string (strB OUT), .int .i64 0] from rfl, ← HX.out] <;> rfl, hb2.trans (hbe.mono hb2.size)⟩
        · have hpt : pthN p0 = dotsL (p0.takeWhile queB) := by rw [pthN, if_neg hde]
          have ede : (strB (pthN p0)).toList.isEmpty = false := by
            rw [strB_toList, hpt]
            cases hq8 : dotsL (p0.takeWhile queB) with
            | nil => exact absurd hq8 hde
            | cons x y => rfl
          rw [← hpt] at cD
          clear hde hpt
          generalize strB (pthN p0) = OO at *
          go_wp2_with fail
          refine (cD _).mono ?_
          rintro e we ⟨rfl, hbe⟩
          go_wp2_with fail
          refine bodyPost_ret (v := .tuple #[.string ((⟨#[104, 116, 116, 112, 58, 47, 47]⟩ : ByteArray) ++ strB hh0 ++ OO ++ QB), .int .i64 0]) (by simp [results, Tryz.results10, go_sem]) rfl ⟨by rw [show errV (some OUT) = .tuple #[.string (strB OUT), .int .i64 0] from rfl, ← HX.out] <;> rfl, hb2.trans (hbe.mono hb2.size)⟩
  · have m3 : ((((s2[0]'hT0).toNat : Int)) != 47) = false := by rw [bne, m1]; rfl
    go_enter Tryz.func10, Tryz.ntmps10
    go_wp2_with fail
    refine (cL _).mono ?_
    rintro e wa ⟨rfl, hba⟩
    go_wp2_with fail
    refine (cH _).mono ?_
    rintro e wc ⟨rfl, hbc⟩
    have hb1 := hba.trans (hbc.mono hba.size)
    unfold errV
    go_wp2_with fail
    refine (cP _).mono ?_
    rintro e wd ⟨rfl, hbd⟩
    have hb2 := hb1.trans (hbd.mono hb1.size)
    unfold errV
    dsimp only
    rw [HPP.out]
    go_wp2_with fail
    go_loop [11, 12] (fun v11 v12 => ∃ (j a : Nat), v11 = .int .i64 a ∧ v12 = .int .i64 ((j : Int) - 1) ∧ j ≤ PP.size ∧ a ≤ PP.size ∧ Hid (qAt PP.data.toList j a)) (fun _ v12 => (intOf v12 + 1).toNat)
    case atStart => exact ⟨PP.size, PP.size, rfl, by go_num, Nat.le_refl _, Nat.le_refl _, Lib.hid (by rw [hPz.out]; exact qAt_start _)⟩
    case round =>
      obtain ⟨j, a, rfl, rfl, hj, ha, HQ⟩ := hrel
      cases j with
      | succ j =>
        have hjl : j < PP.size := by omega
        have d1 : ((j + 1 : Nat) : Int) - 1 = (j : Int) := by omega
        rw [d1]
        have d2 : (0 : Int) ≤ (j : Int) := by omega
        have hd := drop_cons_at PP j hjl
        have hw : IntKind.i64.wrap ((j : Int) - 1) = (j : Int) - 1 := IntWalk.i64_in _ (by omega)
        cases e63 : (((PP[j]'hjl).toNat : Int) == 63)
        · have hc : PP[j]'hjl ≠ 63 := fun h => by rw [h] at e63; exact absurd e63 (by decide)
          have HN := Lib.hid (qAt_miss HQ.out hd hc)
          clear hd hc
          go_wp2_with fail
          go_round
          case rel => exact ⟨j, a, rfl, by go_num, by omega, ha, HN⟩
          case measure => simp [intOf] <;> omega
        · have hc : PP[j]'hjl = 63 := by
            have := byte_beq (PP[j]'hjl) 63
            rw [show (((63 : UInt8).toNat : Int)) = 63 from rfl, e63] at this
            exact beq_iff_eq.1 this.symm
          rw [hc] at hd
          have HN := Lib.hid (qAt_hit hd)
          clear hd hc
          go_wp2_with fail
          go_round
          case rel => exact ⟨j, j, rfl, by go_num, by omega, by omega, HN⟩
          case measure => simp [intOf] <;> omega
      | zero =>
        have d1 : ((0 : Nat) : Int) - 1 = -1 := by omega
        rw [d1]
        obtain ⟨u1, u2, u3⟩ := qAt_end HQ.out
        have v1 : (a : Int) ≤ (PP.size : Int) := by omega
        have v2 : (0 : Int) ≤ (a : Int) := by omega
        obtain ⟨QA, hQA⟩ : ∃ QA, PP.extract 0 a = QA := ⟨_, rfl⟩
        have hQAd : QA.data.toList = p0.takeWhile queB := by rw [← hQA, extract_take, u2, HPD.out]
        have zQ : QA.size ≤ 100000 := by
          rw [Lib.size_eq, hQAd]
          have := takeWhile_len_le queB p0
          rw [← HPD.out, ← Lib.size_eq] at this
          rw [← HPD.out]
          omega
        have hQB : PP.extract a PP.size = strB (p0.dropWhile queB) := by rw [← strB_of (PP.extract a PP.size), Lib.extract_to_end, u3, HPD.out]
        have cD := fun W => ndots_any QA W zQ
        rw [hQAd] at cD
        clear hQAd u1 u2 u3 HQ
        generalize strB (p0.dropWhile queB) = QB at *
        by_cases hde : dotsL (p0.takeWhile queB) = []
        · have hpt : pthN p0 = [47] := by rw [pthN, if_pos hde]
          rw [hde] at cD
          rw [hpt] at HX
          have es : strB [] = (⟨#[]⟩ : ByteArray) := rfl
          rw [es] at cD
          clear hde hpt es
          go_wp2_with fail
          refine (cD _).mono ?_
          rintro e we ⟨rfl, hbe⟩
          go_wp2_with fail
          refine bodyPost_ret (v := .tuple #[.string ((⟨#[104, 116, 116, 112, 58, 47, 47]⟩ : ByteArray) ++ strB hh0 ++ (⟨#[47]⟩ : ByteArray) ++ QB), .int .i64 0]) (by simp [results, Tryz.results10, go_sem]) rfl ⟨by rw [show errV (some OUT) = .tuple #[.string (strB OUT), .int .i64 0] from rfl, ← HX.out] <;> rfl, hb2.trans (hbe.mono hb2.size)⟩
        · have hpt : pthN p0 = dotsL (p0.takeWhile queB) := by rw [pthN, if_neg hde]
          have ede : (strB (pthN p0)).toList.isEmpty = false := by
            rw [strB_toList, hpt]
            cases hq8 : dotsL (p0.takeWhile queB) with
            | nil => exact absurd hq8 hde
            | cons x y => rfl
          rw [← hpt] at cD
          clear hde hpt
          generalize strB (pthN p0) = OO at *
          go_wp2_with fail
          refine (cD _).mono ?_
          rintro e we ⟨rfl, hbe⟩
          go_wp2_with fail
          refine bodyPost_ret (v := .tuple #[.string ((⟨#[104, 116, 116, 112, 58, 47, 47]⟩ : ByteArray) ++ strB hh0 ++ OO ++ QB), .int .i64 0]) (by simp [results, Tryz.results10, go_sem]) rfl ⟨by rw [show errV (some OUT) = .tuple #[.string (strB OUT), .int .i64 0] from rfl, ← HX.out] <;> rfl, hb2.trans (hbe.mono hb2.size)⟩
  · have m3 : ((((s2[0]'hT0).toNat : Int)) != 47) = true := by rw [bne, m1]; rfl
    have m4 : ((((s2[0]'hT0).toNat : Int)) != 63) = false := by rw [bne, m2]; rfl
    go_enter Tryz.func10, Tryz.ntmps10
    go_wp2_with fail
    refine (cL _).mono ?_
    rintro e wa ⟨rfl, hba⟩
    go_wp2_with fail
    refine (cH _).mono ?_
    rintro e wc ⟨rfl, hbc⟩
    have hb1 := hba.trans (hbc.mono hba.size)
    unfold errV
    go_wp2_with fail
    refine (cP _).mono ?_
    rintro e wd ⟨rfl, hbd⟩
    have hb2 := hb1.trans (hbd.mono hb1.size)
    unfold errV
    dsimp only
    rw [HPP.out]
    go_wp2_with fail
    go_loop [11, 12] (fun v11 v12 => ∃ (j a : Nat), v11 = .int .i64 a ∧ v12 = .int .i64 ((j : Int) - 1) ∧ j ≤ PP.size ∧ a ≤ PP.size ∧ Hid (qAt PP.data.toList j a)) (fun _ v12 => (intOf v12 + 1).toNat)
    case atStart => exact ⟨PP.size, PP.size, rfl, by go_num, Nat.le_refl _, Nat.le_refl _, Lib.hid (by rw [hPz.out]; exact qAt_start _)⟩
    case round =>
      obtain ⟨j, a, rfl, rfl, hj, ha, HQ⟩ := hrel
      cases j with
      | succ j =>
        have hjl : j < PP.size := by omega
        have d1 : ((j + 1 : Nat) : Int) - 1 = (j : Int) := by omega
        rw [d1]
        have d2 : (0 : Int) ≤ (j : Int) := by omega
        have hd := drop_cons_at PP j hjl
        have hw : IntKind.i64.wrap ((j : Int) - 1) = (j : Int) - 1 := IntWalk.i64_in _ (by omega)
        cases e63 : (((PP[j]'hjl).toNat : Int) == 63)
        · have hc : PP[j]'hjl ≠ 63 := fun h => by rw [h] at e63; exact absurd e63 (by decide)
          have HN := Lib.hid (qAt_miss HQ.out hd hc)
          clear hd hc
          go_wp2_with fail
          go_round
          case rel => exact ⟨j, a, rfl, by go_num, by omega, ha, HN⟩
          case measure => simp [intOf] <;> omega
        · have hc : PP[j]'hjl = 63 := by
            have := byte_beq (PP[j]'hjl) 63
            rw [show (((63 : UInt8).toNat : Int)) = 63 from rfl, e63] at this
            exact beq_iff_eq.1 this.symm
          rw [hc] at hd
          have HN := Lib.hid (qAt_hit hd)
          clear hd hc
          go_wp2_with fail
          go_round
          case rel => exact ⟨j, j, rfl, by go_num, by omega, by omega, HN⟩
          case measure => simp [intOf] <;> omega
      | zero =>
        have d1 : ((0 : Nat) : Int) - 1 = -1 := by omega
        rw [d1]
        obtain ⟨u1, u2, u3⟩ := qAt_end HQ.out
        have v1 : (a : Int) ≤ (PP.size : Int) := by omega
        have v2 : (0 : Int) ≤ (a : Int) := by omega
        obtain ⟨QA, hQA⟩ : ∃ QA, PP.extract 0 a = QA := ⟨_, rfl⟩
        have hQAd : QA.data.toList = p0.takeWhile queB := by rw [← hQA, extract_take, u2, HPD.out]
        have zQ : QA.size ≤ 100000 := by
          rw [Lib.size_eq, hQAd]
          have := takeWhile_len_le queB p0
          rw [← HPD.out, ← Lib.size_eq] at this
          rw [← HPD.out]
          omega
        have hQB : PP.extract a PP.size = strB (p0.dropWhile queB) := by rw [← strB_of (PP.extract a PP.size), Lib.extract_to_end, u3, HPD.out]
        have cD := fun W => ndots_any QA W zQ
        rw [hQAd] at cD
        clear hQAd u1 u2 u3 HQ
        generalize strB (p0.dropWhile queB) = QB at *
        by_cases hde : dotsL (p0.takeWhile queB) = []
        · have hpt : pthN p0 = [47] := by rw [pthN, if_pos hde]
          rw [hde] at cD
          rw [hpt] at HX
          have es : strB [] = (⟨#[]⟩ : ByteArray) := rfl
          rw [es] at cD
          clear hde hpt es
          go_wp2_with fail
          refine (cD _).mono ?_
          rintro e we ⟨rfl, hbe⟩
          go_wp2_with fail
          refine bodyPost_ret (v := .tuple #[.string ((⟨#[104, 116, 116, 112, 58, 47, 47]⟩ : ByteArray) ++ strB hh0 ++ (⟨#[47]⟩ : ByteArray) ++ QB), .int .i64 0]) (by simp [results, Tryz.results10, go_sem]) rfl ⟨by rw [show errV (some OUT) = .tuple #[.string (strB OUT), .int .i64 0] from rfl, ← HX.out] <;> rfl, hb2.trans (hbe.mono hb2.size)⟩
        · have hpt : pthN p0 = dotsL (p0.takeWhile queB) := by rw [pthN, if_neg hde]
          have ede : (strB (pthN p0)).toList.isEmpty = false := by
            rw [strB_toList, hpt]
            cases hq8 : dotsL (p0.takeWhile queB) with
            | nil => exact absurd hq8 hde
            | cons x y => rfl
          rw [← hpt] at cD
          clear hde hpt
          generalize strB (pthN p0) = OO at *
          go_wp2_with fail
          refine (cD _).mono ?_
          rintro e we ⟨rfl, hbe⟩
          go_wp2_with fail
          refine bodyPost_ret (v := .tuple #[.string ((⟨#[104, 116, 116, 112, 58, 47, 47]⟩ : ByteArray) ++ strB hh0 ++ OO ++ QB), .int .i64 0]) (by simp [results, Tryz.results10, go_sem]) rfl ⟨by rw [show errV (some OUT) = .tuple #[.string (strB OUT), .int .i64 0] from rfl, ← HX.out] <;> rfl, hb2.trans (hbe.mono hb2.size)⟩

set_option maxRecDepth 100000 in
set_option maxHeartbeats 8000000 in
theorem nnormal_C1 (s1 s2 : ByteArray) (h1 t1 : List UInt8) (w : World) (z2 : s2.size ≤ 100000) (h7 : 7 ≤ s2.size) (hB : lowL (s2.data.toList.take 7) = htpL) (hs1 : (s2.data.toList.drop 7).takeWhile endB = h1) (hs2 : (s2.data.toList.drop 7).dropWhile endB = t1) (hh : hostL h1 = none) :
    Calls Tryz.prog 10 #[.string s1, .string s2] w (errPost none w) := by
  have hA : decide (7 ≤ (s2.size : Int)) = true := decide_eq_true (by omega)
  have hA2 : (7 : Int) ≤ (s2.size : Int) := by omega
  have cL := fun W => rlower_any (s2.extract 0 7) W (by rw [Lib.size_eq, extract_take, List.length_take]; omega)
  rw [extract_take] at cL
  have hB1 : (strB (lowL (s2.data.toList.take 7))).toList = [104, 116, 116, 112, 58, 47, 47] := by
    rw [strB_toList]
    exact hB
  clear hB
  generalize strB (lowL (s2.data.toList.take 7)) = LL at *
  have hz2 := Lib.hid (Lib.size_eq s2)
  go_enter Tryz.func10, Tryz.ntmps10
  go_wp2_with fail
  refine (cL _).mono ?_
  rintro e wa ⟨rfl, hba⟩
  have HBA := Lib.hid hba
  clear hba cL
  go_wp2_with fail
  go_loop [6] (fun i => ∃ k : Nat, 7 ≤ k ∧ k ≤ s2.size ∧ i = .int .i64 k ∧ Hid (∀ c ∈ (s2.data.toList.take k).drop 7, endB c = true)) (fun i => s2.size - (intOf i).toNat)
  case atStart => exact ⟨7, Nat.le_refl _, h7, rfl, Lib.hid (by
    intro c hc
    rw [List.drop_of_length_le (by rw [List.length_take]; omega)] at hc
    cases hc)⟩
  case round =>
    obtain ⟨k, hk7, hk, rfl, H⟩ := hrel
    by_cases hlt : k < s2.size
    · have hd := Lib.hid (drop_cons_at s2 k hlt)
      cases e47 : (((s2[k]'hlt).toNat : Int) == 47)
      · have e47b : (((s2[k]'hlt).toNat : Int) != 47) = true := by rw [bne, e47]; rfl
        cases e63 : (((s2[k]'hlt).toNat : Int) == 63)
        · have e63b : (((s2[k]'hlt).toNat : Int) != 63) = true := by rw [bne, e63]; rfl
          have hn47 : s2[k]'hlt ≠ 47 := fun h => by rw [h] at e47; exact absurd e47 (by decide)
          have hn63 : s2[k]'hlt ≠ 63 := fun h => by rw [h] at e63; exact absurd e63 (by decide)
          have HN : Hid (∀ c ∈ (s2.data.toList.take (k + 1)).drop 7, endB c = true) := Lib.hid (by
            intro c hc
            rw [take_snoc s2 k hlt, List.drop_append_of_le_length (by rw [List.length_take, ← hz2.out]; omega)] at hc
            rcases List.mem_append.1 hc with hc | hc
            · exact H.out c hc
            · rw [List.mem_singleton] at hc
              subst hc
              simp [endB, hn47, hn63])
          clear hn47 hn63 hd
          go_wp2_with fail
          go_round
          case rel => exact ⟨k + 1, by omega, by omega, by go_num, HN⟩
          case measure => simp [intOf]; omega
        · have e63b : (((s2[k]'hlt).toNat : Int) != 63) = false := by rw [bne, e63]; rfl
          have hc63 : s2[k]'hlt = 63 := by
            have := byte_beq (s2[k]'hlt) 63
            rw [show (((63 : UInt8).toNat : Int)) = 63 from rfl, e63] at this
            exact beq_iff_eq.1 this.symm
          have hex : k = s2.data.toList.length ∨ ∃ c r, s2.data.toList.drop k = c :: r ∧ endB c = false := .inr ⟨_, _, hd.out, by rw [hc63]; decide⟩
          clear hc63 hd
          obtain ⟨x1, x2⟩ := end_at (l := s2.data.toList) (k := k) hk7 (by rw [← hz2.out]; exact hk) H.out hex
          obtain ⟨SH, hSH⟩ : ∃ SH, s2.extract 7 k = SH := ⟨_, rfl⟩
          obtain ⟨ST, hST⟩ : ∃ ST, s2.extract k s2.size = ST := ⟨_, rfl⟩
          have eH : SH.data.toList = h1 := by rw [← hSH, cut_data, strB_data, ← x1, hs1]
          have eT : ST.data.toList = t1 := by rw [← hST, Lib.extract_to_end, ← x2, hs2]
          have zH : SH.size ≤ 100000 := by
            rw [← hSH, cut_data, strB_size, List.length_drop, List.length_take]
            omega
          have zT : ST.size ≤ 100000 := by
            rw [← hST, Lib.size_eq, Lib.extract_to_end, List.length_drop, ← hz2.out]
            omega
          have b1 : (7 : Int) ≤ (k : Int) := by omega
          have b2 : (k : Int) ≤ (s2.size : Int) := by omega
          have b3 : (0 : Int) ≤ (k : Int) := by omega
          have hbA := HBA.out
          clear x1 x2 H
          have cH := fun W => nhost_any SH W zH
          rw [eH, hh] at cH
          have cP := fun W => npercent_any ST W zT
          rw [eT] at cP
          obtain ⟨XA, XE, hXE⟩ := errV_form (pctL t1)
          unfold errPost at cP
          rw [hXE] at cP
          clear hXE hh
          clear eH eT
          clear hex
          go_wp2_with fail
          refine (cH _).mono ?_
          rintro e wc ⟨rfl, hbc⟩
          have hb1 := hbA.trans (hbc.mono hbA.size)
          unfold errV
          go_wp2_with fail
          refine (cP _).mono ?_
          rintro e wd ⟨rfl, hbd⟩
          have hb2 := hb1.trans (hbd.mono hb1.size)
          go_wp2_with fail
          refine bodyPost_ret (v := .tuple #[.string ⟨#[]⟩, .int .i64 2]) (by simp [results, Tryz.results10, go_sem]) rfl ⟨rfl, hb2⟩
      · have e47b : (((s2[k]'hlt).toNat : Int) != 47) = false := by rw [bne, e47]; rfl
        have hc47 : s2[k]'hlt = 47 := by
          have := byte_beq (s2[k]'hlt) 47
          rw [show (((47 : UInt8).toNat : Int)) = 47 from rfl, e47] at this
          exact beq_iff_eq.1 this.symm
        have hex : k = s2.data.toList.length ∨ ∃ c r, s2.data.toList.drop k = c :: r ∧ endB c = false := .inr ⟨_, _, hd.out, by rw [hc47]; decide⟩
        clear hc47 hd
        obtain ⟨x1, x2⟩ := end_at (l := s2.data.toList) (k := k) hk7 (by rw [← hz2.out]; exact hk) H.out hex
        obtain ⟨SH, hSH⟩ : ∃ SH, s2.extract 7 k = SH := ⟨_, rfl⟩
        obtain ⟨ST, hST⟩ : ∃ ST, s2.extract k s2.size = ST := ⟨_, rfl⟩
        have eH : SH.data.toList = h1 := by rw [← hSH, cut_data, strB_data, ← x1, hs1]
        have eT : ST.data.toList = t1 := by rw [← hST, Lib.extract_to_end, ← x2, hs2]
        have zH : SH.size ≤ 100000 := by
          rw [← hSH, cut_data, strB_size, List.length_drop, List.length_take]
          omega
        have zT : ST.size ≤ 100000 := by
          rw [← hST, Lib.size_eq, Lib.extract_to_end, List.length_drop, ← hz2.out]
          omega
        have b1 : (7 : Int) ≤ (k : Int) := by omega
        have b2 : (k : Int) ≤ (s2.size : Int) := by omega
        have b3 : (0 : Int) ≤ (k : Int) := by omega
        have hbA := HBA.out
        clear x1 x2 H
        have cH := fun W => nhost_any SH W zH
        rw [eH, hh] at cH
        have cP := fun W => npercent_any ST W zT
        rw [eT] at cP
        obtain ⟨XA, XE, hXE⟩ := errV_form (pctL t1)
        unfold errPost at cP
        rw [hXE] at cP
        clear hXE hh
        clear eH eT
        clear hex
        go_wp2_with fail
        refine (cH _).mono ?_
        rintro e wc ⟨rfl, hbc⟩
        have hb1 := hbA.trans (hbc.mono hbA.size)
        unfold errV
        go_wp2_with fail
        refine (cP _).mono ?_
        rintro e wd ⟨rfl, hbd⟩
        have hb2 := hb1.trans (hbd.mono hb1.size)
        go_wp2_with fail
        refine bodyPost_ret (v := .tuple #[.string ⟨#[]⟩, .int .i64 2]) (by simp [results, Tryz.results10, go_sem]) rfl ⟨rfl, hb2⟩
    · have c9 : ¬ (k : Int) < (s2.size : Int) := by omega
      have hex : k = s2.data.toList.length ∨ ∃ c r, s2.data.toList.drop k = c :: r ∧ endB c = false := .inl (by rw [← hz2.out]; omega)
      clear hlt
      obtain ⟨x1, x2⟩ := end_at (l := s2.data.toList) (k := k) hk7 (by rw [← hz2.out]; exact hk) H.out hex
      obtain ⟨SH, hSH⟩ : ∃ SH, s2.extract 7 k = SH := ⟨_, rfl⟩
      obtain ⟨ST, hST⟩ : ∃ ST, s2.extract k s2.size = ST := ⟨_, rfl⟩
      have eH : SH.data.toList = h1 := by rw [← hSH, cut_data, strB_data, ← x1, hs1]
      have eT : ST.data.toList = t1 := by rw [← hST, Lib.extract_to_end, ← x2, hs2]
      have zH : SH.size ≤ 100000 := by
        rw [← hSH, cut_data, strB_size, List.length_drop, List.length_take]
        omega
      have zT : ST.size ≤ 100000 := by
        rw [← hST, Lib.size_eq, Lib.extract_to_end, List.length_drop, ← hz2.out]
        omega
      have b1 : (7 : Int) ≤ (k : Int) := by omega
      have b2 : (k : Int) ≤ (s2.size : Int) := by omega
      have b3 : (0 : Int) ≤ (k : Int) := by omega
      have hbA := HBA.out
      clear x1 x2 H
      have cH := fun W => nhost_any SH W zH
      rw [eH, hh] at cH
      have cP := fun W => npercent_any ST W zT
      rw [eT] at cP
      obtain ⟨XA, XE, hXE⟩ := errV_form (pctL t1)
      unfold errPost at cP
      rw [hXE] at cP
      clear hXE hh
      clear eH eT
      clear hex
      go_wp2_with fail
      refine (cH _).mono ?_
      rintro e wc ⟨rfl, hbc⟩
      have hb1 := hbA.trans (hbc.mono hbA.size)
      unfold errV
      go_wp2_with fail
      refine (cP _).mono ?_
      rintro e wd ⟨rfl, hbd⟩
      have hb2 := hb1.trans (hbd.mono hb1.size)
      go_wp2_with fail
      refine bodyPost_ret (v := .tuple #[.string ⟨#[]⟩, .int .i64 2]) (by simp [results, Tryz.results10, go_sem]) rfl ⟨rfl, hb2⟩

set_option maxRecDepth 100000 in
set_option maxHeartbeats 8000000 in
theorem nnormal_C2 (s1 s2 : ByteArray) (h1 t1 : List UInt8) (w : World) (z2 : s2.size ≤ 100000) (h7 : 7 ≤ s2.size) (hB : lowL (s2.data.toList.take 7) = htpL) (hs1 : (s2.data.toList.drop 7).takeWhile endB = h1) (hs2 : (s2.data.toList.drop 7).dropWhile endB = t1) (hh0 : List UInt8) (hh : hostL h1 = some hh0) (hp : pctL t1 = none) :
    Calls Tryz.prog 10 #[.string s1, .string s2] w (errPost none w) := by
  have hA : decide (7 ≤ (s2.size : Int)) = true := decide_eq_true (by omega)
  have hA2 : (7 : Int) ≤ (s2.size : Int) := by omega
  have cL := fun W => rlower_any (s2.extract 0 7) W (by rw [Lib.size_eq, extract_take, List.length_take]; omega)
  rw [extract_take] at cL
  have hB1 : (strB (lowL (s2.data.toList.take 7))).toList = [104, 116, 116, 112, 58, 47, 47] := by
    rw [strB_toList]
    exact hB
  clear hB
  generalize strB (lowL (s2.data.toList.take 7)) = LL at *
  have hz2 := Lib.hid (Lib.size_eq s2)
  go_enter Tryz.func10, Tryz.ntmps10
  go_wp2_with fail
  refine (cL _).mono ?_
  rintro e wa ⟨rfl, hba⟩
  have HBA := Lib.hid hba
  clear hba cL
  go_wp2_with fail
  go_loop [6] (fun i => ∃ k : Nat, 7 ≤ k ∧ k ≤ s2.size ∧ i = .int .i64 k ∧ Hid (∀ c ∈ (s2.data.toList.take k).drop 7, endB c = true)) (fun i => s2.size - (intOf i).toNat)
  case atStart => exact ⟨7, Nat.le_refl _, h7, rfl, Lib.hid (by
    intro c hc
    rw [List.drop_of_length_le (by rw [List.length_take]; omega)] at hc
    cases hc)⟩
  case round =>
    obtain ⟨k, hk7, hk, rfl, H⟩ := hrel
    by_cases hlt : k < s2.size
    · have hd := Lib.hid (drop_cons_at s2 k hlt)
      cases e47 : (((s2[k]'hlt).toNat : Int) == 47)
      · have e47b : (((s2[k]'hlt).toNat : Int) != 47) = true := by rw [bne, e47]; rfl
        cases e63 : (((s2[k]'hlt).toNat : Int) == 63)
        · have e63b : (((s2[k]'hlt).toNat : Int) != 63) = true := by rw [bne, e63]; rfl
          have hn47 : s2[k]'hlt ≠ 47 := fun h => by rw [h] at e47; exact absurd e47 (by decide)
          have hn63 : s2[k]'hlt ≠ 63 := fun h => by rw [h] at e63; exact absurd e63 (by decide)
          have HN : Hid (∀ c ∈ (s2.data.toList.take (k + 1)).drop 7, endB c = true) := Lib.hid (by
            intro c hc
            rw [take_snoc s2 k hlt, List.drop_append_of_le_length (by rw [List.length_take, ← hz2.out]; omega)] at hc
            rcases List.mem_append.1 hc with hc | hc
            · exact H.out c hc
            · rw [List.mem_singleton] at hc
              subst hc
              simp [endB, hn47, hn63])
          clear hn47 hn63 hd
          go_wp2_with fail
          go_round
          case rel => exact ⟨k + 1, by omega, by omega, by go_num, HN⟩
          case measure => simp [intOf]; omega
        · have e63b : (((s2[k]'hlt).toNat : Int) != 63) = false := by rw [bne, e63]; rfl
          have hc63 : s2[k]'hlt = 63 := by
            have := byte_beq (s2[k]'hlt) 63
            rw [show (((63 : UInt8).toNat : Int)) = 63 from rfl, e63] at this
            exact beq_iff_eq.1 this.symm
          have hex : k = s2.data.toList.length ∨ ∃ c r, s2.data.toList.drop k = c :: r ∧ endB c = false := .inr ⟨_, _, hd.out, by rw [hc63]; decide⟩
          clear hc63 hd
          obtain ⟨x1, x2⟩ := end_at (l := s2.data.toList) (k := k) hk7 (by rw [← hz2.out]; exact hk) H.out hex
          obtain ⟨SH, hSH⟩ : ∃ SH, s2.extract 7 k = SH := ⟨_, rfl⟩
          obtain ⟨ST, hST⟩ : ∃ ST, s2.extract k s2.size = ST := ⟨_, rfl⟩
          have eH : SH.data.toList = h1 := by rw [← hSH, cut_data, strB_data, ← x1, hs1]
          have eT : ST.data.toList = t1 := by rw [← hST, Lib.extract_to_end, ← x2, hs2]
          have zH : SH.size ≤ 100000 := by
            rw [← hSH, cut_data, strB_size, List.length_drop, List.length_take]
            omega
          have zT : ST.size ≤ 100000 := by
            rw [← hST, Lib.size_eq, Lib.extract_to_end, List.length_drop, ← hz2.out]
            omega
          have b1 : (7 : Int) ≤ (k : Int) := by omega
          have b2 : (k : Int) ≤ (s2.size : Int) := by omega
          have b3 : (0 : Int) ≤ (k : Int) := by omega
          have hbA := HBA.out
          clear x1 x2 H
          have cH := fun W => nhost_any SH W zH
          rw [eH, hh] at cH
          have cP := fun W => npercent_any ST W zT
          rw [eT] at cP
          rw [hp] at cP
          clear hh hp
          clear eH eT
          clear hex
          go_wp2_with fail
          refine (cH _).mono ?_
          rintro e wc ⟨rfl, hbc⟩
          have hb1 := hbA.trans (hbc.mono hbA.size)
          unfold errV
          go_wp2_with fail
          refine (cP _).mono ?_
          rintro e wd ⟨rfl, hbd⟩
          have hb2 := hb1.trans (hbd.mono hb1.size)
          unfold errV
          go_wp2_with fail
          refine bodyPost_ret (v := .tuple #[.string ⟨#[]⟩, .int .i64 2]) (by simp [results, Tryz.results10, go_sem]) rfl ⟨rfl, hb2⟩
      · have e47b : (((s2[k]'hlt).toNat : Int) != 47) = false := by rw [bne, e47]; rfl
        have hc47 : s2[k]'hlt = 47 := by
          have := byte_beq (s2[k]'hlt) 47
          rw [show (((47 : UInt8).toNat : Int)) = 47 from rfl, e47] at this
          exact beq_iff_eq.1 this.symm
        have hex : k = s2.data.toList.length ∨ ∃ c r, s2.data.toList.drop k = c :: r ∧ endB c = false := .inr ⟨_, _, hd.out, by rw [hc47]; decide⟩
        clear hc47 hd
        obtain ⟨x1, x2⟩ := end_at (l := s2.data.toList) (k := k) hk7 (by rw [← hz2.out]; exact hk) H.out hex
        obtain ⟨SH, hSH⟩ : ∃ SH, s2.extract 7 k = SH := ⟨_, rfl⟩
        obtain ⟨ST, hST⟩ : ∃ ST, s2.extract k s2.size = ST := ⟨_, rfl⟩
        have eH : SH.data.toList = h1 := by rw [← hSH, cut_data, strB_data, ← x1, hs1]
        have eT : ST.data.toList = t1 := by rw [← hST, Lib.extract_to_end, ← x2, hs2]
        have zH : SH.size ≤ 100000 := by
          rw [← hSH, cut_data, strB_size, List.length_drop, List.length_take]
          omega
        have zT : ST.size ≤ 100000 := by
          rw [← hST, Lib.size_eq, Lib.extract_to_end, List.length_drop, ← hz2.out]
          omega
        have b1 : (7 : Int) ≤ (k : Int) := by omega
        have b2 : (k : Int) ≤ (s2.size : Int) := by omega
        have b3 : (0 : Int) ≤ (k : Int) := by omega
        have hbA := HBA.out
        clear x1 x2 H
        have cH := fun W => nhost_any SH W zH
        rw [eH, hh] at cH
        have cP := fun W => npercent_any ST W zT
        rw [eT] at cP
        rw [hp] at cP
        clear hh hp
        clear eH eT
        clear hex
        go_wp2_with fail
        refine (cH _).mono ?_
        rintro e wc ⟨rfl, hbc⟩
        have hb1 := hbA.trans (hbc.mono hbA.size)
        unfold errV
        go_wp2_with fail
        refine (cP _).mono ?_
        rintro e wd ⟨rfl, hbd⟩
        have hb2 := hb1.trans (hbd.mono hb1.size)
        unfold errV
        go_wp2_with fail
        refine bodyPost_ret (v := .tuple #[.string ⟨#[]⟩, .int .i64 2]) (by simp [results, Tryz.results10, go_sem]) rfl ⟨rfl, hb2⟩
    · have c9 : ¬ (k : Int) < (s2.size : Int) := by omega
      have hex : k = s2.data.toList.length ∨ ∃ c r, s2.data.toList.drop k = c :: r ∧ endB c = false := .inl (by rw [← hz2.out]; omega)
      clear hlt
      obtain ⟨x1, x2⟩ := end_at (l := s2.data.toList) (k := k) hk7 (by rw [← hz2.out]; exact hk) H.out hex
      obtain ⟨SH, hSH⟩ : ∃ SH, s2.extract 7 k = SH := ⟨_, rfl⟩
      obtain ⟨ST, hST⟩ : ∃ ST, s2.extract k s2.size = ST := ⟨_, rfl⟩
      have eH : SH.data.toList = h1 := by rw [← hSH, cut_data, strB_data, ← x1, hs1]
      have eT : ST.data.toList = t1 := by rw [← hST, Lib.extract_to_end, ← x2, hs2]
      have zH : SH.size ≤ 100000 := by
        rw [← hSH, cut_data, strB_size, List.length_drop, List.length_take]
        omega
      have zT : ST.size ≤ 100000 := by
        rw [← hST, Lib.size_eq, Lib.extract_to_end, List.length_drop, ← hz2.out]
        omega
      have b1 : (7 : Int) ≤ (k : Int) := by omega
      have b2 : (k : Int) ≤ (s2.size : Int) := by omega
      have b3 : (0 : Int) ≤ (k : Int) := by omega
      have hbA := HBA.out
      clear x1 x2 H
      have cH := fun W => nhost_any SH W zH
      rw [eH, hh] at cH
      have cP := fun W => npercent_any ST W zT
      rw [eT] at cP
      rw [hp] at cP
      clear hh hp
      clear eH eT
      clear hex
      go_wp2_with fail
      refine (cH _).mono ?_
      rintro e wc ⟨rfl, hbc⟩
      have hb1 := hbA.trans (hbc.mono hbA.size)
      unfold errV
      go_wp2_with fail
      refine (cP _).mono ?_
      rintro e wd ⟨rfl, hbd⟩
      have hb2 := hb1.trans (hbd.mono hb1.size)
      unfold errV
      go_wp2_with fail
      refine bodyPost_ret (v := .tuple #[.string ⟨#[]⟩, .int .i64 2]) (by simp [results, Tryz.results10, go_sem]) rfl ⟨rfl, hb2⟩

set_option maxRecDepth 100000 in
set_option maxHeartbeats 8000000 in
theorem nnormal_C3 (s1 s2 : ByteArray) (h1 t1 : List UInt8) (w : World) (z2 : s2.size ≤ 100000) (h7 : 7 ≤ s2.size) (hB : lowL (s2.data.toList.take 7) = htpL) (hs1 : (s2.data.toList.drop 7).takeWhile endB = h1) (hs2 : (s2.data.toList.drop 7).dropWhile endB = t1) (hh0 p0 : List UInt8) (hh : hostL h1 = some hh0) (hp : pctL t1 = some p0) (hbad : t1 ≠ [] ∧ t1.head? ≠ some 47 ∧ t1.head? ≠ some 63) :
    Calls Tryz.prog 10 #[.string s1, .string s2] w (errPost none w) := by
  have hA : decide (7 ≤ (s2.size : Int)) = true := decide_eq_true (by omega)
  have hA2 : (7 : Int) ≤ (s2.size : Int) := by omega
  have cL := fun W => rlower_any (s2.extract 0 7) W (by rw [Lib.size_eq, extract_take, List.length_take]; omega)
  rw [extract_take] at cL
  have hB1 : (strB (lowL (s2.data.toList.take 7))).toList = [104, 116, 116, 112, 58, 47, 47] := by
    rw [strB_toList]
    exact hB
  clear hB
  generalize strB (lowL (s2.data.toList.take 7)) = LL at *
  have hz2 := Lib.hid (Lib.size_eq s2)
  go_enter Tryz.func10, Tryz.ntmps10
  go_wp2_with fail
  refine (cL _).mono ?_
  rintro e wa ⟨rfl, hba⟩
  have HBA := Lib.hid hba
  clear hba cL
  go_wp2_with fail
  go_loop [6] (fun i => ∃ k : Nat, 7 ≤ k ∧ k ≤ s2.size ∧ i = .int .i64 k ∧ Hid (∀ c ∈ (s2.data.toList.take k).drop 7, endB c = true)) (fun i => s2.size - (intOf i).toNat)
  case atStart => exact ⟨7, Nat.le_refl _, h7, rfl, Lib.hid (by
    intro c hc
    rw [List.drop_of_length_le (by rw [List.length_take]; omega)] at hc
    cases hc)⟩
  case round =>
    obtain ⟨k, hk7, hk, rfl, H⟩ := hrel
    by_cases hlt : k < s2.size
    · have hd := Lib.hid (drop_cons_at s2 k hlt)
      cases e47 : (((s2[k]'hlt).toNat : Int) == 47)
      · have e47b : (((s2[k]'hlt).toNat : Int) != 47) = true := by rw [bne, e47]; rfl
        cases e63 : (((s2[k]'hlt).toNat : Int) == 63)
        · have e63b : (((s2[k]'hlt).toNat : Int) != 63) = true := by rw [bne, e63]; rfl
          have hn47 : s2[k]'hlt ≠ 47 := fun h => by rw [h] at e47; exact absurd e47 (by decide)
          have hn63 : s2[k]'hlt ≠ 63 := fun h => by rw [h] at e63; exact absurd e63 (by decide)
          have HN : Hid (∀ c ∈ (s2.data.toList.take (k + 1)).drop 7, endB c = true) := Lib.hid (by
            intro c hc
            rw [take_snoc s2 k hlt, List.drop_append_of_le_length (by rw [List.length_take, ← hz2.out]; omega)] at hc
            rcases List.mem_append.1 hc with hc | hc
            · exact H.out c hc
            · rw [List.mem_singleton] at hc
              subst hc
              simp [endB, hn47, hn63])
          clear hn47 hn63 hd
          go_wp2_with fail
          go_round
          case rel => exact ⟨k + 1, by omega, by omega, by go_num, HN⟩
          case measure => simp [intOf]; omega
        · have e63b : (((s2[k]'hlt).toNat : Int) != 63) = false := by rw [bne, e63]; rfl
          have hc63 : s2[k]'hlt = 63 := by
            have := byte_beq (s2[k]'hlt) 63
            rw [show (((63 : UInt8).toNat : Int)) = 63 from rfl, e63] at this
            exact beq_iff_eq.1 this.symm
          have hex : k = s2.data.toList.length ∨ ∃ c r, s2.data.toList.drop k = c :: r ∧ endB c = false := .inr ⟨_, _, hd.out, by rw [hc63]; decide⟩
          clear hc63 hd
          obtain ⟨x1, x2⟩ := end_at (l := s2.data.toList) (k := k) hk7 (by rw [← hz2.out]; exact hk) H.out hex
          obtain ⟨SH, hSH⟩ : ∃ SH, s2.extract 7 k = SH := ⟨_, rfl⟩
          obtain ⟨ST, hST⟩ : ∃ ST, s2.extract k s2.size = ST := ⟨_, rfl⟩
          have eH : SH.data.toList = h1 := by rw [← hSH, cut_data, strB_data, ← x1, hs1]
          have eT : ST.data.toList = t1 := by rw [← hST, Lib.extract_to_end, ← x2, hs2]
          have zH : SH.size ≤ 100000 := by
            rw [← hSH, cut_data, strB_size, List.length_drop, List.length_take]
            omega
          have zT : ST.size ≤ 100000 := by
            rw [← hST, Lib.size_eq, Lib.extract_to_end, List.length_drop, ← hz2.out]
            omega
          have b1 : (7 : Int) ≤ (k : Int) := by omega
          have b2 : (k : Int) ≤ (s2.size : Int) := by omega
          have b3 : (0 : Int) ≤ (k : Int) := by omega
          have hbA := HBA.out
          clear x1 x2 H
          have cH := fun W => nhost_any SH W zH
          rw [eH, hh] at cH
          have cP := fun W => npercent_any ST W zT
          rw [eT] at cP
          rw [hp] at cP
          obtain ⟨c0, r0, ht, n47, n63⟩ := bad_head.1 hbad
          have hTl : ST.data.toList = c0 :: r0 := by rw [eT, ht]
          have hT0 : 0 < ST.size := by rw [Lib.size_eq, hTl, List.length_cons]; omega
          have hT1 : ST.toList.isEmpty = false := by rw [Lib.toList_data, hTl]; rfl
          have hT2 : ST[0]'hT0 = c0 := by
            have hd := drop_cons_at ST 0 hT0
            rw [List.drop_zero, hTl] at hd
            exact (List.cons.inj hd).1.symm
          have m1 : ((((ST[0]'hT0).toNat : Int)) == 47) = false := (byte_beq _ 47).trans (by rw [hT2]; simpa using n47)
          have m2 : ((((ST[0]'hT0).toNat : Int)) == 63) = false := (byte_beq _ 63).trans (by rw [hT2]; simpa using n63)
          have m3 : ((((ST[0]'hT0).toNat : Int)) != 47) = true := by rw [bne, m1]; rfl
          have m4 : ((((ST[0]'hT0).toNat : Int)) != 63) = true := by rw [bne, m2]; rfl
          clear hh hp hTl hT2 ht
          clear eH eT
          clear hex
          go_wp2_with fail
          refine (cH _).mono ?_
          rintro e wc ⟨rfl, hbc⟩
          have hb1 := hbA.trans (hbc.mono hbA.size)
          unfold errV
          go_wp2_with fail
          refine (cP _).mono ?_
          rintro e wd ⟨rfl, hbd⟩
          have hb2 := hb1.trans (hbd.mono hb1.size)
          unfold errV
          go_wp2_with fail
          refine bodyPost_ret (v := .tuple #[.string ⟨#[]⟩, .int .i64 2]) (by simp [results, Tryz.results10, go_sem]) rfl ⟨rfl, hb2⟩
      · have e47b : (((s2[k]'hlt).toNat : Int) != 47) = false := by rw [bne, e47]; rfl
        have hc47 : s2[k]'hlt = 47 := by
          have := byte_beq (s2[k]'hlt) 47
          rw [show (((47 : UInt8).toNat : Int)) = 47 from rfl, e47] at this
          exact beq_iff_eq.1 this.symm
        have hex : k = s2.data.toList.length ∨ ∃ c r, s2.data.toList.drop k = c :: r ∧ endB c = false := .inr ⟨_, _, hd.out, by rw [hc47]; decide⟩
        clear hc47 hd
        obtain ⟨x1, x2⟩ := end_at (l := s2.data.toList) (k := k) hk7 (by rw [← hz2.out]; exact hk) H.out hex
        obtain ⟨SH, hSH⟩ : ∃ SH, s2.extract 7 k = SH := ⟨_, rfl⟩
        obtain ⟨ST, hST⟩ : ∃ ST, s2.extract k s2.size = ST := ⟨_, rfl⟩
        have eH : SH.data.toList = h1 := by rw [← hSH, cut_data, strB_data, ← x1, hs1]
        have eT : ST.data.toList = t1 := by rw [← hST, Lib.extract_to_end, ← x2, hs2]
        have zH : SH.size ≤ 100000 := by
          rw [← hSH, cut_data, strB_size, List.length_drop, List.length_take]
          omega
        have zT : ST.size ≤ 100000 := by
          rw [← hST, Lib.size_eq, Lib.extract_to_end, List.length_drop, ← hz2.out]
          omega
        have b1 : (7 : Int) ≤ (k : Int) := by omega
        have b2 : (k : Int) ≤ (s2.size : Int) := by omega
        have b3 : (0 : Int) ≤ (k : Int) := by omega
        have hbA := HBA.out
        clear x1 x2 H
        have cH := fun W => nhost_any SH W zH
        rw [eH, hh] at cH
        have cP := fun W => npercent_any ST W zT
        rw [eT] at cP
        rw [hp] at cP
        obtain ⟨c0, r0, ht, n47, n63⟩ := bad_head.1 hbad
        have hTl : ST.data.toList = c0 :: r0 := by rw [eT, ht]
        have hT0 : 0 < ST.size := by rw [Lib.size_eq, hTl, List.length_cons]; omega
        have hT1 : ST.toList.isEmpty = false := by rw [Lib.toList_data, hTl]; rfl
        have hT2 : ST[0]'hT0 = c0 := by
          have hd := drop_cons_at ST 0 hT0
          rw [List.drop_zero, hTl] at hd
          exact (List.cons.inj hd).1.symm
        have m1 : ((((ST[0]'hT0).toNat : Int)) == 47) = false := (byte_beq _ 47).trans (by rw [hT2]; simpa using n47)
        have m2 : ((((ST[0]'hT0).toNat : Int)) == 63) = false := (byte_beq _ 63).trans (by rw [hT2]; simpa using n63)
        have m3 : ((((ST[0]'hT0).toNat : Int)) != 47) = true := by rw [bne, m1]; rfl
        have m4 : ((((ST[0]'hT0).toNat : Int)) != 63) = true := by rw [bne, m2]; rfl
        clear hh hp hTl hT2 ht
        clear eH eT
        clear hex
        go_wp2_with fail
        refine (cH _).mono ?_
        rintro e wc ⟨rfl, hbc⟩
        have hb1 := hbA.trans (hbc.mono hbA.size)
        unfold errV
        go_wp2_with fail
        refine (cP _).mono ?_
        rintro e wd ⟨rfl, hbd⟩
        have hb2 := hb1.trans (hbd.mono hb1.size)
        unfold errV
        go_wp2_with fail
        refine bodyPost_ret (v := .tuple #[.string ⟨#[]⟩, .int .i64 2]) (by simp [results, Tryz.results10, go_sem]) rfl ⟨rfl, hb2⟩
    · have c9 : ¬ (k : Int) < (s2.size : Int) := by omega
      have hex : k = s2.data.toList.length ∨ ∃ c r, s2.data.toList.drop k = c :: r ∧ endB c = false := .inl (by rw [← hz2.out]; omega)
      clear hlt
      obtain ⟨x1, x2⟩ := end_at (l := s2.data.toList) (k := k) hk7 (by rw [← hz2.out]; exact hk) H.out hex
      obtain ⟨SH, hSH⟩ : ∃ SH, s2.extract 7 k = SH := ⟨_, rfl⟩
      obtain ⟨ST, hST⟩ : ∃ ST, s2.extract k s2.size = ST := ⟨_, rfl⟩
      have eH : SH.data.toList = h1 := by rw [← hSH, cut_data, strB_data, ← x1, hs1]
      have eT : ST.data.toList = t1 := by rw [← hST, Lib.extract_to_end, ← x2, hs2]
      have zH : SH.size ≤ 100000 := by
        rw [← hSH, cut_data, strB_size, List.length_drop, List.length_take]
        omega
      have zT : ST.size ≤ 100000 := by
        rw [← hST, Lib.size_eq, Lib.extract_to_end, List.length_drop, ← hz2.out]
        omega
      have b1 : (7 : Int) ≤ (k : Int) := by omega
      have b2 : (k : Int) ≤ (s2.size : Int) := by omega
      have b3 : (0 : Int) ≤ (k : Int) := by omega
      have hbA := HBA.out
      clear x1 x2 H
      have cH := fun W => nhost_any SH W zH
      rw [eH, hh] at cH
      have cP := fun W => npercent_any ST W zT
      rw [eT] at cP
      rw [hp] at cP
      obtain ⟨c0, r0, ht, n47, n63⟩ := bad_head.1 hbad
      have hTl : ST.data.toList = c0 :: r0 := by rw [eT, ht]
      have hT0 : 0 < ST.size := by rw [Lib.size_eq, hTl, List.length_cons]; omega
      have hT1 : ST.toList.isEmpty = false := by rw [Lib.toList_data, hTl]; rfl
      have hT2 : ST[0]'hT0 = c0 := by
        have hd := drop_cons_at ST 0 hT0
        rw [List.drop_zero, hTl] at hd
        exact (List.cons.inj hd).1.symm
      have m1 : ((((ST[0]'hT0).toNat : Int)) == 47) = false := (byte_beq _ 47).trans (by rw [hT2]; simpa using n47)
      have m2 : ((((ST[0]'hT0).toNat : Int)) == 63) = false := (byte_beq _ 63).trans (by rw [hT2]; simpa using n63)
      have m3 : ((((ST[0]'hT0).toNat : Int)) != 47) = true := by rw [bne, m1]; rfl
      have m4 : ((((ST[0]'hT0).toNat : Int)) != 63) = true := by rw [bne, m2]; rfl
      clear hh hp hTl hT2 ht
      clear eH eT
      clear hex
      go_wp2_with fail
      refine (cH _).mono ?_
      rintro e wc ⟨rfl, hbc⟩
      have hb1 := hbA.trans (hbc.mono hbA.size)
      unfold errV
      go_wp2_with fail
      refine (cP _).mono ?_
      rintro e wd ⟨rfl, hbd⟩
      have hb2 := hb1.trans (hbd.mono hb1.size)
      unfold errV
      go_wp2_with fail
      refine bodyPost_ret (v := .tuple #[.string ⟨#[]⟩, .int .i64 2]) (by simp [results, Tryz.results10, go_sem]) rfl ⟨rfl, hb2⟩

set_option maxRecDepth 100000 in
set_option maxHeartbeats 8000000 in
theorem nnormal_C4 (s1 s2 : ByteArray) (h1 t1 : List UInt8) (w : World) (z2 : s2.size ≤ 100000) (h7 : 7 ≤ s2.size) (hB : lowL (s2.data.toList.take 7) = htpL) (hs1 : (s2.data.toList.drop 7).takeWhile endB = h1) (hs2 : (s2.data.toList.drop 7).dropWhile endB = t1) (hh0 p0 : List UInt8) (hh : hostL h1 = some hh0) (hp : pctL t1 = some p0) (hbad : ¬ (t1 ≠ [] ∧ t1.head? ≠ some 47 ∧ t1.head? ≠ some 63)) :
    Calls Tryz.prog 10 #[.string s1, .string s2] w (errPost (some (htpL ++ hh0 ++ pthN p0 ++ p0.dropWhile queB)) w) := by
  have hA : decide (7 ≤ (s2.size : Int)) = true := decide_eq_true (by omega)
  have hA2 : (7 : Int) ≤ (s2.size : Int) := by omega
  have cL := fun W => rlower_any (s2.extract 0 7) W (by rw [Lib.size_eq, extract_take, List.length_take]; omega)
  rw [extract_take] at cL
  have hB1 : (strB (lowL (s2.data.toList.take 7))).toList = [104, 116, 116, 112, 58, 47, 47] := by
    rw [strB_toList]
    exact hB
  clear hB
  generalize strB (lowL (s2.data.toList.take 7)) = LL at *
  have hz2 := Lib.hid (Lib.size_eq s2)
  go_enter Tryz.func10, Tryz.ntmps10
  go_wp2_with fail
  refine (cL _).mono ?_
  rintro e wa ⟨rfl, hba⟩
  have HBA := Lib.hid hba
  clear hba cL
  go_wp2_with fail
  go_loop [6] (fun i => ∃ k : Nat, 7 ≤ k ∧ k ≤ s2.size ∧ i = .int .i64 k ∧ Hid (∀ c ∈ (s2.data.toList.take k).drop 7, endB c = true)) (fun i => s2.size - (intOf i).toNat)
  case atStart => exact ⟨7, Nat.le_refl _, h7, rfl, Lib.hid (by
    intro c hc
    rw [List.drop_of_length_le (by rw [List.length_take]; omega)] at hc
    cases hc)⟩
  case round =>
    obtain ⟨k, hk7, hk, rfl, H⟩ := hrel
    by_cases hlt : k < s2.size
    · have hd := Lib.hid (drop_cons_at s2 k hlt)
      cases e47 : (((s2[k]'hlt).toNat : Int) == 47)
      · have e47b : (((s2[k]'hlt).toNat : Int) != 47) = true := by rw [bne, e47]; rfl
        cases e63 : (((s2[k]'hlt).toNat : Int) == 63)
        · have e63b : (((s2[k]'hlt).toNat : Int) != 63) = true := by rw [bne, e63]; rfl
          have hn47 : s2[k]'hlt ≠ 47 := fun h => by rw [h] at e47; exact absurd e47 (by decide)
          have hn63 : s2[k]'hlt ≠ 63 := fun h => by rw [h] at e63; exact absurd e63 (by decide)
          have HN : Hid (∀ c ∈ (s2.data.toList.take (k + 1)).drop 7, endB c = true) := Lib.hid (by
            intro c hc
            rw [take_snoc s2 k hlt, List.drop_append_of_le_length (by rw [List.length_take, ← hz2.out]; omega)] at hc
            rcases List.mem_append.1 hc with hc | hc
            · exact H.out c hc
            · rw [List.mem_singleton] at hc
              subst hc
              simp [endB, hn47, hn63])
          clear hn47 hn63 hd
          go_wp2_with fail
          go_round
          case rel => exact ⟨k + 1, by omega, by omega, by go_num, HN⟩
          case measure => simp [intOf]; omega
        · have e63b : (((s2[k]'hlt).toNat : Int) != 63) = false := by rw [bne, e63]; rfl
          have hc63 : s2[k]'hlt = 63 := by
            have := byte_beq (s2[k]'hlt) 63
            rw [show (((63 : UInt8).toNat : Int)) = 63 from rfl, e63] at this
            exact beq_iff_eq.1 this.symm
          have hex : k = s2.data.toList.length ∨ ∃ c r, s2.data.toList.drop k = c :: r ∧ endB c = false := .inr ⟨_, _, hd.out, by rw [hc63]; decide⟩
          clear hc63 hd
          obtain ⟨x1, x2⟩ := end_at (l := s2.data.toList) (k := k) hk7 (by rw [← hz2.out]; exact hk) H.out hex
          obtain ⟨SH, hSH⟩ : ∃ SH, s2.extract 7 k = SH := ⟨_, rfl⟩
          obtain ⟨ST, hST⟩ : ∃ ST, s2.extract k s2.size = ST := ⟨_, rfl⟩
          have eH : SH.data.toList = h1 := by rw [← hSH, cut_data, strB_data, ← x1, hs1]
          have eT : ST.data.toList = t1 := by rw [← hST, Lib.extract_to_end, ← x2, hs2]
          have zH : SH.size ≤ 100000 := by
            rw [← hSH, cut_data, strB_size, List.length_drop, List.length_take]
            omega
          have zT : ST.size ≤ 100000 := by
            rw [← hST, Lib.size_eq, Lib.extract_to_end, List.length_drop, ← hz2.out]
            omega
          have b1 : (7 : Int) ≤ (k : Int) := by omega
          have b2 : (k : Int) ≤ (s2.size : Int) := by omega
          have b3 : (0 : Int) ≤ (k : Int) := by omega
          have hbA := HBA.out
          clear x1 x2 H
          have cH := fun W => nhost_any SH W zH
          rw [eH, hh] at cH
          have cP := fun W => npercent_any ST W zT
          rw [eT] at cP
          have hhl := host_len hh
          have hpl := (pct_stays _ t1 p0 (Nat.le_refl _) hp).2
          have ezH : h1.length ≤ 100000 := by rw [← eH, ← Lib.size_eq]; exact zH
          have ezT : t1.length ≤ 100000 := by rw [← eT, ← Lib.size_eq]; exact zT
          have hTe : ST.toList = t1 := by rw [Lib.toList_data, eT]
          rw [hp] at cP
          have zP : (strB p0).size ≤ 100000 := by rw [strB_size]; omega
          have hdl := dots_len (p0.takeWhile queB)
          have q1 := takeWhile_len_le queB p0
          have hol : (pthN p0).length ≤ 100001 := by
            rw [pthN]
            split
            · simp
            · omega
          have q2 := dropWhile_len queB p0
          have HX : Hid ((⟨#[104, 116, 116, 112, 58, 47, 47]⟩ : ByteArray) ++ strB hh0 ++ strB (pthN p0) ++ strB (p0.dropWhile queB) = strB (htpL ++ hh0 ++ pthN p0 ++ p0.dropWhile queB)) := Lib.hid (by
            rw [show (⟨#[104, 116, 116, 112, 58, 47, 47]⟩ : ByteArray) = strB htpL from rfl, strB_append, strB_append, strB_append])
          have y1 : (strB hh0).size ≤ 100000 := by rw [strB_size]; omega
          have y2 : (strB (pthN p0)).size ≤ 100001 := by rw [strB_size]; exact hol
          have y3 : (strB (p0.dropWhile queB)).size ≤ 100000 := by rw [strB_size]; omega
          obtain ⟨PP, hPP⟩ : ∃ PP, strB p0 = PP := ⟨_, rfl⟩
          have hPd : PP.data.toList = p0 := by rw [← hPP, strB_data]
          have hPz := Lib.hid (Lib.size_eq PP)
          rw [hPP] at zP
          have HPP := Lib.hid hPP
          have HPD := Lib.hid hPd
          have hok : (ST.toList.isEmpty = true) ∨ ∃ h0 : 0 < ST.size, ST.toList.isEmpty = false ∧ (((((ST[0]'h0).toNat : Int)) == 47) = true ∨ ((((ST[0]'h0).toNat : Int)) == 47) = false ∧ ((((ST[0]'h0).toNat : Int)) == 63) = true) := by
            cases hq9 : t1 with
            | nil => exact .inl (by rw [hTe, hq9]; rfl)
            | cons c0 r0 =>
              have hTl : ST.data.toList = c0 :: r0 := by rw [eT, hq9]
              have hT0 : 0 < ST.size := by rw [Lib.size_eq, hTl, List.length_cons]; omega
              have hT2 : ST[0]'hT0 = c0 := by
                have hd := drop_cons_at ST 0 hT0
                rw [List.drop_zero, hTl] at hd
                exact (List.cons.inj hd).1.symm
              refine .inr ⟨hT0, by rw [hTe, hq9]; rfl, ?_⟩
              by_cases a47 : c0 = 47
              · exact .inl ((byte_beq _ 47).trans (by rw [hT2, a47]; rfl))
              · refine .inr ⟨(byte_beq _ 47).trans (by rw [hT2]; simpa using a47), (byte_beq _ 63).trans ?_⟩
                rw [hT2]
                by_cases a63 : c0 = 63
                · rw [a63]; rfl
                · exact absurd (bad_head.2 ⟨c0, r0, hq9, a47, a63⟩) hbad
          clear hh hp hhl hpl ezH ezT q1 q2 hdl hol hTe hPd hPP hbad
          generalize htpL ++ hh0 ++ pthN p0 ++ p0.dropWhile queB = OUT at *
          clear eH eT
          clear hex
          rcases hok with hT1 | ⟨hT0, hT1, m1 | ⟨m1, m2⟩⟩
          · go_wp2_with fail
            refine (cH _).mono ?_
            rintro e wc ⟨rfl, hbc⟩
            have hb1 := hbA.trans (hbc.mono hbA.size)
            unfold errV
            go_wp2_with fail
            refine (cP _).mono ?_
            rintro e wd ⟨rfl, hbd⟩
            have hb2 := hb1.trans (hbd.mono hb1.size)
            unfold errV
            dsimp only
            rw [HPP.out]
            go_wp2_with fail
            go_loop [11, 12] (fun v11 v12 => ∃ (j a : Nat), v11 = .int .i64 a ∧ v12 = .int .i64 ((j : Int) - 1) ∧ j ≤ PP.size ∧ a ≤ PP.size ∧ Hid (qAt PP.data.toList j a)) (fun _ v12 => (intOf v12 + 1).toNat)
            case atStart => exact ⟨PP.size, PP.size, rfl, by go_num, Nat.le_refl _, Nat.le_refl _, Lib.hid (by rw [hPz.out]; exact qAt_start _)⟩
            case round =>
              obtain ⟨j, a, rfl, rfl, hj, ha, HQ⟩ := hrel
              cases j with
              | succ j =>
                have hjl : j < PP.size := by omega
                have d1 : ((j + 1 : Nat) : Int) - 1 = (j : Int) := by omega
                rw [d1]
                have d2 : (0 : Int) ≤ (j : Int) := by omega
                have hd := drop_cons_at PP j hjl
                have hw : IntKind.i64.wrap ((j : Int) - 1) = (j : Int) - 1 := IntWalk.i64_in _ (by omega)
                cases e63 : (((PP[j]'hjl).toNat : Int) == 63)
                · have hc : PP[j]'hjl ≠ 63 := fun h => by rw [h] at e63; exact absurd e63 (by decide)
                  have HN := Lib.hid (qAt_miss HQ.out hd hc)
                  clear hd hc
                  go_wp2_with fail
                  go_round
                  case rel => exact ⟨j, a, rfl, by go_num, by omega, ha, HN⟩
                  case measure => simp [intOf] <;> omega
                · have hc : PP[j]'hjl = 63 := by
                    have := byte_beq (PP[j]'hjl) 63
                    rw [show (((63 : UInt8).toNat : Int)) = 63 from rfl, e63] at this
                    exact beq_iff_eq.1 this.symm
                  rw [hc] at hd
                  have HN := Lib.hid (qAt_hit hd)
                  clear hd hc
                  go_wp2_with fail
                  go_round
                  case rel => exact ⟨j, j, rfl, by go_num, by omega, by omega, HN⟩
                  case measure => simp [intOf] <;> omega
              | zero =>
                have d1 : ((0 : Nat) : Int) - 1 = -1 := by omega
                rw [d1]
                obtain ⟨u1, u2, u3⟩ := qAt_end HQ.out
                have v1 : (a : Int) ≤ (PP.size : Int) := by omega
                have v2 : (0 : Int) ≤ (a : Int) := by omega
                obtain ⟨QA, hQA⟩ : ∃ QA, PP.extract 0 a = QA := ⟨_, rfl⟩
                have hQAd : QA.data.toList = p0.takeWhile queB := by rw [← hQA, extract_take, u2, HPD.out]
                have zQ : QA.size ≤ 100000 := by
                  rw [Lib.size_eq, hQAd]
                  have := takeWhile_len_le queB p0
                  rw [← HPD.out, ← Lib.size_eq] at this
                  rw [← HPD.out]
                  omega
                have hQB : PP.extract a PP.size = strB (p0.dropWhile queB) := by rw [← strB_of (PP.extract a PP.size), Lib.extract_to_end, u3, HPD.out]
                have cD := fun W => ndots_any QA W zQ
                rw [hQAd] at cD
                clear hQAd u1 u2 u3 HQ
                generalize strB (p0.dropWhile queB) = QB at *
                by_cases hde : dotsL (p0.takeWhile queB) = []
                · have hpt : pthN p0 = [47] := by rw [pthN, if_pos hde]
                  rw [hde] at cD
                  rw [hpt] at HX
                  have es : strB [] = (⟨#[]⟩ : ByteArray) := rfl
                  rw [es] at cD
                  clear hde hpt es
                  go_wp2_with fail
                  refine (cD _).mono ?_
                  rintro e we ⟨rfl, hbe⟩
                  go_wp2_with fail
                  refine bodyPost_ret (v := .tuple #[.string ((⟨#[104, 116, 116, 112, 58, 47, 47]⟩ : ByteArray) ++ strB hh0 ++ (⟨#[47]⟩ : ByteArray) ++ QB), .int .i64 0]) (by simp [results, Tryz.results10, go_sem]) rfl ⟨by rw [show errV (some OUT) = .tuple #[.string (strB OUT), .int .i64 0] from rfl, ← HX.out] <;> rfl, hb2.trans (hbe.mono hb2.size)⟩
                · have hpt : pthN p0 = dotsL (p0.takeWhile queB) := by rw [pthN, if_neg hde]
                  have ede : (strB (pthN p0)).toList.isEmpty = false := by
                    rw [strB_toList, hpt]
                    cases hq8 : dotsL (p0.takeWhile queB) with
                    | nil => exact absurd hq8 hde
                    | cons x y => rfl
                  rw [← hpt] at cD
                  clear hde hpt
                  generalize strB (pthN p0) = OO at *
                  go_wp2_with fail
                  refine (cD _).mono ?_
                  rintro e we ⟨rfl, hbe⟩
                  go_wp2_with fail
                  refine bodyPost_ret (v := .tuple #[.string ((⟨#[104, 116, 116, 112, 58, 47, 47]⟩ : ByteArray) ++ strB hh0 ++ OO ++ QB), .int .i64 0]) (by simp [results, Tryz.results10, go_sem]) rfl ⟨by rw [show errV (some OUT) = .tuple #[.string (strB OUT), .int .i64 0] from rfl, ← HX.out] <;> rfl, hb2.trans (hbe.mono hb2.size)⟩
          · have m3 : ((((ST[0]'hT0).toNat : Int)) != 47) = false := by rw [bne, m1]; rfl
            go_wp2_with fail
            refine (cH _).mono ?_
            rintro e wc ⟨rfl, hbc⟩
            have hb1 := hbA.trans (hbc.mono hbA.size)
            unfold errV
            go_wp2_with fail
            refine (cP _).mono ?_
            rintro e wd ⟨rfl, hbd⟩
            have hb2 := hb1.trans (hbd.mono hb1.size)
            unfold errV
            dsimp only
            rw [HPP.out]
            go_wp2_with fail
            go_loop [11, 12] (fun v11 v12 => ∃ (j a : Nat), v11 = .int .i64 a ∧ v12 = .int .i64 ((j : Int) - 1) ∧ j ≤ PP.size ∧ a ≤ PP.size ∧ Hid (qAt PP.data.toList j a)) (fun _ v12 => (intOf v12 + 1).toNat)
            case atStart => exact ⟨PP.size, PP.size, rfl, by go_num, Nat.le_refl _, Nat.le_refl _, Lib.hid (by rw [hPz.out]; exact qAt_start _)⟩
            case round =>
              obtain ⟨j, a, rfl, rfl, hj, ha, HQ⟩ := hrel
              cases j with
              | succ j =>
                have hjl : j < PP.size := by omega
                have d1 : ((j + 1 : Nat) : Int) - 1 = (j : Int) := by omega
                rw [d1]
                have d2 : (0 : Int) ≤ (j : Int) := by omega
                have hd := drop_cons_at PP j hjl
                have hw : IntKind.i64.wrap ((j : Int) - 1) = (j : Int) - 1 := IntWalk.i64_in _ (by omega)
                cases e63 : (((PP[j]'hjl).toNat : Int) == 63)
                · have hc : PP[j]'hjl ≠ 63 := fun h => by rw [h] at e63; exact absurd e63 (by decide)
                  have HN := Lib.hid (qAt_miss HQ.out hd hc)
                  clear hd hc
                  go_wp2_with fail
                  go_round
                  case rel => exact ⟨j, a, rfl, by go_num, by omega, ha, HN⟩
                  case measure => simp [intOf] <;> omega
                · have hc : PP[j]'hjl = 63 := by
                    have := byte_beq (PP[j]'hjl) 63
                    rw [show (((63 : UInt8).toNat : Int)) = 63 from rfl, e63] at this
                    exact beq_iff_eq.1 this.symm
                  rw [hc] at hd
                  have HN := Lib.hid (qAt_hit hd)
                  clear hd hc
                  go_wp2_with fail
                  go_round
                  case rel => exact ⟨j, j, rfl, by go_num, by omega, by omega, HN⟩
                  case measure => simp [intOf] <;> omega
              | zero =>
                have d1 : ((0 : Nat) : Int) - 1 = -1 := by omega
                rw [d1]
                obtain ⟨u1, u2, u3⟩ := qAt_end HQ.out
                have v1 : (a : Int) ≤ (PP.size : Int) := by omega
                have v2 : (0 : Int) ≤ (a : Int) := by omega
                obtain ⟨QA, hQA⟩ : ∃ QA, PP.extract 0 a = QA := ⟨_, rfl⟩
                have hQAd : QA.data.toList = p0.takeWhile queB := by rw [← hQA, extract_take, u2, HPD.out]
                have zQ : QA.size ≤ 100000 := by
                  rw [Lib.size_eq, hQAd]
                  have := takeWhile_len_le queB p0
                  rw [← HPD.out, ← Lib.size_eq] at this
                  rw [← HPD.out]
                  omega
                have hQB : PP.extract a PP.size = strB (p0.dropWhile queB) := by rw [← strB_of (PP.extract a PP.size), Lib.extract_to_end, u3, HPD.out]
                have cD := fun W => ndots_any QA W zQ
                rw [hQAd] at cD
                clear hQAd u1 u2 u3 HQ
                generalize strB (p0.dropWhile queB) = QB at *
                by_cases hde : dotsL (p0.takeWhile queB) = []
                · have hpt : pthN p0 = [47] := by rw [pthN, if_pos hde]
                  rw [hde] at cD
                  rw [hpt] at HX
                  have es : strB [] = (⟨#[]⟩ : ByteArray) := rfl
                  rw [es] at cD
                  clear hde hpt es
                  go_wp2_with fail
                  refine (cD _).mono ?_
                  rintro e we ⟨rfl, hbe⟩
                  go_wp2_with fail
                  refine bodyPost_ret (v := .tuple #[.string ((⟨#[104, 116, 116, 112, 58, 47, 47]⟩ : ByteArray) ++ strB hh0 ++ (⟨#[47]⟩ : ByteArray) ++ QB), .int .i64 0]) (by simp [results, Tryz.results10, go_sem]) rfl ⟨by rw [show errV (some OUT) = .tuple #[.string (strB OUT), .int .i64 0] from rfl, ← HX.out] <;> rfl, hb2.trans (hbe.mono hb2.size)⟩
                · have hpt : pthN p0 = dotsL (p0.takeWhile queB) := by rw [pthN, if_neg hde]
                  have ede : (strB (pthN p0)).toList.isEmpty = false := by
                    rw [strB_toList, hpt]
                    cases hq8 : dotsL (p0.takeWhile queB) with
                    | nil => exact absurd hq8 hde
                    | cons x y => rfl
                  rw [← hpt] at cD
                  clear hde hpt
                  generalize strB (pthN p0) = OO at *
                  go_wp2_with fail
                  refine (cD _).mono ?_
                  rintro e we ⟨rfl, hbe⟩
                  go_wp2_with fail
                  refine bodyPost_ret (v := .tuple #[.string ((⟨#[104, 116, 116, 112, 58, 47, 47]⟩ : ByteArray) ++ strB hh0 ++ OO ++ QB), .int .i64 0]) (by simp [results, Tryz.results10, go_sem]) rfl ⟨by rw [show errV (some OUT) = .tuple #[.string (strB OUT), .int .i64 0] from rfl, ← HX.out] <;> rfl, hb2.trans (hbe.mono hb2.size)⟩
          · have m3 : ((((ST[0]'hT0).toNat : Int)) != 47) = true := by rw [bne, m1]; rfl
            have m4 : ((((ST[0]'hT0).toNat : Int)) != 63) = false := by rw [bne, m2]; rfl
            go_wp2_with fail
            refine (cH _).mono ?_
            rintro e wc ⟨rfl, hbc⟩
            have hb1 := hbA.trans (hbc.mono hbA.size)
            unfold errV
            go_wp2_with fail
            refine (cP _).mono ?_
            rintro e wd ⟨rfl, hbd⟩
            have hb2 := hb1.trans (hbd.mono hb1.size)
            unfold errV
            dsimp only
            rw [HPP.out]
            go_wp2_with fail
            go_loop [11, 12] (fun v11 v12 => ∃ (j a : Nat), v11 = .int .i64 a ∧ v12 = .int .i64 ((j : Int) - 1) ∧ j ≤ PP.size ∧ a ≤ PP.size ∧ Hid (qAt PP.data.toList j a)) (fun _ v12 => (intOf v12 + 1).toNat)
            case atStart => exact ⟨PP.size, PP.size, rfl, by go_num, Nat.le_refl _, Nat.le_refl _, Lib.hid (by rw [hPz.out]; exact qAt_start _)⟩
            case round =>
              obtain ⟨j, a, rfl, rfl, hj, ha, HQ⟩ := hrel
              cases j with
              | succ j =>
                have hjl : j < PP.size := by omega
                have d1 : ((j + 1 : Nat) : Int) - 1 = (j : Int) := by omega
                rw [d1]
                have d2 : (0 : Int) ≤ (j : Int) := by omega
                have hd := drop_cons_at PP j hjl
                have hw : IntKind.i64.wrap ((j : Int) - 1) = (j : Int) - 1 := IntWalk.i64_in _ (by omega)
                cases e63 : (((PP[j]'hjl).toNat : Int) == 63)
                · have hc : PP[j]'hjl ≠ 63 := fun h => by rw [h] at e63; exact absurd e63 (by decide)
                  have HN := Lib.hid (qAt_miss HQ.out hd hc)
                  clear hd hc
                  go_wp2_with fail
                  go_round
                  case rel => exact ⟨j, a, rfl, by go_num, by omega, ha, HN⟩
                  case measure => simp [intOf] <;> omega
                · have hc : PP[j]'hjl = 63 := by
                    have := byte_beq (PP[j]'hjl) 63
                    rw [show (((63 : UInt8).toNat : Int)) = 63 from rfl, e63] at this
                    exact beq_iff_eq.1 this.symm
                  rw [hc] at hd
                  have HN := Lib.hid (qAt_hit hd)
                  clear hd hc
                  go_wp2_with fail
                  go_round
                  case rel => exact ⟨j, j, rfl, by go_num, by omega, by omega, HN⟩
                  case measure => simp [intOf] <;> omega
              | zero =>
                have d1 : ((0 : Nat) : Int) - 1 = -1 := by omega
                rw [d1]
                obtain ⟨u1, u2, u3⟩ := qAt_end HQ.out
                have v1 : (a : Int) ≤ (PP.size : Int) := by omega
                have v2 : (0 : Int) ≤ (a : Int) := by omega
                obtain ⟨QA, hQA⟩ : ∃ QA, PP.extract 0 a = QA := ⟨_, rfl⟩
                have hQAd : QA.data.toList = p0.takeWhile queB := by rw [← hQA, extract_take, u2, HPD.out]
                have zQ : QA.size ≤ 100000 := by
                  rw [Lib.size_eq, hQAd]
                  have := takeWhile_len_le queB p0
                  rw [← HPD.out, ← Lib.size_eq] at this
                  rw [← HPD.out]
                  omega
                have hQB : PP.extract a PP.size = strB (p0.dropWhile queB) := by rw [← strB_of (PP.extract a PP.size), Lib.extract_to_end, u3, HPD.out]
                have cD := fun W => ndots_any QA W zQ
                rw [hQAd] at cD
                clear hQAd u1 u2 u3 HQ
                generalize strB (p0.dropWhile queB) = QB at *
                by_cases hde : dotsL (p0.takeWhile queB) = []
                · have hpt : pthN p0 = [47] := by rw [pthN, if_pos hde]
                  rw [hde] at cD
                  rw [hpt] at HX
                  have es : strB [] = (⟨#[]⟩ : ByteArray) := rfl
                  rw [es] at cD
                  clear hde hpt es
                  go_wp2_with fail
                  refine (cD _).mono ?_
                  rintro e we ⟨rfl, hbe⟩
                  go_wp2_with fail
                  refine bodyPost_ret (v := .tuple #[.string ((⟨#[104, 116, 116, 112, 58, 47, 47]⟩ : ByteArray) ++ strB hh0 ++ (⟨#[47]⟩ : ByteArray) ++ QB), .int .i64 0]) (by simp [results, Tryz.results10, go_sem]) rfl ⟨by rw [show errV (some OUT) = .tuple #[.string (strB OUT), .int .i64 0] from rfl, ← HX.out] <;> rfl, hb2.trans (hbe.mono hb2.size)⟩
                · have hpt : pthN p0 = dotsL (p0.takeWhile queB) := by rw [pthN, if_neg hde]
                  have ede : (strB (pthN p0)).toList.isEmpty = false := by
                    rw [strB_toList, hpt]
                    cases hq8 : dotsL (p0.takeWhile queB) with
                    | nil => exact absurd hq8 hde
                    | cons x y => rfl
                  rw [← hpt] at cD
                  clear hde hpt
                  generalize strB (pthN p0) = OO at *
                  go_wp2_with fail
                  refine (cD _).mono ?_
                  rintro e we ⟨rfl, hbe⟩
                  go_wp2_with fail
                  refine bodyPost_ret (v := .tuple #[.string ((⟨#[104, 116, 116, 112, 58, 47, 47]⟩ : ByteArray) ++ strB hh0 ++ OO ++ QB), .int .i64 0]) (by simp [results, Tryz.results10, go_sem]) rfl ⟨by rw [show errV (some OUT) = .tuple #[.string (strB OUT), .int .i64 0] from rfl, ← HX.out] <;> rfl, hb2.trans (hbe.mono hb2.size)⟩
      · have e47b : (((s2[k]'hlt).toNat : Int) != 47) = false := by rw [bne, e47]; rfl
        have hc47 : s2[k]'hlt = 47 := by
          have := byte_beq (s2[k]'hlt) 47
          rw [show (((47 : UInt8).toNat : Int)) = 47 from rfl, e47] at this
          exact beq_iff_eq.1 this.symm
        have hex : k = s2.data.toList.length ∨ ∃ c r, s2.data.toList.drop k = c :: r ∧ endB c = false := .inr ⟨_, _, hd.out, by rw [hc47]; decide⟩
        clear hc47 hd
        obtain ⟨x1, x2⟩ := end_at (l := s2.data.toList) (k := k) hk7 (by rw [← hz2.out]; exact hk) H.out hex
        obtain ⟨SH, hSH⟩ : ∃ SH, s2.extract 7 k = SH := ⟨_, rfl⟩
        obtain ⟨ST, hST⟩ : ∃ ST, s2.extract k s2.size = ST := ⟨_, rfl⟩
        have eH : SH.data.toList = h1 := by rw [← hSH, cut_data, strB_data, ← x1, hs1]
        have eT : ST.data.toList = t1 := by rw [← hST, Lib.extract_to_end, ← x2, hs2]
        have zH : SH.size ≤ 100000 := by
          rw [← hSH, cut_data, strB_size, List.length_drop, List.length_take]
          omega
        have zT : ST.size ≤ 100000 := by
          rw [← hST, Lib.size_eq, Lib.extract_to_end, List.length_drop, ← hz2.out]
          omega
        have b1 : (7 : Int) ≤ (k : Int) := by omega
        have b2 : (k : Int) ≤ (s2.size : Int) := by omega
        have b3 : (0 : Int) ≤ (k : Int) := by omega
        have hbA := HBA.out
        clear x1 x2 H
        have cH := fun W => nhost_any SH W zH
        rw [eH, hh] at cH
        have cP := fun W => npercent_any ST W zT
        rw [eT] at cP
        have hhl := host_len hh
        have hpl := (pct_stays _ t1 p0 (Nat.le_refl _) hp).2
        have ezH : h1.length ≤ 100000 := by rw [← eH, ← Lib.size_eq]; exact zH
        have ezT : t1.length ≤ 100000 := by rw [← eT, ← Lib.size_eq]; exact zT
        have hTe : ST.toList = t1 := by rw [Lib.toList_data, eT]
        rw [hp] at cP
        have zP : (strB p0).size ≤ 100000 := by rw [strB_size]; omega
        have hdl := dots_len (p0.takeWhile queB)
        have q1 := takeWhile_len_le queB p0
        have hol : (pthN p0).length ≤ 100001 := by
          rw [pthN]
          split
          · simp
          · omega
        have q2 := dropWhile_len queB p0
        have HX : Hid ((⟨#[104, 116, 116, 112, 58, 47, 47]⟩ : ByteArray) ++ strB hh0 ++ strB (pthN p0) ++ strB (p0.dropWhile queB) = strB (htpL ++ hh0 ++ pthN p0 ++ p0.dropWhile queB)) := Lib.hid (by
          rw [show (⟨#[104, 116, 116, 112, 58, 47, 47]⟩ : ByteArray) = strB htpL from rfl, strB_append, strB_append, strB_append])
        have y1 : (strB hh0).size ≤ 100000 := by rw [strB_size]; omega
        have y2 : (strB (pthN p0)).size ≤ 100001 := by rw [strB_size]; exact hol
        have y3 : (strB (p0.dropWhile queB)).size ≤ 100000 := by rw [strB_size]; omega
        obtain ⟨PP, hPP⟩ : ∃ PP, strB p0 = PP := ⟨_, rfl⟩
        have hPd : PP.data.toList = p0 := by rw [← hPP, strB_data]
        have hPz := Lib.hid (Lib.size_eq PP)
        rw [hPP] at zP
        have HPP := Lib.hid hPP
        have HPD := Lib.hid hPd
        have hok : (ST.toList.isEmpty = true) ∨ ∃ h0 : 0 < ST.size, ST.toList.isEmpty = false ∧ (((((ST[0]'h0).toNat : Int)) == 47) = true ∨ ((((ST[0]'h0).toNat : Int)) == 47) = false ∧ ((((ST[0]'h0).toNat : Int)) == 63) = true) := by
          cases hq9 : t1 with
          | nil => exact .inl (by rw [hTe, hq9]; rfl)
          | cons c0 r0 =>
            have hTl : ST.data.toList = c0 :: r0 := by rw [eT, hq9]
            have hT0 : 0 < ST.size := by rw [Lib.size_eq, hTl, List.length_cons]; omega
            have hT2 : ST[0]'hT0 = c0 := by
              have hd := drop_cons_at ST 0 hT0
              rw [List.drop_zero, hTl] at hd
              exact (List.cons.inj hd).1.symm
            refine .inr ⟨hT0, by rw [hTe, hq9]; rfl, ?_⟩
            by_cases a47 : c0 = 47
            · exact .inl ((byte_beq _ 47).trans (by rw [hT2, a47]; rfl))
            · refine .inr ⟨(byte_beq _ 47).trans (by rw [hT2]; simpa using a47), (byte_beq _ 63).trans ?_⟩
              rw [hT2]
              by_cases a63 : c0 = 63
              · rw [a63]; rfl
              · exact absurd (bad_head.2 ⟨c0, r0, hq9, a47, a63⟩) hbad
        clear hh hp hhl hpl ezH ezT q1 q2 hdl hol hTe hPd hPP hbad
        generalize htpL ++ hh0 ++ pthN p0 ++ p0.dropWhile queB = OUT at *
        clear eH eT
        clear hex
        rcases hok with hT1 | ⟨hT0, hT1, m1 | ⟨m1, m2⟩⟩
        · go_wp2_with fail
          refine (cH _).mono ?_
          rintro e wc ⟨rfl, hbc⟩
          have hb1 := hbA.trans (hbc.mono hbA.size)
          unfold errV
          go_wp2_with fail
          refine (cP _).mono ?_
          rintro e wd ⟨rfl, hbd⟩
          have hb2 := hb1.trans (hbd.mono hb1.size)
          unfold errV
          dsimp only
          rw [HPP.out]
          go_wp2_with fail
          go_loop [11, 12] (fun v11 v12 => ∃ (j a : Nat), v11 = .int .i64 a ∧ v12 = .int .i64 ((j : Int) - 1) ∧ j ≤ PP.size ∧ a ≤ PP.size ∧ Hid (qAt PP.data.toList j a)) (fun _ v12 => (intOf v12 + 1).toNat)
          case atStart => exact ⟨PP.size, PP.size, rfl, by go_num, Nat.le_refl _, Nat.le_refl _, Lib.hid (by rw [hPz.out]; exact qAt_start _)⟩
          case round =>
            obtain ⟨j, a, rfl, rfl, hj, ha, HQ⟩ := hrel
            cases j with
            | succ j =>
              have hjl : j < PP.size := by omega
              have d1 : ((j + 1 : Nat) : Int) - 1 = (j : Int) := by omega
              rw [d1]
              have d2 : (0 : Int) ≤ (j : Int) := by omega
              have hd := drop_cons_at PP j hjl
              have hw : IntKind.i64.wrap ((j : Int) - 1) = (j : Int) - 1 := IntWalk.i64_in _ (by omega)
              cases e63 : (((PP[j]'hjl).toNat : Int) == 63)
              · have hc : PP[j]'hjl ≠ 63 := fun h => by rw [h] at e63; exact absurd e63 (by decide)
                have HN := Lib.hid (qAt_miss HQ.out hd hc)
                clear hd hc
                go_wp2_with fail
                go_round
                case rel => exact ⟨j, a, rfl, by go_num, by omega, ha, HN⟩
                case measure => simp [intOf] <;> omega
              · have hc : PP[j]'hjl = 63 := by
                  have := byte_beq (PP[j]'hjl) 63
                  rw [show (((63 : UInt8).toNat : Int)) = 63 from rfl, e63] at this
                  exact beq_iff_eq.1 this.symm
                rw [hc] at hd
                have HN := Lib.hid (qAt_hit hd)
                clear hd hc
                go_wp2_with fail
                go_round
                case rel => exact ⟨j, j, rfl, by go_num, by omega, by omega, HN⟩
                case measure => simp [intOf] <;> omega
            | zero =>
              have d1 : ((0 : Nat) : Int) - 1 = -1 := by omega
              rw [d1]
              obtain ⟨u1, u2, u3⟩ := qAt_end HQ.out
              have v1 : (a : Int) ≤ (PP.size : Int) := by omega
              have v2 : (0 : Int) ≤ (a : Int) := by omega
              obtain ⟨QA, hQA⟩ : ∃ QA, PP.extract 0 a = QA := ⟨_, rfl⟩
              have hQAd : QA.data.toList = p0.takeWhile queB := by rw [← hQA, extract_take, u2, HPD.out]
              have zQ : QA.size ≤ 100000 := by
                rw [Lib.size_eq, hQAd]
                have := takeWhile_len_le queB p0
                rw [← HPD.out, ← Lib.size_eq] at this
                rw [← HPD.out]
                omega
              have hQB : PP.extract a PP.size = strB (p0.dropWhile queB) := by rw [← strB_of (PP.extract a PP.size), Lib.extract_to_end, u3, HPD.out]
              have cD := fun W => ndots_any QA W zQ
              rw [hQAd] at cD
              clear hQAd u1 u2 u3 HQ
              generalize strB (p0.dropWhile queB) = QB at *
              by_cases hde : dotsL (p0.takeWhile queB) = []
              · have hpt : pthN p0 = [47] := by rw [pthN, if_pos hde]
                rw [hde] at cD
                rw [hpt] at HX
                have es : strB [] = (⟨#[]⟩ : ByteArray) := rfl
                rw [es] at cD
                clear hde hpt es
                go_wp2_with fail
                refine (cD _).mono ?_
                rintro e we ⟨rfl, hbe⟩
                go_wp2_with fail
                refine bodyPost_ret (v := .tuple #[.string ((⟨#[104, 116, 116, 112, 58, 47, 47]⟩ : ByteArray) ++ strB hh0 ++ (⟨#[47]⟩ : ByteArray) ++ QB), .int .i64 0]) (by simp [results, Tryz.results10, go_sem]) rfl ⟨by rw [show errV (some OUT) = .tuple #[.string (strB OUT), .int .i64 0] from rfl, ← HX.out] <;> rfl, hb2.trans (hbe.mono hb2.size)⟩
              · have hpt : pthN p0 = dotsL (p0.takeWhile queB) := by rw [pthN, if_neg hde]
                have ede : (strB (pthN p0)).toList.isEmpty = false := by
                  rw [strB_toList, hpt]
                  cases hq8 : dotsL (p0.takeWhile queB) with
                  | nil => exact absurd hq8 hde
                  | cons x y => rfl
                rw [← hpt] at cD
                clear hde hpt
                generalize strB (pthN p0) = OO at *
                go_wp2_with fail
                refine (cD _).mono ?_
                rintro e we ⟨rfl, hbe⟩
                go_wp2_with fail
                refine bodyPost_ret (v := .tuple #[.string ((⟨#[104, 116, 116, 112, 58, 47, 47]⟩ : ByteArray) ++ strB hh0 ++ OO ++ QB), .int .i64 0]) (by simp [results, Tryz.results10, go_sem]) rfl ⟨by rw [show errV (some OUT) = .tuple #[.string (strB OUT), .int .i64 0] from rfl, ← HX.out] <;> rfl, hb2.trans (hbe.mono hb2.size)⟩
        · have m3 : ((((ST[0]'hT0).toNat : Int)) != 47) = false := by rw [bne, m1]; rfl
          go_wp2_with fail
          refine (cH _).mono ?_
          rintro e wc ⟨rfl, hbc⟩
          have hb1 := hbA.trans (hbc.mono hbA.size)
          unfold errV
          go_wp2_with fail
          refine (cP _).mono ?_
          rintro e wd ⟨rfl, hbd⟩
          have hb2 := hb1.trans (hbd.mono hb1.size)
          unfold errV
          dsimp only
          rw [HPP.out]
          go_wp2_with fail
          go_loop [11, 12] (fun v11 v12 => ∃ (j a : Nat), v11 = .int .i64 a ∧ v12 = .int .i64 ((j : Int) - 1) ∧ j ≤ PP.size ∧ a ≤ PP.size ∧ Hid (qAt PP.data.toList j a)) (fun _ v12 => (intOf v12 + 1).toNat)
          case atStart => exact ⟨PP.size, PP.size, rfl, by go_num, Nat.le_refl _, Nat.le_refl _, Lib.hid (by rw [hPz.out]; exact qAt_start _)⟩
          case round =>
            obtain ⟨j, a, rfl, rfl, hj, ha, HQ⟩ := hrel
            cases j with
            | succ j =>
              have hjl : j < PP.size := by omega
              have d1 : ((j + 1 : Nat) : Int) - 1 = (j : Int) := by omega
              rw [d1]
              have d2 : (0 : Int) ≤ (j : Int) := by omega
              have hd := drop_cons_at PP j hjl
              have hw : IntKind.i64.wrap ((j : Int) - 1) = (j : Int) - 1 := IntWalk.i64_in _ (by omega)
              cases e63 : (((PP[j]'hjl).toNat : Int) == 63)
              · have hc : PP[j]'hjl ≠ 63 := fun h => by rw [h] at e63; exact absurd e63 (by decide)
                have HN := Lib.hid (qAt_miss HQ.out hd hc)
                clear hd hc
                go_wp2_with fail
                go_round
                case rel => exact ⟨j, a, rfl, by go_num, by omega, ha, HN⟩
                case measure => simp [intOf] <;> omega
              · have hc : PP[j]'hjl = 63 := by
                  have := byte_beq (PP[j]'hjl) 63
                  rw [show (((63 : UInt8).toNat : Int)) = 63 from rfl, e63] at this
                  exact beq_iff_eq.1 this.symm
                rw [hc] at hd
                have HN := Lib.hid (qAt_hit hd)
                clear hd hc
                go_wp2_with fail
                go_round
                case rel => exact ⟨j, j, rfl, by go_num, by omega, by omega, HN⟩
                case measure => simp [intOf] <;> omega
            | zero =>
              have d1 : ((0 : Nat) : Int) - 1 = -1 := by omega
              rw [d1]
              obtain ⟨u1, u2, u3⟩ := qAt_end HQ.out
              have v1 : (a : Int) ≤ (PP.size : Int) := by omega
              have v2 : (0 : Int) ≤ (a : Int) := by omega
              obtain ⟨QA, hQA⟩ : ∃ QA, PP.extract 0 a = QA := ⟨_, rfl⟩
              have hQAd : QA.data.toList = p0.takeWhile queB := by rw [← hQA, extract_take, u2, HPD.out]
              have zQ : QA.size ≤ 100000 := by
                rw [Lib.size_eq, hQAd]
                have := takeWhile_len_le queB p0
                rw [← HPD.out, ← Lib.size_eq] at this
                rw [← HPD.out]
                omega
              have hQB : PP.extract a PP.size = strB (p0.dropWhile queB) := by rw [← strB_of (PP.extract a PP.size), Lib.extract_to_end, u3, HPD.out]
              have cD := fun W => ndots_any QA W zQ
              rw [hQAd] at cD
              clear hQAd u1 u2 u3 HQ
              generalize strB (p0.dropWhile queB) = QB at *
              by_cases hde : dotsL (p0.takeWhile queB) = []
              · have hpt : pthN p0 = [47] := by rw [pthN, if_pos hde]
                rw [hde] at cD
                rw [hpt] at HX
                have es : strB [] = (⟨#[]⟩ : ByteArray) := rfl
                rw [es] at cD
                clear hde hpt es
                go_wp2_with fail
                refine (cD _).mono ?_
                rintro e we ⟨rfl, hbe⟩
                go_wp2_with fail
                refine bodyPost_ret (v := .tuple #[.string ((⟨#[104, 116, 116, 112, 58, 47, 47]⟩ : ByteArray) ++ strB hh0 ++ (⟨#[47]⟩ : ByteArray) ++ QB), .int .i64 0]) (by simp [results, Tryz.results10, go_sem]) rfl ⟨by rw [show errV (some OUT) = .tuple #[.string (strB OUT), .int .i64 0] from rfl, ← HX.out] <;> rfl, hb2.trans (hbe.mono hb2.size)⟩
              · have hpt : pthN p0 = dotsL (p0.takeWhile queB) := by rw [pthN, if_neg hde]
                have ede : (strB (pthN p0)).toList.isEmpty = false := by
                  rw [strB_toList, hpt]
                  cases hq8 : dotsL (p0.takeWhile queB) with
                  | nil => exact absurd hq8 hde
                  | cons x y => rfl
                rw [← hpt] at cD
                clear hde hpt
                generalize strB (pthN p0) = OO at *
                go_wp2_with fail
                refine (cD _).mono ?_
                rintro e we ⟨rfl, hbe⟩
                go_wp2_with fail
                refine bodyPost_ret (v := .tuple #[.string ((⟨#[104, 116, 116, 112, 58, 47, 47]⟩ : ByteArray) ++ strB hh0 ++ OO ++ QB), .int .i64 0]) (by simp [results, Tryz.results10, go_sem]) rfl ⟨by rw [show errV (some OUT) = .tuple #[.string (strB OUT), .int .i64 0] from rfl, ← HX.out] <;> rfl, hb2.trans (hbe.mono hb2.size)⟩
        · have m3 : ((((ST[0]'hT0).toNat : Int)) != 47) = true := by rw [bne, m1]; rfl
          have m4 : ((((ST[0]'hT0).toNat : Int)) != 63) = false := by rw [bne, m2]; rfl
          go_wp2_with fail
          refine (cH _).mono ?_
          rintro e wc ⟨rfl, hbc⟩
          have hb1 := hbA.trans (hbc.mono hbA.size)
          unfold errV
          go_wp2_with fail
          refine (cP _).mono ?_
          rintro e wd ⟨rfl, hbd⟩
          have hb2 := hb1.trans (hbd.mono hb1.size)
          unfold errV
          dsimp only
          rw [HPP.out]
          go_wp2_with fail
          go_loop [11, 12] (fun v11 v12 => ∃ (j a : Nat), v11 = .int .i64 a ∧ v12 = .int .i64 ((j : Int) - 1) ∧ j ≤ PP.size ∧ a ≤ PP.size ∧ Hid (qAt PP.data.toList j a)) (fun _ v12 => (intOf v12 + 1).toNat)
          case atStart => exact ⟨PP.size, PP.size, rfl, by go_num, Nat.le_refl _, Nat.le_refl _, Lib.hid (by rw [hPz.out]; exact qAt_start _)⟩
          case round =>
            obtain ⟨j, a, rfl, rfl, hj, ha, HQ⟩ := hrel
            cases j with
            | succ j =>
              have hjl : j < PP.size := by omega
              have d1 : ((j + 1 : Nat) : Int) - 1 = (j : Int) := by omega
              rw [d1]
              have d2 : (0 : Int) ≤ (j : Int) := by omega
              have hd := drop_cons_at PP j hjl
              have hw : IntKind.i64.wrap ((j : Int) - 1) = (j : Int) - 1 := IntWalk.i64_in _ (by omega)
              cases e63 : (((PP[j]'hjl).toNat : Int) == 63)
              · have hc : PP[j]'hjl ≠ 63 := fun h => by rw [h] at e63; exact absurd e63 (by decide)
                have HN := Lib.hid (qAt_miss HQ.out hd hc)
                clear hd hc
                go_wp2_with fail
                go_round
                case rel => exact ⟨j, a, rfl, by go_num, by omega, ha, HN⟩
                case measure => simp [intOf] <;> omega
              · have hc : PP[j]'hjl = 63 := by
                  have := byte_beq (PP[j]'hjl) 63
                  rw [show (((63 : UInt8).toNat : Int)) = 63 from rfl, e63] at this
                  exact beq_iff_eq.1 this.symm
                rw [hc] at hd
                have HN := Lib.hid (qAt_hit hd)
                clear hd hc
                go_wp2_with fail
                go_round
                case rel => exact ⟨j, j, rfl, by go_num, by omega, by omega, HN⟩
                case measure => simp [intOf] <;> omega
            | zero =>
              have d1 : ((0 : Nat) : Int) - 1 = -1 := by omega
              rw [d1]
              obtain ⟨u1, u2, u3⟩ := qAt_end HQ.out
              have v1 : (a : Int) ≤ (PP.size : Int) := by omega
              have v2 : (0 : Int) ≤ (a : Int) := by omega
              obtain ⟨QA, hQA⟩ : ∃ QA, PP.extract 0 a = QA := ⟨_, rfl⟩
              have hQAd : QA.data.toList = p0.takeWhile queB := by rw [← hQA, extract_take, u2, HPD.out]
              have zQ : QA.size ≤ 100000 := by
                rw [Lib.size_eq, hQAd]
                have := takeWhile_len_le queB p0
                rw [← HPD.out, ← Lib.size_eq] at this
                rw [← HPD.out]
                omega
              have hQB : PP.extract a PP.size = strB (p0.dropWhile queB) := by rw [← strB_of (PP.extract a PP.size), Lib.extract_to_end, u3, HPD.out]
              have cD := fun W => ndots_any QA W zQ
              rw [hQAd] at cD
              clear hQAd u1 u2 u3 HQ
              generalize strB (p0.dropWhile queB) = QB at *
              by_cases hde : dotsL (p0.takeWhile queB) = []
              · have hpt : pthN p0 = [47] := by rw [pthN, if_pos hde]
                rw [hde] at cD
                rw [hpt] at HX
                have es : strB [] = (⟨#[]⟩ : ByteArray) := rfl
                rw [es] at cD
                clear hde hpt es
                go_wp2_with fail
                refine (cD _).mono ?_
                rintro e we ⟨rfl, hbe⟩
                go_wp2_with fail
                refine bodyPost_ret (v := .tuple #[.string ((⟨#[104, 116, 116, 112, 58, 47, 47]⟩ : ByteArray) ++ strB hh0 ++ (⟨#[47]⟩ : ByteArray) ++ QB), .int .i64 0]) (by simp [results, Tryz.results10, go_sem]) rfl ⟨by rw [show errV (some OUT) = .tuple #[.string (strB OUT), .int .i64 0] from rfl, ← HX.out] <;> rfl, hb2.trans (hbe.mono hb2.size)⟩
              · have hpt : pthN p0 = dotsL (p0.takeWhile queB) := by rw [pthN, if_neg hde]
                have ede : (strB (pthN p0)).toList.isEmpty = false := by
                  rw [strB_toList, hpt]
                  cases hq8 : dotsL (p0.takeWhile queB) with
                  | nil => exact absurd hq8 hde
                  | cons x y => rfl
                rw [← hpt] at cD
                clear hde hpt
                generalize strB (pthN p0) = OO at *
                go_wp2_with fail
                refine (cD _).mono ?_
                rintro e we ⟨rfl, hbe⟩
                go_wp2_with fail
                refine bodyPost_ret (v := .tuple #[.string ((⟨#[104, 116, 116, 112, 58, 47, 47]⟩ : ByteArray) ++ strB hh0 ++ OO ++ QB), .int .i64 0]) (by simp [results, Tryz.results10, go_sem]) rfl ⟨by rw [show errV (some OUT) = .tuple #[.string (strB OUT), .int .i64 0] from rfl, ← HX.out] <;> rfl, hb2.trans (hbe.mono hb2.size)⟩
    · have c9 : ¬ (k : Int) < (s2.size : Int) := by omega
      have hex : k = s2.data.toList.length ∨ ∃ c r, s2.data.toList.drop k = c :: r ∧ endB c = false := .inl (by rw [← hz2.out]; omega)
      clear hlt
      obtain ⟨x1, x2⟩ := end_at (l := s2.data.toList) (k := k) hk7 (by rw [← hz2.out]; exact hk) H.out hex
      obtain ⟨SH, hSH⟩ : ∃ SH, s2.extract 7 k = SH := ⟨_, rfl⟩
      obtain ⟨ST, hST⟩ : ∃ ST, s2.extract k s2.size = ST := ⟨_, rfl⟩
      have eH : SH.data.toList = h1 := by rw [← hSH, cut_data, strB_data, ← x1, hs1]
      have eT : ST.data.toList = t1 := by rw [← hST, Lib.extract_to_end, ← x2, hs2]
      have zH : SH.size ≤ 100000 := by
        rw [← hSH, cut_data, strB_size, List.length_drop, List.length_take]
        omega
      have zT : ST.size ≤ 100000 := by
        rw [← hST, Lib.size_eq, Lib.extract_to_end, List.length_drop, ← hz2.out]
        omega
      have b1 : (7 : Int) ≤ (k : Int) := by omega
      have b2 : (k : Int) ≤ (s2.size : Int) := by omega
      have b3 : (0 : Int) ≤ (k : Int) := by omega
      have hbA := HBA.out
      clear x1 x2 H
      have cH := fun W => nhost_any SH W zH
      rw [eH, hh] at cH
      have cP := fun W => npercent_any ST W zT
      rw [eT] at cP
      have hhl := host_len hh
      have hpl := (pct_stays _ t1 p0 (Nat.le_refl _) hp).2
      have ezH : h1.length ≤ 100000 := by rw [← eH, ← Lib.size_eq]; exact zH
      have ezT : t1.length ≤ 100000 := by rw [← eT, ← Lib.size_eq]; exact zT
      have hTe : ST.toList = t1 := by rw [Lib.toList_data, eT]
      rw [hp] at cP
      have zP : (strB p0).size ≤ 100000 := by rw [strB_size]; omega
      have hdl := dots_len (p0.takeWhile queB)
      have q1 := takeWhile_len_le queB p0
      have hol : (pthN p0).length ≤ 100001 := by
        rw [pthN]
        split
        · simp
        · omega
      have q2 := dropWhile_len queB p0
      have HX : Hid ((⟨#[104, 116, 116, 112, 58, 47, 47]⟩ : ByteArray) ++ strB hh0 ++ strB (pthN p0) ++ strB (p0.dropWhile queB) = strB (htpL ++ hh0 ++ pthN p0 ++ p0.dropWhile queB)) := Lib.hid (by
        rw [show (⟨#[104, 116, 116, 112, 58, 47, 47]⟩ : ByteArray) = strB htpL from rfl, strB_append, strB_append, strB_append])
      have y1 : (strB hh0).size ≤ 100000 := by rw [strB_size]; omega
      have y2 : (strB (pthN p0)).size ≤ 100001 := by rw [strB_size]; exact hol
      have y3 : (strB (p0.dropWhile queB)).size ≤ 100000 := by rw [strB_size]; omega
      obtain ⟨PP, hPP⟩ : ∃ PP, strB p0 = PP := ⟨_, rfl⟩
      have hPd : PP.data.toList = p0 := by rw [← hPP, strB_data]
      have hPz := Lib.hid (Lib.size_eq PP)
      rw [hPP] at zP
      have HPP := Lib.hid hPP
      have HPD := Lib.hid hPd
      have hok : (ST.toList.isEmpty = true) ∨ ∃ h0 : 0 < ST.size, ST.toList.isEmpty = false ∧ (((((ST[0]'h0).toNat : Int)) == 47) = true ∨ ((((ST[0]'h0).toNat : Int)) == 47) = false ∧ ((((ST[0]'h0).toNat : Int)) == 63) = true) := by
        cases hq9 : t1 with
        | nil => exact .inl (by rw [hTe, hq9]; rfl)
        | cons c0 r0 =>
          have hTl : ST.data.toList = c0 :: r0 := by rw [eT, hq9]
          have hT0 : 0 < ST.size := by rw [Lib.size_eq, hTl, List.length_cons]; omega
          have hT2 : ST[0]'hT0 = c0 := by
            have hd := drop_cons_at ST 0 hT0
            rw [List.drop_zero, hTl] at hd
            exact (List.cons.inj hd).1.symm
          refine .inr ⟨hT0, by rw [hTe, hq9]; rfl, ?_⟩
          by_cases a47 : c0 = 47
          · exact .inl ((byte_beq _ 47).trans (by rw [hT2, a47]; rfl))
          · refine .inr ⟨(byte_beq _ 47).trans (by rw [hT2]; simpa using a47), (byte_beq _ 63).trans ?_⟩
            rw [hT2]
            by_cases a63 : c0 = 63
            · rw [a63]; rfl
            · exact absurd (bad_head.2 ⟨c0, r0, hq9, a47, a63⟩) hbad
      clear hh hp hhl hpl ezH ezT q1 q2 hdl hol hTe hPd hPP hbad
      generalize htpL ++ hh0 ++ pthN p0 ++ p0.dropWhile queB = OUT at *
      clear eH eT
      clear hex
      rcases hok with hT1 | ⟨hT0, hT1, m1 | ⟨m1, m2⟩⟩
      · go_wp2_with fail
        refine (cH _).mono ?_
        rintro e wc ⟨rfl, hbc⟩
        have hb1 := hbA.trans (hbc.mono hbA.size)
        unfold errV
        go_wp2_with fail
        refine (cP _).mono ?_
        rintro e wd ⟨rfl, hbd⟩
        have hb2 := hb1.trans (hbd.mono hb1.size)
        unfold errV
        dsimp only
        rw [HPP.out]
        go_wp2_with fail
        go_loop [11, 12] (fun v11 v12 => ∃ (j a : Nat), v11 = .int .i64 a ∧ v12 = .int .i64 ((j : Int) - 1) ∧ j ≤ PP.size ∧ a ≤ PP.size ∧ Hid (qAt PP.data.toList j a)) (fun _ v12 => (intOf v12 + 1).toNat)
        case atStart => exact ⟨PP.size, PP.size, rfl, by go_num, Nat.le_refl _, Nat.le_refl _, Lib.hid (by rw [hPz.out]; exact qAt_start _)⟩
        case round =>
          obtain ⟨j, a, rfl, rfl, hj, ha, HQ⟩ := hrel
          cases j with
          | succ j =>
            have hjl : j < PP.size := by omega
            have d1 : ((j + 1 : Nat) : Int) - 1 = (j : Int) := by omega
            rw [d1]
            have d2 : (0 : Int) ≤ (j : Int) := by omega
            have hd := drop_cons_at PP j hjl
            have hw : IntKind.i64.wrap ((j : Int) - 1) = (j : Int) - 1 := IntWalk.i64_in _ (by omega)
            cases e63 : (((PP[j]'hjl).toNat : Int) == 63)
            · have hc : PP[j]'hjl ≠ 63 := fun h => by rw [h] at e63; exact absurd e63 (by decide)
              have HN := Lib.hid (qAt_miss HQ.out hd hc)
              clear hd hc
              go_wp2_with fail
              go_round
              case rel => exact ⟨j, a, rfl, by go_num, by omega, ha, HN⟩
              case measure => simp [intOf] <;> omega
            · have hc : PP[j]'hjl = 63 := by
                have := byte_beq (PP[j]'hjl) 63
                rw [show (((63 : UInt8).toNat : Int)) = 63 from rfl, e63] at this
                exact beq_iff_eq.1 this.symm
              rw [hc] at hd
              have HN := Lib.hid (qAt_hit hd)
              clear hd hc
              go_wp2_with fail
              go_round
              case rel => exact ⟨j, j, rfl, by go_num, by omega, by omega, HN⟩
              case measure => simp [intOf] <;> omega
          | zero =>
            have d1 : ((0 : Nat) : Int) - 1 = -1 := by omega
            rw [d1]
            obtain ⟨u1, u2, u3⟩ := qAt_end HQ.out
            have v1 : (a : Int) ≤ (PP.size : Int) := by omega
            have v2 : (0 : Int) ≤ (a : Int) := by omega
            obtain ⟨QA, hQA⟩ : ∃ QA, PP.extract 0 a = QA := ⟨_, rfl⟩
            have hQAd : QA.data.toList = p0.takeWhile queB := by rw [← hQA, extract_take, u2, HPD.out]
            have zQ : QA.size ≤ 100000 := by
              rw [Lib.size_eq, hQAd]
              have := takeWhile_len_le queB p0
              rw [← HPD.out, ← Lib.size_eq] at this
              rw [← HPD.out]
              omega
            have hQB : PP.extract a PP.size = strB (p0.dropWhile queB) := by rw [← strB_of (PP.extract a PP.size), Lib.extract_to_end, u3, HPD.out]
            have cD := fun W => ndots_any QA W zQ
            rw [hQAd] at cD
            clear hQAd u1 u2 u3 HQ
            generalize strB (p0.dropWhile queB) = QB at *
            by_cases hde : dotsL (p0.takeWhile queB) = []
            · have hpt : pthN p0 = [47] := by rw [pthN, if_pos hde]
              rw [hde] at cD
              rw [hpt] at HX
              have es : strB [] = (⟨#[]⟩ : ByteArray) := rfl
              rw [es] at cD
              clear hde hpt es
              go_wp2_with fail
              refine (cD _).mono ?_
              rintro e we ⟨rfl, hbe⟩
              go_wp2_with fail
              refine bodyPost_ret (v := .tuple #[.string ((⟨#[104, 116, 116, 112, 58, 47, 47]⟩ : ByteArray) ++ strB hh0 ++ (⟨#[47]⟩ : ByteArray) ++ QB), .int .i64 0]) (by simp [results, Tryz.results10, go_sem]) rfl ⟨by rw [show errV (some OUT) = .tuple #[.string (strB OUT), .int .i64 0] from rfl, ← HX.out] <;> rfl, hb2.trans (hbe.mono hb2.size)⟩
            · have hpt : pthN p0 = dotsL (p0.takeWhile queB) := by rw [pthN, if_neg hde]
              have ede : (strB (pthN p0)).toList.isEmpty = false := by
                rw [strB_toList, hpt]
                cases hq8 : dotsL (p0.takeWhile queB) with
                | nil => exact absurd hq8 hde
                | cons x y => rfl
              rw [← hpt] at cD
              clear hde hpt
              generalize strB (pthN p0) = OO at *
              go_wp2_with fail
              refine (cD _).mono ?_
              rintro e we ⟨rfl, hbe⟩
              go_wp2_with fail
              refine bodyPost_ret (v := .tuple #[.string ((⟨#[104, 116, 116, 112, 58, 47, 47]⟩ : ByteArray) ++ strB hh0 ++ OO ++ QB), .int .i64 0]) (by simp [results, Tryz.results10, go_sem]) rfl ⟨by rw [show errV (some OUT) = .tuple #[.string (strB OUT), .int .i64 0] from rfl, ← HX.out] <;> rfl, hb2.trans (hbe.mono hb2.size)⟩
      · have m3 : ((((ST[0]'hT0).toNat : Int)) != 47) = false := by rw [bne, m1]; rfl
        go_wp2_with fail
        refine (cH _).mono ?_
        rintro e wc ⟨rfl, hbc⟩
        have hb1 := hbA.trans (hbc.mono hbA.size)
        unfold errV
        go_wp2_with fail
        refine (cP _).mono ?_
        rintro e wd ⟨rfl, hbd⟩
        have hb2 := hb1.trans (hbd.mono hb1.size)
        unfold errV
        dsimp only
        rw [HPP.out]
        go_wp2_with fail
        go_loop [11, 12] (fun v11 v12 => ∃ (j a : Nat), v11 = .int .i64 a ∧ v12 = .int .i64 ((j : Int) - 1) ∧ j ≤ PP.size ∧ a ≤ PP.size ∧ Hid (qAt PP.data.toList j a)) (fun _ v12 => (intOf v12 + 1).toNat)
        case atStart => exact ⟨PP.size, PP.size, rfl, by go_num, Nat.le_refl _, Nat.le_refl _, Lib.hid (by rw [hPz.out]; exact qAt_start _)⟩
        case round =>
          obtain ⟨j, a, rfl, rfl, hj, ha, HQ⟩ := hrel
          cases j with
          | succ j =>
            have hjl : j < PP.size := by omega
            have d1 : ((j + 1 : Nat) : Int) - 1 = (j : Int) := by omega
            rw [d1]
            have d2 : (0 : Int) ≤ (j : Int) := by omega
            have hd := drop_cons_at PP j hjl
            have hw : IntKind.i64.wrap ((j : Int) - 1) = (j : Int) - 1 := IntWalk.i64_in _ (by omega)
            cases e63 : (((PP[j]'hjl).toNat : Int) == 63)
            · have hc : PP[j]'hjl ≠ 63 := fun h => by rw [h] at e63; exact absurd e63 (by decide)
              have HN := Lib.hid (qAt_miss HQ.out hd hc)
              clear hd hc
              go_wp2_with fail
              go_round
              case rel => exact ⟨j, a, rfl, by go_num, by omega, ha, HN⟩
              case measure => simp [intOf] <;> omega
            · have hc : PP[j]'hjl = 63 := by
                have := byte_beq (PP[j]'hjl) 63
                rw [show (((63 : UInt8).toNat : Int)) = 63 from rfl, e63] at this
                exact beq_iff_eq.1 this.symm
              rw [hc] at hd
              have HN := Lib.hid (qAt_hit hd)
              clear hd hc
              go_wp2_with fail
              go_round
              case rel => exact ⟨j, j, rfl, by go_num, by omega, by omega, HN⟩
              case measure => simp [intOf] <;> omega
          | zero =>
            have d1 : ((0 : Nat) : Int) - 1 = -1 := by omega
            rw [d1]
            obtain ⟨u1, u2, u3⟩ := qAt_end HQ.out
            have v1 : (a : Int) ≤ (PP.size : Int) := by omega
            have v2 : (0 : Int) ≤ (a : Int) := by omega
            obtain ⟨QA, hQA⟩ : ∃ QA, PP.extract 0 a = QA := ⟨_, rfl⟩
            have hQAd : QA.data.toList = p0.takeWhile queB := by rw [← hQA, extract_take, u2, HPD.out]
            have zQ : QA.size ≤ 100000 := by
              rw [Lib.size_eq, hQAd]
              have := takeWhile_len_le queB p0
              rw [← HPD.out, ← Lib.size_eq] at this
              rw [← HPD.out]
              omega
            have hQB : PP.extract a PP.size = strB (p0.dropWhile queB) := by rw [← strB_of (PP.extract a PP.size), Lib.extract_to_end, u3, HPD.out]
            have cD := fun W => ndots_any QA W zQ
            rw [hQAd] at cD
            clear hQAd u1 u2 u3 HQ
            generalize strB (p0.dropWhile queB) = QB at *
            by_cases hde : dotsL (p0.takeWhile queB) = []
            · have hpt : pthN p0 = [47] := by rw [pthN, if_pos hde]
              rw [hde] at cD
              rw [hpt] at HX
              have es : strB [] = (⟨#[]⟩ : ByteArray) := rfl
              rw [es] at cD
              clear hde hpt es
              go_wp2_with fail
              refine (cD _).mono ?_
              rintro e we ⟨rfl, hbe⟩
              go_wp2_with fail
              refine bodyPost_ret (v := .tuple #[.string ((⟨#[104, 116, 116, 112, 58, 47, 47]⟩ : ByteArray) ++ strB hh0 ++ (⟨#[47]⟩ : ByteArray) ++ QB), .int .i64 0]) (by simp [results, Tryz.results10, go_sem]) rfl ⟨by rw [show errV (some OUT) = .tuple #[.string (strB OUT), .int .i64 0] from rfl, ← HX.out] <;> rfl, hb2.trans (hbe.mono hb2.size)⟩
            · have hpt : pthN p0 = dotsL (p0.takeWhile queB) := by rw [pthN, if_neg hde]
              have ede : (strB (pthN p0)).toList.isEmpty = false := by
                rw [strB_toList, hpt]
                cases hq8 : dotsL (p0.takeWhile queB) with
                | nil => exact absurd hq8 hde
                | cons x y => rfl
              rw [← hpt] at cD
              clear hde hpt
              generalize strB (pthN p0) = OO at *
              go_wp2_with fail
              refine (cD _).mono ?_
              rintro e we ⟨rfl, hbe⟩
              go_wp2_with fail
              refine bodyPost_ret (v := .tuple #[.string ((⟨#[104, 116, 116, 112, 58, 47, 47]⟩ : ByteArray) ++ strB hh0 ++ OO ++ QB), .int .i64 0]) (by simp [results, Tryz.results10, go_sem]) rfl ⟨by rw [show errV (some OUT) = .tuple #[.string (strB OUT), .int .i64 0] from rfl, ← HX.out] <;> rfl, hb2.trans (hbe.mono hb2.size)⟩
      · have m3 : ((((ST[0]'hT0).toNat : Int)) != 47) = true := by rw [bne, m1]; rfl
        have m4 : ((((ST[0]'hT0).toNat : Int)) != 63) = false := by rw [bne, m2]; rfl
        go_wp2_with fail
        refine (cH _).mono ?_
        rintro e wc ⟨rfl, hbc⟩
        have hb1 := hbA.trans (hbc.mono hbA.size)
        unfold errV
        go_wp2_with fail
        refine (cP _).mono ?_
        rintro e wd ⟨rfl, hbd⟩
        have hb2 := hb1.trans (hbd.mono hb1.size)
        unfold errV
        dsimp only
        rw [HPP.out]
        go_wp2_with fail
        go_loop [11, 12] (fun v11 v12 => ∃ (j a : Nat), v11 = .int .i64 a ∧ v12 = .int .i64 ((j : Int) - 1) ∧ j ≤ PP.size ∧ a ≤ PP.size ∧ Hid (qAt PP.data.toList j a)) (fun _ v12 => (intOf v12 + 1).toNat)
        case atStart => exact ⟨PP.size, PP.size, rfl, by go_num, Nat.le_refl _, Nat.le_refl _, Lib.hid (by rw [hPz.out]; exact qAt_start _)⟩
        case round =>
          obtain ⟨j, a, rfl, rfl, hj, ha, HQ⟩ := hrel
          cases j with
          | succ j =>
            have hjl : j < PP.size := by omega
            have d1 : ((j + 1 : Nat) : Int) - 1 = (j : Int) := by omega
            rw [d1]
            have d2 : (0 : Int) ≤ (j : Int) := by omega
            have hd := drop_cons_at PP j hjl
            have hw : IntKind.i64.wrap ((j : Int) - 1) = (j : Int) - 1 := IntWalk.i64_in _ (by omega)
            cases e63 : (((PP[j]'hjl).toNat : Int) == 63)
            · have hc : PP[j]'hjl ≠ 63 := fun h => by rw [h] at e63; exact absurd e63 (by decide)
              have HN := Lib.hid (qAt_miss HQ.out hd hc)
              clear hd hc
              go_wp2_with fail
              go_round
              case rel => exact ⟨j, a, rfl, by go_num, by omega, ha, HN⟩
              case measure => simp [intOf] <;> omega
            · have hc : PP[j]'hjl = 63 := by
                have := byte_beq (PP[j]'hjl) 63
                rw [show (((63 : UInt8).toNat : Int)) = 63 from rfl, e63] at this
                exact beq_iff_eq.1 this.symm
              rw [hc] at hd
              have HN := Lib.hid (qAt_hit hd)
              clear hd hc
              go_wp2_with fail
              go_round
              case rel => exact ⟨j, j, rfl, by go_num, by omega, by omega, HN⟩
              case measure => simp [intOf] <;> omega
          | zero =>
            have d1 : ((0 : Nat) : Int) - 1 = -1 := by omega
            rw [d1]
            obtain ⟨u1, u2, u3⟩ := qAt_end HQ.out
            have v1 : (a : Int) ≤ (PP.size : Int) := by omega
            have v2 : (0 : Int) ≤ (a : Int) := by omega
            obtain ⟨QA, hQA⟩ : ∃ QA, PP.extract 0 a = QA := ⟨_, rfl⟩
            have hQAd : QA.data.toList = p0.takeWhile queB := by rw [← hQA, extract_take, u2, HPD.out]
            have zQ : QA.size ≤ 100000 := by
              rw [Lib.size_eq, hQAd]
              have := takeWhile_len_le queB p0
              rw [← HPD.out, ← Lib.size_eq] at this
              rw [← HPD.out]
              omega
            have hQB : PP.extract a PP.size = strB (p0.dropWhile queB) := by rw [← strB_of (PP.extract a PP.size), Lib.extract_to_end, u3, HPD.out]
            have cD := fun W => ndots_any QA W zQ
            rw [hQAd] at cD
            clear hQAd u1 u2 u3 HQ
            generalize strB (p0.dropWhile queB) = QB at *
            by_cases hde : dotsL (p0.takeWhile queB) = []
            · have hpt : pthN p0 = [47] := by rw [pthN, if_pos hde]
              rw [hde] at cD
              rw [hpt] at HX
              have es : strB [] = (⟨#[]⟩ : ByteArray) := rfl
              rw [es] at cD
              clear hde hpt es
              go_wp2_with fail
              refine (cD _).mono ?_
              rintro e we ⟨rfl, hbe⟩
              go_wp2_with fail
              refine bodyPost_ret (v := .tuple #[.string ((⟨#[104, 116, 116, 112, 58, 47, 47]⟩ : ByteArray) ++ strB hh0 ++ (⟨#[47]⟩ : ByteArray) ++ QB), .int .i64 0]) (by simp [results, Tryz.results10, go_sem]) rfl ⟨by rw [show errV (some OUT) = .tuple #[.string (strB OUT), .int .i64 0] from rfl, ← HX.out] <;> rfl, hb2.trans (hbe.mono hb2.size)⟩
            · have hpt : pthN p0 = dotsL (p0.takeWhile queB) := by rw [pthN, if_neg hde]
              have ede : (strB (pthN p0)).toList.isEmpty = false := by
                rw [strB_toList, hpt]
                cases hq8 : dotsL (p0.takeWhile queB) with
                | nil => exact absurd hq8 hde
                | cons x y => rfl
              rw [← hpt] at cD
              clear hde hpt
              generalize strB (pthN p0) = OO at *
              go_wp2_with fail
              refine (cD _).mono ?_
              rintro e we ⟨rfl, hbe⟩
              go_wp2_with fail
              refine bodyPost_ret (v := .tuple #[.string ((⟨#[104, 116, 116, 112, 58, 47, 47]⟩ : ByteArray) ++ strB hh0 ++ OO ++ QB), .int .i64 0]) (by simp [results, Tryz.results10, go_sem]) rfl ⟨by rw [show errV (some OUT) = .tuple #[.string (strB OUT), .int .i64 0] from rfl, ← HX.out] <;> rfl, hb2.trans (hbe.mono hb2.size)⟩

theorem nnormal_any (s1 s2 : ByteArray) (w : World) (z1 : s1.size ≤ 100000) (z2 : s2.size ≤ 100000) :
    Calls Tryz.prog 10 #[.string s1, .string s2] w (errPost (normL s1.data.toList s2.data.toList) w) := by
  unfold normL
  by_cases h7 : 7 ≤ s2.size
  · by_cases hB : lowL (s2.data.toList.take 7) = htpL
    · have hs : splN s1.data.toList s2.data.toList = ((s2.data.toList.drop 7).takeWhile endB, (s2.data.toList.drop 7).dropWhile endB) := by
        rw [splN, if_pos ⟨by rw [← Lib.size_eq]; exact h7, hB⟩]
      rw [hs]
      dsimp only
      cases hh : hostL ((s2.data.toList.drop 7).takeWhile endB) with
      | none => exact nnormal_C1 s1 s2 _ _ w z2 h7 hB rfl rfl hh
      | some h0 =>
        cases hp : pctL ((s2.data.toList.drop 7).dropWhile endB) with
        | none => exact nnormal_C2 s1 s2 _ _ w z2 h7 hB rfl rfl h0 hh hp
        | some p0 =>
          dsimp only
          by_cases hbad : (s2.data.toList.drop 7).dropWhile endB ≠ [] ∧ ((s2.data.toList.drop 7).dropWhile endB).head? ≠ some 47 ∧ ((s2.data.toList.drop 7).dropWhile endB).head? ≠ some 63
          · rw [if_pos hbad]
            exact nnormal_C3 s1 s2 _ _ w z2 h7 hB rfl rfl h0 p0 hh hp hbad
          · rw [if_neg hbad]
            exact nnormal_C4 s1 s2 _ _ w z2 h7 hB rfl rfl h0 p0 hh hp hbad
    · have hs : splN s1.data.toList s2.data.toList = (s1.data.toList, s2.data.toList) := by
        rw [splN, if_neg (fun h => hB h.2)]
      rw [hs]
      dsimp only
      cases hh : hostL (s1.data.toList) with
      | none => exact nnormal_B1 s1 s2 _ _ w z1 z2 h7 hB rfl rfl hh
      | some h0 =>
        cases hp : pctL (s2.data.toList) with
        | none => exact nnormal_B2 s1 s2 _ _ w z1 z2 h7 hB rfl rfl h0 hh hp
        | some p0 =>
          dsimp only
          by_cases hbad : s2.data.toList ≠ [] ∧ (s2.data.toList).head? ≠ some 47 ∧ (s2.data.toList).head? ≠ some 63
          · rw [if_pos hbad]
            exact nnormal_B3 s1 s2 _ _ w z1 z2 h7 hB rfl rfl h0 p0 hh hp hbad
          · rw [if_neg hbad]
            exact nnormal_B4 s1 s2 _ _ w z1 z2 h7 hB rfl rfl h0 p0 hh hp hbad
  · have hA : decide (7 ≤ (s2.size : Int)) = false := decide_eq_false (by omega)
    have hs : splN s1.data.toList s2.data.toList = (s1.data.toList, s2.data.toList) := by
      rw [splN, if_neg (fun h => h7 (by rw [Lib.size_eq]; exact h.1))]
    rw [hs]
    dsimp only
    cases hh : hostL (s1.data.toList) with
    | none => exact nnormal_A1 s1 s2 _ _ w z1 z2 hA rfl rfl hh
    | some h0 =>
      cases hp : pctL (s2.data.toList) with
      | none => exact nnormal_A2 s1 s2 _ _ w z1 z2 hA rfl rfl h0 hh hp
      | some p0 =>
        dsimp only
        by_cases hbad : s2.data.toList ≠ [] ∧ (s2.data.toList).head? ≠ some 47 ∧ (s2.data.toList).head? ≠ some 63
        · rw [if_pos hbad]
          exact nnormal_A3 s1 s2 _ _ w z1 z2 hA rfl rfl h0 p0 hh hp hbad
        · rw [if_neg hbad]
          exact nnormal_A4 s1 s2 _ _ w z1 z2 hA rfl rfl h0 p0 hh hp hbad

end Go.Proofs.YtbbdifcmhoobaaaGreatDoor
