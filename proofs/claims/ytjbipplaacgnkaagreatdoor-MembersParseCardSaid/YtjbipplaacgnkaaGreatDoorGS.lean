/- The law's own awake (scullerylaw04): it returns true. · Plain: what is read stays read where a comma and whatever follows; lists that are joined by a comma. -/
import Derived.Test.YtjbipplaacgnkaaGreatDoorGP
import Derived.Test.YtjbipplaacgnkaaGreatDoorGR
import Derived.Test.YtjbipplaacgnkaaGreatDoorGJ
import Derived.Test.YtjbipplaacgnkaaGreatDoorGE

namespace Go.Proofs.YtjbipplaacgnkaaGreatDoor
open Go.RowKit Go.Maps

theorem aw_dic : dicL d0 = some [e3, eB] := by
  rw [dicL, aw_dict]
  exact congrArg some aw_oe
theorem aw_get : getM [e3, eB] [98] = some mB := by kernel_rfl
theorem ok_3 : MemOk m3 := ⟨⟨by decide, fun p hp => (by cases hp), by decide, by decide, by decide⟩, by decide, fun x hx => (by cases hx), by decide, fun p hp => (by cases hp)⟩
theorem ok_B : MemOk mB := ⟨⟨by decide, fun p hp => (by cases hp), by decide, by decide, by decide⟩, by decide, fun x hx => (by cases hx), by decide, fun p hp => (by cases hp)⟩
theorem ok_1 : MemOk m1 := ⟨⟨by decide, fun p hp => (by cases hp), by decide, by decide, by decide⟩, by decide, fun x hx => (by cases hx), by decide, fun p hp => (by cases hp)⟩
theorem ok_pB : Small pB := ⟨by decide, by decide, by decide, by decide⟩
theorem ok_L : MemOk mL := ⟨⟨by decide, fun p hp => (by cases hp), by decide, by decide, by decide⟩, by decide, fun x hx => (by
    simp only [mL, List.mem_cons, List.not_mem_nil, or_false] at hx
    rcases hx with rfl | rfl
    · refine ⟨by decide, fun p hp => ?_, by decide, by decide, by decide⟩
      obtain rfl : p = pB := by simpa [iA] using hp
      exact ok_pB
    · exact ⟨by decide, fun p hp => (by cases hp), by decide, by decide, by decide⟩), by decide, fun p hp => (by cases hp)⟩
theorem sm_B : MemSm mB := ⟨by decide, by decide, fun x hx => (by cases hx), by decide⟩
theorem sm_3 : MemSm m3 := ⟨by decide, by decide, fun x hx => (by cases hx), by decide⟩
theorem tx_3 : memT m3 = some [51] := by kernel_rfl
theorem tx_B : memT mB = some [63, 49] := by kernel_rfl
theorem tx_1 : memT m1 = some [49] := by kernel_rfl
theorem tx_L : memT mL = some [40, 97, 59, 98, 32, 99, 41] := by kernel_rfl

set_option maxRecDepth 100000 in
set_option maxHeartbeats 4000000 in
theorem awake_any (w : World) (hA : Alph w) (hP : Pow w) :
    Calls Tryz.prog 7 #[] w fun e w' => e = .returned (.bool true) ∧ Below w.heap.size w w' := by
  have HA := Lib.hid hA
  have HP := Lib.hid hP
  clear hA hP
  have cD := dict_any ⟨#[97, 61, 40, 49, 32, 50, 41, 59, 120, 44, 32, 98, 32, 44, 97, 61, 51]⟩ w (by decide) HA.out
  rw [show dicL (⟨#[97, 61, 40, 49, 32, 50, 41, 59, 120, 44, 32, 98, 32, 44, 97, 61, 51]⟩ : ByteArray).data.toList = some [e3, eB] from aw_dic] at cD
  go_enter Tryz.func7, Tryz.ntmps7
  go_wp2_with fail
  refine cD.mono ?_
  rintro e w1 ⟨hb1, d, rfl, hd⟩
  have hd := hd.low (Nat.zero_le _)
  have HD := Lib.hid hd
  have cPD := printDict_any d [e3, eB] w1 hd (by decide) (by
    intro x hx
    simp only [List.mem_cons, List.not_mem_nil, or_false] at hx
    rcases hx with rfl | rfl
    · exact ⟨ok_3, by decide⟩
    · exact ⟨ok_B, by decide⟩) (by
    intro x hx t ht
    simp only [List.mem_cons, List.not_mem_nil, or_false] at hx
    rcases hx with rfl | rfl
    · obtain rfl := Option.some.inj (tx_3.symm.trans ht)
      decide
    · obtain rfl := Option.some.inj (tx_B.symm.trans ht)
      decide) (HA.out.below hb1) (HP.out.below hb1)
  rw [show dcT [e3, eB] = some [97, 61, 51, 44, 32, 98] from aw_dtext] at cPD
  obtain ⟨ad, cd, rfl, hdc⟩ := hd
  clear hdc cD
  go_wp2_with fail
  refine cPD.mono ?_
  rintro e w2 ⟨rfl, hb2⟩
  have HD2 := Lib.hid (HD.out.below hb2)
  have hb2 := hb1.trans (hb2.mono hb1.size)
  simp only [textV]
  rw [show strB [97, 61, 51, 44, 32, 98] = ⟨#[97, 61, 51, 44, 32, 98]⟩ from rfl]
  have cL := list_any ⟨#[32, 49, 32, 44, 32, 40, 97, 59, 98, 32, 32, 99, 41]⟩ w2 (by decide) (HA.out.below hb2)
  rw [show sepL memL (⟨#[32, 49, 32, 44, 32, 40, 97, 59, 98, 32, 32, 99, 41]⟩ : ByteArray).data.toList = some [m1, mL] from aw_list] at cL
  clear cPD hd
  go_wp2_with fail
  refine cL.mono ?_
  rintro e w3 ⟨hb3, l, rfl, hl⟩
  have HD3 := Lib.hid (HD2.out.below hb3)
  have hb3 := hb2.trans (hb3.mono hb2.size)
  have hl := hl.off.low (Nat.zero_le _)
  have cPL := printList_any l [m1, mL] w3 hl (by decide) (by
    intro x hx
    simp only [List.mem_cons, List.not_mem_nil, or_false] at hx
    rcases hx with rfl | rfl
    · exact ok_1
    · exact ok_L) (by
    intro x hx t ht
    simp only [List.mem_cons, List.not_mem_nil, or_false] at hx
    rcases hx with rfl | rfl
    · obtain rfl := Option.some.inj (tx_1.symm.trans ht)
      decide
    · obtain rfl := Option.some.inj (tx_L.symm.trans ht)
      decide) (HA.out.below hb3) (HP.out.below hb3)
  rw [show lsT [m1, mL] = some [49, 44, 32, 40, 97, 59, 98, 32, 99, 41] from aw_ltext] at cPL
  obtain ⟨al, cl, rfl, hlc⟩ := hl
  clear hlc cL
  go_wp2_with fail
  refine cPL.mono ?_
  rintro e w4 ⟨rfl, hb4⟩
  have HD4 := Lib.hid (HD3.out.below hb4)
  have hb4 := hb3.trans (hb4.mono hb3.size)
  simp only [textV]
  rw [show strB [49, 44, 32, 40, 97, 59, 98, 32, 99, 41] = ⟨#[49, 44, 32, 40, 97, 59, 98, 32, 99, 41]⟩ from rfl]
  have cG := get_any _ [e3, eB] [98] w4 HD4.out (by decide) (by
    intro x hx
    simp only [List.mem_cons, List.not_mem_nil, or_false] at hx
    rcases hx with rfl | rfl
    · exact sm_3
    · exact sm_B)
  rw [aw_get, show strB [98] = ⟨#[98]⟩ from rfl] at cG
  clear cPL
  go_wp2_with fail
  refine cG.mono ?_
  rintro e w5 ⟨hb5, v, rfl, hm⟩
  have hb5 := hb4.trans (hb5.mono hb4.size)
  have HM := Lib.hid hm
  obtain ⟨u, vi, vp, rfl, h1, h2, h3⟩ := hm
  obtain ⟨x1, y1, rfl⟩ := h1.form
  obtain ⟨x2, y2, rfl⟩ := h2.form
  obtain ⟨x3, y3, rfl⟩ := h3.form
  have hbA : Below w5.heap.size w5 (w5.alloc (memO mB.inner mB.it.k mB.it.n (strB mB.it.s) (.slice x1 mB.it.ps.length y1) (.slice x2 mB.its.length y2) (.slice x3 mB.ps.length y3))) := (Below.refl _ _).alloc (Nat.le_refl _) _
  have hb6 := hb5.trans (hbA.mono hb5.size)
  have cN := list_any ⟨#[49, 44]⟩ (w5.alloc (memO mB.inner mB.it.k mB.it.n (strB mB.it.s) (.slice x1 mB.it.ps.length y1) (.slice x2 mB.its.length y2) (.slice x3 mB.ps.length y3))) (by decide) (HA.out.below hb6)
  rw [show sepL memL (⟨#[49, 44]⟩ : ByteArray).data.toList = none from aw_none] at cN
  clear cG h1 h2 h3
  go_wp2_with fail
  refine cN.mono ?_
  rintro e w7 ⟨hb7, rfl⟩
  have hk7 : Below (w5.heap.size + 1) (w5.alloc (memO mB.inner mB.it.k mB.it.n (strB mB.it.s) (.slice x1 mB.it.ps.length y1) (.slice x2 mB.its.length y2) (.slice x3 mB.ps.length y3))) w7 := by simpa using hb7
  obtain ⟨q0, q1, q2, q3, q4, q5, q6⟩ := box7 hk7
  have hM7 := (HM.out.below (hbA.trans (hb7.mono hbA.size))).low (Nat.zero_le _)
  have cS := msame_any mB mB _ _ w7 hM7 hM7 sm_B sm_B
  rw [(sameM_iff mB mB).2 rfl] at cS
  have hb8 := hb6.trans (hb7.mono hb6.size)
  clear hb7 cN
  go_wp2_with fail
  refine cS.mono ?_
  rintro e w8 ⟨rfl, hb9⟩
  have z1 := (hb9.cell (p := ⟨w5.heap.size, 1, none⟩) (lt_of_cell q1)).trans q1
  have hk6 : (mB.it.k == 6) = true := rfl
  clear q0 q1 q2 q3 q4 q5 q6
  go_wp2_with fail
  go_ret
  exact ⟨rfl, hb8.trans (hb9.mono hb8.size)⟩

end Go.Proofs.YtjbipplaacgnkaaGreatDoor

namespace Go.Proofs.YtjbipplaacgnkaaGreatDoor

theorem tw_cm (p : UInt8 → Bool) (hp : p 44 = false) (t : List UInt8) : ∀ l : List UInt8, (l ++ 44 :: t).takeWhile p = l.takeWhile p
  | [] => by rw [List.nil_append, List.takeWhile_cons, hp] <;> rfl
  | c :: l => by
    rw [List.cons_append, List.takeWhile_cons, List.takeWhile_cons, tw_cm p hp t l]
theorem tlen_cm (t : List UInt8) : ∀ l : List UInt8, tlen (l ++ 44 :: t) = tlen l
  | [] => by
    show (if btI (((44 : UInt8).toNat : Nat) : Int) = true then 1 + (t.takeWhile (fun c => ttI c.toNat)).length else 0) = 0
    rw [if_neg (by decide)]
  | c :: l => by
    show (if btI (c.toNat : Int) = true then 1 + ((l ++ 44 :: t).takeWhile (fun c => ttI c.toNat)).length else 0) = _
    rw [tw_cm _ (by decide)]
    rfl
theorem klen_cm (t : List UInt8) : ∀ l : List UInt8, klen (l ++ 44 :: t) = klen l
  | [] => by
    show (if bkI (((44 : UInt8).toNat : Nat) : Int) = true then 1 + (t.takeWhile (fun c => ikI c.toNat)).length else 0) = 0
    rw [if_neg (by decide)]
  | c :: l => by
    show (if bkI (c.toNat : Int) = true then 1 + ((l ++ 44 :: t).takeWhile (fun c => ikI c.toNat)).length else 0) = _
    rw [tw_cm _ (by decide)]
    rfl
theorem drop_cm {l : List UInt8} {b : Nat} (h : b ≤ l.length) (t : List UInt8) : (l ++ 44 :: t).drop b = l.drop b ++ 44 :: t := List.drop_append_of_le_length h
theorem take_cm {l : List UInt8} {b : Nat} (h : b ≤ l.length) (t : List UInt8) : (l ++ 44 :: t).take b = l.take b := List.take_append_of_le_length h
theorem head_cm (c : UInt8) (hc : c ≠ 44) (t : List UInt8) : ∀ l : List UInt8, (l ++ 44 :: t).head? = some c ↔ l.head? = some c
  | [] => by simp [Ne.symm hc]
  | d :: l => by simp
theorem ldig_cm (t l : List UInt8) : ldig (l ++ 44 :: t) = ldig l := tw_cm _ (by decide) t l
theorem ldig_le (l : List UInt8) : (ldig l).length ≤ l.length := takeWhile_len_le _ _

theorem numTail_cm (b : Nat) (sg : Int) (l t : List UInt8) (hb : b ≤ l.length) : numTail b sg (l ++ 44 :: t) = numTail b sg l := by
  have h1 := ldig_le (l.drop b)
  rw [List.length_drop] at h1
  unfold numTail
  rw [drop_cm hb, ldig_cm, drop_cm (by omega)]
  by_cases h46 : (l.drop (b + (ldig (l.drop b)).length)).head? = some 46
  · have h2 : b + (ldig (l.drop b)).length + 1 ≤ l.length := by
      have : (l.drop (b + (ldig (l.drop b)).length)).length ≠ 0 := by
        intro h
        rw [List.eq_nil_of_length_eq_zero h] at h46
        cases h46
      rw [List.length_drop] at this
      omega
    rw [drop_cm h2, ldig_cm]
    simp only [h46, (head_cm 46 (by decide) t _).2 h46]
  · rw [if_neg h46, if_neg (fun h => h46 ((head_cm 46 (by decide) t _).1 h))]
theorem readNumL_cm (l t : List UInt8) (g : Got) (h : readNumL l = some g) : readNumL (l ++ 44 :: t) = some g := by
  unfold readNumL at h ⊢
  by_cases h45 : l.head? = some 45
  · have : 1 ≤ l.length := by
      cases l with
      | nil => cases h45
      | cons c l => simp
    rw [if_pos h45] at h
    rw [if_pos ((head_cm 45 (by decide) t l).2 h45), numTail_cm _ _ _ _ this]
    exact h
  · rw [if_neg h45] at h
    rw [if_neg (fun q => h45 ((head_cm 45 (by decide) t l).1 q)), numTail_cm _ _ _ _ (Nat.zero_le _)]
    exact h
theorem rsL_cm (z : List UInt8) : ∀ (n : Nat) (l acc : List UInt8) (m : Nat) (g : Got), l.length ≤ n → rsL l acc m = some g → rsL (l ++ z) acc m = some g
  | _, [], acc, m, g, _, h => by rw [rsL.eq_def] at h; cases h
  | 0, c :: r, _, _, _, hn, _ => by simp at hn
  | n + 1, c :: r, acc, m, g, hn, h => by
    by_cases h34 : c = 34
    · subst h34
      rw [rsL_quote] at h
      rw [List.cons_append, rsL_quote]
      exact h
    · by_cases h92 : c = 92
      · subst h92
        cases r with
        | nil => rw [rsL_esc_end] at h; cases h
        | cons d q =>
          rw [rsL_esc] at h
          rw [List.cons_append, List.cons_append, rsL_esc]
          split at h
          · rename_i he
            rw [if_pos he]
            exact rsL_cm z n q _ _ g (by simp at hn; omega) h
          · cases h
      · rw [rsL_other _ _ _ _ h34 h92] at h
        rw [List.cons_append, rsL_other _ _ _ _ h34 h92]
        split at h
        · rename_i he
          rw [if_pos he]
          exact rsL_cm z n r _ _ g (by simp at hn; omega) h
        · cases h
theorem readStrL_cm (l z : List UInt8) (g : Got) (hl : 1 ≤ l.length) (h : readStrL l = some g) : readStrL (l ++ z) = some g := by
  unfold readStrL at h ⊢
  rw [List.drop_append_of_le_length hl]
  exact rsL_cm z _ _ _ _ g (Nat.le_refl _) h
theorem indexByte_cm (c : UInt8) (z : List UInt8) : ∀ l : List UInt8, Lib.indexByte l c ≠ -1 → Lib.indexByte (l ++ z) c = Lib.indexByte l c ∧ 0 ≤ Lib.indexByte l c ∧ (Lib.indexByte l c).toNat < l.length
  | [], h => absurd rfl h
  | d :: l, h => by
    rw [Lib.indexByte] at h
    rw [List.cons_append, Lib.indexByte, Lib.indexByte]
    by_cases hd : (d == c) = true
    · rw [if_pos hd]
      rw [if_pos hd]
      exact ⟨rfl, Int.le_refl _, by simp⟩
    · rw [if_neg hd] at h ⊢
      rw [if_neg hd]
      by_cases hi : Lib.indexByte l c = -1
      · rw [hi] at h
        exact absurd rfl h
      · obtain ⟨e1, e2, e3⟩ := indexByte_cm c z l hi
        have hn : ¬ (Lib.indexByte l c == -1) = true := by simpa using hi
        rw [e1, if_neg hn]
        refine ⟨rfl, by omega, ?_⟩
        rw [List.length_cons]
        omega
theorem readBytesL_cm (l z : List UInt8) (g : Got) (hl : 1 ≤ l.length) (h : readBytesL l = some g) : readBytesL (l ++ z) = some g := by
  unfold readBytesL at h ⊢
  rw [List.drop_append_of_le_length hl]
  split at h
  · cases h
  · rename_i hi
    obtain ⟨e1, e2, e3⟩ := indexByte_cm 58 z _ hi
    rw [e1, if_neg hi, List.take_append_of_le_length (by omega)]
    exact h
theorem readBoolL_cm (l z : List UInt8) (g : Got) (h : readBoolL l = some g) : readBoolL (l ++ z) = some g := by
  match l, h with
  | _ :: c :: _, h => exact h
theorem readL_cm (l t : List UInt8) (g : Got) (h : readL l = some g) : readL (l ++ 44 :: t) = some g := by
  have hr := (readL_right l g h)
  cases l with
  | nil => cases h
  | cons c r =>
    have h1 : 1 ≤ (c :: r).length := by simp
    rw [readL] at h
    rw [List.cons_append, readL, ← List.cons_append]
    split at h
    · rename_i hc
      rw [if_pos hc]
      exact readNumL_cm _ _ _ h
    · rename_i hc
      rw [if_neg hc]
      split at h
      · rename_i hc
        rw [if_pos hc]
        exact readStrL_cm _ _ _ h1 h
      · rename_i hc
        rw [if_neg hc]
        split at h
        · rename_i hc
          rw [if_pos hc, tlen_cm, take_cm (tlen_le _)]
          exact h
        · rename_i hc
          rw [if_neg hc]
          split at h
          · rename_i hc
            rw [if_pos hc]
            exact readBytesL_cm _ _ _ h1 h
          · rename_i hc
            rw [if_neg hc]
            split at h
            · rename_i hc
              rw [if_pos hc]
              exact readBoolL_cm _ _ _ h
            · cases h

theorem spcL_cm (t l : List UInt8) : spcL (l ++ 44 :: t) = spcL l := by
  unfold spcL
  rw [tw_cm _ (by decide)]
theorem spcL_le (l : List UInt8) : spcL l ≤ l.length := takeWhile_len_le _ _
theorem parL_cm (l t : List UInt8) (p : Prm) (n : Nat) (h : parL l = some (p, n)) : parL (l ++ 44 :: t) = some (p, n) := by
  have h1 := spcL_le l
  have h2 := klen_le (l.drop (spcL l))
  rw [List.length_drop] at h2
  unfold parL at h ⊢
  rw [spcL_cm, drop_cm h1, klen_cm, drop_cm (by omega), take_cm (by rw [List.length_drop]; omega)]
  split at h
  · cases h
  · rename_i hk
    rw [if_neg hk]
    split at h
    · rename_i h61
      have h3 : spcL l + klen (l.drop (spcL l)) + 1 ≤ l.length := by
        have : (l.drop (spcL l + klen (l.drop (spcL l)))).length ≠ 0 := by
          intro q
          rw [List.eq_nil_of_length_eq_zero q] at h61
          cases h61
        rw [List.length_drop] at this
        omega
      rw [if_pos ((head_cm 61 (by decide) t _).2 h61), drop_cm h3]
      cases hr : readL (l.drop (spcL l + klen (l.drop (spcL l)) + 1)) with
      | none => rw [hr] at h; cases h
      | some g =>
        rw [hr] at h
        rw [readL_cm _ _ _ hr]
        exact h
    · rename_i h61
      rw [if_neg (fun q => h61 ((head_cm 61 (by decide) t _).1 q))]
      exact h
theorem psL_cm (t : List UInt8) : ∀ (n : Nat) (l : List UInt8) (acc : List Prm) (m : Nat) (r : List Prm × Nat), l.length ≤ n → psL l acc m = some r → psL (l ++ 44 :: t) acc m = some r
  | n, l, acc, m, r, hn, h => by
    by_cases h59 : l.head? = some 59
    · have hpos : 1 ≤ l.length := by
        cases l with
        | nil => cases h59
        | cons c l => simp
      cases hp : parL (l.drop 1) with
      | none => rw [psL_none l acc m h59 hp] at h; cases h
      | some x =>
        obtain ⟨p, k⟩ := x
        have hk := parL_le _ _ _ hp
        rw [List.length_drop] at hk
        rw [psL_some l acc m p k h59 hp] at h
        have hp2 : parL ((l ++ 44 :: t).drop 1) = some (p, k) := by
          rw [drop_cm hpos]
          exact parL_cm _ _ _ _ hp
        rw [psL_some _ acc m p k ((head_cm 59 (by decide) t l).2 h59) hp2, drop_cm (by omega)]
        match n, hn with
        | 0, hn => omega
        | n + 1, hn => exact psL_cm t n _ _ _ r (by rw [List.length_drop]; omega) h
    · rw [psL_end l acc m h59] at h
      rw [psL_end _ acc m (fun q => h59 ((head_cm 59 (by decide) t l).1 q))]
      exact h
theorem itmL_cm (l t : List UInt8) (g : Got) (ps : List Prm) (m : Nat) (h : itmL l = some (g, ps, m)) : itmL (l ++ 44 :: t) = some (g, ps, m) := by
  unfold itmL at h ⊢
  cases hr : readL l with
  | none => rw [hr] at h; cases h
  | some q =>
    rw [hr] at h
    have hq := (readL_right l q hr).2.2.1
    rw [readL_cm _ _ _ hr]
    dsimp only at h ⊢
    rw [drop_cm hq]
    cases hp : psL (l.drop q.m) [] 0 with
    | none => rw [hp] at h; cases h
    | some r =>
      rw [hp] at h
      rw [psL_cm t _ _ _ _ _ (Nat.le_refl _) hp]
      exact h

theorem spD_cm (t : List UInt8) : ∀ l : List UInt8, spD (l ++ 44 :: t) = spD l ++ 44 :: t
  | [] => rfl
  | c :: l => by
    unfold spD at *
    rw [List.cons_append, List.dropWhile_cons, List.dropWhile_cons]
    split
    · exact spD_cm t l
    · rfl
theorem blD_cm (t : List UInt8) : ∀ l : List UInt8, blD (l ++ 44 :: t) = blD l ++ 44 :: t
  | [] => rfl
  | c :: l => by
    unfold blD at *
    rw [List.cons_append, List.dropWhile_cons, List.dropWhile_cons]
    split
    · exact blD_cm t l
    · rfl
theorem endI_cm (l t : List UInt8) (h : endI l = true) : endI (l ++ 44 :: t) = true := by
  cases l with
  | nil => simp [endI] at h
  | cons c l => exact h
theorem itsF_cm (t : List UInt8) : ∀ (f : Nat) (l : List UInt8) (acc xs : List Itm) (r : List UInt8), itsF f l acc = some (xs, r) → itsF f (l ++ 44 :: t) acc = some (xs, r ++ 44 :: t)
  | 0, l, acc, xs, r, h => by cases h
  | f + 1, l, acc, xs, r, h => by
    by_cases h41 : l.head? = some 41
    · rw [itsF_end f l acc h41] at h
      obtain ⟨rfl, rfl⟩ := Prod.mk.inj (Option.some.inj h)
      rw [itsF_end _ _ _ ((head_cm 41 (by decide) t l).2 h41), drop_cm (by cases l with | nil => cases h41 | cons c l => simp)]
    · have h41' : (l ++ 44 :: t).head? ≠ some 41 := fun q => h41 ((head_cm 41 (by decide) t l).1 q)
      cases hi : itmL l with
      | none => rw [itsF_none f l acc h41 hi] at h; cases h
      | some x =>
        obtain ⟨g, ps, m⟩ := x
        have hm := itmL_le _ _ _ _ hi
        have hi' := itmL_cm l t g ps m hi
        cases he : endI (l.drop m) with
        | false => rw [itsF_bad f l acc g ps m h41 hi he] at h; cases h
        | true =>
          rw [itsF_some f l acc g ps m h41 hi he] at h
          rw [itsF_some f _ acc g ps m h41' hi' (by rw [drop_cm hm]; exact endI_cm _ _ he), drop_cm hm, spD_cm]
          exact itsF_cm t f _ _ _ _ h
theorem itsF_fuel : ∀ (f f' : Nat) (l : List UInt8) (acc : List Itm) (r : List Itm × List UInt8), f ≤ f' → itsF f l acc = some r → itsF f' l acc = some r
  | 0, _, l, acc, r, _, h => by cases h
  | f + 1, 0, l, acc, r, hf, h => by omega
  | f + 1, f' + 1, l, acc, r, hf, h => by
    by_cases h41 : l.head? = some 41
    · rw [itsF_end f l acc h41] at h
      rw [itsF_end f' l acc h41]
      exact h
    · cases hi : itmL l with
      | none => rw [itsF_none f l acc h41 hi] at h; cases h
      | some x =>
        obtain ⟨g, ps, m⟩ := x
        cases he : endI (l.drop m) with
        | false => rw [itsF_bad f l acc g ps m h41 hi he] at h; cases h
        | true =>
          rw [itsF_some f l acc g ps m h41 hi he] at h
          rw [itsF_some f' l acc g ps m h41 hi he]
          exact itsF_fuel f f' _ _ r (by omega) h
theorem itsL_cm (l t : List UInt8) (xs : List Itm) (r : List UInt8) (h : itsL l = some (xs, r)) : itsL (l ++ 44 :: t) = some (xs, r ++ 44 :: t) := by
  unfold itsL at h ⊢
  rw [spD_cm]
  exact itsF_fuel _ _ _ _ _ (by simp) (itsF_cm t _ _ _ _ _ h)
theorem innL_cm (l t : List UInt8) (M : Mem) (r : List UInt8) (h : innL l = some (M, r)) : innL (l ++ 44 :: t) = some (M, r ++ 44 :: t) := by
  unfold innL at h ⊢
  cases hi : itsL l with
  | none => rw [hi] at h; cases h
  | some x =>
    obtain ⟨xs, q⟩ := x
    rw [hi] at h
    rw [itsL_cm l t xs q hi]
    dsimp only at h ⊢
    cases hp : psL q [] 0 with
    | none => rw [hp] at h; cases h
    | some y =>
      obtain ⟨ps, m⟩ := y
      rw [hp] at h
      have hm := psL_le _ _ _ _ _ _ (Nat.le_refl _) hp
      rw [psL_cm t _ _ _ _ _ (Nat.le_refl _) hp]
      dsimp only at h ⊢
      obtain ⟨rfl, rfl⟩ := Prod.mk.inj (Option.some.inj h)
      rw [drop_cm (by omega)]
theorem memL_cm (l t : List UInt8) (M : Mem) (r : List UInt8) (h : memL l = some (M, r)) : memL (l ++ 44 :: t) = some (M, r ++ 44 :: t) := by
  unfold memL at h ⊢
  by_cases h40 : l.head? = some 40
  · rw [if_pos h40] at h
    rw [if_pos ((head_cm 40 (by decide) t l).2 h40), drop_cm (by cases l with | nil => cases h40 | cons c l => simp)]
    exact innL_cm _ _ _ _ h
  · rw [if_neg h40] at h
    rw [if_neg (fun q => h40 ((head_cm 40 (by decide) t l).1 q))]
    cases hi : itmL l with
    | none => rw [hi] at h; cases h
    | some x =>
      obtain ⟨g, ps, m⟩ := x
      rw [hi] at h
      rw [itmL_cm l t g ps m hi]
      dsimp only at h ⊢
      obtain ⟨rfl, rfl⟩ := Prod.mk.inj (Option.some.inj h)
      rw [drop_cm (itmL_le _ _ _ _ hi)]

variable {α : Type}
theorem sepF_fuel (read : List UInt8 → Option (α × List UInt8)) : ∀ (f f' : Nat) (l : List UInt8) (acc xs : List α), f ≤ f' → sepF read f l acc = some xs → sepF read f' l acc = some xs
  | 0, _, l, acc, r, _, h => by cases h
  | f + 1, 0, l, acc, r, hf, h => by omega
  | f + 1, f' + 1, l, acc, xs, hf, h => by
    cases hr : read l with
    | none => rw [sepF_none read f l acc hr] at h; cases h
    | some x =>
      obtain ⟨x, r⟩ := x
      by_cases hb : blD r = []
      · rw [sepF_end read f l r acc x hr hb] at h
        rw [sepF_end read f' l r acc x hr hb]
        exact h
      · by_cases hc : (blD r).head? = some 44
        · rw [sepF_more read f l r acc x hr hb hc] at h
          rw [sepF_more read f' l r acc x hr hb hc]
          exact sepF_fuel read f f' _ _ _ (by omega) h
        · rw [sepF_bad read f l r acc x hr hb hc] at h; cases h
theorem sepF_acc (read : List UInt8 → Option (α × List UInt8)) : ∀ (f : Nat) (l : List UInt8) (acc acc' xs : List α), sepF read f l acc = some xs → ∃ ys, xs = acc ++ ys ∧ sepF read f l acc' = some (acc' ++ ys)
  | 0, l, acc, _, r, h => by cases h
  | f + 1, l, acc, acc', xs, h => by
    cases hr : read l with
    | none => rw [sepF_none read f l acc hr] at h; cases h
    | some x =>
      obtain ⟨x, r⟩ := x
      by_cases hb : blD r = []
      · rw [sepF_end read f l r acc x hr hb] at h
        rw [sepF_end read f l r acc' x hr hb]
        exact ⟨[x], (Option.some.inj h).symm, rfl⟩
      · by_cases hc : (blD r).head? = some 44
        · rw [sepF_more read f l r acc x hr hb hc] at h
          rw [sepF_more read f l r acc' x hr hb hc]
          obtain ⟨ys, rfl, h2⟩ := sepF_acc read f _ _ (acc' ++ [x]) _ h
          exact ⟨x :: ys, by simp, by rw [h2]; simp⟩
        · rw [sepF_bad read f l r acc x hr hb hc] at h; cases h
/-- What is read of a text, and of another one behind a comma. -/
theorem sepF_join {read : List UInt8 → Option (α × List UInt8)} (hread : ∀ l t x r, read l = some (x, r) → read (l ++ 44 :: t) = some (x, r ++ 44 :: t)) (t : List UInt8) (g : Nat) (ys : List α) (ht : sepF read g (blD t) [] = some ys) :
    ∀ (f : Nat) (l : List UInt8) (acc xs : List α), sepF read f l acc = some xs → sepF read (f + g) (l ++ 44 :: t) acc = some (xs ++ ys)
  | 0, l, acc, xs, h => by cases h
  | f + 1, l, acc, xs, h => by
    rw [show f + 1 + g = (f + g) + 1 by omega]
    cases hr : read l with
    | none => rw [sepF_none read f l acc hr] at h; cases h
    | some x =>
      obtain ⟨x, r⟩ := x
      have hr2 := hread l t x r hr
      by_cases hb : blD r = []
      · rw [sepF_end read f l r acc x hr hb] at h
        obtain rfl := Option.some.inj h
        have hb2 : blD (r ++ 44 :: t) = 44 :: t := by rw [blD_cm, hb] <;> rfl
        rw [sepF_more read _ _ _ acc x hr2 (by rw [hb2]; simp) (by rw [hb2] <;> rfl), hb2]
        obtain ⟨zs, e, h2⟩ := sepF_acc read g _ [] (acc ++ [x]) _ ht
        rw [List.nil_append] at e
        subst e
        exact sepF_fuel read g _ _ _ _ (by omega) h2
      · by_cases hc : (blD r).head? = some 44
        · rw [sepF_more read f l r acc x hr hb hc] at h
          have hb2 := blD_cm t r
          have h1 : 1 ≤ (blD r).length := by
            cases hq : blD r with
            | nil => exact absurd hq hb
            | cons c q => simp
          rw [sepF_more read _ _ _ acc x hr2 (by rw [hb2]; simp) (by rw [hb2, List.head?_append, hc] <;> rfl), hb2, drop_cm h1, blD_cm]
          exact sepF_join hread t g ys ht f _ _ _ h
        · rw [sepF_bad read f l r acc x hr hb hc] at h; cases h
theorem blD_spD (t : List UInt8) (h : (spD t).head? ≠ some 9) : blD t = spD t := by
  induction t with
  | nil => rfl
  | cons c t ih =>
    unfold blD spD at *
    rw [List.dropWhile_cons] at h ⊢
    rw [List.dropWhile_cons]
    by_cases h32 : c = 32
    · subst h32
      simp only [BEq.rfl, if_true, Bool.true_or] at h ⊢
      exact ih h
    · have e : (c == 32) = false := by simpa using h32
      simp only [e, Bool.false_or] at h ⊢
      by_cases h9 : c = 9
      · subst h9
        exact absurd rfl h
      · have e2 : (c == 9) = false := by simpa using h9
        simp [e2]
theorem memL_tab (l : List UInt8) (h : l.head? = some 9) : memL l = none := by
  cases l with
  | nil => cases h
  | cons c l =>
    obtain rfl := Option.some.inj h
    rfl
/-- Two lists, neither of them empty, with a comma between. -/
theorem list_join (s t : List UInt8) (xs ys : List Mem) (hs : sepL memL s = some xs) (ht : sepL memL t = some ys) (hx : xs ≠ []) (hy : ys ≠ []) : sepL memL (s ++ 44 :: t) = some (xs ++ ys) := by
  unfold sepL at hs ht ⊢
  by_cases h1 : spD s = []
  · rw [if_pos h1] at hs
    exact absurd (Option.some.inj hs).symm hx
  · by_cases h2 : spD t = []
    · rw [if_pos h2] at ht
      exact absurd (Option.some.inj ht).symm hy
    · rw [if_neg h1] at hs
      rw [if_neg h2] at ht
      have h9 : (spD t).head? ≠ some 9 := by
        intro h
        rw [sepF_none memL _ _ _ (memL_tab _ h)] at ht
        cases ht
      rw [if_neg (by rw [spD_cm]; simp), spD_cm]
      have := sepF_join (read := memL) (fun l t x r h => memL_cm l t x r h) t _ ys (by rw [blD_spD t h9]; exact ht) _ _ _ _ hs
      exact sepF_fuel memL _ _ _ _ _ (by simp; omega) this

end Go.Proofs.YtjbipplaacgnkaaGreatDoor
