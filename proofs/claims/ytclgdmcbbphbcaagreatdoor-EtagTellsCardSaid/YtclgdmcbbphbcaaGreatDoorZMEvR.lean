/- The contract of package etag's read. · The contracts of package etag: Parse, Print. -/
import Derived.Test.YtclgdmcbbphbcaaGreatDoorZEvA
import Derived.Test.YtclgdmcbbphbcaaGreatDoorZMCutP
import Derived.Test.YtclgdmcbbphbcaaGreatDoorZMEuA
import Derived.Shelf.Small.Wraps

namespace Go.Proofs.YtclgdmcbbphbcaaGreatDoor
open Go.RowKit Go.Lib

theorem hp_weak (l : List UInt8) : Lib.hasPrefix l [87, 47] = wkE l := by
  unfold Lib.hasPrefix wkE
  match l with
  | [] => rfl
  | [a] => simp [List.isPrefixOf]
  | a :: b :: r =>
    rw [Bool.eq_iff_iff]
    simp only [List.isPrefixOf, Bool.and_true, Bool.and_eq_true, beq_iff_eq, decide_eq_true_eq, List.take_succ_cons, List.take_zero, List.cons.injEq, and_true]
    exact ⟨fun h => ⟨h.1.symm, h.2.symm⟩, fun h => ⟨h.1.symm, h.2.symm⟩⟩
theorem hp_quote (l : List UInt8) : Lib.hasPrefix l [34] = decide (l.head? = some 34) := by
  unfold Lib.hasPrefix
  cases l with
  | nil => rfl
  | cons a r =>
    rw [Bool.eq_iff_iff]
    simp only [List.isPrefixOf, Bool.and_true, beq_iff_eq, decide_eq_true_eq, List.head?_cons, Option.some.injEq]
    exact eq_comm
theorem cpW_any (s : ByteArray) (w : World) :
    Calls Tryz.prog 31 #[.string s, .string ⟨#[87, 47]⟩] w fun e w' => e = .returned (.tuple #[.string (strB (quE s.data.toList)), .bool (wkE s.data.toList)]) ∧ w = w' := by
  refine (Tryz.strings_CutPrefix s ⟨#[87, 47]⟩ w).mono ?_
  rintro e w' ⟨rfl, rfl⟩
  rw [show (⟨#[87, 47]⟩ : ByteArray).data.toList = [87, 47] from rfl, Lib.trimPrefix, hp_weak]
  refine ⟨?_, rfl⟩
  unfold wkE quE
  by_cases h : s.data.toList.take 2 = [87, 47]
  · rw [decide_eq_true h, if_pos rfl, if_pos h]
    rfl
  · rw [decide_eq_false h, if_neg (by decide), if_neg h]
    rfl
theorem cpQ_any (s : ByteArray) (w : World) :
    Calls Tryz.prog 31 #[.string s, .string ⟨#[34]⟩] w fun e w' => e = .returned (.tuple #[.string (strB (if s.data.toList.head? = some 34 then s.data.toList.drop 1 else s.data.toList)), .bool (decide (s.data.toList.head? = some 34))]) ∧ w = w' := by
  refine (Tryz.strings_CutPrefix s ⟨#[34]⟩ w).mono ?_
  rintro e w' ⟨rfl, rfl⟩
  rw [show (⟨#[34]⟩ : ByteArray).data.toList = [34] from rfl, Lib.trimPrefix, hp_quote]
  refine ⟨?_, rfl⟩
  by_cases h : s.data.toList.head? = some 34
  · rw [decide_eq_true h, if_pos rfl, if_pos h]
    rfl
  · rw [decide_eq_false h, if_neg (by decide), if_neg h]
    rfl
theorem cutV_form (l : List UInt8) : cutV l 34 = .tuple #[.string (strB (fsE l)), .string (strB (snE l)), .bool (enE l)] := by
  unfold cutV fsE snE enE
  by_cases h : Lib.indexByte l 34 = -1
  · rw [if_pos h, if_pos h, if_pos h, decide_eq_false (fun e => e h)]
    rfl
  · rw [if_neg h, if_neg h, if_neg h, decide_eq_true h]

set_option maxRecDepth 100000 in
set_option maxHeartbeats 4000000 in
theorem eread_any (s : ByteArray) (w : World) (hs : s.size ≤ 100000) :
    Calls Tryz.prog 18 #[.string s] w fun e w' => e = .returned (rdV (takE s.data.toList)) ∧ Below w.heap.size w w' := by
  obtain ⟨L, hL⟩ : ∃ L, s.data.toList = L := ⟨_, rfl⟩
  have hz : L.length ≤ 100000 := by rw [← hL, ← Lib.size_eq]; exact hs
  have c1 := fun W => cpW_any s W
  have c2 := fun W => cpQ_any (strB (quE L)) W
  have c3 := fun W => cut_any (strB (inE L)) 34 W (by rw [strB_size]; exact Nat.le_trans (inE_le L) hz)
  have c4 := fun W => isValid_any (wkE L) (fsE (inE L)) W (Nat.le_trans (Nat.le_trans (Nat.le_trans (fsE_le _) (inE_le L)) hz) (by decide))
  rw [hL] at c1 ⊢
  rw [strB_data] at c2 c3
  have e2 : (if (quE L).head? = some 34 then (quE L).drop 1 else quE L) = inE L := rfl
  have e3 : decide ((quE L).head? = some 34) = bgE L := rfl
  rw [e2, e3] at c2
  rw [cutV_form] at c3
  unfold cutPost at c3
  obtain ⟨R, hR⟩ : ∃ R, rdV (takE L) = R := ⟨_, rfl⟩
  have HR : Hid (R = if (bgE L && (enE (inE L) && (fsE (inE L)).all insE)) = true then .tuple #[.agg #[.bool (wkE L), .string (strB (fsE (inE L)))], .string (strB (snE (inE L))), .int .i64 0] else .tuple #[.agg #[.bool false, .string ⟨#[]⟩], .string ⟨#[]⟩, .int .i64 2]) := Lib.hid (by
    rw [← hR, takE_read]
    split <;> rfl)
  rw [hR]
  clear hR e2 e3 hL hz
  generalize strB (quE L) = Q at *
  generalize strB (inE L) = I at *
  generalize strB (fsE (inE L)) = F at *
  generalize strB (snE (inE L)) = B at *
  generalize (fsE (inE L)).all insE = V at *
  generalize enE (inE L) = E at *
  generalize bgE L = G at *
  generalize wkE L = K at *
  have HB0 := Lib.hid ((Below.refl w.heap.size w).alloc (Nat.le_refl _) (.cells #[.bool false, .string ⟨#[]⟩] 23))
  have HX0 := Lib.hid (BoxN.made w [.bool false, .string ⟨#[]⟩] 23)
  cases G
  · have HV : Hid (R = .tuple #[.agg #[.bool false, .string ⟨#[]⟩], .string ⟨#[]⟩, .int .i64 2]) := Lib.hid (by rw [HR.out] <;> rfl)
    clear HR
    go_enter Tryz.func18, Tryz.ntmps18
    go_wp2_with fail
    refine (c1 _).mono ?_
    rintro e w2 ⟨rfl, rfl⟩
    go_wp2_with fail
    refine (c2 _).mono ?_
    rintro e w2 ⟨rfl, rfl⟩
    go_wp2_with fail
    refine (c3 _).mono ?_
    rintro e w2 ⟨rfl, hb⟩
    have HX := Lib.hid (HX0.out.next hb)
    have HB := Lib.hid (HB0.out.trans (hb.mono HB0.out.size))
    have hlt := HX.out.1
    have x0 := (HX.out.2 0 _ rfl).1
    have g0 := (HX.out.2 0 _ rfl).2
    have x1 := (HX.out.2 1 _ rfl).1
    have g1 := (HX.out.2 1 _ rfl).2
    have HP := Lib.hid ((HX.out.set 0 (.bool false) (by simp)).set 1 (.string ⟨#[]⟩) (by simp))
    have HQ := Lib.hid ((HB.out.setCell (p := ⟨w.heap.size, 0, none⟩) (Nat.le_refl _) (.bool false)).setCell (p := ⟨w.heap.size, 1, none⟩) (Nat.le_refl _) (.string ⟨#[]⟩))
    clear hb c1 c2 c3 c4 HX0 HB0
    go_wp2_with fail
    clear x0 g0 x1 g1 hlt
    generalize (w2.setCell ⟨w.heap.size, 0, none⟩ (.bool false)).setCell ⟨w.heap.size, 1, none⟩ (.string ⟨#[]⟩) = U at *
    have hal := (Below.refl U.heap.size U).alloc (Nat.le_refl _) (.cells #[.bool K, .string F] 23)
    have HP9 := Lib.hid (HP.out.next hal)
    have HQ9 := Lib.hid (HQ.out.trans (hal.mono HQ.out.size))
    have p0 := (HP9.out.2 0 _ rfl).1
    have p1 := (HP9.out.2 1 _ rfl).1
    refine bodyPost_ret (v := .tuple #[.agg #[.bool false, .string ⟨#[]⟩], .string ⟨#[]⟩, .int .i64 2]) (by simp [results, Tryz.results18, go_sem, p0, p1]) rfl ⟨by rw [HV.out], HQ9.out⟩
  · cases E
    · have HV : Hid (R = .tuple #[.agg #[.bool false, .string ⟨#[]⟩], .string ⟨#[]⟩, .int .i64 2]) := Lib.hid (by rw [HR.out] <;> rfl)
      clear HR
      go_enter Tryz.func18, Tryz.ntmps18
      go_wp2_with fail
      refine (c1 _).mono ?_
      rintro e w2 ⟨rfl, rfl⟩
      go_wp2_with fail
      refine (c2 _).mono ?_
      rintro e w2 ⟨rfl, rfl⟩
      go_wp2_with fail
      refine (c3 _).mono ?_
      rintro e w2 ⟨rfl, hb⟩
      have HX := Lib.hid (HX0.out.next hb)
      have HB := Lib.hid (HB0.out.trans (hb.mono HB0.out.size))
      have hlt := HX.out.1
      have x0 := (HX.out.2 0 _ rfl).1
      have g0 := (HX.out.2 0 _ rfl).2
      have x1 := (HX.out.2 1 _ rfl).1
      have g1 := (HX.out.2 1 _ rfl).2
      have HP := Lib.hid ((HX.out.set 0 (.bool false) (by simp)).set 1 (.string ⟨#[]⟩) (by simp))
      have HQ := Lib.hid ((HB.out.setCell (p := ⟨w.heap.size, 0, none⟩) (Nat.le_refl _) (.bool false)).setCell (p := ⟨w.heap.size, 1, none⟩) (Nat.le_refl _) (.string ⟨#[]⟩))
      clear hb c1 c2 c3 c4 HX0 HB0
      go_wp2_with fail
      clear x0 g0 x1 g1 hlt
      generalize (w2.setCell ⟨w.heap.size, 0, none⟩ (.bool false)).setCell ⟨w.heap.size, 1, none⟩ (.string ⟨#[]⟩) = U at *
      have hal := (Below.refl U.heap.size U).alloc (Nat.le_refl _) (.cells #[.bool K, .string F] 23)
      have HP9 := Lib.hid (HP.out.next hal)
      have HQ9 := Lib.hid (HQ.out.trans (hal.mono HQ.out.size))
      have p0 := (HP9.out.2 0 _ rfl).1
      have p1 := (HP9.out.2 1 _ rfl).1
      refine bodyPost_ret (v := .tuple #[.agg #[.bool false, .string ⟨#[]⟩], .string ⟨#[]⟩, .int .i64 2]) (by simp [results, Tryz.results18, go_sem, p0, p1]) rfl ⟨by rw [HV.out], HQ9.out⟩
    · cases V
      · have HV : Hid (R = .tuple #[.agg #[.bool false, .string ⟨#[]⟩], .string ⟨#[]⟩, .int .i64 2]) := Lib.hid (by rw [HR.out] <;> rfl)
        clear HR
        go_enter Tryz.func18, Tryz.ntmps18
        go_wp2_with fail
        refine (c1 _).mono ?_
        rintro e w2 ⟨rfl, rfl⟩
        go_wp2_with fail
        refine (c2 _).mono ?_
        rintro e w2 ⟨rfl, rfl⟩
        go_wp2_with fail
        refine (c3 _).mono ?_
        rintro e w2 ⟨rfl, hb⟩
        have HX := Lib.hid (HX0.out.next hb)
        have HB := Lib.hid (HB0.out.trans (hb.mono HB0.out.size))
        have hal := (Below.refl w2.heap.size w2).alloc (Nat.le_refl _) (.cells #[.bool K, .string F] 23)
        have HT := Lib.hid (BoxN.made w2 [.bool K, .string F] 23)
        have HX := Lib.hid (HX.out.next hal)
        have HB := Lib.hid (HB.out.trans (hal.mono HB.out.size))
        clear hb hal c1 c2 c3 HX0 HB0
        go_wp2_with fail
        refine (c4 _).mono ?_
        rintro e w3 ⟨rfl, hb⟩
        have HX := Lib.hid (HX.out.next hb)
        have HB := Lib.hid (HB.out.trans (hb.mono HB.out.size))
        have HT := Lib.hid (HT.out.next hb)
        have t0 := (HT.out.2 0 _ rfl).1
        have t1 := (HT.out.2 1 _ rfl).1
        have hlt := HX.out.1
        have x0 := (HX.out.2 0 _ rfl).1
        have g0 := (HX.out.2 0 _ rfl).2
        have x1 := (HX.out.2 1 _ rfl).1
        have g1 := (HX.out.2 1 _ rfl).2
        have HP := Lib.hid ((HX.out.set 0 (.bool false) (by simp)).set 1 (.string ⟨#[]⟩) (by simp))
        have HQ := Lib.hid ((HB.out.setCell (p := ⟨w.heap.size, 0, none⟩) (Nat.le_refl _) (.bool false)).setCell (p := ⟨w.heap.size, 1, none⟩) (Nat.le_refl _) (.string ⟨#[]⟩))
        clear hb c4
        go_wp2_with fail
        clear x0 g0 x1 g1 hlt t0 t1
        generalize (w3.setCell ⟨w.heap.size, 0, none⟩ (.bool false)).setCell ⟨w.heap.size, 1, none⟩ (.string ⟨#[]⟩) = U at *
        have p0 := (HP.out.2 0 _ rfl).1
        have p1 := (HP.out.2 1 _ rfl).1
        refine bodyPost_ret (v := .tuple #[.agg #[.bool false, .string ⟨#[]⟩], .string ⟨#[]⟩, .int .i64 2]) (by simp [results, Tryz.results18, go_sem, p0, p1]) rfl ⟨by rw [HV.out], HQ.out⟩
      · have HV : Hid (R = .tuple #[.agg #[.bool K, .string F], .string B, .int .i64 0]) := Lib.hid (by rw [HR.out] <;> rfl)
        clear HR
        go_enter Tryz.func18, Tryz.ntmps18
        go_wp2_with fail
        refine (c1 _).mono ?_
        rintro e w2 ⟨rfl, rfl⟩
        go_wp2_with fail
        refine (c2 _).mono ?_
        rintro e w2 ⟨rfl, rfl⟩
        go_wp2_with fail
        refine (c3 _).mono ?_
        rintro e w2 ⟨rfl, hb⟩
        have HX := Lib.hid (HX0.out.next hb)
        have HB := Lib.hid (HB0.out.trans (hb.mono HB0.out.size))
        have hal := (Below.refl w2.heap.size w2).alloc (Nat.le_refl _) (.cells #[.bool K, .string F] 23)
        have HT := Lib.hid (BoxN.made w2 [.bool K, .string F] 23)
        have HX := Lib.hid (HX.out.next hal)
        have HB := Lib.hid (HB.out.trans (hal.mono HB.out.size))
        clear hb hal c1 c2 c3 HX0 HB0
        go_wp2_with fail
        refine (c4 _).mono ?_
        rintro e w3 ⟨rfl, hb⟩
        have HX := Lib.hid (HX.out.next hb)
        have HB := Lib.hid (HB.out.trans (hb.mono HB.out.size))
        have HT := Lib.hid (HT.out.next hb)
        have t0 := (HT.out.2 0 _ rfl).1
        have t1 := (HT.out.2 1 _ rfl).1
        have hlt := HX.out.1
        have x0 := (HX.out.2 0 _ rfl).1
        have g0 := (HX.out.2 0 _ rfl).2
        have x1 := (HX.out.2 1 _ rfl).1
        have g1 := (HX.out.2 1 _ rfl).2
        have HP := Lib.hid ((HX.out.set 0 (.bool K) (by simp)).set 1 (.string F) (by simp))
        have HQ := Lib.hid ((HB.out.setCell (p := ⟨w.heap.size, 0, none⟩) (Nat.le_refl _) (.bool K)).setCell (p := ⟨w.heap.size, 1, none⟩) (Nat.le_refl _) (.string F))
        clear hb c4
        go_wp2_with fail
        clear x0 g0 x1 g1 hlt t0 t1
        generalize (w3.setCell ⟨w.heap.size, 0, none⟩ (.bool K)).setCell ⟨w.heap.size, 1, none⟩ (.string F) = U at *
        have p0 := (HP.out.2 0 _ rfl).1
        have p1 := (HP.out.2 1 _ rfl).1
        refine bodyPost_ret (v := .tuple #[.agg #[.bool K, .string F], .string B, .int .i64 0]) (by simp [results, Tryz.results18, go_sem, p0, p1]) rfl ⟨by rw [HV.out], HQ.out⟩

end Go.Proofs.YtclgdmcbbphbcaaGreatDoor

namespace Go.Proofs.YtclgdmcbbphbcaaGreatDoor
open Go.RowKit Go.Lib

set_option maxRecDepth 100000 in
set_option maxHeartbeats 4000000 in
theorem eparse_any (s : ByteArray) (w : World) (hs : s.size ≤ 100000) :
    Calls Tryz.prog 6 #[.string s] w fun e w' => e = .returned (prV (prsE s.data.toList)) ∧ Below w.heap.size w w' := by
  have hb0 : Below w.heap.size w (w.alloc (.cells #[.bool false, .string ⟨#[]⟩] 23)) := (Below.refl _ _).alloc (Nat.le_refl _) _
  have HB0 := Lib.hid hb0
  have HX0 := Lib.hid (BoxN.made w [.bool false, .string ⟨#[]⟩] 23)
  have cT := fun W => eread_any s W hs
  obtain ⟨L, hL⟩ : ∃ L, s.data.toList = L := ⟨_, rfl⟩
  rw [hL] at cT ⊢
  obtain ⟨R, hR⟩ : ∃ R, prV (prsE L) = R := ⟨_, rfl⟩
  have HR := Lib.hid hR
  rw [hR]
  clear hR hb0 hL
  cases ht : takE L with
  | none =>
    have HV : Hid (R = .tuple #[.agg #[.bool false, .string ⟨#[]⟩], .int .i64 2]) := Lib.hid (by rw [← HR.out, prsE, ht] <;> rfl)
    rw [ht] at cT
    simp only [rdV, tgV] at cT
    rw [show strB [] = (⟨#[]⟩ : ByteArray) from rfl] at cT
    clear ht HR
    go_enter Tryz.func6, Tryz.ntmps6
    go_wp2_with fail
    refine (cT _).mono ?_
    rintro e w2 ⟨rfl, hb⟩
    have HX := Lib.hid (HX0.out.next hb)
    have HB := Lib.hid (HB0.out.trans (hb.mono HB0.out.size))
    have hlt := HX.out.1
    have x0 := (HX.out.2 0 _ rfl).1
    have g0 := (HX.out.2 0 _ rfl).2
    have x1 := (HX.out.2 1 _ rfl).1
    have g1 := (HX.out.2 1 _ rfl).2
    have HP := Lib.hid ((HX.out.set 0 (.bool false) (by simp)).set 1 (.string ⟨#[]⟩) (by simp))
    have HQ := Lib.hid ((HB.out.setCell (p := ⟨w.heap.size, 0, none⟩) (Nat.le_refl _) (.bool false)).setCell (p := ⟨w.heap.size, 1, none⟩) (Nat.le_refl _) (.string ⟨#[]⟩))
    clear hb cT HX0 HB0
    go_wp2_with fail
    clear x0 g0 x1 g1 hlt
    generalize (w2.setCell ⟨w.heap.size, 0, none⟩ (.bool false)).setCell ⟨w.heap.size, 1, none⟩ (.string ⟨#[]⟩) = U at *
    have hal := (Below.refl U.heap.size U).alloc (Nat.le_refl _) (.cells #[.bool false, .string ⟨#[]⟩] 23)
    have HP9 := Lib.hid (HP.out.next hal)
    have HQ9 := Lib.hid (HQ.out.trans (hal.mono HQ.out.size))
    have p0 := (HP9.out.2 0 _ rfl).1
    have p1 := (HP9.out.2 1 _ rfl).1
    refine bodyPost_ret (v := .tuple #[.agg #[.bool false, .string ⟨#[]⟩], .int .i64 2]) (by simp [results, Tryz.results6, go_sem, p0, p1]) rfl ⟨by rw [HV.out], HQ9.out⟩
  | some p =>
    obtain ⟨⟨wk, tx⟩, r⟩ := p
    rw [ht] at cT
    simp only [rdV, tgV] at cT
    obtain ⟨X, hX⟩ : ∃ X, strB tx = X := ⟨_, rfl⟩
    rw [hX] at cT
    cases hr : r with
    | nil =>
      have HV : Hid (R = .tuple #[.agg #[.bool wk, .string X], .int .i64 0]) := Lib.hid (by rw [← HR.out, prsE, ht, ← hX]; dsimp only; rw [if_pos hr] <;> rfl)
      rw [hr, show strB [] = (⟨#[]⟩ : ByteArray) from rfl] at cT
      clear ht HR hr hX
      go_enter Tryz.func6, Tryz.ntmps6
      go_wp2_with fail
      refine (cT _).mono ?_
      rintro e w2 ⟨rfl, hb⟩
      have HX := Lib.hid (HX0.out.next hb)
      have HB := Lib.hid (HB0.out.trans (hb.mono HB0.out.size))
      have hlt := HX.out.1
      have x0 := (HX.out.2 0 _ rfl).1
      have g0 := (HX.out.2 0 _ rfl).2
      have x1 := (HX.out.2 1 _ rfl).1
      have g1 := (HX.out.2 1 _ rfl).2
      have HP := Lib.hid ((HX.out.set 0 (.bool wk) (by simp)).set 1 (.string X) (by simp))
      have HQ := Lib.hid ((HB.out.setCell (p := ⟨w.heap.size, 0, none⟩) (Nat.le_refl _) (.bool wk)).setCell (p := ⟨w.heap.size, 1, none⟩) (Nat.le_refl _) (.string X))
      clear hb cT HX0 HB0
      go_wp2_with fail
      clear x0 g0 x1 g1 hlt
      generalize (w2.setCell ⟨w.heap.size, 0, none⟩ (.bool wk)).setCell ⟨w.heap.size, 1, none⟩ (.string X) = U at *
      have hal := (Below.refl U.heap.size U).alloc (Nat.le_refl _) (.cells #[.bool wk, .string X] 23)
      have HP9 := Lib.hid (HP.out.next hal)
      have HQ9 := Lib.hid (HQ.out.trans (hal.mono HQ.out.size))
      have p0 := (HP9.out.2 0 _ rfl).1
      have p1 := (HP9.out.2 1 _ rfl).1
      refine bodyPost_ret (v := .tuple #[.agg #[.bool wk, .string X], .int .i64 0]) (by simp [results, Tryz.results6, go_sem, p0, p1]) rfl ⟨by rw [HV.out], HQ9.out⟩
    | cons c r2 =>
      have HV : Hid (R = .tuple #[.agg #[.bool false, .string ⟨#[]⟩], .int .i64 2]) := Lib.hid (by rw [← HR.out, prsE, ht]; dsimp only; rw [if_neg (by rw [hr]; simp)] <;> rfl)
      rw [hr] at cT
      clear ht HR hr hX
      have hne : (strB (c :: r2)).toList.isEmpty = false := by rw [Lib.toList_data, strB_data] <;> rfl
      generalize strB (c :: r2) = Y at *
      go_enter Tryz.func6, Tryz.ntmps6
      go_wp2_with fail
      refine (cT _).mono ?_
      rintro e w2 ⟨rfl, hb⟩
      have HX := Lib.hid (HX0.out.next hb)
      have HB := Lib.hid (HB0.out.trans (hb.mono HB0.out.size))
      have hlt := HX.out.1
      have x0 := (HX.out.2 0 _ rfl).1
      have g0 := (HX.out.2 0 _ rfl).2
      have x1 := (HX.out.2 1 _ rfl).1
      have g1 := (HX.out.2 1 _ rfl).2
      have HP := Lib.hid ((HX.out.set 0 (.bool false) (by simp)).set 1 (.string ⟨#[]⟩) (by simp))
      have HQ := Lib.hid ((HB.out.setCell (p := ⟨w.heap.size, 0, none⟩) (Nat.le_refl _) (.bool false)).setCell (p := ⟨w.heap.size, 1, none⟩) (Nat.le_refl _) (.string ⟨#[]⟩))
      clear hb cT HX0 HB0
      go_wp2_with fail
      clear x0 g0 x1 g1 hlt
      generalize (w2.setCell ⟨w.heap.size, 0, none⟩ (.bool false)).setCell ⟨w.heap.size, 1, none⟩ (.string ⟨#[]⟩) = U at *
      have hal := (Below.refl U.heap.size U).alloc (Nat.le_refl _) (.cells #[.bool wk, .string X] 23)
      have HP9 := Lib.hid (HP.out.next hal)
      have HQ9 := Lib.hid (HQ.out.trans (hal.mono HQ.out.size))
      have p0 := (HP9.out.2 0 _ rfl).1
      have p1 := (HP9.out.2 1 _ rfl).1
      refine bodyPost_ret (v := .tuple #[.agg #[.bool false, .string ⟨#[]⟩], .int .i64 2]) (by simp [results, Tryz.results6, go_sem, p0, p1]) rfl ⟨by rw [HV.out], HQ9.out⟩

set_option maxRecDepth 100000 in
set_option maxHeartbeats 4000000 in
theorem eprint_any (wk : Bool) (t : List UInt8) (w : World) (ht : t.length ≤ 140737488355328) :
    Calls Tryz.prog 12 #[.agg #[.bool wk, .string (strB t)]] w fun e w' => e = .returned (txV (wk, t)) ∧ Below w.heap.size w w' := by
  have cI := fun W => isValid_any wk t W ht
  have HB := Lib.hid ((Below.refl w.heap.size w).alloc (Nat.le_refl _) (.cells #[.bool wk, .string (strB t)] 23))
  obtain ⟨R, hR⟩ : ∃ R, txV (wk, t) = R := ⟨_, rfl⟩
  have HR := Lib.hid hR
  rw [hR]
  clear hR
  have hsz : (strB t).size = t.length := strB_size t
  have hs : (strB t).size ≤ 140737488355328 := by rw [hsz]; exact ht
  have HE : Hid (strB (txtE (wk, t)) = if wk = true then ⟨#[87, 47]⟩ ++ (⟨#[34]⟩ ++ strB t ++ ⟨#[34]⟩) else ⟨#[34]⟩ ++ strB t ++ ⟨#[34]⟩) := Lib.hid (by
    rw [show (⟨#[87, 47]⟩ : ByteArray) = strB [87, 47] from rfl, show (⟨#[34]⟩ : ByteArray) = strB [34] from rfl, strB_append, strB_append, strB_append]
    cases wk <;> simp [txtE])
  have hv : txV (wk, t) = if t.all insE = true then .tuple #[.string (strB (txtE (wk, t))), .int .i64 0] else .tuple #[.string ⟨#[]⟩, .int .i64 2] := rfl
  have HV0 := Lib.hid hv
  clear hsz hv
  cases hval : t.all insE
  all_goals
    rw [hval] at cI HV0
    clear hval
    generalize strB t = S at *
    have z1 : ¬ 9223372036854775807 < 1 + S.size := by omega
    have z2 : ¬ 9223372036854775807 < 1 + S.size + 1 := by omega
    have z3 : ¬ 9223372036854775807 < 2 + (1 + S.size + 1) := by omega
  · have HV : Hid (R = .tuple #[.string ⟨#[]⟩, .int .i64 2]) := Lib.hid (by rw [← HR.out, HV0.out] <;> rfl)
    go_enter Tryz.func12, Tryz.ntmps12
    go_wp2_with fail
    refine (cI _).mono ?_
    rintro e w2 ⟨rfl, hb⟩
    have HB2 := Lib.hid (HB.out.trans (hb.mono HB.out.size))
    clear hb
    go_wp2_with fail
    go_ret2
    exact ⟨by rw [HV.out] <;> rfl, HB2.out⟩
  · have HX0 := Lib.hid (BoxN.made w [.bool wk, .string S] 23)
    have HV : Hid (R = .tuple #[.string (if wk = true then ⟨#[87, 47]⟩ ++ (⟨#[34]⟩ ++ S ++ ⟨#[34]⟩) else ⟨#[34]⟩ ++ S ++ ⟨#[34]⟩), .int .i64 0]) := Lib.hid (by rw [← HR.out, HV0.out, HE.out] <;> rfl)
    cases wk
    all_goals
      go_enter Tryz.func12, Tryz.ntmps12
      go_wp2_with fail
      refine (cI _).mono ?_
      rintro e w2 ⟨rfl, hb⟩
      have HB2 := Lib.hid (HB.out.trans (hb.mono HB.out.size))
      have x0 := ((HX0.out.next hb).2 0 _ rfl).1
      have x1 := ((HX0.out.next hb).2 1 _ rfl).1
      clear hb
      go_wp2_with fail
      go_ret2
      exact ⟨by rw [HV.out] <;> rfl, HB2.out⟩

end Go.Proofs.YtclgdmcbbphbcaaGreatDoor
