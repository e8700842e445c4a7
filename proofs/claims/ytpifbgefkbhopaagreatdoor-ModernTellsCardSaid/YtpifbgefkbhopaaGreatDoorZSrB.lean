/- The document's own Parse (sculleryref11). -/
import Derived.Test.YtpifbgefkbhopaaGreatDoorZSrA
import Derived.Test.YtpifbgefkbhopaaGreatDoorZMMoP
import Derived.Test.YtpifbgefkbhopaaGreatDoorZMRoD
import Derived.Test.YtpifbgefkbhopaaGreatDoorZMRhI

namespace Go.Proofs.YtpifbgefkbhopaaGreatDoor
open Go.RowKit Go.Lib

set_option maxRecDepth 100000 in
set_option maxHeartbeats 4000000 in
theorem r11parse_no (s : ByteArray) (w : World) (hs : s.size ≤ 90000) (h : modL s.data.toList = none) :
    Calls Tryz.prog 9 #[.string s] w fun e w' => e = .returned (modA_ModA (modL s.data.toList)) ∧ Below w.heap.size w w' := by
  have cD := fun W => rdict_any s W (by omega)
  have cN := rnone_any
  rw [h]
  have HV : Hid (modA_ModA none = .tuple #[.agg #[.bool false, .bool false, .bool false, .bool false, .bool false, .bool false, .bool false, .bool false, .int .i64 (-1), .int .i64 (-1), .int .i64 (-1), .int .i64 (-1), .int .i64 (-1)], .bool false]) := Lib.hid rfl
  generalize modA_ModA none = R at *
  have HB0 := Lib.hid ((Below.refl w.heap.size w).alloc (Nat.le_refl _) (.cells #[.bool false, .bool false, .bool false, .bool false, .bool false, .bool false, .bool false, .bool false, .int .i64 0, .int .i64 0, .int .i64 0, .int .i64 0, .int .i64 0] 29))
  have HX := Lib.hid (BoxN.made w [.bool false, .bool false, .bool false, .bool false, .bool false, .bool false, .bool false, .bool false, .int .i64 0, .int .i64 0, .int .i64 0, .int .i64 0, .int .i64 0] 29)
  rw [rulV_noneR] at cN
  cases hd : dicL s.data.toList with
  | none =>
    rw [hd] at cD
    clear h hd
    go_enter Tryz.func9, Tryz.ntmps9
    go_wp2_with fail
    refine (cD _).mono ?_
    rintro e w1 ⟨hb, rfl⟩
    have HX := Lib.hid (HX.out.next hb)
    have HB := Lib.hid (HB0.out.trans (hb.mono HB0.out.size))
    clear hb cD HB0
    go_wp2_with fail
    refine (cN _).mono ?_
    rintro e w2 ⟨rfl, hb⟩
    have HX := Lib.hid (HX.out.next hb)
    have HB := Lib.hid (HB.out.trans (hb.mono HB.out.size))
    clear hb cN
    have x0 := (HX.out.2 0 _ rfl).1
    have g0 := (HX.out.2 0 _ rfl).2
    have x1 := (HX.out.2 1 _ rfl).1
    have g1 := (HX.out.2 1 _ rfl).2
    have x2 := (HX.out.2 2 _ rfl).1
    have g2 := (HX.out.2 2 _ rfl).2
    have x3 := (HX.out.2 3 _ rfl).1
    have g3 := (HX.out.2 3 _ rfl).2
    have x4 := (HX.out.2 4 _ rfl).1
    have g4 := (HX.out.2 4 _ rfl).2
    have x5 := (HX.out.2 5 _ rfl).1
    have g5 := (HX.out.2 5 _ rfl).2
    have x6 := (HX.out.2 6 _ rfl).1
    have g6 := (HX.out.2 6 _ rfl).2
    have x7 := (HX.out.2 7 _ rfl).1
    have g7 := (HX.out.2 7 _ rfl).2
    have x8 := (HX.out.2 8 _ rfl).1
    have g8 := (HX.out.2 8 _ rfl).2
    have x9 := (HX.out.2 9 _ rfl).1
    have g9 := (HX.out.2 9 _ rfl).2
    have x10 := (HX.out.2 10 _ rfl).1
    have g10 := (HX.out.2 10 _ rfl).2
    have x11 := (HX.out.2 11 _ rfl).1
    have g11 := (HX.out.2 11 _ rfl).2
    have x12 := (HX.out.2 12 _ rfl).1
    have g12 := (HX.out.2 12 _ rfl).2
    go_wp2_with fail
    clear x0 g0 x1 g1 x2 g2 x3 g3 x4 g4 x5 g5 x6 g6 x7 g7 x8 g8 x9 g9 x10 g10 x11 g11 x12 g12
    have HP := Lib.hid (((((((((((((HX.out.set 0 (.bool false) (by simp)).set 1 (.bool false) (by simp)).set 2 (.bool false) (by simp)).set 3 (.bool false) (by simp)).set 4 (.bool false) (by simp)).set 5 (.bool false) (by simp)).set 6 (.bool false) (by simp)).set 7 (.bool false) (by simp)).set 8 (.int .i64 (-1)) (by simp)).set 9 (.int .i64 (-1)) (by simp)).set 10 (.int .i64 (-1)) (by simp)).set 11 (.int .i64 (-1)) (by simp)).set 12 (.int .i64 (-1)) (by simp))
    have HQ := Lib.hid (((((((((((((HB.out.setCell (p := ⟨w.heap.size, 0, none⟩) (Nat.le_refl _) (.bool false)).setCell (p := ⟨w.heap.size, 1, none⟩) (Nat.le_refl _) (.bool false)).setCell (p := ⟨w.heap.size, 2, none⟩) (Nat.le_refl _) (.bool false)).setCell (p := ⟨w.heap.size, 3, none⟩) (Nat.le_refl _) (.bool false)).setCell (p := ⟨w.heap.size, 4, none⟩) (Nat.le_refl _) (.bool false)).setCell (p := ⟨w.heap.size, 5, none⟩) (Nat.le_refl _) (.bool false)).setCell (p := ⟨w.heap.size, 6, none⟩) (Nat.le_refl _) (.bool false)).setCell (p := ⟨w.heap.size, 7, none⟩) (Nat.le_refl _) (.bool false)).setCell (p := ⟨w.heap.size, 8, none⟩) (Nat.le_refl _) (.int .i64 (-1))).setCell (p := ⟨w.heap.size, 9, none⟩) (Nat.le_refl _) (.int .i64 (-1))).setCell (p := ⟨w.heap.size, 10, none⟩) (Nat.le_refl _) (.int .i64 (-1))).setCell (p := ⟨w.heap.size, 11, none⟩) (Nat.le_refl _) (.int .i64 (-1))).setCell (p := ⟨w.heap.size, 12, none⟩) (Nat.le_refl _) (.int .i64 (-1)))
    generalize (((((((((((((w2.setCell ⟨w.heap.size, 0, none⟩ (.bool false)).setCell ⟨w.heap.size, 1, none⟩ (.bool false)).setCell ⟨w.heap.size, 2, none⟩ (.bool false)).setCell ⟨w.heap.size, 3, none⟩ (.bool false)).setCell ⟨w.heap.size, 4, none⟩ (.bool false)).setCell ⟨w.heap.size, 5, none⟩ (.bool false)).setCell ⟨w.heap.size, 6, none⟩ (.bool false)).setCell ⟨w.heap.size, 7, none⟩ (.bool false)).setCell ⟨w.heap.size, 8, none⟩ (.int .i64 (-1))).setCell ⟨w.heap.size, 9, none⟩ (.int .i64 (-1))).setCell ⟨w.heap.size, 10, none⟩ (.int .i64 (-1))).setCell ⟨w.heap.size, 11, none⟩ (.int .i64 (-1))).setCell ⟨w.heap.size, 12, none⟩ (.int .i64 (-1))) = W9 at *
    have p0 := (HP.out.2 0 _ rfl).1
    have p1 := (HP.out.2 1 _ rfl).1
    have p2 := (HP.out.2 2 _ rfl).1
    have p3 := (HP.out.2 3 _ rfl).1
    have p4 := (HP.out.2 4 _ rfl).1
    have p5 := (HP.out.2 5 _ rfl).1
    have p6 := (HP.out.2 6 _ rfl).1
    have p7 := (HP.out.2 7 _ rfl).1
    have p8 := (HP.out.2 8 _ rfl).1
    have p9 := (HP.out.2 9 _ rfl).1
    have p10 := (HP.out.2 10 _ rfl).1
    have p11 := (HP.out.2 11 _ rfl).1
    have p12 := (HP.out.2 12 _ rfl).1
    refine bodyPost_ret (v := .tuple #[.agg #[.bool false, .bool false, .bool false, .bool false, .bool false, .bool false, .bool false, .bool false, .int .i64 (-1), .int .i64 (-1), .int .i64 (-1), .int .i64 (-1), .int .i64 (-1)], .bool false]) (by simp [results, Tryz.results9, go_sem, p0, p1, p2, p3, p4, p5, p6, p7, p8, p9, p10, p11, p12]) rfl ⟨by rw [HV.out], HQ.out⟩
  | some es =>
    have hes : es = [] := Classical.byContradiction fun hn => by rw [modL_yes hd hn] at h; cases h
    subst hes
    rw [hd] at cD
    clear h hd
    go_enter Tryz.func9, Tryz.ntmps9
    go_wp2_with fail
    refine (cD _).mono ?_
    rintro e w1 ⟨hb, u, rfl, hu⟩
    obtain ⟨uo, uc, rfl, _⟩ := hu
    have HX := Lib.hid (HX.out.next hb)
    have HB := Lib.hid (HB0.out.trans (hb.mono HB0.out.size))
    clear hb cD HB0
    go_wp2_with fail
    refine (cN _).mono ?_
    rintro e w2 ⟨rfl, hb⟩
    have HX := Lib.hid (HX.out.next hb)
    have HB := Lib.hid (HB.out.trans (hb.mono HB.out.size))
    clear hb cN
    have x0 := (HX.out.2 0 _ rfl).1
    have g0 := (HX.out.2 0 _ rfl).2
    have x1 := (HX.out.2 1 _ rfl).1
    have g1 := (HX.out.2 1 _ rfl).2
    have x2 := (HX.out.2 2 _ rfl).1
    have g2 := (HX.out.2 2 _ rfl).2
    have x3 := (HX.out.2 3 _ rfl).1
    have g3 := (HX.out.2 3 _ rfl).2
    have x4 := (HX.out.2 4 _ rfl).1
    have g4 := (HX.out.2 4 _ rfl).2
    have x5 := (HX.out.2 5 _ rfl).1
    have g5 := (HX.out.2 5 _ rfl).2
    have x6 := (HX.out.2 6 _ rfl).1
    have g6 := (HX.out.2 6 _ rfl).2
    have x7 := (HX.out.2 7 _ rfl).1
    have g7 := (HX.out.2 7 _ rfl).2
    have x8 := (HX.out.2 8 _ rfl).1
    have g8 := (HX.out.2 8 _ rfl).2
    have x9 := (HX.out.2 9 _ rfl).1
    have g9 := (HX.out.2 9 _ rfl).2
    have x10 := (HX.out.2 10 _ rfl).1
    have g10 := (HX.out.2 10 _ rfl).2
    have x11 := (HX.out.2 11 _ rfl).1
    have g11 := (HX.out.2 11 _ rfl).2
    have x12 := (HX.out.2 12 _ rfl).1
    have g12 := (HX.out.2 12 _ rfl).2
    go_wp2_with fail
    clear x0 g0 x1 g1 x2 g2 x3 g3 x4 g4 x5 g5 x6 g6 x7 g7 x8 g8 x9 g9 x10 g10 x11 g11 x12 g12
    have HP := Lib.hid (((((((((((((HX.out.set 0 (.bool false) (by simp)).set 1 (.bool false) (by simp)).set 2 (.bool false) (by simp)).set 3 (.bool false) (by simp)).set 4 (.bool false) (by simp)).set 5 (.bool false) (by simp)).set 6 (.bool false) (by simp)).set 7 (.bool false) (by simp)).set 8 (.int .i64 (-1)) (by simp)).set 9 (.int .i64 (-1)) (by simp)).set 10 (.int .i64 (-1)) (by simp)).set 11 (.int .i64 (-1)) (by simp)).set 12 (.int .i64 (-1)) (by simp))
    have HQ := Lib.hid (((((((((((((HB.out.setCell (p := ⟨w.heap.size, 0, none⟩) (Nat.le_refl _) (.bool false)).setCell (p := ⟨w.heap.size, 1, none⟩) (Nat.le_refl _) (.bool false)).setCell (p := ⟨w.heap.size, 2, none⟩) (Nat.le_refl _) (.bool false)).setCell (p := ⟨w.heap.size, 3, none⟩) (Nat.le_refl _) (.bool false)).setCell (p := ⟨w.heap.size, 4, none⟩) (Nat.le_refl _) (.bool false)).setCell (p := ⟨w.heap.size, 5, none⟩) (Nat.le_refl _) (.bool false)).setCell (p := ⟨w.heap.size, 6, none⟩) (Nat.le_refl _) (.bool false)).setCell (p := ⟨w.heap.size, 7, none⟩) (Nat.le_refl _) (.bool false)).setCell (p := ⟨w.heap.size, 8, none⟩) (Nat.le_refl _) (.int .i64 (-1))).setCell (p := ⟨w.heap.size, 9, none⟩) (Nat.le_refl _) (.int .i64 (-1))).setCell (p := ⟨w.heap.size, 10, none⟩) (Nat.le_refl _) (.int .i64 (-1))).setCell (p := ⟨w.heap.size, 11, none⟩) (Nat.le_refl _) (.int .i64 (-1))).setCell (p := ⟨w.heap.size, 12, none⟩) (Nat.le_refl _) (.int .i64 (-1)))
    generalize (((((((((((((w2.setCell ⟨w.heap.size, 0, none⟩ (.bool false)).setCell ⟨w.heap.size, 1, none⟩ (.bool false)).setCell ⟨w.heap.size, 2, none⟩ (.bool false)).setCell ⟨w.heap.size, 3, none⟩ (.bool false)).setCell ⟨w.heap.size, 4, none⟩ (.bool false)).setCell ⟨w.heap.size, 5, none⟩ (.bool false)).setCell ⟨w.heap.size, 6, none⟩ (.bool false)).setCell ⟨w.heap.size, 7, none⟩ (.bool false)).setCell ⟨w.heap.size, 8, none⟩ (.int .i64 (-1))).setCell ⟨w.heap.size, 9, none⟩ (.int .i64 (-1))).setCell ⟨w.heap.size, 10, none⟩ (.int .i64 (-1))).setCell ⟨w.heap.size, 11, none⟩ (.int .i64 (-1))).setCell ⟨w.heap.size, 12, none⟩ (.int .i64 (-1))) = W9 at *
    have p0 := (HP.out.2 0 _ rfl).1
    have p1 := (HP.out.2 1 _ rfl).1
    have p2 := (HP.out.2 2 _ rfl).1
    have p3 := (HP.out.2 3 _ rfl).1
    have p4 := (HP.out.2 4 _ rfl).1
    have p5 := (HP.out.2 5 _ rfl).1
    have p6 := (HP.out.2 6 _ rfl).1
    have p7 := (HP.out.2 7 _ rfl).1
    have p8 := (HP.out.2 8 _ rfl).1
    have p9 := (HP.out.2 9 _ rfl).1
    have p10 := (HP.out.2 10 _ rfl).1
    have p11 := (HP.out.2 11 _ rfl).1
    have p12 := (HP.out.2 12 _ rfl).1
    refine bodyPost_ret (v := .tuple #[.agg #[.bool false, .bool false, .bool false, .bool false, .bool false, .bool false, .bool false, .bool false, .int .i64 (-1), .int .i64 (-1), .int .i64 (-1), .int .i64 (-1), .int .i64 (-1)], .bool false]) (by simp [results, Tryz.results9, go_sem, p0, p1, p2, p3, p4, p5, p6, p7, p8, p9, p10, p11, p12]) rfl ⟨by rw [HV.out], HQ.out⟩

set_option maxRecDepth 100000 in
set_option maxHeartbeats 4000000 in
theorem r11parse_0 (s : ByteArray) (es : List Ent) (w : World) (hs : s.size ≤ 90000) (h : modL s.data.toList = some es) (hy : yesR es nStale = false) :
    Calls Tryz.prog 9 #[.string s] w fun e w' => e = .returned (modA_ModA (modL s.data.toList)) ∧ Below w.heap.size w w' := by
  have cD := fun W => rdict_any s W (by omega)
  obtain ⟨hd, hne⟩ := modL_some h
  obtain ⟨hl, _⟩ := dicL_in (N := 90000) s.data.toList es (by rw [← Lib.size_eq]; exact hs) hd
  have hl2 : es.length ≤ 100000 := by rw [← Lib.size_eq] at hl; omega
  have hnl : ((es.length : Int) == 0) = false := by
    have := List.length_pos_iff.2 hne
    rw [beq_eq_false_iff_ne]
    omega
  rw [h]
  rw [hd] at cD
  have HV : Hid (modA_ModA (some es) = .tuple #[.agg #[.bool (yesR es nNoStore), .bool (yesR es nNoCache), .bool (yesR es nPrivate), .bool (yesR es nPublic), .bool (yesR es nMust), .bool (yesR es nProxy), .bool (yesR es nImmut), .bool (yesR es nOnly), .int .i64 (numR es nMaxAge), .int .i64 (numR es nSMax), .int .i64 (numR es nStale), .int .i64 (numR es nFresh), .int .i64 (numR es nIfErr)], .bool true]) := Lib.hid (by
    have e : stlR es = numR es nStale := by rw [stlR, hy]; rfl
    rw [modA_ModA, rulO, rulM, e]
    rfl)
  generalize modA_ModA (some es) = R at *
  have sY := fun v W (h : GOff entR 0 none W v es) => ryes_any 0 v es nStale W h hl2
  rw [hy] at sY
  have s0 := fun v W (h : GOff entR 0 none W v es) => ryes_any 0 v es nNoStore W h hl2
  generalize yesR es nNoStore = b0 at *
  have s1 := fun v W (h : GOff entR 0 none W v es) => ryes_any 0 v es nNoCache W h hl2
  generalize yesR es nNoCache = b1 at *
  have s2 := fun v W (h : GOff entR 0 none W v es) => ryes_any 0 v es nPrivate W h hl2
  generalize yesR es nPrivate = b2 at *
  have s3 := fun v W (h : GOff entR 0 none W v es) => ryes_any 0 v es nPublic W h hl2
  generalize yesR es nPublic = b3 at *
  have s4 := fun v W (h : GOff entR 0 none W v es) => ryes_any 0 v es nMust W h hl2
  generalize yesR es nMust = b4 at *
  have s5 := fun v W (h : GOff entR 0 none W v es) => ryes_any 0 v es nProxy W h hl2
  generalize yesR es nProxy = b5 at *
  have s6 := fun v W (h : GOff entR 0 none W v es) => ryes_any 0 v es nImmut W h hl2
  generalize yesR es nImmut = b6 at *
  have s7 := fun v W (h : GOff entR 0 none W v es) => ryes_any 0 v es nOnly W h hl2
  generalize yesR es nOnly = b7 at *
  have t0 := fun v W (h : GOff entR 0 none W v es) => rnum11_any 0 v es nMaxAge W h hl2
  generalize numR es nMaxAge = k0 at *
  have t1 := fun v W (h : GOff entR 0 none W v es) => rnum11_any 0 v es nSMax W h hl2
  generalize numR es nSMax = k1 at *
  have t2 := fun v W (h : GOff entR 0 none W v es) => rnum11_any 0 v es nStale W h hl2
  generalize numR es nStale = k2 at *
  have t3 := fun v W (h : GOff entR 0 none W v es) => rnum11_any 0 v es nFresh W h hl2
  generalize numR es nFresh = k3 at *
  have t4 := fun v W (h : GOff entR 0 none W v es) => rnum11_any 0 v es nIfErr W h hl2
  generalize numR es nIfErr = k4 at *
  have HB0 := Lib.hid ((Below.refl w.heap.size w).alloc (Nat.le_refl _) (.cells #[.bool false, .bool false, .bool false, .bool false, .bool false, .bool false, .bool false, .bool false, .int .i64 0, .int .i64 0, .int .i64 0, .int .i64 0, .int .i64 0] 29))
  have HX0 := Lib.hid (BoxN.made w [.bool false, .bool false, .bool false, .bool false, .bool false, .bool false, .bool false, .bool false, .int .i64 0, .int .i64 0, .int .i64 0, .int .i64 0, .int .i64 0] 29)
  clear h hd hne hl hy
  go_enter Tryz.func9, Tryz.ntmps9
  go_wp2_with fail
  refine (cD _).mono ?_
  rintro e w1 ⟨hb, u, rfl, hu⟩
  have HX0 := Lib.hid (HX0.out.next hb)
  have HB0 := Lib.hid (HB0.out.trans (hb.mono HB0.out.size))
  have HG := Lib.hid hu
  obtain ⟨uo, uc, rfl, _⟩ := hu
  clear hb cD
  go_wp2_with fail
  refine (s0 _ _ HG.out).mono ?_
  rintro e v0 ⟨rfl, hb⟩
  have HX0 := Lib.hid (HX0.out.next hb)
  have HG := Lib.hid (HG.out.below hb)
  have HB0 := Lib.hid (HB0.out.trans (hb.mono HB0.out.size))
  clear hb s0
  go_wp2_with fail
  refine (s1 _ _ HG.out).mono ?_
  rintro e v1 ⟨rfl, hb⟩
  have HX0 := Lib.hid (HX0.out.next hb)
  have HG := Lib.hid (HG.out.below hb)
  have HB0 := Lib.hid (HB0.out.trans (hb.mono HB0.out.size))
  clear hb s1
  go_wp2_with fail
  refine (s2 _ _ HG.out).mono ?_
  rintro e v2 ⟨rfl, hb⟩
  have HX0 := Lib.hid (HX0.out.next hb)
  have HG := Lib.hid (HG.out.below hb)
  have HB0 := Lib.hid (HB0.out.trans (hb.mono HB0.out.size))
  clear hb s2
  go_wp2_with fail
  refine (s3 _ _ HG.out).mono ?_
  rintro e v3 ⟨rfl, hb⟩
  have HX0 := Lib.hid (HX0.out.next hb)
  have HG := Lib.hid (HG.out.below hb)
  have HB0 := Lib.hid (HB0.out.trans (hb.mono HB0.out.size))
  clear hb s3
  go_wp2_with fail
  refine (s4 _ _ HG.out).mono ?_
  rintro e v4 ⟨rfl, hb⟩
  have HX0 := Lib.hid (HX0.out.next hb)
  have HG := Lib.hid (HG.out.below hb)
  have HB0 := Lib.hid (HB0.out.trans (hb.mono HB0.out.size))
  clear hb s4
  go_wp2_with fail
  refine (s5 _ _ HG.out).mono ?_
  rintro e v5 ⟨rfl, hb⟩
  have HX0 := Lib.hid (HX0.out.next hb)
  have HG := Lib.hid (HG.out.below hb)
  have HB0 := Lib.hid (HB0.out.trans (hb.mono HB0.out.size))
  clear hb s5
  go_wp2_with fail
  refine (s6 _ _ HG.out).mono ?_
  rintro e v6 ⟨rfl, hb⟩
  have HX0 := Lib.hid (HX0.out.next hb)
  have HG := Lib.hid (HG.out.below hb)
  have HB0 := Lib.hid (HB0.out.trans (hb.mono HB0.out.size))
  clear hb s6
  go_wp2_with fail
  refine (s7 _ _ HG.out).mono ?_
  rintro e v7 ⟨rfl, hb⟩
  have HX0 := Lib.hid (HX0.out.next hb)
  have HG := Lib.hid (HG.out.below hb)
  have HB0 := Lib.hid (HB0.out.trans (hb.mono HB0.out.size))
  clear hb s7
  go_wp2_with fail
  have hC : w.heap.size < v7.heap.size := HX0.out.1
  have HY := Lib.hid (BoxN.made v7 [.bool b0, .bool b1, .bool b2, .bool b3, .bool b4, .bool b5, .bool b6, .bool b7, .int .i64 0, .int .i64 0, .int .i64 0, .int .i64 0, .int .i64 0] 29)
  have hal := (Below.refl v7.heap.size v7).alloc (Nat.le_refl _) (.cells #[.bool b0, .bool b1, .bool b2, .bool b3, .bool b4, .bool b5, .bool b6, .bool b7, .int .i64 0, .int .i64 0, .int .i64 0, .int .i64 0, .int .i64 0] 29)
  have HX0 := Lib.hid (HX0.out.next hal)
  have HB0 := Lib.hid (HB0.out.trans (hal.mono HB0.out.size))
  have HGB : Hid (∀ W, Below v7.heap.size v7 W → GOff entR 0 none W (.slice uo es.length uc) es) := Lib.hid (fun W hb => HG.out.below hb)
  have HK := Lib.hid hal
  clear hal HG
  generalize v7.alloc (.cells #[.bool b0, .bool b1, .bool b2, .bool b3, .bool b4, .bool b5, .bool b6, .bool b7, .int .i64 0, .int .i64 0, .int .i64 0, .int .i64 0, .int .i64 0] 29) = U at *
  generalize v7.heap.size = C at *
  refine (t0 _ _ (HGB.out _ HK.out)).mono ?_
  rintro e u0 ⟨rfl, hb⟩
  have HX0 := Lib.hid (HX0.out.next hb)
  have HK := Lib.hid (HK.out.trans (hb.mono (Nat.le_of_lt HY.out.1)))
  have HY := Lib.hid (HY.out.next hb)
  have HB0 := Lib.hid (HB0.out.trans (hb.mono HB0.out.size))
  have y := (HY.out.2 8 _ rfl).1
  have fy := (HY.out.2 8 _ rfl).2
  clear hb t0
  go_wp2_with fail
  clear y fy
  have HY := Lib.hid (HY.out.set 8 (.int .i64 k0) (by simp))
  have HX0 := Lib.hid (HX0.out.other (Nat.ne_of_gt hC) (k := 8) (.int .i64 k0))
  have HB0 := Lib.hid (HB0.out.setCell (p := ⟨C, 8, none⟩) (Nat.le_of_lt hC) (.int .i64 k0))
  have HK := Lib.hid (HK.out.setCell (p := ⟨C, 8, none⟩) (Nat.le_refl _) (.int .i64 k0))
  generalize u0.setCell ⟨C, 8, none⟩ (.int .i64 k0) = U0 at *
  refine (t1 _ _ (HGB.out _ HK.out)).mono ?_
  rintro e u1 ⟨rfl, hb⟩
  have HX0 := Lib.hid (HX0.out.next hb)
  have HK := Lib.hid (HK.out.trans (hb.mono (Nat.le_of_lt HY.out.1)))
  have HY := Lib.hid (HY.out.next hb)
  have HB0 := Lib.hid (HB0.out.trans (hb.mono HB0.out.size))
  have y := (HY.out.2 9 _ rfl).1
  have fy := (HY.out.2 9 _ rfl).2
  clear hb t1
  go_wp2_with fail
  clear y fy
  have HY := Lib.hid (HY.out.set 9 (.int .i64 k1) (by simp))
  have HX0 := Lib.hid (HX0.out.other (Nat.ne_of_gt hC) (k := 9) (.int .i64 k1))
  have HB0 := Lib.hid (HB0.out.setCell (p := ⟨C, 9, none⟩) (Nat.le_of_lt hC) (.int .i64 k1))
  have HK := Lib.hid (HK.out.setCell (p := ⟨C, 9, none⟩) (Nat.le_refl _) (.int .i64 k1))
  generalize u1.setCell ⟨C, 9, none⟩ (.int .i64 k1) = U1 at *
  refine (t2 _ _ (HGB.out _ HK.out)).mono ?_
  rintro e u2 ⟨rfl, hb⟩
  have HX0 := Lib.hid (HX0.out.next hb)
  have HK := Lib.hid (HK.out.trans (hb.mono (Nat.le_of_lt HY.out.1)))
  have HY := Lib.hid (HY.out.next hb)
  have HB0 := Lib.hid (HB0.out.trans (hb.mono HB0.out.size))
  have y := (HY.out.2 10 _ rfl).1
  have fy := (HY.out.2 10 _ rfl).2
  clear hb t2
  go_wp2_with fail
  clear y fy
  have HY := Lib.hid (HY.out.set 10 (.int .i64 k2) (by simp))
  have HX0 := Lib.hid (HX0.out.other (Nat.ne_of_gt hC) (k := 10) (.int .i64 k2))
  have HB0 := Lib.hid (HB0.out.setCell (p := ⟨C, 10, none⟩) (Nat.le_of_lt hC) (.int .i64 k2))
  have HK := Lib.hid (HK.out.setCell (p := ⟨C, 10, none⟩) (Nat.le_refl _) (.int .i64 k2))
  generalize u2.setCell ⟨C, 10, none⟩ (.int .i64 k2) = U2 at *
  refine (t3 _ _ (HGB.out _ HK.out)).mono ?_
  rintro e u3 ⟨rfl, hb⟩
  have HX0 := Lib.hid (HX0.out.next hb)
  have HK := Lib.hid (HK.out.trans (hb.mono (Nat.le_of_lt HY.out.1)))
  have HY := Lib.hid (HY.out.next hb)
  have HB0 := Lib.hid (HB0.out.trans (hb.mono HB0.out.size))
  have y := (HY.out.2 11 _ rfl).1
  have fy := (HY.out.2 11 _ rfl).2
  clear hb t3
  go_wp2_with fail
  clear y fy
  have HY := Lib.hid (HY.out.set 11 (.int .i64 k3) (by simp))
  have HX0 := Lib.hid (HX0.out.other (Nat.ne_of_gt hC) (k := 11) (.int .i64 k3))
  have HB0 := Lib.hid (HB0.out.setCell (p := ⟨C, 11, none⟩) (Nat.le_of_lt hC) (.int .i64 k3))
  have HK := Lib.hid (HK.out.setCell (p := ⟨C, 11, none⟩) (Nat.le_refl _) (.int .i64 k3))
  generalize u3.setCell ⟨C, 11, none⟩ (.int .i64 k3) = U3 at *
  refine (t4 _ _ (HGB.out _ HK.out)).mono ?_
  rintro e u4 ⟨rfl, hb⟩
  have HX0 := Lib.hid (HX0.out.next hb)
  have HK := Lib.hid (HK.out.trans (hb.mono (Nat.le_of_lt HY.out.1)))
  have HY := Lib.hid (HY.out.next hb)
  have HB0 := Lib.hid (HB0.out.trans (hb.mono HB0.out.size))
  have y := (HY.out.2 12 _ rfl).1
  have fy := (HY.out.2 12 _ rfl).2
  clear hb t4
  go_wp2_with fail
  clear y fy
  have HY := Lib.hid (HY.out.set 12 (.int .i64 k4) (by simp))
  have HX0 := Lib.hid (HX0.out.other (Nat.ne_of_gt hC) (k := 12) (.int .i64 k4))
  have HB0 := Lib.hid (HB0.out.setCell (p := ⟨C, 12, none⟩) (Nat.le_of_lt hC) (.int .i64 k4))
  have HK := Lib.hid (HK.out.setCell (p := ⟨C, 12, none⟩) (Nat.le_refl _) (.int .i64 k4))
  generalize u4.setCell ⟨C, 12, none⟩ (.int .i64 k4) = U4 at *
  refine (sY _ _ (HGB.out _ HK.out)).mono ?_
  rintro e f ⟨rfl, hb⟩
  have HX := Lib.hid (HX0.out.next hb)
  have HY := Lib.hid (HY.out.next hb)
  have HB := Lib.hid (HB0.out.trans (hb.mono HB0.out.size))
  have hne : C ≠ w.heap.size := Nat.ne_of_gt hC
  clear hb sY HX0 HB0 HK HGB
  have y0 := (HY.out.2 0 _ rfl).1
  have fy0 := (HY.out.2 0 _ rfl).2
  have y1 := (HY.out.2 1 _ rfl).1
  have fy1 := (HY.out.2 1 _ rfl).2
  have y2 := (HY.out.2 2 _ rfl).1
  have fy2 := (HY.out.2 2 _ rfl).2
  have y3 := (HY.out.2 3 _ rfl).1
  have fy3 := (HY.out.2 3 _ rfl).2
  have y4 := (HY.out.2 4 _ rfl).1
  have fy4 := (HY.out.2 4 _ rfl).2
  have y5 := (HY.out.2 5 _ rfl).1
  have fy5 := (HY.out.2 5 _ rfl).2
  have y6 := (HY.out.2 6 _ rfl).1
  have fy6 := (HY.out.2 6 _ rfl).2
  have y7 := (HY.out.2 7 _ rfl).1
  have fy7 := (HY.out.2 7 _ rfl).2
  have y8 := (HY.out.2 8 _ rfl).1
  have fy8 := (HY.out.2 8 _ rfl).2
  have y9 := (HY.out.2 9 _ rfl).1
  have fy9 := (HY.out.2 9 _ rfl).2
  have y10 := (HY.out.2 10 _ rfl).1
  have fy10 := (HY.out.2 10 _ rfl).2
  have y11 := (HY.out.2 11 _ rfl).1
  have fy11 := (HY.out.2 11 _ rfl).2
  have y12 := (HY.out.2 12 _ rfl).1
  have fy12 := (HY.out.2 12 _ rfl).2
  have x0 := (HX.out.2 0 _ rfl).1
  have g0 := (HX.out.2 0 _ rfl).2
  have x1 := (HX.out.2 1 _ rfl).1
  have g1 := (HX.out.2 1 _ rfl).2
  have x2 := (HX.out.2 2 _ rfl).1
  have g2 := (HX.out.2 2 _ rfl).2
  have x3 := (HX.out.2 3 _ rfl).1
  have g3 := (HX.out.2 3 _ rfl).2
  have x4 := (HX.out.2 4 _ rfl).1
  have g4 := (HX.out.2 4 _ rfl).2
  have x5 := (HX.out.2 5 _ rfl).1
  have g5 := (HX.out.2 5 _ rfl).2
  have x6 := (HX.out.2 6 _ rfl).1
  have g6 := (HX.out.2 6 _ rfl).2
  have x7 := (HX.out.2 7 _ rfl).1
  have g7 := (HX.out.2 7 _ rfl).2
  have x8 := (HX.out.2 8 _ rfl).1
  have g8 := (HX.out.2 8 _ rfl).2
  have x9 := (HX.out.2 9 _ rfl).1
  have g9 := (HX.out.2 9 _ rfl).2
  have x10 := (HX.out.2 10 _ rfl).1
  have g10 := (HX.out.2 10 _ rfl).2
  have x11 := (HX.out.2 11 _ rfl).1
  have g11 := (HX.out.2 11 _ rfl).2
  have x12 := (HX.out.2 12 _ rfl).1
  have g12 := (HX.out.2 12 _ rfl).2
  go_wp2_with fail
  clear x0 g0 x1 g1 x2 g2 x3 g3 x4 g4 x5 g5 x6 g6 x7 g7 x8 g8 x9 g9 x10 g10 x11 g11 x12 g12
  clear y0 fy0 y1 fy1 y2 fy2 y3 fy3 y4 fy4 y5 fy5 y6 fy6 y7 fy7 y8 fy8 y9 fy9 y10 fy10 y11 fy11 y12 fy12
  have HP := Lib.hid (((((((((((((HX.out.set 0 (.bool b0) (by simp)).set 1 (.bool b1) (by simp)).set 2 (.bool b2) (by simp)).set 3 (.bool b3) (by simp)).set 4 (.bool b4) (by simp)).set 5 (.bool b5) (by simp)).set 6 (.bool b6) (by simp)).set 7 (.bool b7) (by simp)).set 8 (.int .i64 k0) (by simp)).set 9 (.int .i64 k1) (by simp)).set 10 (.int .i64 k2) (by simp)).set 11 (.int .i64 k3) (by simp)).set 12 (.int .i64 k4) (by simp))
  have HQ := Lib.hid (((((((((((((HB.out.setCell (p := ⟨w.heap.size, 0, none⟩) (Nat.le_refl _) (.bool b0)).setCell (p := ⟨w.heap.size, 1, none⟩) (Nat.le_refl _) (.bool b1)).setCell (p := ⟨w.heap.size, 2, none⟩) (Nat.le_refl _) (.bool b2)).setCell (p := ⟨w.heap.size, 3, none⟩) (Nat.le_refl _) (.bool b3)).setCell (p := ⟨w.heap.size, 4, none⟩) (Nat.le_refl _) (.bool b4)).setCell (p := ⟨w.heap.size, 5, none⟩) (Nat.le_refl _) (.bool b5)).setCell (p := ⟨w.heap.size, 6, none⟩) (Nat.le_refl _) (.bool b6)).setCell (p := ⟨w.heap.size, 7, none⟩) (Nat.le_refl _) (.bool b7)).setCell (p := ⟨w.heap.size, 8, none⟩) (Nat.le_refl _) (.int .i64 k0)).setCell (p := ⟨w.heap.size, 9, none⟩) (Nat.le_refl _) (.int .i64 k1)).setCell (p := ⟨w.heap.size, 10, none⟩) (Nat.le_refl _) (.int .i64 k2)).setCell (p := ⟨w.heap.size, 11, none⟩) (Nat.le_refl _) (.int .i64 k3)).setCell (p := ⟨w.heap.size, 12, none⟩) (Nat.le_refl _) (.int .i64 k4))
  generalize (((((((((((((f.setCell ⟨w.heap.size, 0, none⟩ (.bool b0)).setCell ⟨w.heap.size, 1, none⟩ (.bool b1)).setCell ⟨w.heap.size, 2, none⟩ (.bool b2)).setCell ⟨w.heap.size, 3, none⟩ (.bool b3)).setCell ⟨w.heap.size, 4, none⟩ (.bool b4)).setCell ⟨w.heap.size, 5, none⟩ (.bool b5)).setCell ⟨w.heap.size, 6, none⟩ (.bool b6)).setCell ⟨w.heap.size, 7, none⟩ (.bool b7)).setCell ⟨w.heap.size, 8, none⟩ (.int .i64 k0)).setCell ⟨w.heap.size, 9, none⟩ (.int .i64 k1)).setCell ⟨w.heap.size, 10, none⟩ (.int .i64 k2)).setCell ⟨w.heap.size, 11, none⟩ (.int .i64 k3)).setCell ⟨w.heap.size, 12, none⟩ (.int .i64 k4)) = W9 at *
  have p0 := (HP.out.2 0 _ rfl).1
  have p1 := (HP.out.2 1 _ rfl).1
  have p2 := (HP.out.2 2 _ rfl).1
  have p3 := (HP.out.2 3 _ rfl).1
  have p4 := (HP.out.2 4 _ rfl).1
  have p5 := (HP.out.2 5 _ rfl).1
  have p6 := (HP.out.2 6 _ rfl).1
  have p7 := (HP.out.2 7 _ rfl).1
  have p8 := (HP.out.2 8 _ rfl).1
  have p9 := (HP.out.2 9 _ rfl).1
  have p10 := (HP.out.2 10 _ rfl).1
  have p11 := (HP.out.2 11 _ rfl).1
  have p12 := (HP.out.2 12 _ rfl).1
  refine bodyPost_ret (v := .tuple #[.agg #[.bool b0, .bool b1, .bool b2, .bool b3, .bool b4, .bool b5, .bool b6, .bool b7, .int .i64 k0, .int .i64 k1, .int .i64 k2, .int .i64 k3, .int .i64 k4], .bool true]) (by simp [results, Tryz.results9, go_sem, p0, p1, p2, p3, p4, p5, p6, p7, p8, p9, p10, p11, p12]) rfl ⟨by rw [HV.out], HQ.out⟩

set_option maxRecDepth 100000 in
set_option maxHeartbeats 4000000 in
theorem r11parse_1 (s : ByteArray) (es : List Ent) (w : World) (hs : s.size ≤ 90000) (h : modL s.data.toList = some es) (hy : yesR es nStale = true) :
    Calls Tryz.prog 9 #[.string s] w fun e w' => e = .returned (modA_ModA (modL s.data.toList)) ∧ Below w.heap.size w w' := by
  have cD := fun W => rdict_any s W (by omega)
  obtain ⟨hd, hne⟩ := modL_some h
  obtain ⟨hl, _⟩ := dicL_in (N := 90000) s.data.toList es (by rw [← Lib.size_eq]; exact hs) hd
  have hl2 : es.length ≤ 100000 := by rw [← Lib.size_eq] at hl; omega
  have hnl : ((es.length : Int) == 0) = false := by
    have := List.length_pos_iff.2 hne
    rw [beq_eq_false_iff_ne]
    omega
  rw [h]
  rw [hd] at cD
  have HV : Hid (modA_ModA (some es) = .tuple #[.agg #[.bool (yesR es nNoStore), .bool (yesR es nNoCache), .bool (yesR es nPrivate), .bool (yesR es nPublic), .bool (yesR es nMust), .bool (yesR es nProxy), .bool (yesR es nImmut), .bool (yesR es nOnly), .int .i64 (numR es nMaxAge), .int .i64 (numR es nSMax), .int .i64 (2147483648), .int .i64 (numR es nFresh), .int .i64 (numR es nIfErr)], .bool true]) := Lib.hid (by
    have e : stlR es = 2147483648 := by rw [stlR, hy]; rfl
    rw [modA_ModA, rulO, rulM, e]
    rfl)
  generalize modA_ModA (some es) = R at *
  have sY := fun v W (h : GOff entR 0 none W v es) => ryes_any 0 v es nStale W h hl2
  rw [hy] at sY
  have s0 := fun v W (h : GOff entR 0 none W v es) => ryes_any 0 v es nNoStore W h hl2
  generalize yesR es nNoStore = b0 at *
  have s1 := fun v W (h : GOff entR 0 none W v es) => ryes_any 0 v es nNoCache W h hl2
  generalize yesR es nNoCache = b1 at *
  have s2 := fun v W (h : GOff entR 0 none W v es) => ryes_any 0 v es nPrivate W h hl2
  generalize yesR es nPrivate = b2 at *
  have s3 := fun v W (h : GOff entR 0 none W v es) => ryes_any 0 v es nPublic W h hl2
  generalize yesR es nPublic = b3 at *
  have s4 := fun v W (h : GOff entR 0 none W v es) => ryes_any 0 v es nMust W h hl2
  generalize yesR es nMust = b4 at *
  have s5 := fun v W (h : GOff entR 0 none W v es) => ryes_any 0 v es nProxy W h hl2
  generalize yesR es nProxy = b5 at *
  have s6 := fun v W (h : GOff entR 0 none W v es) => ryes_any 0 v es nImmut W h hl2
  generalize yesR es nImmut = b6 at *
  have s7 := fun v W (h : GOff entR 0 none W v es) => ryes_any 0 v es nOnly W h hl2
  generalize yesR es nOnly = b7 at *
  have t0 := fun v W (h : GOff entR 0 none W v es) => rnum11_any 0 v es nMaxAge W h hl2
  generalize numR es nMaxAge = k0 at *
  have t1 := fun v W (h : GOff entR 0 none W v es) => rnum11_any 0 v es nSMax W h hl2
  generalize numR es nSMax = k1 at *
  have t2 := fun v W (h : GOff entR 0 none W v es) => rnum11_any 0 v es nStale W h hl2
  generalize numR es nStale = k2 at *
  have t3 := fun v W (h : GOff entR 0 none W v es) => rnum11_any 0 v es nFresh W h hl2
  generalize numR es nFresh = k3 at *
  have t4 := fun v W (h : GOff entR 0 none W v es) => rnum11_any 0 v es nIfErr W h hl2
  generalize numR es nIfErr = k4 at *
  have HB0 := Lib.hid ((Below.refl w.heap.size w).alloc (Nat.le_refl _) (.cells #[.bool false, .bool false, .bool false, .bool false, .bool false, .bool false, .bool false, .bool false, .int .i64 0, .int .i64 0, .int .i64 0, .int .i64 0, .int .i64 0] 29))
  have HX0 := Lib.hid (BoxN.made w [.bool false, .bool false, .bool false, .bool false, .bool false, .bool false, .bool false, .bool false, .int .i64 0, .int .i64 0, .int .i64 0, .int .i64 0, .int .i64 0] 29)
  clear h hd hne hl hy
  go_enter Tryz.func9, Tryz.ntmps9
  go_wp2_with fail
  refine (cD _).mono ?_
  rintro e w1 ⟨hb, u, rfl, hu⟩
  have HX0 := Lib.hid (HX0.out.next hb)
  have HB0 := Lib.hid (HB0.out.trans (hb.mono HB0.out.size))
  have HG := Lib.hid hu
  obtain ⟨uo, uc, rfl, _⟩ := hu
  clear hb cD
  go_wp2_with fail
  refine (s0 _ _ HG.out).mono ?_
  rintro e v0 ⟨rfl, hb⟩
  have HX0 := Lib.hid (HX0.out.next hb)
  have HG := Lib.hid (HG.out.below hb)
  have HB0 := Lib.hid (HB0.out.trans (hb.mono HB0.out.size))
  clear hb s0
  go_wp2_with fail
  refine (s1 _ _ HG.out).mono ?_
  rintro e v1 ⟨rfl, hb⟩
  have HX0 := Lib.hid (HX0.out.next hb)
  have HG := Lib.hid (HG.out.below hb)
  have HB0 := Lib.hid (HB0.out.trans (hb.mono HB0.out.size))
  clear hb s1
  go_wp2_with fail
  refine (s2 _ _ HG.out).mono ?_
  rintro e v2 ⟨rfl, hb⟩
  have HX0 := Lib.hid (HX0.out.next hb)
  have HG := Lib.hid (HG.out.below hb)
  have HB0 := Lib.hid (HB0.out.trans (hb.mono HB0.out.size))
  clear hb s2
  go_wp2_with fail
  refine (s3 _ _ HG.out).mono ?_
  rintro e v3 ⟨rfl, hb⟩
  have HX0 := Lib.hid (HX0.out.next hb)
  have HG := Lib.hid (HG.out.below hb)
  have HB0 := Lib.hid (HB0.out.trans (hb.mono HB0.out.size))
  clear hb s3
  go_wp2_with fail
  refine (s4 _ _ HG.out).mono ?_
  rintro e v4 ⟨rfl, hb⟩
  have HX0 := Lib.hid (HX0.out.next hb)
  have HG := Lib.hid (HG.out.below hb)
  have HB0 := Lib.hid (HB0.out.trans (hb.mono HB0.out.size))
  clear hb s4
  go_wp2_with fail
  refine (s5 _ _ HG.out).mono ?_
  rintro e v5 ⟨rfl, hb⟩
  have HX0 := Lib.hid (HX0.out.next hb)
  have HG := Lib.hid (HG.out.below hb)
  have HB0 := Lib.hid (HB0.out.trans (hb.mono HB0.out.size))
  clear hb s5
  go_wp2_with fail
  refine (s6 _ _ HG.out).mono ?_
  rintro e v6 ⟨rfl, hb⟩
  have HX0 := Lib.hid (HX0.out.next hb)
  have HG := Lib.hid (HG.out.below hb)
  have HB0 := Lib.hid (HB0.out.trans (hb.mono HB0.out.size))
  clear hb s6
  go_wp2_with fail
  refine (s7 _ _ HG.out).mono ?_
  rintro e v7 ⟨rfl, hb⟩
  have HX0 := Lib.hid (HX0.out.next hb)
  have HG := Lib.hid (HG.out.below hb)
  have HB0 := Lib.hid (HB0.out.trans (hb.mono HB0.out.size))
  clear hb s7
  go_wp2_with fail
  have hC : w.heap.size < v7.heap.size := HX0.out.1
  have HY := Lib.hid (BoxN.made v7 [.bool b0, .bool b1, .bool b2, .bool b3, .bool b4, .bool b5, .bool b6, .bool b7, .int .i64 0, .int .i64 0, .int .i64 0, .int .i64 0, .int .i64 0] 29)
  have hal := (Below.refl v7.heap.size v7).alloc (Nat.le_refl _) (.cells #[.bool b0, .bool b1, .bool b2, .bool b3, .bool b4, .bool b5, .bool b6, .bool b7, .int .i64 0, .int .i64 0, .int .i64 0, .int .i64 0, .int .i64 0] 29)
  have HX0 := Lib.hid (HX0.out.next hal)
  have HB0 := Lib.hid (HB0.out.trans (hal.mono HB0.out.size))
  have HGB : Hid (∀ W, Below v7.heap.size v7 W → GOff entR 0 none W (.slice uo es.length uc) es) := Lib.hid (fun W hb => HG.out.below hb)
  have HK := Lib.hid hal
  clear hal HG
  generalize v7.alloc (.cells #[.bool b0, .bool b1, .bool b2, .bool b3, .bool b4, .bool b5, .bool b6, .bool b7, .int .i64 0, .int .i64 0, .int .i64 0, .int .i64 0, .int .i64 0] 29) = U at *
  generalize v7.heap.size = C at *
  refine (t0 _ _ (HGB.out _ HK.out)).mono ?_
  rintro e u0 ⟨rfl, hb⟩
  have HX0 := Lib.hid (HX0.out.next hb)
  have HK := Lib.hid (HK.out.trans (hb.mono (Nat.le_of_lt HY.out.1)))
  have HY := Lib.hid (HY.out.next hb)
  have HB0 := Lib.hid (HB0.out.trans (hb.mono HB0.out.size))
  have y := (HY.out.2 8 _ rfl).1
  have fy := (HY.out.2 8 _ rfl).2
  clear hb t0
  go_wp2_with fail
  clear y fy
  have HY := Lib.hid (HY.out.set 8 (.int .i64 k0) (by simp))
  have HX0 := Lib.hid (HX0.out.other (Nat.ne_of_gt hC) (k := 8) (.int .i64 k0))
  have HB0 := Lib.hid (HB0.out.setCell (p := ⟨C, 8, none⟩) (Nat.le_of_lt hC) (.int .i64 k0))
  have HK := Lib.hid (HK.out.setCell (p := ⟨C, 8, none⟩) (Nat.le_refl _) (.int .i64 k0))
  generalize u0.setCell ⟨C, 8, none⟩ (.int .i64 k0) = U0 at *
  refine (t1 _ _ (HGB.out _ HK.out)).mono ?_
  rintro e u1 ⟨rfl, hb⟩
  have HX0 := Lib.hid (HX0.out.next hb)
  have HK := Lib.hid (HK.out.trans (hb.mono (Nat.le_of_lt HY.out.1)))
  have HY := Lib.hid (HY.out.next hb)
  have HB0 := Lib.hid (HB0.out.trans (hb.mono HB0.out.size))
  have y := (HY.out.2 9 _ rfl).1
  have fy := (HY.out.2 9 _ rfl).2
  clear hb t1
  go_wp2_with fail
  clear y fy
  have HY := Lib.hid (HY.out.set 9 (.int .i64 k1) (by simp))
  have HX0 := Lib.hid (HX0.out.other (Nat.ne_of_gt hC) (k := 9) (.int .i64 k1))
  have HB0 := Lib.hid (HB0.out.setCell (p := ⟨C, 9, none⟩) (Nat.le_of_lt hC) (.int .i64 k1))
  have HK := Lib.hid (HK.out.setCell (p := ⟨C, 9, none⟩) (Nat.le_refl _) (.int .i64 k1))
  generalize u1.setCell ⟨C, 9, none⟩ (.int .i64 k1) = U1 at *
  refine (t2 _ _ (HGB.out _ HK.out)).mono ?_
  rintro e u2 ⟨rfl, hb⟩
  have HX0 := Lib.hid (HX0.out.next hb)
  have HK := Lib.hid (HK.out.trans (hb.mono (Nat.le_of_lt HY.out.1)))
  have HY := Lib.hid (HY.out.next hb)
  have HB0 := Lib.hid (HB0.out.trans (hb.mono HB0.out.size))
  have y := (HY.out.2 10 _ rfl).1
  have fy := (HY.out.2 10 _ rfl).2
  clear hb t2
  go_wp2_with fail
  clear y fy
  have HY := Lib.hid (HY.out.set 10 (.int .i64 k2) (by simp))
  have HX0 := Lib.hid (HX0.out.other (Nat.ne_of_gt hC) (k := 10) (.int .i64 k2))
  have HB0 := Lib.hid (HB0.out.setCell (p := ⟨C, 10, none⟩) (Nat.le_of_lt hC) (.int .i64 k2))
  have HK := Lib.hid (HK.out.setCell (p := ⟨C, 10, none⟩) (Nat.le_refl _) (.int .i64 k2))
  generalize u2.setCell ⟨C, 10, none⟩ (.int .i64 k2) = U2 at *
  refine (t3 _ _ (HGB.out _ HK.out)).mono ?_
  rintro e u3 ⟨rfl, hb⟩
  have HX0 := Lib.hid (HX0.out.next hb)
  have HK := Lib.hid (HK.out.trans (hb.mono (Nat.le_of_lt HY.out.1)))
  have HY := Lib.hid (HY.out.next hb)
  have HB0 := Lib.hid (HB0.out.trans (hb.mono HB0.out.size))
  have y := (HY.out.2 11 _ rfl).1
  have fy := (HY.out.2 11 _ rfl).2
  clear hb t3
  go_wp2_with fail
  clear y fy
  have HY := Lib.hid (HY.out.set 11 (.int .i64 k3) (by simp))
  have HX0 := Lib.hid (HX0.out.other (Nat.ne_of_gt hC) (k := 11) (.int .i64 k3))
  have HB0 := Lib.hid (HB0.out.setCell (p := ⟨C, 11, none⟩) (Nat.le_of_lt hC) (.int .i64 k3))
  have HK := Lib.hid (HK.out.setCell (p := ⟨C, 11, none⟩) (Nat.le_refl _) (.int .i64 k3))
  generalize u3.setCell ⟨C, 11, none⟩ (.int .i64 k3) = U3 at *
  refine (t4 _ _ (HGB.out _ HK.out)).mono ?_
  rintro e u4 ⟨rfl, hb⟩
  have HX0 := Lib.hid (HX0.out.next hb)
  have HK := Lib.hid (HK.out.trans (hb.mono (Nat.le_of_lt HY.out.1)))
  have HY := Lib.hid (HY.out.next hb)
  have HB0 := Lib.hid (HB0.out.trans (hb.mono HB0.out.size))
  have y := (HY.out.2 12 _ rfl).1
  have fy := (HY.out.2 12 _ rfl).2
  clear hb t4
  go_wp2_with fail
  clear y fy
  have HY := Lib.hid (HY.out.set 12 (.int .i64 k4) (by simp))
  have HX0 := Lib.hid (HX0.out.other (Nat.ne_of_gt hC) (k := 12) (.int .i64 k4))
  have HB0 := Lib.hid (HB0.out.setCell (p := ⟨C, 12, none⟩) (Nat.le_of_lt hC) (.int .i64 k4))
  have HK := Lib.hid (HK.out.setCell (p := ⟨C, 12, none⟩) (Nat.le_refl _) (.int .i64 k4))
  generalize u4.setCell ⟨C, 12, none⟩ (.int .i64 k4) = U4 at *
  refine (sY _ _ (HGB.out _ HK.out)).mono ?_
  rintro e f ⟨rfl, hb⟩
  have HX := Lib.hid (HX0.out.next hb)
  have HY := Lib.hid (HY.out.next hb)
  have HB := Lib.hid (HB0.out.trans (hb.mono HB0.out.size))
  have hne : C ≠ w.heap.size := Nat.ne_of_gt hC
  clear hb sY HX0 HB0 HK HGB
  have y0 := (HY.out.2 0 _ rfl).1
  have fy0 := (HY.out.2 0 _ rfl).2
  have y1 := (HY.out.2 1 _ rfl).1
  have fy1 := (HY.out.2 1 _ rfl).2
  have y2 := (HY.out.2 2 _ rfl).1
  have fy2 := (HY.out.2 2 _ rfl).2
  have y3 := (HY.out.2 3 _ rfl).1
  have fy3 := (HY.out.2 3 _ rfl).2
  have y4 := (HY.out.2 4 _ rfl).1
  have fy4 := (HY.out.2 4 _ rfl).2
  have y5 := (HY.out.2 5 _ rfl).1
  have fy5 := (HY.out.2 5 _ rfl).2
  have y6 := (HY.out.2 6 _ rfl).1
  have fy6 := (HY.out.2 6 _ rfl).2
  have y7 := (HY.out.2 7 _ rfl).1
  have fy7 := (HY.out.2 7 _ rfl).2
  have y8 := (HY.out.2 8 _ rfl).1
  have fy8 := (HY.out.2 8 _ rfl).2
  have y9 := (HY.out.2 9 _ rfl).1
  have fy9 := (HY.out.2 9 _ rfl).2
  have y10 := (HY.out.2 10 _ rfl).1
  have fy10 := (HY.out.2 10 _ rfl).2
  have y11 := (HY.out.2 11 _ rfl).1
  have fy11 := (HY.out.2 11 _ rfl).2
  have y12 := (HY.out.2 12 _ rfl).1
  have fy12 := (HY.out.2 12 _ rfl).2
  have x0 := (HX.out.2 0 _ rfl).1
  have g0 := (HX.out.2 0 _ rfl).2
  have x1 := (HX.out.2 1 _ rfl).1
  have g1 := (HX.out.2 1 _ rfl).2
  have x2 := (HX.out.2 2 _ rfl).1
  have g2 := (HX.out.2 2 _ rfl).2
  have x3 := (HX.out.2 3 _ rfl).1
  have g3 := (HX.out.2 3 _ rfl).2
  have x4 := (HX.out.2 4 _ rfl).1
  have g4 := (HX.out.2 4 _ rfl).2
  have x5 := (HX.out.2 5 _ rfl).1
  have g5 := (HX.out.2 5 _ rfl).2
  have x6 := (HX.out.2 6 _ rfl).1
  have g6 := (HX.out.2 6 _ rfl).2
  have x7 := (HX.out.2 7 _ rfl).1
  have g7 := (HX.out.2 7 _ rfl).2
  have x8 := (HX.out.2 8 _ rfl).1
  have g8 := (HX.out.2 8 _ rfl).2
  have x9 := (HX.out.2 9 _ rfl).1
  have g9 := (HX.out.2 9 _ rfl).2
  have x10 := (HX.out.2 10 _ rfl).1
  have g10 := (HX.out.2 10 _ rfl).2
  have x11 := (HX.out.2 11 _ rfl).1
  have g11 := (HX.out.2 11 _ rfl).2
  have x12 := (HX.out.2 12 _ rfl).1
  have g12 := (HX.out.2 12 _ rfl).2
  go_wp2_with fail
  clear x0 g0 x1 g1 x2 g2 x3 g3 x4 g4 x5 g5 x6 g6 x7 g7 x8 g8 x9 g9 x10 g10 x11 g11 x12 g12
  clear y0 fy0 y1 fy1 y2 fy2 y3 fy3 y4 fy4 y5 fy5 y6 fy6 y7 fy7 y8 fy8 y9 fy9 y10 fy10 y11 fy11 y12 fy12
  have HX := Lib.hid (HX.out.other hne (k := 10) (.int .i64 2147483648))
  have HB := Lib.hid (HB.out.setCell (p := ⟨C, 10, none⟩) (Nat.le_of_lt hC) (.int .i64 2147483648))
  have HP := Lib.hid (((((((((((((HX.out.set 0 (.bool b0) (by simp)).set 1 (.bool b1) (by simp)).set 2 (.bool b2) (by simp)).set 3 (.bool b3) (by simp)).set 4 (.bool b4) (by simp)).set 5 (.bool b5) (by simp)).set 6 (.bool b6) (by simp)).set 7 (.bool b7) (by simp)).set 8 (.int .i64 k0) (by simp)).set 9 (.int .i64 k1) (by simp)).set 10 (.int .i64 (2147483648)) (by simp)).set 11 (.int .i64 k3) (by simp)).set 12 (.int .i64 k4) (by simp))
  have HQ := Lib.hid (((((((((((((HB.out.setCell (p := ⟨w.heap.size, 0, none⟩) (Nat.le_refl _) (.bool b0)).setCell (p := ⟨w.heap.size, 1, none⟩) (Nat.le_refl _) (.bool b1)).setCell (p := ⟨w.heap.size, 2, none⟩) (Nat.le_refl _) (.bool b2)).setCell (p := ⟨w.heap.size, 3, none⟩) (Nat.le_refl _) (.bool b3)).setCell (p := ⟨w.heap.size, 4, none⟩) (Nat.le_refl _) (.bool b4)).setCell (p := ⟨w.heap.size, 5, none⟩) (Nat.le_refl _) (.bool b5)).setCell (p := ⟨w.heap.size, 6, none⟩) (Nat.le_refl _) (.bool b6)).setCell (p := ⟨w.heap.size, 7, none⟩) (Nat.le_refl _) (.bool b7)).setCell (p := ⟨w.heap.size, 8, none⟩) (Nat.le_refl _) (.int .i64 k0)).setCell (p := ⟨w.heap.size, 9, none⟩) (Nat.le_refl _) (.int .i64 k1)).setCell (p := ⟨w.heap.size, 10, none⟩) (Nat.le_refl _) (.int .i64 (2147483648))).setCell (p := ⟨w.heap.size, 11, none⟩) (Nat.le_refl _) (.int .i64 k3)).setCell (p := ⟨w.heap.size, 12, none⟩) (Nat.le_refl _) (.int .i64 k4))
  generalize ((((((((((((((f.setCell ⟨C, 10, none⟩ (.int .i64 2147483648)).setCell ⟨w.heap.size, 0, none⟩ (.bool b0)).setCell ⟨w.heap.size, 1, none⟩ (.bool b1)).setCell ⟨w.heap.size, 2, none⟩ (.bool b2)).setCell ⟨w.heap.size, 3, none⟩ (.bool b3)).setCell ⟨w.heap.size, 4, none⟩ (.bool b4)).setCell ⟨w.heap.size, 5, none⟩ (.bool b5)).setCell ⟨w.heap.size, 6, none⟩ (.bool b6)).setCell ⟨w.heap.size, 7, none⟩ (.bool b7)).setCell ⟨w.heap.size, 8, none⟩ (.int .i64 k0)).setCell ⟨w.heap.size, 9, none⟩ (.int .i64 k1)).setCell ⟨w.heap.size, 10, none⟩ (.int .i64 (2147483648))).setCell ⟨w.heap.size, 11, none⟩ (.int .i64 k3)).setCell ⟨w.heap.size, 12, none⟩ (.int .i64 k4)) = W9 at *
  have p0 := (HP.out.2 0 _ rfl).1
  have p1 := (HP.out.2 1 _ rfl).1
  have p2 := (HP.out.2 2 _ rfl).1
  have p3 := (HP.out.2 3 _ rfl).1
  have p4 := (HP.out.2 4 _ rfl).1
  have p5 := (HP.out.2 5 _ rfl).1
  have p6 := (HP.out.2 6 _ rfl).1
  have p7 := (HP.out.2 7 _ rfl).1
  have p8 := (HP.out.2 8 _ rfl).1
  have p9 := (HP.out.2 9 _ rfl).1
  have p10 := (HP.out.2 10 _ rfl).1
  have p11 := (HP.out.2 11 _ rfl).1
  have p12 := (HP.out.2 12 _ rfl).1
  refine bodyPost_ret (v := .tuple #[.agg #[.bool b0, .bool b1, .bool b2, .bool b3, .bool b4, .bool b5, .bool b6, .bool b7, .int .i64 k0, .int .i64 k1, .int .i64 (2147483648), .int .i64 k3, .int .i64 k4], .bool true]) (by simp [results, Tryz.results9, go_sem, p0, p1, p2, p3, p4, p5, p6, p7, p8, p9, p10, p11, p12]) rfl ⟨by rw [HV.out], HQ.out⟩

theorem r11parse_any (s : ByteArray) (w : World) (hs : s.size ≤ 90000) :
    Calls Tryz.prog 9 #[.string s] w fun e w' => e = .returned (modA_ModA (modL s.data.toList)) ∧ Below w.heap.size w w' := by
  cases h : modL s.data.toList with
  | none => rw [← h]; exact r11parse_no s w hs h
  | some es =>
    rw [← h]
    cases hy : yesR es nStale
    · exact r11parse_0 s es w hs h hy
    · exact r11parse_1 s es w hs h hy

end Go.Proofs.YtpifbgefkbhopaaGreatDoor
