/- The walk of the law MembersPrint. -/
import Derived.Test.YtjbipplaacgnkaaGreatDoorHC
import Derived.Test.YtjbipplaacgnkaaGreatDoorHE
import Derived.Test.YtjbipplaacgnkaaGreatDoorHF

namespace Go.Proofs.YtjbipplaacgnkaaGreatDoor
open Go.RowKit Go.Maps

/-- The law's all and entries, where they take all. -/
theorem all_whole (xs : List Mem) (hM : ∀ M ∈ xs, MmIn M) (hl : xs.length ≤ 1256584717458) : ∃ N : Int, N = (allN 0 xs).2 ∧ ∀ v W, GOff memR 0 none W v xs → Calls Tryz.prog 12 #[v] W fun e w' => Below W.heap.size W w' ∧ ∃ u, e = .returned (.tuple #[u, .int .i64 N]) ∧ (N ≤ 1000 → GOff memR 0 none w' u xs) := by
  refine ⟨_, rfl, fun v W h => (all_any xs v W h (fun M hm => (hM M hm).ln) hl).mono fun e w' ⟨hb, u, he, hg⟩ => ⟨hb, u, he, fun hN => ?_⟩⟩
  have h1 := (allN_few xs 0 (by omega) (by omega) hM hN).1
  rw [h1, List.take_length] at hg
  exact hg.low (Nat.zero_le _)
theorem entries_whole (xs : List Ent) (hM : ∀ E ∈ xs, MmIn E.val ∧ E.key.length ≤ 140737488355328) (hl : xs.length ≤ 1099511627775) : ∃ N : Int, N = (allE 0 xs).2 ∧ ∀ v W, GOff entR 0 none W v xs → Calls Tryz.prog 13 #[v] W fun e w' => Below W.heap.size W w' ∧ ∃ u, e = .returned (.tuple #[u, .int .i64 N]) ∧ (N ≤ 1000 → GOff entR 0 none w' u xs) := by
  refine ⟨_, rfl, fun v W h => (entries_any xs v W h (fun M hm => (hM M hm).1.ln) hl).mono fun e w' ⟨hb, u, he, hg⟩ => ⟨hb, u, he, fun hN => ?_⟩⟩
  have h1 := (allE_few xs 0 (by omega) (by omega) hM hN).1
  rw [h1, List.take_length] at hg
  exact hg.low (Nat.zero_le _)

/-- The cells of one of the members of a row. -/
abbrev Row7 (W : World) (b o : Nat) (M : Mem) (S : ByteArray) (t1 t2 t3 : Value) : Prop :=
  W.cell? ⟨b, o, none⟩ = some (.bool M.inner) ∧ W.cell? ⟨b, o + 1, none⟩ = some (.int .i64 M.it.k) ∧ W.cell? ⟨b, o + 2, none⟩ = some (.int .i64 M.it.n) ∧ W.cell? ⟨b, o + 3, none⟩ = some (.string S) ∧ W.cell? ⟨b, o + 4, none⟩ = some t1 ∧ W.cell? ⟨b, o + 5, none⟩ = some t2 ∧ W.cell? ⟨b, o + 6, none⟩ = some t3
theorem Row7.below {W W1 : World} {b o : Nat} {M : Mem} {S : ByteArray} {t1 t2 t3 : Value} (h : Row7 W b o M S t1 t2 t3) (hb : Below W.heap.size W W1) : Row7 W1 b o M S t1 t2 t3 := by
  obtain ⟨h0, h1, h2, h3, h4, h5, h6⟩ := h
  exact ⟨cell_next hb h0, cell_next hb h1, cell_next hb h2, cell_next hb h3, cell_next hb h4, cell_next hb h5, cell_next hb h6⟩

set_option maxRecDepth 100000 in
set_option maxHeartbeats 8000000 in
theorem mprint_walk (xs : List Mem) (es : List Ent) (v vd : Value) (w : World) (hg : GOff memR 0 none w v xs) (hd : GOff entR 0 none w vd es) (hx : ∀ M ∈ xs, MmIn M) (hlx : xs.length ≤ 1256584717458) (he : ∀ E ∈ es, MmIn E.val ∧ E.key.length ≤ 140737488355328) (hle : es.length ≤ 1099511627775) (hA : Alph w) (hP : Pow w) :
    Calls Tryz.prog 4 #[v, vd] w fun e w' => e = .returned (.bool true) ∧ Below w.heap.size w w' := by
  have cA := awake_any w hA hP
  obtain ⟨N, hN, cAll⟩ := all_whole xs hx hlx
  obtain ⟨m, hm, cEnt⟩ := entries_whole es he hle
  have HA := Lib.hid hA
  have HP := Lib.hid hP
  have HG := Lib.hid hg
  have HD := Lib.hid hd
  obtain ⟨va, vc, rfl, hcx⟩ := hg
  obtain ⟨da, dc, rfl, _⟩ := hd
  have HCX := Lib.hid hcx
  clear hA hP hcx
  by_cases b1 : 1000 < N
  · clear hN hm
    go_enter Tryz.func4, Tryz.ntmps4
    go_wp2_with fail
    refine cA.mono ?_
    rintro e w1 ⟨rfl, hb1⟩
    clear cA
    go_wp2_with fail
    refine (cAll _ _ (HG.out.below hb1)).mono ?_
    rintro e w2 ⟨hb2, u2, rfl, _⟩
    have hb2 := hb1.trans (hb2.mono hb1.size)
    clear cAll hb1
    go_wp2_with fail
    refine (cEnt _ _ (HD.out.below hb2)).mono ?_
    rintro e w3 ⟨hb3, u3, rfl, _⟩
    have hb3 := hb2.trans (hb3.mono hb2.size)
    clear cEnt hb2
    go_wp2_with fail
    go_ret
    exact ⟨rfl, hb3⟩
  · by_cases b2 : 1000 < m
    · clear hN hm
      go_enter Tryz.func4, Tryz.ntmps4
      go_wp2_with fail
      refine cA.mono ?_
      rintro e w1 ⟨rfl, hb1⟩
      clear cA
      go_wp2_with fail
      refine (cAll _ _ (HG.out.below hb1)).mono ?_
      rintro e w2 ⟨hb2, u2, rfl, _⟩
      have hb2 := hb1.trans (hb2.mono hb1.size)
      clear cAll hb1
      go_wp2_with fail
      refine (cEnt _ _ (HD.out.below hb2)).mono ?_
      rintro e w3 ⟨hb3, u3, rfl, _⟩
      have hb3 := hb2.trans (hb3.mono hb2.size)
      clear cEnt hb2
      go_wp2_with fail
      go_ret
      exact ⟨rfl, hb3⟩
    · obtain ⟨_, hsum⟩ := allN_few xs 0 (by omega) (by omega) hx (by omega)
      obtain ⟨_, hesum⟩ := allE_few es 0 (by omega) (by omega) he (by omega)
      have hxs : ∀ M ∈ xs, memsz M ≤ 1000 := fun M h => by have := memSum_mem xs M h; omega
      have hes : ∀ E ∈ es, memsz E.val ≤ 1000 ∧ E.key.length ≤ 1000 := fun E h => by
        have h1 := entSum_mem es E h
        have h2 : entsz E = E.key.length + memsz E.val := rfl
        omega
      have hxl : xs.length ≤ 1000 := by have := memSum_len xs; omega
      have hel : es.length ≤ 1000 := by have := entSum_len es; omega
      have cPL := fun v W h hA hP => printList_any v xs W h hxl (fun M h => memsz_ok (hxs M h) (hx M h).nm) (fun M h t ht => by have h1 := memT_size M t ht; have h2 := hxs M h; omega) hA hP
      have cRL := fun v W h => rprintList_any v xs W h hxl (fun M h => memsz_ok (hxs M h) (hx M h).nm) (fun M h t ht => by have h1 := memT_size M t ht; have h2 := hxs M h; omega)
      have cPD := fun v W h hA hP => printDict_any v es W h hel (fun E h => ⟨memsz_ok (hes E h).1 (he E h).1.nm, by have := (hes E h).2; omega⟩) (fun E h t ht => by have h1 := memT_size E.val t ht; have h2 := (hes E h).1; omega) hA hP
      have cRD := fun v W h => rprintDict_any v es W h hel (fun E h => ⟨memsz_ok (hes E h).1 (he E h).1.nm, by have := (hes E h).2; omega⟩) (fun E h t ht => by have h1 := memT_size E.val t ht; have h2 := (hes E h).1; omega)
      obtain ⟨X, E1, hX, _⟩ := textV_form (lsT xs)
      obtain ⟨Y, E2, hY, _⟩ := textV_form (dcT es)
      rw [hX] at cPL cRL
      rw [hY] at cPD cRD
      have HSm : Hid (∀ M ∈ xs, MemSm M) := Lib.hid fun M h => memsz_sm (hxs M h)
      have hNl : N ≤ 1000 := by omega
      have hml : m ≤ 1000 := by omega
      clear hX hY hN hm hx he hxs hes hsum hesum hlx hle hel
      go_enter Tryz.func4, Tryz.ntmps4
      go_wp2_with fail
      refine cA.mono ?_
      rintro e w1 ⟨rfl, hb1⟩
      clear cA
      go_wp2_with fail
      refine (cAll _ _ (HG.out.below hb1)).mono ?_
      rintro e w2 ⟨hb2, u2, rfl, hu2⟩
      have hu2 := hu2 hNl
      have HU2 := Lib.hid hu2
      have HB2 := Lib.hid (hb1.trans (hb2.mono hb1.size))
      obtain ⟨ua, uc, rfl, hcu⟩ := hu2
      have HCU := Lib.hid hcu
      clear hb1 hb2 hcu cAll
      go_wp2_with fail
      refine (cEnt _ _ (HD.out.below HB2.out)).mono ?_
      rintro e w3 ⟨hb3, u3, rfl, hu3⟩
      have hu3 := hu3 hml
      have HU3 := Lib.hid hu3
      have HB23 := Lib.hid hb3
      have HB3 := Lib.hid (HB2.out.trans (hb3.mono HB2.out.size))
      obtain ⟨ea, ec, rfl, _⟩ := hu3
      clear hb3 cEnt
      go_wp2_with fail
      refine (cPL _ _ (HG.out.below HB3.out) (HA.out.below HB3.out) (HP.out.below HB3.out)).mono ?_
      rintro e w4 ⟨rfl, hb4⟩
      have HB24 := Lib.hid (HB23.out.trans (hb4.mono HB23.out.size))
      have HB34 := Lib.hid hb4
      have HB4 := Lib.hid (HB3.out.trans (hb4.mono HB3.out.size))
      clear hb4 cPL HB23
      go_wp2_with fail
      refine (cRL _ _ (HU2.out.below HB24.out)).mono ?_
      rintro e w5 ⟨rfl, hb5⟩
      have HB25 := Lib.hid (HB24.out.trans (hb5.mono HB24.out.size))
      have HB35 := Lib.hid (HB34.out.trans (hb5.mono HB34.out.size))
      have HB5 := Lib.hid (HB4.out.trans (hb5.mono HB4.out.size))
      clear hb5 cRL HB24 HB34 HB4 HB3
      go_wp2_with fail
      refine (cPD _ _ (HD.out.below HB5.out) (HA.out.below HB5.out) (HP.out.below HB5.out)).mono ?_
      rintro e w6 ⟨rfl, hb6⟩
      have HB26 := Lib.hid (HB25.out.trans (hb6.mono HB25.out.size))
      have HB36 := Lib.hid (HB35.out.trans (hb6.mono HB35.out.size))
      have HB6 := Lib.hid (HB5.out.trans (hb6.mono HB5.out.size))
      clear hb6 cPD HB25 HB35 HB5
      go_wp2_with fail
      refine (cRD _ _ (HU3.out.below HB36.out)).mono ?_
      rintro e w7 ⟨rfl, hb7⟩
      have HB27 := Lib.hid (HB26.out.trans (hb7.mono HB26.out.size))
      have HB7 := Lib.hid (HB6.out.trans (hb7.mono HB6.out.size))
      clear hb7 cRD HB26 HB36 HB6 HU3 HU2 HD HA HP HG
      go_wp2_with fail
      go_loopw [18] (fun i wr => ∃ j : Nat, i = .int .i64 ((j : Int) + 1) ∧ j ≤ xs.length ∧ Below w7.heap.size w7 wr) (fun i _ => xs.length + 1 - (intOf i).toNat)
      case atStart => exact ⟨0, rfl, Nat.zero_le _, Below.refl _ _⟩
      case round =>
        obtain ⟨j, rfl, hj, hb⟩ := hrel
        by_cases hlt : j + 1 < xs.length
        · have jI : (j : Int) + 1 < (xs.length : Int) := by omega
          have j0 : (0 : Int) ≤ (j : Int) + 1 := by omega
          have jI1 : (j : Int) < (xs.length : Int) := by omega
          have j01 : (0 : Int) ≤ (j : Int) := by omega
          have hw : IntKind.i64.wrap (j : Int) = (j : Int) := by rw [IntWalk.i64_left, IntWalk.wrap64_in (j : Int) (by omega)]
          have hn : ((j : Int) + 1).toNat = j + 1 := by omega
          rcases HCX.out with hnil | ⟨A, off, rfl, _, _, hA, hcell⟩
          · exfalso
            rw [hnil] at hlt
            simp at hlt
          rcases HCU.out with hnil | ⟨B, off2, rfl, _, _, hB, hcell2⟩
          · exfalso
            rw [hnil] at hlt
            simp at hlt
          obtain ⟨M, hM⟩ : ∃ M, xs[j]? = some M := ⟨_, List.getElem?_eq_getElem (by omega)⟩
          obtain ⟨L, hL⟩ : ∃ L, xs[j + 1]? = some L := ⟨_, List.getElem?_eq_getElem hlt⟩
          have hbw := HB7.out.trans (hb.mono HB7.out.size)
          have hbu := HB27.out.trans (hb.mono HB27.out.size)
          obtain ⟨⟨p1, p2, p3⟩, hpc, f1, f2, f3⟩ := hcell j M hM
          obtain ⟨⟨q1, q2, q3⟩, hqc, g1, g2, g3⟩ := hcell (j + 1) L hL
          obtain ⟨⟨r1, r2, r3⟩, hrc, h1, h2, h3⟩ := hcell2 j M hM
          obtain ⟨⟨s1, s2, s3⟩, hsc, i1, i2, i3⟩ := hcell2 (j + 1) L hL
          have y1 : Row7 wr A (off + j * 7) M (strB M.it.s) p1 p2 p3 := Row7.below (mem7 hpc) hbw
          have y2 : Row7 wr A (off + (j + 1) * 7) L (strB L.it.s) q1 q2 q3 := Row7.below (mem7 hqc) hbw
          have y3 : Row7 wr B (off2 + j * 7) M (strB M.it.s) r1 r2 r3 := Row7.below (mem7 hrc) hbu
          have y4 : Row7 wr B (off2 + (j + 1) * 7) L (strB L.it.s) s1 s2 s3 := Row7.below (mem7 hsc) hbu
          have hSm := HSm.out M (List.mem_of_getElem? hM)
          have hSl := HSm.out L (List.mem_of_getElem? hL)
          have a1 := MemAt.below (v := aggM M.inner M.it.k M.it.n (strB M.it.s) p1 p2 p3) ⟨p1, p2, p3, rfl, f1, f2, f3⟩ hbw
          have a2 := MemAt.below (v := aggM L.inner L.it.k L.it.n (strB L.it.s) q1 q2 q3) ⟨q1, q2, q3, rfl, g1, g2, g3⟩ hbw
          have a3 := MemAt.below (v := aggM M.inner M.it.k M.it.n (strB M.it.s) r1 r2 r3) ⟨r1, r2, r3, rfl, h1, h2, h3⟩ hbu
          have a4 := MemAt.below (v := aggM L.inner L.it.k L.it.n (strB L.it.s) s1 s2 s3) ⟨s1, s2, s3, rfl, i1, i2, i3⟩ hbu
          have cS : ∀ W, (Row7 W A (off + j * 7) M (strB M.it.s) p1 p2 p3 ∧ Row7 W A (off + (j + 1) * 7) L (strB L.it.s) q1 q2 q3 ∧ Row7 W B (off2 + j * 7) M (strB M.it.s) r1 r2 r3 ∧ Row7 W B (off2 + (j + 1) * 7) L (strB L.it.s) s1 s2 s3 ∧ Below wr.heap.size wr W) → Calls Tryz.prog 23 #[aggM M.inner M.it.k M.it.n (strB M.it.s) p1 p2 p3, aggM L.inner L.it.k L.it.n (strB L.it.s) q1 q2 q3] W fun e w' => e = .returned (.bool (sameM M L)) ∧ (Row7 w' A (off + j * 7) M (strB M.it.s) p1 p2 p3 ∧ Row7 w' A (off + (j + 1) * 7) L (strB L.it.s) q1 q2 q3 ∧ Row7 w' B (off2 + j * 7) M (strB M.it.s) r1 r2 r3 ∧ Row7 w' B (off2 + (j + 1) * 7) L (strB L.it.s) s1 s2 s3 ∧ Below wr.heap.size wr w') := fun W hW =>
            (msame_any M L _ _ W (a1.below hW.2.2.2.2) (a2.below hW.2.2.2.2) hSm hSl).mono fun e w' hh => ⟨hh.1, Row7.below hW.1 hh.2, Row7.below hW.2.1 hh.2, Row7.below hW.2.2.1 hh.2, Row7.below hW.2.2.2.1 hh.2, hW.2.2.2.2.trans (hh.2.mono hW.2.2.2.2.size)⟩
          have cR : ∀ W, (Row7 W A (off + j * 7) M (strB M.it.s) p1 p2 p3 ∧ Row7 W A (off + (j + 1) * 7) L (strB L.it.s) q1 q2 q3 ∧ Row7 W B (off2 + j * 7) M (strB M.it.s) r1 r2 r3 ∧ Row7 W B (off2 + (j + 1) * 7) L (strB L.it.s) s1 s2 s3 ∧ Below wr.heap.size wr W) → Calls Tryz.prog 17 #[aggM M.inner M.it.k M.it.n (strB M.it.s) r1 r2 r3, aggM L.inner L.it.k L.it.n (strB L.it.s) s1 s2 s3] W fun e w' => e = .returned (.bool (sameM M L)) ∧ (Row7 w' A (off + j * 7) M (strB M.it.s) p1 p2 p3 ∧ Row7 w' A (off + (j + 1) * 7) L (strB L.it.s) q1 q2 q3 ∧ Row7 w' B (off2 + j * 7) M (strB M.it.s) r1 r2 r3 ∧ Row7 w' B (off2 + (j + 1) * 7) L (strB L.it.s) s1 s2 s3 ∧ Below wr.heap.size wr w') := fun W hW =>
            (r4same_any M L _ _ W (a3.below hW.2.2.2.2) (a4.below hW.2.2.2.2) hSm hSl).mono fun e w' hh => ⟨hh.1, Row7.below hW.1 hh.2, Row7.below hW.2.1 hh.2, Row7.below hW.2.2.1 hh.2, Row7.below hW.2.2.2.1 hh.2, hW.2.2.2.2.trans (hh.2.mono hW.2.2.2.2.size)⟩
          have hS0 : (Row7 wr.drew A (off + j * 7) M (strB M.it.s) p1 p2 p3 ∧ Row7 wr.drew A (off + (j + 1) * 7) L (strB L.it.s) q1 q2 q3 ∧ Row7 wr.drew B (off2 + j * 7) M (strB M.it.s) r1 r2 r3 ∧ Row7 wr.drew B (off2 + (j + 1) * 7) L (strB L.it.s) s1 s2 s3 ∧ Below wr.heap.size wr wr.drew) := ⟨Row7.below y1 (Below.refl _ _).drew, Row7.below y2 (Below.refl _ _).drew, Row7.below y3 (Below.refl _ _).drew, Row7.below y4 (Below.refl _ _).drew, (Below.refl _ _).drew⟩
          obtain ⟨pa1, pb1, rfl⟩ := f1.form
          obtain ⟨pa2, pb2, rfl⟩ := f2.form
          obtain ⟨pa3, pb3, rfl⟩ := f3.form
          obtain ⟨qa1, qb1, rfl⟩ := g1.form
          obtain ⟨qa2, qb2, rfl⟩ := g2.form
          obtain ⟨qa3, qb3, rfl⟩ := g3.form
          obtain ⟨ra1, rb1, rfl⟩ := h1.form
          obtain ⟨ra2, rb2, rfl⟩ := h2.form
          obtain ⟨ra3, rb3, rfl⟩ := h3.form
          obtain ⟨sa1, sb1, rfl⟩ := i1.form
          obtain ⟨sa2, sb2, rfl⟩ := i2.form
          obtain ⟨sa3, sb3, rfl⟩ := i3.form
          have HBr := Lib.hid hb
          clear hcell hcell2 hpc hqc hrc hsc f1 f2 f3 g1 g2 g3 h1 h2 h3 i1 i2 i3 y1 y2 y3 y4 a1 a2 a3 a4 hSm hSl hM hL hbw hbu hA hB HCX HCU HSm hb
          generalize sameM M L = R at *
          generalize strB M.it.s = MS at *
          generalize strB L.it.s = LS at *
          go_wp2_with fail
          go_region_held3 (fun W => (W.cell? ⟨A, off + j * 7, none⟩ = some (.bool M.inner) ∧ W.cell? ⟨A, off + j * 7 + 1, none⟩ = some (.int .i64 M.it.k) ∧ W.cell? ⟨A, off + j * 7 + 2, none⟩ = some (.int .i64 M.it.n) ∧ W.cell? ⟨A, off + j * 7 + 3, none⟩ = some (.string MS) ∧ W.cell? ⟨A, off + j * 7 + 4, none⟩ = some (.slice pa1 M.it.ps.length pb1) ∧ W.cell? ⟨A, off + j * 7 + 5, none⟩ = some (.slice pa2 M.its.length pb2) ∧ W.cell? ⟨A, off + j * 7 + 6, none⟩ = some (.slice pa3 M.ps.length pb3)) ∧ (W.cell? ⟨A, off + (j + 1) * 7, none⟩ = some (.bool L.inner) ∧ W.cell? ⟨A, off + (j + 1) * 7 + 1, none⟩ = some (.int .i64 L.it.k) ∧ W.cell? ⟨A, off + (j + 1) * 7 + 2, none⟩ = some (.int .i64 L.it.n) ∧ W.cell? ⟨A, off + (j + 1) * 7 + 3, none⟩ = some (.string LS) ∧ W.cell? ⟨A, off + (j + 1) * 7 + 4, none⟩ = some (.slice qa1 L.it.ps.length qb1) ∧ W.cell? ⟨A, off + (j + 1) * 7 + 5, none⟩ = some (.slice qa2 L.its.length qb2) ∧ W.cell? ⟨A, off + (j + 1) * 7 + 6, none⟩ = some (.slice qa3 L.ps.length qb3)) ∧ (W.cell? ⟨B, off2 + j * 7, none⟩ = some (.bool M.inner) ∧ W.cell? ⟨B, off2 + j * 7 + 1, none⟩ = some (.int .i64 M.it.k) ∧ W.cell? ⟨B, off2 + j * 7 + 2, none⟩ = some (.int .i64 M.it.n) ∧ W.cell? ⟨B, off2 + j * 7 + 3, none⟩ = some (.string MS) ∧ W.cell? ⟨B, off2 + j * 7 + 4, none⟩ = some (.slice ra1 M.it.ps.length rb1) ∧ W.cell? ⟨B, off2 + j * 7 + 5, none⟩ = some (.slice ra2 M.its.length rb2) ∧ W.cell? ⟨B, off2 + j * 7 + 6, none⟩ = some (.slice ra3 M.ps.length rb3)) ∧ (W.cell? ⟨B, off2 + (j + 1) * 7, none⟩ = some (.bool L.inner) ∧ W.cell? ⟨B, off2 + (j + 1) * 7 + 1, none⟩ = some (.int .i64 L.it.k) ∧ W.cell? ⟨B, off2 + (j + 1) * 7 + 2, none⟩ = some (.int .i64 L.it.n) ∧ W.cell? ⟨B, off2 + (j + 1) * 7 + 3, none⟩ = some (.string LS) ∧ W.cell? ⟨B, off2 + (j + 1) * 7 + 4, none⟩ = some (.slice sa1 L.it.ps.length sb1) ∧ W.cell? ⟨B, off2 + (j + 1) * 7 + 5, none⟩ = some (.slice sa2 L.its.length sb2) ∧ W.cell? ⟨B, off2 + (j + 1) * 7 + 6, none⟩ = some (.slice sa3 L.ps.length sb3)) ∧ Below wr.heap.size wr W) (with_reducible assumption)
            (first
            | (go_at_call 23; with_reducible refine (cS _ (by with_reducible assumption)).mono ?_; rintro e w' ⟨rfl, hh⟩)
            | (go_at_call 17; with_reducible refine (cR _ (by with_reducible assumption)).mono ?_; rintro e w' ⟨rfl, hh⟩))
          all_goals
            go_wp2_with fail
            go_roundw
            case rel => exact ⟨j + 1, by go_num, by omega, HBr.out.trans (hh.2.2.2.2.mono HBr.out.size)⟩
            case measure => simp [intOf]; omega
        · have jI : ¬ (j : Int) + 1 < (xs.length : Int) := by omega
          go_wp2_with fail
          go_ret
          exact ⟨rfl, HB7.out.trans (hb.mono HB7.out.size)⟩

end Go.Proofs.YtjbipplaacgnkaaGreatDoor
