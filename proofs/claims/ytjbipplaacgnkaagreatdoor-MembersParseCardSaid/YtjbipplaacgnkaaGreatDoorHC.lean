/- The contract of the law's same (scullerylaw04): are entries the document's? · The walk of the law MembersBack. -/
import Derived.Test.YtjbipplaacgnkaaGreatDoorHB
import Derived.Test.YtjbipplaacgnkaaGreatDoorGS
import Derived.BigQuiet

namespace Go.Proofs.YtjbipplaacgnkaaGreatDoor
open Go.RowKit Go.Maps

/-- What the walk holds: the keys, the members' cells, and the world that it began with. -/
abbrev heldE (w : World) (A c B d : Nat) (ka kb : ByteArray) (a0 a1 a2 a3 a4 a5 a6 b0 b1 b2 b3 b4 b5 b6 : Value) (W : World) : Prop :=
  W.cell? ⟨A, c, none⟩ = some (.string ka) ∧ W.cell? ⟨B, d, none⟩ = some (.string kb) ∧
  (W.cell? ⟨A, c + 1, none⟩ = some a0 ∧ W.cell? ⟨A, c + 2, none⟩ = some a1 ∧ W.cell? ⟨A, c + 3, none⟩ = some a2 ∧ W.cell? ⟨A, c + 4, none⟩ = some a3 ∧ W.cell? ⟨A, c + 5, none⟩ = some a4 ∧ W.cell? ⟨A, c + 6, none⟩ = some a5 ∧ W.cell? ⟨A, c + 7, none⟩ = some a6) ∧
  (W.cell? ⟨B, d + 1, none⟩ = some b0 ∧ W.cell? ⟨B, d + 2, none⟩ = some b1 ∧ W.cell? ⟨B, d + 3, none⟩ = some b2 ∧ W.cell? ⟨B, d + 4, none⟩ = some b3 ∧ W.cell? ⟨B, d + 5, none⟩ = some b4 ∧ W.cell? ⟨B, d + 6, none⟩ = some b5 ∧ W.cell? ⟨B, d + 7, none⟩ = some b6) ∧ Below w.heap.size w W
theorem heldE_next {w : World} {A c B d : Nat} {ka kb : ByteArray} {a0 a1 a2 a3 a4 a5 a6 b0 b1 b2 b3 b4 b5 b6 : Value} {W W1 : World} (h : heldE w A c B d ka kb a0 a1 a2 a3 a4 a5 a6 b0 b1 b2 b3 b4 b5 b6 W) (hb : Below W.heap.size W W1) : heldE w A c B d ka kb a0 a1 a2 a3 a4 a5 a6 b0 b1 b2 b3 b4 b5 b6 W1 := by
  have k : ∀ {b i : Nat} {v : Value}, W.cell? ⟨b, i, none⟩ = some v → W1.cell? ⟨b, i, none⟩ = some v := fun {b i v} hc => (hb.cell (p := ⟨b, i, none⟩) (lt_of_cell hc)).trans hc
  obtain ⟨q0, q1, ⟨p0, p1, p2, p3, p4, p5, p6⟩, ⟨r0, r1, r2, r3, r4, r5, r6⟩, hw⟩ := h
  exact ⟨k q0, k q1, ⟨k p0, k p1, k p2, k p3, k p4, k p5, k p6⟩, ⟨k r0, k r1, k r2, k r3, k r4, k r5, k r6⟩, hw.trans (hb.mono hw.size)⟩

set_option maxRecDepth 100000 in
set_option maxHeartbeats 4000000 in
theorem same_any (xs ys : List Ent) (v1 v2 : Value) (w : World) (h1 : GOff entR 0 none w v1 xs) (h2 : GOff entR 0 none w v2 ys) (hx : ∀ E ∈ xs, MemSm E.val) (hy : ∀ E ∈ ys, MemSm E.val) (hl : xs.length ≤ 1000000) :
    Calls Tryz.prog 15 #[v1, v2] w fun e w' => Below w.heap.size w w' ∧ ∃ b, e = .returned (.bool b) ∧ (b = true ↔ xs = ys) := by
  obtain ⟨ao, ac, rfl, hc1⟩ := h1
  obtain ⟨bo, bc, rfl, hc2⟩ := h2
  have HC1 := Lib.hid hc1
  have HC2 := Lib.hid hc2
  have HX := Lib.hid hx
  have HY := Lib.hid hy
  clear hc1 hc2 hx hy
  by_cases hll : xs.length = ys.length
  · have HL := Lib.hid hll
    rw [← hll]
    clear hll
    go_enter Tryz.func15, Tryz.ntmps15
    go_wp2_with fail
    go_loopw [5] (fun i wr => ∃ j : Nat, i = .int .i64 j ∧ j ≤ xs.length ∧ Hid (∀ m, m < j → xs[m]? = ys[m]?) ∧ Below w.heap.size w wr) (fun i _ => xs.length - (intOf i).toNat)
    case atStart => exact ⟨0, rfl, Nat.zero_le _, Lib.hid (fun m h => absurd h (by omega)), Below.refl _ _⟩
    case round =>
      obtain ⟨j, rfl, hj, H, hb⟩ := hrel
      by_cases hlt : j < xs.length
      · rcases HC1.out with hnil | ⟨A, off, rfl, _, _, hA, hcell⟩
        · exfalso
          rw [hnil] at hlt
          simp at hlt
        · rcases HC2.out with hnil2 | ⟨B, off2, rfl, _, _, hB, hcell2⟩
          · exfalso
            have h0 := HL.out
            rw [hnil2, List.length_nil] at h0
            omega
          · obtain ⟨p, hp⟩ : ∃ p, xs[j]? = some p := ⟨_, List.getElem?_eq_getElem hlt⟩
            obtain ⟨q, hq⟩ : ∃ q, ys[j]? = some q := ⟨_, List.getElem?_eq_getElem (by have := HL.out; omega)⟩
            obtain ⟨⟨t1, t2, t3⟩, hpc, f1, f2, f3⟩ := hcell j p hp
            obtain ⟨⟨s1, s2, s3⟩, hqc, e1, e2, e3⟩ := hcell2 j q hq
            simp only [show entR.size = 8 from rfl] at hpc hqc
            obtain ⟨y0, y1⟩ := ent8 hpc
            obtain ⟨z0, z1⟩ := ent8 hqc
            have hS := heldE_next ⟨y0, z0, y1, z1, Below.refl w.heap.size w⟩ hb
            have cS : ∀ W, heldE w A (off + j * 8) B (off2 + j * 8) (strB p.key) (strB q.key) (.bool p.val.inner) (.int .i64 p.val.it.k) (.int .i64 p.val.it.n) (.string (strB p.val.it.s)) t1 t2 t3 (.bool q.val.inner) (.int .i64 q.val.it.k) (.int .i64 q.val.it.n) (.string (strB q.val.it.s)) s1 s2 s3 W → Calls Tryz.prog 17 #[aggM p.val.inner p.val.it.k p.val.it.n (strB p.val.it.s) t1 t2 t3, aggM q.val.inner q.val.it.k q.val.it.n (strB q.val.it.s) s1 s2 s3] W fun e w' => e = .returned (.bool (sameM p.val q.val)) ∧ heldE w A (off + j * 8) B (off2 + j * 8) (strB p.key) (strB q.key) (.bool p.val.inner) (.int .i64 p.val.it.k) (.int .i64 p.val.it.n) (.string (strB p.val.it.s)) t1 t2 t3 (.bool q.val.inner) (.int .i64 q.val.it.k) (.int .i64 q.val.it.n) (.string (strB q.val.it.s)) s1 s2 s3 w' := fun W hW =>
              (r4same_any p.val q.val _ _ W (MemAt.below ⟨t1, t2, t3, rfl, f1, f2, f3⟩ hW.2.2.2.2) (MemAt.below ⟨s1, s2, s3, rfl, e1, e2, e3⟩ hW.2.2.2.2) (HX.out p (List.mem_of_getElem? hp)) (HY.out q (List.mem_of_getElem? hq))).mono fun e w' hh => ⟨hh.1, heldE_next hW hh.2⟩
            have hS0 : heldE w A (off + j * 8) B (off2 + j * 8) (strB p.key) (strB q.key) (.bool p.val.inner) (.int .i64 p.val.it.k) (.int .i64 p.val.it.n) (.string (strB p.val.it.s)) t1 t2 t3 (.bool q.val.inner) (.int .i64 q.val.it.k) (.int .i64 q.val.it.n) (.string (strB q.val.it.s)) s1 s2 s3 wr.drew := heldE_next hS (Below.refl _ _).drew
            obtain ⟨ta1, tb1, rfl⟩ := f1.form
            obtain ⟨ta2, tb2, rfl⟩ := f2.form
            obtain ⟨ta3, tb3, rfl⟩ := f3.form
            obtain ⟨sa1, sb1, rfl⟩ := e1.form
            obtain ⟨sa2, sb2, rfl⟩ := e2.form
            obtain ⟨sa3, sb3, rfl⟩ := e3.form
            have jI : (j : Int) < (xs.length : Int) := by omega
            have j0 : (0 : Int) ≤ (j : Int) := by omega
            have hpq : Hid (p = q ↔ p.key = q.key ∧ sameM p.val q.val = true) := Lib.hid (by
              rw [sameM_iff]
              obtain ⟨a, b⟩ := p
              obtain ⟨c, d⟩ := q
              simp)
            have hkk : Hid (p.key = q.key ↔ ((strB p.key).toList == (strB q.key).toList) = true) := Lib.hid (by rw [beq_iff_eq, Lib.toList_data, Lib.toList_data, strB_data, strB_data])
            have HP := Lib.hid hp
            have HQ := Lib.hid hq
            obtain ⟨m0, m1, _, _, m9⟩ := hS
            clear hcell hcell2 hpc hqc f1 f2 f3 e1 e2 e3 hA hB hp hq hb y0 y1 z0 z1
            generalize strB p.key = PK at *
            generalize strB q.key = QK at *
            generalize sameM p.val q.val = R at *
            generalize strB p.val.it.s = PS at *
            generalize strB q.val.it.s = QS at *
            cases hke : (PK.toList == QK.toList)
            · have HS : Hid (¬ xs = ys) := Lib.hid (fun e => by
                have h := HP.out
                rw [e, HQ.out] at h
                have h2 := hkk.out.1 (hpq.out.1 (Option.some.inj h).symm).1
                rw [hke] at h2
                cases h2)
              have hb9 := Lib.hid m9
              clear H hpq hkk HP HQ cS
              go_wp2_with fail
              go_quiet (fail)
              all_goals go_wp2_with fail
              all_goals go_ret
              all_goals exact ⟨hb9.out.trans ((below_drewN _ _).mono hb9.out.size), false, rfl, by simpa using HS.out⟩
            · cases R
              · have HS : Hid (¬ xs = ys) := Lib.hid (fun e => by
                  have h := HP.out
                  rw [e, HQ.out] at h
                  exact absurd (hpq.out.1 (Option.some.inj h).symm).2 (by decide))
                clear H hpq hkk HP HQ
                go_wp2_with fail
                go_region_held3 (fun W => W.cell? ⟨A, off + j * 8, none⟩ = some (.string PK) ∧ W.cell? ⟨B, off2 + j * 8, none⟩ = some (.string QK) ∧ (W.cell? ⟨A, off + j * 8 + 1, none⟩ = some (.bool p.val.inner) ∧ W.cell? ⟨A, off + j * 8 + 2, none⟩ = some (.int .i64 p.val.it.k) ∧ W.cell? ⟨A, off + j * 8 + 3, none⟩ = some (.int .i64 p.val.it.n) ∧ W.cell? ⟨A, off + j * 8 + 4, none⟩ = some (.string PS) ∧ W.cell? ⟨A, off + j * 8 + 5, none⟩ = some (.slice ta1 p.val.it.ps.length tb1) ∧ W.cell? ⟨A, off + j * 8 + 6, none⟩ = some (.slice ta2 p.val.its.length tb2) ∧ W.cell? ⟨A, off + j * 8 + 7, none⟩ = some (.slice ta3 p.val.ps.length tb3)) ∧ (W.cell? ⟨B, off2 + j * 8 + 1, none⟩ = some (.bool q.val.inner) ∧ W.cell? ⟨B, off2 + j * 8 + 2, none⟩ = some (.int .i64 q.val.it.k) ∧ W.cell? ⟨B, off2 + j * 8 + 3, none⟩ = some (.int .i64 q.val.it.n) ∧ W.cell? ⟨B, off2 + j * 8 + 4, none⟩ = some (.string QS) ∧ W.cell? ⟨B, off2 + j * 8 + 5, none⟩ = some (.slice sa1 q.val.it.ps.length sb1) ∧ W.cell? ⟨B, off2 + j * 8 + 6, none⟩ = some (.slice sa2 q.val.its.length sb2) ∧ W.cell? ⟨B, off2 + j * 8 + 7, none⟩ = some (.slice sa3 q.val.ps.length sb3)) ∧ Below w.heap.size w W) (with_reducible assumption)
                  (first | (go_at_call 17; with_reducible refine (cS _ (by with_reducible assumption)).mono ?_; rintro e w' ⟨rfl, hh⟩))
                all_goals go_wp2_with fail
                all_goals go_ret
                all_goals exact ⟨hh.2.2.2.2, false, rfl, by simpa using HS.out⟩
              · have Hn : Hid (∀ m, m < j + 1 → xs[m]? = ys[m]?) := Lib.hid (fun m hm => by
                  by_cases e : m = j
                  · subst e; rw [HP.out, HQ.out, hpq.out.2 ⟨hkk.out.2 hke, rfl⟩]
                  · exact H.out m (by omega))
                clear H hpq hkk HP HQ
                go_wp2_with fail
                go_region_held3 (fun W => W.cell? ⟨A, off + j * 8, none⟩ = some (.string PK) ∧ W.cell? ⟨B, off2 + j * 8, none⟩ = some (.string QK) ∧ (W.cell? ⟨A, off + j * 8 + 1, none⟩ = some (.bool p.val.inner) ∧ W.cell? ⟨A, off + j * 8 + 2, none⟩ = some (.int .i64 p.val.it.k) ∧ W.cell? ⟨A, off + j * 8 + 3, none⟩ = some (.int .i64 p.val.it.n) ∧ W.cell? ⟨A, off + j * 8 + 4, none⟩ = some (.string PS) ∧ W.cell? ⟨A, off + j * 8 + 5, none⟩ = some (.slice ta1 p.val.it.ps.length tb1) ∧ W.cell? ⟨A, off + j * 8 + 6, none⟩ = some (.slice ta2 p.val.its.length tb2) ∧ W.cell? ⟨A, off + j * 8 + 7, none⟩ = some (.slice ta3 p.val.ps.length tb3)) ∧ (W.cell? ⟨B, off2 + j * 8 + 1, none⟩ = some (.bool q.val.inner) ∧ W.cell? ⟨B, off2 + j * 8 + 2, none⟩ = some (.int .i64 q.val.it.k) ∧ W.cell? ⟨B, off2 + j * 8 + 3, none⟩ = some (.int .i64 q.val.it.n) ∧ W.cell? ⟨B, off2 + j * 8 + 4, none⟩ = some (.string QS) ∧ W.cell? ⟨B, off2 + j * 8 + 5, none⟩ = some (.slice sa1 q.val.it.ps.length sb1) ∧ W.cell? ⟨B, off2 + j * 8 + 6, none⟩ = some (.slice sa2 q.val.its.length sb2) ∧ W.cell? ⟨B, off2 + j * 8 + 7, none⟩ = some (.slice sa3 q.val.ps.length sb3)) ∧ Below w.heap.size w W) (with_reducible assumption)
                  (first | (go_at_call 17; with_reducible refine (cS _ (by with_reducible assumption)).mono ?_; rintro e w' ⟨rfl, hh⟩))
                all_goals
                  go_wp2_with fail
                  go_roundw
                  case rel => exact ⟨j + 1, by go_num, by omega, Lib.hid Hn.out, hh.2.2.2.2⟩
                  case measure => simp [intOf]; omega
      · obtain rfl : j = xs.length := by omega
        have HR : Hid (xs = ys) := Lib.hid (List.ext_getElem? fun m => by
          by_cases e : m < xs.length
          · exact H.out m e
          · rw [List.getElem?_eq_none (by omega), List.getElem?_eq_none (by have := HL.out; omega)])
        clear H
        go_wp2_with fail
        go_ret
        exact ⟨hb, true, rfl, by simpa using HR.out⟩
  · have n1 : ((xs.length : Int) != (ys.length : Int)) = true := by simp; omega
    have HR : Hid (¬ xs = ys) := Lib.hid (fun e => hll (by rw [e]))
    clear hll
    go_enter Tryz.func15, Tryz.ntmps15
    go_wp2_with fail
    go_ret
    exact ⟨Below.refl _ _, false, rfl, by simpa using HR.out⟩

end Go.Proofs.YtjbipplaacgnkaaGreatDoor

namespace Go.Proofs.YtjbipplaacgnkaaGreatDoor
open Go.RowKit Go.Maps

/-- A text or none, as it is told. -/
theorem textV_either (o : Option (List UInt8)) : (∃ a, o = some a ∧ textV o = .tuple #[.string (strB a), .int .i64 0]) ∨ (o = none ∧ textV o = .tuple #[.string (strB []), .int .i64 2]) := by
  cases o with
  | none => exact .inr ⟨rfl, rfl⟩
  | some a => exact .inl ⟨a, rfl, rfl⟩

/-- The law's all and entries, of these. -/
theorem all_of (xs : List Mem) (hM : ∀ M ∈ xs, MemLn M) (hl : xs.length ≤ 1256584717458) : ∃ (N : Int) (ys : List Mem), N = (allN 0 xs).2 ∧ (∀ M ∈ ys, M ∈ xs) ∧ ys.length ≤ xs.length ∧ ∀ v W, GOff memR 0 none W v xs → Calls Tryz.prog 12 #[v] W fun e w' => Below W.heap.size W w' ∧ ∃ u, e = .returned (.tuple #[u, .int .i64 N]) ∧ GOff memR 0 none w' u ys :=
  ⟨_, xs.take (allN 0 xs).1, rfl, fun _ h => List.mem_of_mem_take h, List.length_take_le' _ _, fun v W h => (all_any xs v W h hM hl).mono fun _ _ ⟨hb, u, he, hg⟩ => ⟨hb, u, he, hg.low (Nat.zero_le _)⟩⟩
theorem entries_of (xs : List Ent) (hM : ∀ E ∈ xs, MemLn E.val) (hl : xs.length ≤ 1099511627775) : ∃ (N : Int) (ys : List Ent), N = (allE 0 xs).2 ∧ (∀ E ∈ ys, E ∈ xs) ∧ ys.length ≤ xs.length ∧ ∀ v W, GOff entR 0 none W v xs → Calls Tryz.prog 13 #[v] W fun e w' => Below W.heap.size W w' ∧ ∃ u, e = .returned (.tuple #[u, .int .i64 N]) ∧ GOff entR 0 none w' u ys :=
  ⟨_, xs.take (allE 0 xs).1, rfl, fun _ h => List.mem_of_mem_take h, List.length_take_le' _ _, fun v W h => (entries_any xs v W h hM hl).mono fun _ _ ⟨hb, u, he, hg⟩ => ⟨hb, u, he, hg.low (Nat.zero_le _)⟩⟩

set_option maxRecDepth 100000 in
set_option maxHeartbeats 4000000 in
theorem mback_walk (xs : List Mem) (es : List Ent) (v vd : Value) (s : ByteArray) (w : World) (hg : GOff memR 0 none w v xs) (hd : GOff entR 0 none w vd es) (hx : ∀ M ∈ xs, MmIn M) (hlx : xs.length ≤ 1256584717458) (he : ∀ E ∈ es, MmIn E.val ∧ E.key.length ≤ 140737488355328) (hle : es.length ≤ 1099511627775) (hA : Alph w) (hP : Pow w) :
    Calls Tryz.prog 5 #[v, vd, .string s] w fun e w' => e = .returned (.bool true) ∧ Below w.heap.size w w' := by
  have cA := awake_any w hA hP
  obtain ⟨N, ys, hN, hys, hysl, cAll⟩ := all_of xs (fun M h => (hx M h).ln) hlx
  obtain ⟨m, ds, hm, hds, hdsl, cEnt⟩ := entries_of es (fun E h => (he E h).1.ln) hle
  have HA := Lib.hid hA
  have HP := Lib.hid hP
  have HG := Lib.hid hg
  have HD := Lib.hid hd
  obtain ⟨va, vc, rfl, _⟩ := hg
  obtain ⟨da, dc, rfl, _⟩ := hd
  clear hA hP
  by_cases b1 : 1000 < N
  · clear hN hm
    go_enter Tryz.func5, Tryz.ntmps5
    go_wp2_with fail
    refine cA.mono ?_
    rintro e w1 ⟨rfl, hb1⟩
    clear cA
    go_wp2_with fail
    refine (cAll _ _ (HG.out.below hb1)).mono ?_
    rintro e w2 ⟨hb2, u2, rfl, _⟩
    have hb2 := hb1.trans (hb2.mono hb1.size)
    clear cAll hb1
    go_wp2_with fail
    refine (cEnt _ _ (HD.out.below hb2)).mono ?_
    rintro e w3 ⟨hb3, u3, rfl, _⟩
    have hb3 := hb2.trans (hb3.mono hb2.size)
    clear cEnt hb2
    go_wp2_with fail
    go_ret
    exact ⟨rfl, hb3⟩
  · by_cases b2 : 1000 < m
    · clear hN hm
      go_enter Tryz.func5, Tryz.ntmps5
      go_wp2_with fail
      refine cA.mono ?_
      rintro e w1 ⟨rfl, hb1⟩
      clear cA
      go_wp2_with fail
      refine (cAll _ _ (HG.out.below hb1)).mono ?_
      rintro e w2 ⟨hb2, u2, rfl, _⟩
      have hb2 := hb1.trans (hb2.mono hb1.size)
      clear cAll hb1
      go_wp2_with fail
      refine (cEnt _ _ (HD.out.below hb2)).mono ?_
      rintro e w3 ⟨hb3, u3, rfl, _⟩
      have hb3 := hb2.trans (hb3.mono hb2.size)
      clear cEnt hb2
      go_wp2_with fail
      go_ret
      exact ⟨rfl, hb3⟩
    · by_cases b3 : 300 < s.size
      · have b3' : (300 : Int) < (s.size : Int) := by omega
        clear hN hm
        go_enter Tryz.func5, Tryz.ntmps5
        go_wp2_with fail
        refine cA.mono ?_
        rintro e w1 ⟨rfl, hb1⟩
        clear cA
        go_wp2_with fail
        refine (cAll _ _ (HG.out.below hb1)).mono ?_
        rintro e w2 ⟨hb2, u2, rfl, _⟩
        have hb2 := hb1.trans (hb2.mono hb1.size)
        clear cAll hb1
        go_wp2_with fail
        refine (cEnt _ _ (HD.out.below hb2)).mono ?_
        rintro e w3 ⟨hb3, u3, rfl, _⟩
        have hb3 := hb2.trans (hb3.mono hb2.size)
        clear cEnt hb2
        go_wp2_with fail
        go_ret
        exact ⟨rfl, hb3⟩
      · obtain ⟨_, hsum⟩ := allN_few xs 0 (by omega) (by omega) hx (by omega)
        obtain ⟨_, hesum⟩ := allE_few es 0 (by omega) (by omega) he (by omega)
        have hxs : ∀ M ∈ xs, memsz M ≤ 1000 := fun M h => by have := memSum_mem xs M h; omega
        have hes : ∀ E ∈ es, memsz E.val ≤ 1000 ∧ E.key.length ≤ 1000 := fun E h => by
          have h1 := entSum_mem es E h
          have h2 : entsz E = E.key.length + memsz E.val := rfl
          omega
        have hxl : xs.length ≤ 1000 := by have := memSum_len xs; omega
        have hel : es.length ≤ 1000 := by have := entSum_len es; omega
        have hsz : s.data.toList.length = s.size := (Lib.size_eq s).symm
        -- the list
        have cPL := fun v W h hA hP => printList_any v xs W h hxl (fun M h => memsz_ok (hxs M h) (hx M h).nm) (fun M h t ht => by have h1 := memT_size M t ht; have h2 := hxs M h; omega) hA hP
        have cSL := fun v1 v2 W h1 h2 => sameList_any ys ys v1 v2 W h1 h2 (fun M h => memsz_sm (hxs M (hys M h))) (fun M h => memsz_sm (hxs M (hys M h))) (by omega)
        have cL : ∀ a, lsT xs = some a → ∀ W, Alph W → Calls Tryz.prog 8 #[.string (strB a)] W (listPost (some xs) W) := fun a ha W hW => by
          have h1 := jnM_size xs true a ha
          have := list_any (strB a) W (by rw [strB_size]; omega) hW
          rw [strB_data, list_back xs a ha] at this
          exact this
        -- the dictionary
        have cPD := fun v W h hA hP => printDict_any v es W h hel (fun E h => ⟨memsz_ok (hes E h).1 (he E h).1.nm, by have := (hes E h).2; omega⟩) (fun E h t ht => by have h1 := memT_size E.val t ht; have h2 := (hes E h).1; omega) hA hP
        have cSD := fun v1 v2 W h1 h2 => same_any ds ds v1 v2 W h1 h2 (fun E h => memsz_sm (hes E (hds E h)).1) (fun E h => memsz_sm (hes E (hds E h)).1) (by omega)
        have cD : ∀ a, dcT es = some a → ∀ W, Alph W → Calls Tryz.prog 10 #[.string (strB a)] W (dicPost (some es) W) := fun a ha W hW => by
          have h1 := dcT_size es a ha
          have := dict_any (strB a) W (by rw [strB_size]; omega) hW
          rw [strB_data, dict_back es a ha] at this
          exact this
        -- the text
        have cDs := fun W hW => dict_any s W (by omega) hW
        have hT : ∀ fs, dicL s.data.toList = some fs → ∃ t, dcT fs = some t ∧ fs.length ≤ 1000 ∧ (∀ E ∈ fs, memsz E.val ≤ 1000 ∧ E.key.length ≤ 1000 ∧ NmIn E.val) ∧ t.length ≤ 90000 := fun fs hf => by
          obtain ⟨⟨t, ht⟩, hs⟩ := dict_right _ fs hf
          have h1 := dcT_size fs t ht
          have h2 := entSum_len fs
          refine ⟨t, ht, by omega, fun E hE => ?_, by omega⟩
          have h3 := entSum_mem fs E hE
          have h4 : entsz E = E.key.length + memsz E.val := rfl
          have hnm : NmIn E.val := by
            unfold dcT at ht
            split at ht
            · cases ht
            · obtain ⟨y, hy⟩ := jn_each _ _ _ ht E hE
              unfold enT at hy
              cases hm : memT E.val with
              | none => rw [hm] at hy; cases hy
              | some z => exact memT_nm _ z hm
          exact ⟨by omega, by omega, hnm⟩
        obtain ⟨bt, et, htv, hTV⟩ : ∃ (b : ByteArray) (er : Int), textV (lsT xs) = .tuple #[.string b, .int .i64 er] ∧ ((er = 0 ∧ ∃ a, lsT xs = some a ∧ b = strB a) ∨ (er == 0) = false) := by
          rcases textV_either (lsT xs) with ⟨a, h1, h2⟩ | ⟨h1, h2⟩
          · exact ⟨_, _, h2, .inl ⟨rfl, a, h1, rfl⟩⟩
          · exact ⟨_, _, h2, .inr rfl⟩
        obtain ⟨bd, ed, hdv, hDV⟩ : ∃ (b : ByteArray) (er : Int), textV (dcT es) = .tuple #[.string b, .int .i64 er] ∧ ((er = 0 ∧ ∃ a, dcT es = some a ∧ b = strB a) ∨ (er == 0) = false) := by
          rcases textV_either (dcT es) with ⟨a, h1, h2⟩ | ⟨h1, h2⟩
          · exact ⟨_, _, h2, .inl ⟨rfl, a, h1, rfl⟩⟩
          · exact ⟨_, _, h2, .inr rfl⟩
        rw [htv] at cPL
        rw [hdv] at cPD
        have HTV := Lib.hid hTV
        have HDV := Lib.hid hDV
        have HT := Lib.hid hT
        clear hN hm hys hds hysl hdsl hx he hxs hes hsum hesum hlx hle htv hdv hTV hDV hT hsz hxl hel
        generalize hfs : dicL s.data.toList = FS at *
        go_enter Tryz.func5, Tryz.ntmps5
        go_wp2_with fail
        refine cA.mono ?_
        rintro e w1 ⟨rfl, hb1⟩
        clear cA
        go_wp2_with fail
        refine (cAll _ _ (HG.out.below hb1)).mono ?_
        rintro e w2 ⟨hb2, u2, rfl, hu2⟩
        have HU2 := Lib.hid hu2
        have HB2 := Lib.hid (hb1.trans (hb2.mono hb1.size))
        clear hb1 hb2 hu2
        go_wp2_with fail
        refine (cEnt _ _ (HD.out.below HB2.out)).mono ?_
        rintro e w3 ⟨hb3, u3, rfl, hu3⟩
        have HU3 := Lib.hid hu3
        have HB23 := Lib.hid hb3
        have HB3 := Lib.hid (HB2.out.trans (hb3.mono HB2.out.size))
        clear hb3 hu3
        go_wp2_with fail
        refine (cPL _ _ (HG.out.below HB3.out) (HA.out.below HB3.out) (HP.out.below HB3.out)).mono ?_
        rintro e w4 ⟨rfl, hb4⟩
        have HB24 := Lib.hid (HB23.out.trans (hb4.mono HB23.out.size))
        have HB34 := Lib.hid hb4
        have HB4 := Lib.hid (HB3.out.trans (hb4.mono HB3.out.size))
        clear hb4 cPL
        go_upto_if 66 with fail
        go_cut [14] (fun _ wx => Below w4.heap.size w4 wx)
        case first =>
          rcases HTV.out with ⟨rfl, a, ha, rfl⟩ | hne
          · go_wp2_with fail
            refine (cL a ha _ (HA.out.below HB4.out)).mono ?_
            rintro e w5 ⟨hb5, v5, rfl, hv5⟩
            have HB5 := Lib.hid hb5
            have HV5 := Lib.hid (hv5.off.low (Nat.zero_le _))
            obtain ⟨a5, c5, rfl⟩ := owng_form hv5
            clear hv5 hb5
            go_wp2_with fail
            refine (cAll _ _ HV5.out).mono ?_
            rintro e w6 ⟨hb6, u6, rfl, hu6⟩
            have HB6 := Lib.hid (HB5.out.trans (hb6.mono HB5.out.size))
            have HU6 := Lib.hid hu6
            clear hu6 hb6
            go_wp2_with fail
            refine (cSL _ _ _ (HU2.out.below (HB24.out.trans (HB6.out.mono HB24.out.size))) HU6.out).mono ?_
            rintro e w7 ⟨hb7, b, rfl, hbi⟩
            obtain rfl : b = true := by simpa using hbi
            have HB7 := Lib.hid (HB6.out.trans (hb7.mono HB6.out.size))
            clear hb7 hbi
            go_wp2_with fail
            go_meet
            exact HB7.out
          · go_wp2_with fail
            go_meet
            exact Below.refl _ _
        case rest =>
        have HBC := Lib.hid (HB4.out.trans (hcut.mono HB4.out.size))
        have HBC3 := Lib.hid (HB34.out.trans (hcut.mono HB34.out.size))
        clear hcut cL cAll cSL HTV HU2 HB24 HB34 HB23 HG HB2
        go_wp2_with fail
        refine (cPD _ _ (HD.out.below HBC.out) (HA.out.below HBC.out) (HP.out.below HBC.out)).mono ?_
        rintro e w5 ⟨rfl, hb5⟩
        have HB5 := Lib.hid (HBC.out.trans (hb5.mono HBC.out.size))
        have HB35 := Lib.hid (HBC3.out.trans (hb5.mono HBC3.out.size))
        clear hb5 cPD HBC HBC3 HB4
        go_upto_if 92 with fail
        go_cut [21] (fun _ wx => Below w5.heap.size w5 wx)
        case first =>
          rcases HDV.out with ⟨rfl, a, ha, rfl⟩ | hne
          · go_wp2_with fail
            refine (cD a ha _ (HA.out.below HB5.out)).mono ?_
            rintro e w6 ⟨hb6, v6, rfl, hv6⟩
            have HB6 := Lib.hid hb6
            have HV6 := Lib.hid (hv6.low (Nat.zero_le _))
            obtain ⟨a6, c6, rfl, _⟩ := hv6
            clear hb6
            go_wp2_with fail
            refine (cEnt _ _ HV6.out).mono ?_
            rintro e w7 ⟨hb7, u7, rfl, hu7⟩
            have HB7 := Lib.hid (HB6.out.trans (hb7.mono HB6.out.size))
            have HU7 := Lib.hid hu7
            clear hu7 hb7
            go_wp2_with fail
            refine (cSD _ _ _ (HU3.out.below (HB35.out.trans (HB7.out.mono HB35.out.size))) HU7.out).mono ?_
            rintro e w8 ⟨hb8, b, rfl, hbi⟩
            obtain rfl : b = true := by simpa using hbi
            have HB8 := Lib.hid (HB7.out.trans (hb8.mono HB7.out.size))
            clear hb8 hbi
            go_wp2_with fail
            go_meet
            exact HB8.out
          · go_wp2_with fail
            go_meet
            exact Below.refl _ _
        case rest =>
        have HBD := Lib.hid (HB5.out.trans (hcut.mono HB5.out.size))
        clear hcut cD cEnt cSD HDV HU3 HB35 HD HB5 HB3
        cases FS with
        | none =>
          clear HT
          go_wp2_with fail
          refine (cDs _ (HA.out.below HBD.out)).mono ?_
          rintro e w6 ⟨hb6, rfl⟩
          have hb6 := HBD.out.trans (hb6.mono HBD.out.size)
          go_wp2_with fail
          go_ret
          exact ⟨rfl, hb6⟩
        | some fs =>
          obtain ⟨t, ht, hfl, hfE, htl⟩ := HT.out fs rfl
          obtain ⟨n, qs, _, hqs, hql, cEnt⟩ := entries_of fs (fun E h => memsz_ln (hfE E h).1) (by omega)
          have cPD := fun v W h hA hP => printDict_any v fs W h hfl (fun E h => ⟨memsz_ok (hfE E h).1 (hfE E h).2.2, by have := (hfE E h).2.1; omega⟩) (fun E h t ht => by have h1 := memT_size E.val t ht; have h2 := (hfE E h).1; omega) hA hP
          have cSD := fun v1 v2 W h1 h2 => same_any qs qs v1 v2 W h1 h2 (fun E h => memsz_sm (hfE E (hqs E h)).1) (fun E h => memsz_sm (hfE E (hqs E h)).1) (by omega)
          have cD2 : ∀ W, Alph W → Calls Tryz.prog 10 #[.string (strB t)] W (dicPost (some fs) W) := fun W hW => by
            have := dict_any (strB t) W (by rw [strB_size]; omega) hW
            rw [strB_data, dict_back fs t ht] at this
            exact this
          rw [ht, textV] at cPD
          clear HT ht hfE hqs hql hfl htl hfs
          go_wp2_with fail
          refine (cDs _ (HA.out.below HBD.out)).mono ?_
          rintro e w6 ⟨hb6, v6, rfl, hv6⟩
          have HB6 := Lib.hid (HBD.out.trans (hb6.mono HBD.out.size))
          have HV6 := Lib.hid (hv6.low (Nat.zero_le _))
          obtain ⟨a6, c6, rfl, _⟩ := hv6
          clear hb6 cDs HBD
          go_wp2_with fail
          refine (cPD _ _ HV6.out (HA.out.below HB6.out) (HP.out.below HB6.out)).mono ?_
          rintro e w7 ⟨rfl, hb7⟩
          have HB7 := Lib.hid (HB6.out.trans (hb7.mono HB6.out.size))
          have HV7 := Lib.hid (HV6.out.below hb7)
          clear hb7 cPD HB6 HV6
          go_wp2_with fail
          refine (cD2 _ (HA.out.below HB7.out)).mono ?_
          rintro e w8 ⟨hb8, v8, rfl, hv8⟩
          have HB8 := Lib.hid (HB7.out.trans (hb8.mono HB7.out.size))
          have HV8 := Lib.hid (HV7.out.below hb8)
          have HX8 := Lib.hid (hv8.low (Nat.zero_le _))
          obtain ⟨a8, c8, rfl, _⟩ := hv8
          clear hb8 cD2 HB7 HV7
          go_wp2_with fail
          refine (cEnt _ _ HV8.out).mono ?_
          rintro e w9 ⟨hb9, u9, rfl, hu9⟩
          have HB9 := Lib.hid (HB8.out.trans (hb9.mono HB8.out.size))
          have HX9 := Lib.hid (HX8.out.below hb9)
          have HU9 := Lib.hid hu9
          clear hb9 hu9 HB8 HV8 HX8
          go_wp2_with fail
          refine (cEnt _ _ HX9.out).mono ?_
          rintro e w10 ⟨hb10, u10, rfl, hu10⟩
          have HB10 := Lib.hid (HB9.out.trans (hb10.mono HB9.out.size))
          have HU99 := Lib.hid (HU9.out.below hb10)
          have HU10 := Lib.hid hu10
          clear hb10 hu10 HB9 HX9 HU9 cEnt
          go_wp2_with fail
          refine (cSD _ _ _ HU99.out HU10.out).mono ?_
          rintro e w11 ⟨hb11, b, rfl, hbi⟩
          obtain rfl : b = true := by simpa using hbi
          have hb11 := HB10.out.trans (hb11.mono HB10.out.size)
          clear hbi cSD
          go_wp2_with fail
          go_ret
          exact ⟨rfl, hb11⟩

end Go.Proofs.YtjbipplaacgnkaaGreatDoor
