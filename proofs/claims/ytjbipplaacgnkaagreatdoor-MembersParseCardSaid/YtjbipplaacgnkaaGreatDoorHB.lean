/- The contract of the law's entries (scullerylaw04): a dictionary for the document, while it is small. · Plain: what the law's all and entries tell of how much there is; what is small enough to be printed. -/
import Derived.Test.YtjbipplaacgnkaaGreatDoorGO
import Derived.Test.YtjbipplaacgnkaaGreatDoorGP
import Derived.Test.YtjbipplaacgnkaaGreatDoorHA

namespace Go.Proofs.YtjbipplaacgnkaaGreatDoor
open Go.RowKit Go.Maps

/-- What a round adds. -/
def stepE (n : Int) (E : Ent) : Int := wrap64 (wrap64 (n + szMem E.val) + ((strB E.key).size : Int))
/-- How many of the entries are taken, and how much there is of them together. -/
def allE : Int → List Ent → Nat × Int
  | n, [] => (0, n)
  | n, E :: Es => if n < 10000 then ((allE (stepE n E) Es).1 + 1, (allE (stepE n E) Es).2) else (0, n)
theorem info_rent : (Tryz.prog.info? 59).map (fun i => (i.zero, i.size, i.bytes)) = some (some (.agg #[.string ⟨#[]⟩, .bool false, .int .i64 0, .int .i64 0, .string ⟨#[]⟩, .slice none 0 0, .slice none 0 0, .slice none 0 0]), 8, 128) := by kernel_rfl
abbrev rentO (K : ByteArray) (b : Bool) (k n : Int) (s : ByteArray) (u vi vp : Value) : Obj := .cells #[.string K, .bool b, .int .i64 k, .int .i64 n, .string s, u, vi, vp] 59

/-- The cells of an entry. -/
theorem ent8 {w : World} {b o : Nat} {E : Ent} {u : Value × Value × Value} (h : ∀ i, i < entR.size → w.cell? ⟨b, o + i, none⟩ = (entR.cells E u)[i]?) :
    w.cell? ⟨b, o, none⟩ = some (.string (strB E.key)) ∧ (w.cell? ⟨b, o + 1, none⟩ = some (.bool E.val.inner) ∧ w.cell? ⟨b, o + 2, none⟩ = some (.int .i64 E.val.it.k) ∧ w.cell? ⟨b, o + 3, none⟩ = some (.int .i64 E.val.it.n) ∧ w.cell? ⟨b, o + 4, none⟩ = some (.string (strB E.val.it.s)) ∧ w.cell? ⟨b, o + 5, none⟩ = some u.1 ∧ w.cell? ⟨b, o + 6, none⟩ = some u.2.1 ∧ w.cell? ⟨b, o + 7, none⟩ = some u.2.2) :=
  ⟨h 0 (by decide), h 1 (by decide), h 2 (by decide), h 3 (by decide), h 4 (by decide), h 5 (by decide), h 6 (by decide), h 7 (by decide)⟩

abbrev Cells7 (W : World) (b : Nat) (c0 c1 c2 c3 c4 c5 c6 : Value) : Prop :=
  W.cell? ⟨b, 0, none⟩ = some c0 ∧ W.cell? ⟨b, 1, none⟩ = some c1 ∧ W.cell? ⟨b, 2, none⟩ = some c2 ∧ W.cell? ⟨b, 3, none⟩ = some c3 ∧ W.cell? ⟨b, 4, none⟩ = some c4 ∧ W.cell? ⟨b, 5, none⟩ = some c5 ∧ W.cell? ⟨b, 6, none⟩ = some c6
theorem Cells7.below {W W1 : World} {b : Nat} {c0 c1 c2 c3 c4 c5 c6 : Value} (h : Cells7 W b c0 c1 c2 c3 c4 c5 c6) (hb : Below W.heap.size W W1) : Cells7 W1 b c0 c1 c2 c3 c4 c5 c6 := by
  have k : ∀ {i : Nat} {v : Value}, W.cell? ⟨b, i, none⟩ = some v → W1.cell? ⟨b, i, none⟩ = some v := fun {i v} hc => (hb.cell (p := ⟨b, i, none⟩) (lt_of_cell hc)).trans hc
  obtain ⟨h0, h1, h2, h3, h4, h5, h6⟩ := h
  exact ⟨k h0, k h1, k h2, k h3, k h4, k h5, k h6⟩

theorem ent_kept {wr wa w5 : World} {base n : Nat} {T : TypeId} {v : Value} {rows : List Value} {O2 : Obj} {b : Nat} {c0 c1 c2 c3 c4 c5 c6 : Value} (HO : wr.ownsRow base T 8 v n rows) (hb : wr.heap.size ≤ b) (hg : (wa.drew.alloc O2).grownBy w5 v.ownBlock) (h : Cells7 wa b c0 c1 c2 c3 c4 c5 c6) : Cells7 w5 b c0 c1 c2 c3 c4 c5 c6 := by
  have hne : some b ≠ v.ownBlock := fun h => by
    have h1 := (World.ownsRow.lt HO _ h.symm).2
    omega
  have k : ∀ {i : Nat} {u : Value}, wa.cell? ⟨b, i, none⟩ = some u → w5.cell? ⟨b, i, none⟩ = some u := fun {i u} hc => by
    have hl : b < wa.heap.size := lt_of_cell hc
    have e := ((Below.refl wa.heap.size wa).drew.alloc (Nat.le_refl _) O2).cell (p := ⟨b, i, none⟩) hl
    exact (grown_cell hg (c := b) (Nat.lt_of_lt_of_le hl ((Below.refl wa.heap.size wa).drew.alloc (Nat.le_refl _) O2).size) hne i).trans (e.trans hc)
  obtain ⟨h0, h1, h2, h3, h4, h5, h6⟩ := h
  exact ⟨k h0, k h1, k h2, k h3, k h4, k h5, k h6⟩

set_option maxRecDepth 100000 in
set_option maxHeartbeats 4000000 in
theorem entries_any (xs : List Ent) (v : Value) (w : World) (h : GOff entR 0 none w v xs) (hk : ∀ E ∈ xs, MemLn E.val) (hl : xs.length ≤ 1099511627775) :
    Calls Tryz.prog 13 #[v] w fun e w' => Below w.heap.size w w' ∧ ∃ u, e = .returned (.tuple #[u, .int .i64 (allE 0 xs).2]) ∧ GOff entR w.heap.size none w' u (xs.take (allE 0 xs).1) := by
  obtain ⟨i0, hi, hz0, hz1, hz2⟩ := info_parts info_rent
  obtain ⟨ao, ac, rfl, hc1⟩ := h
  have HC1 := Lib.hid hc1
  have HK := Lib.hid hk
  clear hc1 hk
  go_enter Tryz.func13, Tryz.ntmps13
  go_wp2_with fail
  go_loopw [4, 5, 6] (fun v n i wr => ∃ (j : Nat) (N : Int) (av : Option Addr) (cv : Nat), v = .slice av j cv ∧ n = .int .i64 N ∧ i = .int .i64 j ∧ j ≤ xs.length ∧ Hid (allE 0 xs = ((allE N (xs.drop j)).1 + j, (allE N (xs.drop j)).2)) ∧ OwnG entR 59 wr w.heap.size v (xs.take j) ∧ Below w.heap.size w wr) (fun _ _ i _ => xs.length - (intOf i).toNat)
  case atStart => exact ⟨0, 0, none, 0, rfl, rfl, rfl, Nat.zero_le _, Lib.hid rfl, OwnG.nothing _ _ _ _, Below.refl _ _⟩
  case round =>
    obtain ⟨j, N, av, cv, rfl, rfl, rfl, hj, H, hown, hb⟩ := hrel
    have HB := Lib.hid hb
    have HOW := Lib.hid hown
    by_cases hlt : j < xs.length
    · obtain ⟨E, hp⟩ : ∃ E, xs[j]? = some E := ⟨_, List.getElem?_eq_getElem hlt⟩
      have hd : xs.drop j = E :: xs.drop (j + 1) := by
        obtain ⟨h1, h2⟩ := List.getElem?_eq_some_iff.1 hp
        rw [← h2]
        exact List.drop_eq_getElem_cons h1
      rw [hd] at H
      cases hN : decide (N < 10000)
      · have HE : Hid (allE 0 xs = (j, N)) := Lib.hid (by rw [H.out, allE, if_neg (by simpa using hN), Nat.zero_add])
        clear H hd hp hown hb
        go_wp2_with fail
        refine bodyPost_ret (v := .tuple #[.slice av j cv, .int .i64 N]) (by simp [results, Tryz.results13, go_sem]) rfl ?_
        rw [HE.out]
        exact ⟨HB.out, _, rfl, HOW.out.off⟩
      · have HE : Hid (allE 0 xs = ((allE (stepE N E) (xs.drop (j + 1))).1 + (j + 1), (allE (stepE N E) (xs.drop (j + 1))).2)) := Lib.hid (by rw [H.out, allE, if_pos (by simpa using hN)]; congr 1; omega)
        rcases HC1.out with hnil | ⟨A, off, rfl, _, _, hA, hcell⟩
        · exfalso
          rw [hnil] at hlt
          simp at hlt
        · obtain ⟨⟨t1, t2, t3⟩, hpc, f1, f2, f3⟩ := hcell j E hp
          have hML := HK.out E (List.mem_of_getElem? hp)
          obtain ⟨y0, y1, y2, y3, y4, y5, y6, y7⟩ := ent8 hpc
          have kk : ∀ {i : Nat} {u : Value}, w.cell? ⟨A, i, none⟩ = some u → wr.cell? ⟨A, i, none⟩ = some u := fun {i u} hc => (hb.cell (p := ⟨A, i, none⟩) hA).trans hc
          have x0 := kk y0
          have x1 := kk y1
          have x2 := kk y2
          have x3 := kk y3
          have x4 := kk y4
          have x5 := kk y5
          have x6 := kk y6
          have x7 := kk y7
          simp only [show entR.size = 8 from rfl] at x0 x1 x2 x3 x4 x5 x6 x7
          have cO := own_any E.val (aggM E.val.inner E.val.it.k E.val.it.n (strB E.val.it.s) t1 t2 t3) wr (MemAt.below ⟨t1, t2, t3, rfl, f1, f2, f3⟩ hb) hML.a hML.b hML.c hML.d
          have cZ := fun v' W (h : MemAt 0 none W E.val v') => msize_any E.val v' W h (Nat.le_trans hML.a (by decide)) (Nat.le_trans hML.b (by decide)) hML.c (fun x hx => Nat.le_trans (hML.d x hx) (by decide))
          obtain ⟨ta1, tb1, rfl⟩ := f1.form
          obtain ⟨ta2, tb2, rfl⟩ := f2.form
          obtain ⟨ta3, tb3, rfl⟩ := f3.form
          have jI : (j : Int) < (xs.length : Int) := by omega
          have j0 : (0 : Int) ≤ (j : Int) := by omega
          have Htk : Hid (xs.take j ++ [E] = xs.take (j + 1)) := Lib.hid (by rw [List.take_add_one, hp] <;> rfl)
          have HTL : Hid ((xs.take j).length = j) := Lib.hid (by rw [List.length_take, Nat.min_eq_left hj])
          simp only [show entR.size = 8 from rfl] at y0
          clear y1 y2 y3 y4 y5 y6 y7 kk hcell hpc f1 f2 f3 hp hd H hown hb hML
          have HSt : Hid (stepE N E = wrap64 (wrap64 (N + szMem E.val) + ((strB E.key).size : Int))) := Lib.hid rfl
          generalize hZ : szMem E.val = Z at *
          go_wp2_with fail
          refine cO.mono ?_
          rintro e w2 ⟨hb2, v', rfl, u1, u2, u3, rfl, f1, f2, f3⟩
          have z0 := (hb2.cell (p := ⟨A, off + j * 8, none⟩) (lt_of_cell x0)).trans x0
          have HY := Lib.hid y0
          clear y0 cO x0 x1 x2 x3 x4 x5 x6 x7
          obtain ⟨us, hu1, hu2, hu3⟩ := HOW.out
          rw [HTL.out] at hu1 hu2
          obtain ⟨pa1, pb1, rfl⟩ := f1.form
          obtain ⟨pa2, pb2, rfl⟩ := f2.form
          obtain ⟨pa3, pb3, rfl⟩ := f3.form
          obtain ⟨wa, hwa⟩ : ∃ wa, wa = w2.alloc (rmemO E.val.inner E.val.it.k E.val.it.n (strB E.val.it.s) (.slice pa1 E.val.it.ps.length pb1) (.slice pa2 E.val.its.length pb2) (.slice pa3 E.val.ps.length pb3)) := ⟨_, rfl⟩
          have hbA : Below w2.heap.size w2 wa := hwa ▸ (Below.refl _ _).alloc (Nat.le_refl _) _
          have c7 : Cells7 wa w2.heap.size (.bool E.val.inner) (.int .i64 E.val.it.k) (.int .i64 E.val.it.n) (.string (strB E.val.it.s)) (.slice pa1 E.val.it.ps.length pb1) (.slice pa2 E.val.its.length pb2) (.slice pa3 E.val.ps.length pb3) := by
            subst hwa
            exact ⟨by simp, by simp, by simp, by simp, by simp, by simp, by simp⟩
          obtain ⟨q0, q1, q2, q3, q4, q5, q6⟩ := c7
          have HC7 : Hid (Cells7 wa w2.heap.size (.bool E.val.inner) (.int .i64 E.val.it.k) (.int .i64 E.val.it.n) (.string (strB E.val.it.s)) (.slice pa1 E.val.it.ps.length pb1) (.slice pa2 E.val.its.length pb2) (.slice pa3 E.val.ps.length pb3)) := Lib.hid ⟨q0, q1, q2, q3, q4, q5, q6⟩
          have za := (hbA.cell (p := ⟨A, off + j * 8, none⟩) (lt_of_cell z0)).trans z0
          have hF := Lib.hid (show entR.F wr.heap.size none w2 E (.slice pa1 E.val.it.ps.length pb1, .slice pa2 E.val.its.length pb2, .slice pa3 E.val.ps.length pb3) from ⟨f1.low (by omega), f2.low (by omega), f3.low (by omega)⟩)
          have hu2a := ownsRow_later (ownsRow_later hu2 hb2) hbA
          have HO1 := Lib.hid (hu2a.drew.alloc (rentO (strB E.key) E.val.inner E.val.it.k E.val.it.n (strB E.val.it.s) (.slice pa1 E.val.it.ps.length pb1) (.slice pa2 E.val.its.length pb2) (.slice pa3 E.val.ps.length pb3)))
          have HN1 := Lib.hid (cells_new wa.drew [.string (strB E.key), .bool E.val.inner, .int .i64 E.val.it.k, .int .i64 E.val.it.n, .string (strB E.val.it.s), .slice pa1 E.val.it.ps.length pb1, .slice pa2 E.val.its.length pb2, .slice pa3 E.val.ps.length pb3] 59)
          have HC1 : Hid (∀ u ∈ ([.string (strB E.key), .bool E.val.inner, .int .i64 E.val.it.k, .int .i64 E.val.it.n, .string (strB E.val.it.s), .slice pa1 E.val.it.ps.length pb1, .slice pa2 E.val.its.length pb2, .slice pa3 E.val.ps.length pb3] : List Value), u.oneCell' = true) := Lib.hid (by simp [Value.oneCell'])
          have hba := HB.out.trans ((hb2.trans (hbA.mono hb2.size)).mono HB.out.size)
          have hz3 : w.heap.size ≤ (wa.drew.alloc (rentO (strB E.key) E.val.inner E.val.it.k E.val.it.n (strB E.val.it.s) (.slice pa1 E.val.it.ps.length pb1) (.slice pa2 E.val.its.length pb2) (.slice pa3 E.val.ps.length pb3))).heap.size := Nat.le_trans hba.size (((Below.refl wa.heap.size wa).drew).alloc (Nat.le_refl _) _).size
          have HU2 := Lib.hid hu2
          have HU3 := Lib.hid hu3
          have HB2 := Lib.hid hb2
          have HBA := Lib.hid hbA
          have HBa := Lib.hid hba
          clear z0 f1 f2 f3 hu2a hu2 hu3 hb2 hbA hba
          go_wp2_with fail
          rw [← hwa]
          clear hwa
          go_region_law (refine step_append_lies _ rfl (.tmp 24) (.tmp 32) 33 rfl w.heap.size 59 i0 (.agg #[.string ⟨#[]⟩, .bool false, .int .i64 0, .int .i64 0, .string ⟨#[]⟩, .slice none 0 0, .slice none 0 0, .slice none 0 0]) 8 128 Tryz.underlying33 hi hz0 hz1 hz2 rfl (by decide) (.slice av j cv) j (rowG entR ((xs.take j).zip us)) (by simp [Act.eval]) HO1.out ⟨wa.heap.size, 0, none⟩ 1 1 [.string (strB E.key), .bool E.val.inner, .int .i64 E.val.it.k, .int .i64 E.val.it.n, .string (strB E.val.it.s), .slice pa1 E.val.it.ps.length pb1, .slice pa2 E.val.its.length pb2, .slice pa3 E.val.ps.length pb3] (by simp [Act.eval]) rfl HN1.out HC1.out (by decide) (by unfold maxLen; omega) (by omega) hz3 _ rfl ?_; intro g5 cap5 w5 hown5 hgrow5 hat5 hlt5)
          all_goals
            have c75 := ent_kept HU2.out HB2.out.size hgrow5 HC7.out
            have hbE : Below wa.heap.size wa (wa.drew.alloc (rentO (strB E.key) E.val.inner E.val.it.k E.val.it.n (strB E.val.it.s) (.slice pa1 E.val.it.ps.length pb1) (.slice pa2 E.val.its.length pb2) (.slice pa3 E.val.ps.length pb3))) := (Below.refl _ _).drew.alloc (Nat.le_refl _) _
            have hbw5 : Below w.heap.size w w5 := (HBa.out.trans (hbE.mono HBa.out.size)).grown hgrow5 hz3 (fun k e => (World.ownsRow.lt HU2.out k e).1)
            have k5 := (hbw5.cell (p := ⟨A, off + j * 8, none⟩) hA).trans HY.out
            have hba2 := HBA.out.trans (hbE.mono HBA.out.size)
            have hF2 := entR.below (entR.low (entR.avoid (blk' := (Value.slice av j cv).ownBlock) hF.out (fun k hk => (World.ownsRow.lt HU2.out k hk).2)) HB.out.size) hba2
            have hF5 := entR.avoid (blk' := none) (entR.step hF2 hgrow5 hat5) (fun g e => by cases e)
            have hN := OwnG.snoc (R := entR) (xs := xs.take j) (us := us) (by rw [HTL.out]; exact hu1) (fun i u x hu hx => entR.below (entR.below (HU3.out i u x hu hx) HB2.out) hba2) hF2 (by rw [HTL.out]; exact hown5) hgrow5 hat5
            rw [HTL.out, Htk.out] at hN
            have HN5 := Lib.hid hN
            have HB5 := Lib.hid hbw5
            have cZ2 : ∀ W, (Cells7 W w2.heap.size (.bool E.val.inner) (.int .i64 E.val.it.k) (.int .i64 E.val.it.n) (.string (strB E.val.it.s)) (.slice pa1 E.val.it.ps.length pb1) (.slice pa2 E.val.its.length pb2) (.slice pa3 E.val.ps.length pb3) ∧ W.cell? ⟨A, off + j * 8, none⟩ = some (.string (strB E.key)) ∧ Below w5.heap.size w5 W) → Calls Tryz.prog 30 #[(aggM E.val.inner E.val.it.k E.val.it.n (strB E.val.it.s) (.slice pa1 E.val.it.ps.length pb1) (.slice pa2 E.val.its.length pb2) (.slice pa3 E.val.ps.length pb3))] W fun e w' => e = .returned (.int .i64 Z) ∧ (Cells7 w' w2.heap.size (.bool E.val.inner) (.int .i64 E.val.it.k) (.int .i64 E.val.it.n) (.string (strB E.val.it.s)) (.slice pa1 E.val.it.ps.length pb1) (.slice pa2 E.val.its.length pb2) (.slice pa3 E.val.ps.length pb3) ∧ w'.cell? ⟨A, off + j * 8, none⟩ = some (.string (strB E.key)) ∧ Below w5.heap.size w5 w') := fun W hW =>
              (cZ _ W ⟨_, _, _, rfl, (hF5.1.low (Nat.zero_le _)).below hW.2.2, (hF5.2.1.low (Nat.zero_le _)).below hW.2.2, (hF5.2.2.low (Nat.zero_le _)).below hW.2.2⟩).mono fun e w' hh => ⟨hh.1, hW.1.below hh.2, (hh.2.cell (p := ⟨A, off + j * 8, none⟩) (lt_of_cell hW.2.1)).trans hW.2.1, hW.2.2.trans (hh.2.mono hW.2.2.size)⟩
            have hS5 : (Cells7 w5.drew w2.heap.size (.bool E.val.inner) (.int .i64 E.val.it.k) (.int .i64 E.val.it.n) (.string (strB E.val.it.s)) (.slice pa1 E.val.it.ps.length pb1) (.slice pa2 E.val.its.length pb2) (.slice pa3 E.val.ps.length pb3) ∧ w5.drew.cell? ⟨A, off + j * 8, none⟩ = some (.string (strB E.key)) ∧ Below w5.heap.size w5 w5.drew) := ⟨c75.below (Below.refl _ _).drew, (((Below.refl w5.heap.size w5).drew).cell (p := ⟨A, off + j * 8, none⟩) (lt_of_cell k5)).trans k5, (Below.refl _ _).drew⟩
            clear q0 q1 q2 q3 q4 q5 q6 za hgrow5 hown5 hN hbw5 hba2 hbE cZ c75 k5
            clear hF2 hF5
            go_wp2_with fail
            go_region_held3 (fun W => (W.cell? ⟨w2.heap.size, 0, none⟩ = some (.bool E.val.inner) ∧ W.cell? ⟨w2.heap.size, 1, none⟩ = some (.int .i64 E.val.it.k) ∧ W.cell? ⟨w2.heap.size, 2, none⟩ = some (.int .i64 E.val.it.n) ∧ W.cell? ⟨w2.heap.size, 3, none⟩ = some (.string (strB E.val.it.s)) ∧ W.cell? ⟨w2.heap.size, 4, none⟩ = some (.slice pa1 E.val.it.ps.length pb1) ∧ W.cell? ⟨w2.heap.size, 5, none⟩ = some (.slice pa2 E.val.its.length pb2) ∧ W.cell? ⟨w2.heap.size, 6, none⟩ = some (.slice pa3 E.val.ps.length pb3)) ∧ W.cell? ⟨A, off + j * 8, none⟩ = some (.string (strB E.key)) ∧ Below w5.heap.size w5 W) (with_reducible assumption)
              (first | (go_at_call 30; with_reducible refine (cZ2 _ (by with_reducible assumption)).mono ?_; rintro e w' ⟨rfl, hh⟩))
            all_goals
              go_wp2_with fail
              go_roundw
              case rel => exact ⟨j + 1, stepE N E, _, _, rfl, by rw [HSt.out]; simp only [IntWalk.i64_left], by go_num, by omega, Lib.hid HE.out, HN5.out.below hh.2.2, HB5.out.trans (hh.2.2.mono HB5.out.size)⟩
              case measure => simp [intOf]; omega
    · obtain rfl : j = xs.length := by omega
      have HE : Hid (allE 0 xs = (xs.length, N)) := Lib.hid (by rw [H.out, List.drop_length, allE, Nat.zero_add])
      clear H hown hb
      go_wp2_with fail
      refine bodyPost_ret (v := .tuple #[.slice av xs.length cv, .int .i64 N]) (by simp [results, Tryz.results13, go_sem]) rfl ?_
      rw [HE.out]
      exact ⟨HB.out, _, rfl, HOW.out.off⟩

end Go.Proofs.YtjbipplaacgnkaaGreatDoor

namespace Go.Proofs.YtjbipplaacgnkaaGreatDoor
open Go.RowKit Go.Maps

/-- What bounds what is handed over. -/
structure PrIn (ps : List Prm) : Prop where
  n : ps.length ≤ 2932031007402
  p : ∀ p ∈ ps, p.key.length ≤ 140737488355328 ∧ p.s.length ≤ 140737488355328 ∧ -9223372036854775808 ≤ p.n ∧ p.n ≤ 9223372036854775807
structure IiIn (x : Itm) : Prop where
  p : PrIn x.ps
  s : x.s.length ≤ 140737488355328
  n : -9223372036854775808 ≤ x.n ∧ x.n ≤ 9223372036854775807
structure MmIn (M : Mem) : Prop where
  it : IiIn M.it
  its : ∀ x ∈ M.its, IiIn x
  n : M.its.length ≤ 2513169434916
  ps : PrIn M.ps
theorem MmIn.ln {M : Mem} (h : MmIn M) : MemLn M := ⟨h.it.p.n, h.ps.n, h.n, fun x hx => (h.its x hx).p.n⟩

theorem szStep_in (n : Int) (p : Prm) (h0 : 0 ≤ n) (h1 : n < 100000) (hp : p.key.length ≤ 140737488355328 ∧ p.s.length ≤ 140737488355328) : szStep n p = n + p.key.length + p.s.length + 1 := by
  unfold szStep
  rw [IntWalk.wrap64_in (n + (p.key.length : Int)) (by omega), IntWalk.wrap64_in (n + (p.key.length : Int) + (p.s.length : Int)) (by omega), IntWalk.wrap64_in (n + (p.key.length : Int) + (p.s.length : Int) + 1) (by omega)]
theorem szGo_bd : ∀ (ps : List Prm) (n : Int), 0 ≤ n → n ≤ 300000000000000 → (∀ p ∈ ps, p.key.length ≤ 140737488355328 ∧ p.s.length ≤ 140737488355328) → n ≤ szGo n ps ∧ szGo n ps ≤ 300000000000000 ∧ (n + szN ps ≤ szGo n ps ∨ 100000 ≤ szGo n ps)
  | [], n, _, h1, _ => by
    have e : szN [] = 0 := rfl
    rw [szGo, e]
    omega
  | p :: ps, n, h0, h1, hp => by
    have hs : szN (p :: ps) = p.key.length + p.s.length + 1 + szN ps := by
      show p.key.length + p.s.length + 1 + szN ps = _
      rfl
    have hp0 := hp p (by simp)
    by_cases hn : n < 100000
    · have e := szStep_in n p h0 hn hp0
      obtain ⟨a, b, c⟩ := szGo_bd ps (szStep n p) (by omega) (by omega) (fun q hq => hp q (by simp [hq]))
      rw [szGo, if_pos hn, hs]
      omega
    · rw [szGo, if_neg hn]
      omega
theorem szIts_bd : ∀ (xs : List Itm) (n : Int), 0 ≤ n → n ≤ 900000000000000 → (∀ x ∈ xs, IiIn x) → n ≤ szIts n xs ∧ szIts n xs ≤ 900000000000000 ∧ (n + itmsz xs ≤ szIts n xs ∨ 100000 ≤ szIts n xs)
  | [], n, _, h1, _ => by
    have e : itmsz [] = 0 := rfl
    rw [szIts, e]
    omega
  | x :: xs, n, h0, h1, hx => by
    have hs : itmsz (x :: xs) = szN x.ps + x.s.length + 1 + itmsz xs := rfl
    have hx0 := hx x (by simp)
    by_cases hn : n < 100000
    · obtain ⟨a, b, c⟩ := szGo_bd x.ps 0 (by omega) (by omega) (fun q hq => ⟨(hx0.p.p q hq).1, (hx0.p.p q hq).2.1⟩)
      have hs2 := hx0.s
      have e : szItem n x = n + szGo 0 x.ps + x.s.length + 1 := by
        unfold szItem
        rw [IntWalk.wrap64_in (n + szGo 0 x.ps) (by omega), IntWalk.wrap64_in (n + szGo 0 x.ps + (x.s.length : Int)) (by omega), IntWalk.wrap64_in (n + szGo 0 x.ps + (x.s.length : Int) + 1) (by omega)]
      obtain ⟨a2, b2, c2⟩ := szIts_bd xs (szItem n x) (by omega) (by omega) (fun q hq => hx q (by simp [hq]))
      rw [szIts, if_pos hn, hs]
      omega
    · rw [szIts, if_neg hn]
      omega
theorem szMem_bd (M : Mem) (h : MmIn M) : 1 ≤ szMem M ∧ szMem M ≤ 900000000000000 ∧ ((memsz M : Int) ≤ szMem M ∨ 100000 ≤ szMem M) := by
  obtain ⟨a, b, c⟩ := szGo_bd M.ps 0 (by omega) (by omega) (fun q hq => ⟨(h.ps.p q hq).1, (h.ps.p q hq).2.1⟩)
  obtain ⟨a1, b1, c1⟩ := szGo_bd M.it.ps 0 (by omega) (by omega) (fun q hq => ⟨(h.it.p.p q hq).1, (h.it.p.p q hq).2.1⟩)
  have hs2 := h.it.s
  have e : szHead M = szGo 0 M.ps + szGo 0 M.it.ps + M.it.s.length + 1 := by
    unfold szHead
    rw [IntWalk.wrap64_in (szGo 0 M.ps + szGo 0 M.it.ps) (by omega), IntWalk.wrap64_in (szGo 0 M.ps + szGo 0 M.it.ps + (M.it.s.length : Int)) (by omega), IntWalk.wrap64_in (szGo 0 M.ps + szGo 0 M.it.ps + (M.it.s.length : Int) + 1) (by omega)]
  obtain ⟨a2, b2, c2⟩ := szIts_bd M.its (szHead M) (by omega) (by omega) h.its
  have em : memsz M = szN M.ps + szN M.it.ps + M.it.s.length + 1 + itmsz M.its := rfl
  unfold szMem
  rw [em]
  omega

/-- Where there is little in all, all are taken. -/
theorem allN_few : ∀ (xs : List Mem) (n : Int), 0 ≤ n → n ≤ 1000000000000000 → (∀ M ∈ xs, MmIn M) → (allN n xs).2 ≤ 1000 → (allN n xs).1 = xs.length ∧ n + memSum xs ≤ 1000
  | [], n, _, _, _, h => by
    have e : memSum [] = 0 := rfl
    rw [allN] at h ⊢
    rw [e]
    exact ⟨rfl, by simpa using h⟩
  | M :: Ms, n, h0, h1, hM, h => by
    have e : memSum (M :: Ms) = memsz M + memSum Ms := rfl
    by_cases hn : n < 10000
    · obtain ⟨a, b, c⟩ := szMem_bd M (hM M (by simp))
      have ew : wrap64 (n + szMem M) = n + szMem M := IntWalk.wrap64_in (n + szMem M) (by omega)
      rw [allN, if_pos hn, ew] at h ⊢
      obtain ⟨q1, q2⟩ := allN_few Ms (n + szMem M) (by omega) (by omega) (fun x hx => hM x (by simp [hx])) h
      refine ⟨by dsimp only; rw [q1, List.length_cons], ?_⟩
      rw [e]
      omega
    · rw [allN, if_neg hn] at h
      dsimp only at h
      omega
theorem allE_few : ∀ (xs : List Ent) (n : Int), 0 ≤ n → n ≤ 1200000000000000 → (∀ E ∈ xs, MmIn E.val ∧ E.key.length ≤ 140737488355328) → (allE n xs).2 ≤ 1000 → (allE n xs).1 = xs.length ∧ n + entSum xs ≤ 1000
  | [], n, _, _, _, h => by
    have e : entSum [] = 0 := rfl
    rw [allE] at h ⊢
    rw [e]
    exact ⟨rfl, by simpa using h⟩
  | E :: Es, n, h0, h1, hE, h => by
    have e : entSum (E :: Es) = E.key.length + memsz E.val + entSum Es := rfl
    obtain ⟨g1, g2⟩ := hE E (by simp)
    by_cases hn : n < 10000
    · obtain ⟨a, b, c⟩ := szMem_bd E.val g1
      have ew : stepE n E = n + szMem E.val + E.key.length := by
        unfold stepE
        rw [strB_size, IntWalk.wrap64_in (n + szMem E.val) (by omega), IntWalk.wrap64_in (n + szMem E.val + (E.key.length : Int)) (by omega)]
      rw [allE, if_pos hn, ew] at h ⊢
      obtain ⟨q1, q2⟩ := allE_few Es (n + szMem E.val + E.key.length) (by omega) (by omega) (fun x hx => hE x (by simp [hx])) h
      refine ⟨by dsimp only; rw [q1, List.length_cons], ?_⟩
      rw [e]
      omega
    · rw [allE, if_neg hn] at h
      dsimp only at h
      omega

theorem memSum_mem : ∀ (xs : List Mem) (M : Mem), M ∈ xs → memsz M ≤ memSum xs
  | x :: xs, M, h => by
    have e : memSum (x :: xs) = memsz x + memSum xs := rfl
    rcases List.mem_cons.1 h with rfl | h
    · omega
    · have := memSum_mem xs M h
      omega
theorem memSum_len : ∀ xs : List Mem, xs.length ≤ memSum xs
  | [] => Nat.le_refl _
  | x :: xs => by
    have e : memSum (x :: xs) = memsz x + memSum xs := rfl
    have := memSum_len xs
    have : 1 ≤ memsz x := by unfold memsz; omega
    rw [List.length_cons]
    omega
theorem entSum_mem : ∀ (xs : List Ent) (E : Ent), E ∈ xs → entsz E ≤ entSum xs
  | x :: xs, E, h => by
    have e : entSum (x :: xs) = entsz x + entSum xs := rfl
    rcases List.mem_cons.1 h with rfl | h
    · omega
    · have := entSum_mem xs E h
      omega
theorem entSum_len : ∀ xs : List Ent, xs.length ≤ entSum xs
  | [] => Nat.le_refl _
  | x :: xs => by
    have e : entSum (x :: xs) = entsz x + entSum xs := rfl
    have := entSum_len xs
    have : 1 ≤ entsz x := by unfold entsz memsz; omega
    rw [List.length_cons]
    omega
theorem itmsz_mem : ∀ (xs : List Itm) (x : Itm), x ∈ xs → szN x.ps + x.s.length + 1 ≤ itmsz xs
  | y :: ys, x, h => by
    have e : itmsz (y :: ys) = szN y.ps + y.s.length + 1 + itmsz ys := rfl
    rcases List.mem_cons.1 h with rfl | h
    · omega
    · have := itmsz_mem ys x h
      omega
theorem itmsz_len : ∀ xs : List Itm, xs.length ≤ itmsz xs
  | [] => Nat.le_refl _
  | y :: ys => by
    have e : itmsz (y :: ys) = szN y.ps + y.s.length + 1 + itmsz ys := rfl
    have := itmsz_len ys
    rw [List.length_cons]
    omega
theorem memsz_parts {M : Mem} {B : Nat} (h : memsz M ≤ B) : szN M.ps ≤ B ∧ szN M.it.ps ≤ B ∧ M.it.s.length ≤ B ∧ M.its.length ≤ B ∧ ∀ x ∈ M.its, szN x.ps ≤ B ∧ x.s.length ≤ B := by
  have em : memsz M = szN M.ps + szN M.it.ps + M.it.s.length + 1 + itmsz M.its := rfl
  have := itmsz_len M.its
  refine ⟨by omega, by omega, by omega, by omega, fun x hx => ?_⟩
  have := itmsz_mem M.its x hx
  omega
theorem memsz_sm {M : Mem} (h : memsz M ≤ 1000) : MemSm M := by
  obtain ⟨h1, h2, h3, h4, h5⟩ := memsz_parts h
  have a := szN_len M.ps
  have b := szN_len M.it.ps
  exact ⟨by omega, by omega, fun x hx => by have := szN_len x.ps; have := (h5 x hx).1; omega, by omega⟩
theorem memsz_ln {M : Mem} (h : memsz M ≤ 1000) : MemLn M := by
  obtain ⟨h1, h2, h3, h4⟩ := memsz_sm h
  exact ⟨by omega, by omega, by omega, fun x hx => by have := h3 x hx; omega⟩
/-- How far the numbers go. -/
def NmIn (M : Mem) : Prop := (-9223372036854775808 ≤ M.it.n ∧ M.it.n ≤ 9223372036854775807) ∧ (∀ p ∈ M.it.ps, -9223372036854775808 ≤ p.n ∧ p.n ≤ 9223372036854775807) ∧ (∀ p ∈ M.ps, -9223372036854775808 ≤ p.n ∧ p.n ≤ 9223372036854775807) ∧ ∀ x ∈ M.its, (-9223372036854775808 ≤ x.n ∧ x.n ≤ 9223372036854775807) ∧ ∀ p ∈ x.ps, -9223372036854775808 ≤ p.n ∧ p.n ≤ 9223372036854775807
theorem MmIn.nm {M : Mem} (h : MmIn M) : NmIn M := ⟨h.it.n, fun p hp => (h.it.p.p p hp).2.2, fun p hp => (h.ps.p p hp).2.2, fun x hx => ⟨(h.its x hx).n, fun p hp => ((h.its x hx).p.p p hp).2.2⟩⟩
theorem memsz_ok {M : Mem} (h : memsz M ≤ 1000) (hn : NmIn M) : MemOk M := by
  obtain ⟨h1, h2, h3, h4, h5⟩ := memsz_parts h
  obtain ⟨n1, n2, n3, n4⟩ := hn
  have sm : ∀ ps : List Prm, szN ps ≤ 1000 → (∀ p ∈ ps, -9223372036854775808 ≤ p.n ∧ p.n ≤ 9223372036854775807) → ps.length ≤ 100000 ∧ ∀ p ∈ ps, Small p := fun ps hz hp => by
    have := szN_len ps
    refine ⟨by omega, fun p hpm => ?_⟩
    have h1 := szN_mem ps p hpm
    exact ⟨by omega, by omega, hp p hpm⟩
  obtain ⟨a1, a2⟩ := sm _ h2 n2
  obtain ⟨b1, b2⟩ := sm _ h1 n3
  refine ⟨⟨a1, a2, by omega, n1⟩, by omega, fun x hx => ?_, b1, b2⟩
  obtain ⟨c1, c2⟩ := sm _ (h5 x hx).1 (n4 x hx).2
  exact ⟨c1, c2, by have := (h5 x hx).2; omega, (n4 x hx).1⟩

/-- What may be printed has small numbers. -/
theorem ppGo_nm : ∀ (ps : List Prm) (u : List UInt8), ppGo ps = some u → ∀ p ∈ ps, -9223372036854775808 ≤ p.n ∧ p.n ≤ 9223372036854775807
  | [], _, _, p, hp => by cases hp
  | q :: ps, u, h, p, hp => by
    cases hq : pmT q with
    | none => rw [ppGo_none _ _ hq] at h; cases h
    | some w =>
      rw [ppGo_some _ _ _ hq] at h
      cases hr : ppGo ps with
      | none => rw [hr] at h; cases h
      | some z =>
        rcases List.mem_cons.1 hp with rfl | hp
        · have hri : rightL p.k p.n p.s = true := by
            cases e : rightL p.k p.n p.s with
            | true => rfl
            | false => rw [pmT_none p (.inl e)] at hq; cases hq
          have := right_n _ _ _ hri
          omega
        · exact ppGo_nm ps z hr p hp
theorem itT_nm (x : Itm) (t : List UInt8) (h : itT x = some t) : (-9223372036854775808 ≤ x.n ∧ x.n ≤ 9223372036854775807) ∧ ∀ p ∈ x.ps, -9223372036854775808 ≤ p.n ∧ p.n ≤ 9223372036854775807 := by
  obtain ⟨hr, _, v, hv, _⟩ := prT_some _ _ _ _ _ h
  have := right_n _ _ _ hr
  exact ⟨by omega, ppGo_nm _ _ hv⟩
theorem jn_each {α : Type} {f : α → Option (List UInt8)} {sep : List UInt8} : ∀ (xs : List α) (b : Bool) (a : List UInt8), jnGo f sep b xs = some a → ∀ x ∈ xs, ∃ t, f x = some t
  | [], _, _, _, x, hx => by cases hx
  | y :: ys, b, a, h, x, hx => by
    cases hy : f y with
    | none => rw [jnGo_none f sep b y ys hy] at h; cases h
    | some t =>
      rw [jnGo_some f sep b y ys t hy] at h
      cases hb : jnGo f sep false ys with
      | none => rw [hb] at h; cases h
      | some c =>
        rcases List.mem_cons.1 hx with rfl | hx
        · exact ⟨t, hy⟩
        · exact jn_each ys false c hb x hx
theorem memT_nm (M : Mem) (t : List UInt8) (h : memT M = some t) : NmIn M := by
  unfold memT at h
  cases hk : kindL M with
  | false => rw [hk, if_pos rfl] at h; cases h
  | true =>
    rw [hk, if_neg (by decide)] at h
    cases hi : M.inner with
    | false =>
      rw [hi, if_pos rfl] at h
      obtain ⟨e1, e2⟩ := kind_out M hk hi
      obtain ⟨a, b⟩ := itT_nm _ _ h
      refine ⟨a, b, ?_, ?_⟩
      · rw [e2]; intro p hp; cases hp
      · rw [e1]; intro p hp; cases hp
    | true =>
      rw [hi, if_neg (by decide)] at h
      have e1 := kind_in M hk hi
      cases ha : jnGo itT [32] true M.its with
      | none => rw [ha] at h; cases h
      | some a =>
        rw [ha] at h
        cases hb : ppT M.ps with
        | none => rw [hb] at h; cases h
        | some b =>
          refine ⟨?_, ?_, ppGo_nm _ _ (ppT_some _ _ hb).2, ?_⟩
          · rw [e1]; decide
          · rw [e1]; intro p hp; cases hp
          · intro x hx
            obtain ⟨t, ht⟩ := jn_each _ _ _ ha x hx
            exact itT_nm x t ht

end Go.Proofs.YtjbipplaacgnkaaGreatDoor
