/- The contracts of slices.EqualFunc at items, and of members.Same. · The contract of members.Same. · The contract of members.memberCopy. · The contract of the law's own (scullerylaw04): a member for the document. · The contract of members.oneOfEachKey. -/
import Derived.Test.YtjbipplaacgnkaaGreatDoorGM
import Derived.Test.YtjbipplaacgnkaaGreatDoorGL
import Derived.Test.YtjbipplaacgnkaaGreatDoorGJ
import Derived.Deep.RegionWith
import Derived.Deep.DeepCutAuto
import Derived.Deep.RegionHeld3

namespace Go.Proofs.YtjbipplaacgnkaaGreatDoor
open Go.RowKit Go.Maps

/-- Whether two items are the same; two lists of them; two members. -/
def itmEq (x y : Itm) : Bool := sameI x.k x.n x.s x.ps y.k y.n y.s y.ps
def sameIts (xs ys : List Itm) : Bool := xs.length == ys.length && (xs.zip ys).all fun x => itmEq x.1 x.2
def sameM (M N : Mem) : Bool := (M.inner == N.inner) && (itmEq M.it N.it && (sameIts M.its N.its && samePs M.ps N.ps))
theorem itmEq_iff (x y : Itm) : itmEq x y = true ↔ x = y := by
  obtain ⟨a, b, c, d⟩ := x
  obtain ⟨a', b', c', d'⟩ := y
  simp only [itmEq, sameI, Lib.toList_data, strB_data, Bool.and_eq_true, beq_iff_eq, samePs_iff, Itm.mk.injEq]
  constructor
  · rintro ⟨⟨h1, h2, h3⟩, h4⟩
    exact ⟨h1, h2, h3, h4⟩
  · rintro ⟨h1, h2, h3, h4⟩
    exact ⟨⟨h1, h2, h3⟩, h4⟩
theorem sameIts_iff : ∀ (xs ys : List Itm), sameIts xs ys = true ↔ xs = ys
  | [], [] => by simp [sameIts]
  | [], _ :: _ => by simp [sameIts]
  | _ :: _, [] => by simp [sameIts]
  | p :: ps, q :: qs => by
    have ih := sameIts_iff ps qs
    simp only [sameIts, List.length_cons, List.zip_cons_cons, List.all_cons, Bool.and_eq_true, beq_iff_eq] at ih ⊢
    rw [List.cons.injEq, ← itmEq_iff, ← ih]
    constructor
    · rintro ⟨h1, h2, h3⟩
      exact ⟨h2, by omega, h3⟩
    · rintro ⟨h1, h2, h3⟩
      exact ⟨by omega, h1, h3⟩
theorem sameM_iff (M N : Mem) : sameM M N = true ↔ M = N := by
  obtain ⟨a, b, c, d⟩ := M
  obtain ⟨a', b', c', d'⟩ := N
  simp only [sameM, Bool.and_eq_true, beq_iff_eq, itmEq_iff, sameIts_iff, samePs_iff, Mem.mk.injEq]
theorem sameIts_len (xs ys : List Itm) (h : xs.length ≠ ys.length) : sameIts xs ys = false := by
  cases hs : sameIts xs ys
  · rfl
  · exact absurd (congrArg List.length ((sameIts_iff _ _).1 hs)) h
theorem sameIts_at (xs ys : List Itm) (j : Nat) (p q : Itm) (h1 : xs[j]? = some p) (h2 : ys[j]? = some q) (h : itmEq p q = false) : sameIts xs ys = false := by
  cases hs : sameIts xs ys
  · rfl
  · have := (sameIts_iff _ _).1 hs
    subst this
    rw [h1] at h2
    obtain rfl := Option.some.inj h2
    rw [(itmEq_iff p p).2 rfl] at h; cases h
theorem sameIts_all (xs ys : List Itm) (hl : xs.length = ys.length) (h : ∀ j, j < xs.length → xs[j]? = ys[j]?) : sameIts xs ys = true := by
  rw [sameIts_iff]
  apply List.ext_getElem?
  intro j
  by_cases hj : j < xs.length
  · exact h j hj
  · rw [List.getElem?_eq_none (by omega), List.getElem?_eq_none (by omega)]

theorem enters_isame : ∀ args W, (callFunc 44 args).run Tryz.prog W = .ok (.enter 44 args) W := enters_of Tryz.func44 (by kernel_rfl) rfl

set_option maxRecDepth 100000 in
set_option maxHeartbeats 2000000 in
theorem equalF_any (v1 v2 : Value) (xs ys : List Itm) (w : World) (h1 : ItmsOff 0 none w v1 xs) (h2 : ItmsOff 0 none w v2 ys) (hl1 : xs.length ≤ 100000) (_ : ys.length ≤ 100000) (hp1 : ∀ x ∈ xs, x.ps.length ≤ 100000) (hp2 : ∀ x ∈ ys, x.ps.length ≤ 100000) :
    Calls Tryz.prog 45 #[v1, v2, .func (.func 44) #[] #[]] w fun e w' => e = .returned (.bool (sameIts xs ys)) ∧ Below w.heap.size w w' := by
  obtain ⟨ao1, cap1, rfl, hc1⟩ := h1
  obtain ⟨ao2, cap2, rfl, hc2⟩ := h2
  have HC1 := Lib.hid hc1
  have HC2 := Lib.hid hc2
  have HP1 := Lib.hid hp1
  have HP2 := Lib.hid hp2
  clear hc1 hc2 hp1 hp2
  by_cases hll : xs.length = ys.length
  · have HL := Lib.hid hll
    rw [← hll]
    clear hll
    go_enter Tryz.func45, Tryz.ntmps45
    go_wp2_with fail
    go_loopw [17] (fun i wr => ∃ j : Nat, i = .int .i64 j ∧ j ≤ xs.length ∧ Hid (∀ m, m < j → xs[m]? = ys[m]?) ∧ Below w.heap.size w wr) (fun i _ => xs.length - (intOf i).toNat)
    case atStart => exact ⟨0, rfl, Nat.zero_le _, Lib.hid (fun m h => absurd h (by omega)), Below.refl _ _⟩
    case round =>
      obtain ⟨j, rfl, hj, H, hb⟩ := hrel
      have HB := Lib.hid hb
      by_cases hlt : j < xs.length
      · rcases HC1.out with hnil | ⟨c, off, rfl, _, _, hcl, hcell⟩
        · exfalso
          rw [hnil] at hlt
          simp at hlt
        · rcases HC2.out with hnil2 | ⟨d, off2, rfl, _, _, hdl, hcell2⟩
          · exfalso
            have h0 := HL.out
            rw [hnil2, List.length_nil] at h0
            omega
          · obtain ⟨p, hp⟩ : ∃ p, xs[j]? = some p := ⟨_, List.getElem?_eq_getElem hlt⟩
            obtain ⟨q, hq⟩ : ∃ q, ys[j]? = some q := ⟨_, List.getElem?_eq_getElem (by have := HL.out; omega)⟩
            obtain ⟨u, ⟨x0, x1, x2, x3⟩, hF⟩ := hcell j p hp
            obtain ⟨u', ⟨y0, y1, y2, y3⟩, hF'⟩ := hcell2 j q hq
            have a0 := (hb.cell (p := ⟨c, off + j * 4, none⟩) hcl).trans x0
            have a1 := (hb.cell (p := ⟨c, off + j * 4 + 1, none⟩) hcl).trans x1
            have a2 := (hb.cell (p := ⟨c, off + j * 4 + 2, none⟩) hcl).trans x2
            have a3 := (hb.cell (p := ⟨c, off + j * 4 + 3, none⟩) hcl).trans x3
            have b0 := (hb.cell (p := ⟨d, off2 + j * 4, none⟩) hdl).trans y0
            have b1 := (hb.cell (p := ⟨d, off2 + j * 4 + 1, none⟩) hdl).trans y1
            have b2 := (hb.cell (p := ⟨d, off2 + j * 4 + 2, none⟩) hdl).trans y2
            have b3 := (hb.cell (p := ⟨d, off2 + j * 4 + 3, none⟩) hdl).trans y3
            have jI : (j : Int) < (xs.length : Int) := by omega
            have j0 : (0 : Int) ≤ (j : Int) := by omega
            have hbx := (hb.alloc hb.size (itemO p.k p.n (strB p.s) u)).alloc (by simp; have := hb.size; omega) (itemO q.k q.n (strB q.s) u')
            have cS := isame_any p.k p.n q.k q.n p.s q.s u u' p.ps q.ps ((wr.alloc (itemO p.k p.n (strB p.s) u)).alloc (itemO q.k q.n (strB q.s) u')) (hF.prms.below hbx) (hF'.prms.below hbx) (HP1.out p (List.mem_of_getElem? hp)) (HP2.out q (List.mem_of_getElem? hq))
            obtain ⟨au, cu, rfl⟩ := hF.form
            obtain ⟨av, cv, rfl⟩ := hF'.form
            have HBX := Lib.hid hbx
            have e0 := cell_later (itemO p.k p.n (strB p.s) (.slice au p.ps.length cu)) b0
            have e1 := cell_later (itemO p.k p.n (strB p.s) (.slice au p.ps.length cu)) b1
            have e2 := cell_later (itemO p.k p.n (strB p.s) (.slice au p.ps.length cu)) b2
            have e3 := cell_later (itemO p.k p.n (strB p.s) (.slice au p.ps.length cu)) b3
            clear hcell hcell2 x0 x1 x2 x3 y0 y1 y2 y3 hb hF hF' hbx
            have he : sameI p.k p.n p.s p.ps q.k q.n q.s q.ps = itmEq p q := rfl
            rw [he] at cS
            clear he
            cases hpq : itmEq p q
            · rw [hpq] at cS
              have HS : Hid (sameIts xs ys = false) := Lib.hid (sameIts_at xs ys j p q hp hq hpq)
              clear hpq hp hq H
              generalize strB p.s = PS at *
              generalize strB q.s = QS at *
              go_wp2_with fail
              refine cS.mono ?_
              rintro e w2 ⟨rfl, hb2⟩
              go_wp2_with fail
              go_ret
              exact ⟨ret_eq (bool_eq HS.out.symm), HBX.out.trans (hb2.mono HBX.out.size)⟩
            · rw [hpq] at cS
              obtain rfl := (itmEq_iff p q).1 hpq
              have Hn : Hid (∀ m, m < j + 1 → xs[m]? = ys[m]?) := Lib.hid (fun m hm => by
                by_cases e : m = j
                · subst e; rw [hp, hq]
                · exact H.out m (by omega))
              clear hpq hp hq H
              generalize strB p.s = PS at *
              go_wp2_with fail
              refine cS.mono ?_
              rintro e w2 ⟨rfl, hb2⟩
              go_wp2_with fail
              go_roundw
              case rel => exact ⟨j + 1, by go_num, by omega, Lib.hid Hn.out, HBX.out.trans (hb2.mono HBX.out.size)⟩
              case measure => simp [intOf]; omega
      · obtain rfl : j = xs.length := by omega
        have HS : Hid (sameIts xs ys = true) := Lib.hid (sameIts_all xs ys HL.out (fun m hm => H.out m hm))
        clear H hb
        go_wp2_with fail
        go_ret
        exact ⟨ret_eq (bool_eq HS.out.symm), HB.out⟩
  · have HS : Hid (sameIts xs ys = false) := Lib.hid (sameIts_len xs ys hll)
    have n1 : ((xs.length : Int) != (ys.length : Int)) = true := by simp; omega
    clear hll
    go_enter Tryz.func45, Tryz.ntmps45
    go_wp2_with fail
    go_ret
    exact ⟨ret_eq (bool_eq HS.out.symm), Below.refl _ _⟩

end Go.Proofs.YtjbipplaacgnkaaGreatDoor

namespace Go.Proofs.YtjbipplaacgnkaaGreatDoor
open Go.RowKit Go.Maps

theorem Box2.mems {w W : World} {a b c d e f g a' b' c' d' e' f' g' : Value} {T T' : TypeId} (h : Box2 w (.cells #[a, b, c, d, e, f, g] T) (.cells #[a', b', c', d', e', f', g'] T') W) :
    (W.cell? ⟨w.heap.size, 0, none⟩ = some a ∧ W.cell? ⟨w.heap.size, 1, none⟩ = some b ∧ W.cell? ⟨w.heap.size, 2, none⟩ = some c ∧ W.cell? ⟨w.heap.size, 3, none⟩ = some d ∧ W.cell? ⟨w.heap.size, 4, none⟩ = some e ∧ W.cell? ⟨w.heap.size, 5, none⟩ = some f ∧ W.cell? ⟨w.heap.size, 6, none⟩ = some g) ∧
    (W.cell? ⟨w.heap.size + 1, 0, none⟩ = some a' ∧ W.cell? ⟨w.heap.size + 1, 1, none⟩ = some b' ∧ W.cell? ⟨w.heap.size + 1, 2, none⟩ = some c' ∧ W.cell? ⟨w.heap.size + 1, 3, none⟩ = some d' ∧ W.cell? ⟨w.heap.size + 1, 4, none⟩ = some e' ∧ W.cell? ⟨w.heap.size + 1, 5, none⟩ = some f' ∧ W.cell? ⟨w.heap.size + 1, 6, none⟩ = some g') := by
  have kc := fun (b o : Nat) (hb : b < w.heap.size + 2) => Below.cell (p := ⟨b, o, none⟩) h hb
  refine ⟨⟨?_, ?_, ?_, ?_, ?_, ?_, ?_⟩, ?_, ?_, ?_, ?_, ?_, ?_, ?_⟩
  all_goals exact (kc _ _ (by omega)).trans (by simp)

/-- What must hold of members that are compared. -/
structure MemSm (M : Mem) : Prop where
  a : M.it.ps.length ≤ 100000
  b : M.its.length ≤ 100000
  c : ∀ x ∈ M.its, x.ps.length ≤ 100000
  d : M.ps.length ≤ 100000

set_option maxRecDepth 100000 in
set_option maxHeartbeats 2000000 in
theorem msame_any (M N : Mem) (v1 v2 : Value) (w : World) (h1 : MemAt 0 none w M v1) (h2 : MemAt 0 none w N v2) (hM : MemSm M) (hN : MemSm N) :
    Calls Tryz.prog 23 #[v1, v2] w fun e w' => e = .returned (.bool (sameM M N)) ∧ Below w.heap.size w w' := by
  obtain ⟨u, vi, vp, rfl, p1, p2, p3⟩ := h1
  obtain ⟨u', vi', vp', rfl, q1, q2, q3⟩ := h2
  have hK0 : Box2 w (memO M.inner M.it.k M.it.n (strB M.it.s) u vi vp) (memO N.inner N.it.k N.it.n (strB N.it.s) u' vi' vp') ((w.alloc (memO M.inner M.it.k M.it.n (strB M.it.s) u vi vp)).alloc (memO N.inner N.it.k N.it.n (strB N.it.s) u' vi' vp')) := Below.refl _ _
  have cS := fun W (h : Below w.heap.size w W) => isame_any M.it.k M.it.n N.it.k N.it.n M.it.s N.it.s u u' M.it.ps N.it.ps W (p1.prms.below h) (q1.prms.below h) hM.a hN.a
  have cF := fun W (h : Below w.heap.size w W) => equalF_any vi vi' M.its N.its W (p2.below h) (q2.below h) hM.b hN.b hM.c hN.c
  have cE := fun W (h : Below w.heap.size w W) => equal_any vp vp' M.ps N.ps W (p3.prms.below h) (q3.prms.below h) hM.d hN.d
  obtain ⟨a1, b1, rfl⟩ := p1.form
  obtain ⟨a2, b2, rfl⟩ := p2.form
  obtain ⟨a3, b3, rfl⟩ := p3.form
  obtain ⟨a4, b4, rfl⟩ := q1.form
  obtain ⟨a5, b5, rfl⟩ := q2.form
  obtain ⟨a6, b6, rfl⟩ := q3.form
  have he : sameI M.it.k M.it.n M.it.s M.it.ps N.it.k N.it.n N.it.s N.it.ps = itmEq M.it N.it := rfl
  rw [he] at cS
  have HV : Hid (sameM M N = ((M.inner == N.inner) && (itmEq M.it N.it && (sameIts M.its N.its && samePs M.ps N.ps)))) := Lib.hid rfl
  clear he p1 p2 p3 q1 q2 q3 hM hN
  generalize sameM M N = R at *
  generalize itmEq M.it N.it = r1 at *
  generalize sameIts M.its N.its = r2 at *
  generalize samePs M.ps N.ps = r3 at *
  generalize strB M.it.s = S at *
  generalize strB N.it.s = S' at *
  have hb0 := hK0.later
  cases hi : (M.inner == N.inner)
  · have HR : Hid (R = false) := Lib.hid (by rw [HV.out, hi] <;> rfl)
    clear HV cS cF cE
    go_enter Tryz.func23, Tryz.ntmps23
    go_wp2_with fail
    go_ret
    exact ⟨ret_eq (bool_eq HR.out.symm), hb0⟩
  · go_enter Tryz.func23, Tryz.ntmps23
    go_wp2_with fail
    refine (cS _ hb0).mono ?_
    rintro e w1 ⟨rfl, hb1⟩
    have hK1 := hK0.next hb1
    have hb1 := hK1.later
    cases r1
    · have HR : Hid (R = false) := Lib.hid (by rw [HV.out, hi] <;> rfl)
      clear HV cS cF cE
      go_wp2_with fail
      go_ret
      exact ⟨ret_eq (bool_eq HR.out.symm), hb1⟩
    · obtain ⟨⟨x0, x1, x2, x3, x4, x5, x6⟩, y0, y1, y2, y3, y4, y5, y6⟩ := hK1.mems
      go_wp2_with fail
      refine (cF _ hb1).mono ?_
      rintro e w2 ⟨rfl, hb2⟩
      have hK2 := hK1.next hb2
      have hb2 := hK2.later
      cases r2
      · have HR : Hid (R = false) := Lib.hid (by rw [HV.out, hi] <;> rfl)
        clear HV cS cF cE
        go_wp2_with fail
        go_ret
        exact ⟨ret_eq (bool_eq HR.out.symm), hb2⟩
      · clear x0 x1 x2 x3 x4 x5 x6 y0 y1 y2 y3 y4 y5 y6
        obtain ⟨⟨x0, x1, x2, x3, x4, x5, x6⟩, y0, y1, y2, y3, y4, y5, y6⟩ := hK2.mems
        have HR : Hid (R = r3) := Lib.hid (by rw [HV.out, hi] <;> rfl)
        go_wp2_with fail
        refine (cE _ hb2).mono ?_
        rintro e w3 ⟨rfl, hb3⟩
        have hK3 := hK2.next hb3
        go_wp2_with fail
        go_ret
        exact ⟨ret_eq (bool_eq HR.out.symm), hK3.later⟩

end Go.Proofs.YtjbipplaacgnkaaGreatDoor

namespace Go.Proofs.YtjbipplaacgnkaaGreatDoor
open Go.RowKit Go.Maps

theorem ResM.far {W W1 : World} {c d : Nat} (h : ResM W c) (hm : Moved d W W1) (hd : c ≠ d) : ResM W1 c := by
  have hc : ∀ i, W1.cell? ⟨c, i, none⟩ = W.cell? ⟨c, i, none⟩ := fun i => hm.cell (p := ⟨c, i, none⟩) h.lt hd
  have hf : ∀ i, W1.frozen? ⟨c, i, none⟩ = W.frozen? ⟨c, i, none⟩ := fun i => hm.frozen (p := ⟨c, i, none⟩) h.lt hd
  exact ⟨(hc 0).trans h.r0, (hc 1).trans h.r1, (hc 2).trans h.r2, (hc 3).trans h.r3, (hc 4).trans h.r4, (hc 5).trans h.r5, (hc 6).trans h.r6, (hf 0).trans h.g0, (hf 1).trans h.g1, (hf 2).trans h.g2, (hf 3).trans h.g3, (hf 4).trans h.g4, (hf 5).trans h.g5, (hf 6).trans h.g6⟩

/-- A member that a call holds in its box, beside its result's block. -/
structure BoxC (w W : World) (cs : List Value) : Prop where
  c : ∀ (i : Nat) (v : Value), cs[i]? = some v → W.cell? ⟨w.heap.size, i, none⟩ = some v
  f : ∀ i : Nat, W.frozen? ⟨w.heap.size, i, none⟩ = false
  res : ResM W (w.heap.size + 1)
  low : Below w.heap.size w W
theorem BoxC.next {w W W1 : World} {cs : List Value} (h : BoxC w W cs) (hb : Below W.heap.size W W1) : BoxC w W1 cs := by
  have hl := h.res.lt
  exact ⟨fun i v hi => (hb.cell (p := ⟨w.heap.size, i, none⟩) (show w.heap.size < W.heap.size by omega)).trans (h.c i v hi), fun i => (hb.frozen (p := ⟨w.heap.size, i, none⟩) (show w.heap.size < W.heap.size by omega)).trans (h.f i), h.res.next (hb.mono hl), h.low.trans (hb.mono h.low.size)⟩
theorem BoxC.put {w W : World} {cs : List Value} (h : BoxC w W cs) (i : Nat) (hi : i < cs.length) (v : Value) : BoxC w (W.setCell ⟨w.heap.size, i, none⟩ v) (cs.set i v) := by
  refine ⟨fun j u hj => ?_, fun j => by rw [World.frozen?_setCell]; exact h.f j, h.res.far ((Moved.refl _ _).setCell v) (by omega), h.low.setCell (Nat.le_refl _) _⟩
  by_cases hij : i = j
  · subst hij
    rw [List.getElem?_set_self hi] at hj
    obtain rfl := Option.some.inj hj
    exact World.cell?_setCell_same W _ _ (h.c i cs[i] (List.getElem?_eq_getElem hi))
  · rw [List.getElem?_set_ne hij] at hj
    exact (World.cell?_setCell_other W ⟨w.heap.size, i, none⟩ ⟨w.heap.size, j, none⟩ _ (by simp)).trans (h.c j u hj)
theorem BoxC.far {w W : World} {cs : List Value} (h : BoxC w W cs) (g o : Nat) (hg : w.heap.size + 2 ≤ g) (v : Value) : BoxC w (W.setCell ⟨g, o, none⟩ v) cs :=
  ⟨fun j u hj => (World.cell?_setCell_other W ⟨g, o, none⟩ ⟨w.heap.size, j, none⟩ _ (by simp)).trans (h.c j u hj), fun j => by rw [World.frozen?_setCell]; exact h.f j, h.res.far ((Moved.refl _ _).setCell v) (by omega), h.low.setCell (show w.heap.size ≤ g by omega) _⟩
theorem BoxC.made (w : World) (b : Bool) (k n : Int) (s : ByteArray) (u vi vp : Value) : BoxC w ((w.alloc (memO b k n s u vi vp)).alloc zeroMem) [.bool b, .int .i64 k, .int .i64 n, .string s, u, vi, vp] := by
  refine ⟨fun i v hi => ?_, fun i => by simp, ?_, ((Below.refl _ _).alloc (Nat.le_refl _) _).alloc (by simp) _⟩
  · have hl : i < 7 := (List.getElem?_eq_some_iff.1 hi).1
    match i, hl with
    | 0, _ | 1, _ | 2, _ | 3, _ | 4, _ | 5, _ | 6, _ =>
      obtain rfl := Option.some.inj hi
      simp
  · have := ResM.made (w.alloc (memO b k n s u vi vp))
    simpa using this

theorem rowG_set4 : ∀ (l : List (Itm × Value)) (i : Nat) (x : Itm) (u : Value), i < l.length →
    rowG itmR (l.set i (x, u)) = ((((rowG itmR l).set (i * 4) (.int .i64 x.k)).set (i * 4 + 1) (.int .i64 x.n)).set (i * 4 + 2) (.string (strB x.s))).set (i * 4 + 3) u
  | [], i, _, _, h => by simp at h
  | (q, v) :: l, 0, x, u, _ => by
    rw [List.set_cons_zero, rowG, rowG]
    rfl
  | (q, v) :: l, i + 1, x, u, h => by
    rw [List.set_cons_succ, rowG, rowG_set4 l i x u (by simpa using h), rowG]
    have e : ∀ (j : Nat) (r : List Value) (y : Value), (itmR.cells q v ++ r).set ((i + 1) * 4 + j) y = itmR.cells q v ++ r.set (i * 4 + j) y := by
      intro j r y
      have hl : (itmR.cells q v).length = 4 := itmR.len q v
      rw [List.set_append, if_neg (by rw [hl]; omega), hl]
      congr 2
      omega
    have e0 := e 0
    simp only [Nat.add_zero] at e0
    rw [e0, e 1, e 2, e 3]

theorem PrmsOff.apart {lo n size : Nat} {w w2 : World} {v v2 : Value} {ps : List Prm} {T : TypeId} {xs : List Value} (h : PrmsOff lo none w v ps) (ho : w2.ownsRow w.heap.size T size v2 n xs) : PrmsOff lo v2.ownBlock w v ps := by
  cases hb : v2.ownBlock with
  | none => exact h
  | some g => exact h.elsewhere g (.inr (World.ownsRow.lt ho g hb).1)
theorem PrmsOff.otherB {lo : Nat} {blk : Option Nat} {w w' : World} {v : Value} {ps : List Prm} {g : Nat} (h : PrmsOff lo blk w v ps) (hg : blk = some g) (hm : Moved g w w') : PrmsOff lo blk w' v ps := by
  subst hg
  exact h.other hm

set_option maxRecDepth 100000 in
set_option maxHeartbeats 4000000 in
theorem memberCopy_any (M : Mem) (v : Value) (w : World) (h : MemAt 0 none w M v) (hM : MemSm M) :
    Calls Tryz.prog 31 #[v] w fun e w' => Below w.heap.size w w' ∧ ∃ v', e = .returned v' ∧ MemAt (w.heap.size + 2) none w' M v' := by
  obtain ⟨u, vi, vp, rfl, p1, p2, p3⟩ := h
  obtain ⟨ao, cap, us, rfl, hul, hF, hc⟩ := GOff.rows (R := itmR) (by decide) p2.g
  have hone := rowG_one (R := itmR) M.its us (fun j u x hu hx => itm_one (hF j u x hu hx))
  have hC0 := BoxC.made w M.inner M.it.k M.it.n (strB M.it.s) u (.slice ao M.its.length cap) vp
  have cI := itemCopy_any M.it.k M.it.n (strB M.it.s) u M.it.ps ((w.alloc (memO M.inner M.it.k M.it.n (strB M.it.s) u (.slice ao M.its.length cap) vp)).alloc zeroMem) (p1.prms.below hC0.low) hM.a
  have cF := fun W (hW : Below w.heap.size w W) => cloneI_us ao cap M.its us W hul (by
    rcases hc with hc | ⟨b, off, h1, _, _, h3, h4⟩
    · exact .inl hc
    · exact .inr ⟨b, off, h1, fun j u hj => (hW.cell (p := ⟨b, off + j, none⟩) h3).trans (h4 j u hj)⟩) hone hM.b
  have cP := fun W (hW : Below w.heap.size w W) => cloneP_any vp M.ps W (p3.prms.below hW) hM.d
  have HF := Lib.hid hF
  have HS := Lib.hid hM.c
  have hlen := hM.b
  obtain ⟨a1, b1, rfl⟩ := p1.form
  obtain ⟨a3, b3, rfl⟩ := p3.form
  clear p1 p2 p3 hc hone hF hM
  have HSt := Lib.hid hC0
  clear hC0
  go_enter Tryz.func31, Tryz.ntmps31
  go_wp2_with fail
  refine cI.mono ?_
  rintro e w1 ⟨hb1, u1, rfl, ho1⟩
  have hC1 := HSt.out.next hb1
  obtain ⟨a4, b4, rfl⟩ := owns_form ho1
  have x0 := hC1.c 0 _ rfl
  have x1 := hC1.c 1 _ rfl
  have x2 := hC1.c 2 _ rfl
  have x3 := hC1.c 3 _ rfl
  have x4 := hC1.c 4 _ rfl
  have x5 := hC1.c 5 _ rfl
  have x6 := hC1.c 6 _ rfl
  have f1 := hC1.f 1
  have f2 := hC1.f 2
  have f3 := hC1.f 3
  have f4 := hC1.f 4
  have HO1 := Lib.hid (ownsRow_low ho1 (B := w.heap.size + 2) (by simp))
  have HC1 := Lib.hid hC1
  clear hb1 ho1 hC1 cI
  go_wp2_with fail
  have hC2 : BoxC w ((((w1.setCell ⟨w.heap.size, 1, none⟩ (.int .i64 M.it.k)).setCell ⟨w.heap.size, 2, none⟩ (.int .i64 M.it.n)).setCell ⟨w.heap.size, 3, none⟩ (.string (strB M.it.s))).setCell ⟨w.heap.size, 4, none⟩ (.slice a4 M.it.ps.length b4)) [.bool M.inner, .int .i64 M.it.k, .int .i64 M.it.n, .string (strB M.it.s), .slice a4 M.it.ps.length b4, .slice ao M.its.length cap, .slice a3 M.ps.length b3] :=
    (((HC1.out.put 1 (by simp) _).put 2 (by simp) _).put 3 (by simp) _).put 4 (by simp) _
  have HO2 := Lib.hid (ownsRow_moved HO1.out (((((Moved.refl w.heap.size w1).setCell (o := 1) (.int .i64 M.it.k)).setCell (o := 2) (.int .i64 M.it.n)).setCell (o := 3) (.string (strB M.it.s))).setCell (o := 4) (.slice a4 M.it.ps.length b4)) (by omega))
  refine (cF _ hC2.low).mono ?_
  rintro e w2 ⟨hb2, vi1, rfl, ho2⟩
  have hC3 := hC2.next hb2
  have HP2 := Lib.hid (((PrmsOff.made (lo := w.heap.size + 2) (blk := none) HO2.out (Nat.le_refl _) (fun g e => by cases e)).apart ho2).below hb2)
  have HR2 := Lib.hid (ownsRow_low ho2 (B := w.heap.size + 2) hC2.res.lt)
  obtain ⟨a5, b5, rfl⟩ := owns_form ho2
  have f5 := hC3.f 5
  have z5 := hC3.c 5 _ rfl
  have HC3 := Lib.hid hC3
  clear hb2 ho2 hC2 hC3 cF x0 x1 x2 x3 x4 x5 x6 f1 f2 f3 f4 HO1 HO2 HC1 HSt
  go_wp2_with fail
  have hm5 : Moved w.heap.size w2 (w2.setCell ⟨w.heap.size, 5, none⟩ (.slice a5 M.its.length b5)) := (Moved.refl _ _).setCell _
  have HC4 := Lib.hid (HC3.out.put 5 (by simp) (.slice a5 M.its.length b5))
  have HP4 := Lib.hid (HP2.out.moved hm5 (by omega))
  have HR4 := Lib.hid (ownsRow_moved HR2.out hm5 (by omega))
  clear HC3 HP2 HR2 hm5 f5 z5
  go_loopw [16] (fun i wr => ∃ (j : Nat) (us' : List Value), i = .int .i64 j ∧ j ≤ M.its.length ∧ us'.length = M.its.length ∧ wr.ownsRow (w.heap.size + 2) 46 4 (.slice a5 M.its.length b5) M.its.length (rowG itmR (M.its.zip us')) ∧ Hid (∀ (k : Nat) (u : Value) (x : Itm), us'[k]? = some u → M.its[k]? = some x → (k < j → PrmsOff (w.heap.size + 2) (Value.slice a5 M.its.length b5).ownBlock wr u x.ps) ∧ (j ≤ k → PrmsOff 0 none w u x.ps)) ∧ BoxC w wr [.bool M.inner, .int .i64 M.it.k, .int .i64 M.it.n, .string (strB M.it.s), .slice a4 M.it.ps.length b4, .slice a5 M.its.length b5, .slice a3 M.ps.length b3] ∧ PrmsOff (w.heap.size + 2) (Value.slice a5 M.its.length b5).ownBlock wr (.slice a4 M.it.ps.length b4) M.it.ps) (fun i _ => M.its.length - (intOf i).toNat)
  case atStart => exact ⟨0, us, rfl, Nat.zero_le _, hul, HR4.out, Lib.hid (fun k u x hu hx => ⟨fun h => absurd h (by omega), fun _ => HF.out k u x hu hx⟩), HC4.out, HP4.out⟩
  case round =>
    obtain ⟨j, us', rfl, hj, hul', hown, HFs, hC, hP⟩ := hrel
    clear HC4 HP4 HR4 HF
    have HC := Lib.hid hC
    have HP := Lib.hid hP
    have HO := Lib.hid hown
    clear hC hP hown
    by_cases hlt : j < M.its.length
    · obtain ⟨g, cap5, hv5, hgB, hg2, hcap⟩ := owns_slice HO.out (by omega)
      obtain ⟨rfl, _, rfl⟩ := Value.slice.inj hv5
      clear hv5
      obtain ⟨x, hx⟩ : ∃ x, M.its[j]? = some x := ⟨_, List.getElem?_eq_getElem hlt⟩
      obtain ⟨uj, hu⟩ : ∃ u, us'[j]? = some u := ⟨_, List.getElem?_eq_getElem (by omega)⟩
      have hst := (HFs.out j uj x hu hx).2 (Nat.le_refl _)
      have hz : (M.its.zip us')[j]? = some (x, uj) := by rw [List.getElem?_zip_eq_some]; exact ⟨hx, hu⟩
      have q0 := owns_cells HO.out _ _ (rowG_at itmR _ j 0 x uj hz (by decide))
      have q1 := owns_cells HO.out _ _ (rowG_at itmR _ j 1 x uj hz (by decide))
      have q2 := owns_cells HO.out _ _ (rowG_at itmR _ j 2 x uj hz (by decide))
      have q3 := owns_cells HO.out _ _ (rowG_at itmR _ j 3 x uj hz (by decide))
      rw [show itmR.size = 4 from rfl] at q0 q1 q2 q3
      rw [Nat.add_zero] at q0
      have x5 := HC.out.c 5 _ rfl
      have hl2 := HC.out.res.lt
      have jI : (j : Int) < (M.its.length : Int) := by omega
      have j0 : (0 : Int) ≤ (j : Int) := by omega
      have hbA : Below wr.heap.size wr (wr.alloc (itemO x.k x.n (strB x.s) uj)) := (Below.refl _ _).alloc (Nat.le_refl _) _
      have hbD : Below wr.heap.size wr (wr.alloc (itemO x.k x.n (strB x.s) uj)).drew := hbA.drew
      have cI2 := itemCopy_any x.k x.n (strB x.s) uj x.ps (wr.alloc (itemO x.k x.n (strB x.s) uj)).drew (hst.prms.below (HC.out.low.trans (hbD.mono HC.out.low.size))) (HS.out x (List.mem_of_getElem? hx))
      have HCD := Lib.hid (HC.out.next hbD)
      have HOD := Lib.hid (ownsRow_later HO.out hbD)
      have v5 := cell_later (itemO x.k x.n (strB x.s) uj) x5
      obtain ⟨au, bu, rfl⟩ := hst.form
      have HX := Lib.hid hx
      have HU := Lib.hid hu
      have HBD := Lib.hid hbD
      generalize hSB : strB x.s = SB at *
      have HSB := Lib.hid hSB
      clear hx hu hst hz hbA hbD hSB
      go_wp2_with fail
      go_region_with (go_at_call 56; refine cI2.mono ?_; rintro e w3 ⟨hb3, un, rfl, ho3⟩; obtain ⟨an, bn, rfl⟩ := owns_form ho3; have hC3 := HCD.out.next hb3; have hO3 := ownsRow_later HOD.out hb3; have k5 := hC3.c 5 _ rfl; obtain ⟨t0, e0, g0⟩ := owns_cell hO3 (j * 4) (by omega); obtain ⟨t1, e1, g1⟩ := owns_cell hO3 (j * 4 + 1) (by omega); obtain ⟨t2, e2, g2⟩ := owns_cell hO3 (j * 4 + 2) (by omega); obtain ⟨t3, e3, g3⟩ := owns_cell hO3 (j * 4 + 3) (by omega))
      all_goals
        go_wp2_with fail
        go_roundw
        case rel =>
          have hm : Moved g w3 ((((w3.setCell ⟨g, j * 4, none⟩ (.int .i64 x.k)).setCell ⟨g, j * 4 + 1, none⟩ (.int .i64 x.n)).setCell ⟨g, j * 4 + 2, none⟩ (.string SB)).setCell ⟨g, j * 4 + 3, none⟩ (.slice an x.ps.length bn)) := ((((Moved.refl _ _).setCell _).setCell _).setCell _).setCell _
          have s0 := hO3.stored (j * 4) (.int .i64 x.k)
          have s1 := s0.1.stored (j * 4 + 1) (.int .i64 x.n)
          have s2 := s1.1.stored (j * 4 + 2) (.string SB)
          have s3 := s2.1.stored (j * 4 + 3) (.slice an x.ps.length bn)
          have hB3 := HBD.out.trans (hb3.mono HBD.out.size)
          have hse : M.its.set j x = M.its := by
            have := HX.out
            rw [List.getElem?_eq_getElem hlt] at this
            obtain rfl := Option.some.inj this
            exact List.set_getElem_self _
          have hgz := HBD.out.size
          refine ⟨j + 1, us'.set j (.slice an x.ps.length bn), by go_num, by omega, by rw [List.length_set]; exact hul', ?_, Lib.hid ?_, ?_, ?_⟩
          · rw [show M.its.zip (us'.set j (.slice an x.ps.length bn)) = (M.its.zip us').set j (x, .slice an x.ps.length bn) by rw [← zip_set, hse], rowG_set4 _ _ _ _ (by rw [List.length_zip, hul', Nat.min_self]; exact hlt), HSB.out]
            exact s3.1
          · intro k u y hu hy
            by_cases e : k = j
            · subst e
              rw [List.getElem?_set_self (by omega)] at hu
              obtain rfl := Option.some.inj hu
              obtain rfl := Option.some.inj (HX.out.symm.trans hy)
              exact ⟨fun _ => (PrmsOff.made (lo := w.heap.size + 2) (blk := some g) ho3 (by omega) (fun g' e => by cases e; omega)).otherB rfl hm, fun h => absurd h (by omega)⟩
            · rw [List.getElem?_set_ne (Ne.symm e)] at hu
              exact ⟨fun h => (((HFs.out k u y hu hy).1 (by omega)).below hB3).otherB rfl hm, fun h => (HFs.out k u y hu hy).2 (by omega)⟩
          · exact (((hC3.far g _ hgB _).far g _ hgB _).far g _ hgB _).far g _ hgB _
          · exact (HP.out.below hB3).otherB rfl hm
        case measure => simp [intOf]; omega
    · obtain rfl : j = M.its.length := by omega
      have x6 := HC.out.c 6 _ rfl
      go_wp2_with fail
      refine (cP _ HC.out.low).mono ?_
      rintro e w4 ⟨hb4, vp1, rfl, ho4⟩
      have hC4 := HC.out.next hb4
      have hl2 := HC.out.res.lt
      have HP4 := Lib.hid (PrmsOff.made (lo := w.heap.size + 2) (blk := none) ho4 hl2 (fun g e => by cases e))
      have HU4 := Lib.hid (HP.out.free.below hb4)
      have HR4 := Lib.hid (ownsRow_later HO.out hb4)
      have HF4 : Hid (∀ (k : Nat) (u : Value) (x : Itm), us'[k]? = some u → M.its[k]? = some x → PrmsOff (w.heap.size + 2) none w4 u x.ps) := Lib.hid (fun k u x hu hx => ((HFs.out k u x hu hx).1 (List.getElem?_eq_some_iff.1 hx).1).free.below hb4)
      obtain ⟨a6, b6, rfl⟩ := owns_form ho4
      clear x6
      have x0 := hC4.c 0 _ rfl
      have x1 := hC4.c 1 _ rfl
      have x2 := hC4.c 2 _ rfl
      have x3 := hC4.c 3 _ rfl
      have x4 := hC4.c 4 _ rfl
      have x5 := hC4.c 5 _ rfl
      have x6 := hC4.c 6 _ rfl
      have f6 := hC4.f 6
      have hlt4 := hC4.res.lt
      have HL4 := Lib.hid hC4.low
      obtain ⟨r0, r1, r2, r3, r4, r5, r6, g0, g1, g2, g3, g4, g5, g6⟩ := hC4.res
      clear hb4 ho4 hC4 cP HC HP HO HFs
      go_wp2_with fail
      refine bodyPost_ret (v := aggM M.inner M.it.k M.it.n (strB M.it.s) (.slice a4 M.it.ps.length b4) (.slice a5 M.its.length b5) (.slice a6 M.ps.length b6)) (by simp [results, Tryz.results31, go_sem, r0, r1, r2, r3, r4, r5, r6]) rfl ?_
      have hmB : Moved w.heap.size w4 (w4.setCell ⟨w.heap.size, 6, none⟩ (.slice a6 M.ps.length b6)) := (Moved.refl _ _).setCell _
      have hmR : Moved (w.heap.size + 1) (w4.setCell ⟨w.heap.size, 6, none⟩ (.slice a6 M.ps.length b6)) ((((((((w4.setCell ⟨w.heap.size, 6, none⟩ (.slice a6 M.ps.length b6)).setCell ⟨w.heap.size + 1, 0, none⟩ (.bool M.inner)).setCell ⟨w.heap.size + 1, 1, none⟩ (.int .i64 M.it.k)).setCell ⟨w.heap.size + 1, 2, none⟩ (.int .i64 M.it.n)).setCell ⟨w.heap.size + 1, 3, none⟩ (.string (strB M.it.s))).setCell ⟨w.heap.size + 1, 4, none⟩ (.slice a4 M.it.ps.length b4)).setCell ⟨w.heap.size + 1, 5, none⟩ (.slice a5 M.its.length b5)).setCell ⟨w.heap.size + 1, 6, none⟩ (.slice a6 M.ps.length b6)) := by
        repeat (first | with_reducible refine Moved.setCell ?_ _)
        exact Moved.refl _ _
      have fin := fun (v : Value) (ps : List Prm) (h : PrmsOff (w.heap.size + 2) none w4 v ps) => (h.moved hmB (by omega)).moved hmR (by omega)
      refine ⟨?_, _, rfl, _, _, _, rfl, fin _ _ HU4.out, ?_, fin _ _ HP4.out⟩
      · repeat (first | with_reducible refine Below.setCell ?_ (by simp) _)
        exact HL4.out
      · exact (GOff.of_row (R := itmR) hul' (ownsRow_moved (ownsRow_moved HR4.out hmB (by omega)) hmR (by omega)) (fun k u x hu hx => fin _ _ (HF4.out k u x hu hx)) (Nat.le_refl _)).items

end Go.Proofs.YtjbipplaacgnkaaGreatDoor

namespace Go.Proofs.YtjbipplaacgnkaaGreatDoor
open Go.RowKit Go.Maps

abbrev rmemO (b : Bool) (k n : Int) (s : ByteArray) (u vi vp : Value) : Obj := .cells #[.bool b, .int .i64 k, .int .i64 n, .string s, u, vi, vp] 57
abbrev zeroR : Obj := rmemO false 0 0 ⟨#[]⟩ (.slice none 0 0) (.slice none 0 0) (.slice none 0 0)
theorem ResM.madeR (w : World) : ResM (w.alloc zeroR) w.heap.size := ⟨by simp, by simp, by simp, by simp, by simp, by simp, by simp, by simp, by simp, by simp, by simp, by simp, by simp, by simp⟩
theorem BoxC.madeR (w : World) (b : Bool) (k n : Int) (s : ByteArray) (u vi vp : Value) : BoxC w ((w.alloc (memO b k n s u vi vp)).alloc zeroR) [.bool b, .int .i64 k, .int .i64 n, .string s, u, vi, vp] := by
  refine ⟨fun i v hi => ?_, fun i => by simp, ?_, ((Below.refl _ _).alloc (Nat.le_refl _) _).alloc (by simp) _⟩
  · have hl : i < 7 := (List.getElem?_eq_some_iff.1 hi).1
    match i, hl with
    | 0, _ | 1, _ | 2, _ | 3, _ | 4, _ | 5, _ | 6, _ =>
      obtain rfl := Option.some.inj hi
      simp
  · have := ResM.madeR (w.alloc (memO b k n s u vi vp))
    simpa using this
theorem ResM.on {W W1 : World} {c : Nat} (h : ResM W c) (hb : Below W.heap.size W W1) : ResM W1 c := h.next (hb.mono h.lt)
theorem PrmsOff.over {lo : Nat} {X : World} {v : Value} {ps : List Prm} (h : PrmsOff lo none X v ps) (o : Obj) : PrmsOff lo (some X.heap.size) (X.alloc o) v ps :=
  (h.elsewhere X.heap.size (.inr (Nat.le_refl _))).below ((Below.refl _ _).alloc (Nat.le_refl _) o)

theorem info_ritem : (Tryz.prog.info? 54).map (fun i => (i.zero, i.size, i.bytes)) = some (some (.agg #[.int .i64 0, .int .i64 0, .string ⟨#[]⟩, .slice none 0 0]), 4, 56) := by kernel_rfl

/-- What a call made, of parameters that it owns. -/
structure OwnC (w : World) (cs : List Value) (W w' : World) (v : Value) (ps : List Prm) : Prop where
  off : PrmsOff (w.heap.size + 2) none w' v ps
  new : ∀ g, g < W.heap.size → PrmsOff (w.heap.size + 2) (some g) w' v ps
  box : BoxC w w' cs
  low : Below W.heap.size W w'
theorem OwnC.mk' {w W w' : World} {cs : List Value} {v : Value} {ps : List Prm} {base : Nat} {T : TypeId} (hW : BoxC w W cs) (hb : Below W.heap.size W w') (ho : w'.ownsRow base T 4 v ps.length (rowP ps)) (hB : W.heap.size ≤ base) : OwnC w cs W w' v ps := by
  have := hW.res.lt
  exact ⟨PrmsOff.made ho (by omega) (fun g e => by cases e), fun g hg => PrmsOff.made ho (by omega) (fun g' e => by cases e; omega), hW.next hb, hb⟩

/-- A block's cells. -/
def Cel (W : World) (b : Nat) (cs : List Value) : Prop := ∀ (i : Nat) (v : Value), cs[i]? = some v → W.cell? ⟨b, i, none⟩ = some v
theorem Cel.put {W : World} {b : Nat} {cs : List Value} (h : Cel W b cs) (i : Nat) (hi : i < cs.length) (v : Value) : Cel (W.setCell ⟨b, i, none⟩ v) b (cs.set i v) := by
  intro j u hj
  by_cases hij : i = j
  · subst hij
    rw [List.getElem?_set_self hi] at hj
    obtain rfl := Option.some.inj hj
    exact World.cell?_setCell_same W _ _ (h i cs[i] (List.getElem?_eq_getElem hi))
  · rw [List.getElem?_set_ne hij] at hj
    exact (World.cell?_setCell_other W ⟨b, i, none⟩ ⟨b, j, none⟩ _ (by simp)).trans (h j u hj)
theorem ResM.cel {W : World} {c : Nat} (h : ResM W c) : Cel W c [.bool false, .int .i64 0, .int .i64 0, .string ⟨#[]⟩, .slice none 0 0, .slice none 0 0, .slice none 0 0] := by
  intro i v hi
  have hl : i < 7 := (List.getElem?_eq_some_iff.1 hi).1
  match i, hl with
  | 0, _ => obtain rfl := Option.some.inj hi; exact h.r0
  | 1, _ => obtain rfl := Option.some.inj hi; exact h.r1
  | 2, _ => obtain rfl := Option.some.inj hi; exact h.r2
  | 3, _ => obtain rfl := Option.some.inj hi; exact h.r3
  | 4, _ => obtain rfl := Option.some.inj hi; exact h.r4
  | 5, _ => obtain rfl := Option.some.inj hi; exact h.r5
  | 6, _ => obtain rfl := Option.some.inj hi; exact h.r6

/-- The member that is made, while its items come. -/
structure OutSt (w W : World) (cs : List Value) (ob : Nat) (os : List Value) (u1 u3 : Value) (p1 p3 : List Prm) : Prop where
  lo : w.heap.size + 2 ≤ ob
  lt : ob < W.heap.size
  box : BoxC w W cs
  c : Cel W ob os
  f : W.frozen? ⟨ob, 5, none⟩ = false
  a1 : PrmsOff (w.heap.size + 2) (some ob) W u1 p1
  a3 : PrmsOff (w.heap.size + 2) (some ob) W u3 p3
theorem OutSt.last {w W : World} {cs : List Value} {u1 u3 : Value} {p1 p3 : List Prm} {b : Bool} {k n : Int} {s : ByteArray} (hB : BoxC w W cs) (h1 : PrmsOff (w.heap.size + 2) none W u1 p1) (h3 : PrmsOff (w.heap.size + 2) none W u3 p3) :
    OutSt w (W.alloc (rmemO b k n s u1 (.slice none 0 0) u3)) cs W.heap.size [.bool b, .int .i64 k, .int .i64 n, .string s, u1, .slice none 0 0, u3] u1 u3 p1 p3 := by
  refine ⟨hB.res.lt, by simp, hB.next ((Below.refl _ _).alloc (Nat.le_refl _) _), fun i v hi => ?_, by simp, h1.over _, h3.over _⟩
  have hl : i < 7 := (List.getElem?_eq_some_iff.1 hi).1
  match i, hl with
  | 0, _ | 1, _ | 2, _ | 3, _ | 4, _ | 5, _ | 6, _ =>
    obtain rfl := Option.some.inj hi
    simp
theorem OutSt.amid {w W : World} {cs : List Value} {ob : Nat} {u1 u3 : Value} {p1 p3 : List Prm} {b : Bool} {k n : Int} {s : ByteArray} (hB : BoxC w W cs) (hz : ResM W ob) (hlo : w.heap.size + 2 ≤ ob) (h1 : PrmsOff (w.heap.size + 2) (some ob) W u1 p1) (h3 : PrmsOff (w.heap.size + 2) (some ob) W u3 p3) :
    OutSt w (((((((W.setCell ⟨ob, 0, none⟩ (.bool b)).setCell ⟨ob, 1, none⟩ (.int .i64 k)).setCell ⟨ob, 2, none⟩ (.int .i64 n)).setCell ⟨ob, 3, none⟩ (.string s)).setCell ⟨ob, 4, none⟩ u1).setCell ⟨ob, 5, none⟩ (.slice none 0 0)).setCell ⟨ob, 6, none⟩ u3) cs ob [.bool b, .int .i64 k, .int .i64 n, .string s, u1, .slice none 0 0, u3] u1 u3 p1 p3 := by
  have hm : Moved ob W (((((((W.setCell ⟨ob, 0, none⟩ (.bool b)).setCell ⟨ob, 1, none⟩ (.int .i64 k)).setCell ⟨ob, 2, none⟩ (.int .i64 n)).setCell ⟨ob, 3, none⟩ (.string s)).setCell ⟨ob, 4, none⟩ u1).setCell ⟨ob, 5, none⟩ (.slice none 0 0)).setCell ⟨ob, 6, none⟩ u3) := by
    repeat (first | with_reducible refine Moved.setCell ?_ _)
    exact Moved.refl _ _
  have hlt := hz.lt
  refine ⟨hlo, Nat.lt_of_lt_of_le hlt hm.size, ((((((hB.far ob _ hlo _).far ob _ hlo _).far ob _ hlo _).far ob _ hlo _).far ob _ hlo _).far ob _ hlo _).far ob _ hlo _, ((((((hz.cel.put 0 (by simp) _).put 1 (by simp) _).put 2 (by simp) _).put 3 (by simp) _).put 4 (by simp) _).put 5 (by simp) _).put 6 (by simp) _, ?_, h1.other hm, h3.other hm⟩
  · rw [World.frozen?_setCell, World.frozen?_setCell, World.frozen?_setCell, World.frozen?_setCell, World.frozen?_setCell, World.frozen?_setCell, World.frozen?_setCell]
    exact hz.g5

abbrev heldO (w : World) (cs : List Value) (M : Mem) (u vp : Value) (W : World) : Prop :=
  W.cell? ⟨w.heap.size, 0, none⟩ = some (.bool M.inner) ∧ W.cell? ⟨w.heap.size, 1, none⟩ = some (.int .i64 M.it.k) ∧ W.cell? ⟨w.heap.size, 2, none⟩ = some (.int .i64 M.it.n) ∧ W.cell? ⟨w.heap.size, 3, none⟩ = some (.string (strB M.it.s)) ∧ W.cell? ⟨w.heap.size, 4, none⟩ = some u ∧ W.cell? ⟨w.heap.size, 6, none⟩ = some vp ∧ BoxC w W cs
theorem heldO_mk {w W : World} {M : Mem} {u vi vp : Value} (h : BoxC w W [.bool M.inner, .int .i64 M.it.k, .int .i64 M.it.n, .string (strB M.it.s), u, vi, vp]) : heldO w [.bool M.inner, .int .i64 M.it.k, .int .i64 M.it.n, .string (strB M.it.s), u, vi, vp] M u vp W :=
  ⟨h.c 0 _ rfl, h.c 1 _ rfl, h.c 2 _ rfl, h.c 3 _ rfl, h.c 4 _ rfl, h.c 6 _ rfl, h⟩
theorem BoxC.al {w W : World} {cs : List Value} (h : BoxC w W cs) (o : Obj) : BoxC w (W.alloc o) cs := h.next ((Below.refl _ _).alloc (Nat.le_refl _) _)
theorem heldO_al {w W : World} {M : Mem} {u vi vp : Value} (h : BoxC w W [.bool M.inner, .int .i64 M.it.k, .int .i64 M.it.n, .string (strB M.it.s), u, vi, vp]) (o : Obj) : heldO w [.bool M.inner, .int .i64 M.it.k, .int .i64 M.it.n, .string (strB M.it.s), u, vi, vp] M u vp (W.alloc o) := heldO_mk (h.al o)
theorem BoxC.st {w W : World} {cs : List Value} (h : BoxC w W cs) {ob : Nat} (hlo : w.heap.size + 2 ≤ ob) (a b c d e f g : Value) :
    BoxC w (((((((W.setCell ⟨ob, 0, none⟩ a).setCell ⟨ob, 1, none⟩ b).setCell ⟨ob, 2, none⟩ c).setCell ⟨ob, 3, none⟩ d).setCell ⟨ob, 4, none⟩ e).setCell ⟨ob, 5, none⟩ f).setCell ⟨ob, 6, none⟩ g) cs :=
  ((((((h.far ob _ hlo _).far ob _ hlo _).far ob _ hlo _).far ob _ hlo _).far ob _ hlo _).far ob _ hlo _).far ob _ hlo _
theorem BoxC.mv {w W W1 : World} {cs : List Value} {c : Nat} (h : BoxC w W cs) (hm : Moved c W W1) (hc : w.heap.size + 2 ≤ c) : BoxC w W1 cs := by
  have hl := h.res.lt
  refine ⟨fun i v hi => (hm.cell (p := ⟨w.heap.size, i, none⟩) (by show w.heap.size < _; omega) (by show w.heap.size ≠ _; omega)).trans (h.c i v hi), fun i => (hm.frozen (p := ⟨w.heap.size, i, none⟩) (by show w.heap.size < _; omega) (by show w.heap.size ≠ _; omega)).trans (h.f i), h.res.far hm (by omega), h.low.trans (hm.below (by omega) h.low.size)⟩
theorem OwnI.mv {T : TypeId} {w w' : World} {base c : Nat} {v : Value} {xs : List Itm} (h : OwnI T w base v xs) (hm : Moved c w w') (hc : c < base) : OwnI T w' base v xs := by
  obtain ⟨us, h1, h2, h3⟩ := h
  exact ⟨us, h1, ownsRow_moved h2 hm hc, fun j u x hu hx => (h3 j u x hu hx).moved hm hc⟩

theorem kept_cell3 {wr w3 w5 : World} {o : Obj} {base j size c i : Nat} {e : TypeId} {v u : Value} {xs : List Value} (HO : wr.ownsRow base e size v j xs) (hb : Below wr.heap.size wr w3) (hg : (w3.alloc o).grownBy w5 v.ownBlock) (hc : c < base) (h : wr.cell? ⟨c, i, none⟩ = some u) : w5.cell? ⟨c, i, none⟩ = some u := by
  have hba := hb.trans (((Below.refl w3.heap.size w3).alloc (Nat.le_refl _) o).mono hb.size)
  have h2 := (hba.cell (p := ⟨c, i, none⟩) (lt_of_cell h)).trans h
  exact (grown_cell hg (lt_of_cell h2) (own_ne HO hc) i).trans h2
theorem kept_frozen3 {wr w3 w5 : World} {o : Obj} {base j size c i : Nat} {e : TypeId} {v : Value} {xs : List Value} (HO : wr.ownsRow base e size v j xs) (hb : Below wr.heap.size wr w3) (hg : (w3.alloc o).grownBy w5 v.ownBlock) (hc : c < base) (hl : c < wr.heap.size) (h : wr.frozen? ⟨c, i, none⟩ = false) : w5.frozen? ⟨c, i, none⟩ = false := by
  have hba := hb.trans (((Below.refl w3.heap.size w3).alloc (Nat.le_refl _) o).mono hb.size)
  have h2 := (hba.frozen (p := ⟨c, i, none⟩) hl).trans h
  exact (hg.frozen_far ⟨c, i, none⟩ (Nat.lt_of_lt_of_le hl hba.size) (own_ne HO hc)).trans h2

/-- A round of the loop: one more item behind the others, and the slice stored. -/
theorem own_round {wx wr w3 w5 : World} {ob g cap n : Nat} {o : Obj} {os : List Value} {v u' : Value} {xs : List Itm} {x : Itm} {us : List Value} {T : TypeId} (hn : xs.length = n) (hm : Moved ob wx wr) (hob : ob < wx.heap.size) (hc : Cel wr ob os) (hl : 5 < os.length) (hf : wr.frozen? ⟨ob, 5, none⟩ = false)
    (h1 : us.length = n) (h2 : wr.ownsRow wx.heap.size T 4 v n (rowI (xs.zip us))) (h3 : ∀ (j : Nat) (u : Value) (x : Itm), us[j]? = some u → xs[j]? = some x → PrmsOff wx.heap.size v.ownBlock wr u x.ps)
    (hb : Below wr.heap.size wr w3) (hu : PrmsOff wr.heap.size none w3 u' x.ps)
    (hown : w5.ownsRow wx.heap.size T 4 (.slice (some ⟨g, 0, none⟩) (n + 1) cap) (n + 1) (rowI (xs.zip us) ++ cellsI x u')) (hg : (w3.alloc o).grownBy w5 v.ownBlock) (hat : v.ownBlock = some g ∨ g = (w3.alloc o).heap.size) :
    Moved ob wx (w5.setCell ⟨ob, 5, none⟩ (.slice (some ⟨g, 0, none⟩) (n + 1) cap)) ∧ Cel (w5.setCell ⟨ob, 5, none⟩ (.slice (some ⟨g, 0, none⟩) (n + 1) cap)) ob (os.set 5 (.slice (some ⟨g, 0, none⟩) (n + 1) cap)) ∧ (w5.setCell ⟨ob, 5, none⟩ (.slice (some ⟨g, 0, none⟩) (n + 1) cap)).frozen? ⟨ob, 5, none⟩ = false ∧
    OwnI T (w5.setCell ⟨ob, 5, none⟩ (.slice (some ⟨g, 0, none⟩) (n + 1) cap)) wx.heap.size (.slice (some ⟨g, 0, none⟩) (n + 1) cap) (xs ++ [x]) := by
  subst hn
  have hba : Below wr.heap.size wr (w3.alloc o) := hb.trans (((Below.refl w3.heap.size w3).alloc (Nat.le_refl _) o).mono hb.size)
  have hobr : ob < wr.heap.size := Nat.lt_of_lt_of_le hob hm.size
  have hm5 : Moved ob wx w5 := (hm.low hba).grown hg (fun k hk => (World.ownsRow.lt h2 k hk).1)
  have hc5 : Cel w5 ob os := fun i u hi => kept_cell3 h2 hb hg hob (hc i u hi)
  have hf5 : w5.frozen? ⟨ob, 5, none⟩ = false := kept_frozen3 h2 hb hg hob hobr hf
  have ha : Below w3.heap.size w3 (w3.alloc o) := (Below.refl _ _).alloc (Nat.le_refl _) o
  have hO := OwnI.snoc (w := w3.alloc o) h1 (fun j u y hu hy => (h3 j u y hu hy).below hba) (((hu.avoid (blk' := v.ownBlock) (fun k hk => (World.ownsRow.lt h2 k hk).2)).low hm.size).below ha) hown hg hat
  exact ⟨hm5.setCell _, hc5.put 5 hl _, by rw [World.frozen?_setCell]; exact hf5, hO.mv ((Moved.refl ob w5).setCell _) hob⟩

theorem heldO_st {w W : World} {M : Mem} {u vi vp : Value} (h : BoxC w W [.bool M.inner, .int .i64 M.it.k, .int .i64 M.it.n, .string (strB M.it.s), u, vi, vp]) {ob : Nat} (hlo : w.heap.size + 2 ≤ ob) (a b c d e f g : Value) :
    heldO w [.bool M.inner, .int .i64 M.it.k, .int .i64 M.it.n, .string (strB M.it.s), u, vi, vp] M u vp (((((((W.setCell ⟨ob, 0, none⟩ a).setCell ⟨ob, 1, none⟩ b).setCell ⟨ob, 2, none⟩ c).setCell ⟨ob, 3, none⟩ d).setCell ⟨ob, 4, none⟩ e).setCell ⟨ob, 5, none⟩ f).setCell ⟨ob, 6, none⟩ g) := heldO_mk (h.st hlo _ _ _ _ _ _ _)

set_option maxRecDepth 100000 in
set_option maxHeartbeats 4000000 in
theorem own_any (M : Mem) (v : Value) (w : World) (h : MemAt 0 none w M v) (h1 : M.it.ps.length ≤ 2932031007402) (h2 : M.ps.length ≤ 2932031007402) (h3 : M.its.length ≤ 2513169434916) (h4 : ∀ x ∈ M.its, x.ps.length ≤ 2932031007402) :
    Calls Tryz.prog 18 #[v] w fun e w' => Below w.heap.size w w' ∧ ∃ v', e = .returned v' ∧ MemAt (w.heap.size + 2) none w' M v' := by
  obtain ⟨i0, hi, hz0, hz1, hz2⟩ := info_parts info_ritem
  obtain ⟨u, vi, vp, rfl, p1, p2, p3⟩ := h
  have hK0 : BoxC w ((w.alloc (memO M.inner M.it.k M.it.n (strB M.it.s) u vi vp)).alloc zeroR) [.bool M.inner, .int .i64 M.it.k, .int .i64 M.it.n, .string (strB M.it.s), u, vi, vp] := BoxC.madeR _ _ _ _ _ _ _ _
  have hKd := hK0.next (Below.refl _ _).drew
  have hKe := (hK0.next ((Below.refl _ _).alloc (Nat.le_refl _) zeroR)).next (Below.refl _ _).drew
  have HZ0 : ∀ W, Below (((w.alloc (memO M.inner M.it.k M.it.n (strB M.it.s) u vi vp)).alloc zeroR).alloc zeroR).drew.heap.size (((w.alloc (memO M.inner M.it.k M.it.n (strB M.it.s) u vi vp)).alloc zeroR).alloc zeroR).drew W → ResM W (w.heap.size + 1 + 1) := fun W hW => by
    have := ((ResM.madeR _).on (Below.refl _ _).drew).on hW
    simpa using this
  have cI : ∀ W, BoxC w W [.bool M.inner, .int .i64 M.it.k, .int .i64 M.it.n, .string (strB M.it.s), u, vi, vp] → Calls Tryz.prog 34 #[.agg #[.int .i64 M.it.k, .int .i64 M.it.n, .string (strB M.it.s), u]] W fun e w' => ∃ a c, e = .returned (.agg #[.int .i64 M.it.k, .int .i64 M.it.n, .string (strB M.it.s), .slice a M.it.ps.length c]) ∧ OwnC w [.bool M.inner, .int .i64 M.it.k, .int .i64 M.it.n, .string (strB M.it.s), u, vi, vp] W w' (.slice a M.it.ps.length c) M.it.ps := fun W hW =>
    (ownItem_any M.it.k M.it.n (strB M.it.s) u M.it.ps W (p1.prms.below hW.low) h1).mono fun e w' ⟨hb, u', he, ho⟩ => by
      obtain ⟨a, c, rfl⟩ := owns_form ho
      exact ⟨a, c, he, .mk' hW hb ho (by omega)⟩
  have cP : ∀ W, BoxC w W [.bool M.inner, .int .i64 M.it.k, .int .i64 M.it.n, .string (strB M.it.s), u, vi, vp] → Calls Tryz.prog 35 #[vp] W fun e w' => ∃ a c, e = .returned (.slice a M.ps.length c) ∧ OwnC w [.bool M.inner, .int .i64 M.it.k, .int .i64 M.it.n, .string (strB M.it.s), u, vi, vp] W w' (.slice a M.ps.length c) M.ps := fun W hW =>
    (ownParams_any vp M.ps W (p3.prms.below hW.low) h2).mono fun e w' ⟨hb, u', he, ho⟩ => by
      obtain ⟨a, c, rfl⟩ := owns_form ho
      exact ⟨a, c, he, .mk' hW hb ho (Nat.le_refl _)⟩
  obtain ⟨x1, y1, rfl⟩ := p1.form
  obtain ⟨x2, y2, rfl, hc2⟩ := p2
  obtain ⟨x3, y3, rfl⟩ := p3.form
  have HC2 := Lib.hid hc2
  have H4 := Lib.hid h4
  have hSd := heldO_mk hKd
  have hSe := heldO_mk hKe
  have hl0 : w.heap.size + 2 ≤ w.heap.size + 1 + 1 := Nat.le_refl _
  clear p1 p3 hc2 h4 h1 h2 hK0
  go_enter Tryz.func18, Tryz.ntmps18
  go_upto_region 1 with fail
  go_cut [3] (fun s3 wx => ∃ (ob : Nat) (a1 a3 : Option Addr) (c1 c3 : Nat), s3 = .pointer (some ⟨ob, 0, none⟩) ∧ OutSt w wx [.bool M.inner, .int .i64 M.it.k, .int .i64 M.it.n, .string (strB M.it.s), Value.slice x1 M.it.ps.length y1, Value.slice x2 M.its.length y2, Value.slice x3 M.ps.length y3] ob [.bool M.inner, .int .i64 M.it.k, .int .i64 M.it.n, .string (strB M.it.s), .slice a1 M.it.ps.length c1, .slice none 0 0, .slice a3 M.ps.length c3] (.slice a1 M.it.ps.length c1) (.slice a3 M.ps.length c3) M.it.ps M.ps)
  case first =>
    go_region_held3 (fun W => W.cell? ⟨w.heap.size, 0, none⟩ = some (.bool M.inner) ∧ W.cell? ⟨w.heap.size, 1, none⟩ = some (.int .i64 M.it.k) ∧ W.cell? ⟨w.heap.size, 2, none⟩ = some (.int .i64 M.it.n) ∧ W.cell? ⟨w.heap.size, 3, none⟩ = some (.string (strB M.it.s)) ∧ W.cell? ⟨w.heap.size, 4, none⟩ = some (.slice x1 M.it.ps.length y1) ∧ W.cell? ⟨w.heap.size, 6, none⟩ = some (.slice x3 M.ps.length y3) ∧ BoxC w W [.bool M.inner, .int .i64 M.it.k, .int .i64 M.it.n, .string (strB M.it.s), Value.slice x1 M.it.ps.length y1, Value.slice x2 M.its.length y2, Value.slice x3 M.ps.length y3]) (first | with_reducible assumption | (with_reducible refine heldO_al ?_ _; with_reducible assumption) | (with_reducible refine heldO_st ?_ ?_ _ _ _ _ _ _ _; with_reducible assumption; with_reducible assumption))
      (first
      | (go_at_call 34; refine (cI _ (by first | with_reducible assumption | (with_reducible refine BoxC.al ?_ _; with_reducible assumption) | fail)).mono ?_; rintro e w' ⟨aI, cI', rfl, hI⟩; (first | (with_reducible have hz := HZ0 _ hI.low) | (with_reducible have hz := hz.on hI.low) | (with_reducible have hz := (ResM.madeR _).on hI.low) | skip); (try (have hz9 := hz; obtain ⟨z0, z1, z2, z3, z4, z5, z6, y0, y1, y2, y3, y4, y5, y6⟩ := hz9)); have hK := hI.box; have hS := heldO_mk hK; have hl : w.heap.size + 2 ≤ w'.heap.size := hK.res.lt)
      | (go_at_call 35; refine (cP _ (by first | with_reducible assumption | (with_reducible refine BoxC.al ?_ _; with_reducible assumption) | fail)).mono ?_; rintro e w' ⟨aP, cP', rfl, hP⟩; (first | (with_reducible have hz := HZ0 _ hP.low) | (with_reducible have hz := hz.on hP.low) | (with_reducible have hz := (ResM.madeR _).on hP.low) | skip); (try (have hz9 := hz; obtain ⟨z0, z1, z2, z3, z4, z5, z6, y0, y1, y2, y3, y4, y5, y6⟩ := hz9)); have hK := hP.box; have hS := heldO_mk hK; have hl : w.heap.size + 2 ≤ w'.heap.size := hK.res.lt))
    all_goals
      go_wp2_with fail
      go_meet
      refine ⟨_, aI, aP, cI', cP', rfl, ?_⟩
      first
      | (with_reducible refine OutSt.last ?_ ?_ ?_
         · exact hP.box
         · exact hI.off.below hP.low
         · exact hP.off)
      | (with_reducible refine OutSt.amid ?_ hz ?_ ?_ ?_
         · exact hP.box
         · first
           | with_reducible exact hl0
           | exact hI.box.res.lt
         · first
           | with_reducible exact (hI.off.over _).below hP.low
           | exact (hI.new _ (by simp)).below hP.low
         · first
           | with_reducible exact hP.new _ (by simp)
           | exact hP.new _ (Nat.lt_of_lt_of_le (by simp) hI.low.size))
  case rest =>
  obtain ⟨ob, a1, a3, c1, c3, rfl, hO⟩ := hcut
  clear cI cP hKd hKe HZ0 hSd hSe
  have hob := hO.lt
  have hlo := hO.lo
  have k5 := hO.c 5 _ rfl
  have b5 := hO.box.c 5 _ rfl
  have HOS := Lib.hid hO
  clear hO
  go_wp2_with fail
  clear k5 b5
  go_loopw [4] (fun i wr => ∃ (j : Nat) (v : Value), i = .int .i64 j ∧ j ≤ M.its.length ∧ Moved ob wc wr ∧ Cel wr ob [.bool M.inner, .int .i64 M.it.k, .int .i64 M.it.n, .string (strB M.it.s), .slice a1 M.it.ps.length c1, v, .slice a3 M.ps.length c3] ∧ wr.frozen? ⟨ob, 5, none⟩ = false ∧ OwnI 54 wr wc.heap.size v (M.its.take j)) (fun i _ => M.its.length - (intOf i).toNat)
  case atStart => exact ⟨0, _, rfl, Nat.zero_le _, Moved.refl _ _, HOS.out.c, HOS.out.f, OwnI.nothing _ _ _⟩
  case round =>
    obtain ⟨j, v, rfl, hj, hm, hc, hf, hown⟩ := hrel
    have hK := HOS.out.box.mv hm hlo
    have b5 := hK.c 5 _ rfl
    obtain ⟨us, hu1, hu2, hu3⟩ := hown
    rw [List.length_take, Nat.min_eq_left hj] at hu1 hu2
    by_cases hlt : j < M.its.length
    · rcases HC2.out with hnil | ⟨c, off, rfl, _, _, hcl, hcell⟩
      · exfalso
        rw [hnil] at hlt
        simp at hlt
      · obtain ⟨p, hp⟩ : ∃ p, M.its[j]? = some p := ⟨_, List.getElem?_eq_getElem hlt⟩
        obtain ⟨t, ⟨p0, p1, p2, p3⟩, hF⟩ := hcell j p hp
        have hbw := hK.low
        have d0 := (hbw.cell (p := ⟨c, off + j * 4, none⟩) hcl).trans p0
        have d1 := (hbw.cell (p := ⟨c, off + j * 4 + 1, none⟩) hcl).trans p1
        have d2 := (hbw.cell (p := ⟨c, off + j * 4 + 2, none⟩) hcl).trans p2
        have d3 := (hbw.cell (p := ⟨c, off + j * 4 + 3, none⟩) hcl).trans p3
        have hpl := H4.out p (List.mem_of_getElem? hp)
        have hPp := hF.prms
        obtain ⟨at1, ct1, rfl⟩ := hF.form
        have cI2 : Calls Tryz.prog 34 #[.agg #[.int .i64 p.k, .int .i64 p.n, .string (strB p.s), .slice at1 p.ps.length ct1]] wr.drew fun e w' => ∃ a c2, e = .returned (.agg #[.int .i64 p.k, .int .i64 p.n, .string (strB p.s), .slice a p.ps.length c2]) ∧ Below wr.heap.size wr w' ∧ PrmsOff wr.heap.size none w' (.slice a p.ps.length c2) p.ps :=
          (ownItem_any p.k p.n (strB p.s) _ p.ps wr.drew (hPp.below (hbw.trans ((Below.refl wr.heap.size wr).drew.mono hbw.size))) hpl).mono fun e w' ⟨hb, u', he, ho⟩ => by
            obtain ⟨a, c2, rfl⟩ := owns_form ho
            exact ⟨a, c2, he, (Below.refl wr.heap.size wr).drew.trans hb, .made ho (Nat.le_add_right _ _) (fun g e => by cases e)⟩
        have htk : M.its.take j ++ [p] = M.its.take (j + 1) := by rw [List.take_add_one, hp] <;> rfl
        obtain ⟨av, cv, rfl⟩ := owns_form hu2
        have k5 := hc 5 _ rfl
        have hobr : ob < wr.heap.size := Nat.lt_of_lt_of_le hob hm.size
        have hbxr : w.heap.size < wr.heap.size := by have := hK.res.lt; omega
        have jI : (j : Int) < (M.its.length : Int) := by omega
        have j0 : (0 : Int) ≤ (j : Int) := by omega
        have HO := Lib.hid hu2
        have HU := Lib.hid hu3
        have HT := Lib.hid htk
        have HM := Lib.hid hm
        have HCE := Lib.hid hc
        have HTL : Hid ((M.its.take j).length = j) := Lib.hid (by rw [List.length_take, Nat.min_eq_left hj])
        clear hcell hcl p0 p1 p2 p3 hF hPp hpl hp hbw hK hu2 hu3 htk hm hc HC2 H4
        go_wp2_with fail
        go_region_law (first
          | (refine step_append_lies _ rfl (.tmp 22) (.tmp 29) 55 rfl wc.heap.size 54 i0 (.agg #[.int .i64 0, .int .i64 0, .string ⟨#[]⟩, .slice none 0 0]) 4 56 Tryz.underlying55 hi hz0 hz1 hz2 rfl (by decide) (.slice av j cv) j (rowI ((M.its.take j).zip us)) (by simp [Act.eval]) HO1.out ⟨w3.heap.size, 0, none⟩ 1 1 (cellsI p (.slice an p.ps.length bn)) (by simp [Act.eval]) rfl HN1.out HC1.out (by decide) (by unfold maxLen; omega) (by omega) hz3 _ rfl ?_; intro g cap3 w5 hown5 hgrow5 hor5 hlt5; have e5 := kept_cell3 HO.out hb3 hgrow5 hob k5; have ef5 := kept_frozen3 HO.out hb3 hgrow5 hob hobr hf)
          | (go_simp; go_at_call 34; refine cI2.mono ?_; rintro e w3 ⟨an, bn, rfl, hb3, hun⟩; have n5 := (hb3.cell (p := ⟨ob, 5, none⟩) hobr).trans k5; have hob3 := Nat.lt_of_lt_of_le hobr hb3.size; have n6 := (((Below.refl w3.heap.size w3).alloc (Nat.le_refl _) (.cells #[.int .i64 p.k, .int .i64 p.n, .string (strB p.s), .slice an p.ps.length bn] 54)).cell (p := ⟨ob, 5, none⟩) hob3).trans n5; have HO1 := Lib.hid ((ownsRow_later HO.out hb3).alloc (.cells #[.int .i64 p.k, .int .i64 p.n, .string (strB p.s), .slice an p.ps.length bn] 54)); have HN1 := Lib.hid (cells_new w3 (cellsI p (.slice an p.ps.length bn)) 54); have HC1 : Hid (∀ u ∈ cellsI p (.slice an p.ps.length bn), u.oneCell' = true) := Lib.hid (by simp [Value.oneCell', cellsI]); have hz3 : wc.heap.size ≤ (w3.alloc (.cells #[.int .i64 p.k, .int .i64 p.n, .string (strB p.s), .slice an p.ps.length bn] 54)).heap.size := Nat.le_trans HM.out.size (Nat.le_trans hb3.size ((Below.refl w3.heap.size w3).alloc (Nat.le_refl _) _).size)))
        all_goals
          go_wp2_with fail
          go_roundw
          case rel =>
            have hN := own_round HTL.out HM.out hob HCE.out (by simp) hf hu1 HO.out HU.out hb3 hun hown5 hgrow5 hor5
            rw [HT.out] at hN
            obtain ⟨n0, n1, n2, n3⟩ := hN
            exact ⟨j + 1, _, by go_num, by omega, n0, n1, n2, n3⟩
          case measure => simp [intOf]; omega
    · obtain rfl : j = M.its.length := by omega
      obtain ⟨av, cv, rfl⟩ := owns_form hu2
      rw [List.take_length] at hu2 hu3
      have HOI : Hid (OwnI 54 wr wc.heap.size (.slice av M.its.length cv) M.its) := Lib.hid ⟨us, hu1, hu2, hu3⟩
      have o0 := hc 0 _ rfl
      have o1 := hc 1 _ rfl
      have o2 := hc 2 _ rfl
      have o3 := hc 3 _ rfl
      have o4 := hc 4 _ rfl
      have o5 := hc 5 _ rfl
      have o6 := hc 6 _ rfl
      have HL := Lib.hid hK.low
      have HM := Lib.hid hm
      obtain ⟨r0, r1, r2, r3, r4, r5, r6, g0, g1, g2, g3, g4, g5, g6⟩ := hK.res
      have hlt4 := hK.res.lt
      clear hu1 hu2 hu3 hc hm hK
      go_wp2_with fail
      refine bodyPost_ret (v := aggM M.inner M.it.k M.it.n (strB M.it.s) (.slice a1 M.it.ps.length c1) (.slice av M.its.length cv) (.slice a3 M.ps.length c3)) (by simp [results, Tryz.results18, go_sem, r0, r1, r2, r3, r4, r5, r6]) rfl ?_
      have hmR : Moved (w.heap.size + 1) wr (((((((wr.setCell ⟨w.heap.size + 1, 0, none⟩ (.bool M.inner)).setCell ⟨w.heap.size + 1, 1, none⟩ (.int .i64 M.it.k)).setCell ⟨w.heap.size + 1, 2, none⟩ (.int .i64 M.it.n)).setCell ⟨w.heap.size + 1, 3, none⟩ (.string (strB M.it.s))).setCell ⟨w.heap.size + 1, 4, none⟩ (.slice a1 M.it.ps.length c1)).setCell ⟨w.heap.size + 1, 5, none⟩ (.slice av M.its.length cv)).setCell ⟨w.heap.size + 1, 6, none⟩ (.slice a3 M.ps.length c3)) := by
        repeat (first | with_reducible refine Moved.setCell ?_ _)
        exact Moved.refl _ _
      refine ⟨HL.out.trans (hmR.below (by omega) HL.out.size), _, rfl, _, _, _, rfl, ((HOS.out.a1.other HM.out).free).moved hmR (by omega), ((HOI.out.off (blk := none) (fun g e => by cases e)).low (by omega)).moved hmR (by omega), ((HOS.out.a3.other HM.out).free).moved hmR (by omega)⟩

end Go.Proofs.YtjbipplaacgnkaaGreatDoor

namespace Go.Proofs.YtjbipplaacgnkaaGreatDoor
open Go.RowKit Go.Maps
open Go.WideMaps (keyOf_string_mk)

set_option maxRecDepth 100000 in
set_option maxHeartbeats 4000000 in
theorem oneOf_any (v : Value) (es : List Ent) (lo : Nat) (w : World) (h : GOff entR lo none w v es) (hlo : lo ≤ w.heap.size) (hl : es.length ≤ 100000) (hk : ∀ p ∈ es, p.key.length ≤ 100000) :
    Calls Tryz.prog 29 #[v] w fun e w' => Below w.heap.size w w' ∧ ∃ u, e = .returned u ∧ GOff entR lo none w' u (oeK es) := by
  obtain ⟨i0, hi, hz0, hz1, hz2⟩ := info_parts info_entry
  obtain ⟨ao, cap, rfl, hc⟩ := h
  have Hmap0 := Lib.hid (World.ownsMap_made (H := Unit) w Tryz.prog 9 (plainElem Tryz.prog 3))
  have HB0 : Hid (Below w.heap.size w (w.alloc (.map #[] 0))) := Lib.hid ((Below.refl _ _).alloc (Nat.le_refl _) _)
  have hmm := @run_makeMap Tryz.prog
  have HK := Lib.hid hk
  have HC := Lib.hid hc
  clear hk hc
  go_enter Tryz.func29, Tryz.ntmps29
  go_wp2_with fail
  clear hmm
  go_loopw [3, 12] (fun v i wr => ∃ (j : Nat) (acc : List Ent) (us : List (Value × Value × Value)) (D : DataW Unit), i = .int .i64 j ∧ j ≤ es.length ∧ acc.length ≤ j ∧ us.length = acc.length ∧ Hid (acc = (es.take j).foldl putE []) ∧ Hid (∀ (k : Nat) (u : Value × Value × Value) (x : Ent), us[k]? = some u → acc[k]? = some x → entR.F lo none w x u) ∧ wr.ownsRow (w.heap.size + 1) 76 8 v acc.length (rowG entR (acc.zip us)) ∧ wr.ownsMap Tryz.prog 9 (plainElem Tryz.prog 3) w.heap.size acc.length D ∧ Hid (PlaceOf D (acc.map Ent.key)) ∧ Below w.heap.size w wr) (fun _ i _ => es.length - (intOf i).toNat)
  case atStart => exact ⟨0, [], [], .map [], rfl, Nat.zero_le _, Nat.zero_le _, rfl, Lib.hid rfl, Lib.hid (fun k u x hu => by simp at hu), World.ownsRow_nil _ _ _ _, Hmap0.out, Lib.hid placeOf_none, HB0.out⟩
  case round =>
    obtain ⟨j, acc, us, D, rfl, hj, hal, hul, HE, HF, hown, hmap, HD, hb⟩ := hrel
    clear Hmap0 HB0
    by_cases hlt : j < es.length
    · rcases HC.out with hnil | ⟨c, off, rfl, _, _, hcl, hcell⟩
      · exfalso
        rw [hnil] at hlt
        simp at hlt
      · obtain ⟨p, hp⟩ : ∃ p, es[j]? = some p := ⟨_, List.getElem?_eq_getElem hlt⟩
        obtain ⟨⟨u1, u2, u3⟩, hcs, hF⟩ := hcell j p hp
        have HFp := Lib.hid hF
        obtain ⟨au, cu, rfl⟩ := hF.1.form
        obtain ⟨av, cv, rfl⟩ := hF.2.1.form
        obtain ⟨aw, cw, rfl⟩ := hF.2.2.form
        have q0 := hcs 0 (by decide)
        have q1 := hcs 1 (by decide)
        have q2 := hcs 2 (by decide)
        have q3 := hcs 3 (by decide)
        have q4 := hcs 4 (by decide)
        have q5 := hcs 5 (by decide)
        have q6 := hcs 6 (by decide)
        have q7 := hcs 7 (by decide)
        have hck : ∀ i, wr.cell? ⟨c, i, none⟩ = w.cell? ⟨c, i, none⟩ := fun i => hb.cell (p := ⟨c, i, none⟩) hcl
        have a0 := (hck _).trans q0
        have a1 := (hck _).trans q1
        have a2 := (hck _).trans q2
        have a3 := (hck _).trans q3
        have a4 := (hck _).trans q4
        have a5 := (hck _).trans q5
        have a6 := (hck _).trans q6
        have a7 := (hck _).trans q7
        simp only [Nat.add_zero, entR, memR, List.getElem?_cons_zero, List.getElem?_cons_succ] at a0 a1 a2 a3 a4 a5 a6 a7
        have hkl := HK.out p (List.mem_of_getElem? hp)
        have Hkey : Hid (keyOf Tryz.prog 9 (.string (strB p.key)) = some (.string p.key)) := Lib.hid (keyOf_string_mk Tryz.underlying9 (by rw [strB_size]; unfold maxLen; omega))
        have HT : Hid ((es.take (j + 1)).foldl putE [] = putE acc p) := Lib.hid (by
          rw [List.take_add_one, hp, Option.toList_some, List.foldl_append, ← HE.out]
          rfl)
        have hml : w.heap.size < wr.heap.size := hmap.lt
        have HO2 := Lib.hid hown
        have HT2 := Lib.hid hmap
        have HT3 := Lib.hid (hmap.alloc (entO (strB p.key) p.val.inner p.val.it.k p.val.it.n (strB p.val.it.s) (.slice au p.val.it.ps.length cu) (.slice av p.val.its.length cv) (.slice aw p.val.ps.length cw)))
        have HB := Lib.hid hb
        clear hcell q0 q1 q2 q3 q4 q5 q6 q7 hcs hF hck hp hb hmap hown HE
        by_cases hmem : p.key ∈ acc.map Ent.key
        · have Hhas : Hid (Maps.has D (.string p.key) = true) := Lib.hid (by rw [(HD.out.2 p.key).1]; simpa using hmem)
          have hix : idxL (acc.map Ent.key) p.key < acc.length := by have := (idxL_lt _ _).2 hmem; simpa using this
          have hat0 := (HD.out.2 p.key).2 hmem (.lit (.int .i64 0))
          obtain ⟨i, hie⟩ : ∃ i, idxL (acc.map Ent.key) p.key = i := ⟨_, rfl⟩
          rw [hie] at hix hat0
          have Hat0 := Lib.hid hat0
          have Hie := Lib.hid hie
          clear hat0 hie hmem
          obtain ⟨g, cap2, rfl, hgB, hg2, hcap⟩ := owns_slice HO2.out (by omega)
          obtain ⟨t0, b0, f0⟩ := owns_cell HO2.out (i * 8) (by omega)
          obtain ⟨t1, b1, f1⟩ := owns_cell HO2.out (i * 8 + 1) (by omega)
          obtain ⟨t2, b2, f2⟩ := owns_cell HO2.out (i * 8 + 2) (by omega)
          obtain ⟨t3, b3, f3⟩ := owns_cell HO2.out (i * 8 + 3) (by omega)
          obtain ⟨t4, b4, f4⟩ := owns_cell HO2.out (i * 8 + 4) (by omega)
          obtain ⟨t5, b5, f5⟩ := owns_cell HO2.out (i * 8 + 5) (by omega)
          obtain ⟨t6, b6, f6⟩ := owns_cell HO2.out (i * 8 + 6) (by omega)
          obtain ⟨t7, b7, f7⟩ := owns_cell HO2.out (i * 8 + 7) (by omega)
          have hixI : (i : Int) < (acc.length : Int) := by omega
          generalize hKB : strB p.key = KB at *
          generalize hSB : strB p.val.it.s = SB at *
          have HKB := Lib.hid hKB
          have HSB := Lib.hid hSB
          clear hKB hSB
          go_wp2_with (at_lookup; refine wpList_lookup_own_ok_int _ rfl _ _ 110 rfl 9 3 .i64 keyStr Tryz.underlying110 Tryz.underlying3 (zeroInt _) w.heap.size acc.length _ rfl HT3.out _ _ rfl Hkey.out ?_; intro c2 hat hwc; have hc2 : c2 = (i : Int) := (by have := hat.symm.trans Hat0.out; simpa using this); subst hc2; rw [Hhas.out]; clear hat hwc)
          go_roundw
          case rel =>
            have s0 := HO2.out.stored (i * 8) (.string KB)
            have s1 := s0.1.stored (i * 8 + 1) (.bool p.val.inner)
            have s2 := s1.1.stored (i * 8 + 2) (.int .i64 p.val.it.k)
            have s3 := s2.1.stored (i * 8 + 3) (.int .i64 p.val.it.n)
            have s4 := s3.1.stored (i * 8 + 4) (.string SB)
            have s5 := s4.1.stored (i * 8 + 5) (.slice au p.val.it.ps.length cu)
            have s6 := s5.1.stored (i * 8 + 6) (.slice av p.val.its.length cv)
            have s7 := s6.1.stored (i * 8 + 7) (.slice aw p.val.ps.length cw)
            have hne : some w.heap.size ≠ some g := by simp; omega
            have m0 := (((((((HT2.out.kept s0.2 hne).kept s1.2 hne).kept s2.2 hne).kept s3.2 hne).kept s4.2 hne).kept s5.2 hne).kept s6.2 hne).kept s7.2 hne
            have hgw : w.heap.size ≤ g := by omega
            refine ⟨j + 1, acc.set i p, us.set i (.slice au p.val.it.ps.length cu, .slice av p.val.its.length cv, .slice aw p.val.ps.length cw), D, by go_num, by omega, by rw [List.length_set]; omega, by rw [List.length_set, List.length_set]; exact hul, Lib.hid ?_, Lib.hid (set_F HF.out HFp.out), ?_, ?_, Lib.hid ?_, ?_⟩
            · rw [HT.out, putE, Hie.out, if_pos hix]
            · rw [List.length_set, zip_set, rowG_set8 _ _ _ _ (by rw [List.length_zip, hul, Nat.min_self]; exact hix), HKB.out, HSB.out]
              exact s7.1.alloc _
            · rw [List.length_set]
              exact m0.alloc _
            · rw [ekeys_set acc p i Hie.out hix]
              exact HD.out
            · exact ((((((((HB.out.setCell hgw _).setCell hgw _).setCell hgw _).setCell hgw _).setCell hgw _).setCell hgw _).setCell hgw _).setCell hgw _).alloc (by simp; omega) _
          case measure => simp [intOf]; omega
        · have Hhas : Hid (Maps.has D (.string p.key) = false) := Lib.hid (by rw [(HD.out.2 p.key).1]; simpa using hmem)
          have Hmem := Lib.hid hmem
          obtain ⟨ao2, cap2, rfl⟩ := owns_form HO2.out
          have HO3 := Lib.hid (HO2.out.alloc (entO (strB p.key) p.val.inner p.val.it.k p.val.it.n (strB p.val.it.s) (.slice au p.val.it.ps.length cu) (.slice av p.val.its.length cv) (.slice aw p.val.ps.length cw)))
          have HONE : Hid (∀ y ∈ entR.cells p (.slice au p.val.it.ps.length cu, .slice av p.val.its.length cv, .slice aw p.val.ps.length cw), y.oneCell' = true) := Lib.hid (by simp [Value.oneCell', entR, memR])
          clear hmem
          go_wp2_with (first | (at_lookup; refine wpList_lookup_own_ok_int _ rfl _ _ 110 rfl 9 3 .i64 keyStr Tryz.underlying110 Tryz.underlying3 (zeroInt _) w.heap.size acc.length _ rfl HT3.out _ _ rfl Hkey.out ?_; intro c2 hat hwc; rw [Hhas.out]; clear hat hwc) | (at_mapUpdate; refine wpList_mapUpdate_own _ rfl _ _ _ 110 rfl 9 3 keyStr Tryz.underlying110 _ w.heap.size acc.length _ rfl HT3.out (by unfold maxLen; omega) _ _ _ rfl rfl Hkey.out _ [] (plainElem_int Tryz.underlying3 (WalkArith.wf_i64 (by omega))) ?_; intro w4 hmap4 hgrow4; have hO4 := HO3.out.kept hgrow4 (.inr (Ne.symm (own_ne HO3.out (Nat.lt_succ_self _)))); have hw4 := hgrow4.size; have e0 := grown_cell hgrow4 (c := wr.heap.size) (by simp) (by simp; omega) 0; have e1 := grown_cell hgrow4 (c := wr.heap.size) (by simp) (by simp; omega) 1; have e2 := grown_cell hgrow4 (c := wr.heap.size) (by simp) (by simp; omega) 2; have e3 := grown_cell hgrow4 (c := wr.heap.size) (by simp) (by simp; omega) 3; have e4 := grown_cell hgrow4 (c := wr.heap.size) (by simp) (by simp; omega) 4; have e5 := grown_cell hgrow4 (c := wr.heap.size) (by simp) (by simp; omega) 5; have e6 := grown_cell hgrow4 (c := wr.heap.size) (by simp) (by simp; omega) 6; have e7 := grown_cell hgrow4 (c := wr.heap.size) (by simp) (by simp; omega) 7) | (at_builtin; refine wpList_append_own _ rfl _ _ 30 rfl (w.heap.size + 1) 76 i0 noEnt 8 128 Tryz.underlying30 hi hz0 hz1 hz2 rfl (by decide) _ _ _ rfl (hO4.alloc _) ⟨_, 0, none⟩ 1 1 (entR.cells p (.slice au p.val.it.ps.length cu, .slice av p.val.its.length cv, .slice aw p.val.ps.length cw)) rfl rfl (cells_new _ _ _) HONE.out (by unfold maxLen; omega) (by omega) (by simp at hw4; simp; omega) ?_; intro v' w5 hown5 hgrow5 _))
          go_roundw
          case rel =>
            have hnix : ¬ idxL (acc.map Ent.key) p.key < acc.length := by
              intro h1
              exact Hmem.out ((idxL_lt _ _).1 (by simpa using h1))
            refine ⟨j + 1, acc ++ [p], us ++ [(.slice au p.val.it.ps.length cu, .slice av p.val.its.length cv, .slice aw p.val.ps.length cw)], D.put (.string p.key) (.lit (.int .i64 (acc.length : Int))), by go_num, by omega, by simp; omega, by simp [hul], Lib.hid ?_, Lib.hid (snoc_F hul HF.out HFp.out), ?_, ?_, Lib.hid ?_, ?_⟩
            · rw [HT.out, putE, if_neg hnix]
            · rw [List.length_append, zip_snoc hul, rowG_snoc]
              exact hown5
            · rw [List.length_append]
              exact (hmap4.alloc _).kept hgrow5 (own_ne hO4 (Nat.lt_succ_self _))
            · have := placeOf_put HD.out p.key Hmem.out
              rw [List.length_map] at this
              rw [List.map_append]
              exact this
            · have hz4 := hw4
              simp at hz4
              exact (((HB.out.alloc (by omega) _).grown hgrow4 (by simp; omega) (fun k e => by cases e; exact Nat.le_refl _)).alloc (by omega) _).grown hgrow5 (by simp; omega) (fun k e => Nat.le_trans (Nat.le_succ _) (World.ownsRow.lt hO4 k e).1)
          case measure => simp [intOf]; omega
    · obtain rfl : j = es.length := by omega
      rw [List.take_length] at HE
      have HG := Lib.hid (GOff.of_row (R := entR) hul hown (fun k u x hu hx => entR.below (HF.out k u x hu hx) hb) (Nat.le_succ_of_le hlo))
      have HB := Lib.hid hb
      clear hown hmap hb
      obtain ⟨ao2, cap2, rfl, hx⟩ := HG.out
      clear hx
      go_wp2_with fail
      go_ret
      refine ⟨HB.out, _, rfl, ?_⟩
      have := HG.out
      rw [HE.out] at this ⊢
      exact this

end Go.Proofs.YtjbipplaacgnkaaGreatDoor
