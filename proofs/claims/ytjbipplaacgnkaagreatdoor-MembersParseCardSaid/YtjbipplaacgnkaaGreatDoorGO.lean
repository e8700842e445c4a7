/- Plain: how great a member is that is read; the contract of members.Dict. · The contracts of the document's Size and Same of members (sculleryref04), and of the law's sameList. · The contract of the document's Size of members (sculleryref04). · The contract of the law's sameList (scullerylaw04). · The contract of the law's all (scullerylaw04): members for the document, while they are small. -/
import Derived.Test.YtjbipplaacgnkaaGreatDoorGN
import Derived.Test.YtjbipplaacgnkaaGreatDoorGI
import Derived.Test.YtjbipplaacgnkaaGreatDoorGM
import Derived.Deep.DeepCutAuto
import Derived.Deep.RegionHeld3

namespace Go.Proofs.YtjbipplaacgnkaaGreatDoor
open Go.RowKit Go.Maps
variable {α : Type}

theorem sepF_len (read : List UInt8 → Option (α × List UInt8)) : ∀ (f : Nat) (l : List UInt8) (acc xs : List α), sepF read f l acc = some xs → xs.length ≤ acc.length + f
  | 0, l, acc, xs, h => by cases h
  | f + 1, l, acc, xs, h => by
    cases hr : read l with
    | none => rw [sepF_none read f l acc hr] at h; cases h
    | some x =>
      obtain ⟨x, r⟩ := x
      by_cases hb : blD r = []
      · rw [sepF_end read f l r acc x hr hb] at h
        obtain rfl := Option.some.inj h
        simp
      · by_cases hc : (blD r).head? = some 44
        · rw [sepF_more read f l r acc x hr hb hc] at h
          have := sepF_len read f _ _ _ h
          simp at this
          omega
        · rw [sepF_bad read f l r acc x hr hb hc] at h; cases h
theorem sepF_all {P : α → Prop} {read : List UInt8 → Option (α × List UInt8)} {N : Nat} (hread : ∀ l x r, l.length ≤ N → read l = some (x, r) → P x ∧ r.length ≤ l.length) :
    ∀ (f : Nat) (l : List UInt8) (acc xs : List α), l.length ≤ N → (∀ x ∈ acc, P x) → sepF read f l acc = some xs → ∀ x ∈ xs, P x
  | 0, l, acc, xs, _, _, h => by cases h
  | f + 1, l, acc, xs, hl, ha, h => by
    cases hr : read l with
    | none => rw [sepF_none read f l acc hr] at h; cases h
    | some x =>
      obtain ⟨x, r⟩ := x
      obtain ⟨hP, hle⟩ := hread l x r hl hr
      have ha2 : ∀ y ∈ acc ++ [x], P y := by
        intro y hy
        rcases List.mem_append.1 hy with hy | hy
        · exact ha y hy
        · obtain rfl := List.mem_singleton.1 hy
          exact hP
      by_cases hb : blD r = []
      · rw [sepF_end read f l r acc x hr hb] at h
        obtain rfl := Option.some.inj h
        exact ha2
      · by_cases hc : (blD r).head? = some 44
        · rw [sepF_more read f l r acc x hr hb hc] at h
          have h1 := blD_le r
          have h2 := blD_le ((blD r).drop 1)
          rw [List.length_drop] at h2
          exact sepF_all hread f _ _ _ (by omega) ha2 h
        · rw [sepF_bad read f l r acc x hr hb hc] at h; cases h

/-- A member, none of whose parts is great. -/
structure MemIn (N : Nat) (M : Mem) : Prop where
  s : M.it.s.length ≤ N
  ip : szN M.it.ps ≤ N
  ps : szN M.ps ≤ N
  len : M.its.length ≤ N
  its : ∀ x ∈ M.its, szN x.ps ≤ N ∧ x.s.length ≤ N
theorem itsF_in {N : Nat} : ∀ (f : Nat) (l : List UInt8) (acc xs : List Itm) (r : List UInt8), l.length + acc.length ≤ N → (∀ x ∈ acc, szN x.ps ≤ N ∧ x.s.length ≤ N) → itsF f l acc = some (xs, r) → xs.length ≤ N ∧ ∀ x ∈ xs, szN x.ps ≤ N ∧ x.s.length ≤ N
  | 0, l, acc, xs, r, _, _, h => by cases h
  | f + 1, l, acc, xs, r, hl, ha, h => by
    by_cases h41 : l.head? = some 41
    · rw [itsF_end f l acc h41] at h
      obtain ⟨rfl, _⟩ := Prod.mk.inj (Option.some.inj h)
      exact ⟨by omega, ha⟩
    · cases hi : itmL l with
      | none => rw [itsF_none f l acc h41 hi] at h; cases h
      | some x =>
        obtain ⟨g, ps, m⟩ := x
        have hu := itmL_used _ _ _ _ hi
        have hm := itmL_le _ _ _ _ hi
        have hpos := itmL_pos _ _ _ _ hi
        cases he : endI (l.drop m) with
        | false => rw [itsF_bad f l acc g ps m h41 hi he] at h; cases h
        | true =>
          rw [itsF_some f l acc g ps m h41 hi he] at h
          have h2 := spD_le (l.drop m)
          rw [List.length_drop] at h2
          refine itsF_in f _ _ _ _ (by rw [List.length_append, List.length_singleton]; omega) ?_ h
          intro y hy
          rcases List.mem_append.1 hy with hy | hy
          · exact ha y hy
          · obtain rfl := List.mem_singleton.1 hy
            exact ⟨by dsimp only; omega, by dsimp only; omega⟩
theorem memL_in {N : Nat} (l : List UInt8) (M : Mem) (r : List UInt8) (hl : l.length ≤ N) (h : memL l = some (M, r)) : MemIn N M := by
  unfold memL at h
  by_cases h40 : l.head? = some 40
  · rw [if_pos h40] at h
    unfold innL at h
    cases hi : itsL (l.drop 1) with
    | none => rw [hi] at h; cases h
    | some x =>
      obtain ⟨xs, q⟩ := x
      rw [hi] at h
      dsimp only at h
      have hq := itsL_le _ _ _ hi
      rw [List.length_drop] at hq
      have hs := spD_le (l.drop 1)
      rw [List.length_drop] at hs
      obtain ⟨h1, h2⟩ := itsF_in (N := N) _ _ _ _ _ (by rw [List.length_nil]; omega) (fun x hx => by cases hx) hi
      cases hp : psL q [] 0 with
      | none => rw [hp] at h; cases h
      | some y =>
        obtain ⟨ps, m⟩ := y
        rw [hp] at h
        dsimp only at h
        have hu := psL_used _ _ _ _ _ _ (Nat.le_refl _) hp
        have hk := psL_le _ _ _ _ _ _ (Nat.le_refl _) hp
        have e0 : szN [] = 0 := rfl
        obtain ⟨rfl, _⟩ := Prod.mk.inj (Option.some.inj h)
        exact ⟨Nat.zero_le _, Nat.zero_le _, show szN ps ≤ N by omega, h1, h2⟩
  · rw [if_neg h40] at h
    cases hi : itmL l with
    | none => rw [hi] at h; cases h
    | some x =>
      obtain ⟨g, ps, m⟩ := x
      rw [hi] at h
      dsimp only at h
      have hu := itmL_used _ _ _ _ hi
      have hm := itmL_le _ _ _ _ hi
      obtain ⟨rfl, _⟩ := Prod.mk.inj (Option.some.inj h)
      exact ⟨show g.s.length ≤ N by omega, show szN ps ≤ N by omega, Nat.zero_le _, Nat.zero_le _, fun x hx => by cases hx⟩
theorem list_in {N : Nat} (l : List UInt8) (xs : List Mem) (hl : l.length ≤ N) (h : sepL memL l = some xs) : xs.length ≤ l.length + 1 ∧ ∀ M ∈ xs, MemIn N M := by
  unfold sepL at h
  split at h
  · obtain rfl := Option.some.inj h
    exact ⟨Nat.zero_le _, fun M hM => by cases hM⟩
  · have h1 := sepF_len memL _ _ _ _ h
    have h2 := spD_le l
    exact ⟨by simpa using h1, sepF_all (P := MemIn N) (N := N) (fun l M r hl hr => ⟨memL_in l M r hl hr, memL_le _ _ _ hr⟩) _ _ _ _ (by omega) (by simp) h⟩
theorem entL_in {N : Nat} (l : List UInt8) (E : Ent) (r : List UInt8) (hl : l.length ≤ N) (h : entL l = some (E, r)) : E.key.length ≤ N ∧ MemIn N E.val := by
  unfold entL at h
  split at h
  · cases h
  · cases hv : valM (l.drop (klen l)) with
    | none => rw [hv] at h; cases h
    | some x =>
      obtain ⟨M, q⟩ := x
      rw [hv] at h
      dsimp only at h
      obtain ⟨rfl, _⟩ := Prod.mk.inj (Option.some.inj h)
      have hkl := klen_le l
      refine ⟨by dsimp only; rw [List.length_take]; omega, ?_⟩
      dsimp only
      unfold valM at hv
      split at hv
      · exact memL_in _ _ _ (by rw [List.length_drop, List.length_drop]; omega) hv
      · cases hp : psL (l.drop (klen l)) [] 0 with
        | none => rw [hp] at hv; cases hv
        | some y =>
          obtain ⟨ps, m⟩ := y
          rw [hp] at hv
          dsimp only at hv
          have hu := psL_used _ _ _ _ _ _ (Nat.le_refl _) hp
          have hk := psL_le _ _ _ _ _ _ (Nat.le_refl _) hp
          rw [List.length_drop] at hk
          have e0 : szN [] = 0 := rfl
          obtain ⟨rfl, _⟩ := Prod.mk.inj (Option.some.inj hv)
          exact ⟨Nat.zero_le _, show szN ps ≤ N by omega, Nat.zero_le _, Nat.zero_le _, fun x hx => by cases hx⟩
theorem ents_in {N : Nat} (l : List UInt8) (xs : List Ent) (hl : l.length ≤ N) (h : sepL entL l = some xs) : xs.length ≤ l.length + 1 ∧ ∀ E ∈ xs, E.key.length ≤ N ∧ MemIn N E.val := by
  unfold sepL at h
  split at h
  · obtain rfl := Option.some.inj h
    exact ⟨Nat.zero_le _, fun M hM => by cases hM⟩
  · have h1 := sepF_len entL _ _ _ _ h
    have h2 := spD_le l
    exact ⟨by simpa using h1, sepF_all (P := fun E : Ent => E.key.length ≤ N ∧ MemIn N E.val) (N := N) (fun l M r hl hr => ⟨entL_in l M r hl hr, entL_le _ _ _ hr⟩) _ _ _ _ (by omega) (by simp) h⟩

/-- A text as a dictionary. -/
def dicL (l : List UInt8) : Option (List Ent) := (sepL entL l).map oeK
def dicPost (o : Option (List Ent)) (w : World) (e : Ending) (w' : World) : Prop :=
  Below w.heap.size w w' ∧ match o with
    | none => e = .returned (.tuple #[.slice none 0 0, .int .i64 2])
    | some xs => ∃ v, e = .returned (.tuple #[v, .int .i64 0]) ∧ GOff entR w.heap.size none w' v xs

set_option maxRecDepth 100000 in
set_option maxHeartbeats 1000000 in
theorem dict_any (s : ByteArray) (w : World) (hs : s.size ≤ 90000) (hA : Alph w) :
    Calls Tryz.prog 10 #[.string s] w (dicPost (dicL s.data.toList) w) := by
  have cS := sepE_any s w (by omega) hA
  clear hA
  cases h : sepL entL s.data.toList with
  | none =>
    have HL : Hid (dicL s.data.toList = none) := Lib.hid (by rw [dicL, h] <;> rfl)
    rw [h] at cS
    clear h
    go_enter Tryz.func10, Tryz.ntmps10
    go_wp2_with fail
    refine cS.mono ?_
    rintro e w1 ⟨hb1, rfl⟩
    go_wp2_with fail
    go_ret2
    refine ⟨hb1, ?_⟩
    rw [HL.out]
    rfl
  | some xs =>
    have HL : Hid (dicL s.data.toList = some (oeK xs)) := Lib.hid (by rw [dicL, h] <;> rfl)
    obtain ⟨hx1, hx2⟩ := ents_in (N := 90000) _ xs (by rw [← Lib.size_eq]; exact hs) h
    rw [← Lib.size_eq] at hx1
    rw [h] at cS
    clear h
    go_enter Tryz.func10, Tryz.ntmps10
    go_wp2_with fail
    refine cS.mono ?_
    rintro e w1 ⟨hb1, v, rfl, ho⟩
    have hG := ho.off
    have cO := oneOf_any v xs w.heap.size w1 hG hb1.size (by omega) (fun p hp => by have := (hx2 p hp).1; omega)
    obtain ⟨ao, cap, rfl, hc⟩ := hG
    clear hc ho cS
    go_wp2_with fail
    refine cO.mono ?_
    rintro e w2 ⟨hb2, u, rfl, hG2⟩
    have HG2 := Lib.hid hG2
    obtain ⟨ao2, cap2, rfl, hc⟩ := hG2
    clear hc
    go_wp2_with fail
    go_ret2
    refine ⟨hb1.trans (hb2.mono hb1.size), ?_⟩
    rw [HL.out]
    exact ⟨_, rfl, HG2.out⟩

end Go.Proofs.YtjbipplaacgnkaaGreatDoor

namespace Go.Proofs.YtjbipplaacgnkaaGreatDoor
open Go.RowKit Go.Maps

theorem szGo_small : ∀ (ps : List Prm) (n : Nat), n + szN ps ≤ 90000 → szGo n ps = ((n + szN ps : Nat) : Int)
  | [], n, _ => by simp [szGo, szN]
  | p :: ps, n, h => by
    have hs : szN (p :: ps) = p.key.length + p.s.length + 1 + szN ps := by
      simp [szN]
    rw [hs] at h
    rw [szGo, if_pos (by omega), szStep_small _ _ (by omega) (by omega) (by omega)]
    have := szGo_small ps (n + (p.key.length + p.s.length + 1)) (by omega)
    rw [show (n : Int) + (p.key.length : Int) + (p.s.length : Int) + 1 = ((n + (p.key.length + p.s.length + 1) : Nat) : Int) by omega, this, hs]
    congr 1
    omega

/-- About how much there is of a member. -/
def itmsz : List Itm → Nat
  | [] => 0
  | x :: xs => szN x.ps + x.s.length + 1 + itmsz xs
def memsz (M : Mem) : Nat := szN M.ps + szN M.it.ps + M.it.s.length + 1 + itmsz M.its

abbrev heldS (w : World) (o p : Obj) (B B' : Nat) (v1 v2 a0 a1 a2 a3 b0 b1 b2 b3 : Value) (A A' : Nat) (c c' : Nat) (W : World) : Prop :=
  W.cell? ⟨B, 5, none⟩ = some v1 ∧ W.cell? ⟨B', 5, none⟩ = some v2 ∧ (W.cell? ⟨A, c, none⟩ = some a0 ∧ W.cell? ⟨A, c + 1, none⟩ = some a1 ∧ W.cell? ⟨A, c + 2, none⟩ = some a2 ∧ W.cell? ⟨A, c + 3, none⟩ = some a3) ∧ (W.cell? ⟨A', c', none⟩ = some b0 ∧ W.cell? ⟨A', c' + 1, none⟩ = some b1 ∧ W.cell? ⟨A', c' + 2, none⟩ = some b2 ∧ W.cell? ⟨A', c' + 3, none⟩ = some b3) ∧ Box2 w o p W
theorem heldS_next {w : World} {o p : Obj} {B B' : Nat} {v1 v2 a0 a1 a2 a3 b0 b1 b2 b3 : Value} {A A' c c' : Nat} {W W1 : World} (h : heldS w o p B B' v1 v2 a0 a1 a2 a3 b0 b1 b2 b3 A A' c c' W) (hb : Below W.heap.size W W1) : heldS w o p B B' v1 v2 a0 a1 a2 a3 b0 b1 b2 b3 A A' c c' W1 := by
  obtain ⟨h1, h2, ⟨x0, x1, x2, x3⟩, ⟨y0, y1, y2, y3⟩, h3⟩ := h
  have k : ∀ {b i : Nat} {v : Value}, W.cell? ⟨b, i, none⟩ = some v → W1.cell? ⟨b, i, none⟩ = some v := fun {b i v} hc => (hb.cell (p := ⟨b, i, none⟩) (lt_of_cell hc)).trans hc
  exact ⟨k h1, k h2, ⟨k x0, k x1, k x2, k x3⟩, ⟨k y0, k y1, k y2, k y3⟩, h3.next hb⟩

abbrev rmemO' (b : Bool) (k n : Int) (s : ByteArray) (u vi vp : Value) : Obj := .cells #[.bool b, .int .i64 k, .int .i64 n, .string s, u, vi, vp] 57

set_option maxRecDepth 100000 in
set_option maxHeartbeats 4000000 in
theorem r4same_any (M N : Mem) (v1 v2 : Value) (w : World) (h1 : MemAt 0 none w M v1) (h2 : MemAt 0 none w N v2) (hM : MemSm M) (hN : MemSm N) :
    Calls Tryz.prog 17 #[v1, v2] w fun e w' => e = .returned (.bool (sameM M N)) ∧ Below w.heap.size w w' := by
  obtain ⟨u, vi, vp, rfl, p1, p2, p3⟩ := h1
  obtain ⟨u', vi', vp', rfl, q1, q2, q3⟩ := h2
  have hK0 : Box2 w (rmemO' M.inner M.it.k M.it.n (strB M.it.s) u vi vp) (rmemO' N.inner N.it.k N.it.n (strB N.it.s) u' vi' vp') ((w.alloc (rmemO' M.inner M.it.k M.it.n (strB M.it.s) u vi vp)).alloc (rmemO' N.inner N.it.k N.it.n (strB N.it.s) u' vi' vp')) := Below.refl _ _
  have cS := fun W (h : Below w.heap.size w W) => r4sameItem_any M.it.k M.it.n N.it.k N.it.n M.it.s N.it.s u u' M.it.ps N.it.ps W (p1.prms.below h) (q1.prms.below h) hM.a hN.a
  have cE := fun W (h : Below w.heap.size w W) => rsameParams_any vp vp' M.ps N.ps W (p3.prms.below h) (q3.prms.below h) hM.d hN.d
  obtain ⟨a1, b1, rfl⟩ := p1.form
  obtain ⟨a2, b2, rfl, hc2⟩ := p2
  obtain ⟨a3, b3, rfl⟩ := p3.form
  obtain ⟨a4, b4, rfl⟩ := q1.form
  obtain ⟨a5, b5, rfl, hd2⟩ := q2
  obtain ⟨a6, b6, rfl⟩ := q3.form
  have he : sameI M.it.k M.it.n M.it.s M.it.ps N.it.k N.it.n N.it.s N.it.ps = itmEq M.it N.it := rfl
  rw [he] at cS
  have HV : Hid (sameM M N = ((M.inner == N.inner) && (itmEq M.it N.it && (sameIts M.its N.its && samePs M.ps N.ps)))) := Lib.hid rfl
  have HC1 := Lib.hid hc2
  have HC2 := Lib.hid hd2
  have HP1 := Lib.hid hM.c
  have HP2 := Lib.hid hN.c
  have hl1 := hM.b
  have hl2 := hN.b
  clear he p1 p3 q1 q3 hM hN hc2 hd2
  generalize sameM M N = R at *
  generalize itmEq M.it N.it = r1 at *
  generalize samePs M.ps N.ps = r3 at *
  generalize strB M.it.s = S at *
  generalize strB N.it.s = S' at *
  have hb0 := hK0.later
  cases hi : (M.inner != N.inner)
  · have hin : (M.inner == N.inner) = true := by simpa using hi
    go_enter Tryz.func17, Tryz.ntmps17
    go_wp2_with fail
    refine (cS _ hb0).mono ?_
    rintro e w1 ⟨rfl, hb1⟩
    have hK1 := hK0.next hb1
    have hb1 := hK1.later
    cases r1
    · have HR : Hid (R = false) := Lib.hid (by rw [HV.out, hin] <;> rfl)
      clear HV cS cE
      go_wp2_with fail
      go_ret
      exact ⟨ret_eq (bool_eq HR.out.symm), hb1⟩
    · obtain ⟨⟨x0, x1, x2, x3, x4, x5, x6⟩, y0, y1, y2, y3, y4, y5, y6⟩ := hK1.mems
      go_wp2_with fail
      refine (cE _ hb1).mono ?_
      rintro e w2 ⟨rfl, hb2⟩
      have hK2 := hK1.next hb2
      have hb2 := hK2.later
      clear x0 x1 x2 x3 x4 x5 x6 y0 y1 y2 y3 y4 y5 y6
      cases r3
      · have HR : Hid (R = false) := Lib.hid (by rw [HV.out, hin]; simp)
        clear HV cS cE
        go_wp2_with fail
        go_ret
        exact ⟨ret_eq (bool_eq HR.out.symm), hb2⟩
      · obtain ⟨⟨x0, x1, x2, x3, x4, x5, x6⟩, y0, y1, y2, y3, y4, y5, y6⟩ := hK2.mems
        have HR : Hid (R = sameIts M.its N.its) := Lib.hid (by rw [HV.out, hin]; simp)
        by_cases hll : M.its.length = N.its.length
        · have HL := Lib.hid hll
          have HK2 := Lib.hid hK2
          rw [← hll] at y5
          clear HV cS cE hK1 hK0 hb0 hb1
          go_wp2_with fail
          clear x0 x1 x2 x3 x4 x5 x6 y0 y1 y2 y3 y4 y5 y6 hb2 hK2
          go_loopw [5] (fun i wr => ∃ j : Nat, i = .int .i64 j ∧ j ≤ M.its.length ∧ Hid (∀ m, m < j → M.its[m]? = N.its[m]?) ∧ Box2 w (rmemO' M.inner M.it.k M.it.n S (.slice a1 M.it.ps.length b1) (.slice a2 M.its.length b2) (.slice a3 M.ps.length b3)) (rmemO' N.inner N.it.k N.it.n S' (.slice a4 N.it.ps.length b4) (.slice a5 N.its.length b5) (.slice a6 N.ps.length b6)) wr) (fun i _ => M.its.length - (intOf i).toNat)
          case atStart => exact ⟨0, rfl, Nat.zero_le _, Lib.hid (fun m h => absurd h (by omega)), HK2.out⟩
          case round =>
            obtain ⟨j, rfl, hj, H, hK⟩ := hrel
            clear HK2
            obtain ⟨⟨_, _, _, _, _, x5, _⟩, _, _, _, _, _, y5, _⟩ := hK.mems
            rw [← HL.out] at y5
            have hb := hK.later
            by_cases hlt : j < M.its.length
            · rcases HC1.out with hnil | ⟨c, off, rfl, _, _, hcl, hcell⟩
              · exfalso
                rw [hnil] at hlt
                simp at hlt
              · rcases HC2.out with hnil2 | ⟨d, off2, rfl, _, _, hdl, hcell2⟩
                · exfalso
                  have h0 := HL.out
                  rw [hnil2, List.length_nil] at h0
                  omega
                · obtain ⟨p, hp⟩ : ∃ p, M.its[j]? = some p := ⟨_, List.getElem?_eq_getElem hlt⟩
                  obtain ⟨q, hq⟩ : ∃ q, N.its[j]? = some q := ⟨_, List.getElem?_eq_getElem (by have := HL.out; omega)⟩
                  obtain ⟨t, ⟨p0, p1, p2, p3⟩, hF⟩ := hcell j p hp
                  obtain ⟨t', ⟨q0, q1, q2, q3⟩, hF'⟩ := hcell2 j q hq
                  have c0 := (hb.cell (p := ⟨c, off + j * 4, none⟩) hcl).trans p0
                  have c1 := (hb.cell (p := ⟨c, off + j * 4 + 1, none⟩) hcl).trans p1
                  have c2 := (hb.cell (p := ⟨c, off + j * 4 + 2, none⟩) hcl).trans p2
                  have c3 := (hb.cell (p := ⟨c, off + j * 4 + 3, none⟩) hcl).trans p3
                  have d0 := (hb.cell (p := ⟨d, off2 + j * 4, none⟩) hdl).trans q0
                  have d1 := (hb.cell (p := ⟨d, off2 + j * 4 + 1, none⟩) hdl).trans q1
                  have d2 := (hb.cell (p := ⟨d, off2 + j * 4 + 2, none⟩) hdl).trans q2
                  have d3 := (hb.cell (p := ⟨d, off2 + j * 4 + 3, none⟩) hdl).trans q3
                  have jI : (j : Int) < (M.its.length : Int) := by omega
                  have j0 : (0 : Int) ≤ (j : Int) := by omega
                  have hS0 := heldS_next (A := c) (A' := d) (c := off + j * 4) (c' := off2 + j * 4) ⟨x5, y5, ⟨c0, c1, c2, c3⟩, ⟨d0, d1, d2, d3⟩, hK⟩ (Below.refl _ _).drew
                  have he : sameI p.k p.n p.s p.ps q.k q.n q.s q.ps = itmEq p q := rfl
                  have cS2 := fun W (h : heldS w (rmemO' M.inner M.it.k M.it.n S (.slice a1 M.it.ps.length b1) (.slice (some ⟨c, off, none⟩) M.its.length b2) (.slice a3 M.ps.length b3)) (rmemO' N.inner N.it.k N.it.n S' (.slice a4 N.it.ps.length b4) (.slice (some ⟨d, off2, none⟩) N.its.length b5) (.slice a6 N.ps.length b6)) w.heap.size (w.heap.size + 1) (.slice (some ⟨c, off, none⟩) M.its.length b2) (.slice (some ⟨d, off2, none⟩) M.its.length b5) (.int .i64 p.k) (.int .i64 p.n) (.string (strB p.s)) t (.int .i64 q.k) (.int .i64 q.n) (.string (strB q.s)) t' c d (off + j * 4) (off2 + j * 4) W) => (r4sameItem_any p.k p.n q.k q.n p.s q.s t t' p.ps q.ps W (hF.prms.below h.2.2.2.2.later) (hF'.prms.below h.2.2.2.2.later) (HP1.out p (List.mem_of_getElem? hp)) (HP2.out q (List.mem_of_getElem? hq))).mono fun e w' ⟨e1, e2⟩ => And.intro e1 (heldS_next h e2)
                  rw [he] at cS2
                  obtain ⟨au, cu, rfl⟩ := hF.form
                  obtain ⟨av, cv, rfl⟩ := hF'.form
                  clear hcell hcell2 p0 p1 p2 p3 q0 q1 q2 q3 hb hF hF' he c0 c1 c2 c3 d0 d1 d2 d3 hK
                  cases hpq : itmEq p q
                  · rw [hpq] at cS2
                    have HS : Hid (R = false) := Lib.hid (by rw [HR.out]; exact sameIts_at M.its N.its j p q hp hq hpq)
                    clear hpq hp hq H
                    generalize strB p.s = PS at *
                    generalize strB q.s = QS at *
                    go_wp2_with fail
                    clear x5 y5
                    go_region_held3 (fun W => W.cell? ⟨w.heap.size, 5, none⟩ = some (.slice (some ⟨c, off, none⟩) M.its.length b2) ∧ W.cell? ⟨w.heap.size + 1, 5, none⟩ = some (.slice (some ⟨d, off2, none⟩) M.its.length b5) ∧ (W.cell? ⟨c, off + j * 4, none⟩ = some (.int .i64 p.k) ∧ W.cell? ⟨c, off + j * 4 + 1, none⟩ = some (.int .i64 p.n) ∧ W.cell? ⟨c, off + j * 4 + 2, none⟩ = some (.string PS) ∧ W.cell? ⟨c, off + j * 4 + 3, none⟩ = some (.slice au p.ps.length cu)) ∧ (W.cell? ⟨d, off2 + j * 4, none⟩ = some (.int .i64 q.k) ∧ W.cell? ⟨d, off2 + j * 4 + 1, none⟩ = some (.int .i64 q.n) ∧ W.cell? ⟨d, off2 + j * 4 + 2, none⟩ = some (.string QS) ∧ W.cell? ⟨d, off2 + j * 4 + 3, none⟩ = some (.slice av q.ps.length cv)) ∧ Box2 w (rmemO' M.inner M.it.k M.it.n S (.slice a1 M.it.ps.length b1) (.slice (some ⟨c, off, none⟩) M.its.length b2) (.slice a3 M.ps.length b3)) (rmemO' N.inner N.it.k N.it.n S' (.slice a4 N.it.ps.length b4) (.slice (some ⟨d, off2, none⟩) N.its.length b5) (.slice a6 N.ps.length b6)) W) (first | with_reducible assumption | go_keep)
                      (first | (go_at_call 32; refine (cS2 _ (by with_reducible assumption)).mono ?_; rintro e w' ⟨rfl, hh⟩))
                    all_goals go_wp2_with fail
                    all_goals go_ret
                    all_goals exact ⟨ret_eq (bool_eq HS.out.symm), hh.2.2.2.2.later⟩
                  · rw [hpq] at cS2
                    obtain rfl := (itmEq_iff p q).1 hpq
                    have Hn : Hid (∀ m, m < j + 1 → M.its[m]? = N.its[m]?) := Lib.hid (fun m hm => by
                      by_cases e : m = j
                      · subst e; rw [hp, hq]
                      · exact H.out m (by omega))
                    clear hpq hp hq H
                    generalize strB p.s = PS at *
                    go_wp2_with fail
                    clear x5 y5
                    go_region_held3 (fun W => W.cell? ⟨w.heap.size, 5, none⟩ = some (.slice (some ⟨c, off, none⟩) M.its.length b2) ∧ W.cell? ⟨w.heap.size + 1, 5, none⟩ = some (.slice (some ⟨d, off2, none⟩) M.its.length b5) ∧ (W.cell? ⟨c, off + j * 4, none⟩ = some (.int .i64 p.k) ∧ W.cell? ⟨c, off + j * 4 + 1, none⟩ = some (.int .i64 p.n) ∧ W.cell? ⟨c, off + j * 4 + 2, none⟩ = some (.string PS) ∧ W.cell? ⟨c, off + j * 4 + 3, none⟩ = some (.slice au p.ps.length cu)) ∧ (W.cell? ⟨d, off2 + j * 4, none⟩ = some (.int .i64 p.k) ∧ W.cell? ⟨d, off2 + j * 4 + 1, none⟩ = some (.int .i64 p.n) ∧ W.cell? ⟨d, off2 + j * 4 + 2, none⟩ = some (.string PS) ∧ W.cell? ⟨d, off2 + j * 4 + 3, none⟩ = some (.slice av p.ps.length cv)) ∧ Box2 w (rmemO' M.inner M.it.k M.it.n S (.slice a1 M.it.ps.length b1) (.slice (some ⟨c, off, none⟩) M.its.length b2) (.slice a3 M.ps.length b3)) (rmemO' N.inner N.it.k N.it.n S' (.slice a4 N.it.ps.length b4) (.slice (some ⟨d, off2, none⟩) N.its.length b5) (.slice a6 N.ps.length b6)) W) (first | with_reducible assumption | go_keep)
                      (first | (go_at_call 32; refine (cS2 _ (by with_reducible assumption)).mono ?_; rintro e w' ⟨rfl, hh⟩))
                    all_goals
                      go_wp2_with fail
                      go_roundw
                      case rel => exact ⟨j + 1, by go_num, by omega, Lib.hid Hn.out, hh.2.2.2.2⟩
                      case measure => simp [intOf]; omega
            · obtain rfl : j = M.its.length := by omega
              have HS : Hid (R = true) := Lib.hid (by rw [HR.out]; exact sameIts_all M.its N.its HL.out (fun m hm => H.out m hm))
              clear H
              go_wp2_with fail
              go_ret
              exact ⟨ret_eq (bool_eq HS.out.symm), hb⟩
        · have HR2 : Hid (R = false) := Lib.hid (by rw [HR.out]; exact sameIts_len _ _ hll)
          have n1 : ((M.its.length : Int) != (N.its.length : Int)) = true := by simp; omega
          clear HV cS cE hll
          go_wp2_with fail
          go_ret
          exact ⟨ret_eq (bool_eq HR2.out.symm), hb2⟩
  · have HR : Hid (R = false) := Lib.hid (by rw [HV.out]; have : (M.inner == N.inner) = false := by simpa using hi
                                             rw [this] <;> rfl)
    clear HV cS cE hK0
    generalize M.inner = bi at *
    generalize N.inner = bj at *
    cases bi <;> cases bj <;> first
      | (exfalso; simp at hi; done)
      | (go_enter Tryz.func17, Tryz.ntmps17
         go_wp2_with fail
         go_ret
         exact ⟨ret_eq (bool_eq HR.out.symm), hb0⟩)

end Go.Proofs.YtjbipplaacgnkaaGreatDoor

namespace Go.Proofs.YtjbipplaacgnkaaGreatDoor
open Go.RowKit Go.Maps

/-- What Size reckons, in 64 bits. -/
def szHead (M : Mem) : Int := wrap64 (wrap64 (wrap64 (szGo 0 M.ps + szGo 0 M.it.ps) + (M.it.s.length : Int)) + 1)
def szItem (n : Int) (x : Itm) : Int := wrap64 (wrap64 (wrap64 (n + szGo 0 x.ps) + (x.s.length : Int)) + 1)
def szIts (n : Int) : List Itm → Int
  | [] => n
  | x :: xs => if n < 100000 then szIts (szItem n x) xs else n
def szMem (M : Mem) : Int := szIts (szHead M) M.its

/-- One box, and what was made behind it. -/
def Box1 (w : World) (o : Obj) (W : World) : Prop := Below (w.heap.size + 1) (w.alloc o) W
theorem Box1.next {w W W1 : World} {o : Obj} (h : Box1 w o W) (hb : Below W.heap.size W W1) : Box1 w o W1 :=
  Below.trans h (hb.mono (by have := Below.size h; simp at this; omega))
theorem Box1.later {w W : World} {o : Obj} (h : Box1 w o W) : Below w.heap.size w W :=
  ((Below.refl w.heap.size w).alloc (Nat.le_refl _) o).trans (Below.mono h (by omega))
theorem Box1.mem {w W : World} {a b c d e f g : Value} {T : TypeId} (h : Box1 w (.cells #[a, b, c, d, e, f, g] T) W) :
    W.cell? ⟨w.heap.size, 0, none⟩ = some a ∧ W.cell? ⟨w.heap.size, 1, none⟩ = some b ∧ W.cell? ⟨w.heap.size, 2, none⟩ = some c ∧ W.cell? ⟨w.heap.size, 3, none⟩ = some d ∧ W.cell? ⟨w.heap.size, 4, none⟩ = some e ∧ W.cell? ⟨w.heap.size, 5, none⟩ = some f ∧ W.cell? ⟨w.heap.size, 6, none⟩ = some g := by
  have kc := fun (b o : Nat) (hb : b < w.heap.size + 1) => Below.cell (p := ⟨b, o, none⟩) h hb
  refine ⟨?_, ?_, ?_, ?_, ?_, ?_, ?_⟩
  all_goals exact (kc _ _ (by omega)).trans (by simp)

abbrev heldZ (w : World) (o : Obj) (s u vp : Value) (W : World) : Prop :=
  W.cell? ⟨w.heap.size, 3, none⟩ = some s ∧ W.cell? ⟨w.heap.size, 4, none⟩ = some u ∧ W.cell? ⟨w.heap.size, 6, none⟩ = some vp ∧ Box1 w o W
abbrev heldY (w : World) (o : Obj) (v : Value) (c i : Nat) (s u : Value) (W : World) : Prop :=
  W.cell? ⟨w.heap.size, 5, none⟩ = some v ∧ W.cell? ⟨c, i + 2, none⟩ = some s ∧ W.cell? ⟨c, i + 3, none⟩ = some u ∧ Box1 w o W
theorem heldZ_next {w : World} {o : Obj} {s u vp : Value} {W W1 : World} (h : heldZ w o s u vp W) (hb : Below W.heap.size W W1) : heldZ w o s u vp W1 := by
  obtain ⟨h1, h2, h3, h4⟩ := h
  have k : ∀ {b i : Nat} {v : Value}, W.cell? ⟨b, i, none⟩ = some v → W1.cell? ⟨b, i, none⟩ = some v := fun {b i v} hc => (hb.cell (p := ⟨b, i, none⟩) (lt_of_cell hc)).trans hc
  exact ⟨k h1, k h2, k h3, h4.next hb⟩
theorem heldY_next {w : World} {o : Obj} {v : Value} {c i : Nat} {s u : Value} {W W1 : World} (h : heldY w o v c i s u W) (hb : Below W.heap.size W W1) : heldY w o v c i s u W1 := by
  obtain ⟨h1, h2, h3, h4⟩ := h
  have k : ∀ {b i : Nat} {v : Value}, W.cell? ⟨b, i, none⟩ = some v → W1.cell? ⟨b, i, none⟩ = some v := fun {b i v} hc => (hb.cell (p := ⟨b, i, none⟩) (lt_of_cell hc)).trans hc
  exact ⟨k h1, k h2, k h3, h4.next hb⟩

set_option maxRecDepth 100000 in
set_option maxHeartbeats 4000000 in
theorem msize_any (M : Mem) (v : Value) (w : World) (h : MemAt 0 none w M v) (h1 : M.it.ps.length ≤ maxLen) (h2 : M.ps.length ≤ maxLen) (h3 : M.its.length ≤ 2513169434916) (h4 : ∀ x ∈ M.its, x.ps.length ≤ maxLen) :
    Calls Tryz.prog 30 #[v] w fun e w' => e = .returned (.int .i64 (szMem M)) ∧ Below w.heap.size w w' := by
  obtain ⟨u, vi, vp, rfl, p1, p2, p3⟩ := h
  have hK0 : Box1 w (rmemO' M.inner M.it.k M.it.n (strB M.it.s) u vi vp) (w.alloc (rmemO' M.inner M.it.k M.it.n (strB M.it.s) u vi vp)) := Below.refl _ _
  have hP1 := p1.prms
  have hP3 := p3.prms
  obtain ⟨x1, y1, rfl⟩ := p1.form
  obtain ⟨x2, y2, rfl, hc2⟩ := p2
  obtain ⟨x3, y3, rfl⟩ := p3.form
  have cA := fun W (h : heldZ w (rmemO' M.inner M.it.k M.it.n (strB M.it.s) (.slice x1 M.it.ps.length y1) (.slice x2 M.its.length y2) (.slice x3 M.ps.length y3)) (.string (strB M.it.s)) (.slice x1 M.it.ps.length y1) (.slice x3 M.ps.length y3) W) =>
    (size_any (.slice x1 M.it.ps.length y1) M.it.ps W (hP1.below h.2.2.2.later) h1).mono fun e w' (hh : _ ∧ Below W.heap.size W w') => (⟨hh.1, heldZ_next h hh.2⟩ : _ ∧ heldZ w (rmemO' M.inner M.it.k M.it.n (strB M.it.s) (.slice x1 M.it.ps.length y1) (.slice x2 M.its.length y2) (.slice x3 M.ps.length y3)) (.string (strB M.it.s)) (.slice x1 M.it.ps.length y1) (.slice x3 M.ps.length y3) w')
  have cB := fun W (h : heldZ w (rmemO' M.inner M.it.k M.it.n (strB M.it.s) (.slice x1 M.it.ps.length y1) (.slice x2 M.its.length y2) (.slice x3 M.ps.length y3)) (.string (strB M.it.s)) (.slice x1 M.it.ps.length y1) (.slice x3 M.ps.length y3) W) =>
    (size_any (.slice x3 M.ps.length y3) M.ps W (hP3.below h.2.2.2.later) h2).mono fun e w' (hh : _ ∧ Below W.heap.size W w') => (⟨hh.1, heldZ_next h hh.2⟩ : _ ∧ heldZ w (rmemO' M.inner M.it.k M.it.n (strB M.it.s) (.slice x1 M.it.ps.length y1) (.slice x2 M.its.length y2) (.slice x3 M.ps.length y3)) (.string (strB M.it.s)) (.slice x1 M.it.ps.length y1) (.slice x3 M.ps.length y3) w')
  obtain ⟨_, _, _, k3, k4, k5, k6⟩ := hK0.mem
  have hS0 := heldZ_next ⟨k3, k4, k6, hK0⟩ (Below.refl _ _).drew
  have HC2 := Lib.hid hc2
  have H4 := Lib.hid h4
  have HV : Hid (szHead M = wrap64 (wrap64 (wrap64 (szGo 0 M.ps + szGo 0 M.it.ps) + ((strB M.it.s).size : Int)) + 1)) := Lib.hid (by rw [strB_size, szHead])
  have hR : szMem M = szIts (szHead M) M.its := rfl
  clear p1 p3 hP1 hP3 hc2 h4 k3 k4 k5 k6 h1 h2 hK0
  generalize szMem M = R at *
  generalize szHead M = R0 at *
  generalize szGo 0 M.ps = z1 at *
  generalize szGo 0 M.it.ps = z2 at *
  generalize strB M.it.s = S at *
  go_enter Tryz.func30, Tryz.ntmps30
  go_upto_region 1 with fail
  go_cut [3] (fun n wx => n = .int .i64 R0 ∧ Box1 w (rmemO' M.inner M.it.k M.it.n S (.slice x1 M.it.ps.length y1) (.slice x2 M.its.length y2) (.slice x3 M.ps.length y3)) wx)
  case first =>
    go_region_held3 (fun W => W.cell? ⟨w.heap.size, 3, none⟩ = some (.string S) ∧ W.cell? ⟨w.heap.size, 4, none⟩ = some (.slice x1 M.it.ps.length y1) ∧ W.cell? ⟨w.heap.size, 6, none⟩ = some (.slice x3 M.ps.length y3) ∧ Box1 w (rmemO' M.inner M.it.k M.it.n S (.slice x1 M.it.ps.length y1) (.slice x2 M.its.length y2) (.slice x3 M.ps.length y3)) W) (with_reducible assumption)
      (first
      | (go_at_call 55; with_reducible refine (cA _ (by with_reducible assumption)).mono ?_; rintro e w' ⟨rfl, hh⟩)
      | (go_at_call 55; with_reducible refine (cB _ (by with_reducible assumption)).mono ?_; rintro e w' ⟨rfl, hh⟩))
    all_goals
      go_wp2_with fail
      go_meet
      exact ⟨by rw [HV.out]; simp only [IntWalk.i64_left], hh.2.2.2⟩
  case rest =>
  obtain ⟨rfl, hK⟩ := hcut
  clear cA cB hS0 HV
  obtain ⟨_, _, _, _, _, k5, _⟩ := hK.mem
  go_wp2_with fail
  clear k5
  go_loopw [3, 4] (fun n i wr => ∃ (j : Nat) (N : Int), n = .int .i64 N ∧ i = .int .i64 j ∧ j ≤ M.its.length ∧ Hid (R = szIts N (M.its.drop j)) ∧ Box1 w (rmemO' M.inner M.it.k M.it.n S (.slice x1 M.it.ps.length y1) (.slice x2 M.its.length y2) (.slice x3 M.ps.length y3)) wr) (fun _ i _ => M.its.length - (intOf i).toNat)
  case atStart => exact ⟨0, _, rfl, rfl, Nat.zero_le _, Lib.hid hR, hK⟩
  case round =>
    obtain ⟨j, N, rfl, rfl, hj, H, hK⟩ := hrel
    clear hR
    have HK := Lib.hid hK
    obtain ⟨_, _, _, _, _, k5, _⟩ := hK.mem
    by_cases hlt : j < M.its.length
    · rcases HC2.out with hnil | ⟨c, off, rfl, _, _, hcl, hcell⟩
      · exfalso
        rw [hnil] at hlt
        simp at hlt
      · obtain ⟨p, hp⟩ : ∃ p, M.its[j]? = some p := ⟨_, List.getElem?_eq_getElem hlt⟩
        obtain ⟨t, ⟨_, _, p2, p3⟩, hF⟩ := hcell j p hp
        have hb := hK.later
        have c2 := (hb.cell (p := ⟨c, off + j * 4 + 2, none⟩) hcl).trans p2
        have c3 := (hb.cell (p := ⟨c, off + j * 4 + 3, none⟩) hcl).trans p3
        have jI : (j : Int) < (M.its.length : Int) := by omega
        have j0 : (0 : Int) ≤ (j : Int) := by omega
        have hd : M.its.drop j = p :: M.its.drop (j + 1) := by
          obtain ⟨h1, h2⟩ := List.getElem?_eq_some_iff.1 hp
          rw [← h2]
          exact List.drop_eq_getElem_cons h1
        rw [hd] at H
        have hpl := H4.out p (List.mem_of_getElem? hp)
        have HD : Hid (szItem N p = wrap64 (wrap64 (wrap64 (N + szGo 0 p.ps) + ((strB p.s).size : Int)) + 1)) := Lib.hid (by rw [strB_size, szItem])
        have hPp := hF.prms
        obtain ⟨au, cu, rfl⟩ := hF.form
        have cA := fun W (h : heldY w (rmemO' M.inner M.it.k M.it.n S (.slice x1 M.it.ps.length y1) (.slice (some ⟨c, off, none⟩) M.its.length y2) (.slice x3 M.ps.length y3)) (.slice (some ⟨c, off, none⟩) M.its.length y2) c (off + j * 4) (.string (strB p.s)) (.slice au p.ps.length cu) W) =>
          (size_any (.slice au p.ps.length cu) p.ps W (hPp.below h.2.2.2.later) hpl).mono fun e w' (hh : _ ∧ Below W.heap.size W w') => (⟨hh.1, heldY_next h hh.2⟩ : _ ∧ heldY w (rmemO' M.inner M.it.k M.it.n S (.slice x1 M.it.ps.length y1) (.slice (some ⟨c, off, none⟩) M.its.length y2) (.slice x3 M.ps.length y3)) (.slice (some ⟨c, off, none⟩) M.its.length y2) c (off + j * 4) (.string (strB p.s)) (.slice au p.ps.length cu) w')
        have hS0 := heldY_next (i := off + j * 4) ⟨k5, c2, c3, hK⟩ (Below.refl _ _).drew
        clear hcell hcl p2 p3 hb hd hp c2 c3 hF hPp hpl hK
        cases hN : decide (N < 100000)
        · have HE : Hid (R = N) := Lib.hid (by rw [H.out, szIts, if_neg (by simpa using hN)])
          clear H HD cA hS0
          go_wp2_with fail
          go_ret
          exact ⟨by rw [HE.out] <;> rfl, HK.out.later⟩
        · have HE : Hid (R = szIts (szItem N p) (M.its.drop (j + 1))) := Lib.hid (by rw [H.out, szIts, if_pos (by simpa using hN)])
          clear H
          generalize szGo 0 p.ps = z3 at *
          generalize strB p.s = PS at *
          go_wp2_with fail
          clear k5
          go_region_held3 (fun W => W.cell? ⟨w.heap.size, 5, none⟩ = some (.slice (some ⟨c, off, none⟩) M.its.length y2) ∧ W.cell? ⟨c, off + j * 4 + 2, none⟩ = some (.string PS) ∧ W.cell? ⟨c, off + j * 4 + 3, none⟩ = some (.slice au p.ps.length cu) ∧ Box1 w (rmemO' M.inner M.it.k M.it.n S (.slice x1 M.it.ps.length y1) (.slice (some ⟨c, off, none⟩) M.its.length y2) (.slice x3 M.ps.length y3)) W) (with_reducible assumption)
            (first | (go_at_call 55; with_reducible refine (cA _ (by with_reducible assumption)).mono ?_; rintro e w' ⟨rfl, hh⟩))
          all_goals
            go_wp2_with fail
            go_roundw
            case rel => exact ⟨j + 1, szItem N p, by rw [HD.out]; simp only [IntWalk.i64_left], by go_num, by omega, Lib.hid HE.out, hh.2.2.2⟩
            case measure => simp [intOf]; omega
    · obtain rfl : j = M.its.length := by omega
      have HE : Hid (R = N) := Lib.hid (by rw [H.out, List.drop_length, szIts])
      clear H
      go_wp2_with fail
      go_ret
      exact ⟨by rw [HE.out] <;> rfl, HK.out.later⟩

end Go.Proofs.YtjbipplaacgnkaaGreatDoor

namespace Go.Proofs.YtjbipplaacgnkaaGreatDoor
open Go.RowKit Go.Maps

abbrev heldL (w : World) (A c B d : Nat) (a0 a1 a2 a3 a4 a5 a6 b0 b1 b2 b3 b4 b5 b6 : Value) (W : World) : Prop :=
  (W.cell? ⟨A, c, none⟩ = some a0 ∧ W.cell? ⟨A, c + 1, none⟩ = some a1 ∧ W.cell? ⟨A, c + 2, none⟩ = some a2 ∧ W.cell? ⟨A, c + 3, none⟩ = some a3 ∧ W.cell? ⟨A, c + 4, none⟩ = some a4 ∧ W.cell? ⟨A, c + 5, none⟩ = some a5 ∧ W.cell? ⟨A, c + 6, none⟩ = some a6) ∧ (W.cell? ⟨B, d, none⟩ = some b0 ∧ W.cell? ⟨B, d + 1, none⟩ = some b1 ∧ W.cell? ⟨B, d + 2, none⟩ = some b2 ∧ W.cell? ⟨B, d + 3, none⟩ = some b3 ∧ W.cell? ⟨B, d + 4, none⟩ = some b4 ∧ W.cell? ⟨B, d + 5, none⟩ = some b5 ∧ W.cell? ⟨B, d + 6, none⟩ = some b6) ∧ Below w.heap.size w W
theorem heldL_next {w : World} {A c B d : Nat} {a0 a1 a2 a3 a4 a5 a6 b0 b1 b2 b3 b4 b5 b6 : Value} {W W1 : World} (h : heldL w A c B d a0 a1 a2 a3 a4 a5 a6 b0 b1 b2 b3 b4 b5 b6 W) (hb : Below W.heap.size W W1) : heldL w A c B d a0 a1 a2 a3 a4 a5 a6 b0 b1 b2 b3 b4 b5 b6 W1 := by
  obtain ⟨⟨x0, x1, x2, x3, x4, x5, x6⟩, ⟨y0, y1, y2, y3, y4, y5, y6⟩, h3⟩ := h
  have k : ∀ {b i : Nat} {v : Value}, W.cell? ⟨b, i, none⟩ = some v → W1.cell? ⟨b, i, none⟩ = some v := fun {b i v} hc => (hb.cell (p := ⟨b, i, none⟩) (lt_of_cell hc)).trans hc
  exact ⟨⟨k x0, k x1, k x2, k x3, k x4, k x5, k x6⟩, ⟨k y0, k y1, k y2, k y3, k y4, k y5, k y6⟩, h3.trans (hb.mono h3.size)⟩
theorem mem7 {w : World} {b o : Nat} {M : Mem} {u : Value × Value × Value} (h : ∀ i, i < memR.size → w.cell? ⟨b, o + i, none⟩ = (memR.cells M u)[i]?) :
    (w.cell? ⟨b, o, none⟩ = some (.bool M.inner) ∧ w.cell? ⟨b, o + 1, none⟩ = some (.int .i64 M.it.k) ∧ w.cell? ⟨b, o + 2, none⟩ = some (.int .i64 M.it.n) ∧ w.cell? ⟨b, o + 3, none⟩ = some (.string (strB M.it.s)) ∧ w.cell? ⟨b, o + 4, none⟩ = some u.1 ∧ w.cell? ⟨b, o + 5, none⟩ = some u.2.1 ∧ w.cell? ⟨b, o + 6, none⟩ = some u.2.2) :=
  ⟨h 0 (by decide), h 1 (by decide), h 2 (by decide), h 3 (by decide), h 4 (by decide), h 5 (by decide), h 6 (by decide)⟩

set_option maxRecDepth 100000 in
set_option maxHeartbeats 4000000 in
theorem sameList_any (xs ys : List Mem) (v1 v2 : Value) (w : World) (h1 : GOff memR 0 none w v1 xs) (h2 : GOff memR 0 none w v2 ys) (hx : ∀ M ∈ xs, MemSm M) (hy : ∀ M ∈ ys, MemSm M) (hl : xs.length ≤ 1000000) :
    Calls Tryz.prog 14 #[v1, v2] w fun e w' => Below w.heap.size w w' ∧ ∃ b, e = .returned (.bool b) ∧ (b = true ↔ xs = ys) := by
  obtain ⟨ao, ac, rfl, hc1⟩ := h1
  obtain ⟨bo, bc, rfl, hc2⟩ := h2
  have HC1 := Lib.hid hc1
  have HC2 := Lib.hid hc2
  have HX := Lib.hid hx
  have HY := Lib.hid hy
  clear hc1 hc2 hx hy
  by_cases hll : xs.length = ys.length
  · have HL := Lib.hid hll
    rw [← hll]
    clear hll
    go_enter Tryz.func14, Tryz.ntmps14
    go_wp2_with fail
    go_loopw [5] (fun i wr => ∃ j : Nat, i = .int .i64 j ∧ j ≤ xs.length ∧ Hid (∀ m, m < j → xs[m]? = ys[m]?) ∧ Below w.heap.size w wr) (fun i _ => xs.length - (intOf i).toNat)
    case atStart => exact ⟨0, rfl, Nat.zero_le _, Lib.hid (fun m h => absurd h (by omega)), Below.refl _ _⟩
    case round =>
      obtain ⟨j, rfl, hj, H, hb⟩ := hrel
      by_cases hlt : j < xs.length
      · rcases HC1.out with hnil | ⟨A, off, rfl, _, _, hA, hcell⟩
        · exfalso
          rw [hnil] at hlt
          simp at hlt
        · rcases HC2.out with hnil2 | ⟨B, off2, rfl, _, _, hB, hcell2⟩
          · exfalso
            have h0 := HL.out
            rw [hnil2, List.length_nil] at h0
            omega
          · obtain ⟨p, hp⟩ : ∃ p, xs[j]? = some p := ⟨_, List.getElem?_eq_getElem hlt⟩
            obtain ⟨q, hq⟩ : ∃ q, ys[j]? = some q := ⟨_, List.getElem?_eq_getElem (by have := HL.out; omega)⟩
            obtain ⟨⟨t1, t2, t3⟩, hpc, f1, f2, f3⟩ := hcell j p hp
            obtain ⟨⟨s1, s2, s3⟩, hqc, e1, e2, e3⟩ := hcell2 j q hq
            have hS := heldL_next ⟨mem7 hpc, mem7 hqc, Below.refl w.heap.size w⟩ hb
            have cS : ∀ W, heldL w A (off + j * 7) B (off2 + j * 7) (.bool p.inner) (.int .i64 p.it.k) (.int .i64 p.it.n) (.string (strB p.it.s)) t1 t2 t3 (.bool q.inner) (.int .i64 q.it.k) (.int .i64 q.it.n) (.string (strB q.it.s)) s1 s2 s3 W → Calls Tryz.prog 17 #[.agg #[.bool p.inner, .int .i64 p.it.k, .int .i64 p.it.n, .string (strB p.it.s), t1, t2, t3], .agg #[.bool q.inner, .int .i64 q.it.k, .int .i64 q.it.n, .string (strB q.it.s), s1, s2, s3]] W fun e w' => e = .returned (.bool (sameM p q)) ∧ heldL w A (off + j * 7) B (off2 + j * 7) (.bool p.inner) (.int .i64 p.it.k) (.int .i64 p.it.n) (.string (strB p.it.s)) t1 t2 t3 (.bool q.inner) (.int .i64 q.it.k) (.int .i64 q.it.n) (.string (strB q.it.s)) s1 s2 s3 w' := fun W hW =>
              (r4same_any p q _ _ W (MemAt.below ⟨t1, t2, t3, rfl, f1, f2, f3⟩ hW.2.2) (MemAt.below ⟨s1, s2, s3, rfl, e1, e2, e3⟩ hW.2.2) (HX.out p (List.mem_of_getElem? hp)) (HY.out q (List.mem_of_getElem? hq))).mono fun e w' hh => ⟨hh.1, heldL_next hW hh.2⟩
            have hS0 : heldL w A (off + j * 7) B (off2 + j * 7) (.bool p.inner) (.int .i64 p.it.k) (.int .i64 p.it.n) (.string (strB p.it.s)) t1 t2 t3 (.bool q.inner) (.int .i64 q.it.k) (.int .i64 q.it.n) (.string (strB q.it.s)) s1 s2 s3 wr.drew := heldL_next hS (Below.refl _ _).drew
            obtain ⟨ta1, tb1, rfl⟩ := f1.form
            obtain ⟨ta2, tb2, rfl⟩ := f2.form
            obtain ⟨ta3, tb3, rfl⟩ := f3.form
            obtain ⟨sa1, sb1, rfl⟩ := e1.form
            obtain ⟨sa2, sb2, rfl⟩ := e2.form
            obtain ⟨sa3, sb3, rfl⟩ := e3.form
            have jI : (j : Int) < (xs.length : Int) := by omega
            have j0 : (0 : Int) ≤ (j : Int) := by omega
            have hpq : Hid (sameM p q = true ↔ p = q) := Lib.hid (sameM_iff p q)
            have HP := Lib.hid hp
            have HQ := Lib.hid hq
            clear hcell hcell2 hpc hqc f1 f2 f3 e1 e2 e3 hA hB hp hq hS hb
            generalize sameM p q = R at *
            generalize strB p.it.s = PS at *
            generalize strB q.it.s = QS at *
            cases R
            · have HS : Hid (¬ xs = ys) := Lib.hid (fun e => by
                have h := HP.out
                rw [e, HQ.out] at h
                exact absurd (hpq.out.2 (Option.some.inj h).symm) (by decide))
              clear H hpq HP HQ
              go_wp2_with fail
              go_region_held3 (fun W => (W.cell? ⟨A, off + j * 7, none⟩ = some (.bool p.inner) ∧ W.cell? ⟨A, off + j * 7 + 1, none⟩ = some (.int .i64 p.it.k) ∧ W.cell? ⟨A, off + j * 7 + 2, none⟩ = some (.int .i64 p.it.n) ∧ W.cell? ⟨A, off + j * 7 + 3, none⟩ = some (.string PS) ∧ W.cell? ⟨A, off + j * 7 + 4, none⟩ = some (.slice ta1 p.it.ps.length tb1) ∧ W.cell? ⟨A, off + j * 7 + 5, none⟩ = some (.slice ta2 p.its.length tb2) ∧ W.cell? ⟨A, off + j * 7 + 6, none⟩ = some (.slice ta3 p.ps.length tb3)) ∧ (W.cell? ⟨B, off2 + j * 7, none⟩ = some (.bool q.inner) ∧ W.cell? ⟨B, off2 + j * 7 + 1, none⟩ = some (.int .i64 q.it.k) ∧ W.cell? ⟨B, off2 + j * 7 + 2, none⟩ = some (.int .i64 q.it.n) ∧ W.cell? ⟨B, off2 + j * 7 + 3, none⟩ = some (.string QS) ∧ W.cell? ⟨B, off2 + j * 7 + 4, none⟩ = some (.slice sa1 q.it.ps.length sb1) ∧ W.cell? ⟨B, off2 + j * 7 + 5, none⟩ = some (.slice sa2 q.its.length sb2) ∧ W.cell? ⟨B, off2 + j * 7 + 6, none⟩ = some (.slice sa3 q.ps.length sb3)) ∧ Below w.heap.size w W) (with_reducible assumption)
                (first | (go_at_call 17; with_reducible refine (cS _ (by with_reducible assumption)).mono ?_; rintro e w' ⟨rfl, hh⟩))
              all_goals go_wp2_with fail
              all_goals go_ret
              all_goals exact ⟨hh.2.2, false, rfl, by simpa using HS.out⟩
            · have Hn : Hid (∀ m, m < j + 1 → xs[m]? = ys[m]?) := Lib.hid (fun m hm => by
                by_cases e : m = j
                · subst e; rw [HP.out, HQ.out, hpq.out.1 rfl]
                · exact H.out m (by omega))
              clear H hpq HP HQ
              go_wp2_with fail
              go_region_held3 (fun W => (W.cell? ⟨A, off + j * 7, none⟩ = some (.bool p.inner) ∧ W.cell? ⟨A, off + j * 7 + 1, none⟩ = some (.int .i64 p.it.k) ∧ W.cell? ⟨A, off + j * 7 + 2, none⟩ = some (.int .i64 p.it.n) ∧ W.cell? ⟨A, off + j * 7 + 3, none⟩ = some (.string PS) ∧ W.cell? ⟨A, off + j * 7 + 4, none⟩ = some (.slice ta1 p.it.ps.length tb1) ∧ W.cell? ⟨A, off + j * 7 + 5, none⟩ = some (.slice ta2 p.its.length tb2) ∧ W.cell? ⟨A, off + j * 7 + 6, none⟩ = some (.slice ta3 p.ps.length tb3)) ∧ (W.cell? ⟨B, off2 + j * 7, none⟩ = some (.bool q.inner) ∧ W.cell? ⟨B, off2 + j * 7 + 1, none⟩ = some (.int .i64 q.it.k) ∧ W.cell? ⟨B, off2 + j * 7 + 2, none⟩ = some (.int .i64 q.it.n) ∧ W.cell? ⟨B, off2 + j * 7 + 3, none⟩ = some (.string QS) ∧ W.cell? ⟨B, off2 + j * 7 + 4, none⟩ = some (.slice sa1 q.it.ps.length sb1) ∧ W.cell? ⟨B, off2 + j * 7 + 5, none⟩ = some (.slice sa2 q.its.length sb2) ∧ W.cell? ⟨B, off2 + j * 7 + 6, none⟩ = some (.slice sa3 q.ps.length sb3)) ∧ Below w.heap.size w W) (with_reducible assumption)
                (first | (go_at_call 17; with_reducible refine (cS _ (by with_reducible assumption)).mono ?_; rintro e w' ⟨rfl, hh⟩))
              all_goals
                go_wp2_with fail
                go_roundw
                case rel => exact ⟨j + 1, by go_num, by omega, Lib.hid Hn.out, hh.2.2⟩
                case measure => simp [intOf]; omega
      · obtain rfl : j = xs.length := by omega
        have HR : Hid (xs = ys) := Lib.hid (List.ext_getElem? fun m => by
          by_cases e : m < xs.length
          · exact H.out m e
          · rw [List.getElem?_eq_none (by omega), List.getElem?_eq_none (by have := HL.out; omega)])
        clear H
        go_wp2_with fail
        go_ret
        exact ⟨hb, true, rfl, by simpa using HR.out⟩
  · have n1 : ((xs.length : Int) != (ys.length : Int)) = true := by simp; omega
    have HR : Hid (¬ xs = ys) := Lib.hid (fun e => hll (by rw [e]))
    clear hll
    go_enter Tryz.func14, Tryz.ntmps14
    go_wp2_with fail
    go_ret
    exact ⟨Below.refl _ _, false, rfl, by simpa using HR.out⟩

end Go.Proofs.YtjbipplaacgnkaaGreatDoor

namespace Go.Proofs.YtjbipplaacgnkaaGreatDoor
open Go.RowKit Go.Maps

/-- How many of the members are taken, and what Size tells of them together. -/
def allN : Int → List Mem → Nat × Int
  | n, [] => (0, n)
  | n, M :: Ms => if n < 10000 then ((allN (wrap64 (n + szMem M)) Ms).1 + 1, (allN (wrap64 (n + szMem M)) Ms).2) else (0, n)
theorem info_rmem : (Tryz.prog.info? 57).map (fun i => (i.zero, i.size, i.bytes)) = some (some (.agg #[.bool false, .int .i64 0, .int .i64 0, .string ⟨#[]⟩, .slice none 0 0, .slice none 0 0, .slice none 0 0]), 7, 112) := by kernel_rfl

theorem all_kept {wr w2 w5 : World} {base n : Nat} {T t : TypeId} {v : Value} {rows : List Value} {a b c d e f g : Value} {O2 : Obj} (HO : wr.ownsRow base T 7 v n rows) (hb : Below wr.heap.size wr w2) (hg : ((w2.alloc (.cells #[a, b, c, d, e, f, g] t)).alloc O2).grownBy w5 v.ownBlock) :
    w5.cell? ⟨w2.heap.size, 0, none⟩ = some a ∧ w5.cell? ⟨w2.heap.size, 1, none⟩ = some b ∧ w5.cell? ⟨w2.heap.size, 2, none⟩ = some c ∧ w5.cell? ⟨w2.heap.size, 3, none⟩ = some d ∧ w5.cell? ⟨w2.heap.size, 4, none⟩ = some e ∧ w5.cell? ⟨w2.heap.size, 5, none⟩ = some f ∧ w5.cell? ⟨w2.heap.size, 6, none⟩ = some g := by
  have hne : some w2.heap.size ≠ v.ownBlock := fun h => by
    have h1 := (World.ownsRow.lt HO _ h.symm).2
    have h2 := hb.size
    omega
  have k := fun i => grown_cell hg (c := w2.heap.size) (by simp; omega) hne i
  refine ⟨?_, ?_, ?_, ?_, ?_, ?_, ?_⟩
  all_goals exact (k _).trans (by simp)

/-- What must hold of members that are taken. -/
structure MemLn (M : Mem) : Prop where
  a : M.it.ps.length ≤ 2932031007402
  b : M.ps.length ≤ 2932031007402
  c : M.its.length ≤ 2513169434916
  d : ∀ x ∈ M.its, x.ps.length ≤ 2932031007402

set_option maxRecDepth 100000 in
set_option maxHeartbeats 4000000 in
theorem all_any (xs : List Mem) (v : Value) (w : World) (h : GOff memR 0 none w v xs) (hk : ∀ M ∈ xs, MemLn M) (hl : xs.length ≤ 1256584717458) :
    Calls Tryz.prog 12 #[v] w fun e w' => Below w.heap.size w w' ∧ ∃ u, e = .returned (.tuple #[u, .int .i64 (allN 0 xs).2]) ∧ GOff memR w.heap.size none w' u (xs.take (allN 0 xs).1) := by
  obtain ⟨i0, hi, hz0, hz1, hz2⟩ := info_parts info_rmem
  obtain ⟨ao, ac, rfl, hc1⟩ := h
  have HC1 := Lib.hid hc1
  have HK := Lib.hid hk
  clear hc1 hk
  go_enter Tryz.func12, Tryz.ntmps12
  go_wp2_with fail
  go_loopw [4, 5, 6] (fun v n i wr => ∃ (j : Nat) (N : Int) (av : Option Addr) (cv : Nat), v = .slice av j cv ∧ n = .int .i64 N ∧ i = .int .i64 j ∧ j ≤ xs.length ∧ Hid (allN 0 xs = ((allN N (xs.drop j)).1 + j, (allN N (xs.drop j)).2)) ∧ OwnG memR 57 wr w.heap.size v (xs.take j) ∧ Below w.heap.size w wr) (fun _ _ i _ => xs.length - (intOf i).toNat)
  case atStart => exact ⟨0, 0, none, 0, rfl, rfl, rfl, Nat.zero_le _, Lib.hid rfl, OwnG.nothing _ _ _ _, Below.refl _ _⟩
  case round =>
    obtain ⟨j, N, av, cv, rfl, rfl, rfl, hj, H, hown, hb⟩ := hrel
    have HB := Lib.hid hb
    have HOW := Lib.hid hown
    by_cases hlt : j < xs.length
    · obtain ⟨M, hp⟩ : ∃ M, xs[j]? = some M := ⟨_, List.getElem?_eq_getElem hlt⟩
      have hd : xs.drop j = M :: xs.drop (j + 1) := by
        obtain ⟨h1, h2⟩ := List.getElem?_eq_some_iff.1 hp
        rw [← h2]
        exact List.drop_eq_getElem_cons h1
      rw [hd] at H
      cases hN : decide (N < 10000)
      · have HE : Hid (allN 0 xs = (j, N)) := Lib.hid (by rw [H.out, allN, if_neg (by simpa using hN), Nat.zero_add])
        clear H hd hp hown hb
        go_wp2_with fail
        refine bodyPost_ret (v := .tuple #[.slice av j cv, .int .i64 N]) (by simp [results, Tryz.results12, go_sem]) rfl ?_
        rw [HE.out]
        exact ⟨HB.out, _, rfl, HOW.out.off⟩
      · have HE : Hid (allN 0 xs = ((allN (wrap64 (N + szMem M)) (xs.drop (j + 1))).1 + (j + 1), (allN (wrap64 (N + szMem M)) (xs.drop (j + 1))).2)) := Lib.hid (by rw [H.out, allN, if_pos (by simpa using hN)]; congr 1; omega)
        rcases HC1.out with hnil | ⟨A, off, rfl, _, _, hA, hcell⟩
        · exfalso
          rw [hnil] at hlt
          simp at hlt
        · obtain ⟨⟨t1, t2, t3⟩, hpc, f1, f2, f3⟩ := hcell j M hp
          have hML := HK.out M (List.mem_of_getElem? hp)
          obtain ⟨x0, x1, x2, x3, x4, x5, x6⟩ : wr.cell? ⟨A, off + j * 7, none⟩ = some (.bool M.inner) ∧ wr.cell? ⟨A, off + j * 7 + 1, none⟩ = some (.int .i64 M.it.k) ∧ wr.cell? ⟨A, off + j * 7 + 2, none⟩ = some (.int .i64 M.it.n) ∧ wr.cell? ⟨A, off + j * 7 + 3, none⟩ = some (.string (strB M.it.s)) ∧ wr.cell? ⟨A, off + j * 7 + 4, none⟩ = some t1 ∧ wr.cell? ⟨A, off + j * 7 + 5, none⟩ = some t2 ∧ wr.cell? ⟨A, off + j * 7 + 6, none⟩ = some t3 := (heldL_next ⟨mem7 hpc, mem7 hpc, Below.refl w.heap.size w⟩ hb).1
          have cO := own_any M (aggM M.inner M.it.k M.it.n (strB M.it.s) t1 t2 t3) wr (MemAt.below ⟨t1, t2, t3, rfl, f1, f2, f3⟩ hb) hML.a hML.b hML.c hML.d
          have cZ := fun v' W (h : MemAt 0 none W M v') => msize_any M v' W h (Nat.le_trans hML.a (by decide)) (Nat.le_trans hML.b (by decide)) hML.c (fun x hx => Nat.le_trans (hML.d x hx) (by decide))
          obtain ⟨ta1, tb1, rfl⟩ := f1.form
          obtain ⟨ta2, tb2, rfl⟩ := f2.form
          obtain ⟨ta3, tb3, rfl⟩ := f3.form
          have jI : (j : Int) < (xs.length : Int) := by omega
          have j0 : (0 : Int) ≤ (j : Int) := by omega
          have Htk : Hid (xs.take j ++ [M] = xs.take (j + 1)) := Lib.hid (by rw [List.take_add_one, hp] <;> rfl)
          have HTL : Hid ((xs.take j).length = j) := Lib.hid (by rw [List.length_take, Nat.min_eq_left hj])
          clear hcell hpc f1 f2 f3 hA hp hd H hown hb hML
          generalize hZ : szMem M = Z at *
          go_wp2_with fail
          refine cO.mono ?_
          rintro e w2 ⟨hb2, v', rfl, u1, u2, u3, rfl, f1, f2, f3⟩
          clear cO x0 x1 x2 x3 x4 x5 x6
          obtain ⟨us, hu1, hu2, hu3⟩ := HOW.out
          rw [HTL.out] at hu1 hu2
          obtain ⟨pa1, pb1, rfl⟩ := f1.form
          obtain ⟨pa2, pb2, rfl⟩ := f2.form
          obtain ⟨pa3, pb3, rfl⟩ := f3.form
          have hF := Lib.hid (show memR.F wr.heap.size none w2 M (.slice pa1 M.it.ps.length pb1, .slice pa2 M.its.length pb2, .slice pa3 M.ps.length pb3) from ⟨f1.low (by omega), f2.low (by omega), f3.low (by omega)⟩)
          have hOW := ((ownsRow_later hu2 hb2).alloc (rmemO M.inner M.it.k M.it.n (strB M.it.s) (.slice pa1 M.it.ps.length pb1) (.slice pa2 M.its.length pb2) (.slice pa3 M.ps.length pb3))).alloc (rmemO M.inner M.it.k M.it.n (strB M.it.s) (.slice pa1 M.it.ps.length pb1) (.slice pa2 M.its.length pb2) (.slice pa3 M.ps.length pb3))
          have hnew := cells_new (w2.alloc (rmemO M.inner M.it.k M.it.n (strB M.it.s) (.slice pa1 M.it.ps.length pb1) (.slice pa2 M.its.length pb2) (.slice pa3 M.ps.length pb3))) (memR.cells M (.slice pa1 M.it.ps.length pb1, .slice pa2 M.its.length pb2, .slice pa3 M.ps.length pb3)) 57
          rw [show (w2.alloc (rmemO M.inner M.it.k M.it.n (strB M.it.s) (.slice pa1 M.it.ps.length pb1) (.slice pa2 M.its.length pb2) (.slice pa3 M.ps.length pb3))).heap.size = w2.heap.size + 1 by simp] at hnew
          have HNew := Lib.hid hnew
          clear hnew
          have hbz := Nat.le_trans HB.out.size hb2.size
          clear f1 f2 f3
          go_wp2_with (at_builtin; refine wpList_append_lies _ rfl _ _ 27 rfl w.heap.size 57 i0 (.agg #[.bool false, .int .i64 0, .int .i64 0, .string ⟨#[]⟩, .slice none 0 0, .slice none 0 0, .slice none 0 0]) 7 112 Tryz.underlying27 hi hz0 hz1 hz2 rfl (by decide) (.slice av j cv) j (rowG memR ((xs.take j).zip us)) rfl hOW ⟨_, 0, none⟩ 1 1 (memR.cells M (.slice pa1 M.it.ps.length pb1, .slice pa2 M.its.length pb2, .slice pa3 M.ps.length pb3)) rfl rfl HNew.out (by simp [Value.oneCell', memR]) (by decide) (by unfold maxLen; omega) (by omega) (by simp; omega) _ rfl ?_; intro g5 cap5 w5 hown5 hgrow5 hat5 hlt5; obtain ⟨k0, k1, k2, k3, k4, k5, k6⟩ := all_kept hu2 hb2 hgrow5)
          have hbz5 := hb2.size
          have hb2a : Below w2.heap.size w2 ((w2.alloc (rmemO M.inner M.it.k M.it.n (strB M.it.s) (.slice pa1 M.it.ps.length pb1) (.slice pa2 M.its.length pb2) (.slice pa3 M.ps.length pb3))).alloc (rmemO M.inner M.it.k M.it.n (strB M.it.s) (.slice pa1 M.it.ps.length pb1) (.slice pa2 M.its.length pb2) (.slice pa3 M.ps.length pb3))) := ((Below.refl _ _).alloc (Nat.le_refl _) _).alloc (by simp) _
          have hF2 := memR.below (memR.low (memR.avoid (blk' := (Value.slice av j cv).ownBlock) hF.out (fun k hk => (World.ownsRow.lt hu2 k hk).2)) HB.out.size) hb2a
          have hbw5 := (((HB.out.trans (hb2.mono HB.out.size)).alloc hbz (rmemO M.inner M.it.k M.it.n (strB M.it.s) (.slice pa1 M.it.ps.length pb1) (.slice pa2 M.its.length pb2) (.slice pa3 M.ps.length pb3))).alloc (by simp; omega) (rmemO M.inner M.it.k M.it.n (strB M.it.s) (.slice pa1 M.it.ps.length pb1) (.slice pa2 M.its.length pb2) (.slice pa3 M.ps.length pb3))).grown hgrow5 (by simp; omega) (fun k e => (World.ownsRow.lt hu2 k e).1)
          have hF5 := memR.avoid (blk' := none) (memR.step hF2 hgrow5 hat5) (fun g e => by cases e)
          have hN := OwnG.snoc (R := memR) (xs := xs.take j) (us := us) (by rw [HTL.out]; exact hu1) (fun i u x hu hx => memR.below (memR.below (hu3 i u x hu hx) hb2) hb2a) hF2 (by rw [HTL.out]; exact hown5) hgrow5 hat5
          rw [HTL.out, Htk.out] at hN
          refine (cZ _ w5 ⟨_, _, _, rfl, hF5.1.low (Nat.zero_le _), hF5.2.1.low (Nat.zero_le _), hF5.2.2.low (Nat.zero_le _)⟩).mono ?_
          rintro e w6 ⟨rfl, hb6⟩
          have HNN := Lib.hid (hN.below hb6)
          have HBB := Lib.hid (hbw5.trans (hb6.mono hbw5.size))
          clear hN hbw5 hF5 hF2 hb2a hgrow5 hown5 k0 k1 k2 k3 k4 k5 k6 cZ hu2 hu3 hOW hb6 hb2
          go_wp2_with fail
          go_roundw
          case rel => exact ⟨j + 1, wrap64 (N + Z), _, _, rfl, by simp only [], by go_num, by omega, Lib.hid HE.out, HNN.out, HBB.out⟩
          case measure => simp [intOf]; omega
    · obtain rfl : j = xs.length := by omega
      have HE : Hid (allN 0 xs = (xs.length, N)) := Lib.hid (by rw [H.out, List.drop_length, allN, Nat.zero_add])
      clear H hown hb
      go_wp2_with fail
      refine bodyPost_ret (v := .tuple #[.slice av xs.length cv, .int .i64 N]) (by simp [results, Tryz.results12, go_sem]) rfl ?_
      rw [HE.out]
      exact ⟨HB.out, _, rfl, HOW.out.off⟩

end Go.Proofs.YtjbipplaacgnkaaGreatDoor
