/- The document's own Held where tags are asked for (sculleryref12). · The document's own Held (sculleryref12). · The document's own Held (sculleryref12), whole. -/
import Derived.Test.YtclgdmcbbphbcaaGreatDoorZMEuA
import Derived.Test.YtclgdmcbbphbcaaGreatDoorZMEuO
import Derived.Test.YtclgdmcbbphbcaaGreatDoorZMHdS
import Derived.Test.YtclgdmcbbphbcaaGreatDoorZRkL
import Derived.Test.YtclgdmcbbphbcaaGreatDoorZMBasP
import Derived.Test.YtclgdmcbbphbcaaGreatDoorZMRdE
import Derived.BigQuiet
import Derived.Deep.QuietTactic
import Derived.Deep.RegionHeld3

namespace Go.Proofs.YtclgdmcbbphbcaaGreatDoor
open Go.RowKit Go.Lib

def anyE (xs : List Tg) : Option Tg → Bool
  | none => false
  | some t => xs.any fun x => likE x t false
theorem hldE_none {l v : List UInt8} (h : lstE l = none) : hldE l v = false := by rw [hldE, h]
theorem hldE_some {l v : List UInt8} {xs : List Tg} {st : Bool} (h : lstE l = some (xs, st)) : hldE l v = (st || anyE xs (prsE v)) := by
  rw [hldE, h]
  dsimp only
  cases prsE v <;> rfl
theorem held_inm {q p : List Fld} (h : 0 < (allH q nInm).length) : heldE q p = hldE (joinH (allH q nInm)) (joinH (allH p nEtg)) := by rw [heldE, if_pos h]

theorem lsgE_len : ∀ (f : Nat) (l : List UInt8) (sep : Bool) (acc xs : List Tg), lsgE f l sep acc = some xs → xs.length ≤ acc.length + l.length
  | 0, _, _, _, _, h => by cases h
  | f + 1, [], sep, acc, xs, h => by
    obtain rfl := Option.some.inj h
    simp
  | f + 1, c :: r, sep, acc, xs, h => by
    rw [lsgE] at h
    rw [List.length_cons]
    split at h
    · have := lsgE_len f r sep acc xs h
      omega
    · split at h
      · have := lsgE_len f r true acc xs h
        omega
      · split at h
        · cases h
        · cases ht : takE (c :: r) with
          | none => rw [ht] at h; cases h
          | some p =>
            obtain ⟨t, q⟩ := p
            rw [ht] at h
            have h1 := lsgE_len f q false (acc ++ [t]) xs h
            have h2 := takE_len _ _ _ ht
            rw [List.length_append, List.length_singleton] at h1
            rw [List.length_cons] at h2
            omega
theorem lstE_len {l : List UInt8} {xs : List Tg} {st : Bool} (h : lstE l = some (xs, st)) : xs.length ≤ l.length := by
  unfold lstE at h
  split at h
  · split at h
    · obtain ⟨rfl, _⟩ := Prod.mk.inj (Option.some.inj h)
      exact Nat.zero_le _
    · cases h
  · cases hl : lsgE (l.length + 1) l true [] with
    | none => rw [hl] at h; cases h
    | some ys =>
      rw [hl] at h
      dsimp only at h
      split at h
      · cases h
      · obtain ⟨rfl, _⟩ := Prod.mk.inj (Option.some.inj h)
        have := lsgE_len _ _ _ _ _ hl
        simpa using this

set_option maxRecDepth 100000 in
set_option maxHeartbeats 8000000 in
theorem uheld_tag (lo lo2 : Nat) (v v2 : Value) (q p : List Fld) (w : World) (h : Flds lo w v q) (h2 : Flds lo2 w v2 p) (hk : FldsOk q) (hk2 : FldsOk p) (hj : ∀ n, (joinH (allH q n)).length ≤ 90000) (hj2 : ∀ n, (joinH (allH p n)).length ≤ 90000) (hn : 0 < (allH q nInm).length) :
    Calls Tryz.prog 17 #[v, v2] w fun e w' => e = .returned (.bool (heldE q p)) ∧ Below w.heap.size w w' := by
  have c1 := fun W (hb : Below w.heap.size w W) => rget_any lo v q nInm W (h.below hb) hk
  have c3 := fun W (hb : Below w.heap.size w W) => rget_any lo2 v2 p nEtg W (h2.below hb) hk2
  have cL := fun W => ulist_any (strB (joinH (allH q nInm))) W (by rw [strB_size]; exact Nat.le_trans (hj nInm) (by decide))
  have cP := fun W => uparse_any (strB (joinH (allH p nEtg))) W (by rw [strB_size]; exact Nat.le_trans (hj2 nEtg) (by decide))
  rw [held_inm hn]
  unfold getV at c1 c3
  rw [decide_eq_true hn] at c1
  simp only [strB_data] at cL cP
  have hj0 := hj nInm
  obtain ⟨ao, cap, rfl, _⟩ := id h
  obtain ⟨bo, bcap, rfl, _⟩ := id h2
  generalize decide (0 < (allH p nEtg).length) = D3 at *
  generalize joinH (allH q nInm) = J0 at *
  generalize joinH (allH p nEtg) = J3 at *
  clear h h2 hk hk2 hj hj2 hn
  cases hl : lstE J0 with
  | none =>
    have HV := Lib.hid (hldE_none (v := J3) hl)
    rw [hl] at cL
    obtain ⟨R, hR⟩ : ∃ R, hldE J0 J3 = R := ⟨_, rfl⟩
    rw [hR] at HV ⊢
    clear hR hl
    have hpf : ∃ (a : Bool) (X : ByteArray) (n : Int), prV (prsE J3) = .tuple #[.agg #[.bool a, .string X], .int .i64 n] := by
      cases prsE J3 with
      | none => exact ⟨_, _, _, rfl⟩
      | some t => exact ⟨_, _, _, rfl⟩
    obtain ⟨a, X, n, hX⟩ := hpf
    rw [hX] at cP
    clear hX
    generalize strB J0 = S0 at *
    generalize strB J3 = S3 at *
    go_enter Tryz.func17, Tryz.ntmps17
    go_wp2_with fail
    refine (c1 _ (Below.refl _ _)).mono ?_
    rintro e w1 ⟨rfl, hb⟩
    have HB := Lib.hid hb
    clear hb c1
    go_wp2_with fail
    refine (cL _).mono ?_
    rintro e w2 ⟨hb, rfl⟩
    have HB := Lib.hid (HB.out.trans (hb.mono HB.out.size))
    clear hb cL
    go_wp2_with fail
    refine (c3 _ HB.out).mono ?_
    rintro e w3 ⟨rfl, hb⟩
    have HB := Lib.hid (HB.out.trans (hb.mono HB.out.size))
    clear hb c3
    go_wp2_with fail
    refine (cP _).mono ?_
    rintro e w4 ⟨rfl, hb⟩
    have HB := Lib.hid (HB.out.trans (hb.mono HB.out.size))
    have HB9 := Lib.hid (HB.out.alloc HB.out.size (.cells #[.bool a, .string X] 32))
    clear hb cP
    go_wp2_with fail
    go_ret
    exact ⟨by rw [HV.out] <;> rfl, HB9.out⟩
  | some x =>
    obtain ⟨xs, st⟩ := x
    have hxl : xs.length ≤ 90000 := Nat.le_trans (lstE_len hl) hj0
    have HV := Lib.hid (hldE_some (v := J3) hl)
    rw [hl] at cL
    obtain ⟨R, hR⟩ : ∃ R, hldE J0 J3 = R := ⟨_, rfl⟩
    rw [hR] at HV ⊢
    clear hR hl
    cases hp : prsE J3 with
    | none =>
      rw [hp] at cP HV
      simp only [prV, tgV] at cP
      rw [show strB [] = (⟨#[]⟩ : ByteArray) from rfl] at cP
      clear hp
      generalize strB J0 = S0 at *
      generalize strB J3 = S3 at *
      go_enter Tryz.func17, Tryz.ntmps17
      go_wp2_with fail
      refine (c1 _ (Below.refl _ _)).mono ?_
      rintro e w1 ⟨rfl, hb⟩
      have HB := Lib.hid hb
      clear hb c1
      go_wp2_with fail
      refine (cL _).mono ?_
      rintro e w2 ⟨hb, u, rfl, hT⟩
      have HB := Lib.hid (HB.out.trans (hb.mono HB.out.size))
      obtain ⟨uo, uc, rfl, _⟩ := hT
      clear hb cL
      go_wp2_with fail
      refine (c3 _ HB.out).mono ?_
      rintro e w3 ⟨rfl, hb⟩
      have HB := Lib.hid (HB.out.trans (hb.mono HB.out.size))
      clear hb c3
      go_wp2_with fail
      refine (cP _).mono ?_
      rintro e w4 ⟨rfl, hb⟩
      have HB := Lib.hid (HB.out.trans (hb.mono HB.out.size))
      have HB9 := Lib.hid (HB.out.alloc HB.out.size (.cells #[.bool false, .string ⟨#[]⟩] 32))
      clear hb cP
      go_wp2_with fail
      go_loopw [14] (fun i wr => ∃ j : Nat, i = .int .i64 j ∧ j ≤ xs.length ∧ Hid (Below w.heap.size w wr)) (fun i _ => xs.length - (RowKit.intOf i).toNat)
      case atStart => exact ⟨0, rfl, Nat.zero_le _, HB9⟩
      case round =>
        obtain ⟨j, rfl, hj, HB⟩ := hrel
        by_cases hlt : j < xs.length
        · have g0 : (j : Int) < (xs.length : Int) := by omega
          go_wp2_with fail
          go_quiet (fail)
          go_wp2_with fail
          go_roundw
          case rel => exact ⟨j + 1, by go_num, by omega, Lib.hid (HB.out.trans ((below_drewN _ _).mono HB.out.size))⟩
          case measure => simp [RowKit.intOf]; omega
        · obtain rfl : j = xs.length := by omega
          have g0 : ¬ (xs.length : Int) < (xs.length : Int) := by omega
          go_wp2_with fail
          go_ret
          exact ⟨by rw [HV.out]; simp [anyE], HB.out⟩
    | some t =>
      have cK := fun (x : Tg) W => ulike_any x t false W
      rw [hp] at cP HV
      obtain ⟨wk, tx⟩ := t
      simp only [prV, tgV] at cP cK
      have hXX : strB tx = strB tx := rfl
      generalize hX : strB tx = X at *
      clear hp hX hXX
      generalize strB J0 = S0 at *
      generalize strB J3 = S3 at *
      go_enter Tryz.func17, Tryz.ntmps17
      go_wp2_with fail
      refine (c1 _ (Below.refl _ _)).mono ?_
      rintro e w1 ⟨rfl, hb⟩
      have HB := Lib.hid hb
      clear hb c1
      go_wp2_with fail
      refine (cL _).mono ?_
      rintro e w2 ⟨hb, u, rfl, hT⟩
      have HB := Lib.hid (HB.out.trans (hb.mono HB.out.size))
      have HT := Lib.hid hT
      obtain ⟨uo, uc, rfl, _⟩ := hT
      clear hb cL
      go_wp2_with fail
      refine (c3 _ HB.out).mono ?_
      rintro e w3 ⟨rfl, hb⟩
      have HB := Lib.hid (HB.out.trans (hb.mono HB.out.size))
      have HT := Lib.hid (HT.out.below hb)
      clear hb c3
      go_wp2_with fail
      refine (cP _).mono ?_
      rintro e w4 ⟨rfl, hb⟩
      have HB := Lib.hid (HB.out.trans (hb.mono HB.out.size))
      have HT := Lib.hid (HT.out.below hb)
      have hal := (Below.refl w4.heap.size w4).alloc (Nat.le_refl _) (.cells #[.bool wk, .string X] 32)
      have HX := Lib.hid (BoxN.made w4 [.bool wk, .string X] 32)
      have HB := Lib.hid (HB.out.trans (hal.mono HB.out.size))
      have HT := Lib.hid (HT.out.below hal)
      clear hb cP hal
      go_wp2_with fail
      generalize w4.alloc (.cells #[.bool wk, .string X] 32) = U at *
      generalize w4.heap.size = C at *
      obtain ⟨_, _, hs, hcs⟩ := HT.out
      obtain ⟨rfl, _, rfl⟩ := Value.slice.inj hs
      have HCS := Lib.hid hcs
      have HU := Lib.hid (Below.refl U.heap.size U)
      clear hcs hs
      go_loopw [14] (fun i wr => ∃ j : Nat, i = .int .i64 j ∧ j ≤ xs.length ∧ Hid (xs.any (fun x => likE x (wk, tx) false) = (xs.drop j).any (fun x => likE x (wk, tx) false)) ∧ Hid (Below U.heap.size U wr)) (fun i _ => xs.length - (RowKit.intOf i).toNat)
      case atStart => exact ⟨0, rfl, Nat.zero_le _, Lib.hid (by rw [List.drop_zero]), HU⟩
      case round =>
        obtain ⟨j, rfl, hj, HA, HW⟩ := hrel
        by_cases hlt : j < xs.length
        · rcases HCS.out with hnil | ⟨c, off, rfl, _, hcl, hcell⟩
          · exfalso
            rw [hnil] at hlt
            simp at hlt
          obtain ⟨x, hx⟩ : ∃ x, xs[j]? = some x := ⟨_, List.getElem?_eq_getElem hlt⟩
          have hdr : xs.drop j = x :: xs.drop (j + 1) := by
            obtain ⟨h1, h2⟩ := List.getElem?_eq_some_iff.1 hx
            rw [← h2]
            exact List.drop_eq_getElem_cons h1
          obtain ⟨y0, y1⟩ := hcell j x hx
          have HS : Hid (∀ W, Below U.heap.size U W → W.cell? ⟨c, off + j * 2, none⟩ = some (.bool x.1) ∧ W.cell? ⟨c, off + j * 2 + 1, none⟩ = some (.string (strB x.2)) ∧ W.cell? ⟨C, 0, none⟩ = some (.bool wk) ∧ W.cell? ⟨C, 1, none⟩ = some (.string X)) := Lib.hid (fun W hb => ⟨(hb.cell (p := ⟨c, off + j * 2, none⟩) hcl).trans y0, (hb.cell (p := ⟨c, off + j * 2 + 1, none⟩) hcl).trans y1, ((HX.out.next hb).2 0 _ rfl).1, ((HX.out.next hb).2 1 _ rfl).1⟩)
          have g0 : (j : Int) < (xs.length : Int) := by omega
          have j0 : (0 : Int) ≤ (j : Int) := by omega
          have HWd := Lib.hid HW.out.drew
          have cK2 := cK x
          clear hcell y0 y1 hx cK
          cases hk : likE x (wk, tx) false
          · rw [hk] at cK2
            have HA2 : Hid (xs.any (fun x => likE x (wk, tx) false) = (xs.drop (j + 1)).any (fun x => likE x (wk, tx) false)) := Lib.hid (by rw [HA.out, hdr, List.any_cons, hk, Bool.false_or])
            clear hk hdr
            go_wp2_with fail
            go_region_held3 (fun W => W.cell? ⟨c, off + j * 2, none⟩ = some (.bool x.1) ∧ W.cell? ⟨c, off + j * 2 + 1, none⟩ = some (.string (strB x.2)) ∧ W.cell? ⟨C, 0, none⟩ = some (.bool wk) ∧ W.cell? ⟨C, 1, none⟩ = some (.string X))
              (first | exact HS.out _ HW6.out | exact HS.out _ HWd.out | exact HS.out _ HW.out)
              (first | (go_at_call 15; refine (cK2 _).mono ?_; rintro e w6 ⟨rfl, hb6⟩; have HW6 := Lib.hid (HWd.out.trans (hb6.mono HWd.out.size)); clear hb6))
            go_wp2_with fail
            go_roundw
            case rel => exact ⟨j + 1, by go_num, by omega, HA2, HW6⟩
            case measure => simp [RowKit.intOf]; omega
          · rw [hk] at cK2
            have HR : Hid (R = true) := Lib.hid (by
              rw [HV.out]
              show (st || xs.any (fun x => likE x (wk, tx) false)) = true
              rw [HA.out, hdr, List.any_cons, hk, Bool.true_or, Bool.or_true])
            clear hk hdr
            go_wp2_with fail
            go_region_held3 (fun W => W.cell? ⟨c, off + j * 2, none⟩ = some (.bool x.1) ∧ W.cell? ⟨c, off + j * 2 + 1, none⟩ = some (.string (strB x.2)) ∧ W.cell? ⟨C, 0, none⟩ = some (.bool wk) ∧ W.cell? ⟨C, 1, none⟩ = some (.string X))
              (first | exact HS.out _ HW6.out | exact HS.out _ HWd.out | exact HS.out _ HW.out)
              (first | (go_at_call 15; refine (cK2 _).mono ?_; rintro e w6 ⟨rfl, hb6⟩; have HW6 := Lib.hid (HWd.out.trans (hb6.mono HWd.out.size)); clear hb6))
            go_wp2_with fail
            go_ret
            exact ⟨by rw [HR.out] <;> rfl, HB.out.trans (HW6.out.mono HB.out.size)⟩
        · obtain rfl : j = xs.length := by omega
          have g0 : ¬ (xs.length : Int) < (xs.length : Int) := by omega
          have HR : Hid (R = st) := Lib.hid (by
            rw [HV.out]
            show (st || xs.any (fun x => likE x (wk, tx) false)) = st
            rw [HA.out, List.drop_length, List.any_nil, Bool.or_false])
          go_wp2_with fail
          go_ret
          exact ⟨by rw [HR.out] <;> rfl, HB.out.trans (HW.out.mono HB.out.size)⟩

end Go.Proofs.YtclgdmcbbphbcaaGreatDoor

namespace Go.Proofs.YtclgdmcbbphbcaaGreatDoor
open Go.RowKit Go.Lib

def dtE : Option Nat → Option Nat → Bool
  | some n, some m => decide (m ≤ n)
  | _, _ => false

theorem datE_dt (a b : List UInt8) : datE a b = dtE (parL a) (parL b) := by
  unfold datE
  generalize parL a = o1
  generalize parL b = o2
  cases o1 with
  | none => cases o2 <;> rfl
  | some n => cases o2 <;> rfl
theorem held_dt {q p : List Fld} (hn : ¬ 0 < (allH q nInm).length) : heldE q p = (decide (0 < (allH q nIms).length) && (decide (0 < (allH p nLmd).length) && dtE (parL (joinH (allH q nIms))) (parL (joinH (allH p nLmd))))) := by
  rw [heldE, if_neg hn, ← datE_dt]
  generalize datE (joinH (allH q nIms)) (joinH (allH p nLmd)) = D
  by_cases g1 : 0 < (allH q nIms).length
  · by_cases g2 : 0 < (allH p nLmd).length
    · rw [if_pos ⟨g1, g2⟩, decide_eq_true g1, decide_eq_true g2]
      rfl
    · rw [if_neg (fun e => g2 e.2), decide_eq_false g2, decide_eq_true g1]
      rfl
  · rw [if_neg (fun e => g1 e.1), decide_eq_false g1]
    rfl

set_option maxRecDepth 100000 in
set_option maxHeartbeats 8000000 in
theorem uheld_date (lo lo2 : Nat) (v v2 : Value) (q p : List Fld) (w : World) (h : Flds lo w v q) (h2 : Flds lo2 w v2 p) (hk : FldsOk q) (hk2 : FldsOk p) (hj : ∀ n, (joinH (allH q n)).length ≤ 90000) (hj2 : ∀ n, (joinH (allH p n)).length ≤ 90000) (hn : ¬ 0 < (allH q nInm).length) :
    Calls Tryz.prog 17 #[v, v2] w fun e w' => e = .returned (.bool (heldE q p)) ∧ Below w.heap.size w w' := by
  have cG := fun n W (hb : Below w.heap.size w W) => rget_any lo v q n W (h.below hb) hk
  have cG2 := fun n W (hb : Below w.heap.size w W) => rget_any lo2 v2 p n W (h2.below hb) hk2
  have c1 := cG nInm
  have c2 := cG nIms
  have c3 := cG2 nLmd
  have cP := fun W (hb : Below w.heap.size w W) => rparse_any (joinH (allH q nIms)) W (Nat.le_trans (hj nIms) (by decide))
  have cP2 := fun W (hb : Below w.heap.size w W) => rparse_any (joinH (allH p nLmd)) W (Nat.le_trans (hj2 nLmd) (by decide))
  have HV := Lib.hid (held_dt (q := q) (p := p) hn)
  unfold getV at c1 c2 c3
  rw [decide_eq_false hn] at c1
  obtain ⟨ao, cap, rfl, _⟩ := id h
  obtain ⟨bo, bcap, rfl, _⟩ := id h2
  generalize heldE q p = R at *
  generalize parL (joinH (allH q nIms)) = o1 at *
  generalize parL (joinH (allH p nLmd)) = o2 at *
  generalize strB (joinH (allH q nInm)) = S0 at *
  generalize strB (joinH (allH q nIms)) = S1 at *
  generalize strB (joinH (allH p nLmd)) = S2 at *
  generalize decide (0 < (allH q nIms).length) = D1 at *
  generalize decide (0 < (allH p nLmd).length) = D2 at *
  clear cG cG2 h h2 hk hk2 hj hj2 hn
  cases D1 <;> cases D2 <;> cases o1 <;> cases o2
  all_goals
    have HW := Lib.hid HV.out
    clear HV
    unfold secV at cP cP2
    dsimp only at cP cP2
    go_enter Tryz.func17, Tryz.ntmps17
    go_wp2_with fail
    refine (c1 _ (Below.refl _ _)).mono ?_
    rintro e w1 ⟨rfl, hb⟩
    have HB := Lib.hid hb
    clear hb c1
    go_wp2_with fail
    refine (c2 _ HB.out).mono ?_
    rintro e w2 ⟨rfl, hb⟩
    have HB := Lib.hid (HB.out.trans (hb.mono HB.out.size))
    clear hb c2
    go_wp2_with fail
    refine (c3 _ HB.out).mono ?_
    rintro e w3 ⟨rfl, hb⟩
    have HB := Lib.hid (HB.out.trans (hb.mono HB.out.size))
    clear hb c3
    go_wp2_with fail
    refine (cP _ HB.out).mono ?_
    rintro e w4 ⟨rfl, hb⟩
    have HB := Lib.hid (HB.out.trans (hb.mono HB.out.size))
    clear hb cP
    go_wp2_with fail
    refine (cP2 _ HB.out).mono ?_
    rintro e w5 ⟨rfl, hb⟩
    have HB := Lib.hid (HB.out.trans (hb.mono HB.out.size))
    clear hb cP2
    go_wp2_with fail
    go_ret
    refine ⟨?_, HB.out⟩
    rw [HW.out]
    first | rfl | (simp [dtE])

end Go.Proofs.YtclgdmcbbphbcaaGreatDoor

namespace Go.Proofs.YtclgdmcbbphbcaaGreatDoor
open Go.RowKit Go.Lib

theorem uheld_any (lo lo2 : Nat) (v v2 : Value) (q p : List Fld) (w : World) (h : Flds lo w v q) (h2 : Flds lo2 w v2 p) (hk : FldsOk q) (hk2 : FldsOk p) (hj : ∀ n, (joinH (allH q n)).length ≤ 90000) (hj2 : ∀ n, (joinH (allH p n)).length ≤ 90000) :
    Calls Tryz.prog 17 #[v, v2] w fun e w' => e = .returned (.bool (heldE q p)) ∧ Below w.heap.size w w' := by
  by_cases hn : 0 < (allH q nInm).length
  · exact uheld_tag lo lo2 v v2 q p w h h2 hk hk2 hj hj2 hn
  · exact uheld_date lo lo2 v v2 q p w h h2 hk hk2 hj hj2 hn

end Go.Proofs.YtclgdmcbbphbcaaGreatDoor
