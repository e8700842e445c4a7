/- The contracts of slices.Equal at parameters and of item.Same. · The contract of the document's SameParams (sculleryref03). · The contracts of the document's own functions (sculleryref03): first, later. · The contracts of the document's ReadKey and Key (sculleryref03). · What stays of cells and rows where a row grows: for walks that own items. -/
import Derived.Test.YtjbipplaacgnkaaGreatDoorGG
import Derived.Test.YtjbipplaacgnkaaGreatDoorGE
import Derived.Test.YtjbipplaacgnkaaGreatDoorGI
import Derived.Test.YtjbipplaacgnkaaGreatDoorGF
import Derived.Deep.RegionLaw
import Derived.Deep.AppendLies

namespace Go.Proofs.YtjbipplaacgnkaaGreatDoor
open Go.RowKit

/-- Whether two parameters are the same. -/
def sameP (p q : Prm) : Bool := ((strB p.key).toList == (strB q.key).toList) && (p.k == q.k && (p.n == q.n && ((strB p.s).toList == (strB q.s).toList)))
theorem sameP_iff (p q : Prm) : sameP p q = true ↔ p = q := by
  obtain ⟨a, b, c, d⟩ := p
  obtain ⟨a', b', c', d'⟩ := q
  simp only [sameP, Lib.toList_data, strB_data, Bool.and_eq_true, beq_iff_eq, Prm.mk.injEq]

def samePs (ps qs : List Prm) : Bool := ps.length == qs.length && (ps.zip qs).all fun x => sameP x.1 x.2
theorem samePs_iff : ∀ (ps qs : List Prm), samePs ps qs = true ↔ ps = qs
  | [], [] => by simp [samePs]
  | [], _ :: _ => by simp [samePs]
  | _ :: _, [] => by simp [samePs]
  | p :: ps, q :: qs => by
    have ih := samePs_iff ps qs
    simp only [samePs, List.length_cons, List.zip_cons_cons, List.all_cons, Bool.and_eq_true, beq_iff_eq] at ih ⊢
    rw [List.cons.injEq, ← sameP_iff, ← ih]
    constructor
    · rintro ⟨h1, h2, h3⟩
      exact ⟨h2, by omega, h3⟩
    · rintro ⟨h1, h2, h3⟩
      exact ⟨by omega, h1, h3⟩

theorem samePs_len (ps qs : List Prm) (h : ps.length ≠ qs.length) : samePs ps qs = false := by
  cases hs : samePs ps qs
  · rfl
  · exact absurd (congrArg List.length ((samePs_iff _ _).1 hs)) h
theorem samePs_at (ps qs : List Prm) (j : Nat) (p q : Prm) (h1 : ps[j]? = some p) (h2 : qs[j]? = some q) (h : sameP p q = false) : samePs ps qs = false := by
  cases hs : samePs ps qs
  · rfl
  · have := (samePs_iff _ _).1 hs
    subst this
    rw [h1] at h2
    obtain rfl := Option.some.inj h2
    rw [(sameP_iff p p).2 rfl] at h; cases h
theorem samePs_all (ps qs : List Prm) (hl : ps.length = qs.length) (h : ∀ j, j < ps.length → ps[j]? = qs[j]?) : samePs ps qs = true := by
  rw [samePs_iff]
  apply List.ext_getElem?
  intro j
  by_cases hj : j < ps.length
  · exact h j hj
  · rw [List.getElem?_eq_none (by omega), List.getElem?_eq_none (by omega)]

set_option maxRecDepth 100000 in
set_option maxHeartbeats 2000000 in
theorem equal_any (v1 v2 : Value) (ps qs : List Prm) (w : World) (h1 : Prms w v1 ps) (h2 : Prms w v2 qs) (hl1 : ps.length ≤ 100000) (_ : qs.length ≤ 100000) :
    Calls Tryz.prog 46 #[v1, v2] w fun e w' => e = .returned (.bool (samePs ps qs)) ∧ Below w.heap.size w w' := by
  obtain ⟨ao1, cap1, rfl, hc1⟩ := h1
  obtain ⟨ao2, cap2, rfl, hc2⟩ := h2
  have HC1 := Lib.hid hc1
  have HC2 := Lib.hid hc2
  clear hc1 hc2
  by_cases hll : ps.length = qs.length
  · have HL := Lib.hid hll
    rw [← hll]
    clear hll
    go_enter Tryz.func46, Tryz.ntmps46
    go_wp2_with fail
    go_loopw [13] (fun i wr => ∃ j : Nat, i = .int .i64 j ∧ j ≤ ps.length ∧ Hid (∀ m, m < j → ps[m]? = qs[m]?) ∧ Below w.heap.size w wr) (fun i _ => ps.length - (intOf i).toNat)
    case atStart => exact ⟨0, rfl, Nat.zero_le _, Lib.hid (fun m h => absurd h (by omega)), Below.refl _ _⟩
    case round =>
      obtain ⟨j, rfl, hj, H, hb⟩ := hrel
      have HB := Lib.hid hb
      by_cases hlt : j < ps.length
      · rcases HC1.out with hnil | ⟨c, off, rfl, hcell⟩
        · exfalso
          rw [hnil] at hlt
          simp at hlt
        · rcases HC2.out with hnil2 | ⟨d, off2, rfl, hcell2⟩
          · exfalso
            have h0 := HL.out
            rw [hnil2, List.length_nil] at h0
            omega
          · obtain ⟨p, hp⟩ : ∃ p, ps[j]? = some p := ⟨_, List.getElem?_eq_getElem hlt⟩
            obtain ⟨q, hq⟩ : ∃ q, qs[j]? = some q := ⟨_, List.getElem?_eq_getElem (by have := HL.out; omega)⟩
            obtain ⟨x0, x1, x2, x3⟩ := rowP_at ps j p hp
            obtain ⟨y0, y1, y2, y3⟩ := rowP_at qs j q hq
            have hcl : c < w.heap.size := lt_of_cell (hcell _ _ x0)
            have hdl : d < w.heap.size := lt_of_cell (hcell2 _ _ y0)
            have a0 := (hb.cell (p := ⟨c, off + j * 4, none⟩) hcl).trans (hcell _ _ x0)
            have a1 := (hb.cell (p := ⟨c, off + (j * 4 + 1), none⟩) hcl).trans (hcell _ _ x1)
            have a2 := (hb.cell (p := ⟨c, off + (j * 4 + 2), none⟩) hcl).trans (hcell _ _ x2)
            have a3 := (hb.cell (p := ⟨c, off + (j * 4 + 3), none⟩) hcl).trans (hcell _ _ x3)
            have b0 := (hb.cell (p := ⟨d, off2 + j * 4, none⟩) hdl).trans (hcell2 _ _ y0)
            have b1 := (hb.cell (p := ⟨d, off2 + (j * 4 + 1), none⟩) hdl).trans (hcell2 _ _ y1)
            have b2 := (hb.cell (p := ⟨d, off2 + (j * 4 + 2), none⟩) hdl).trans (hcell2 _ _ y2)
            have b3 := (hb.cell (p := ⟨d, off2 + (j * 4 + 3), none⟩) hdl).trans (hcell2 _ _ y3)
            simp only [← Nat.add_assoc] at a1 a2 a3 b1 b2 b3
            have jI : (j : Int) < (ps.length : Int) := by omega
            have j0 : (0 : Int) ≤ (j : Int) := by omega
            clear hcell hcell2 x0 x1 x2 x3 y0 y1 y2 y3 hb
            by_cases hpq : p = q
            · subst hpq
              have Hn : Hid (∀ m, m < j + 1 → ps[m]? = qs[m]?) := Lib.hid (fun m hm => by
                by_cases e : m = j
                · subst e; rw [hp, hq]
                · exact H.out m (by omega))
              clear hp hq H
              generalize strB p.key = K at *
              generalize strB p.s = S at *
              go_wp2_with fail
              go_quiet (fail)
              go_wp2_with fail
              go_roundw
              case rel => exact ⟨j + 1, by go_num, by omega, Lib.hid Hn.out, HB.out.trans ((below_drewN _ _).mono HB.out.size)⟩
              case measure => simp [intOf]; omega
            · have hs : sameP p q = false := by
                cases hs : sameP p q
                · rfl
                · exact absurd ((sameP_iff p q).1 hs) hpq
              have HS : Hid (samePs ps qs = false) := Lib.hid (samePs_at ps qs j p q hp hq hs)
              rw [sameP] at hs
              clear hpq hp hq H
              go_wp2_with fail
              cases g1 : ((strB p.key).toList == (strB q.key).toList)
              · go_quiet (fail)
                go_wp2_with fail
                go_ret
                exact ⟨ret_eq (bool_eq HS.out.symm), HB.out.trans ((below_drewN _ _).mono HB.out.size)⟩
              · cases g2 : (p.k == q.k)
                · go_quiet (fail)
                  go_wp2_with fail
                  go_ret
                  exact ⟨ret_eq (bool_eq HS.out.symm), HB.out.trans ((below_drewN _ _).mono HB.out.size)⟩
                · cases g3 : (p.n == q.n)
                  · go_quiet (fail)
                    go_wp2_with fail
                    go_ret
                    exact ⟨ret_eq (bool_eq HS.out.symm), HB.out.trans ((below_drewN _ _).mono HB.out.size)⟩
                  · have g4 : ((strB p.s).toList == (strB q.s).toList) = false := by
                      rw [g1, g2, g3] at hs; simpa using hs
                    go_quiet (fail)
                    go_wp2_with fail
                    go_ret
                    exact ⟨ret_eq (bool_eq HS.out.symm), HB.out.trans ((below_drewN _ _).mono HB.out.size)⟩
      · obtain rfl : j = ps.length := by omega
        have HS : Hid (samePs ps qs = true) := Lib.hid (samePs_all ps qs HL.out (fun m hm => H.out m hm))
        clear H hb
        go_wp2_with fail
        go_ret
        exact ⟨ret_eq (bool_eq HS.out.symm), HB.out⟩
  · have HS : Hid (samePs ps qs = false) := Lib.hid (samePs_len ps qs hll)
    have n1 : ((ps.length : Int) != (qs.length : Int)) = true := by simp; omega
    clear hll
    go_enter Tryz.func46, Tryz.ntmps46
    go_wp2_with fail
    go_ret
    exact ⟨ret_eq (bool_eq HS.out.symm), Below.refl _ _⟩

end Go.Proofs.YtjbipplaacgnkaaGreatDoor

namespace Go.Proofs.YtjbipplaacgnkaaGreatDoor
open Go.RowKit

set_option maxRecDepth 100000 in
set_option maxHeartbeats 2000000 in
theorem rsameParams_any (v1 v2 : Value) (ps qs : List Prm) (w : World) (h1 : Prms w v1 ps) (h2 : Prms w v2 qs) (hl1 : ps.length ≤ 100000) (_ : qs.length ≤ 100000) :
    Calls Tryz.prog 33 #[v1, v2] w fun e w' => e = .returned (.bool (samePs ps qs)) ∧ Below w.heap.size w w' := by
  obtain ⟨ao1, cap1, rfl, hc1⟩ := h1
  obtain ⟨ao2, cap2, rfl, hc2⟩ := h2
  have HC1 := Lib.hid hc1
  have HC2 := Lib.hid hc2
  clear hc1 hc2
  by_cases hll : ps.length = qs.length
  · have HL := Lib.hid hll
    rw [← hll]
    clear hll
    go_enter Tryz.func33, Tryz.ntmps33
    go_wp2_with fail
    go_loopw [5] (fun i wr => ∃ j : Nat, i = .int .i64 j ∧ j ≤ ps.length ∧ Hid (∀ m, m < j → ps[m]? = qs[m]?) ∧ Below w.heap.size w wr) (fun i _ => ps.length - (intOf i).toNat)
    case atStart => exact ⟨0, rfl, Nat.zero_le _, Lib.hid (fun m h => absurd h (by omega)), Below.refl _ _⟩
    case round =>
      obtain ⟨j, rfl, hj, H, hb⟩ := hrel
      have HB := Lib.hid hb
      by_cases hlt : j < ps.length
      · rcases HC1.out with hnil | ⟨c, off, rfl, hcell⟩
        · exfalso
          rw [hnil] at hlt
          simp at hlt
        · rcases HC2.out with hnil2 | ⟨d, off2, rfl, hcell2⟩
          · exfalso
            have h0 := HL.out
            rw [hnil2, List.length_nil] at h0
            omega
          · obtain ⟨p, hp⟩ : ∃ p, ps[j]? = some p := ⟨_, List.getElem?_eq_getElem hlt⟩
            obtain ⟨q, hq⟩ : ∃ q, qs[j]? = some q := ⟨_, List.getElem?_eq_getElem (by have := HL.out; omega)⟩
            obtain ⟨x0, x1, x2, x3⟩ := rowP_at ps j p hp
            obtain ⟨y0, y1, y2, y3⟩ := rowP_at qs j q hq
            have hcl : c < w.heap.size := lt_of_cell (hcell _ _ x0)
            have hdl : d < w.heap.size := lt_of_cell (hcell2 _ _ y0)
            have a0 := (hb.cell (p := ⟨c, off + j * 4, none⟩) hcl).trans (hcell _ _ x0)
            have a1 := (hb.cell (p := ⟨c, off + (j * 4 + 1), none⟩) hcl).trans (hcell _ _ x1)
            have a2 := (hb.cell (p := ⟨c, off + (j * 4 + 2), none⟩) hcl).trans (hcell _ _ x2)
            have a3 := (hb.cell (p := ⟨c, off + (j * 4 + 3), none⟩) hcl).trans (hcell _ _ x3)
            have b0 := (hb.cell (p := ⟨d, off2 + j * 4, none⟩) hdl).trans (hcell2 _ _ y0)
            have b1 := (hb.cell (p := ⟨d, off2 + (j * 4 + 1), none⟩) hdl).trans (hcell2 _ _ y1)
            have b2 := (hb.cell (p := ⟨d, off2 + (j * 4 + 2), none⟩) hdl).trans (hcell2 _ _ y2)
            have b3 := (hb.cell (p := ⟨d, off2 + (j * 4 + 3), none⟩) hdl).trans (hcell2 _ _ y3)
            simp only [← Nat.add_assoc] at a1 a2 a3 b1 b2 b3
            have jI : (j : Int) < (ps.length : Int) := by omega
            have j0 : (0 : Int) ≤ (j : Int) := by omega
            clear hcell hcell2 x0 x1 x2 x3 y0 y1 y2 y3 hb
            by_cases hpq : p = q
            · subst hpq
              have Hn : Hid (∀ m, m < j + 1 → ps[m]? = qs[m]?) := Lib.hid (fun m hm => by
                by_cases e : m = j
                · subst e; rw [hp, hq]
                · exact H.out m (by omega))
              clear hp hq H
              generalize strB p.key = K at *
              generalize strB p.s = S at *
              go_wp2_with fail
              go_quiet (fail)
              go_wp2_with fail
              go_roundw
              case rel => exact ⟨j + 1, by go_num, by omega, Lib.hid Hn.out, HB.out.trans ((below_drewN _ _).mono HB.out.size)⟩
              case measure => simp [intOf]; omega
            · have hs : sameP p q = false := by
                cases hs : sameP p q
                · rfl
                · exact absurd ((sameP_iff p q).1 hs) hpq
              have HS : Hid (samePs ps qs = false) := Lib.hid (samePs_at ps qs j p q hp hq hs)
              rw [sameP] at hs
              clear hpq hp hq H
              go_wp2_with fail
              cases g1 : ((strB p.key).toList == (strB q.key).toList)
              · go_quiet (fail)
                go_wp2_with fail
                go_ret
                exact ⟨ret_eq (bool_eq HS.out.symm), HB.out.trans ((below_drewN _ _).mono HB.out.size)⟩
              · cases g2 : (p.k == q.k)
                · go_quiet (fail)
                  go_wp2_with fail
                  go_ret
                  exact ⟨ret_eq (bool_eq HS.out.symm), HB.out.trans ((below_drewN _ _).mono HB.out.size)⟩
                · cases g3 : (p.n == q.n)
                  · go_quiet (fail)
                    go_wp2_with fail
                    go_ret
                    exact ⟨ret_eq (bool_eq HS.out.symm), HB.out.trans ((below_drewN _ _).mono HB.out.size)⟩
                  · have g4 : ((strB p.s).toList == (strB q.s).toList) = false := by
                      rw [g1, g2, g3] at hs; simpa using hs
                    go_quiet (fail)
                    go_wp2_with fail
                    go_ret
                    exact ⟨ret_eq (bool_eq HS.out.symm), HB.out.trans ((below_drewN _ _).mono HB.out.size)⟩
      · obtain rfl : j = ps.length := by omega
        have HS : Hid (samePs ps qs = true) := Lib.hid (samePs_all ps qs HL.out (fun m hm => H.out m hm))
        clear H hb
        go_wp2_with fail
        go_ret
        exact ⟨ret_eq (bool_eq HS.out.symm), HB.out⟩
  · have HS : Hid (samePs ps qs = false) := Lib.hid (samePs_len ps qs hll)
    have n1 : ((ps.length : Int) != (qs.length : Int)) = true := by simp; omega
    clear hll
    go_enter Tryz.func33, Tryz.ntmps33
    go_wp2_with fail
    go_ret
    exact ⟨ret_eq (bool_eq HS.out.symm), Below.refl _ _⟩

end Go.Proofs.YtjbipplaacgnkaaGreatDoor

namespace Go.Proofs.YtjbipplaacgnkaaGreatDoor
open Go.RowKit

set_option maxHeartbeats 400000 in
theorem rfirst_any (c : Int) (w : World) :
    Calls Tryz.prog 85 #[.int .u8 c] w fun e w' => e = .returned (.bool (bkI c)) ∧ w = w' := by
  have hd : bkI c = ((decide (97 ≤ c) && decide (c ≤ 122)) || c == 42) := rfl
  cases h1 : decide (97 ≤ c) <;> cases h2 : decide (c ≤ 122) <;> cases h3 : (c == 42)
  all_goals
    first
    | (exfalso; simp only [decide_eq_true_eq, decide_eq_false_iff_not, beq_iff_eq] at h1 h2 h3; omega)
    | (rw [h1, h2, h3] at hd
       simp only [Bool.and_true, Bool.and_false, Bool.or_true, Bool.or_false] at hd
       rw [hd]
       clear hd
       go_enter Tryz.func85, Tryz.ntmps85
       go_wp2
       go_ret
       exact ⟨rfl, rfl⟩)

set_option maxHeartbeats 1000000 in
theorem rlater_any (c : Int) (w : World) :
    Calls Tryz.prog 86 #[.int .u8 c] w fun e w' => e = .returned (.bool (ikI c)) ∧ w = w' := by
  have cB := rfirst_any c w
  have hd : ikI c = (bkI c || (decide (48 ≤ c) && decide (c ≤ 57)) || c == 95 || c == 45 || c == 46) := rfl
  rw [hd]
  clear hd
  generalize bkI c = b at *
  cases b
  · cases h1 : decide (48 ≤ c) <;> cases h2 : decide (c ≤ 57) <;> cases h3 : (c == 95) <;> cases h4 : (c == 45) <;> cases h5 : (c == 46)
    all_goals
      first
      | (exfalso; simp only [decide_eq_true_eq, decide_eq_false_iff_not, beq_iff_eq] at h1 h2 h3 h4 h5; omega)
      | (go_enter Tryz.func86, Tryz.ntmps86
         go_wp2_with (go_at_call 85; refine cB.mono ?_; rintro e w' ⟨rfl, rfl⟩)
         go_ret
         exact ⟨rfl, rfl⟩)
  · go_enter Tryz.func86, Tryz.ntmps86
    go_wp2_with (go_at_call 85; refine cB.mono ?_; rintro e w' ⟨rfl, rfl⟩)
    go_ret
    exact ⟨by simp, rfl⟩

end Go.Proofs.YtjbipplaacgnkaaGreatDoor

namespace Go.Proofs.YtjbipplaacgnkaaGreatDoor
open Go.RowKit

theorem rkV_at (s : ByteArray) (k : Nat) (h : klen s.data.toList = k) (hk : 1 ≤ k) : rkV s.data.toList = .tuple #[.string (s.extract 0 k), .int .i64 (k : Int), .int .i64 0] := by
  rw [rkV, if_neg (by omega), h, ← extract_take, strB_of]
theorem rkV_zero (l : List UInt8) (h : klen l = 0) : rkV l = .tuple #[.string ⟨#[]⟩, .int .i64 0, .int .i64 2] := by rw [rkV, if_pos h]

set_option maxHeartbeats 1000000 in
theorem rreadKey_any (s : ByteArray) (w : World) (hs : s.size ≤ maxLen) :
    Calls Tryz.prog 67 #[.string s] w (rkPost (rkV s.data.toList) w) := by
  unfold maxLen at hs
  by_cases h0 : 0 < s.size
  · have hemp : s.toList.isEmpty = false := by rw [Lib.toList_data]; exact isEmpty_false_of s h0
    have cB := rfirst_any ((s[0]'h0).toNat : Int) w
    have Hdr := Lib.hid (drop_cons_at s 0 h0)
    cases hb : bkI ((s[0]'h0).toNat : Int)
    · have Hz : Hid (klen s.data.toList = 0) := Lib.hid (by
        have := Hdr.out
        rw [List.drop_zero] at this
        rw [this, klen, hb]; rfl)
      rw [hb] at cB
      clear hb
      rw [rkV_zero _ Hz.out]
      go_enter Tryz.func67, Tryz.ntmps67
      go_wp2_with (go_at_call 85; refine cB.mono ?_; rintro e w' ⟨rfl, rfl⟩)
      exact bodyPost_ret (v := .tuple #[.string ⟨#[]⟩, .int .i64 0, .int .i64 2]) (by simp [results, Tryz.results67, go_sem]) rfl ⟨rfl, rfl⟩
    · have Hz : Hid (klen s.data.toList = 1 + ((s.data.toList.drop 1).takeWhile (fun c => ikI c.toNat)).length) := Lib.hid (by
        have := Hdr.out
        rw [List.drop_zero] at this
        rw [this, klen, hb]; rfl)
      rw [hb] at cB
      have HV := Lib.hid (fun k => rkV_at s k)
      generalize rkV s.data.toList = V at *
      clear hb Hdr
      go_enter Tryz.func67, Tryz.ntmps67
      go_wp2_with (go_at_call 85; refine cB.mono ?_; rintro e w' ⟨rfl, rfl⟩)
      go_loop [5] (fun i => ∃ k : Nat, 1 ≤ k ∧ k ≤ s.size ∧ i = .int .i64 k ∧ Hid (klen s.data.toList = k + ((s.data.toList.drop k).takeWhile (fun c => ikI c.toNat)).length)) (fun i => s.size - (intOf i).toNat)
      case atStart => exact ⟨1, by omega, by omega, rfl, Hz⟩
      case round =>
        clear Hz cB
        obtain ⟨k, hk1, hk, rfl, H⟩ := hrel
        by_cases hlt : k < s.size
        · have Hdr := Lib.hid (drop_cons_at s k hlt)
          have cT := rlater_any ((s[k]'hlt).toNat : Int) w
          cases hd : ikI (s[k].toNat : Int)
          · have Hf := Lib.hid hd
            rw [hd] at cT
            clear hd
            go_wp2_with (go_at_call 86; refine cT.mono ?_; rintro e w' ⟨rfl, rfl⟩)
            refine bodyPost_ret (v := .tuple #[.string (s.extract 0 k), .int .i64 (k : Int), .int .i64 0]) (by simp [results, Tryz.results67, go_sem]) rfl ⟨?_, rfl⟩
            rw [HV.out k (by rw [H.out, Hdr.out, List.takeWhile_cons, Hf.out]; simp) hk1]
          · have Hf := Lib.hid hd
            rw [hd] at cT
            clear hd
            go_wp2_with (go_at_call 86; refine cT.mono ?_; rintro e w' ⟨rfl, rfl⟩)
            go_round
            case rel => exact ⟨k + 1, by omega, by omega, by go_num, Lib.hid (by rw [H.out, Hdr.out, List.takeWhile_cons, Hf.out]; simp; omega)⟩
            case measure => simp [intOf]; omega
        · obtain rfl : k = s.size := by omega
          have Hd : Hid (s.data.toList.drop s.size = []) := Lib.hid (List.drop_of_length_le (by rw [← Lib.size_eq]; omega))
          go_wp2
          refine bodyPost_ret (v := .tuple #[.string (s.extract 0 s.size), .int .i64 (s.size : Int), .int .i64 0]) (by simp [results, Tryz.results67, go_sem]) rfl ⟨?_, rfl⟩
          rw [HV.out _ (by rw [H.out, Hd.out]; simp) hk1]
  · have he : s.data.toList = [] := List.eq_nil_of_length_eq_zero (by rw [← Lib.size_eq]; omega)
    have hemp : s.toList.isEmpty = true := by rw [Lib.toList_data, he]; rfl
    rw [rkV_zero _ (by rw [he]; rfl)]
    clear he
    go_enter Tryz.func67, Tryz.ntmps67
    go_wp2
    exact bodyPost_ret (v := .tuple #[.string ⟨#[]⟩, .int .i64 0, .int .i64 2]) (by simp [results, Tryz.results67, go_sem]) rfl ⟨rfl, rfl⟩

set_option maxHeartbeats 1000000 in
theorem rkey_any (s : ByteArray) (w : World) (hs : s.size ≤ maxLen) :
    Calls Tryz.prog 42 #[.string s] w fun e w' => e = .returned (.bool (keyL s.data.toList)) ∧ w = w' := by
  have cK := fun W => rreadKey_any s W hs
  unfold maxLen at hs
  have hn := klen_le s.data.toList
  rw [← Lib.size_eq] at hn
  by_cases h0 : klen s.data.toList = 0
  · have Hk : Hid (keyL s.data.toList = false) := Lib.hid (by
      rw [keyL, h0]
      cases hl : s.data.toList with
      | nil => rfl
      | cons c r => rfl)
    rw [rkV_zero _ h0] at cK
    clear h0 hn
    go_enter Tryz.func42, Tryz.ntmps42
    go_wp2_with (go_at_call 67; refine (cK _).mono ?_; rintro e w' ⟨rfl, rfl⟩)
    go_ret
    exact ⟨ret_eq (bool_eq (by rw [Hk.out])), rfl⟩
  · have Hk : Hid (keyL s.data.toList = ((klen s.data.toList : Int) == (s.size : Int))) := Lib.hid (by
      have hne : s.data.toList.isEmpty = false := by
        cases hl : s.data.toList with
        | nil => rw [hl] at h0; exact absurd rfl h0
        | cons c r => rfl
      rw [keyL, hne, Lib.size_eq, Bool.eq_iff_iff]
      simp
      omega)
    rw [rkV_at s _ rfl (by omega)] at cK
    generalize keyL s.data.toList = K at *
    generalize klen s.data.toList = n at *
    go_enter Tryz.func42, Tryz.ntmps42
    go_wp2_with (go_at_call 67; refine (cK _).mono ?_; rintro e w' ⟨rfl, rfl⟩)
    go_ret
    exact ⟨ret_eq (bool_eq (by rw [Hk.out])), rfl⟩

end Go.Proofs.YtjbipplaacgnkaaGreatDoor

namespace Go.Proofs.YtjbipplaacgnkaaGreatDoor
open Go.RowKit Go.Maps

theorem info_rparam : (Tryz.prog.info? 116).map (fun i => (i.zero, i.size, i.bytes)) = some (some (.agg #[.string ⟨#[]⟩, .int .i64 0, .int .i64 0, .string ⟨#[]⟩]), 4, 48) := by kernel_rfl

theorem cell_later {w : World} {b i : Nat} {v : Value} (o : Obj) (h : w.cell? ⟨b, i, none⟩ = some v) : (w.alloc o).cell? ⟨b, i, none⟩ = some v :=
  (((Below.refl w.heap.size w).alloc (Nat.le_refl _) o).cell (p := ⟨b, i, none⟩) (lt_of_cell h)).trans h
theorem frozen_later {w : World} {b i : Nat} (o : Obj) (hb : b < w.heap.size) (h : w.frozen? ⟨b, i, none⟩ = false) : (w.alloc o).frozen? ⟨b, i, none⟩ = false :=
  (((Below.refl w.heap.size w).alloc (Nat.le_refl _) o).frozen (p := ⟨b, i, none⟩) hb).trans h
theorem ResI.later {w : World} {c : Nat} (o : Obj) (h : ResI w c) : ResI (w.alloc o) c :=
  ⟨cell_later o h.r0, cell_later o h.r1, cell_later o h.r2, cell_later o h.r3, frozen_later o h.lt h.g0, frozen_later o h.lt h.g1, frozen_later o h.lt h.g2, frozen_later o h.lt h.g3⟩
theorem made4 (w : World) (a b c d : Value) (T : TypeId) (z : Nat) (h : w.heap.size = z) : ((w.alloc (.cells #[a, b, c, d] T)).cell? ⟨z, 0, none⟩ = some a ∧ (w.alloc (.cells #[a, b, c, d] T)).cell? ⟨z, 1, none⟩ = some b ∧ (w.alloc (.cells #[a, b, c, d] T)).cell? ⟨z, 2, none⟩ = some c ∧ (w.alloc (.cells #[a, b, c, d] T)).cell? ⟨z, 3, none⟩ = some d) ∧ (w.alloc (.cells #[a, b, c, d] T)).frozen? ⟨z, 0, none⟩ = false ∧ (w.alloc (.cells #[a, b, c, d] T)).frozen? ⟨z, 1, none⟩ = false ∧ (w.alloc (.cells #[a, b, c, d] T)).frozen? ⟨z, 2, none⟩ = false ∧ (w.alloc (.cells #[a, b, c, d] T)).frozen? ⟨z, 3, none⟩ = false := by
  subst h
  exact ⟨⟨by simp, by simp, by simp, by simp⟩, by simp, by simp, by simp, by simp⟩

theorem kept_cell {wr w5 : World} {o : Obj} {base j size c i : Nat} {e : TypeId} {v u : Value} {xs : List Value} (HO : wr.ownsRow base e size v j xs) (hg : (wr.drew.alloc o).grownBy w5 v.ownBlock) (hc : c < base) (h : wr.cell? ⟨c, i, none⟩ = some u) : w5.cell? ⟨c, i, none⟩ = some u := by
  have hb := ((Below.refl wr.heap.size wr).drew).alloc (Nat.le_refl _) o
  have h2 := (hb.cell (p := ⟨c, i, none⟩) (lt_of_cell h)).trans h
  exact (grown_cell hg (lt_of_cell h2) (own_ne HO hc) i).trans h2
theorem kept_frozen {wr w5 : World} {o : Obj} {base j size c i : Nat} {e : TypeId} {v : Value} {xs : List Value} (HO : wr.ownsRow base e size v j xs) (hg : (wr.drew.alloc o).grownBy w5 v.ownBlock) (hc : c < base) (hl : c < wr.heap.size) (h : wr.frozen? ⟨c, i, none⟩ = false) : w5.frozen? ⟨c, i, none⟩ = false := by
  have hb := ((Below.refl wr.heap.size wr).drew).alloc (Nat.le_refl _) o
  have h2 := (hb.frozen (p := ⟨c, i, none⟩) hl).trans h
  exact (hg.frozen_far ⟨c, i, none⟩ (Nat.lt_of_lt_of_le hl hb.size) (own_ne HO hc)).trans h2

end Go.Proofs.YtjbipplaacgnkaaGreatDoor
