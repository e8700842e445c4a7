/- The contracts of slices.Equal at parameters and of item.Same. -/
import Derived.Test.YtcjnigmklijjiaaDoorItmJ
namespace Go.Proofs.YtcjnigmklijjiaaDoor
open Go.RowKit

/-- Whether two parameters are the same. -/
def sameP (p q : Prm) : Bool := ((strB p.key).toList == (strB q.key).toList) && (p.k == q.k && (p.n == q.n && ((strB p.s).toList == (strB q.s).toList)))
theorem sameP_iff (p q : Prm) : sameP p q = true ↔ p = q := by
  obtain ⟨a, b, c, d⟩ := p
  obtain ⟨a', b', c', d'⟩ := q
  simp only [sameP, Lib.toList_data, strB_data, Bool.and_eq_true, beq_iff_eq, Prm.mk.injEq]

def samePs (ps qs : List Prm) : Bool := ps.length == qs.length && (ps.zip qs).all fun x => sameP x.1 x.2
theorem samePs_iff : ∀ (ps qs : List Prm), samePs ps qs = true ↔ ps = qs
  | [], [] => by simp [samePs]
  | [], _ :: _ => by simp [samePs]
  | _ :: _, [] => by simp [samePs]
  | p :: ps, q :: qs => by
    have ih := samePs_iff ps qs
    simp only [samePs, List.length_cons, List.zip_cons_cons, List.all_cons, Bool.and_eq_true, beq_iff_eq] at ih ⊢
    rw [List.cons.injEq, ← sameP_iff, ← ih]
    constructor
    · rintro ⟨h1, h2, h3⟩
      exact ⟨h2, by omega, h3⟩
    · rintro ⟨h1, h2, h3⟩
      exact ⟨by omega, h1, h3⟩

theorem samePs_len (ps qs : List Prm) (h : ps.length ≠ qs.length) : samePs ps qs = false := by
  cases hs : samePs ps qs
  · rfl
  · exact absurd (congrArg List.length ((samePs_iff _ _).1 hs)) h
theorem samePs_at (ps qs : List Prm) (j : Nat) (p q : Prm) (h1 : ps[j]? = some p) (h2 : qs[j]? = some q) (h : sameP p q = false) : samePs ps qs = false := by
  cases hs : samePs ps qs
  · rfl
  · have := (samePs_iff _ _).1 hs
    subst this
    rw [h1] at h2
    obtain rfl := Option.some.inj h2
    rw [(sameP_iff p p).2 rfl] at h; cases h
theorem samePs_all (ps qs : List Prm) (hl : ps.length = qs.length) (h : ∀ j, j < ps.length → ps[j]? = qs[j]?) : samePs ps qs = true := by
  rw [samePs_iff]
  apply List.ext_getElem?
  intro j
  by_cases hj : j < ps.length
  · exact h j hj
  · rw [List.getElem?_eq_none (by omega), List.getElem?_eq_none (by omega)]

set_option maxRecDepth 100000 in
set_option maxHeartbeats 2000000 in
theorem equal_any (v1 v2 : Value) (ps qs : List Prm) (w : World) (h1 : Prms w v1 ps) (h2 : Prms w v2 qs) (hl1 : ps.length ≤ 100000) (hl2 : qs.length ≤ 100000) :
    Calls Tryd.prog 18 #[v1, v2] w fun e w' => e = .returned (.bool (samePs ps qs)) ∧ Below w.heap.size w w' := by
  obtain ⟨ao1, cap1, rfl, hc1⟩ := h1
  obtain ⟨ao2, cap2, rfl, hc2⟩ := h2
  have HC1 := Lib.hid hc1
  have HC2 := Lib.hid hc2
  clear hc1 hc2
  by_cases hll : ps.length = qs.length
  · have HL := Lib.hid hll
    clear hl2
    rw [← hll]
    clear hll
    go_enter Tryd.func18, Tryd.ntmps18
    go_wp2_with fail
    go_loopw [13] (fun i wr => ∃ j : Nat, i = .int .i64 j ∧ j ≤ ps.length ∧ Hid (∀ m, m < j → ps[m]? = qs[m]?) ∧ Below w.heap.size w wr) (fun i _ => ps.length - (intOf i).toNat)
    case atStart => exact ⟨0, rfl, Nat.zero_le _, Lib.hid (fun m h => absurd h (by omega)), Below.refl _ _⟩
    case round =>
      obtain ⟨j, rfl, hj, H, hb⟩ := hrel
      have HB := Lib.hid hb
      by_cases hlt : j < ps.length
      · rcases HC1.out with hnil | ⟨c, off, rfl, hcell⟩
        · exfalso
          rw [hnil] at hlt
          simp at hlt
        · rcases HC2.out with hnil2 | ⟨d, off2, rfl, hcell2⟩
          · exfalso
            have h0 := HL.out
            rw [hnil2, List.length_nil] at h0
            omega
          · obtain ⟨p, hp⟩ : ∃ p, ps[j]? = some p := ⟨_, List.getElem?_eq_getElem hlt⟩
            obtain ⟨q, hq⟩ : ∃ q, qs[j]? = some q := ⟨_, List.getElem?_eq_getElem (by have := HL.out; omega)⟩
            obtain ⟨x0, x1, x2, x3⟩ := rowP_at ps j p hp
            obtain ⟨y0, y1, y2, y3⟩ := rowP_at qs j q hq
            have hcl : c < w.heap.size := lt_of_cell (hcell _ _ x0)
            have hdl : d < w.heap.size := lt_of_cell (hcell2 _ _ y0)
            have a0 := (hb.cell (p := ⟨c, off + j * 4, none⟩) hcl).trans (hcell _ _ x0)
            have a1 := (hb.cell (p := ⟨c, off + (j * 4 + 1), none⟩) hcl).trans (hcell _ _ x1)
            have a2 := (hb.cell (p := ⟨c, off + (j * 4 + 2), none⟩) hcl).trans (hcell _ _ x2)
            have a3 := (hb.cell (p := ⟨c, off + (j * 4 + 3), none⟩) hcl).trans (hcell _ _ x3)
            have b0 := (hb.cell (p := ⟨d, off2 + j * 4, none⟩) hdl).trans (hcell2 _ _ y0)
            have b1 := (hb.cell (p := ⟨d, off2 + (j * 4 + 1), none⟩) hdl).trans (hcell2 _ _ y1)
            have b2 := (hb.cell (p := ⟨d, off2 + (j * 4 + 2), none⟩) hdl).trans (hcell2 _ _ y2)
            have b3 := (hb.cell (p := ⟨d, off2 + (j * 4 + 3), none⟩) hdl).trans (hcell2 _ _ y3)
            simp only [← Nat.add_assoc] at a1 a2 a3 b1 b2 b3
            have jI : (j : Int) < (ps.length : Int) := by omega
            have j0 : (0 : Int) ≤ (j : Int) := by omega
            clear hcell hcell2 x0 x1 x2 x3 y0 y1 y2 y3 hb
            by_cases hpq : p = q
            · subst hpq
              have Hn : Hid (∀ m, m < j + 1 → ps[m]? = qs[m]?) := Lib.hid (fun m hm => by
                by_cases e : m = j
                · subst e; rw [hp, hq]
                · exact H.out m (by omega))
              clear hp hq H
              generalize strB p.key = K at *
              generalize strB p.s = S at *
              go_wp2_with fail
              go_quiet (fail)
              go_wp2_with fail
              go_roundw
              case rel => exact ⟨j + 1, by go_num, by omega, Lib.hid Hn.out, HB.out.trans ((below_drewN _ _).mono HB.out.size)⟩
              case measure => simp [intOf]; omega
            · have hs : sameP p q = false := by
                cases hs : sameP p q
                · rfl
                · exact absurd ((sameP_iff p q).1 hs) hpq
              have HS : Hid (samePs ps qs = false) := Lib.hid (samePs_at ps qs j p q hp hq hs)
              rw [sameP] at hs
              clear hpq hp hq H
              go_wp2_with fail
              cases g1 : ((strB p.key).toList == (strB q.key).toList)
              · go_quiet (fail)
                go_wp2_with fail
                go_ret
                exact ⟨ret_eq (bool_eq HS.out.symm), HB.out.trans ((below_drewN _ _).mono HB.out.size)⟩
              · cases g2 : (p.k == q.k)
                · go_quiet (fail)
                  go_wp2_with fail
                  go_ret
                  exact ⟨ret_eq (bool_eq HS.out.symm), HB.out.trans ((below_drewN _ _).mono HB.out.size)⟩
                · cases g3 : (p.n == q.n)
                  · go_quiet (fail)
                    go_wp2_with fail
                    go_ret
                    exact ⟨ret_eq (bool_eq HS.out.symm), HB.out.trans ((below_drewN _ _).mono HB.out.size)⟩
                  · have g4 : ((strB p.s).toList == (strB q.s).toList) = false := by
                      rw [g1, g2, g3] at hs; simpa using hs
                    go_quiet (fail)
                    go_wp2_with fail
                    go_ret
                    exact ⟨ret_eq (bool_eq HS.out.symm), HB.out.trans ((below_drewN _ _).mono HB.out.size)⟩
      · obtain rfl : j = ps.length := by omega
        have HS : Hid (samePs ps qs = true) := Lib.hid (samePs_all ps qs HL.out (fun m hm => H.out m hm))
        clear H hb
        go_wp2_with fail
        go_ret
        exact ⟨ret_eq (bool_eq HS.out.symm), HB.out⟩
  · have HS : Hid (samePs ps qs = false) := Lib.hid (samePs_len ps qs hll)
    have n1 : ((ps.length : Int) != (qs.length : Int)) = true := by simp; omega
    clear hll
    go_enter Tryd.func18, Tryd.ntmps18
    go_wp2_with fail
    go_ret
    exact ⟨ret_eq (bool_eq HS.out.symm), Below.refl _ _⟩

end Go.Proofs.YtcjnigmklijjiaaDoor
