/- The contract of the document's own Same: whether two lists of texts are the same. -/
import Derived.Test.YtflicgnonmooaaaDoorAscLaws
import Derived.Test.YtflicgnonmooaaaDoorAwake01
import Derived.BigQuiet
import Derived.Deep.QuietTactic
namespace Go.Proofs.YtflicgnonmooaaaDoor
open Go.RowKit

/-- A slice of texts in memory. -/
def Strs (w : World) (v : Value) (ps : List (List UInt8)) : Prop :=
  ∃ a cap, v = .slice a ps.length cap ∧ ps.length ≤ 9223372036854775807 ∧
    (ps = [] ∨ ∃ b off, a = some ⟨b, off, none⟩ ∧ b < w.heap.size ∧ ∀ j (h : j < ps.length), w.cell? ⟨b, off + j, none⟩ = some (.string (strB ps[j])))

theorem Strs.later {w w' : World} {v : Value} {ps : List (List UInt8)} (h : Strs w v ps) (hb : Below w.heap.size w w') : Strs w' v ps := by
  obtain ⟨a, cap, h1, h2, h3⟩ := h
  refine ⟨a, cap, h1, h2, ?_⟩
  rcases h3 with h3 | ⟨b, off, h3, h4, h5⟩
  · exact .inl h3
  · exact .inr ⟨b, off, h3, Nat.lt_of_lt_of_le h4 hb.size, fun j hj => (hb.cell (p := ⟨b, off + j, none⟩) h4).trans (h5 j hj)⟩

theorem Strs.of_owns {w : World} {B : Nat} {v : Value} {ps : List (List UInt8)} (h : w.ownsRow B 9 1 v ps.length (ps.map strV)) (hl : ps.length ≤ 9223372036854775807) : Strs w v ps := by
  cases ps with
  | nil =>
    rcases h.2 with ⟨h2, _⟩ | ⟨g, cap, cur, hv, _⟩
    · exact ⟨none, 0, h2, hl, .inl rfl⟩
    · exact ⟨_, cap, hv, hl, .inl rfl⟩
  | cons p r =>
    obtain ⟨g, cap, hv, hg, _, hc⟩ := owns_shape h (by simp)
    refine ⟨_, cap, hv, hl, .inr ⟨g, 0, rfl, hg, fun j hj => ?_⟩⟩
    rw [Nat.zero_add]
    exact hc j _ (by rw [List.getElem?_map, List.getElem?_eq_getElem hj]; rfl)

theorem below_of_drewN (w : World) (n : Nat) : Below w.heap.size w (w.drewN n) := ⟨rfl, rfl, rfl, Nat.le_refl _, fun _ _ => rfl⟩

set_option maxHeartbeats 2000000 in
theorem same_any (v1 v2 : Value) (ps qs : List (List UInt8)) (w : World) (h1 : Strs w v1 ps) (h2 : Strs w v2 qs) :
    Calls Tryd.prog 10 #[v1, v2] w fun e w' => e = .returned (.bool (ps == qs)) ∧ ∃ n, w' = w.drewN n := by
  obtain ⟨a1, c1, rfl, l1, g1⟩ := h1
  obtain ⟨a2, c2, rfl, l2, g2⟩ := h2
  by_cases hl : ps.length = qs.length
  · have hne : ((ps.length : Int) != (qs.length : Int)) = false := by simp [hl]
    have Hl := Lib.hid hl
    clear hl
    go_enter Tryd.func10, Tryd.ntmps10
    go_wp2
    go_loopw [5] (fun i wr => ∃ k m : Nat, k ≤ ps.length ∧ i = .int .i64 k ∧ wr = w.drewN m ∧ Hid (ps.take k = qs.take k)) (fun i _ => ps.length - (intOf i).toNat)
    case atStart => exact ⟨0, 0, by omega, rfl, rfl, Lib.hid (by simp)⟩
    case round =>
      obtain ⟨k, m, hk, rfl, rfl, H⟩ := hrel
      by_cases hlt : k < ps.length
      · rcases g1 with g1 | ⟨b1, o1, rfl, _, g1⟩
        · rw [g1] at hlt; simp at hlt
        · rcases g2 with g2 | ⟨b2, o2, rfl, _, g2⟩
          · have h0 := Hl.out; rw [g2, List.length_nil] at h0; omega
          · have hlt2 : k < qs.length := by rw [← Hl.out]; exact hlt
            have e1 := g1 k hlt
            have e2 := g2 k hlt2
            clear g1 g2
            have Hp : Hid (ps.take (k + 1) = ps.take k ++ [ps[k]]) := Lib.hid (List.take_succ_eq_append_getElem hlt)
            have Hq : Hid (qs.take (k + 1) = qs.take k ++ [qs[k]]) := Lib.hid (List.take_succ_eq_append_getElem hlt2)
            have Hpg : Hid (ps[k]? = some ps[k]) := Lib.hid (List.getElem?_eq_getElem hlt)
            have Hqg : Hid (qs[k]? = some qs[k]) := Lib.hid (List.getElem?_eq_getElem hlt2)
            generalize ps[k] = p at e1 Hp Hpg
            generalize qs[k] = q at e2 Hq Hqg
            by_cases hpq : p = q
            · subst hpq
              go_wp2
              go_quiet (fail)
              go_wp2
              go_roundw
              case rel => exact ⟨k + 1, _, by omega, by go_num, rfl, Lib.hid (by rw [Hp.out, Hq.out, H.out])⟩
              case measure => simp [intOf]; omega
            · have hb : ((strB p).toList == (strB q).toList) = false := by rw [Lib.toList_data, Lib.toList_data, strB_data, strB_data, beq_eq_false_iff_ne]; exact hpq
              have Hfin : Hid ((ps == qs) = false) := Lib.hid (by
                rw [beq_eq_false_iff_ne]
                intro e
                have := Hpg.out
                rw [e, Hqg.out] at this
                exact hpq (Option.some.inj this).symm)
              clear hpq
              go_wp2
              go_quiet (fail)
              go_wp2
              go_ret
              exact ⟨by rw [Hfin.out]; rfl, _, World.drewN_drewN _ _ _⟩
      · have Hfin : Hid ((ps == qs) = true) := Lib.hid (by
          have h1 := H.out
          rw [List.take_of_length_le (by omega), List.take_of_length_le (by have := Hl.out; omega)] at h1
          rw [h1]; exact beq_self_eq_true qs)
        go_wp2
        go_ret
        exact ⟨by rw [Hfin.out]; rfl, m, rfl⟩
  · have hne : ((ps.length : Int) != (qs.length : Int)) = true := by simp; omega
    have Hfin : Hid ((ps == qs) = false) := Lib.hid (by
      rw [beq_eq_false_iff_ne]
      intro e
      exact hl (by rw [e]))
    clear hl
    go_enter Tryd.func10, Tryd.ntmps10
    go_wp2
    go_ret
    exact ⟨by rw [Hfin.out]; rfl, 0, rfl⟩

end Go.Proofs.YtflicgnonmooaaaDoor
