/- The contract of the document's own Same: whether two lists of texts are the same. -/
import Derived.Test.YtfhpgobdnhlpcaaDoorHdJ
import Derived.BigQuiet
import Derived.Deep.QuietTactic
namespace Go.Proofs.YtfhpgobdnhlpcaaDoor
open Go.RowKit

set_option maxHeartbeats 2000000 in
theorem same_any (v1 v2 : Value) (ps qs : List (List UInt8)) (w : World) (h1 : StrsF w v1 ps) (h2 : StrsF w v2 qs) (l1 : ps.length ≤ 9223372036854775807) (_ : qs.length ≤ 9223372036854775807) :
    Calls Tryd.prog 17 #[v1, v2] w fun e w' => e = .returned (.bool (ps == qs)) ∧ ∃ n, w' = w.drewN n := by
  obtain ⟨a1, c1, rfl, g1⟩ := h1
  obtain ⟨a2, c2, rfl, g2⟩ := h2
  by_cases hl : ps.length = qs.length
  · have hne : ((ps.length : Int) != (qs.length : Int)) = false := by simp [hl]
    have Hl := Lib.hid hl
    clear hl
    go_enter Tryd.func17, Tryd.ntmps17
    go_wp2
    go_loopw [5] (fun i wr => ∃ k m : Nat, k ≤ ps.length ∧ i = .int .i64 k ∧ wr = w.drewN m ∧ Hid (ps.take k = qs.take k)) (fun i _ => ps.length - (intOf i).toNat)
    case atStart => exact ⟨0, 0, by omega, rfl, rfl, Lib.hid (by simp)⟩
    case round =>
      obtain ⟨k, m, hk, rfl, rfl, H⟩ := hrel
      by_cases hlt : k < ps.length
      · rcases g1 with g1 | ⟨b1, o1, rfl, _, g1⟩
        · rw [g1] at hlt; simp at hlt
        · rcases g2 with g2 | ⟨b2, o2, rfl, _, g2⟩
          · have h0 := Hl.out; rw [g2, List.length_nil] at h0; omega
          · have hlt2 : k < qs.length := by rw [← Hl.out]; exact hlt
            have e1 := g1 k _ (List.getElem?_eq_getElem hlt)
            have e2 := g2 k _ (List.getElem?_eq_getElem hlt2)
            clear g1 g2
            have Hp : Hid (ps.take (k + 1) = ps.take k ++ [ps[k]]) := Lib.hid (List.take_succ_eq_append_getElem hlt)
            have Hq : Hid (qs.take (k + 1) = qs.take k ++ [qs[k]]) := Lib.hid (List.take_succ_eq_append_getElem hlt2)
            have Hpg : Hid (ps[k]? = some ps[k]) := Lib.hid (List.getElem?_eq_getElem hlt)
            have Hqg : Hid (qs[k]? = some qs[k]) := Lib.hid (List.getElem?_eq_getElem hlt2)
            generalize ps[k] = p at e1 Hp Hpg
            generalize qs[k] = q at e2 Hq Hqg
            by_cases hpq : p = q
            · subst hpq
              go_wp2
              go_quiet (fail)
              go_wp2
              go_roundw
              case rel => exact ⟨k + 1, _, by omega, by go_num, rfl, Lib.hid (by rw [Hp.out, Hq.out, H.out])⟩
              case measure => simp [intOf]; omega
            · have hb : ((strB p).toList == (strB q).toList) = false := by rw [Lib.toList_data, Lib.toList_data, strB_data, strB_data, beq_eq_false_iff_ne]; exact hpq
              have Hfin : Hid ((ps == qs) = false) := Lib.hid (by
                rw [beq_eq_false_iff_ne]
                intro e
                have := Hpg.out
                rw [e, Hqg.out] at this
                exact hpq (Option.some.inj this).symm)
              clear hpq
              go_wp2
              go_quiet (fail)
              go_wp2
              go_ret
              exact ⟨by rw [Hfin.out]; rfl, _, World.drewN_drewN _ _ _⟩
      · have Hfin : Hid ((ps == qs) = true) := Lib.hid (by
          have h1 := H.out
          rw [List.take_of_length_le (by omega), List.take_of_length_le (by have := Hl.out; omega)] at h1
          rw [h1]; exact beq_self_eq_true qs)
        go_wp2
        go_ret
        exact ⟨by rw [Hfin.out]; rfl, m, rfl⟩
  · have hne : ((ps.length : Int) != (qs.length : Int)) = true := by simp; omega
    have Hfin : Hid ((ps == qs) = false) := Lib.hid (by
      rw [beq_eq_false_iff_ne]
      intro e
      exact hl (by rw [e]))
    clear hl
    go_enter Tryd.func17, Tryd.ntmps17
    go_wp2
    go_ret
    exact ⟨by rw [Hfin.out]; rfl, 0, rfl⟩

end Go.Proofs.YtfhpgobdnhlpcaaDoor
