/- The contracts of the document's own digits and which (sculleryref05). -/
import Derived.Test.YtclgdmcbbphbcaaGreatDoorZMCutP
import Derived.Deep.RegionWith

namespace Go.Proofs.YtclgdmcbbphbcaaGreatDoor
open Go.RowKit

theorem take_next {l : List UInt8} {i p : Nat} (hi : i ≤ p) (hp : p < (strB l).size) : (l.drop i).take (p + 1 - i) = (l.drop i).take (p - i) ++ [(strB l)[p]] := by
  obtain ⟨j, rfl⟩ : ∃ j, p = i + j := ⟨p - i, by omega⟩
  rw [show i + j + 1 - i = j + 1 by omega, show i + j - i = j by omega, List.take_add_one, List.getElem?_drop, List.getElem?_eq_getElem (by rw [strB_size] at hp; exact hp)]
  rfl
theorem dgV_no {l : List UInt8} {i k : Nat} (h : ¬ (i + k ≤ l.length ∧ ((l.drop i).take k).all dgt = true)) : dgV l i k = -1 := by
  unfold dgV
  rw [if_neg]
  simp only [Bool.and_eq_true, decide_eq_true_eq]
  exact h
theorem dgV_yes {l : List UInt8} {i k : Nat} (h1 : i + k ≤ l.length) (h2 : ((l.drop i).take k).all dgt = true) : dgV l i k = (valL ((l.drop i).take k) : Nat) := by
  unfold dgV
  rw [if_pos (by rw [h2]; simpa using h1)]
theorem not_all {l : List UInt8} {i k p : Nat} (hi : i ≤ p) (hp : p < i + k) (hs : p < (strB l).size) (hd : dgt (strB l)[p] = false) : ((l.drop i).take k).all dgt = false := by
  have hsub : (l.drop i).take k = (l.drop i).take (p + 1 - i) ++ ((l.drop i).take k).drop (p + 1 - i) := by
    rw [show (l.drop i).take (p + 1 - i) = ((l.drop i).take k).take (p + 1 - i) by rw [List.take_take, Nat.min_eq_left (by omega)], List.take_append_drop]
  rw [hsub, take_next hi hs, List.all_append, List.all_append]
  simp [hd]

set_option maxRecDepth 100000 in
set_option maxHeartbeats 2000000 in
theorem rdigits_any (l : List UInt8) (i k : Nat) (w : World) (hk1 : 1 ≤ k) (hk : k ≤ 4) (hi : i ≤ 1000) (hl : l.length ≤ maxLen) :
    Calls Tryz.prog 49 #[.string (strB l), .int .i64 i, .int .i64 k] w fun e w' => e = .returned (.int .i64 (dgV l i k)) ∧ w = w' := by
  have hz := strB_size l
  unfold maxLen at hl
  have hS : ∀ p, (h1 : i ≤ p) → (h2 : p < (strB l).size) → (l.drop i).take (p + 1 - i) = (l.drop i).take (p - i) ++ [(strB l)[p]] := fun p h1 h2 => take_next h1 h2
  have hN : ∀ p, i ≤ p → p < i + k → (h : p < (strB l).size) → dgt (strB l)[p] = false → dgV l i k = -1 := fun p h1 h2 h3 h4 => dgV_no (fun h => by rw [not_all h1 h2 h3 h4] at h; cases h.2)
  generalize strB l = t at *
  go_enter Tryz.func49, Tryz.ntmps49
  go_wp2_with fail
  go_loop [7, 8] (fun x z => ∃ p : Nat, i ≤ p ∧ p ≤ i + k ∧ z = .int .i64 p ∧ x = .int .i64 (valL ((l.drop i).take (p - i)) : Nat) ∧ Hid (((l.drop i).take (p - i)).all dgt = true) ∧ (p ≤ l.length ∨ p = i)) (fun _ z => i + k - (intOf z).toNat)
  case atStart => exact ⟨i, Nat.le_refl _, by omega, rfl, by rw [Nat.sub_self]; rfl, Lib.hid (by rw [Nat.sub_self]; rfl), .inr rfl⟩
  case round =>
    obtain ⟨p, hp1, hp2, rfl, rfl, hA, hor⟩ := hrel
    by_cases hlt : p < i + k
    · have hltI : (p : Int) < (i : Int) + (k : Int) := by omega
      have g0 : decide ((p : Int) < 0) = false := by simp
      by_cases hin : p < t.size
      · have hT := hS p hp1 hin
        have hvn : valL ((l.drop i).take (p - i)) ≤ 9999 := by
          have := valL_lt _ hA.out
          have h2 : ((l.drop i).take (p - i)).length ≤ 4 := by rw [List.length_take]; omega
          have h10 : 10 ^ ((l.drop i).take (p - i)).length ≤ 10 ^ 4 := Nat.pow_le_pow_right (by omega) h2
          omega
        have hj : decide (t.size ≤ p) = false := by simp; omega
        cases hd : dgt t[p]
        · have HN := Lib.hid (hN p hp1 hlt hin hd)
          clear hS hT hN hA hor hz hvn
          unfold dgt at hd
          have hcn : (t[p].toNat : Int) < 48 ∨ (57 : Int) < t[p].toNat := by
            simp only [Bool.and_eq_false_iff, decide_eq_false_iff_not] at hd
            omega
          clear hd
          generalize valL ((l.drop i).take (p - i)) = n at *
          rcases hcn with h1 | h1
          · have g1 : decide ((t[p].toNat : Int) < 48) = true := by simpa using h1
            go_wp2_with fail
            go_ret
            exact ⟨by rw [HN.out]; rfl, rfl⟩
          · have g1 : decide ((t[p].toNat : Int) < 48) = false := by simp; omega
            have g2 : decide ((57 : Int) < t[p].toNat) = true := by simpa using h1
            go_wp2_with fail
            go_ret
            exact ⟨by rw [HN.out]; rfl, rfl⟩
        · have hv : Hid (valL ((l.drop i).take (p + 1 - i)) = 10 * valL ((l.drop i).take (p - i)) + (t[p].toNat - 48)) := Lib.hid (by rw [hT, valL_snoc])
          have hA2 : Hid (((l.drop i).take (p + 1 - i)).all dgt = true) := Lib.hid (by rw [hT, List.all_append, hA.out]; simp [hd])
          unfold dgt at hd
          simp only [Bool.and_eq_true, decide_eq_true_eq] at hd
          obtain ⟨h1, h2⟩ := hd
          have g1 : decide ((t[p].toNat : Int) < 48) = false := by simp; omega
          have g2 : decide ((57 : Int) < t[p].toNat) = false := by simp; omega
          have hw : ((t[p].toNat - 48 : Nat) : Int) = (t[p].toNat : Int) - 48 := by omega
          clear hS hT hN hA hor
          generalize valL ((l.drop i).take (p - i)) = n at *
          go_wp2_with fail
          go_round
          case rel => exact ⟨p + 1, by omega, by omega, by go_num, by rw [hv.out]; go_num, hA2, .inl (by omega)⟩
          case measure => simp [intOf]; omega
      · have hj : decide (t.size ≤ p) = true := by simp; omega
        have HN : Hid (dgV l i k = -1) := Lib.hid (dgV_no (by omega))
        clear hS hN hA hor
        generalize valL ((l.drop i).take (p - i)) = n at *
        go_wp2_with fail
        go_ret
        exact ⟨by rw [HN.out]; rfl, rfl⟩
    · obtain rfl : p = i + k := by omega
      rw [Nat.add_sub_cancel_left] at hA ⊢
      have HN : Hid (dgV l i k = (valL ((l.drop i).take k) : Nat)) := Lib.hid (by
        rcases hor with h | h
        · exact dgV_yes h hA.out
        · omega)
      clear hS hN hA hor
      generalize valL ((l.drop i).take k) = n at *
      go_wp2_with fail
      go_ret
      exact ⟨by rw [HN.out]; rfl, rfl⟩

end Go.Proofs.YtclgdmcbbphbcaaGreatDoor
