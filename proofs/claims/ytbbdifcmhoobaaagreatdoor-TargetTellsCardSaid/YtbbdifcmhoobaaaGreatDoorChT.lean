/- The contracts of strconv.ParseUint at sixteen and eight bits, over two signs. -/
import Derived.Test.YtbbdifcmhoobaaaGreatDoorChN
import Derived.Test.YtbbdifcmhoobaaaGreatDoorShelf
import Derived.Lib.ConvBytes
import Derived.Lib.SmallJoins
import Derived.Lib.Walk
import Derived.Laws.Strings3
import Derived.Laws.Closers25
import Derived.Laws.Closers25b
import Derived.WalkKit
import Derived.BigCall
import Derived.BigGuard
namespace Go.Proofs.YtbbdifcmhoobaaaGreatDoor
open Go.RowKit Go.Shelf Go.Lib

set_option maxHeartbeats 8000000 in
set_option maxRecDepth 100000 in
theorem parse8_any (t : ByteArray) (h2 : t.size = 2) (w : World) :
    Calls Tryz.prog 49 #[.string t, .int .i64 16, .int .i64 8] w fun e w' => e = .returned (uin16 (par16 0 t.data.toList)) ∧ Below w.heap.size w w' := by
  have hemp : t.toList.isEmpty = false := by
    rw [← decide_eq_emptyBytes]
    exact decide_eq_false (fun h => by rw [h] at h2; exact absurd h2 (by decide))
  have hcv := Lib.run_convert_string_bytes (P := Tryz.prog) w 9 36 5 t (u := .string) Tryz.underlying9 Tryz.underlying36 Tryz.underlying5
  have hB : ∀ j, j < t.size → (Lib.bytesWorld w 5 t).cell? ⟨w.heap.size, j, none⟩ = some (.int .u8 (t.data.toList.getD j 0).toNat) := fun j hj => Lib.bytesWorld_cell w 5 t j hj
  have hbW : Below w.heap.size w (Lib.bytesWorld w 5 t) := Go.Joins.below_bytesWorld _ w 5 t (Nat.le_refl _)
  obtain ⟨W1, hW1⟩ : ∃ W1, W1 = Lib.bytesWorld w 5 t := ⟨_, rfl⟩
  rw [← hW1] at hcv hB hbW
  have HbW := Lib.hid hbW
  clear hW1 hbW
  obtain ⟨bs, hL⟩ : ∃ bs, bs = t.data.toList := ⟨_, rfl⟩
  have hLn : bs.length = t.size := by rw [hL, Lib.size_eq]
  rw [← hL] at hB ⊢
  clear hL
  have hmv : IntKind.u64.wrap (IntKind.u64.wrap 256 - 1) = 255 := by
    rw [IntKind.wrap_u64, IntKind.wrap_u64]
    decide
  go_enter Tryz.func49, Tryz.ntmps49
  go_wp2
  go_loop [12, 13, 101] (fun vu vn vi => ∃ (k acc : Nat) (a : Int), vu = .bool false ∧ vn = .int .u64 a ∧ vi = .int .i64 k ∧ k ≤ t.size ∧ Hid (a = (acc : Int) ∧ acc < 256 ∧ (k < 2 → acc < 16) ∧ (k < 1 → acc = 0) ∧ par16 0 bs = par16 acc (bs.drop k)))
    (fun _ _ vi => t.size - (intOf vi).toNat)
  case atStart => exact ⟨0, 0, 0, rfl, rfl, rfl, by omega, rfl, by omega, fun _ => by omega, fun _ => rfl, rfl⟩
  case round =>
    obtain ⟨k, acc, a, rfl, rfl, rfl, hk, hh⟩ := hrel
    obtain ⟨ha, hacc, hk1, hk0, hdec⟩ := hh.out
    clear hh
    have a0 : 0 ≤ a := by omega
    have a1 : a < 256 := by omega
    by_cases hkn : k < t.size
    · have hkk2 : k < 2 := by omega
      have a2 : a < 16 := by have := hk1 hkk2; omega
      have hacc2 := hk1 hkk2
      have hc := hB k hkn
      have hdrop : bs.drop k = bs[k]'(by omega) :: bs.drop (k + 1) := List.drop_eq_getElem_cons (by omega)
      have hget : bs.getD k 0 = bs[k]'(by omega) := by simp [List.getD, List.getElem?_eq_getElem (show k < bs.length by omega)]
      rw [hdrop] at hdec
      rw [hget] at hc
      generalize bs[k]'(by omega) = c at hc hdec
      have hc256 : c.toNat < 256 := c.toNat_lt
      have cL := fun W => lower16_any c W
      have hlo := lowO_lt c
      clear hB hdrop hget
      rw [par16] at hdec
      by_cases hdig : 48 ≤ c.toNat ∧ c.toNat ≤ 57
      · have hD : hexD c = some (c.toNat - 48) := by rw [hexD, if_pos hdig]
        rw [hD] at hdec
        dsimp only at hdec
        obtain ⟨hd0, hd1⟩ := hdig
        have hcut : ¬ 1152921504606846976 ≤ acc := by omega
        · rw [if_neg hcut] at hdec
          have HN : Hid (a * 16 + ((c.toNat : Int) - 48) = ((acc * 16 + (c.toNat - 48) : Nat) : Int) ∧ acc * 16 + (c.toNat - 48) < 256 ∧ (k + 1 < 2 → acc * 16 + (c.toNat - 48) < 16) ∧ (k + 1 < 1 → acc * 16 + (c.toNat - 48) = 0) ∧ par16 0 bs = par16 (acc * 16 + (c.toNat - 48)) (bs.drop (k + 1))) := Lib.hid ⟨by omega, by omega, fun h => by have := hk0 (by omega); omega, fun h => by omega, hdec⟩
          clear hcut hacc hdec ha hD cL hlo hk1 hk0 hacc2
          go_wp2
          refine ⟨⟨k + 1, acc * 16 + (c.toNat - 48), a * 16 + ((c.toNat : Int) - 48), rfl, (by first | rfl | (congr 1; omega)), (by first | rfl | (congr 1; omega)), by omega, HN⟩, by simp [intOf]; omega⟩
      · rcases hexD_letter c hdig with ⟨hD, hl1, hl2⟩ | ⟨hD, hl⟩
        · rw [hD] at hdec
          dsimp only at hdec
          have hndI : (48 : Int) ≤ (c.toNat : Int) → ¬ (c.toNat : Int) ≤ 57 := by omega
          have h95 : ((c.toNat : Int) == 95) = false := by
            have hx : ¬ c.toNat = 95 := fun h => by
              have : lowO c = 127 := by unfold lowO; rw [h]; rfl
              omega
            have : ¬ (c.toNat : Int) = 95 := by omega
            simpa using this
          generalize lowO c = lo at *
          have hcut : ¬ 1152921504606846976 ≤ acc := by omega
          · rw [if_neg hcut] at hdec
            have HN : Hid (a * 16 + ((lo : Int) - 87) = ((acc * 16 + (lo - 87) : Nat) : Int) ∧ acc * 16 + (lo - 87) < 256 ∧ (k + 1 < 2 → acc * 16 + (lo - 87) < 16) ∧ (k + 1 < 1 → acc * 16 + (lo - 87) = 0) ∧ par16 0 bs = par16 (acc * 16 + (lo - 87)) (bs.drop (k + 1))) := Lib.hid ⟨by omega, by omega, fun h => by have := hk0 (by omega); omega, fun h => by omega, hdec⟩
            clear hcut hacc hdec ha hD hk1 hk0 hacc2
            cases d1 : decide (48 ≤ (c.toNat : Int)) <;> cases d2 : decide ((c.toNat : Int) ≤ 57)
            all_goals first
              | (exfalso; have := of_decide_eq_true d1; have := of_decide_eq_true d2; omega)
              | (clear hndI hdig
                 go_wp2_with (go_at_call 67; refine (cL _).mono ?_; rintro e w' ⟨rfl, rfl⟩)
                 refine ⟨⟨k + 1, acc * 16 + (lo - 87), a * 16 + ((lo : Int) - 87), rfl, (by first | rfl | (congr 1; omega)), (by first | rfl | (congr 1; omega)), by omega, HN⟩, by simp [intOf]; omega⟩)
        · rw [hD] at hdec
          dsimp only at hdec
          have HD := Lib.hid hdec
          have hndI : (48 : Int) ≤ (c.toNat : Int) → ¬ (c.toNat : Int) ≤ 57 := by omega
          generalize lowO c = lo at *
          clear hacc ha hdec hD hk1 hk0 hacc2
          cases d1 : decide (48 ≤ (c.toNat : Int)) <;> cases d2 : decide ((c.toNat : Int) ≤ 57)
          all_goals first
            | (exfalso; have := of_decide_eq_true d1; have := of_decide_eq_true d2; omega)
            | (clear hndI hdig
               cases h95 : ((c.toNat : Int) == 95) <;> cases d3 : decide (97 ≤ (lo : Int)) <;> cases d4 : decide ((lo : Int) ≤ 122)
               all_goals first
                 | (have hlI : 103 ≤ (lo : Int) := by (have := of_decide_eq_true d3); omega)
                 | skip
               all_goals clear hl
               all_goals
                 go_wp2_with (go_at_call 67; refine (cL _).mono ?_; rintro e w' ⟨rfl, rfl⟩)
                 all_goals go_ret2
                 all_goals exact ⟨by rw [HD.out]; rfl, HbW.out⟩)
    · have hkk : k = t.size := by omega
      subst hkk
      have hF : par16 acc (bs.drop t.size) = .ok acc := by rw [List.drop_eq_nil_of_le (by omega)]; rfl
      rw [hF] at hdec
      have HD := Lib.hid hdec
      subst ha
      clear hacc hF a0 a1 hdec hk1 hk0
      go_wp2
      go_ret2
      exact ⟨by rw [HD.out]; rfl, HbW.out⟩

end Go.Proofs.YtbbdifcmhoobaaaGreatDoor
