/- The document's own digit, size of a chunk's line, and number by sixteen (sculleryref07). -/
import Derived.Test.YtfhpgobdnhlpcaaGreatDoorChR
import Derived.Test.YtfhpgobdnhlpcaaGreatDoorRjD
import Derived.BigQuiet
import Derived.Deep.QuietTactic
namespace Go.Proofs.YtfhpgobdnhlpcaaGreatDoor
open Go.RowKit Go.Shelf Go.Lib

/-- A sign's number, or -1. -/
def digV (c : UInt8) : Int := match hexD c with | some d => (d : Int) | none => -1
theorem hexD_at (k : Nat) (hk : k < 16) (c : UInt8) : ((hexC k).toNat = c.toNat ∨ (9 < k ∧ (hexC k).toNat = c.toNat + 32)) ↔ hexD c = some k := by
  have H : ∀ (i : Fin 16) (j : Fin 256), ((hexC i.val).toNat = j.val ∨ (9 < i.val ∧ (hexC i.val).toNat = j.val + 32)) ↔ hexD (UInt8.ofNat j.val) = some i.val := by decide +kernel
  have := H ⟨k, hk⟩ ⟨c.toNat, c.toNat_lt⟩
  simpa using this
theorem hexC_big (k : Nat) (hk : k < 16) (h9 : 9 < k) : 97 ≤ (hexC k).toNat ∧ (hexC k).toNat ≤ 102 := by
  have H : ∀ (i : Fin 16), 9 < i.val → 97 ≤ (hexC i.val).toNat ∧ (hexC i.val).toNat ≤ 102 := by decide
  exact H ⟨k, hk⟩ h9
theorem digs16_at : ∀ i : Fin 16, ([48, 49, 50, 51, 52, 53, 54, 55, 56, 57, 97, 98, 99, 100, 101, 102] : List UInt8)[i.val]? = some (hexC i.val) := by decide
theorem idx_hex16 (t : TypeId) (ht : Tryz.prog.underlying t = some .string) (k : IntKind) (i : Nat) (hi : i < 16) (w : World) :
    (Instr.index t (.string ⟨#[48, 49, 50, 51, 52, 53, 54, 55, 56, 57, 97, 98, 99, 100, 101, 102]⟩) (.int k (i : Int))).run Tryz.prog w = .ok (.int .u8 ((hexC i).toNat : Int)) w := by
  have hs : (⟨#[48, 49, 50, 51, 52, 53, 54, 55, 56, 57, 97, 98, 99, 100, 101, 102]⟩ : ByteArray).size = 16 := rfl
  rw [run_index_string w t _ k _ ht, dif_pos ⟨by omega, by rw [hs]; omega⟩]
  have e : ((i : Int)).toNat = i := by omega
  simp only [e]
  have := digs16_at ⟨i, hi⟩
  have h2 : (⟨#[48, 49, 50, 51, 52, 53, 54, 55, 56, 57, 97, 98, 99, 100, 101, 102]⟩ : ByteArray)[i]'(by rw [hs]; omega) = hexC i := by
    have h3 := (List.getElem?_eq_some_iff.1 this).2
    rw [← h3]
    rfl
  rw [h2]

set_option maxRecDepth 100000 in
set_option maxHeartbeats 4000000 in
theorem rdigit_any (c : UInt8) (w : World) :
    Calls Tryz.prog 27 #[.int .u8 c.toNat] w fun e w' => e = .returned (.int .i64 (digV c)) ∧ w = w' := by
  have hc := c.toNat_lt
  go_enter Tryz.func27, Tryz.ntmps27
  go_wp2_with fail
  go_loop [4] (fun i => ∃ k : Nat, i = .int .i64 k ∧ k ≤ 16 ∧ Hid (∀ j, j < k → hexD c ≠ some j)) (fun i => 16 - (intOf i).toNat)
  case atStart => exact ⟨0, rfl, by omega, Lib.hid (fun j hj => absurd hj (by omega))⟩
  case round =>
    obtain ⟨k, rfl, hk, H⟩ := hrel
    by_cases hlt : k < 16
    · have hix := fun W => idx_hex16 9 Tryz.underlying9 .i64 k hlt W
      have kI : (k : Int) < 16 := by omega
      have hat := hexD_at k hlt c
      have hX := (hexC k).toNat_lt
      by_cases h1 : (hexC k).toNat = c.toNat
      · have e1 : (((hexC k).toNat : Int) == (c.toNat : Int)) = true := by simp [h1]
        have HV : Hid (digV c = (k : Int)) := Lib.hid (by rw [digV, hat.1 (.inl h1)])
        clear hat h1
        generalize (hexC k).toNat = X at *
        go_wp2_with fail
        go_ret
        exact ⟨by rw [HV.out]; rfl, rfl⟩
      · have e1 : (((hexC k).toNat : Int) == (c.toNat : Int)) = false := by simpa using (by omega : ¬ ((hexC k).toNat : Int) = (c.toNat : Int))
        by_cases h9 : 9 < k
        · obtain ⟨g1, g2⟩ := hexC_big k hlt h9
          have d9 : (9 : Int) < (k : Int) := by omega
          by_cases h2 : (hexC k).toNat = c.toNat + 32
          · have e2 : (((hexC k).toNat : Int) - 32 == (c.toNat : Int)) = true := by simpa using (by omega : ((hexC k).toNat : Int) - 32 = (c.toNat : Int))
            have HV : Hid (digV c = (k : Int)) := Lib.hid (by rw [digV, hat.1 (.inr ⟨h9, h2⟩)])
            clear hat h1 h2 h9
            generalize (hexC k).toNat = X at *
            go_wp2_with fail
            go_ret
            exact ⟨by rw [HV.out]; rfl, rfl⟩
          · have e2 : (((hexC k).toNat : Int) - 32 == (c.toNat : Int)) = false := by simpa using (by omega : ¬ ((hexC k).toNat : Int) - 32 = (c.toNat : Int))
            have Hn : Hid (∀ j, j < k + 1 → hexD c ≠ some j) := Lib.hid fun j hj hd => by
              by_cases e : j = k
              · subst e
                rcases hat.2 hd with h | h <;> omega
              · exact H.out j (by omega) hd
            clear hat h1 h2 h9
            generalize (hexC k).toNat = X at *
            go_wp2_with fail
            go_round
            case rel => exact ⟨k + 1, by go_num, by omega, Lib.hid Hn.out⟩
            case measure => simp [intOf]; omega
        · have d9 : ¬ (9 : Int) < (k : Int) := by omega
          have Hn : Hid (∀ j, j < k + 1 → hexD c ≠ some j) := Lib.hid fun j hj hd => by
            by_cases e : j = k
            · subst e
              rcases hat.2 hd with h | h <;> omega
            · exact H.out j (by omega) hd
          clear hat h1 h9
          generalize (hexC k).toNat = X at *
          go_wp2_with fail
          go_round
          case rel => exact ⟨k + 1, by go_num, by omega, Lib.hid Hn.out⟩
          case measure => simp [intOf]; omega
    · obtain rfl : k = 16 := by omega
      have HV : Hid (digV c = -1) := Lib.hid (by
        rw [digV]
        cases hd : hexD c with
        | none => rfl
        | some d => exact absurd hd (H.out d (hexD_lt c d hd)))
      go_wp2_with fail
      go_ret
      exact ⟨by rw [HV.out]; rfl, rfl⟩

set_option maxRecDepth 100000 in
set_option maxHeartbeats 4000000 in
theorem rhex_any (n : Nat) : ∀ (w : World), n < 1048576 →
    Calls Tryz.prog 12 #[.int .i64 n] w fun e w' => e = .returned (.string (strB (hexL n))) ∧ w = w' := by
  induction n using Nat.strongRecOn with
  | _ n ih =>
    intro w hn
    by_cases h : n < 16
    · have hV : strB (hexL n) = (⟨#[48, 49, 50, 51, 52, 53, 54, 55, 56, 57, 97, 98, 99, 100, 101, 102]⟩ : ByteArray).extract n (n + 1) := by
        rw [hexL_small n h]
        have H : ∀ i : Fin 16, (strB [hexC i.val]) = (⟨#[48, 49, 50, 51, 52, 53, 54, 55, 56, 57, 97, 98, 99, 100, 101, 102]⟩ : ByteArray).extract i.val (i.val + 1) := by decide +kernel
        exact H ⟨n, h⟩
      have HV := Lib.hid hV
      have d : (n : Int) < 16 := by omega
      have d2 : (n : Int) + 1 ≤ 16 := by omega
      clear hV ih h hn
      go_enter Tryz.func12, Tryz.ntmps12
      go_wp2_with fail
      go_ret
      exact ⟨by rw [HV.out]; rfl, rfl⟩
    · have c1 := fun W => ih (n / 16) (by omega) W (by omega)
      have c2 := fun W => ih (n % 16) (by omega) W (by omega)
      have hV : strB (hexL n) = strB (hexL (n / 16)) ++ strB (hexL (n % 16)) := by rw [hexL_big n h, strB_append, hexL_small (n % 16) (by omega)]
      have l1 : (strB (hexL (n / 16))).size ≤ 5 := by rw [strB_size]; exact hexL_len 5 _ (by omega) (by omega)
      have l2 : (strB (hexL (n % 16))).size ≤ 5 := by rw [strB_size]; exact hexL_len 5 _ (by omega) (by omega)
      have hs : ¬ 9223372036854775807 < (strB (hexL (n / 16))).size + (strB (hexL (n % 16))).size := by omega
      rw [hV]
      have d : ¬ (n : Int) < 16 := by omega
      have m1 : (n : Int) / 16 = ((n / 16 : Nat) : Int) := by omega
      have m2 : (n : Int) % 16 = ((n % 16 : Nat) : Int) := by omega
      clear hV ih h l1 l2
      generalize strB (hexL (n / 16)) = S1 at *
      generalize strB (hexL (n % 16)) = S2 at *
      generalize n / 16 = a at *
      generalize n % 16 = b at *
      go_enter Tryz.func12, Tryz.ntmps12
      go_wp2_with fail
      refine (c1 _).mono ?_
      rintro e w1 ⟨rfl, rfl⟩
      go_wp2_with fail
      refine (c2 _).mono ?_
      rintro e w1 ⟨rfl, rfl⟩
      go_wp2_with fail
      go_ret
      exact ⟨rfl, rfl⟩

end Go.Proofs.YtfhpgobdnhlpcaaGreatDoor
