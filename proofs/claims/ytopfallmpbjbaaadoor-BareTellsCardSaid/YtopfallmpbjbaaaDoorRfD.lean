/- The contract of the document's own readString (sculleryref02). -/
import Derived.Test.YtopfallmpbjbaaaDoorRfA
namespace Go.Proofs.YtopfallmpbjbaaaDoor
open Go.RowKit

theorem quote_pr (c : UInt8) (h : prI c.toNat = false) : c ≠ 34 ∧ c ≠ 92 := by
  refine ⟨?_, ?_⟩ <;> (intro e; subst e; exact absurd h (by decide))
theorem prI_nat (c : UInt8) : prI c.toNat = (!decide (c.toNat < 32) && !decide (126 < c.toNat)) := by
  rw [Bool.eq_iff_iff]
  simp [prI]
  omega

set_option maxRecDepth 100000 in
set_option maxHeartbeats 1000000 in
theorem freadString_any (s : ByteArray) (w : World) (h0 : 0 < s.size) (hs : s.size ≤ 100000) :
    Calls Tryd.prog 41 #[.string s] w (gotPost (gotV (readStrL s.data.toList)) w) := by
  have hb0 : Below w.heap.size w (w.alloc zeroBare) := (Below.refl _ _).alloc (Nat.le_refl _) _
  have Hb0 := Lib.hid hb0
  clear hb0
  go_enter Tryd.func41, Tryd.ntmps41
  go_wp2
  go_loop [5, 6] (fun v i => ∃ (k : Nat) (acc : List UInt8), i = .int .i64 k ∧ v = .string (strB acc) ∧ 1 ≤ k ∧ k ≤ s.size ∧ acc.length ≤ k ∧ Hid (readStrL s.data.toList = rsL (s.data.toList.drop k) acc k)) (fun _ i => s.size - (intOf i).toNat)
  case atStart => exact ⟨1, [], rfl, rfl, by omega, by omega, by simp, Lib.hid rfl⟩
  case round =>
    obtain ⟨k, acc, rfl, rfl, hk1, hk, hal, H⟩ := hrel
    have haz : (strB acc).size ≤ 100000 := by rw [strB_size]; omega
    by_cases hlt : k < s.size
    · have hdr := drop_cons_at s k hlt
      have hone := one_at s k hlt
      cases h1 : (((s[k]'hlt).toNat : Int) == 34)
      · have n1 : s[k]'hlt ≠ 34 := by
          intro e; rw [e] at h1; exact absurd h1 (by decide)
        cases h2 : (((s[k]'hlt).toNat : Int) == 92)
        · have n2 : s[k]'hlt ≠ 92 := by
            intro e; rw [e] at h2; exact absurd h2 (by decide)
          rw [hdr, rsL_other _ _ _ _ n1 n2, prI_nat] at H
          by_cases g1 : (s[k]'hlt).toNat < 32
          · have HR : Hid (readStrL s.data.toList = none) := Lib.hid (by rw [H.out]; simp [g1])
            clear hdr hone n1 n2 H
            go_wp2
            exact bodyPost_ret (v := gotV none) (by simp [results, Tryd.results41, go_sem, gotV]) rfl ⟨by rw [HR.out], Hb0.out⟩
          · by_cases g2 : 126 < (s[k]'hlt).toNat
            · have HR : Hid (readStrL s.data.toList = none) := Lib.hid (by rw [H.out]; simp [g2])
              clear hdr hone n1 n2 H
              go_wp2
              exact bodyPost_ret (v := gotV none) (by simp [results, Tryd.results41, go_sem, gotV]) rfl ⟨by rw [HR.out], Hb0.out⟩
            · have HR : Hid (readStrL s.data.toList = rsL (s.data.toList.drop (k + 1)) (acc ++ [s[k]'hlt]) (k + 1)) := Lib.hid (by rw [H.out]; simp [g1, g2])
              have HS : Hid (strB acc ++ s.extract k (k + 1) = strB (acc ++ [s[k]'hlt])) := Lib.hid (by rw [hone, strB_append])
              have hz : (s.extract k (k + 1)).size = 1 := by rw [hone]; rfl
              clear hdr hone n1 n2 H
              generalize strB acc = S at *
              go_wp2
              go_round
              case rel => exact ⟨k + 1, acc ++ [s[k]], by go_num, by rw [← HS.out], by omega, by omega, by simp; omega, Lib.hid HR.out⟩
              case measure => simp [intOf]; omega
        · have e2 : s[k]'hlt = 92 := by
            have := byte_beq (s[k]'hlt) 92
            rw [show ((92 : UInt8).toNat : Int) = 92 from rfl, h2] at this
            simpa using this.symm
          have g1 : ¬ (s[k]'hlt).toNat < 32 := by rw [e2]; decide
          have g2 : ¬ 126 < (s[k]'hlt).toNat := by rw [e2]; decide
          by_cases hlt2 : k + 1 < s.size
          · rw [hdr, e2, drop_cons_at s (k + 1) hlt2, rsL_esc] at H
            have hone2 := one_at s (k + 1) hlt2
            have hesc : escI ((s[k + 1]'hlt2).toNat : Int) = (((s[k + 1]'hlt2).toNat : Int) == 34 || ((s[k + 1]'hlt2).toNat : Int) == 92) := rfl
            rw [hesc] at H
            clear hesc
            have HS : Hid (strB acc ++ s.extract (k + 1) (k + 1 + 1) = strB (acc ++ [s[k + 1]'hlt2])) := Lib.hid (by rw [hone2, strB_append])
            have hz : (s.extract (k + 1) (k + 1 + 1)).size = 1 := by rw [hone2]; rfl
            clear hdr hone hone2 n1 e2
            cases p1 : (((s[k + 1]'hlt2).toNat : Int) == 34) <;> cases p2 : (((s[k + 1]'hlt2).toNat : Int) == 92)
            · have HR : Hid (readStrL s.data.toList = none) := Lib.hid (by rw [H.out, p1, p2]; rfl)
              have b1 : (((s[k + 1]'hlt2).toNat : Int) != 34) = true := by rw [bne, p1]; rfl
              have b2 : (((s[k + 1]'hlt2).toNat : Int) != 92) = true := by rw [bne, p2]; rfl
              clear H p1 p2
              go_wp2
              exact bodyPost_ret (v := gotV none) (by simp [results, Tryd.results41, go_sem, gotV]) rfl ⟨by rw [HR.out], Hb0.out⟩
            all_goals
              have HR : Hid (readStrL s.data.toList = rsL (s.data.toList.drop (k + 1 + 1)) (acc ++ [s[k + 1]'hlt2]) (k + 2)) := Lib.hid (by rw [H.out, p1, p2]; rfl)
              have b1 : (((s[k + 1]'hlt2).toNat : Int) != 34) = !(((s[k + 1]'hlt2).toNat : Int) == 34) := rfl
              have b2 : (((s[k + 1]'hlt2).toNat : Int) != 92) = !(((s[k + 1]'hlt2).toNat : Int) == 92) := rfl
              rw [p1] at b1
              rw [p2] at b2
              simp only [Bool.not_true, Bool.not_false] at b1 b2
              clear H p1 p2
              generalize strB acc = S at *
              go_wp2
              go_round
              case rel => exact ⟨k + 2, acc ++ [s[k + 1]], by go_num, by rw [← HS.out], by omega, by omega, by simp; omega, Lib.hid HR.out⟩
              case measure => simp [intOf]; omega
          · have hd1 : s.data.toList.drop (k + 1) = [] := List.drop_of_length_le (by rw [← Lib.size_eq]; omega)
            rw [hdr, e2, hd1, rsL_esc_end] at H
            clear hdr n1 e2 hd1 hone
            go_wp2
            exact bodyPost_ret (v := gotV none) (by simp [results, Tryd.results41, go_sem, gotV]) rfl ⟨by rw [H.out], Hb0.out⟩
      · have e1 : s[k]'hlt = 34 := by
          have := byte_beq (s[k]'hlt) 34
          rw [show ((34 : UInt8).toNat : Int) = 34 from rfl, h1] at this
          simpa using this.symm
        rw [hdr, e1, rsL_quote] at H
        clear hdr e1 hone
        go_wp2
        exact bodyPost_ret (v := gotV (some ⟨3, 0, acc, k + 1⟩)) (by simp [results, Tryd.results41, go_sem, gotV]) rfl ⟨by rw [H.out], (Below.refl _ _).alloc (Nat.le_refl _) _⟩
    · have hd1 : s.data.toList.drop k = [] := List.drop_of_length_le (by rw [← Lib.size_eq]; omega)
      rw [hd1, rsL.eq_def] at H
      clear hd1
      go_wp2
      exact bodyPost_ret (v := gotV none) (by simp [results, Tryd.results41, go_sem, gotV]) rfl ⟨by rw [H.out], Hb0.out⟩

end Go.Proofs.YtopfallmpbjbaaaDoor
