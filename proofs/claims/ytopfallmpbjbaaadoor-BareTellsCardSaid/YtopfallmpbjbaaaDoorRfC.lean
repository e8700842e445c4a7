/- The contract of the document's own answer to Right (sculleryref02). -/
import Derived.Test.YtopfallmpbjbaaaDoorRfA
namespace Go.Proofs.YtopfallmpbjbaaaDoor
open Go.RowKit

theorem bt_tt (c : UInt8) (h : btI c.toNat = true) : ttI c.toNat = true := by
  have := all_bytes (fun c => !btI c.toNat || ttI c.toNat) (by decide +kernel) c
  rw [h] at this
  exact this

theorem btI_is (x : Int) : btI x = (ltrI x || x == 42) := rfl

theorem takeWhile_full (p : UInt8 → Bool) : ∀ l : List UInt8, l.all p = true → l.takeWhile p = l
  | [], _ => rfl
  | c :: l, h => by
    rw [List.all_cons, Bool.and_eq_true] at h
    rw [List.takeWhile_cons, h.1, takeWhile_full p l h.2]; rfl

/-- A text is a token just if it begins as one and all of it may stand in one. -/
theorem tlen_all (c : UInt8) (r : List UInt8) : (tlen (c :: r) == (c :: r).length) = ((c :: r).all (fun c => ttI c.toNat) && btI c.toNat) := by
  cases hb : btI c.toNat
  · rw [tlen, hb]; simp
  · have hc := bt_tt c hb
    rw [tlen, if_pos hb, List.all_cons, hc, Bool.true_and, Bool.and_true, List.length_cons]
    cases ha : r.all (fun c => ttI c.toNat)
    · have : (r.takeWhile (fun c => ttI c.toNat)).length ≠ r.length := by
        intro e
        rw [takeWhile_len _ r e] at ha; cases ha
      simp; omega
    · rw [takeWhile_full _ r ha]
      simp; omega

set_option maxRecDepth 100000 in
set_option maxHeartbeats 4000000 in
theorem fright_any (k n : Int) (s : ByteArray) (w : World) (hs : s.size ≤ 100000) :
    Calls Tryd.prog 17 #[.agg #[.int .i64 k, .int .i64 n, .string s]] w (rightPost (rightL k n s.data.toList) w) := by
  have hb1 : Below w.heap.size w (w.alloc (.cells #[.int .i64 k, .int .i64 n, .string s] 23)) := (Below.refl _ _).alloc (Nat.le_refl _) _
  by_cases h12 : k = 1 ∨ k = 2
  · obtain ⟨r, hr⟩ : ∃ r, rightL k n s.data.toList = r := ⟨_, rfl⟩
    rw [hr]
    rw [right_num k n _ h12, ← toList_emp, inNum] at hr
    rcases h12 with rfl | rfl
    all_goals
      cases h1 : s.toList.isEmpty <;> cases h2 : decide (-1000000000000000 < n) <;> cases h3 : decide (n < 1000000000000000)
      all_goals
        rw [h1, h2, h3] at hr
        simp only [Bool.and_true, Bool.and_false] at hr
        subst hr
        go_enter Tryd.func17, Tryd.ntmps17
        go_wp2
        go_ret
        exact ⟨rfl, (Below.refl _ _).alloc (Nat.le_refl _) _⟩
  · by_cases h6 : k = 6
    · subst h6
      obtain ⟨r, hr⟩ : ∃ r, rightL 6 n s.data.toList = r := ⟨_, rfl⟩
      rw [hr]
      rw [right_bool, ← toList_emp] at hr
      cases h1 : s.toList.isEmpty <;> cases h2 : (n == 0) <;> cases h3 : (n == 1)
      all_goals
        rw [h1, h2, h3] at hr
        simp only [Bool.and_true, Bool.and_false, Bool.or_true, Bool.or_false, Bool.true_or] at hr
        subst hr
        clear h12
        first
        | (exfalso; simp only [beq_iff_eq] at h2 h3; omega)
        | (go_enter Tryd.func17, Tryd.ntmps17
           go_wp2
           go_ret
           exact ⟨rfl, (Below.refl _ _).alloc (Nat.le_refl _) _⟩)
    · by_cases h3 : k = 3
      · subst h3
        rw [right_str]
        clear h12 h6
        go_enter Tryd.func17, Tryd.ntmps17
        go_wp2
        go_loop [3] (fun i => ∃ j : Nat, j ≤ s.size ∧ i = .int .i64 j ∧ Hid ((s.data.toList.take j).all (fun c => prI c.toNat) = true)) (fun i => s.size - (intOf i).toNat)
        case atStart => exact ⟨0, Nat.zero_le _, rfl, Lib.hid rfl⟩
        case round =>
          obtain ⟨j, hj, rfl, H⟩ := hrel
          by_cases hlt : j < s.size
          · by_cases g1 : (s[j]'hlt).toNat < 32
            · have Hf : Hid (prL s.data.toList = false) := Lib.hid (all_false_of (fun c => prI c.toNat) s j hlt (by simp [prI]; omega))
              go_wp2
              go_ret
              exact ⟨by rw [Hf.out, Bool.and_false]; rfl, hb1⟩
            · by_cases g2 : 126 < (s[j]'hlt).toNat
              · have Hf : Hid (prL s.data.toList = false) := Lib.hid (all_false_of (fun c => prI c.toNat) s j hlt (by simp [prI]; omega))
                go_wp2
                go_ret
                exact ⟨by rw [Hf.out, Bool.and_false]; rfl, hb1⟩
              · have Hn : Hid ((s.data.toList.take (j + 1)).all (fun c => prI c.toNat) = true) := Lib.hid (by
                  rw [all_snoc (fun c => prI c.toNat) s j hlt, H.out, Bool.true_and]; simp [prI]; omega)
                go_wp2
                go_round
                case rel => exact ⟨j + 1, by omega, by go_num, Lib.hid Hn.out⟩
                case measure => simp [intOf]; omega
          · have Hp : Hid (prL s.data.toList = true) := Lib.hid (by have := H.out; rw [take_all s j (by omega)] at this; exact this)
            go_wp2
            go_ret
            exact ⟨by rw [Hp.out, Bool.and_true]; rfl, hb1⟩
      · by_cases h4 : k = 4
        · subst h4
          rw [right_tok]
          have Hemp := Lib.hid (toList_emp s)
          clear h12 h6 h3
          go_enter Tryd.func17, Tryd.ntmps17
          go_wp2
          go_loop [4] (fun i => ∃ j : Nat, j ≤ s.size ∧ i = .int .i64 j ∧ Hid ((s.data.toList.take j).all (fun c => ttI c.toNat) = true)) (fun i => s.size - (intOf i).toNat)
          case atStart => exact ⟨0, Nat.zero_le _, rfl, Lib.hid rfl⟩
          case round =>
            obtain ⟨j, hj, rfl, H⟩ := hrel
            by_cases hlt : j < s.size
            · have cT := fun W => ftoken_any (s[j]'hlt) W
              cases hd : ttI ((s[j]'hlt).toNat : Int)
              · have Hf : Hid (s.data.toList.all (fun c => ttI c.toNat) = false) := Lib.hid (all_false_of (fun c => ttI c.toNat) s j hlt hd)
                rw [hd] at cT
                clear hd
                go_wp2_with (go_at_call 43; refine (cT _).mono ?_; rintro e w' ⟨rfl, rfl⟩)
                go_ret
                refine ⟨ret_eq (bool_eq ?_), hb1⟩
                have h0 : 0 < s.size := by omega
                have e0 := drop_cons_at s 0 h0
                rw [List.drop_zero] at e0
                have := Hf.out
                rw [e0] at this ⊢
                rw [tlen_all, this]; simp
              · have Hn : Hid ((s.data.toList.take (j + 1)).all (fun c => ttI c.toNat) = true) := Lib.hid (by
                  rw [all_snoc (fun c => ttI c.toNat) s j hlt, H.out, Bool.true_and]; exact hd)
                rw [hd] at cT
                clear hd
                go_wp2_with (go_at_call 43; refine (cT _).mono ?_; rintro e w' ⟨rfl, rfl⟩)
                go_round
                case rel => exact ⟨j + 1, by omega, by go_num, Lib.hid Hn.out⟩
                case measure => simp [intOf]; omega
            · have Hp : Hid (s.data.toList.all (fun c => ttI c.toNat) = true) := Lib.hid (by have := H.out; rw [take_all s j (by omega)] at this; exact this)
              clear H
              by_cases h0 : 0 < s.size
              · have hemp : s.toList.isEmpty = false := by rw [Lib.toList_data]; exact isEmpty_false_of s h0
                have HR : Hid ((n == 0 && (!s.data.toList.isEmpty && tlen s.data.toList == s.data.toList.length)) = (n == 0 && (ltrI ((s[0]'h0).toNat : Int) || ((s[0]'h0).toNat : Int) == 42))) := Lib.hid (by
                  rw [isEmpty_false_of s h0, Bool.not_false, Bool.true_and]
                  have e0 := drop_cons_at s 0 h0
                  rw [List.drop_zero] at e0
                  have := Hp.out
                  rw [e0] at this ⊢
                  rw [tlen_all, this, Bool.true_and, btI_is])
                have cA := fun W => falpha_any ((s[0]'h0).toNat : Int) W
                clear Hp
                cases g1 : (n == 0) <;> cases g2 : ltrI ((s[0]'h0).toNat : Int) <;> cases g3 : (((s[0]'h0).toNat : Int) == 42)
                all_goals
                  rw [g1, g2, g3] at HR
                  rw [g2] at cA
                  clear g2
                  go_wp2_with (go_at_call 42; refine (cA _).mono ?_; rintro e w' ⟨rfl, rfl⟩)
                  go_ret
                  exact ⟨ret_eq (bool_eq (by first | exact HR.out.symm | (rw [g1] at HR; exact HR.out.symm) | (have := HR.out; simp_all))), hb1⟩
              · have hemp : s.toList.isEmpty = true := by
                  have : s.data.toList = [] := List.eq_nil_of_length_eq_zero (by rw [← Lib.size_eq]; omega)
                  rw [Lib.toList_data, this]; rfl
                have HR : Hid ((n == 0 && (!s.data.toList.isEmpty && tlen s.data.toList == s.data.toList.length)) = false) := Lib.hid (by
                  rw [← Hemp.out, hemp]; simp)
                clear Hp
                cases g1 : (n == 0)
                all_goals
                  go_wp2
                  go_ret
                  exact ⟨ret_eq (bool_eq (by first | exact HR.out.symm | (rw [g1] at HR; exact HR.out.symm) | (have := HR.out; simp_all))), hb1⟩
        · by_cases h5 : k = 5
          · subst h5
            rw [right_bytes]
            clear h12 h6 h3 h4
            cases h2 : (n == 0)
            all_goals
              go_enter Tryd.func17, Tryd.ntmps17
              go_wp2
              go_ret
              exact ⟨rfl, (Below.refl _ _).alloc (Nat.le_refl _) _⟩
          · have hr : rightL k n s.data.toList = false := by rw [rightL, if_neg h12, if_neg h6, if_neg h3, if_neg h4, if_neg h5]
            rw [hr]
            have g1 : (k == 1) = false := by simp; omega
            have g2 : (k == 2) = false := by simp; omega
            have g3 : (k == 3) = false := by simpa using h3
            have g4 : (k == 4) = false := by simpa using h4
            have g5 : (k == 5) = false := by simpa using h5
            have g6 : (k == 6) = false := by simpa using h6
            clear h12 h6 h3 h4 h5 hr
            go_enter Tryd.func17, Tryd.ntmps17
            go_wp2
            go_ret
            exact ⟨rfl, (Below.refl _ _).alloc (Nat.le_refl _) _⟩

end Go.Proofs.YtopfallmpbjbaaaDoor
