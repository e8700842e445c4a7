/- The contract of bare.Right. -/
import Derived.Test.YtcjnigmklijjiaaDoorBarC
namespace Go.Proofs.YtcjnigmklijjiaaDoor
open Go.RowKit

def inNum (n : Int) : Bool := decide (-1000000000000000 < n) && decide (n < 1000000000000000)

/-- Whether a bare item is valid. -/
def rightL (k n : Int) (s : List UInt8) : Bool :=
  if k = 1 ∨ k = 2 then s.isEmpty && inNum n
  else if k = 6 then s.isEmpty && (n == 0 || n == 1)
  else if k = 3 then n == 0 && prL s
  else if k = 4 then n == 0 && (!s.isEmpty && tlen s == s.length)
  else if k = 5 then n == 0
  else false

theorem right_num (k n : Int) (s : List UInt8) (h : k = 1 ∨ k = 2) : rightL k n s = (s.isEmpty && inNum n) := by rw [rightL, if_pos h]
theorem right_bool (n : Int) (s : List UInt8) : rightL 6 n s = (s.isEmpty && (n == 0 || n == 1)) := rfl
theorem right_str (n : Int) (s : List UInt8) : rightL 3 n s = (n == 0 && prL s) := rfl
theorem right_tok (n : Int) (s : List UInt8) : rightL 4 n s = (n == 0 && (!s.isEmpty && tlen s == s.length)) := rfl
theorem right_bytes (n : Int) (s : List UInt8) : rightL 5 n s = (n == 0) := rfl

def rightPost (r : Bool) (w : World) (e : Ending) (w' : World) : Prop := e = .returned (.bool r) ∧ Below w.heap.size w w'

theorem toList_emp (s : ByteArray) : s.toList.isEmpty = s.data.toList.isEmpty := by rw [Lib.toList_data]

set_option maxRecDepth 100000 in
set_option maxHeartbeats 4000000 in
theorem right_any (k n : Int) (s : ByteArray) (w : World) (hs : s.size ≤ 100000) :
    Calls Tryd.prog 24 #[.agg #[.int .i64 k, .int .i64 n, .string s]] w (rightPost (rightL k n s.data.toList) w) := by
  have cP := fun W => isPrintable_any s W (by unfold maxLen; omega)
  have cT := fun W => tokenLength_any s W (by unfold maxLen; omega)
  by_cases h12 : k = 1 ∨ k = 2
  · obtain ⟨r, hr⟩ : ∃ r, rightL k n s.data.toList = r := ⟨_, rfl⟩
    rw [hr]
    rw [right_num k n _ h12, ← toList_emp, inNum] at hr
    rcases h12 with rfl | rfl
    all_goals
      cases h1 : s.toList.isEmpty <;> cases h2 : decide (-1000000000000000 < n) <;> cases h3 : decide (n < 1000000000000000)
      all_goals
        rw [h1, h2, h3] at hr
        simp only [Bool.and_true, Bool.and_false] at hr
        subst hr
        clear cP cT
        go_enter Tryd.func24, Tryd.ntmps24
        go_wp2
        go_ret
        exact ⟨rfl, (Below.refl _ _).alloc (Nat.le_refl _) _⟩
  · by_cases h6 : k = 6
    · subst h6
      obtain ⟨r, hr⟩ : ∃ r, rightL 6 n s.data.toList = r := ⟨_, rfl⟩
      rw [hr]
      rw [right_bool, ← toList_emp] at hr
      cases h1 : s.toList.isEmpty <;> cases h2 : (n == 0) <;> cases h3 : (n == 1)
      all_goals
        rw [h1, h2, h3] at hr
        simp only [Bool.and_true, Bool.and_false, Bool.or_true, Bool.or_false] at hr
        subst hr
        clear cP cT h12
        first
        | (exfalso; simp only [beq_iff_eq] at h2 h3; omega)
        | (go_enter Tryd.func24, Tryd.ntmps24
           go_wp2
           go_ret
           exact ⟨rfl, (Below.refl _ _).alloc (Nat.le_refl _) _⟩)
    · by_cases h3 : k = 3
      · subst h3
        obtain ⟨r, hr⟩ : ∃ r, rightL 3 n s.data.toList = r := ⟨_, rfl⟩
        rw [hr]
        rw [right_str] at hr
        generalize prL s.data.toList = b at hr cP
        cases h2 : (n == 0)
        all_goals
          rw [h2] at hr
          simp only [Bool.true_and, Bool.false_and] at hr
          subst hr
          clear cT h12 h6
          go_enter Tryd.func24, Tryd.ntmps24
          go_wp2_with (go_at_call 42; refine (cP _).mono ?_; rintro e w' ⟨rfl, rfl⟩)
          go_ret
          exact ⟨rfl, (Below.refl _ _).alloc (Nat.le_refl _) _⟩
      · by_cases h4 : k = 4
        · subst h4
          obtain ⟨r, hr⟩ : ∃ r, rightL 4 n s.data.toList = r := ⟨_, rfl⟩
          rw [hr]
          rw [right_tok, ← toList_emp, ← Lib.size_eq] at hr
          generalize tlen s.data.toList = b at hr cT
          have Hq : Hid ((((b : Nat) : Int) == (s.size : Int)) = (b == s.size)) := Lib.hid (by rw [Bool.eq_iff_iff]; simp; omega)
          cases h2 : (n == 0) <;> cases h1 : s.toList.isEmpty
          all_goals
            rw [h2, h1] at hr
            simp only [Bool.true_and, Bool.false_and, Bool.not_true, Bool.not_false] at hr
            clear cP h12 h6 h3
            have Hr := Lib.hid hr
            clear hr
            go_enter Tryd.func24, Tryd.ntmps24
            go_wp2_with fail
            go_quiet ((go_at_call 43; exact Calls.quiet_of_same ((cT _).mono (fun _ _ h => ⟨h.1, h.2.symm⟩))))
            go_wp2
            go_ret
            refine ⟨ret_eq (bool_eq (by first | exact Hr.out | (rw [← Hr.out]; exact Hq.out))), ?_⟩
            have hb1 : Below w.heap.size w (w.alloc (.cells #[.int .i64 4, .int .i64 n, .string s] 23)) := (Below.refl _ _).alloc (Nat.le_refl _) _
            exact hb1.trans ((below_drewN _ _).mono hb1.size)
        · by_cases h5 : k = 5
          · subst h5
            rw [right_bytes]
            clear cP cT h12 h6 h3 h4
            cases h2 : (n == 0)
            all_goals
              go_enter Tryd.func24, Tryd.ntmps24
              go_wp2
              go_ret
              exact ⟨rfl, (Below.refl _ _).alloc (Nat.le_refl _) _⟩
          · have hr : rightL k n s.data.toList = false := by rw [rightL, if_neg h12, if_neg h6, if_neg h3, if_neg h4, if_neg h5]
            rw [hr]
            have g1 : (k == 1) = false := by simp; omega
            have g2 : (k == 2) = false := by simp; omega
            have g3 : (k == 3) = false := by simpa using h3
            have g4 : (k == 4) = false := by simpa using h4
            have g5 : (k == 5) = false := by simpa using h5
            have g6 : (k == 6) = false := by simpa using h6
            clear cP cT h12 h6 h3 h4 h5 hr
            go_enter Tryd.func24, Tryd.ntmps24
            go_wp2
            go_ret
            exact ⟨rfl, (Below.refl _ _).alloc (Nat.le_refl _) _⟩

end Go.Proofs.YtcjnigmklijjiaaDoor
