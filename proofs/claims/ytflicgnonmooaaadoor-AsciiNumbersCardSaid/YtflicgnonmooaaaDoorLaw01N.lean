/- The walk of the law AsciiNumbers. -/
import Derived.Test.YtflicgnonmooaaaDoorAwake01
import Derived.Test.YtflicgnonmooaaaDoorAscLaws
namespace Go.Proofs.YtflicgnonmooaaaDoor
open Go.RowKit

/-- What has been told so far, read from m on, comes to n. -/
def NumInv (n m : Nat) (l : List UInt8) : Prop := digAll l = true ∧ l.foldl digStep (min (m : Int) 2147483648) = min (n : Int) 2147483648

theorem digitOf : ∀ d : Fin 10, ((⟨#[48, 49, 50, 51, 52, 53, 54, 55, 56, 57]⟩ : ByteArray).extract d.val (d.val + 1)).data.toList = [UInt8.ofNat (48 + d.val)] := by decide

theorem digitI : ∀ d : Fin 10, digI ((UInt8.ofNat (48 + d.val)).toNat : Int) = true ∧ ((UInt8.ofNat (48 + d.val)).toNat : Int) = 48 + d.val := by decide

theorem NumInv.step {n m : Nat} {l : List UInt8} (h : NumInv n m l) : NumInv n (m / 10) (UInt8.ofNat (48 + m % 10) :: l) := by
  obtain ⟨h1, h2⟩ := digitI ⟨m % 10, Nat.mod_lt _ (by omega)⟩
  simp only at h1 h2
  refine ⟨by rw [digAll, List.all_cons, h1]; exact h.1, ?_⟩
  rw [List.foldl_cons, ← h.2]
  congr 1
  unfold digStep
  rw [h2]
  omega

theorem NumInv.nought {n : Nat} {l : List UInt8} (h : NumInv n 0 l) : NumInv n 0 (48 :: l) := by
  refine ⟨by rw [digAll, List.all_cons]; exact h.1, ?_⟩
  rw [List.foldl_cons]
  exact h.2

theorem NumInv.done {n : Nat} {l : List UInt8} (h : NumInv n 0 l) : digitsN l = min (n : Int) 2147483648 := by
  rw [digitsN, if_pos h.1]
  exact h.2

set_option maxHeartbeats 2000000 in
theorem numbers_walk (n k : Int) (w : World) (hT : Tabs w) (hn : -9223372036854775808 ≤ n ∧ n ≤ 9223372036854775807) :
    Calls Tryd.prog 6 #[.int .i64 n, .int .i64 k] w fun e w' => e = .returned (.bool true) ∧ Below w.heap.size w w' := by
  have cA := awake_any w hT
  clear hT
  by_cases hbad : n < 0 ∨ k < 0 ∨ 20 < k
  · cases d1 : decide (n < 0) <;> cases d2 : decide (k < 0) <;> cases d3 : decide (20 < k)
    · simp at d1 d2 d3; omega
    all_goals
      clear hbad
      go_enter Tryd.func6, Tryd.ntmps6
      go_wp2_with (go_at_call 7; refine cA.mono ?_; rintro e w1 ⟨rfl, hb1⟩)
      go_ret
      exact ⟨rfl, hb1⟩
  · obtain ⟨n, rfl⟩ := Int.eq_ofNat_of_zero_le (show 0 ≤ n by omega)
    obtain ⟨k, rfl⟩ := Int.eq_ofNat_of_zero_le (show 0 ≤ k by omega)
    have d3 : decide (20 < (k : Int)) = false := by simp; omega
    have hk20 : k ≤ 20 := by omega
    have hn2 : n ≤ 9223372036854775807 := by omega
    clear hbad hn
    go_enter Tryd.func6, Tryd.ntmps6
    go_wp2_with (go_at_call 7; refine cA.mono ?_; rintro e w1 ⟨rfl, hb1⟩)
    go_loop [6, 7] (fun x y => ∃ (t : ByteArray) (m : Nat), x = .string t ∧ y = .int .i64 m ∧ m ≤ n ∧ (1 ≤ m → 9 * t.size + m ≤ n) ∧ 9 * t.size ≤ n + 9 ∧ NumInv n m t.data.toList) (fun _ y => (intOf y).toNat)
    case atStart => exact ⟨_, n, rfl, rfl, Nat.le_refl _, fun _ => (show 9 * 0 + n ≤ n by omega), (show 9 * 0 ≤ n + 9 by omega), rfl, rfl⟩
    case round =>
      obtain ⟨t, m, rfl, rfl, hmn, hs1, hs2, hI⟩ := hrel
      by_cases hm : 1 ≤ m
      · have hs1' := hs1 hm
        clear hs1
        have hlt : m % 10 < 10 := Nat.mod_lt _ (by omega)
        go_wp2
        go_round
        case rel =>
          have hx := digitOf ⟨m % 10, hlt⟩
          have hd : (((⟨#[48, 49, 50, 51, 52, 53, 54, 55, 56, 57]⟩ : ByteArray).extract (m % 10) (m % 10 + 1)) ++ t).data.toList = UInt8.ofNat (48 + m % 10) :: t.data.toList := by rw [append_data, hx]; rfl
          have hz : (((⟨#[48, 49, 50, 51, 52, 53, 54, 55, 56, 57]⟩ : ByteArray).extract (m % 10) (m % 10 + 1)) ++ t).size = t.size + 1 := by rw [Lib.size_eq, hd, List.length_cons, ← Lib.size_eq]
          exact ⟨_, m / 10, rfl, by go_num, by omega, fun h => by rw [hz]; omega, by rw [hz]; omega, by rw [hd]; exact hI.step⟩
        case measure => simp [intOf]; omega
      · obtain rfl : m = 0 := by omega
        clear hs1 hmn hm
        go_wp2_with fail
        go_loop [6, 8] (fun x y => ∃ (t : ByteArray) (m : Nat), x = .string t ∧ y = .int .i64 m ∧ m ≤ k ∧ 9 * t.size ≤ n + 9 + 9 * m ∧ NumInv n 0 t.data.toList) (fun _ y => k - (intOf y).toNat)
        case atStart => exact ⟨t, 0, rfl, rfl, by omega, by omega, hI⟩
        case round =>
          clear hs2 hI
          obtain ⟨t, m, rfl, rfl, hmk, hs2, hI⟩ := hrel
          by_cases hm : m < k
          · go_wp2
            go_round
            case rel =>
              have hd : ((⟨#[48]⟩ : ByteArray) ++ t).data.toList = 48 :: t.data.toList := by rw [append_data]; rfl
              have hz : ((⟨#[48]⟩ : ByteArray) ++ t).size = t.size + 1 := by rw [Lib.size_eq, hd, List.length_cons, ← Lib.size_eq]
              exact ⟨_, m + 1, rfl, by go_num, by omega, by rw [hz]; omega, by rw [hd]; exact hI.nought⟩
            case measure => simp [intOf]; omega
          · have cD := digits_any t w1 (by unfold maxLen; omega)
            rw [hI.done] at cD
            have hall : digAll t.data.toList = true := hI.1
            have he : digitsB t.data.toList = !t.toList.isEmpty := by rw [digitsB, hall, Lib.toList_data, Bool.true_and]
            rw [he] at cD
            clear he hall hI
            cases hem : t.toList.isEmpty
            · rw [hem] at cD
              go_wp2_with (go_at_call 8; refine cD.mono ?_; rintro e w' ⟨rfl, rfl⟩)
              go_ret
              exact ⟨rfl, hb1⟩
            · rw [hem] at cD
              go_wp2_with (go_at_call 8; refine cD.mono ?_; rintro e w' ⟨rfl, rfl⟩)
              go_ret
              exact ⟨rfl, hb1⟩

end Go.Proofs.YtflicgnonmooaaaDoor
