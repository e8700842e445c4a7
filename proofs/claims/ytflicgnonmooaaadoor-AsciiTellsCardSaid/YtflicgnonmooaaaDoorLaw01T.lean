/- The walk of the law AsciiTells. -/
import Derived.Test.YtflicgnonmooaaaDoorLaw01S
import Derived.Test.YtflicgnonmooaaaDoorRefC
import Derived.Test.YtflicgnonmooaaaDoorRefD
import Derived.Test.YtflicgnonmooaaaDoorRefE
namespace Go.Proofs.YtflicgnonmooaaaDoor
open Go.RowKit

theorem splF_len : ∀ (f : Nat) (l : List UInt8), (splF f l).length ≤ f
  | 0, _ => by simp [splF]
  | f + 1, l => by
    unfold splF
    split
    · simp
    · have := splF_len f (l.drop (peL l + 1))
      rw [List.length_append]
      split <;> simp <;> omega

theorem splitL_len (l : List UInt8) : (splitL l).length ≤ l.length := splF_len _ _

set_option maxHeartbeats 4000000 in
theorem tells_walk (p : List UInt8) (w : World) (hT : Tabs w) (hs : p.length ≤ maxLen) :
    Calls Tryd.prog 3 #[.string (strB p)] w fun e w' => e = .returned (.bool true) ∧ Below w.heap.size w w' := by
  have cA := awake_any w hT
  have HT := Lib.hid hT
  have hsz := strB_size p
  unfold maxLen at hs
  clear hT
  by_cases hlong : 500 < p.length
  · have hl2 : 500 < (strB p).size := by omega
    clear hsz
    go_enter Tryd.func3, Tryd.ntmps3
    go_wp2_with (go_at_call 7; refine cA.mono ?_; rintro e w1 ⟨rfl, hb1⟩)
    go_ret
    exact ⟨rfl, hb1⟩
  · have hl2 : (strB p).size ≤ 500 := by omega
    have hl3 : p.length ≤ maxLen := by unfold maxLen; omega
    have hl4 : (strB p).size ≤ maxLen := by unfold maxLen; omega
    have hl5 : (strB p).size ≤ 1099511627776 := by omega
    clear hsz
    go_enter Tryd.func3, Tryd.ntmps3
    go_wp2_with fail
    refine cA.mono ?_
    rintro e w1 ⟨rfl, hb1⟩
    clear cA
    go_wp2_with fail
    refine (digits_any _ _ hl4).mono ?_
    rintro e w' ⟨rfl, rfl⟩
    go_wp2_with fail
    refine (rdigits_any _ _ hl4).mono ?_
    rintro e w' ⟨rfl, rfl⟩
    go_wp2_with fail
    refine (split_str p _ (by omega) (Utf8Tabs_below HT.out hb1)).mono ?_
    rintro e w2 ⟨v1, rfl, hown1, hb2⟩
    have hS1 := Strs.of_owns hown1 (Nat.le_trans (splitL_len p) (by omega))
    replace hb2 := hb1.trans (hb2.mono hb1.size)
    clear hb1 hown1
    go_wp2_with fail
    refine (rsplit_any (strB p) _ hl5).mono ?_
    rintro e w3 ⟨v2, rfl, hown2, hb3⟩
    rw [strB_data] at hown2
    have hS2 := Strs.of_owns hown2 (Nat.le_trans (splitL_len p) (by omega))
    replace hS1 := hS1.later hb3
    replace hb3 := hb2.trans (hb3.mono hb2.size)
    clear hb2 hown2
    go_wp2_with fail
    refine (same_any v1 v2 _ _ _ hS1 hS2).mono ?_
    rintro e w4 ⟨rfl, nd, rfl⟩
    rw [beq_self_eq_true]
    clear hS1 hS2
    have hb4 : Below w.heap.size w (w3.drewN nd) := hb3.trans ((below_of_drewN w3 nd).mono hb3.size)
    clear hb3
    generalize w3.drewN nd = w4 at hb4
    go_wp2_with fail
    refine (token_any _ _ hl4).mono ?_
    rintro e w' ⟨rfl, rfl⟩
    go_wp2_with fail
    refine (rtoken_any _ _ hl4).mono ?_
    rintro e w' ⟨rfl, rfl⟩
    generalize tokL (strB p).data.toList = b1
    have hbb : (b1 == b1) = true := beq_self_eq_true b1
    go_wp2_with fail
    refine (text_any _ _ hl4 (Utf8Tabs_below HT.out hb4)).mono ?_
    rintro e w5 ⟨rfl, hb5⟩
    replace hb5 := hb4.trans (hb5.mono hb4.size)
    clear hb4
    go_wp2_with fail
    refine (rtext_any _ _ hl4).mono ?_
    rintro e w' ⟨rfl, rfl⟩
    go_wp2_with fail
    refine (lower_str p _ hl3).mono ?_
    rintro e w6 ⟨rfl, hb6⟩
    replace hb6 := hb5.trans (hb6.mono hb5.size)
    clear hb5
    go_wp2_with fail
    refine (rlower_any _ _ hl5).mono ?_
    rintro e w7 ⟨rfl, hb7⟩
    replace hb7 := hb6.trans (hb7.mono hb6.size)
    clear hb6
    rw [strB_data]
    go_wp2_with fail
    refine (trim_str p _ hl3 (Utf8Tabs_below HT.out hb7)).mono ?_
    rintro e w8 ⟨rfl, hb8⟩
    replace hb8 := hb7.trans (hb8.mono hb7.size)
    clear hb7
    go_wp2_with fail
    refine (rtrim_any _ _ _ (Nat.le_refl _) hl4).mono ?_
    rintro e w' ⟨rfl, rfl⟩
    rw [strB_data]
    go_wp2_with fail
    go_ret
    exact ⟨rfl, hb8⟩

end Go.Proofs.YtflicgnonmooaaaDoor
