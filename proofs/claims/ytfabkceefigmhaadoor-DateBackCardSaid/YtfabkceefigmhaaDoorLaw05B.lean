/- The walk of the law DateBack. -/
import Derived.Test.YtfabkceefigmhaaDoorAwake05
namespace Go.Proofs.YtfabkceefigmhaaDoor
open Go.RowKit

theorem tx0_size {y m d c : Nat} (hk : DayOk y m d) : (strB (tx0 y m d c)).size = 29 := by rw [strB_size, tx0_len hk]

/-- What Parse answers of any text, and what is printed of it and parsed again. -/
inductive Answer (s : ByteArray) : Prop where
  | no (h : parL s.data.toList = none)
  | short (y m d c : Nat) (hk : DayOk y m d) (hc : c < 86400) (h : parL s.data.toList = some (86400 * daysN y m d + c)) (hl : s.size ≠ 29)
  | other (y m d c : Nat) (hk : DayOk y m d) (hc : c < 86400) (h : parL s.data.toList = some (86400 * daysN y m d + c)) (hl : s.size = 29) (h3 : ((s[3]'(by omega)).toNat : Int) ≠ 44)
  | same (y m d c : Nat) (hk : DayOk y m d) (hc : c < 86400) (h : s = strB (tx0 y m d c))

theorem third_at (s : ByteArray) (h : 3 < s.size) (h3 : ((s[3]'h).toNat : Int) = 44) : s.data.toList[3]? = some 44 := by
  have e := drop_cons_at s 3 h
  have e2 : s[3]'h = 44 := by
    have h4 : (44 : UInt8).toNat = 44 := rfl
    exact UInt8.toNat_inj.1 (by omega)
  rw [← List.head?_drop, e, e2]
  rfl
theorem same_of {s : ByteArray} {y m d c : Nat} (hk : DayOk y m d) (hc : c < 86400) (h : parL s.data.toList = some (86400 * daysN y m d + c)) (hl : s.size = 29) (h3 : s.data.toList[3]? = some 44) : s = strB (tx0 y m d c) := by
  have := tx_comma hk hc h ((Lib.size_eq s).symm.trans hl) h3
  exact (strB_of s).symm.trans (congrArg strB this)
theorem answer_any (s : ByteArray) : Answer s := by
  cases h : parL s.data.toList with
  | none => exact .no h
  | some n =>
    obtain ⟨y, m, d, c, hk, hc, rfl⟩ := par_in h
    by_cases hl : s.size = 29
    · have hi : 3 < s.size := by omega
      by_cases h3 : ((s[3]'hi).toNat : Int) = 44
      · exact .same y m d c hk hc (same_of hk hc h hl (third_at s hi h3))
      · exact .other y m d c hk hc h hl h3
    · exact .short y m d c hk hc h hl

set_option maxRecDepth 100000 in
set_option maxHeartbeats 8000000 in
theorem back_walk (n : Int) (s : ByteArray) (w : World) (hn : -9223372036854775808 ≤ n ∧ n ≤ 9223372036854775807) (hs : s.size ≤ maxLen) (hC : Cal w) :
    Calls Tryd.prog 4 #[.int .i64 n, .string s] w fun e w' => e = .returned (.bool true) ∧ Below w.heap.size w w' := by
  have cA := awake_any w hC
  have HC := Lib.hid hC
  clear hC
  have cS := fun W h => parse_any s.data.toList W (by rw [← Lib.size_eq]; exact hs) h
  rw [strB_of] at cS
  have hans := answer_any s
  by_cases hbad : n < 0 ∨ 253402300800 ≤ n
  · have cP := fun W => print_no n W hn.1 hn.2 hbad
    have hr : (decide (n ≥ 0) && decide (n < 253402300800)) = false := by simp; omega
    cases d1 : decide (n ≥ 0)
    · clear hbad hr
      go_enter Tryd.func4, Tryd.ntmps4
      go_wp2_with fail
      refine cA.mono ?_
      rintro e w1 ⟨rfl, hb1⟩
      go_wp2_with fail
      refine (cP _).mono ?_
      rintro e w2 ⟨rfl, rfl⟩
      go_wp2_with fail
      cases hans with
      | no h =>
        rw [h] at cS
        simp only [secV] at cS
        clear h
        refine (cS _ (HC.out.below hb1)).mono ?_
        rintro e w5 ⟨rfl, hb5⟩
        go_wp2_with fail
        go_ret
        exact ⟨rfl, hb1.trans (hb5.mono hb1.size)⟩
      | short y m d c hk hc h hl =>
        rw [h] at cS
        simp only [secV] at cS
        have cP := fun W h => print_any y m d c hk hc W h
        have cQ := fun W h => parse_any (tx0 y m d c) W (by rw [tx0_len hk]; unfold maxLen; omega) h
        rw [par_tx0 hk hc] at cQ
        simp only [secV] at cQ
        clear h hk
        generalize 86400 * daysN y m d + c = k at *
        generalize strB (tx0 y m d c) = u at *
        refine (cS _ (HC.out.below hb1)).mono ?_
        rintro e w5 ⟨rfl, hb5⟩
        have hb5 := hb1.trans (hb5.mono hb1.size)
        go_wp2_with fail
        refine (cP _ (HC.out.below hb5)).mono ?_
        rintro e w6 ⟨rfl, hb6⟩
        have hb6 := hb5.trans (hb6.mono hb5.size)
        go_wp2_with fail
        refine (cQ _ (HC.out.below hb6)).mono ?_
        rintro e w7 ⟨rfl, hb7⟩
        have hb7 := hb6.trans (hb7.mono hb6.size)
        have hl1 : ((s.size : Int) != 29) = true := by simp; omega
        go_wp2_with fail
        go_ret
        exact ⟨rfl, hb7⟩
      | other y m d c hk hc h hl h3 =>
        rw [h] at cS
        simp only [secV] at cS
        have cP := fun W h => print_any y m d c hk hc W h
        have cQ := fun W h => parse_any (tx0 y m d c) W (by rw [tx0_len hk]; unfold maxLen; omega) h
        rw [par_tx0 hk hc] at cQ
        simp only [secV] at cQ
        clear h hk
        generalize 86400 * daysN y m d + c = k at *
        generalize strB (tx0 y m d c) = u at *
        refine (cS _ (HC.out.below hb1)).mono ?_
        rintro e w5 ⟨rfl, hb5⟩
        have hb5 := hb1.trans (hb5.mono hb1.size)
        go_wp2_with fail
        refine (cP _ (HC.out.below hb5)).mono ?_
        rintro e w6 ⟨rfl, hb6⟩
        have hb6 := hb5.trans (hb6.mono hb5.size)
        go_wp2_with fail
        refine (cQ _ (HC.out.below hb6)).mono ?_
        rintro e w7 ⟨rfl, hb7⟩
        have hb7 := hb6.trans (hb7.mono hb6.size)
        have hl1 : ((s.size : Int) != 29) = false := by simp; omega
        have h31 : (((s[3]'(by omega)).toNat : Int) != 44) = true := by simpa using h3
        have hi : 3 < s.size := by omega
        go_wp2_with fail
        go_ret
        exact ⟨rfl, hb7⟩
      | same y m d c hk hc h =>
        have cP := fun W h => print_any y m d c hk hc W h
        have hq : parL s.data.toList = some (86400 * daysN y m d + c) := by rw [h, strB_data]; exact par_tx0 hk hc
        rw [hq] at cS
        have hl : s.size = 29 := by rw [h]; exact tx0_size hk
        simp only [secV] at cS
        rw [← h] at cP
        clear hq hk h
        generalize 86400 * daysN y m d + c = k at *
        refine (cS _ (HC.out.below hb1)).mono ?_
        rintro e w5 ⟨rfl, hb5⟩
        have hb5 := hb1.trans (hb5.mono hb1.size)
        go_wp2_with fail
        refine (cP _ (HC.out.below hb5)).mono ?_
        rintro e w6 ⟨rfl, hb6⟩
        have hb6 := hb5.trans (hb6.mono hb5.size)
        go_wp2_with fail
        refine (cS _ (HC.out.below hb6)).mono ?_
        rintro e w7 ⟨rfl, hb7⟩
        have hb7 := hb6.trans (hb7.mono hb6.size)
        have hl1 : ((s.size : Int) != 29) = false := by simp; omega
        have hi : 3 < s.size := by omega
        cases h31 : (((s[3]'(by omega)).toNat : Int) != 44)
        · go_wp2_with fail
          go_ret
          exact ⟨rfl, hb7⟩
        · go_wp2_with fail
          go_ret
          exact ⟨rfl, hb7⟩
    · have d2 : decide (n < 253402300800) = false := by rw [d1] at hr; simpa using hr
      clear hbad hr
      go_enter Tryd.func4, Tryd.ntmps4
      go_wp2_with fail
      refine cA.mono ?_
      rintro e w1 ⟨rfl, hb1⟩
      go_wp2_with fail
      refine (cP _).mono ?_
      rintro e w2 ⟨rfl, rfl⟩
      go_wp2_with fail
      cases hans with
      | no h =>
        rw [h] at cS
        simp only [secV] at cS
        clear h
        refine (cS _ (HC.out.below hb1)).mono ?_
        rintro e w5 ⟨rfl, hb5⟩
        go_wp2_with fail
        go_ret
        exact ⟨rfl, hb1.trans (hb5.mono hb1.size)⟩
      | short y m d c hk hc h hl =>
        rw [h] at cS
        simp only [secV] at cS
        have cP := fun W h => print_any y m d c hk hc W h
        have cQ := fun W h => parse_any (tx0 y m d c) W (by rw [tx0_len hk]; unfold maxLen; omega) h
        rw [par_tx0 hk hc] at cQ
        simp only [secV] at cQ
        clear h hk
        generalize 86400 * daysN y m d + c = k at *
        generalize strB (tx0 y m d c) = u at *
        refine (cS _ (HC.out.below hb1)).mono ?_
        rintro e w5 ⟨rfl, hb5⟩
        have hb5 := hb1.trans (hb5.mono hb1.size)
        go_wp2_with fail
        refine (cP _ (HC.out.below hb5)).mono ?_
        rintro e w6 ⟨rfl, hb6⟩
        have hb6 := hb5.trans (hb6.mono hb5.size)
        go_wp2_with fail
        refine (cQ _ (HC.out.below hb6)).mono ?_
        rintro e w7 ⟨rfl, hb7⟩
        have hb7 := hb6.trans (hb7.mono hb6.size)
        have hl1 : ((s.size : Int) != 29) = true := by simp; omega
        go_wp2_with fail
        go_ret
        exact ⟨rfl, hb7⟩
      | other y m d c hk hc h hl h3 =>
        rw [h] at cS
        simp only [secV] at cS
        have cP := fun W h => print_any y m d c hk hc W h
        have cQ := fun W h => parse_any (tx0 y m d c) W (by rw [tx0_len hk]; unfold maxLen; omega) h
        rw [par_tx0 hk hc] at cQ
        simp only [secV] at cQ
        clear h hk
        generalize 86400 * daysN y m d + c = k at *
        generalize strB (tx0 y m d c) = u at *
        refine (cS _ (HC.out.below hb1)).mono ?_
        rintro e w5 ⟨rfl, hb5⟩
        have hb5 := hb1.trans (hb5.mono hb1.size)
        go_wp2_with fail
        refine (cP _ (HC.out.below hb5)).mono ?_
        rintro e w6 ⟨rfl, hb6⟩
        have hb6 := hb5.trans (hb6.mono hb5.size)
        go_wp2_with fail
        refine (cQ _ (HC.out.below hb6)).mono ?_
        rintro e w7 ⟨rfl, hb7⟩
        have hb7 := hb6.trans (hb7.mono hb6.size)
        have hl1 : ((s.size : Int) != 29) = false := by simp; omega
        have h31 : (((s[3]'(by omega)).toNat : Int) != 44) = true := by simpa using h3
        have hi : 3 < s.size := by omega
        go_wp2_with fail
        go_ret
        exact ⟨rfl, hb7⟩
      | same y m d c hk hc h =>
        have cP := fun W h => print_any y m d c hk hc W h
        have hq : parL s.data.toList = some (86400 * daysN y m d + c) := by rw [h, strB_data]; exact par_tx0 hk hc
        rw [hq] at cS
        have hl : s.size = 29 := by rw [h]; exact tx0_size hk
        simp only [secV] at cS
        rw [← h] at cP
        clear hq hk h
        generalize 86400 * daysN y m d + c = k at *
        refine (cS _ (HC.out.below hb1)).mono ?_
        rintro e w5 ⟨rfl, hb5⟩
        have hb5 := hb1.trans (hb5.mono hb1.size)
        go_wp2_with fail
        refine (cP _ (HC.out.below hb5)).mono ?_
        rintro e w6 ⟨rfl, hb6⟩
        have hb6 := hb5.trans (hb6.mono hb5.size)
        go_wp2_with fail
        refine (cS _ (HC.out.below hb6)).mono ?_
        rintro e w7 ⟨rfl, hb7⟩
        have hb7 := hb6.trans (hb7.mono hb6.size)
        have hl1 : ((s.size : Int) != 29) = false := by simp; omega
        have hi : 3 < s.size := by omega
        cases h31 : (((s[3]'(by omega)).toNat : Int) != 44)
        · go_wp2_with fail
          go_ret
          exact ⟨rfl, hb7⟩
        · go_wp2_with fail
          go_ret
          exact ⟨rfl, hb7⟩
  · obtain ⟨n, rfl⟩ := Int.eq_ofNat_of_zero_le (show 0 ≤ n by omega)
    obtain ⟨y0, m0, d0, c0, hk0, hc0, e0⟩ := secs_of n (by omega)
    have cP0 := fun W h => print_any y0 m0 d0 c0 hk0 hc0 W h
    have cQ0 := fun W h => parse_any (tx0 y0 m0 d0 c0) W (by rw [tx0_len hk0]; unfold maxLen; omega) h
    rw [par_tx0 hk0 hc0] at cQ0
    simp only [secV] at cQ0
    have hl0 := tx0_size (c := c0) hk0
    rw [← e0] at cP0 cQ0
    clear e0 hk0 hc0 hbad hn
    generalize strB (tx0 y0 m0 d0 c0) = u0 at *
    go_enter Tryd.func4, Tryd.ntmps4
    go_wp2_with fail
    refine cA.mono ?_
    rintro e w1 ⟨rfl, hb1⟩
    go_wp2_with fail
    refine (cP0 _ (HC.out.below hb1)).mono ?_
    rintro e w2 ⟨rfl, hb2⟩
    have hb2 := hb1.trans (hb2.mono hb1.size)
    go_wp2_with fail
    refine (cQ0 _ (HC.out.below hb2)).mono ?_
    rintro e w3 ⟨rfl, hb3⟩
    have hb3 := hb2.trans (hb3.mono hb2.size)
    clear cP0 cQ0 hb1 hb2
    go_wp2_with fail
    cases hans with
    | no h =>
      rw [h] at cS
      simp only [secV] at cS
      clear h
      refine (cS _ (HC.out.below hb3)).mono ?_
      rintro e w5 ⟨rfl, hb5⟩
      go_wp2_with fail
      go_ret
      exact ⟨rfl, hb3.trans (hb5.mono hb3.size)⟩
    | short y m d c hk hc h hl =>
      rw [h] at cS
      simp only [secV] at cS
      have cP := fun W h => print_any y m d c hk hc W h
      have cQ := fun W h => parse_any (tx0 y m d c) W (by rw [tx0_len hk]; unfold maxLen; omega) h
      rw [par_tx0 hk hc] at cQ
      simp only [secV] at cQ
      clear h hk
      generalize 86400 * daysN y m d + c = k at *
      generalize strB (tx0 y m d c) = u at *
      refine (cS _ (HC.out.below hb3)).mono ?_
      rintro e w5 ⟨rfl, hb5⟩
      have hb5 := hb3.trans (hb5.mono hb3.size)
      go_wp2_with fail
      refine (cP _ (HC.out.below hb5)).mono ?_
      rintro e w6 ⟨rfl, hb6⟩
      have hb6 := hb5.trans (hb6.mono hb5.size)
      go_wp2_with fail
      refine (cQ _ (HC.out.below hb6)).mono ?_
      rintro e w7 ⟨rfl, hb7⟩
      have hb7 := hb6.trans (hb7.mono hb6.size)
      have hl1 : ((s.size : Int) != 29) = true := by simp; omega
      go_wp2_with fail
      go_ret
      exact ⟨rfl, hb7⟩
    | other y m d c hk hc h hl h3 =>
      rw [h] at cS
      simp only [secV] at cS
      have cP := fun W h => print_any y m d c hk hc W h
      have cQ := fun W h => parse_any (tx0 y m d c) W (by rw [tx0_len hk]; unfold maxLen; omega) h
      rw [par_tx0 hk hc] at cQ
      simp only [secV] at cQ
      clear h hk
      generalize 86400 * daysN y m d + c = k at *
      generalize strB (tx0 y m d c) = u at *
      refine (cS _ (HC.out.below hb3)).mono ?_
      rintro e w5 ⟨rfl, hb5⟩
      have hb5 := hb3.trans (hb5.mono hb3.size)
      go_wp2_with fail
      refine (cP _ (HC.out.below hb5)).mono ?_
      rintro e w6 ⟨rfl, hb6⟩
      have hb6 := hb5.trans (hb6.mono hb5.size)
      go_wp2_with fail
      refine (cQ _ (HC.out.below hb6)).mono ?_
      rintro e w7 ⟨rfl, hb7⟩
      have hb7 := hb6.trans (hb7.mono hb6.size)
      have hl1 : ((s.size : Int) != 29) = false := by simp; omega
      have h31 : (((s[3]'(by omega)).toNat : Int) != 44) = true := by simpa using h3
      have hi : 3 < s.size := by omega
      go_wp2_with fail
      go_ret
      exact ⟨rfl, hb7⟩
    | same y m d c hk hc h =>
      have cP := fun W h => print_any y m d c hk hc W h
      have hq : parL s.data.toList = some (86400 * daysN y m d + c) := by rw [h, strB_data]; exact par_tx0 hk hc
      rw [hq] at cS
      have hl : s.size = 29 := by rw [h]; exact tx0_size hk
      simp only [secV] at cS
      rw [← h] at cP
      clear hq hk h
      generalize 86400 * daysN y m d + c = k at *
      refine (cS _ (HC.out.below hb3)).mono ?_
      rintro e w5 ⟨rfl, hb5⟩
      have hb5 := hb3.trans (hb5.mono hb3.size)
      go_wp2_with fail
      refine (cP _ (HC.out.below hb5)).mono ?_
      rintro e w6 ⟨rfl, hb6⟩
      have hb6 := hb5.trans (hb6.mono hb5.size)
      go_wp2_with fail
      refine (cS _ (HC.out.below hb6)).mono ?_
      rintro e w7 ⟨rfl, hb7⟩
      have hb7 := hb6.trans (hb7.mono hb6.size)
      have hl1 : ((s.size : Int) != 29) = false := by simp; omega
      have hi : 3 < s.size := by omega
      cases h31 : (((s[3]'(by omega)).toNat : Int) != 44)
      · go_wp2_with fail
        go_ret
        exact ⟨rfl, hb7⟩
      · go_wp2_with fail
        go_ret
        exact ⟨rfl, hb7⟩

end Go.Proofs.YtfabkceefigmhaaDoor
