/- The walk of the law DateTells. -/
import Derived.Test.YtfabkceefigmhaaDoorRdM
import Derived.Test.YtfabkceefigmhaaDoorAwake05
namespace Go.Proofs.YtfabkceefigmhaaDoor
open Go.RowKit

theorem daysV_pair (y m d : Int) : ∃ a b : Int, daysV y m d = .tuple #[.int .i64 a, .int .i64 b] := by
  unfold daysV
  split
  · exact ⟨_, _, rfl⟩
  · exact ⟨_, _, rfl⟩
theorem secV_pair (o : Option Nat) : ∃ a b : Int, secV o = .tuple #[.int .i64 a, .int .i64 b] := by
  cases o with
  | none => exact ⟨_, _, rfl⟩
  | some n => exact ⟨_, _, rfl⟩

/-- What Print answers, of the program's and of the document's. -/
theorem prints_same (n : Int) (h0 : -9223372036854775808 ≤ n) (h1 : n ≤ 9223372036854775807) : ∃ (u : ByteArray) (k : Int),
    (∀ w, Cal w → Calls Tryd.prog 9 #[.int .i64 n] w fun e w' => e = .returned (.tuple #[.string u, .int .i64 k]) ∧ Below w.heap.size w w') ∧
    (∀ w, Calls Tryd.prog 10 #[.int .i64 n] w fun e w' => e = .returned (.tuple #[.string u, .int .i64 k]) ∧ Below w.heap.size w w') := by
  by_cases hbad : n < 0 ∨ 253402300800 ≤ n
  · refine ⟨⟨#[]⟩, 6, fun w _ => (print_no n w h0 h1 hbad).mono ?_, fun w => (rprint_no n w hbad).mono ?_⟩
    · rintro e w' ⟨rfl, rfl⟩
      exact ⟨rfl, Below.refl _ _⟩
    · rintro e w' ⟨rfl, rfl⟩
      exact ⟨rfl, Below.refl _ _⟩
  · obtain ⟨n, rfl⟩ := Int.eq_ofNat_of_zero_le (show 0 ≤ n by omega)
    obtain ⟨y, m, d, c, hk, hc, rfl⟩ := secs_of n (by omega)
    exact ⟨strB (tx0 y m d c), 0, fun w hC => print_any y m d c hk hc w hC, fun w => rprint_any y m d c hk hc w⟩

abbrev boxT (w : World) (x y z : Int) : World := w.alloc (.cells #[.int .i64 x, .int .i64 y, .int .i64 z] 22)
theorem box3 {w W : World} {x y z : Int} (h : Below (w.heap.size + 1) (boxT w x y z) W) : W.cell? ⟨w.heap.size, 0, none⟩ = some (.int .i64 x) ∧ W.cell? ⟨w.heap.size, 1, none⟩ = some (.int .i64 y) ∧ W.cell? ⟨w.heap.size, 2, none⟩ = some (.int .i64 z) := by
  have hl : w.heap.size < w.heap.size + 1 := Nat.lt_succ_self _
  exact ⟨(Below.cell (p := ⟨w.heap.size, 0, none⟩) h hl).trans (by simp), (Below.cell (p := ⟨w.heap.size, 1, none⟩) h hl).trans (by simp), (Below.cell (p := ⟨w.heap.size, 2, none⟩) h hl).trans (by simp)⟩

set_option maxRecDepth 100000 in
set_option maxHeartbeats 4000000 in
theorem tells_long (x y z n : Int) (s : ByteArray) (w : World) (hs : 60 < s.size) (hC : Cal w) :
    Calls Tryd.prog 3 #[.agg #[.int .i64 x, .int .i64 y, .int .i64 z], .int .i64 n, .string s] w fun e w' => e = .returned (.bool true) ∧ Below w.heap.size w w' := by
  have hb0 : Below w.heap.size w (boxT w x y z) := (Below.refl _ _).alloc (Nat.le_refl _) _
  have cA := awake_any _ (hC.below hb0)
  have d1 : decide ((s.size : Int) > 60) = true := by simp; omega
  clear hC
  go_enter Tryd.func3, Tryd.ntmps3
  go_wp2_with fail
  refine cA.mono ?_
  rintro e w1 ⟨rfl, hb1⟩
  go_wp2_with fail
  go_ret
  exact ⟨rfl, hb0.trans (hb1.mono hb0.size)⟩

set_option maxRecDepth 100000 in
set_option maxHeartbeats 4000000 in
theorem tells_short (x y z n : Int) (s : ByteArray) (w : World) (hx : -9223372036854775808 ≤ x ∧ x ≤ 9223372036854775807) (hn : -9223372036854775808 ≤ n ∧ n ≤ 9223372036854775807) (hs : s.size ≤ 60) (hC : Cal w) :
    Calls Tryd.prog 3 #[.agg #[.int .i64 x, .int .i64 y, .int .i64 z], .int .i64 n, .string s] w fun e w' => e = .returned (.bool true) ∧ Below w.heap.size w w' := by
  have hb0 : Below w.heap.size w (boxT w x y z) := (Below.refl _ _).alloc (Nat.le_refl _) _
  have hsl : s.data.toList.length ≤ 60 := by rw [← Lib.size_eq]; exact hs
  have cA := awake_any _ (hC.below hb0)
  have HC := Lib.hid hC
  clear hC
  obtain ⟨a, b, hab⟩ := daysV_pair x y z
  obtain ⟨g, h, hgh⟩ := secV_pair (parL s.data.toList)
  obtain ⟨u, k, c3, c4⟩ := prints_same n hn.1 hn.2
  have c1 := fun W hC => days_any x y z W hC
  have c2 := fun W => rdays_any x y z W
  rw [hab] at c1 c2
  have c5 := fun W hC => parse_any s.data.toList W (by unfold maxLen; omega) hC
  have c6 := fun W => rparse_any s.data.toList W hsl
  rw [hgh, strB_of] at c5 c6
  have c7 := fun W => weekday_any x W hx.1 hx.2
  have c8 := fun W => rweekday_any x W hx.1 hx.2
  have d1 : decide ((s.size : Int) > 60) = false := by simp; omega
  have hk0 : Below (w.heap.size + 1) (boxT w x y z) (boxT w x y z) := Below.refl _ _
  generalize (if x < 0 then (0 : Int) else (x % 7 + 4) % 7) = wd at *
  clear hab hgh hsl hx hn
  go_enter Tryd.func3, Tryd.ntmps3
  go_wp2_with fail
  refine cA.mono ?_
  rintro e w1 ⟨rfl, hb1⟩
  have k1 := hk0.trans (hb1.mono (by simp))
  have hb1 := hb0.trans (hb1.mono hb0.size)
  clear cA
  obtain ⟨q0, q1, q2⟩ := box3 k1
  go_wp2_with fail
  refine (c1 _ (HC.out.below hb1)).mono ?_
  rintro e w2 ⟨rfl, hb2⟩
  have k2 := k1.trans (hb2.mono (by have := k1.size; simp at this; omega))
  have hb2 := hb1.trans (hb2.mono hb1.size)
  clear q0 q1 q2
  obtain ⟨q0, q1, q2⟩ := box3 k2
  go_wp2_with fail
  refine (c2 _).mono ?_
  rintro e w3 ⟨rfl, hb3⟩
  have k3 := k2.trans (hb3.mono (by have := k2.size; simp at this; omega))
  have hb3 := hb2.trans (hb3.mono hb2.size)
  clear q0 q1 q2
  go_wp2_with fail
  refine (c3 _ (HC.out.below hb3)).mono ?_
  rintro e w4 ⟨rfl, hb4⟩
  have k4 := k3.trans (hb4.mono (by have := k3.size; simp at this; omega))
  have hb4 := hb3.trans (hb4.mono hb3.size)
  go_wp2_with fail
  refine (c4 _).mono ?_
  rintro e w5 ⟨rfl, hb5⟩
  have k5 := k4.trans (hb5.mono (by have := k4.size; simp at this; omega))
  have hb5 := hb4.trans (hb5.mono hb4.size)
  go_wp2_with fail
  refine (c5 _ (HC.out.below hb5)).mono ?_
  rintro e w6 ⟨rfl, hb6⟩
  have k6 := k5.trans (hb6.mono (by have := k5.size; simp at this; omega))
  have hb6 := hb5.trans (hb6.mono hb5.size)
  go_wp2_with fail
  refine (c6 _).mono ?_
  rintro e w7 ⟨rfl, hb7⟩
  have k7 := k6.trans (hb7.mono (by have := k6.size; simp at this; omega))
  have hb7 := hb6.trans (hb7.mono hb6.size)
  obtain ⟨q0, q1, q2⟩ := box3 k7
  clear k1 k2 k3 k4 k5 k6 k7 hk0 c1 c2 c3 c4 c5 c6
  go_wp2_with fail
  go_quiet ((first | (go_at_call 13; exact quiet_same (c7 _)) | (go_at_call 14; exact quiet_same (c8 _))))
  go_wp2_with fail
  go_ret
  exact ⟨rfl, hb7.trans ((below_drewN _ _).mono hb7.size)⟩

theorem tells_walk (x y z n : Int) (s : ByteArray) (w : World) (hx : -9223372036854775808 ≤ x ∧ x ≤ 9223372036854775807) (hn : -9223372036854775808 ≤ n ∧ n ≤ 9223372036854775807) (hC : Cal w) :
    Calls Tryd.prog 3 #[.agg #[.int .i64 x, .int .i64 y, .int .i64 z], .int .i64 n, .string s] w fun e w' => e = .returned (.bool true) ∧ Below w.heap.size w w' := by
  by_cases h : 60 < s.size
  · exact tells_long x y z n s w h hC
  · exact tells_short x y z n s w hx hn (by omega) hC

end Go.Proofs.YtfabkceefigmhaaDoor
