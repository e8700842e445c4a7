/- The contract of item.Same. -/
import Derived.Test.YtcjnigmklijjiaaDoorItmN
namespace Go.Proofs.YtcjnigmklijjiaaDoor
open Go.RowKit

/-- Whether two items are the same. -/
def sameI (k n : Int) (s : List UInt8) (ps : List Prm) (k' n' : Int) (s' : List UInt8) (qs : List Prm) : Bool :=
  (k == k' && (n == n' && ((strB s).toList == (strB s').toList))) && samePs ps qs

set_option maxRecDepth 100000 in
set_option maxHeartbeats 2000000 in
theorem isame_any (k n k' n' : Int) (s s' : List UInt8) (v1 v2 : Value) (ps qs : List Prm) (w : World) (h1 : Prms w v1 ps) (h2 : Prms w v2 qs) (hl1 : ps.length ≤ 100000) (hl2 : qs.length ≤ 100000) :
    Calls Tryd.prog 10 #[.agg #[.int .i64 k, .int .i64 n, .string (strB s), v1], .agg #[.int .i64 k', .int .i64 n', .string (strB s'), v2]] w fun e w' => e = .returned (.bool (sameI k n s ps k' n' s' qs)) ∧ Below w.heap.size w w' := by
  have H1 := Lib.hid h1
  have H2 := Lib.hid h2
  have hb0 : Below w.heap.size w ((w.alloc (.cells #[.int .i64 k, .int .i64 n, .string (strB s), v1] 26)).alloc (.cells #[.int .i64 k', .int .i64 n', .string (strB s'), v2] 26)) := ((Below.refl _ _).alloc (Nat.le_refl _) _).alloc (by simp) _
  have cE := equal_any v1 v2 ps qs ((w.alloc (.cells #[.int .i64 k, .int .i64 n, .string (strB s), v1] 26)).alloc (.cells #[.int .i64 k', .int .i64 n', .string (strB s'), v2] 26)) (h1.below hb0) (h2.below hb0) hl1 hl2
  obtain ⟨ao1, cap1, rfl, hc1⟩ := h1
  obtain ⟨ao2, cap2, rfl, hc2⟩ := h2
  clear hc1 hc2
  by_cases hk : k = k'
  · subst hk
    by_cases hn : n = n'
    · subst hn
      by_cases ht : (strB s).toList = (strB s').toList
      · have hs : s = s' := by simpa only [Lib.toList_data, strB_data] using ht
        subst hs
        have HS : Hid (sameI k n s ps k n s qs = samePs ps qs) := Lib.hid (by simp [sameI])
        clear ht
        generalize strB s = S at *
        go_enter Tryd.func10, Tryd.ntmps10
        go_wp2_with fail
        refine cE.mono ?_
        rintro e w1 ⟨rfl, hb1⟩
        go_wp2_with fail
        go_ret
        exact ⟨ret_eq (bool_eq HS.out.symm), hb0.trans (hb1.mono hb0.size)⟩
      · have HS : Hid (sameI k n s ps k n s' qs = false) := Lib.hid (by simp only [sameI, beq_eq_false_iff_ne.2 ht, Bool.and_false, Bool.false_and])
        generalize strB s = S at *
        generalize strB s' = S' at *
        clear cE
        go_enter Tryd.func10, Tryd.ntmps10
        go_wp2_with fail
        go_ret
        exact ⟨ret_eq (bool_eq HS.out.symm), hb0⟩
    · have HS : Hid (sameI k n s ps k n' s' qs = false) := Lib.hid (by simp only [sameI, beq_eq_false_iff_ne.2 hn, Bool.and_false, Bool.false_and])
      clear cE
      go_enter Tryd.func10, Tryd.ntmps10
      go_wp2_with fail
      go_ret
      exact ⟨ret_eq (bool_eq HS.out.symm), hb0⟩
  · have HS : Hid (sameI k n s ps k' n' s' qs = false) := Lib.hid (by simp only [sameI, beq_eq_false_iff_ne.2 hk, Bool.false_and])
    clear cE
    go_enter Tryd.func10, Tryd.ntmps10
    go_wp2_with fail
    go_ret
    exact ⟨ret_eq (bool_eq HS.out.symm), hb0⟩

end Go.Proofs.YtcjnigmklijjiaaDoor
