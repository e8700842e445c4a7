/- The contract of bare.Print. -/
import Derived.Test.YtcjnigmklijjiaaDoorBarF
import Derived.Test.YtcjnigmklijjiaaDoorBarG
namespace Go.Proofs.YtcjnigmklijjiaaDoor
open Go.RowKit

/-- The text of a bare item that is valid. -/
def textL (k n : Int) (s : List UInt8) : List UInt8 :=
  if k = 1 then Lib.itoa n else if k = 2 then decT n else if k = 3 then strT s else if k = 4 then s else if k = 5 then 58 :: (encL s ++ [58]) else 63 :: Lib.itoa n

def printL (k n : Int) (s : List UInt8) : Option (List UInt8) := if rightL k n s then some (textL k n s) else none

/-- A text and OK, or none and ErrForm. -/
def textV (o : Option (List UInt8)) : Value := match o with
  | some b => .tuple #[.string (strB b), .int .i64 0]
  | none => .tuple #[.string (strB []), .int .i64 2]

def printPost (v : Value) (w : World) (e : Ending) (w' : World) : Prop := e = .returned v ∧ Below w.heap.size w w'

theorem right_kind (k n : Int) (s : List UInt8) (h : rightL k n s = true) : ((k = 1 ∨ k = 2) ∧ s = [] ∧ -1000000000000000 < n ∧ n < 1000000000000000) ∨ (k = 6 ∧ s = [] ∧ (n = 0 ∨ n = 1)) ∨ (k = 3 ∧ n = 0 ∧ prL s = true) ∨ (k = 4 ∧ n = 0 ∧ s ≠ [] ∧ tlen s = s.length) ∨ (k = 5 ∧ n = 0) := by
  unfold rightL inNum at h
  split at h
  · rename_i hk
    simp at h
    exact .inl ⟨hk, h.1, h.2.1, h.2.2⟩
  · split at h
    · rename_i hk
      simp at h
      exact .inr (.inl ⟨hk, h.1, h.2⟩)
    · split at h
      · rename_i hk
        simp at h
        exact .inr (.inr (.inl ⟨hk, h.1, h.2⟩))
      · split at h
        · rename_i hk
          simp at h
          exact .inr (.inr (.inr (.inl ⟨hk, h.1, h.2.1, h.2.2⟩)))
        · split at h
          · rename_i hk
            simp at h
            exact .inr (.inr (.inr (.inr ⟨hk, h⟩)))
          · cases h

set_option maxRecDepth 100000 in
set_option maxHeartbeats 4000000 in
theorem print_any (k n : Int) (s : ByteArray) (w : World) (hs : s.size ≤ 100000) (hn : -9223372036854775808 ≤ n ∧ n ≤ 9223372036854775807) (hA : Alph w) (hP : Pow w) :
    Calls Tryd.prog 14 #[.agg #[.int .i64 k, .int .i64 n, .string s]] w (printPost (textV (printL k n s.data.toList)) w) := by
  have HA := Lib.hid hA
  have HP := Lib.hid hP
  clear hA hP
  have cR := fun W => right_any k n s W hs
  have hb0 : Below w.heap.size w (w.alloc (.cells #[.int .i64 k, .int .i64 n, .string s] 23)) := (Below.refl _ _).alloc (Nat.le_refl _) _
  have cell0 : ∀ W, Below (w.heap.size + 1) (w.alloc (.cells #[.int .i64 k, .int .i64 n, .string s] 23)) W → (W.cell? ⟨w.heap.size, 0, none⟩ = some (.int .i64 k) ∧ W.cell? ⟨w.heap.size, 1, none⟩ = some (.int .i64 n) ∧ W.cell? ⟨w.heap.size, 2, none⟩ = some (.string s)) ∧ w.heap.size < W.heap.size := by
    intro W hW
    refine ⟨⟨?_, ?_, ?_⟩, ?_⟩
    · rw [hW.cell (p := ⟨w.heap.size, 0, none⟩) (by simp)]; simp
    · rw [hW.cell (p := ⟨w.heap.size, 1, none⟩) (by simp)]; simp
    · rw [hW.cell (p := ⟨w.heap.size, 2, none⟩) (by simp)]; simp
    · have := hW.size; simp at this; omega
  have Cell0 := Lib.hid cell0
  clear cell0
  cases hr : rightL k n s.data.toList
  · have Hpl : Hid (textV (printL k n s.data.toList) = .tuple #[.string ⟨#[]⟩, .int .i64 2]) := Lib.hid (by rw [printL, hr]; rfl)
    rw [hr] at cR
    rw [Hpl.out]
    clear hr
    go_enter Tryd.func14, Tryd.ntmps14
    go_wp2_with fail
    refine (cR _).mono ?_
    rintro e w1 ⟨rfl, hb1⟩
    go_wp2
    go_ret2
    exact ⟨rfl, hb0.trans (hb1.mono hb0.size)⟩
  · have hk := right_kind k n _ hr
    have Hpl : Hid (printL k n s.data.toList = some (textL k n s.data.toList)) := Lib.hid (by rw [printL, hr]; rfl)
    rw [hr] at cR
    rw [Hpl.out]
    clear hr
    rcases hk with ⟨rfl | rfl, _, g0, g1⟩ | ⟨rfl, _, g0⟩ | ⟨rfl, rfl, _⟩ | ⟨rfl, rfl, _, _⟩ | ⟨rfl, rfl⟩
    · have cF := fun W hW => fmt_any n hn.1 hn.2 W hW
      show Calls _ _ _ _ (printPost (.tuple #[.string (strB (Lib.itoa n)), .int .i64 0]) w)
      generalize strB (Lib.itoa n) = z at cF
      go_enter Tryd.func14, Tryd.ntmps14
      go_wp2_with fail
      refine (cR _).mono ?_
      rintro e w1 ⟨rfl, hb1⟩
      have hb1' := hb0.trans (hb1.mono hb0.size)
      obtain ⟨⟨q0, q1, q2⟩, q3⟩ := Cell0.out w1 (hb1.mono (by simp))
      clear hb1
      go_wp2_with fail
      refine (cF _ (HP.out.below hb1')).mono ?_
      rintro e w2 ⟨rfl, hb2⟩
      go_wp2
      go_ret2
      exact ⟨rfl, hb1'.trans (hb2.mono hb1'.size)⟩
    · have cF := fun W hW => decimalText_any n g0 g1 W hW
      show Calls _ _ _ _ (printPost (.tuple #[.string (strB (decT n)), .int .i64 0]) w)
      generalize strB (decT n) = z at cF
      go_enter Tryd.func14, Tryd.ntmps14
      go_wp2_with fail
      refine (cR _).mono ?_
      rintro e w1 ⟨rfl, hb1⟩
      have hb1' := hb0.trans (hb1.mono hb0.size)
      obtain ⟨⟨q0, q1, q2⟩, q3⟩ := Cell0.out w1 (hb1.mono (by simp))
      clear hb1
      go_wp2_with fail
      refine (cF _ (HP.out.below hb1')).mono ?_
      rintro e w2 ⟨rfl, hb2⟩
      go_wp2
      go_ret2
      exact ⟨rfl, hb1'.trans (hb2.mono hb1'.size)⟩
    · have cF := fun W hW => fmt_any n hn.1 hn.2 W hW
      have Hfin : Hid ((⟨#[63]⟩ : ByteArray) ++ strB (Lib.itoa n) = strB (63 :: Lib.itoa n)) := Lib.hid (strB_append [63] _)
      have hz : (strB (Lib.itoa n)).size ≤ 10 := by
        rw [strB_size]
        rcases g0 with rfl | rfl <;> simp [Lib.itoa, Lib.decDigits_one]
      show Calls _ _ _ _ (printPost (.tuple #[.string (strB (63 :: Lib.itoa n)), .int .i64 0]) w)
      generalize strB (63 :: Lib.itoa n) = y at Hfin
      generalize strB (Lib.itoa n) = z at cF Hfin hz
      go_enter Tryd.func14, Tryd.ntmps14
      go_wp2_with fail
      refine (cR _).mono ?_
      rintro e w1 ⟨rfl, hb1⟩
      have hb1' := hb0.trans (hb1.mono hb0.size)
      obtain ⟨⟨q0, q1, q2⟩, q3⟩ := Cell0.out w1 (hb1.mono (by simp))
      clear hb1
      go_wp2_with fail
      refine (cF _ (HP.out.below hb1')).mono ?_
      rintro e w2 ⟨rfl, hb2⟩
      go_wp2
      go_ret2
      exact ⟨by rw [← Hfin.out]; rfl, hb1'.trans (hb2.mono hb1'.size)⟩
    · have cF := fun W => stringText_any s W hs
      show Calls _ _ _ _ (printPost (.tuple #[.string (strB (strT s.data.toList)), .int .i64 0]) w)
      generalize strB (strT s.data.toList) = z at cF
      go_enter Tryd.func14, Tryd.ntmps14
      go_wp2_with fail
      refine (cR _).mono ?_
      rintro e w1 ⟨rfl, hb1⟩
      have hb1' := hb0.trans (hb1.mono hb0.size)
      obtain ⟨⟨q0, q1, q2⟩, q3⟩ := Cell0.out w1 (hb1.mono (by simp))
      clear hb1
      go_wp2_with fail
      refine (cF _).mono ?_
      rintro e w2 ⟨rfl, hb2⟩
      go_wp2
      go_ret2
      exact ⟨rfl, hb1'.trans (hb2.mono hb1'.size)⟩
    · show Calls _ _ _ _ (printPost (.tuple #[.string (strB s.data.toList), .int .i64 0]) w)
      rw [strB_of]
      go_enter Tryd.func14, Tryd.ntmps14
      go_wp2_with fail
      refine (cR _).mono ?_
      rintro e w1 ⟨rfl, hb1⟩
      have hb1' := hb0.trans (hb1.mono hb0.size)
      obtain ⟨⟨q0, q1, q2⟩, q3⟩ := Cell0.out w1 (hb1.mono (by simp))
      clear hb1
      go_wp2
      go_ret2
      exact ⟨rfl, hb1'⟩
    · have cF := fun W hW => encode_any s W (by omega) hW
      have Hfin : Hid (((⟨#[58]⟩ : ByteArray) ++ strB (encL s.data.toList)) ++ (⟨#[58]⟩ : ByteArray) = strB (58 :: (encL s.data.toList ++ [58]))) := Lib.hid (by
        rw [show (⟨#[58]⟩ : ByteArray) = strB [58] from rfl, strB_append, strB_append]; rfl)
      have hz : (strB (encL s.data.toList)).size ≤ 1000000 := by
        have := encL_len s.data.toList
        rw [← Lib.size_eq] at this
        rw [strB_size]; omega
      show Calls _ _ _ _ (printPost (.tuple #[.string (strB (58 :: (encL s.data.toList ++ [58]))), .int .i64 0]) w)
      generalize strB (58 :: (encL s.data.toList ++ [58])) = y at Hfin
      generalize strB (encL s.data.toList) = z at cF Hfin hz
      go_enter Tryd.func14, Tryd.ntmps14
      go_wp2_with fail
      refine (cR _).mono ?_
      rintro e w1 ⟨rfl, hb1⟩
      have hb1' := hb0.trans (hb1.mono hb0.size)
      obtain ⟨⟨q0, q1, q2⟩, q3⟩ := Cell0.out w1 (hb1.mono (by simp))
      clear hb1
      go_wp2_with fail
      refine (cF _ (HA.out.below hb1')).mono ?_
      rintro e w2 ⟨rfl, hb2⟩
      go_wp2
      go_ret2
      exact ⟨by rw [← Hfin.out]; rfl, hb1'.trans (hb2.mono hb1'.size)⟩

end Go.Proofs.YtcjnigmklijjiaaDoor
