/- The walk of the law BareTells. -/
import Derived.Test.YtopfallmpbjbaaaDoorAwake02
import Derived.Test.YtopfallmpbjbaaaDoorRfH
import Derived.Test.YtopfallmpbjbaaaDoorRfQ
import Derived.Deep.RegionHeld3
namespace Go.Proofs.YtopfallmpbjbaaaDoor
open Go.RowKit

abbrev bareCells (k n : Int) (s : ByteArray) : Obj := .cells #[.int .i64 k, .int .i64 n, .string s] 23

def heldK (w W : World) : Prop := Alph W ∧ Below w.heap.size w W
/-- What the law's last statement reads, as long as it calls. -/
abbrev heldC (w W : World) (B0 B1 B2 : Nat) (x0 x1 x2 y0 y1 y2 z0 z1 z2 : Value) : Prop :=
  W.cell? ⟨B0, 0, none⟩ = some x0 ∧ W.cell? ⟨B0, 1, none⟩ = some x1 ∧ W.cell? ⟨B0, 2, none⟩ = some x2 ∧ W.cell? ⟨B1, 0, none⟩ = some y0 ∧ W.cell? ⟨B1, 1, none⟩ = some y1 ∧ W.cell? ⟨B1, 2, none⟩ = some y2 ∧ W.cell? ⟨B2, 0, none⟩ = some z0 ∧ W.cell? ⟨B2, 1, none⟩ = some z1 ∧ W.cell? ⟨B2, 2, none⟩ = some z2 ∧ heldK w W

theorem cell_next {W W1 : World} {b o : Nat} {v : Value} (hb : Below W.heap.size W W1) (h : W.cell? ⟨b, o, none⟩ = some v) : W1.cell? ⟨b, o, none⟩ = some v :=
  (hb.cell (p := ⟨b, o, none⟩) (lt_of_cell h)).trans h

theorem held_next {w W W1 : World} {B0 B1 B2 : Nat} {x0 x1 x2 y0 y1 y2 z0 z1 z2 : Value} (hb : Below W.heap.size W W1) (h : heldC w W B0 B1 B2 x0 x1 x2 y0 y1 y2 z0 z1 z2) : heldC w W1 B0 B1 B2 x0 x1 x2 y0 y1 y2 z0 z1 z2 := by
  obtain ⟨h0, h1, h2, h3, h4, h5, h6, h7, h8, hA, hB⟩ := h
  exact ⟨cell_next hb h0, cell_next hb h1, cell_next hb h2, cell_next hb h3, cell_next hb h4, cell_next hb h5, cell_next hb h6, cell_next hb h7, cell_next hb h8, hA.below hb, hB.trans (hb.mono hB.size)⟩

theorem held_below {w W : World} {B0 B1 B2 : Nat} {x0 x1 x2 y0 y1 y2 z0 z1 z2 : Value} (h : heldC w W B0 B1 B2 x0 x1 x2 y0 y1 y2 z0 z1 z2) : Below w.heap.size w W := h.2.2.2.2.2.2.2.2.2.2

theorem textV_is (o : Option (List UInt8)) : ∃ (t : ByteArray) (e : Int), textV o = .tuple #[.string t, .int .i64 e] := by
  cases o with
  | none => exact ⟨_, _, rfl⟩
  | some g => exact ⟨_, _, rfl⟩
theorem decV_is (o : Option (List UInt8)) : ∃ (t : ByteArray) (e : Int), decV o = .tuple #[.string t, .int .i64 e] := by
  cases o with
  | none => exact ⟨_, _, rfl⟩
  | some g => exact ⟨_, _, rfl⟩

theorem drew_below (W : World) : Below W.heap.size W W.drew := (Below.refl _ _).drew

set_option maxRecDepth 100000 in
set_option maxHeartbeats 2000000 in
theorem tells_long (k n : Int) (s t : ByteArray) (w : World) (hA : Alph w) (hP : Pow w) (hl : 300 < s.size ∨ (s.size ≤ 300 ∧ 300 < t.size)) :
    Calls Tryd.prog 3 #[.agg #[.int .i64 k, .int .i64 n, .string s], .string t] w fun e w' => e = .returned (.bool true) ∧ Below w.heap.size w w' := by
  have hb0 : Below w.heap.size w (w.alloc (bareCells k n s)) := (Below.refl _ _).alloc (Nat.le_refl _) _
  have cA := awake_any (w.alloc (bareCells k n s)) (hA.below hb0) (hP.below hb0)
  clear hA hP
  rcases hl with h1 | ⟨h1, h2⟩
  all_goals
    go_enter Tryd.func3, Tryd.ntmps3
    go_wp2_with fail
    refine cA.mono ?_
    rintro e w1 ⟨rfl, hb1⟩
    have hbw := hb0.trans (hb1.mono hb0.size)
    obtain ⟨p0, p1, p2⟩ := bare_cells w k n s w1 (by simpa using hb1)
    clear hb1 hb0 cA
    go_wp2_with fail
    go_ret
    exact ⟨rfl, hbw⟩

set_option maxRecDepth 100000 in
set_option maxHeartbeats 2000000 in
theorem tells_short (k n : Int) (S T : ByteArray) (w : World) (hA : Alph w) (hP : Pow w) (hn : -9223372036854775808 ≤ n ∧ n ≤ 9223372036854775807) (hs : S.size ≤ 300) (ht : T.size ≤ 300) :
    Calls Tryd.prog 3 #[.agg #[.int .i64 k, .int .i64 n, .string S], .string T] w fun e w' => e = .returned (.bool true) ∧ Below w.heap.size w w' := by
  have hb0 : Below w.heap.size w (w.alloc (bareCells k n S)) := (Below.refl _ _).alloc (Nat.le_refl _) _
  have cA := awake_any (w.alloc (bareCells k n S)) (hA.below hb0) (hP.below hb0)
  have HA := Lib.hid hA
  have HP := Lib.hid hP
  clear hA hP
  have cP := fun W hW hW2 => print_any k n S W (by omega) hn hW hW2
  have cP2 := fun W => fprint_any k n S W (by omega)
  have cQ := fun W hW => read_any T W (by omega) hW
  have cQ2 := fun W => fread_any T W (by omega)
  have cD := fun W hW => decode_any T W (by omega) hW
  have cD2 := fun W => fdecode_any T W (by omega)
  obtain ⟨X, xe, hX⟩ := textV_is (printL k n S.data.toList)
  rw [hX] at cP cP2
  obtain ⟨a, b, U, m, ge, hG⟩ := gotV_is (readL T.data.toList)
  rw [hG] at cQ cQ2
  obtain ⟨D, de, hD⟩ := decV_is (decL T.data.toList)
  rw [hD] at cD cD2
  clear hX hG hD
  go_enter Tryd.func3, Tryd.ntmps3
  go_wp2_with fail
  refine cA.mono ?_
  rintro e w1 ⟨rfl, c0⟩
  have hbw := hb0.trans (c0.mono hb0.size)
  obtain ⟨p0, p1, p2⟩ := bare_cells w k n S w1 (by simpa using c0)
  clear cA
  go_wp2_with fail
  refine (cP _ (HA.out.below hbw) (HP.out.below hbw)).mono ?_
  rintro e w2 ⟨rfl, hb2⟩
  replace c0 := c0.trans (hb2.mono c0.size)
  clear p0 p1 p2 hb2 hbw cP
  obtain ⟨p0, p1, p2⟩ := bare_cells w k n S w2 (by simpa using c0)
  go_wp2_with fail
  refine (cP2 _).mono ?_
  rintro e w3 ⟨rfl, hb3⟩
  replace c0 := c0.trans (hb3.mono c0.size)
  have hbw := hb0.trans (c0.mono hb0.size)
  clear p0 p1 p2 hb3 cP2
  go_wp2_with fail
  refine (cQ _ (HA.out.below hbw)).mono ?_
  rintro e w4 ⟨rfl, hb4⟩
  replace c0 := c0.trans (hb4.mono c0.size)
  replace c0 := c0.alloc c0.size (bareCells a b U)
  clear hb4 cQ hbw
  go_wp2_with fail
  refine (cQ2 _).mono ?_
  rintro e w5 ⟨rfl, c1⟩
  replace c0 := c0.trans (c1.mono c0.size)
  replace c0 := c0.alloc c0.size (bareCells a b U)
  replace c1 := c1.alloc c1.size (bareCells a b U)
  have hbw := hb0.trans (c0.mono hb0.size)
  clear cQ2
  go_wp2_with fail
  refine (cD _ (HA.out.below hbw)).mono ?_
  rintro e w6 ⟨rfl, c2⟩
  replace c0 := c0.trans (c2.mono c0.size)
  replace c1 := c1.trans (c2.mono c1.size)
  clear cD hbw
  go_wp2_with fail
  refine (cD2 _).mono ?_
  rintro e w7 ⟨rfl, hb7⟩
  replace c0 := c0.trans (hb7.mono c0.size)
  replace c1 := c1.trans (hb7.mono c1.size)
  replace c2 := c2.trans (hb7.mono c2.size)
  have hbw := hb0.trans (c0.mono hb0.size)
  clear hb7 cD2
  obtain ⟨p0, p1, p2⟩ := bare_cells w k n S w7 (by simpa using c0)
  obtain ⟨q0, q1, q2⟩ := bare_cells w4 a b U w7 (by simpa using c1)
  obtain ⟨r0, r1, r2⟩ := bare_cells w5 a b U w7 (by simpa using c2)
  have hS0 : heldC w w7.drew w.heap.size w4.heap.size w5.heap.size (.int .i64 k) (.int .i64 n) (.string S) (.int .i64 a) (.int .i64 b) (.string U) (.int .i64 a) (.int .i64 b) (.string U) :=
    held_next (drew_below w7) ⟨p0, p1, p2, q0, q1, q2, r0, r1, r2, HA.out.below hbw, hbw⟩
  have cR : ∀ W, heldC w W w.heap.size w4.heap.size w5.heap.size (.int .i64 k) (.int .i64 n) (.string S) (.int .i64 a) (.int .i64 b) (.string U) (.int .i64 a) (.int .i64 b) (.string U) →
      Calls Tryd.prog 16 #[.agg #[.int .i64 k, .int .i64 n, .string S]] W fun e w' => e = .returned (.bool (rightL k n S.data.toList)) ∧ heldC w w' w.heap.size w4.heap.size w5.heap.size (.int .i64 k) (.int .i64 n) (.string S) (.int .i64 a) (.int .i64 b) (.string U) (.int .i64 a) (.int .i64 b) (.string U) :=
    fun W h => (right_any k n S W (by omega)).mono fun e w' hh => ⟨hh.1, held_next hh.2 h⟩
  have cR2 : ∀ W, heldC w W w.heap.size w4.heap.size w5.heap.size (.int .i64 k) (.int .i64 n) (.string S) (.int .i64 a) (.int .i64 b) (.string U) (.int .i64 a) (.int .i64 b) (.string U) →
      Calls Tryd.prog 17 #[.agg #[.int .i64 k, .int .i64 n, .string S]] W fun e w' => e = .returned (.bool (rightL k n S.data.toList)) ∧ heldC w w' w.heap.size w4.heap.size w5.heap.size (.int .i64 k) (.int .i64 n) (.string S) (.int .i64 a) (.int .i64 b) (.string U) (.int .i64 a) (.int .i64 b) (.string U) :=
    fun W h => (fright_any k n S W (by omega)).mono fun e w' hh => ⟨hh.1, held_next hh.2 h⟩
  have cE : ∀ W, heldC w W w.heap.size w4.heap.size w5.heap.size (.int .i64 k) (.int .i64 n) (.string S) (.int .i64 a) (.int .i64 b) (.string U) (.int .i64 a) (.int .i64 b) (.string U) →
      Calls Tryd.prog 18 #[.string T] W fun e w' => e = .returned (.string (strB (encL T.data.toList))) ∧ heldC w w' w.heap.size w4.heap.size w5.heap.size (.int .i64 k) (.int .i64 n) (.string S) (.int .i64 a) (.int .i64 b) (.string U) (.int .i64 a) (.int .i64 b) (.string U) :=
    fun W h => (encode_any T W (by omega) h.2.2.2.2.2.2.2.2.2.1).mono fun e w' hh => ⟨hh.1, held_next hh.2 h⟩
  have cE2 : ∀ W, heldC w W w.heap.size w4.heap.size w5.heap.size (.int .i64 k) (.int .i64 n) (.string S) (.int .i64 a) (.int .i64 b) (.string U) (.int .i64 a) (.int .i64 b) (.string U) →
      Calls Tryd.prog 19 #[.string T] W fun e w' => e = .returned (.string (strB (encL T.data.toList))) ∧ heldC w w' w.heap.size w4.heap.size w5.heap.size (.int .i64 k) (.int .i64 n) (.string S) (.int .i64 a) (.int .i64 b) (.string U) (.int .i64 a) (.int .i64 b) (.string U) :=
    fun W h => (fencode_any T W (by omega)).mono fun e w' hh => ⟨hh.1, held_next hh.2 h⟩
  generalize rightL k n S.data.toList = R at cR cR2
  generalize strB (encL T.data.toList) = E at cE cE2
  clear p0 p1 p2 q0 q1 q2 r0 r1 r2 c0 c1 c2 hb0 hbw
  generalize w4.heap.size = B1 at *
  generalize w5.heap.size = B2 at *
  go_wp2_with fail
  go_region_held3 (fun W => W.cell? ⟨w.heap.size, 0, none⟩ = some (.int .i64 k) ∧ W.cell? ⟨w.heap.size, 1, none⟩ = some (.int .i64 n) ∧ W.cell? ⟨w.heap.size, 2, none⟩ = some (.string S) ∧ W.cell? ⟨B1, 0, none⟩ = some (.int .i64 a) ∧ W.cell? ⟨B1, 1, none⟩ = some (.int .i64 b) ∧ W.cell? ⟨B1, 2, none⟩ = some (.string U) ∧ W.cell? ⟨B2, 0, none⟩ = some (.int .i64 a) ∧ W.cell? ⟨B2, 1, none⟩ = some (.int .i64 b) ∧ W.cell? ⟨B2, 2, none⟩ = some (.string U) ∧ heldK w W) (first | assumption | go_keep)
    (first | (go_at_call 16; refine (cR _ (by assumption)).mono ?_; rintro e w' ⟨rfl, hh⟩) | (go_at_call 17; refine (cR2 _ (by assumption)).mono ?_; rintro e w' ⟨rfl, hh⟩) | (go_at_call 18; refine (cE _ (by assumption)).mono ?_; rintro e w' ⟨rfl, hh⟩) | (go_at_call 19; refine (cE2 _ (by assumption)).mono ?_; rintro e w' ⟨rfl, hh⟩))
  all_goals go_wp2_with fail
  all_goals go_ret
  all_goals exact ⟨rfl, held_below (show heldC w _ w.heap.size B1 B2 (.int .i64 k) (.int .i64 n) (.string S) (.int .i64 a) (.int .i64 b) (.string U) (.int .i64 a) (.int .i64 b) (.string U) by assumption)⟩

theorem tells_walk (k n : Int) (S T : ByteArray) (w : World) (hA : Alph w) (hP : Pow w) (hn : -9223372036854775808 ≤ n ∧ n ≤ 9223372036854775807) :
    Calls Tryd.prog 3 #[.agg #[.int .i64 k, .int .i64 n, .string S], .string T] w fun e w' => e = .returned (.bool true) ∧ Below w.heap.size w w' := by
  by_cases h1 : 300 < S.size
  · exact tells_long k n S T w hA hP (.inl h1)
  · by_cases h2 : 300 < T.size
    · exact tells_long k n S T w hA hP (.inr ⟨by omega, h2⟩)
    · exact tells_short k n S T w hA hP hn (by omega) (by omega)

end Go.Proofs.YtopfallmpbjbaaaDoor
