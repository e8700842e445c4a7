/- The walk of the law BareBack. -/
import Derived.Test.YtopfallmpbjbaaaDoorAwake02
import Derived.Test.YtopfallmpbjbaaaDoorBarR
namespace Go.Proofs.YtopfallmpbjbaaaDoor
open Go.RowKit

abbrev bareObj (k n : Int) (s : ByteArray) : Obj := .cells #[.int .i64 k, .int .i64 n, .string s] 23

theorem gotV_some (k n : Int) (s : List UInt8) (m : Nat) : gotV (some ⟨k, n, s, m⟩) = .tuple #[.agg #[.int .i64 k, .int .i64 n, .string (strB s)], .int .i64 (m : Int), .int .i64 0] := rfl
theorem gotV_none : gotV none = .tuple #[.agg #[.int .i64 0, .int .i64 0, .string ⟨#[]⟩], .int .i64 0, .int .i64 2] := rfl
theorem textV_some (t : List UInt8) : textV (some t) = .tuple #[.string (strB t), .int .i64 0] := rfl
theorem textV_none : textV none = .tuple #[.string ⟨#[]⟩, .int .i64 2] := rfl

set_option maxRecDepth 100000 in
set_option maxHeartbeats 2000000 in
theorem back_long (k n : Int) (s t : ByteArray) (w : World) (hA : Alph w) (hP : Pow w) (hl : 300 < s.size ∨ (s.size ≤ 300 ∧ 300 < t.size)) :
    Calls Tryd.prog 4 #[.agg #[.int .i64 k, .int .i64 n, .string s], .string t] w fun e w' => e = .returned (.bool true) ∧ Below w.heap.size w w' := by
  have hb0 : Below w.heap.size w (w.alloc (bareObj k n s)) := (Below.refl _ _).alloc (Nat.le_refl _) _
  have cA := awake_any (w.alloc (bareObj k n s)) (hA.below hb0) (hP.below hb0)
  clear hA hP
  rcases hl with h1 | ⟨h1, h2⟩
  all_goals
    go_enter Tryd.func4, Tryd.ntmps4
    go_wp2_with fail
    refine cA.mono ?_
    rintro e w1 ⟨rfl, hb1⟩
    have hbw := hb0.trans (hb1.mono hb0.size)
    obtain ⟨p0, p1, p2⟩ := bare_cells w k n s w1 (by simpa using hb1)
    clear hb1 hb0 cA
    go_wp2_with fail
    go_ret
    exact ⟨rfl, hbw⟩

set_option maxRecDepth 100000 in
set_option maxHeartbeats 2000000 in
theorem back_00 (k n : Int) (p q : List UInt8) (w : World) (hA : Alph w) (hP : Pow w) (hn : -9223372036854775808 ≤ n ∧ n ≤ 9223372036854775807) (hp : p.length ≤ 300) (hq : q.length ≤ 300) (hr : rightL k n p = false) (hg : readL q = none) :
    Calls Tryd.prog 4 #[.agg #[.int .i64 k, .int .i64 n, .string (strB p)], .string (strB q)] w fun e w' => e = .returned (.bool true) ∧ Below w.heap.size w w' := by
  have hb0 : Below w.heap.size w (w.alloc (bareObj k n (strB p))) := (Below.refl _ _).alloc (Nat.le_refl _) _
  have cA := awake_any (w.alloc (bareObj k n (strB p))) (hA.below hb0) (hP.below hb0)
  have HA := Lib.hid hA
  have HP := Lib.hid hP
  clear hA hP
  have hs := strB_size p
  have ht := strB_size q
  have cP := fun W hW hW2 => print_any k n (strB p) W (by omega) hn hW hW2
  have cR := fun W => right_any k n (strB p) W (by omega)
  have cQ := fun W hW => read_any (strB q) W (by omega) hW
  rw [strB_data] at cP cR cQ
  have hs3 : (strB p).size ≤ 300 := by omega
  have ht3 : (strB q).size ≤ 300 := by omega
  rw [printL, hr, if_neg (by simp), textV_none] at cP
  rw [hr] at cR
  rw [hg, gotV_none] at cQ
  clear hs ht hr hg
  generalize strB p = S at *
  generalize strB q = T at *
  go_enter Tryd.func4, Tryd.ntmps4
  go_wp2_with fail
  refine cA.mono ?_
  rintro e w1 ⟨rfl, c0⟩
  have hbw := hb0.trans (c0.mono hb0.size)
  obtain ⟨p0, p1, p2⟩ := bare_cells w k n S w1 (by simpa using c0)
  clear cA
  go_wp2_with fail
  refine (cP _ (HA.out.below hbw) (HP.out.below hbw)).mono ?_
  rintro e w2 ⟨rfl, hb2⟩
  replace c0 := c0.trans (hb2.mono c0.size)
  clear p0 p1 p2 hb2 hbw
  obtain ⟨p0, p1, p2⟩ := bare_cells w k n S w2 (by simpa using c0)
  go_wp2_with fail
  refine (cR _).mono ?_
  rintro e w3 ⟨rfl, hb3⟩
  replace c0 := c0.trans (hb3.mono c0.size)
  have hbw := hb0.trans (c0.mono hb0.size)
  clear p0 p1 p2 hb3
  go_wp2_with fail
  refine (cQ _ (HA.out.below hbw)).mono ?_
  rintro e w6 ⟨rfl, hb6⟩
  replace c0 := c0.trans (hb6.mono c0.size)
  replace c0 := c0.alloc c0.size (bareObj 0 0 ⟨#[]⟩)
  have hbw := hb0.trans (c0.mono hb0.size)
  clear hb6
  go_wp2_with fail
  go_ret
  exact ⟨rfl, hbw⟩

set_option maxRecDepth 100000 in
set_option maxHeartbeats 2000000 in
theorem back_01 (k n : Int) (p q : List UInt8) (w : World) (hA : Alph w) (hP : Pow w) (hn : -9223372036854775808 ≤ n ∧ n ≤ 9223372036854775807) (hp : p.length ≤ 300) (hq : q.length ≤ 300) (hr : rightL k n p = false) (a b : Int) (c : List UInt8) (m : Nat) (hg : readL q = some ⟨a, b, c, m⟩) :
    Calls Tryd.prog 4 #[.agg #[.int .i64 k, .int .i64 n, .string (strB p)], .string (strB q)] w fun e w' => e = .returned (.bool true) ∧ Below w.heap.size w w' := by
  have hb0 : Below w.heap.size w (w.alloc (bareObj k n (strB p))) := (Below.refl _ _).alloc (Nat.le_refl _) _
  have cA := awake_any (w.alloc (bareObj k n (strB p))) (hA.below hb0) (hP.below hb0)
  have HA := Lib.hid hA
  have HP := Lib.hid hP
  clear hA hP
  have hs := strB_size p
  have ht := strB_size q
  have cP := fun W hW hW2 => print_any k n (strB p) W (by omega) hn hW hW2
  have cR := fun W => right_any k n (strB p) W (by omega)
  have cQ := fun W hW => read_any (strB q) W (by omega) hW
  rw [strB_data] at cP cR cQ
  have hs3 : (strB p).size ≤ 300 := by omega
  have ht3 : (strB q).size ≤ 300 := by omega
  rw [printL, hr, if_neg (by simp), textV_none] at cP
  rw [hr] at cR
  obtain ⟨gr, g1, g2, g3⟩ := readL_right q ⟨a, b, c, m⟩ hg
  simp only at gr g1 g2 g3
  have gn := right_n a b c gr
  have glen := textL_len a b c gr
  have y1 := readL_text a b c [] gr rfl
  rw [List.append_nil] at y1
  have hcs := strB_size c
  have hys := strB_size (textL a b c)
  have cV := fun W hW hW2 => print_any a b (strB c) W (by omega) (by omega) hW hW2
  rw [strB_data, printL, gr, if_pos rfl, textV_some] at cV
  have cW := fun W hW => read_any (strB (textL a b c)) W (by omega) hW
  rw [strB_data, y1, ← hys, gotV_some] at cW
  rw [hg, gotV_some] at cQ
  rw [← ht] at g2
  have hy3 : (strB (textL a b c)).size ≤ 1000 := by omega
  clear y1 hys hcs glen gr gn g3
  generalize strB (textL a b c) = Y at *
  generalize strB c = C at *
  clear hs ht hr hg
  generalize strB p = S at *
  generalize strB q = T at *
  go_enter Tryd.func4, Tryd.ntmps4
  go_wp2_with fail
  refine cA.mono ?_
  rintro e w1 ⟨rfl, c0⟩
  have hbw := hb0.trans (c0.mono hb0.size)
  obtain ⟨p0, p1, p2⟩ := bare_cells w k n S w1 (by simpa using c0)
  clear cA
  go_wp2_with fail
  refine (cP _ (HA.out.below hbw) (HP.out.below hbw)).mono ?_
  rintro e w2 ⟨rfl, hb2⟩
  replace c0 := c0.trans (hb2.mono c0.size)
  clear p0 p1 p2 hb2 hbw
  obtain ⟨p0, p1, p2⟩ := bare_cells w k n S w2 (by simpa using c0)
  go_wp2_with fail
  refine (cR _).mono ?_
  rintro e w3 ⟨rfl, hb3⟩
  replace c0 := c0.trans (hb3.mono c0.size)
  have hbw := hb0.trans (c0.mono hb0.size)
  clear p0 p1 p2 hb3
  go_wp2_with fail
  refine (cQ _ (HA.out.below hbw)).mono ?_
  rintro e w6 ⟨rfl, hb6⟩
  replace c0 := c0.trans (hb6.mono c0.size)
  replace c0 := c0.alloc c0.size (bareObj a b C)
  have hbw := hb0.trans (c0.mono hb0.size)
  clear hb6
  go_wp2_with fail
  refine (cV _ (HA.out.below hbw) (HP.out.below hbw)).mono ?_
  rintro e w7 ⟨rfl, c1⟩
  replace c0 := c0.trans (c1.mono c0.size)
  have hbw := hb0.trans (c0.mono hb0.size)
  go_wp2_with fail
  refine (cW _ (HA.out.below hbw)).mono ?_
  rintro e w8 ⟨rfl, hb8⟩
  replace c0 := c0.trans (hb8.mono c0.size)
  replace c1 := c1.trans (hb8.mono c1.size)
  obtain ⟨p0, p1, p2⟩ := bare_cells w6 a b C w8 (by simpa using c1)
  have s1 : w6.heap.size < w8.heap.size := by have := c1.size; simp at this; omega
  replace c0 := c0.alloc c0.size (bareObj a b C)
  have hbw := hb0.trans (c0.mono hb0.size)
  clear c1 hb8
  go_wp2_with fail
  go_ret
  exact ⟨rfl, hbw⟩

set_option maxRecDepth 100000 in
set_option maxHeartbeats 2000000 in
theorem back_10 (k n : Int) (p q : List UInt8) (w : World) (hA : Alph w) (hP : Pow w) (hn : -9223372036854775808 ≤ n ∧ n ≤ 9223372036854775807) (hp : p.length ≤ 300) (hq : q.length ≤ 300) (hr : rightL k n p = true) (hg : readL q = none) :
    Calls Tryd.prog 4 #[.agg #[.int .i64 k, .int .i64 n, .string (strB p)], .string (strB q)] w fun e w' => e = .returned (.bool true) ∧ Below w.heap.size w w' := by
  have hb0 : Below w.heap.size w (w.alloc (bareObj k n (strB p))) := (Below.refl _ _).alloc (Nat.le_refl _) _
  have cA := awake_any (w.alloc (bareObj k n (strB p))) (hA.below hb0) (hP.below hb0)
  have HA := Lib.hid hA
  have HP := Lib.hid hP
  clear hA hP
  have hs := strB_size p
  have ht := strB_size q
  have cP := fun W hW hW2 => print_any k n (strB p) W (by omega) hn hW hW2
  have cR := fun W => right_any k n (strB p) W (by omega)
  have cQ := fun W hW => read_any (strB q) W (by omega) hW
  rw [strB_data] at cP cR cQ
  have hs3 : (strB p).size ≤ 300 := by omega
  have ht3 : (strB q).size ≤ 300 := by omega
  have hlen := textL_len k n p hr
  have x1 := readL_text k n p [] hr rfl
  have x2 := readL_text k n p [59] hr (by decide)
  rw [List.append_nil] at x1
  rw [printL, hr, if_pos rfl, textV_some] at cP
  rw [hr] at cR
  have hxs := strB_size (textL k n p)
  have cX := fun W hW => read_any (strB (textL k n p)) W (by omega) hW
  have e59 : (strB (textL k n p) ++ (⟨#[59]⟩ : ByteArray)).data.toList = textL k n p ++ [59] := by rw [append_data]; rfl
  have cY := fun W hW => read_any (strB (textL k n p) ++ (⟨#[59]⟩ : ByteArray)) W (by rw [Lib.size_eq, e59, List.length_append, ← strB_size]; simp; omega) hW
  rw [strB_data, x1, ← hxs, gotV_some] at cX
  rw [e59, x2, ← hxs, gotV_some] at cY
  have hx3 : (strB (textL k n p)).size ≤ 1000 := by omega
  clear e59 x1 x2 hxs hlen
  rw [hg, gotV_none] at cQ
  clear hs ht hr hg
  generalize strB (textL k n p) = X at *
  generalize strB p = S at *
  generalize strB q = T at *
  go_enter Tryd.func4, Tryd.ntmps4
  go_wp2_with fail
  refine cA.mono ?_
  rintro e w1 ⟨rfl, c0⟩
  have hbw := hb0.trans (c0.mono hb0.size)
  obtain ⟨p0, p1, p2⟩ := bare_cells w k n S w1 (by simpa using c0)
  clear cA
  go_wp2_with fail
  refine (cP _ (HA.out.below hbw) (HP.out.below hbw)).mono ?_
  rintro e w2 ⟨rfl, hb2⟩
  replace c0 := c0.trans (hb2.mono c0.size)
  clear p0 p1 p2 hb2 hbw
  obtain ⟨p0, p1, p2⟩ := bare_cells w k n S w2 (by simpa using c0)
  go_wp2_with fail
  refine (cR _).mono ?_
  rintro e w3 ⟨rfl, hb3⟩
  replace c0 := c0.trans (hb3.mono c0.size)
  have hbw := hb0.trans (c0.mono hb0.size)
  clear p0 p1 p2 hb3
  go_wp2_with fail
  refine (cX _ (HA.out.below hbw)).mono ?_
  rintro e w4 ⟨rfl, hb4⟩
  replace c0 := c0.trans (hb4.mono c0.size)
  replace c0 := c0.alloc c0.size (bareObj k n S)
  have hbw := hb0.trans (c0.mono hb0.size)
  clear hb4
  go_wp2_with fail
  refine (cY _ (HA.out.below hbw)).mono ?_
  rintro e w5 ⟨rfl, c1⟩
  replace c0 := c0.trans (c1.mono c0.size)
  obtain ⟨p0, p1, p2⟩ := bare_cells w k n S w5 (by simpa using c0)
  obtain ⟨q0, q1, q2⟩ := bare_cells w4 k n S w5 (by simpa using c1)
  have s1 : w.heap.size < w5.heap.size := by have := c0.size; simp at this; omega
  have s2 : w4.heap.size < w5.heap.size := by have := c1.size; simp at this; omega
  replace c0 := c0.alloc c0.size (bareObj k n S)
  have hbw := hb0.trans (c0.mono hb0.size)
  clear c1
  go_wp2_with fail
  clear p0 p1 p2 q0 q1 q2 s1 s2
  refine (cQ _ (HA.out.below hbw)).mono ?_
  rintro e w6 ⟨rfl, hb6⟩
  replace c0 := c0.trans (hb6.mono c0.size)
  replace c0 := c0.alloc c0.size (bareObj 0 0 ⟨#[]⟩)
  have hbw := hb0.trans (c0.mono hb0.size)
  clear hb6
  go_wp2_with fail
  go_ret
  exact ⟨rfl, hbw⟩

set_option maxRecDepth 100000 in
set_option maxHeartbeats 2000000 in
theorem back_11 (k n : Int) (p q : List UInt8) (w : World) (hA : Alph w) (hP : Pow w) (hn : -9223372036854775808 ≤ n ∧ n ≤ 9223372036854775807) (hp : p.length ≤ 300) (hq : q.length ≤ 300) (hr : rightL k n p = true) (a b : Int) (c : List UInt8) (m : Nat) (hg : readL q = some ⟨a, b, c, m⟩) :
    Calls Tryd.prog 4 #[.agg #[.int .i64 k, .int .i64 n, .string (strB p)], .string (strB q)] w fun e w' => e = .returned (.bool true) ∧ Below w.heap.size w w' := by
  have hb0 : Below w.heap.size w (w.alloc (bareObj k n (strB p))) := (Below.refl _ _).alloc (Nat.le_refl _) _
  have cA := awake_any (w.alloc (bareObj k n (strB p))) (hA.below hb0) (hP.below hb0)
  have HA := Lib.hid hA
  have HP := Lib.hid hP
  clear hA hP
  have hs := strB_size p
  have ht := strB_size q
  have cP := fun W hW hW2 => print_any k n (strB p) W (by omega) hn hW hW2
  have cR := fun W => right_any k n (strB p) W (by omega)
  have cQ := fun W hW => read_any (strB q) W (by omega) hW
  rw [strB_data] at cP cR cQ
  have hs3 : (strB p).size ≤ 300 := by omega
  have ht3 : (strB q).size ≤ 300 := by omega
  have hlen := textL_len k n p hr
  have x1 := readL_text k n p [] hr rfl
  have x2 := readL_text k n p [59] hr (by decide)
  rw [List.append_nil] at x1
  rw [printL, hr, if_pos rfl, textV_some] at cP
  rw [hr] at cR
  have hxs := strB_size (textL k n p)
  have cX := fun W hW => read_any (strB (textL k n p)) W (by omega) hW
  have e59 : (strB (textL k n p) ++ (⟨#[59]⟩ : ByteArray)).data.toList = textL k n p ++ [59] := by rw [append_data]; rfl
  have cY := fun W hW => read_any (strB (textL k n p) ++ (⟨#[59]⟩ : ByteArray)) W (by rw [Lib.size_eq, e59, List.length_append, ← strB_size]; simp; omega) hW
  rw [strB_data, x1, ← hxs, gotV_some] at cX
  rw [e59, x2, ← hxs, gotV_some] at cY
  have hx3 : (strB (textL k n p)).size ≤ 1000 := by omega
  clear e59 x1 x2 hxs hlen
  obtain ⟨gr, g1, g2, g3⟩ := readL_right q ⟨a, b, c, m⟩ hg
  simp only at gr g1 g2 g3
  have gn := right_n a b c gr
  have glen := textL_len a b c gr
  have y1 := readL_text a b c [] gr rfl
  rw [List.append_nil] at y1
  have hcs := strB_size c
  have hys := strB_size (textL a b c)
  have cV := fun W hW hW2 => print_any a b (strB c) W (by omega) (by omega) hW hW2
  rw [strB_data, printL, gr, if_pos rfl, textV_some] at cV
  have cW := fun W hW => read_any (strB (textL a b c)) W (by omega) hW
  rw [strB_data, y1, ← hys, gotV_some] at cW
  rw [hg, gotV_some] at cQ
  rw [← ht] at g2
  have hy3 : (strB (textL a b c)).size ≤ 1000 := by omega
  clear y1 hys hcs glen gr gn g3
  generalize strB (textL a b c) = Y at *
  generalize strB c = C at *
  clear hs ht hr hg
  generalize strB (textL k n p) = X at *
  generalize strB p = S at *
  generalize strB q = T at *
  go_enter Tryd.func4, Tryd.ntmps4
  go_wp2_with fail
  refine cA.mono ?_
  rintro e w1 ⟨rfl, c0⟩
  have hbw := hb0.trans (c0.mono hb0.size)
  obtain ⟨p0, p1, p2⟩ := bare_cells w k n S w1 (by simpa using c0)
  clear cA
  go_wp2_with fail
  refine (cP _ (HA.out.below hbw) (HP.out.below hbw)).mono ?_
  rintro e w2 ⟨rfl, hb2⟩
  replace c0 := c0.trans (hb2.mono c0.size)
  clear p0 p1 p2 hb2 hbw
  obtain ⟨p0, p1, p2⟩ := bare_cells w k n S w2 (by simpa using c0)
  go_wp2_with fail
  refine (cR _).mono ?_
  rintro e w3 ⟨rfl, hb3⟩
  replace c0 := c0.trans (hb3.mono c0.size)
  have hbw := hb0.trans (c0.mono hb0.size)
  clear p0 p1 p2 hb3
  go_wp2_with fail
  refine (cX _ (HA.out.below hbw)).mono ?_
  rintro e w4 ⟨rfl, hb4⟩
  replace c0 := c0.trans (hb4.mono c0.size)
  replace c0 := c0.alloc c0.size (bareObj k n S)
  have hbw := hb0.trans (c0.mono hb0.size)
  clear hb4
  go_wp2_with fail
  refine (cY _ (HA.out.below hbw)).mono ?_
  rintro e w5 ⟨rfl, c1⟩
  replace c0 := c0.trans (c1.mono c0.size)
  obtain ⟨p0, p1, p2⟩ := bare_cells w k n S w5 (by simpa using c0)
  obtain ⟨q0, q1, q2⟩ := bare_cells w4 k n S w5 (by simpa using c1)
  have s1 : w.heap.size < w5.heap.size := by have := c0.size; simp at this; omega
  have s2 : w4.heap.size < w5.heap.size := by have := c1.size; simp at this; omega
  replace c0 := c0.alloc c0.size (bareObj k n S)
  have hbw := hb0.trans (c0.mono hb0.size)
  clear c1
  go_wp2_with fail
  clear p0 p1 p2 q0 q1 q2 s1 s2
  refine (cQ _ (HA.out.below hbw)).mono ?_
  rintro e w6 ⟨rfl, hb6⟩
  replace c0 := c0.trans (hb6.mono c0.size)
  replace c0 := c0.alloc c0.size (bareObj a b C)
  have hbw := hb0.trans (c0.mono hb0.size)
  clear hb6
  go_wp2_with fail
  refine (cV _ (HA.out.below hbw) (HP.out.below hbw)).mono ?_
  rintro e w7 ⟨rfl, c1⟩
  replace c0 := c0.trans (c1.mono c0.size)
  have hbw := hb0.trans (c0.mono hb0.size)
  go_wp2_with fail
  refine (cW _ (HA.out.below hbw)).mono ?_
  rintro e w8 ⟨rfl, hb8⟩
  replace c0 := c0.trans (hb8.mono c0.size)
  replace c1 := c1.trans (hb8.mono c1.size)
  obtain ⟨p0, p1, p2⟩ := bare_cells w6 a b C w8 (by simpa using c1)
  have s1 : w6.heap.size < w8.heap.size := by have := c1.size; simp at this; omega
  replace c0 := c0.alloc c0.size (bareObj a b C)
  have hbw := hb0.trans (c0.mono hb0.size)
  clear c1 hb8
  go_wp2_with fail
  go_ret
  exact ⟨rfl, hbw⟩

theorem back_walk (k n : Int) (p q : List UInt8) (w : World) (hA : Alph w) (hP : Pow w) (hn : -9223372036854775808 ≤ n ∧ n ≤ 9223372036854775807) :
    Calls Tryd.prog 4 #[.agg #[.int .i64 k, .int .i64 n, .string (strB p)], .string (strB q)] w fun e w' => e = .returned (.bool true) ∧ Below w.heap.size w w' := by
  by_cases h1 : 300 < p.length
  · exact back_long k n _ _ w hA hP (.inl (by rw [strB_size]; exact h1))
  · by_cases h2 : 300 < q.length
    · exact back_long k n _ _ w hA hP (.inr ⟨by rw [strB_size]; omega, by rw [strB_size]; exact h2⟩)
    · cases hr : rightL k n p <;> cases hg : readL q with
      | none => first | exact back_00 k n p q w hA hP hn (by omega) (by omega) hr hg | exact back_10 k n p q w hA hP hn (by omega) (by omega) hr hg
      | some g => first | exact back_01 k n p q w hA hP hn (by omega) (by omega) hr g.k g.n g.s g.m hg | exact back_11 k n p q w hA hP hn (by omega) (by omega) hr g.k g.n g.s g.m hg

end Go.Proofs.YtopfallmpbjbaaaDoor
