/- The contract of the document's own readString (sculleryref02). · The cells of a boxed api.Bare, behind whatever was made later. · The contract of the document's own Print (sculleryref02). · The contract of the document's own Print at decimals, and at all items (sculleryref02). · The contract of the document's PrintParams (sculleryref03). -/
import Derived.Test.YtjbipplaacgnkaaGreatDoorGP
import Derived.Test.YtjbipplaacgnkaaGreatDoorGC
import Derived.Test.YtjbipplaacgnkaaGreatDoorGD
import Derived.Test.YtjbipplaacgnkaaGreatDoorGK
import Derived.Test.YtjbipplaacgnkaaGreatDoorGI

namespace Go.Proofs.YtjbipplaacgnkaaGreatDoor
open Go.RowKit

theorem quote_pr (c : UInt8) (h : prI c.toNat = false) : c ≠ 34 ∧ c ≠ 92 := by
  refine ⟨?_, ?_⟩ <;> (intro e; subst e; exact absurd h (by decide))
theorem prI_nat (c : UInt8) : prI c.toNat = (!decide (c.toNat < 32) && !decide (126 < c.toNat)) := by
  rw [Bool.eq_iff_iff]
  simp [prI]
  omega

set_option maxRecDepth 100000 in
set_option maxHeartbeats 1000000 in
theorem freadString_any (s : ByteArray) (w : World) (h0 : 0 < s.size) (hs : s.size ≤ 100000) :
    Calls Tryz.prog 120 #[.string s] w (gotPost (gotV (readStrL s.data.toList)) w) := by
  have hb0 : Below w.heap.size w (w.alloc zeroBare) := (Below.refl _ _).alloc (Nat.le_refl _) _
  have Hb0 := Lib.hid hb0
  clear hb0
  go_enter Tryz.func120, Tryz.ntmps120
  go_wp2
  go_loop [5, 6] (fun v i => ∃ (k : Nat) (acc : List UInt8), i = .int .i64 k ∧ v = .string (strB acc) ∧ 1 ≤ k ∧ k ≤ s.size ∧ acc.length ≤ k ∧ Hid (readStrL s.data.toList = rsL (s.data.toList.drop k) acc k)) (fun _ i => s.size - (intOf i).toNat)
  case atStart => exact ⟨1, [], rfl, rfl, by omega, by omega, by simp, Lib.hid rfl⟩
  case round =>
    obtain ⟨k, acc, rfl, rfl, hk1, hk, hal, H⟩ := hrel
    have haz : (strB acc).size ≤ 100000 := by rw [strB_size]; omega
    by_cases hlt : k < s.size
    · have hdr := drop_cons_at s k hlt
      have hone := one_at s k hlt
      cases h1 : (((s[k]'hlt).toNat : Int) == 34)
      · have n1 : s[k]'hlt ≠ 34 := by
          intro e; rw [e] at h1; exact absurd h1 (by decide)
        cases h2 : (((s[k]'hlt).toNat : Int) == 92)
        · have n2 : s[k]'hlt ≠ 92 := by
            intro e; rw [e] at h2; exact absurd h2 (by decide)
          rw [hdr, rsL_other _ _ _ _ n1 n2, prI_nat] at H
          by_cases g1 : (s[k]'hlt).toNat < 32
          · have HR : Hid (readStrL s.data.toList = none) := Lib.hid (by rw [H.out]; simp [g1])
            clear hdr hone n1 n2 H
            go_wp2
            exact bodyPost_ret (v := gotV none) (by simp [results, Tryz.results120, go_sem, gotV]) rfl ⟨by rw [HR.out], Hb0.out⟩
          · by_cases g2 : 126 < (s[k]'hlt).toNat
            · have HR : Hid (readStrL s.data.toList = none) := Lib.hid (by rw [H.out]; simp [g2])
              clear hdr hone n1 n2 H
              go_wp2
              exact bodyPost_ret (v := gotV none) (by simp [results, Tryz.results120, go_sem, gotV]) rfl ⟨by rw [HR.out], Hb0.out⟩
            · have HR : Hid (readStrL s.data.toList = rsL (s.data.toList.drop (k + 1)) (acc ++ [s[k]'hlt]) (k + 1)) := Lib.hid (by rw [H.out]; simp [g1, g2])
              have HS : Hid (strB acc ++ s.extract k (k + 1) = strB (acc ++ [s[k]'hlt])) := Lib.hid (by rw [hone, strB_append])
              have hz : (s.extract k (k + 1)).size = 1 := by rw [hone]; rfl
              clear hdr hone n1 n2 H
              generalize strB acc = S at *
              go_wp2
              go_round
              case rel => exact ⟨k + 1, acc ++ [s[k]], by go_num, by rw [← HS.out], by omega, by omega, by simp; omega, Lib.hid HR.out⟩
              case measure => simp [intOf]; omega
        · have e2 : s[k]'hlt = 92 := by
            have := byte_beq (s[k]'hlt) 92
            rw [show ((92 : UInt8).toNat : Int) = 92 from rfl, h2] at this
            simpa using this.symm
          have g1 : ¬ (s[k]'hlt).toNat < 32 := by rw [e2]; decide
          have g2 : ¬ 126 < (s[k]'hlt).toNat := by rw [e2]; decide
          by_cases hlt2 : k + 1 < s.size
          · rw [hdr, e2, drop_cons_at s (k + 1) hlt2, rsL_esc] at H
            have hone2 := one_at s (k + 1) hlt2
            have hesc : escI ((s[k + 1]'hlt2).toNat : Int) = (((s[k + 1]'hlt2).toNat : Int) == 34 || ((s[k + 1]'hlt2).toNat : Int) == 92) := rfl
            rw [hesc] at H
            clear hesc
            have HS : Hid (strB acc ++ s.extract (k + 1) (k + 1 + 1) = strB (acc ++ [s[k + 1]'hlt2])) := Lib.hid (by rw [hone2, strB_append])
            have hz : (s.extract (k + 1) (k + 1 + 1)).size = 1 := by rw [hone2]; rfl
            clear hdr hone hone2 n1 e2
            cases p1 : (((s[k + 1]'hlt2).toNat : Int) == 34) <;> cases p2 : (((s[k + 1]'hlt2).toNat : Int) == 92)
            · have HR : Hid (readStrL s.data.toList = none) := Lib.hid (by rw [H.out, p1, p2]; rfl)
              have b1 : (((s[k + 1]'hlt2).toNat : Int) != 34) = true := by rw [bne, p1]; rfl
              have b2 : (((s[k + 1]'hlt2).toNat : Int) != 92) = true := by rw [bne, p2]; rfl
              clear H p1 p2
              go_wp2
              exact bodyPost_ret (v := gotV none) (by simp [results, Tryz.results120, go_sem, gotV]) rfl ⟨by rw [HR.out], Hb0.out⟩
            all_goals
              have HR : Hid (readStrL s.data.toList = rsL (s.data.toList.drop (k + 1 + 1)) (acc ++ [s[k + 1]'hlt2]) (k + 2)) := Lib.hid (by rw [H.out, p1, p2]; rfl)
              have b1 : (((s[k + 1]'hlt2).toNat : Int) != 34) = !(((s[k + 1]'hlt2).toNat : Int) == 34) := rfl
              have b2 : (((s[k + 1]'hlt2).toNat : Int) != 92) = !(((s[k + 1]'hlt2).toNat : Int) == 92) := rfl
              rw [p1] at b1
              rw [p2] at b2
              simp only [Bool.not_true, Bool.not_false] at b1 b2
              clear H p1 p2
              generalize strB acc = S at *
              go_wp2
              go_round
              case rel => exact ⟨k + 2, acc ++ [s[k + 1]], by go_num, by rw [← HS.out], by omega, by omega, by simp; omega, Lib.hid HR.out⟩
              case measure => simp [intOf]; omega
          · have hd1 : s.data.toList.drop (k + 1) = [] := List.drop_of_length_le (by rw [← Lib.size_eq]; omega)
            rw [hdr, e2, hd1, rsL_esc_end] at H
            clear hdr n1 e2 hd1 hone
            go_wp2
            exact bodyPost_ret (v := gotV none) (by simp [results, Tryz.results120, go_sem, gotV]) rfl ⟨by rw [H.out], Hb0.out⟩
      · have e1 : s[k]'hlt = 34 := by
          have := byte_beq (s[k]'hlt) 34
          rw [show ((34 : UInt8).toNat : Int) = 34 from rfl, h1] at this
          simpa using this.symm
        rw [hdr, e1, rsL_quote] at H
        clear hdr e1 hone
        go_wp2
        exact bodyPost_ret (v := gotV (some ⟨3, 0, acc, k + 1⟩)) (by simp [results, Tryz.results120, go_sem, gotV]) rfl ⟨by rw [H.out], (Below.refl _ _).alloc (Nat.le_refl _) _⟩
    · have hd1 : s.data.toList.drop k = [] := List.drop_of_length_le (by rw [← Lib.size_eq]; omega)
      rw [hd1, rsL.eq_def] at H
      clear hd1
      go_wp2
      exact bodyPost_ret (v := gotV none) (by simp [results, Tryz.results120, go_sem, gotV]) rfl ⟨by rw [H.out], Hb0.out⟩

end Go.Proofs.YtjbipplaacgnkaaGreatDoor

namespace Go.Proofs.YtjbipplaacgnkaaGreatDoor
open Go.RowKit

theorem bare_cells (w : World) (a b : Int) (t : ByteArray) (W : World) (hb : Below (w.heap.size + 1) (w.alloc (.cells #[.int .i64 a, .int .i64 b, .string t] 43)) W) :
    (W.cell? ⟨w.heap.size, 0, none⟩ = some (.int .i64 a) ∧ W.cell? ⟨w.heap.size, 1, none⟩ = some (.int .i64 b) ∧ W.cell? ⟨w.heap.size, 2, none⟩ = some (.string t)) := by
  refine ⟨?_, ?_, ?_⟩
  · rw [hb.cell (p := ⟨w.heap.size, 0, none⟩) (by simp)]; simp
  · rw [hb.cell (p := ⟨w.heap.size, 1, none⟩) (by simp)]; simp
  · rw [hb.cell (p := ⟨w.heap.size, 2, none⟩) (by simp)]; simp

end Go.Proofs.YtjbipplaacgnkaaGreatDoor

namespace Go.Proofs.YtjbipplaacgnkaaGreatDoor
open Go.RowKit

theorem dig48 (d : Nat) (h : d < 10) (h0 : 0 < d) : (UInt8.ofNat (48 + d) == 48) = false := by
  have : UInt8.ofNat (48 + d) ≠ 48 := by
    intro e
    have := congrArg UInt8.toNat e
    rw [digit_nat d h] at this
    have h48 : (48 : UInt8).toNat = 48 := rfl
    omega
  simpa using this

theorem trim2 (x y : UInt8) (h : (y == 48) = false) : Lib.trimRightB [x, y] 48 = [x, y] := by simp [Lib.trimRightB, h]
theorem trim1 (x : UInt8) (h : (x == 48) = false) : Lib.trimRightB [x, 48] 48 = [x] := by simp [Lib.trimRightB, h]
theorem decN_a (m a b c d : Nat) (ha : m / 1000 = a) (hb : m / 100 % 10 = b) (hc : m / 10 % 10 = c) (hd : m % 10 = d) (h : 0 < d) : decN m = Lib.decDigits a ++ [46, UInt8.ofNat (48 + b), UInt8.ofNat (48 + c), UInt8.ofNat (48 + d)] := by
  rw [decN, ha, show m % 1000 / 100 = b by omega, show m % 1000 / 10 % 10 = c by omega, show m % 1000 % 10 = d by omega, trim2 _ _ (dig48 d (by omega) h)]
theorem decN_b (m a b c d : Nat) (ha : m / 1000 = a) (hb : m / 100 % 10 = b) (hc : m / 10 % 10 = c) (hd : m % 10 = d) (h : d = 0) (h2 : 0 < c) : decN m = Lib.decDigits a ++ [46, UInt8.ofNat (48 + b), UInt8.ofNat (48 + c)] := by
  rw [decN, ha, show m % 1000 / 100 = b by omega, show m % 1000 / 10 % 10 = c by omega, show m % 1000 % 10 = d by omega, h, show UInt8.ofNat (48 + 0) = 48 from rfl, trim1 _ (dig48 c (by omega) h2)]
theorem decN_c (m a b c d : Nat) (ha : m / 1000 = a) (hb : m / 100 % 10 = b) (hc : m / 10 % 10 = c) (hd : m % 10 = d) (h : d = 0) (h2 : c = 0) : decN m = Lib.decDigits a ++ [46, UInt8.ofNat (48 + b)] := by
  rw [decN, ha, show m % 1000 / 100 = b by omega, show m % 1000 / 10 % 10 = c by omega, show m % 1000 % 10 = d by omega, h, h2]
  rfl

def txtPost (v : Value) (w : World) (e : Ending) (w' : World) : Prop := e = .returned v ∧ Below w.heap.size w w'

theorem bare_below (w : World) (o : Obj) : Below w.heap.size w (w.alloc o) := (Below.refl _ _).alloc (Nat.le_refl _) _

set_option maxRecDepth 100000 in
set_option maxHeartbeats 1000000 in
theorem fprint_none (k n : Int) (s : ByteArray) (w : World) (hs : s.size ≤ 100000) (hr : rightL k n s.data.toList = false) :
    Calls Tryz.prog 68 #[.agg #[.int .i64 k, .int .i64 n, .string s]] w (txtPost (textV none) w) := by
  have cR := fun W => fright_any k n s W hs
  rw [hr] at cR
  have hb0 := bare_below w (.cells #[.int .i64 k, .int .i64 n, .string s] 43)
  show Calls _ _ _ _ (txtPost (.tuple #[.string ⟨#[]⟩, .int .i64 2]) w)
  clear hr
  go_enter Tryz.func68, Tryz.ntmps68
  go_wp2_with fail
  refine (cR _).mono ?_
  rintro e w1 ⟨rfl, hb1⟩
  go_wp2
  go_ret2
  exact ⟨rfl, hb0.trans (hb1.mono hb0.size)⟩

set_option maxRecDepth 100000 in
set_option maxHeartbeats 1000000 in
theorem fprint_int (n : Int) (s : ByteArray) (w : World) (hs : s.size ≤ 100000) (hr : rightL 1 n s.data.toList = true) (g0 : -1000000000000000 < n) (g1 : n < 1000000000000000) :
    Calls Tryz.prog 68 #[.agg #[.int .i64 1, .int .i64 n, .string s]] w (txtPost (textV (some (Lib.itoa n))) w) := by
  have cR := fun W => fright_any 1 n s W hs
  rw [hr] at cR
  have hb0 := bare_below w (.cells #[.int .i64 1, .int .i64 n, .string s] 43)
  obtain ⟨m, hm⟩ : ∃ m : Nat, n.natAbs = m := ⟨_, rfl⟩
  have cN := fun W => fnumber_any W m (by omega)
  have hz : (strB (Lib.decDigits m)).size ≤ 20 := by rw [strB_size]; have := decDigits_15 m (by omega); omega
  show Calls _ _ _ _ (txtPost (.tuple #[.string (strB (Lib.itoa n)), .int .i64 0]) w)
  clear hr
  by_cases hn : n < 0
  · have e1 : Hid (strB (Lib.itoa n) = (⟨#[45]⟩ : ByteArray) ++ strB (Lib.decDigits m)) := Lib.hid (by
      rw [Lib.itoa, if_pos hn, hm, show (⟨#[45]⟩ : ByteArray) = strB [45] from rfl, strB_append]; rfl)
    rw [e1.out]
    have hneg : -n = (m : Int) := by omega
    have hd : decide (n < 0) = true := by simpa using hn
    clear hm e1
    generalize strB (Lib.decDigits m) = D at *
    go_enter Tryz.func68, Tryz.ntmps68
    go_wp2_with fail
    refine (cR _).mono ?_
    rintro e w1 ⟨rfl, hb1⟩
    obtain ⟨p0, p1, p2⟩ := bare_cells w 1 n s w1 (by simpa using hb1)
    go_wp2_with fail
    refine (cN _).mono ?_
    rintro e w' ⟨rfl, rfl⟩
    go_wp2
    go_ret2
    exact ⟨rfl, hb0.trans (hb1.mono hb0.size)⟩
  · have e1 : Hid (strB (Lib.itoa n) = (⟨#[]⟩ : ByteArray) ++ strB (Lib.decDigits m)) := Lib.hid (by
      rw [Lib.itoa, if_neg hn, show n.toNat = m by omega, show (⟨#[]⟩ : ByteArray) = strB [] from rfl, strB_append]; rfl)
    rw [e1.out]
    obtain rfl : n = (m : Int) := by omega
    have hd : decide ((m : Int) < 0) = false := by simp
    clear hm e1 hn
    generalize strB (Lib.decDigits m) = D at *
    go_enter Tryz.func68, Tryz.ntmps68
    go_wp2_with fail
    refine (cR _).mono ?_
    rintro e w1 ⟨rfl, hb1⟩
    obtain ⟨p0, p1, p2⟩ := bare_cells w 1 (m : Int) s w1 (by simpa using hb1)
    go_wp2_with fail
    refine (cN _).mono ?_
    rintro e w' ⟨rfl, rfl⟩
    go_wp2
    go_ret2
    exact ⟨by simp, hb0.trans (hb1.mono hb0.size)⟩

set_option maxRecDepth 100000 in
set_option maxHeartbeats 1000000 in
theorem fprint_str (s : ByteArray) (w : World) (hs : s.size ≤ 100000) (hr : rightL 3 0 s.data.toList = true) :
    Calls Tryz.prog 68 #[.agg #[.int .i64 3, .int .i64 0, .string s]] w (txtPost (textV (some (strT s.data.toList))) w) := by
  have cR := fun W => fright_any 3 0 s W hs
  rw [hr] at cR
  have hb0 := bare_below w (.cells #[.int .i64 3, .int .i64 0, .string s] 43)
  show Calls _ _ _ _ (txtPost (.tuple #[.string (strB (strT s.data.toList)), .int .i64 0]) w)
  clear hr
  go_enter Tryz.func68, Tryz.ntmps68
  go_wp2_with fail
  refine (cR _).mono ?_
  rintro e w1 ⟨rfl, hb1⟩
  obtain ⟨p0, p1, p2⟩ := bare_cells w 3 0 s w1 (by simpa using hb1)
  have Hb := Lib.hid (hb0.trans (hb1.mono hb0.size))
  clear hb1 hb0 cR
  go_wp2_with fail
  go_loop [7, 8] (fun v i => ∃ (k : Nat) (acc : List UInt8), i = .int .i64 k ∧ v = .string (strB acc) ∧ k ≤ s.size ∧ acc.length ≤ 2 * k + 1 ∧ Hid (34 :: escL s.data.toList = acc ++ escL (s.data.toList.drop k))) (fun _ i => s.size - (intOf i).toNat)
  case atStart => exact ⟨0, [34], rfl, rfl, by omega, by simp, Lib.hid rfl⟩
  case round =>
    obtain ⟨k, acc, rfl, rfl, hk, hal, H⟩ := hrel
    have haz : (strB acc).size ≤ 200001 := by rw [strB_size]; omega
    by_cases hlt : k < s.size
    · have hdr := drop_cons_at s k hlt
      have hone := one_at s k hlt
      have hz : (s.extract k (k + 1)).size = 1 := by rw [hone]; rfl
      have hesc : escI ((s[k]'hlt).toNat : Int) = (((s[k]'hlt).toNat : Int) == 34 || ((s[k]'hlt).toNat : Int) == 92) := rfl
      rw [hdr, escL, hesc] at H
      have HS1 : Hid (strB acc ++ s.extract k (k + 1) = strB (acc ++ [s[k]'hlt])) := Lib.hid (by rw [hone, strB_append])
      have HS2 : Hid (strB acc ++ (⟨#[92]⟩ : ByteArray) ++ s.extract k (k + 1) = strB (acc ++ [92, s[k]'hlt])) := Lib.hid (by
        rw [hone, show (⟨#[92]⟩ : ByteArray) = strB [92] from rfl, strB_append, strB_append, List.append_assoc]; rfl)
      clear hdr hone hesc
      cases g1 : (((s[k]'hlt).toNat : Int) == 34) <;> cases g2 : (((s[k]'hlt).toNat : Int) == 92)
      · have HR : Hid (34 :: escL s.data.toList = (acc ++ [s[k]'hlt]) ++ escL (s.data.toList.drop (k + 1))) := Lib.hid (by
          rw [H.out, g1, g2]; simp)
        clear H
        generalize strB acc = S at *
        go_wp2_with fail
        go_round
        case rel => exact ⟨k + 1, acc ++ [s[k]], by go_num, by rw [← HS1.out], by omega, by simp; omega, Lib.hid HR.out⟩
        case measure => simp [intOf]; omega
      all_goals
        have HR : Hid (34 :: escL s.data.toList = (acc ++ [92, s[k]'hlt]) ++ escL (s.data.toList.drop (k + 1))) := Lib.hid (by
          rw [H.out, g1, g2]; simp)
        clear H
        generalize strB acc = S at *
        go_wp2_with fail
        go_round
        case rel => exact ⟨k + 1, acc ++ [92, s[k]], by go_num, by rw [← HS2.out], by omega, by simp; omega, Lib.hid HR.out⟩
        case measure => simp [intOf]; omega
    · have HR : Hid (strB (strT s.data.toList) = strB acc ++ (⟨#[34]⟩ : ByteArray)) := Lib.hid (by
        rw [strT, ← List.cons_append, H.out, List.drop_of_length_le (by rw [← Lib.size_eq]; omega), escL, List.append_nil, show (⟨#[34]⟩ : ByteArray) = strB [34] from rfl, strB_append])
      clear H
      generalize strB acc = S at *
      go_wp2_with fail
      go_ret2
      exact ⟨by rw [HR.out]; rfl, Hb.out⟩

set_option maxRecDepth 100000 in
set_option maxHeartbeats 1000000 in
theorem fprint_tok (s : ByteArray) (w : World) (hs : s.size ≤ 100000) (hr : rightL 4 0 s.data.toList = true) :
    Calls Tryz.prog 68 #[.agg #[.int .i64 4, .int .i64 0, .string s]] w (txtPost (textV (some s.data.toList)) w) := by
  have cR := fun W => fright_any 4 0 s W hs
  rw [hr] at cR
  have hb0 := bare_below w (.cells #[.int .i64 4, .int .i64 0, .string s] 43)
  show Calls _ _ _ _ (txtPost (.tuple #[.string (strB s.data.toList), .int .i64 0]) w)
  rw [strB_of]
  clear hr
  go_enter Tryz.func68, Tryz.ntmps68
  go_wp2_with fail
  refine (cR _).mono ?_
  rintro e w1 ⟨rfl, hb1⟩
  obtain ⟨p0, p1, p2⟩ := bare_cells w 4 0 s w1 (by simpa using hb1)
  go_wp2_with fail
  go_ret2
  exact ⟨rfl, hb0.trans (hb1.mono hb0.size)⟩

set_option maxRecDepth 100000 in
set_option maxHeartbeats 1000000 in
theorem fprint_bytes (s : ByteArray) (w : World) (hs : s.size ≤ 100000) (hr : rightL 5 0 s.data.toList = true) :
    Calls Tryz.prog 68 #[.agg #[.int .i64 5, .int .i64 0, .string s]] w (txtPost (textV (some (58 :: (encL s.data.toList ++ [58])))) w) := by
  have cR := fun W => fright_any 5 0 s W hs
  rw [hr] at cR
  have hb0 := bare_below w (.cells #[.int .i64 5, .int .i64 0, .string s] 43)
  have cE := fun W => fencode_any s W (by omega)
  have Hfin : Hid (strB (58 :: (encL s.data.toList ++ [58])) = ((⟨#[58]⟩ : ByteArray) ++ strB (encL s.data.toList)) ++ (⟨#[58]⟩ : ByteArray)) := Lib.hid (by
    rw [show (⟨#[58]⟩ : ByteArray) = strB [58] from rfl, strB_append, strB_append]; rfl)
  have hz : (strB (encL s.data.toList)).size ≤ 1000000 := by
    have := encL_len s.data.toList
    rw [← Lib.size_eq] at this
    rw [strB_size]; omega
  show Calls _ _ _ _ (txtPost (.tuple #[.string (strB (58 :: (encL s.data.toList ++ [58]))), .int .i64 0]) w)
  rw [Hfin.out]
  clear hr Hfin
  generalize strB (encL s.data.toList) = E at *
  go_enter Tryz.func68, Tryz.ntmps68
  go_wp2_with fail
  refine (cR _).mono ?_
  rintro e w1 ⟨rfl, hb1⟩
  obtain ⟨p0, p1, p2⟩ := bare_cells w 5 0 s w1 (by simpa using hb1)
  go_wp2_with fail
  refine (cE _).mono ?_
  rintro e w2 ⟨rfl, hb2⟩
  have hb3 := hb0.trans (hb1.mono hb0.size)
  clear p0 p1 p2 hb1
  go_wp2_with fail
  go_ret2
  exact ⟨rfl, hb3.trans (hb2.mono hb3.size)⟩

set_option maxRecDepth 100000 in
set_option maxHeartbeats 1000000 in
theorem fprint_bool (n : Int) (s : ByteArray) (w : World) (hs : s.size ≤ 100000) (hr : rightL 6 n s.data.toList = true) (hn : n = 0 ∨ n = 1) :
    Calls Tryz.prog 68 #[.agg #[.int .i64 6, .int .i64 n, .string s]] w (txtPost (textV (some (63 :: Lib.itoa n))) w) := by
  have cR := fun W => fright_any 6 n s W hs
  rw [hr] at cR
  have hb0 := bare_below w (.cells #[.int .i64 6, .int .i64 n, .string s] 43)
  obtain ⟨m, rfl⟩ : ∃ m : Nat, n = (m : Int) := ⟨n.toNat, by omega⟩
  have cN := fun W => fnumber_any W m (by omega)
  have hz : (strB (Lib.decDigits m)).size ≤ 20 := by rw [strB_size]; have := decDigits_15 m (by omega); omega
  have e1 : Hid (strB (63 :: Lib.itoa (m : Int)) = (⟨#[63]⟩ : ByteArray) ++ strB (Lib.decDigits m)) := Lib.hid (by
    rw [itoa_nat, show (⟨#[63]⟩ : ByteArray) = strB [63] from rfl, strB_append]; rfl)
  show Calls _ _ _ _ (txtPost (.tuple #[.string (strB (63 :: Lib.itoa (m : Int))), .int .i64 0]) w)
  rw [e1.out]
  have hd : decide ((m : Int) < 0) = false := by simp
  have hm1 : m ≤ 1 := by omega
  clear hr e1 hn
  generalize strB (Lib.decDigits m) = D at *
  go_enter Tryz.func68, Tryz.ntmps68
  go_wp2_with fail
  refine (cR _).mono ?_
  rintro e w1 ⟨rfl, hb1⟩
  obtain ⟨p0, p1, p2⟩ := bare_cells w 6 (m : Int) s w1 (by simpa using hb1)
  go_wp2_with fail
  refine (cN _).mono ?_
  rintro e w' ⟨rfl, rfl⟩
  go_wp2
  go_ret2
  exact ⟨rfl, hb0.trans (hb1.mono hb0.size)⟩

end Go.Proofs.YtjbipplaacgnkaaGreatDoor

namespace Go.Proofs.YtjbipplaacgnkaaGreatDoor
open Go.RowKit

set_option maxRecDepth 100000 in
set_option maxHeartbeats 1000000 in
theorem fdec_pa (m a b c d : Nat) (s : ByteArray) (w : World) (hs : s.size ≤ 100000) (hr : rightL 2 ((m : Int)) s.data.toList = true) (hm : m < 1000000000000000) (ha : m / 1000 = a) (hb : m / 100 % 10 = b) (hc : m / 10 % 10 = c) (hd : m % 10 = d) (h : 0 < d) :
    Calls Tryz.prog 68 #[.agg #[.int .i64 2, .int .i64 ((m : Int)), .string s]] w (txtPost (.tuple #[.string (strB (decN m)), .int .i64 0]) w) := by
  have cR := fun W => fright_any 2 ((m : Int)) s W hs
  rw [hr] at cR
  have hb0 := bare_below w (.cells #[.int .i64 2, .int .i64 ((m : Int)), .string s] 43)
  have e1 : Hid (strB (decN m) = (⟨#[]⟩ : ByteArray) ++ strB (Lib.decDigits a) ++ (⟨#[46]⟩ : ByteArray) ++ strB (Lib.decDigits b) ++ strB (Lib.decDigits c) ++ strB (Lib.decDigits d)) := Lib.hid (by
    rw [decN_a m a b c d ha hb hc hd h, Lib.decDigits_one (i := b) (by omega), Lib.decDigits_one (i := c) (by omega), Lib.decDigits_one (i := d) (by omega), show (⟨#[46]⟩ : ByteArray) = strB [46] from rfl, show (⟨#[]⟩ : ByteArray) = strB [] from rfl]
    simp only [strB_append, List.append_assoc, List.cons_append, List.nil_append])
  rw [e1.out]
  have cA := fun W => fnumber_any W a (by omega)
  have cB := fun W => fnumber_any W b (by omega)
  have cC := fun W => fnumber_any W c (by omega)
  have cD := fun W => fnumber_any W d (by omega)
  have za : (strB (Lib.decDigits a)).size ≤ 20 := by rw [strB_size]; have := decDigits_15 a (by omega); omega
  have zb : (strB (Lib.decDigits b)).size ≤ 20 := by rw [strB_size]; have := decDigits_15 b (by omega); omega
  have zc : (strB (Lib.decDigits c)).size ≤ 20 := by rw [strB_size]; have := decDigits_15 c (by omega); omega
  have zd : (strB (Lib.decDigits d)).size ≤ 20 := by rw [strB_size]; have := decDigits_15 d (by omega); omega
  obtain ⟨f, hf⟩ : ∃ f, m % 100 = f := ⟨_, rfl⟩
  have qa : (m : Int) / 1000 = (a : Int) := by omega
  have qb : (m : Int) / 100 % 10 = (b : Int) := by omega
  have qc : (m : Int) / 10 % 10 = (c : Int) := by omega
  have qd : (m : Int) % 10 = (d : Int) := by omega
  have qf : (m : Int) % 100 = (f : Int) := by omega
  have tf : 0 < f := by omega
  have td : 0 < d := by omega
  have hd0 : decide ((m : Int) < 0) = false := by simp
  clear hr e1 ha hb hc hd hf
  generalize strB (Lib.decDigits a) = A at *
  generalize strB (Lib.decDigits b) = B at *
  generalize strB (Lib.decDigits c) = C at *
  generalize strB (Lib.decDigits d) = D at *
  go_enter Tryz.func68, Tryz.ntmps68
  go_wp2_with fail
  refine (cR _).mono ?_
  rintro e w1 ⟨rfl, hb1⟩
  obtain ⟨p0, p1, p2⟩ := bare_cells w 2 ((m : Int)) s w1 (by simpa using hb1)
  go_wp2_with fail
  refine (cA _).mono ?_
  rintro e w' ⟨rfl, rfl⟩
  go_wp2_with fail
  refine (cB _).mono ?_
  rintro e w' ⟨rfl, rfl⟩
  go_wp2_with fail
  refine (cC _).mono ?_
  rintro e w' ⟨rfl, rfl⟩
  go_wp2_with fail
  refine (cD _).mono ?_
  rintro e w' ⟨rfl, rfl⟩
  go_wp2_with fail
  go_ret2
  exact ⟨by simp, hb0.trans (hb1.mono hb0.size)⟩

set_option maxRecDepth 100000 in
set_option maxHeartbeats 1000000 in
theorem fdec_pb (m a b c d : Nat) (s : ByteArray) (w : World) (hs : s.size ≤ 100000) (hr : rightL 2 ((m : Int)) s.data.toList = true) (hm : m < 1000000000000000) (ha : m / 1000 = a) (hb : m / 100 % 10 = b) (hc : m / 10 % 10 = c) (hd : m % 10 = d) (h : d = 0) (h2 : 0 < c) :
    Calls Tryz.prog 68 #[.agg #[.int .i64 2, .int .i64 ((m : Int)), .string s]] w (txtPost (.tuple #[.string (strB (decN m)), .int .i64 0]) w) := by
  have cR := fun W => fright_any 2 ((m : Int)) s W hs
  rw [hr] at cR
  have hb0 := bare_below w (.cells #[.int .i64 2, .int .i64 ((m : Int)), .string s] 43)
  have e1 : Hid (strB (decN m) = (⟨#[]⟩ : ByteArray) ++ strB (Lib.decDigits a) ++ (⟨#[46]⟩ : ByteArray) ++ strB (Lib.decDigits b) ++ strB (Lib.decDigits c)) := Lib.hid (by
    rw [decN_b m a b c d ha hb hc hd h h2, Lib.decDigits_one (i := b) (by omega), Lib.decDigits_one (i := c) (by omega), show (⟨#[46]⟩ : ByteArray) = strB [46] from rfl, show (⟨#[]⟩ : ByteArray) = strB [] from rfl]
    simp only [strB_append, List.append_assoc, List.cons_append, List.nil_append])
  rw [e1.out]
  have cA := fun W => fnumber_any W a (by omega)
  have cB := fun W => fnumber_any W b (by omega)
  have cC := fun W => fnumber_any W c (by omega)
  have cD := fun W => fnumber_any W d (by omega)
  have za : (strB (Lib.decDigits a)).size ≤ 20 := by rw [strB_size]; have := decDigits_15 a (by omega); omega
  have zb : (strB (Lib.decDigits b)).size ≤ 20 := by rw [strB_size]; have := decDigits_15 b (by omega); omega
  have zc : (strB (Lib.decDigits c)).size ≤ 20 := by rw [strB_size]; have := decDigits_15 c (by omega); omega
  have zd : (strB (Lib.decDigits d)).size ≤ 20 := by rw [strB_size]; have := decDigits_15 d (by omega); omega
  obtain ⟨f, hf⟩ : ∃ f, m % 100 = f := ⟨_, rfl⟩
  have qa : (m : Int) / 1000 = (a : Int) := by omega
  have qb : (m : Int) / 100 % 10 = (b : Int) := by omega
  have qc : (m : Int) / 10 % 10 = (c : Int) := by omega
  have qd : (m : Int) % 10 = (d : Int) := by omega
  have qf : (m : Int) % 100 = (f : Int) := by omega
  have tf : 0 < f := by omega
  have td : d = 0 := by omega
  have hd0 : decide ((m : Int) < 0) = false := by simp
  clear hr e1 ha hb hc hd hf
  generalize strB (Lib.decDigits a) = A at *
  generalize strB (Lib.decDigits b) = B at *
  generalize strB (Lib.decDigits c) = C at *
  generalize strB (Lib.decDigits d) = D at *
  clear h
  subst td
  go_enter Tryz.func68, Tryz.ntmps68
  go_wp2_with fail
  refine (cR _).mono ?_
  rintro e w1 ⟨rfl, hb1⟩
  obtain ⟨p0, p1, p2⟩ := bare_cells w 2 ((m : Int)) s w1 (by simpa using hb1)
  go_wp2_with fail
  refine (cA _).mono ?_
  rintro e w' ⟨rfl, rfl⟩
  go_wp2_with fail
  refine (cB _).mono ?_
  rintro e w' ⟨rfl, rfl⟩
  go_wp2_with fail
  refine (cC _).mono ?_
  rintro e w' ⟨rfl, rfl⟩
  go_wp2_with fail
  go_ret2
  exact ⟨by simp, hb0.trans (hb1.mono hb0.size)⟩

set_option maxRecDepth 100000 in
set_option maxHeartbeats 1000000 in
theorem fdec_pc (m a b c d : Nat) (s : ByteArray) (w : World) (hs : s.size ≤ 100000) (hr : rightL 2 ((m : Int)) s.data.toList = true) (hm : m < 1000000000000000) (ha : m / 1000 = a) (hb : m / 100 % 10 = b) (hc : m / 10 % 10 = c) (hd : m % 10 = d) (h : d = 0) (h2 : c = 0) :
    Calls Tryz.prog 68 #[.agg #[.int .i64 2, .int .i64 ((m : Int)), .string s]] w (txtPost (.tuple #[.string (strB (decN m)), .int .i64 0]) w) := by
  have cR := fun W => fright_any 2 ((m : Int)) s W hs
  rw [hr] at cR
  have hb0 := bare_below w (.cells #[.int .i64 2, .int .i64 ((m : Int)), .string s] 43)
  have e1 : Hid (strB (decN m) = (⟨#[]⟩ : ByteArray) ++ strB (Lib.decDigits a) ++ (⟨#[46]⟩ : ByteArray) ++ strB (Lib.decDigits b)) := Lib.hid (by
    rw [decN_c m a b c d ha hb hc hd h h2, Lib.decDigits_one (i := b) (by omega), show (⟨#[46]⟩ : ByteArray) = strB [46] from rfl, show (⟨#[]⟩ : ByteArray) = strB [] from rfl]
    simp only [strB_append, List.append_assoc, List.cons_append, List.nil_append])
  rw [e1.out]
  have cA := fun W => fnumber_any W a (by omega)
  have cB := fun W => fnumber_any W b (by omega)
  have cC := fun W => fnumber_any W c (by omega)
  have cD := fun W => fnumber_any W d (by omega)
  have za : (strB (Lib.decDigits a)).size ≤ 20 := by rw [strB_size]; have := decDigits_15 a (by omega); omega
  have zb : (strB (Lib.decDigits b)).size ≤ 20 := by rw [strB_size]; have := decDigits_15 b (by omega); omega
  have zc : (strB (Lib.decDigits c)).size ≤ 20 := by rw [strB_size]; have := decDigits_15 c (by omega); omega
  have zd : (strB (Lib.decDigits d)).size ≤ 20 := by rw [strB_size]; have := decDigits_15 d (by omega); omega
  obtain ⟨f, hf⟩ : ∃ f, m % 100 = f := ⟨_, rfl⟩
  have qa : (m : Int) / 1000 = (a : Int) := by omega
  have qb : (m : Int) / 100 % 10 = (b : Int) := by omega
  have qc : (m : Int) / 10 % 10 = (c : Int) := by omega
  have qd : (m : Int) % 10 = (d : Int) := by omega
  have qf : (m : Int) % 100 = (f : Int) := by omega
  have tf : f = 0 := by omega
  have td : d = 0 := by omega
  have hd0 : decide ((m : Int) < 0) = false := by simp
  clear hr e1 ha hb hc hd hf
  generalize strB (Lib.decDigits a) = A at *
  generalize strB (Lib.decDigits b) = B at *
  generalize strB (Lib.decDigits c) = C at *
  generalize strB (Lib.decDigits d) = D at *
  clear h h2
  subst td
  subst tf
  go_enter Tryz.func68, Tryz.ntmps68
  go_wp2_with fail
  refine (cR _).mono ?_
  rintro e w1 ⟨rfl, hb1⟩
  obtain ⟨p0, p1, p2⟩ := bare_cells w 2 ((m : Int)) s w1 (by simpa using hb1)
  go_wp2_with fail
  refine (cA _).mono ?_
  rintro e w' ⟨rfl, rfl⟩
  go_wp2_with fail
  refine (cB _).mono ?_
  rintro e w' ⟨rfl, rfl⟩
  go_wp2_with fail
  go_ret2
  exact ⟨by simp, hb0.trans (hb1.mono hb0.size)⟩

set_option maxRecDepth 100000 in
set_option maxHeartbeats 1000000 in
theorem fdec_na (m a b c d : Nat) (s : ByteArray) (w : World) (hs : s.size ≤ 100000) (hr : rightL 2 (-(m : Int)) s.data.toList = true) (hm : m < 1000000000000000) (hm0 : 0 < m) (ha : m / 1000 = a) (hb : m / 100 % 10 = b) (hc : m / 10 % 10 = c) (hd : m % 10 = d) (h : 0 < d) :
    Calls Tryz.prog 68 #[.agg #[.int .i64 2, .int .i64 (-(m : Int)), .string s]] w (txtPost (.tuple #[.string (strB (45 :: decN m)), .int .i64 0]) w) := by
  have cR := fun W => fright_any 2 (-(m : Int)) s W hs
  rw [hr] at cR
  have hb0 := bare_below w (.cells #[.int .i64 2, .int .i64 (-(m : Int)), .string s] 43)
  have e1 : Hid (strB (45 :: decN m) = (⟨#[45]⟩ : ByteArray) ++ strB (Lib.decDigits a) ++ (⟨#[46]⟩ : ByteArray) ++ strB (Lib.decDigits b) ++ strB (Lib.decDigits c) ++ strB (Lib.decDigits d)) := Lib.hid (by
    rw [decN_a m a b c d ha hb hc hd h, Lib.decDigits_one (i := b) (by omega), Lib.decDigits_one (i := c) (by omega), Lib.decDigits_one (i := d) (by omega), show (⟨#[46]⟩ : ByteArray) = strB [46] from rfl, show (⟨#[45]⟩ : ByteArray) = strB [45] from rfl]
    simp only [strB_append, List.append_assoc, List.cons_append, List.nil_append])
  rw [e1.out]
  have cA := fun W => fnumber_any W a (by omega)
  have cB := fun W => fnumber_any W b (by omega)
  have cC := fun W => fnumber_any W c (by omega)
  have cD := fun W => fnumber_any W d (by omega)
  have za : (strB (Lib.decDigits a)).size ≤ 20 := by rw [strB_size]; have := decDigits_15 a (by omega); omega
  have zb : (strB (Lib.decDigits b)).size ≤ 20 := by rw [strB_size]; have := decDigits_15 b (by omega); omega
  have zc : (strB (Lib.decDigits c)).size ≤ 20 := by rw [strB_size]; have := decDigits_15 c (by omega); omega
  have zd : (strB (Lib.decDigits d)).size ≤ 20 := by rw [strB_size]; have := decDigits_15 d (by omega); omega
  obtain ⟨f, hf⟩ : ∃ f, m % 100 = f := ⟨_, rfl⟩
  have qa : (m : Int) / 1000 = (a : Int) := by omega
  have qb : (m : Int) / 100 % 10 = (b : Int) := by omega
  have qc : (m : Int) / 10 % 10 = (c : Int) := by omega
  have qd : (m : Int) % 10 = (d : Int) := by omega
  have qf : (m : Int) % 100 = (f : Int) := by omega
  have tf : 0 < f := by omega
  have td : 0 < d := by omega
  have hd0 : decide (-(m : Int) < 0) = true := by simp; omega
  clear hr e1 ha hb hc hd hf
  generalize strB (Lib.decDigits a) = A at *
  generalize strB (Lib.decDigits b) = B at *
  generalize strB (Lib.decDigits c) = C at *
  generalize strB (Lib.decDigits d) = D at *
  go_enter Tryz.func68, Tryz.ntmps68
  go_wp2_with fail
  refine (cR _).mono ?_
  rintro e w1 ⟨rfl, hb1⟩
  obtain ⟨p0, p1, p2⟩ := bare_cells w 2 (-(m : Int)) s w1 (by simpa using hb1)
  go_wp2_with fail
  refine (cA _).mono ?_
  rintro e w' ⟨rfl, rfl⟩
  go_wp2_with fail
  refine (cB _).mono ?_
  rintro e w' ⟨rfl, rfl⟩
  go_wp2_with fail
  refine (cC _).mono ?_
  rintro e w' ⟨rfl, rfl⟩
  go_wp2_with fail
  refine (cD _).mono ?_
  rintro e w' ⟨rfl, rfl⟩
  go_wp2_with fail
  go_ret2
  exact ⟨by simp, hb0.trans (hb1.mono hb0.size)⟩

set_option maxRecDepth 100000 in
set_option maxHeartbeats 1000000 in
theorem fdec_nb (m a b c d : Nat) (s : ByteArray) (w : World) (hs : s.size ≤ 100000) (hr : rightL 2 (-(m : Int)) s.data.toList = true) (hm : m < 1000000000000000) (hm0 : 0 < m) (ha : m / 1000 = a) (hb : m / 100 % 10 = b) (hc : m / 10 % 10 = c) (hd : m % 10 = d) (h : d = 0) (h2 : 0 < c) :
    Calls Tryz.prog 68 #[.agg #[.int .i64 2, .int .i64 (-(m : Int)), .string s]] w (txtPost (.tuple #[.string (strB (45 :: decN m)), .int .i64 0]) w) := by
  have cR := fun W => fright_any 2 (-(m : Int)) s W hs
  rw [hr] at cR
  have hb0 := bare_below w (.cells #[.int .i64 2, .int .i64 (-(m : Int)), .string s] 43)
  have e1 : Hid (strB (45 :: decN m) = (⟨#[45]⟩ : ByteArray) ++ strB (Lib.decDigits a) ++ (⟨#[46]⟩ : ByteArray) ++ strB (Lib.decDigits b) ++ strB (Lib.decDigits c)) := Lib.hid (by
    rw [decN_b m a b c d ha hb hc hd h h2, Lib.decDigits_one (i := b) (by omega), Lib.decDigits_one (i := c) (by omega), show (⟨#[46]⟩ : ByteArray) = strB [46] from rfl, show (⟨#[45]⟩ : ByteArray) = strB [45] from rfl]
    simp only [strB_append, List.append_assoc, List.cons_append, List.nil_append])
  rw [e1.out]
  have cA := fun W => fnumber_any W a (by omega)
  have cB := fun W => fnumber_any W b (by omega)
  have cC := fun W => fnumber_any W c (by omega)
  have cD := fun W => fnumber_any W d (by omega)
  have za : (strB (Lib.decDigits a)).size ≤ 20 := by rw [strB_size]; have := decDigits_15 a (by omega); omega
  have zb : (strB (Lib.decDigits b)).size ≤ 20 := by rw [strB_size]; have := decDigits_15 b (by omega); omega
  have zc : (strB (Lib.decDigits c)).size ≤ 20 := by rw [strB_size]; have := decDigits_15 c (by omega); omega
  have zd : (strB (Lib.decDigits d)).size ≤ 20 := by rw [strB_size]; have := decDigits_15 d (by omega); omega
  obtain ⟨f, hf⟩ : ∃ f, m % 100 = f := ⟨_, rfl⟩
  have qa : (m : Int) / 1000 = (a : Int) := by omega
  have qb : (m : Int) / 100 % 10 = (b : Int) := by omega
  have qc : (m : Int) / 10 % 10 = (c : Int) := by omega
  have qd : (m : Int) % 10 = (d : Int) := by omega
  have qf : (m : Int) % 100 = (f : Int) := by omega
  have tf : 0 < f := by omega
  have td : d = 0 := by omega
  have hd0 : decide (-(m : Int) < 0) = true := by simp; omega
  clear hr e1 ha hb hc hd hf
  generalize strB (Lib.decDigits a) = A at *
  generalize strB (Lib.decDigits b) = B at *
  generalize strB (Lib.decDigits c) = C at *
  generalize strB (Lib.decDigits d) = D at *
  clear h
  subst td
  go_enter Tryz.func68, Tryz.ntmps68
  go_wp2_with fail
  refine (cR _).mono ?_
  rintro e w1 ⟨rfl, hb1⟩
  obtain ⟨p0, p1, p2⟩ := bare_cells w 2 (-(m : Int)) s w1 (by simpa using hb1)
  go_wp2_with fail
  refine (cA _).mono ?_
  rintro e w' ⟨rfl, rfl⟩
  go_wp2_with fail
  refine (cB _).mono ?_
  rintro e w' ⟨rfl, rfl⟩
  go_wp2_with fail
  refine (cC _).mono ?_
  rintro e w' ⟨rfl, rfl⟩
  go_wp2_with fail
  go_ret2
  exact ⟨by simp, hb0.trans (hb1.mono hb0.size)⟩

set_option maxRecDepth 100000 in
set_option maxHeartbeats 1000000 in
theorem fdec_nc (m a b c d : Nat) (s : ByteArray) (w : World) (hs : s.size ≤ 100000) (hr : rightL 2 (-(m : Int)) s.data.toList = true) (hm : m < 1000000000000000) (hm0 : 0 < m) (ha : m / 1000 = a) (hb : m / 100 % 10 = b) (hc : m / 10 % 10 = c) (hd : m % 10 = d) (h : d = 0) (h2 : c = 0) :
    Calls Tryz.prog 68 #[.agg #[.int .i64 2, .int .i64 (-(m : Int)), .string s]] w (txtPost (.tuple #[.string (strB (45 :: decN m)), .int .i64 0]) w) := by
  have cR := fun W => fright_any 2 (-(m : Int)) s W hs
  rw [hr] at cR
  have hb0 := bare_below w (.cells #[.int .i64 2, .int .i64 (-(m : Int)), .string s] 43)
  have e1 : Hid (strB (45 :: decN m) = (⟨#[45]⟩ : ByteArray) ++ strB (Lib.decDigits a) ++ (⟨#[46]⟩ : ByteArray) ++ strB (Lib.decDigits b)) := Lib.hid (by
    rw [decN_c m a b c d ha hb hc hd h h2, Lib.decDigits_one (i := b) (by omega), show (⟨#[46]⟩ : ByteArray) = strB [46] from rfl, show (⟨#[45]⟩ : ByteArray) = strB [45] from rfl]
    simp only [strB_append, List.append_assoc, List.cons_append, List.nil_append])
  rw [e1.out]
  have cA := fun W => fnumber_any W a (by omega)
  have cB := fun W => fnumber_any W b (by omega)
  have cC := fun W => fnumber_any W c (by omega)
  have cD := fun W => fnumber_any W d (by omega)
  have za : (strB (Lib.decDigits a)).size ≤ 20 := by rw [strB_size]; have := decDigits_15 a (by omega); omega
  have zb : (strB (Lib.decDigits b)).size ≤ 20 := by rw [strB_size]; have := decDigits_15 b (by omega); omega
  have zc : (strB (Lib.decDigits c)).size ≤ 20 := by rw [strB_size]; have := decDigits_15 c (by omega); omega
  have zd : (strB (Lib.decDigits d)).size ≤ 20 := by rw [strB_size]; have := decDigits_15 d (by omega); omega
  obtain ⟨f, hf⟩ : ∃ f, m % 100 = f := ⟨_, rfl⟩
  have qa : (m : Int) / 1000 = (a : Int) := by omega
  have qb : (m : Int) / 100 % 10 = (b : Int) := by omega
  have qc : (m : Int) / 10 % 10 = (c : Int) := by omega
  have qd : (m : Int) % 10 = (d : Int) := by omega
  have qf : (m : Int) % 100 = (f : Int) := by omega
  have tf : f = 0 := by omega
  have td : d = 0 := by omega
  have hd0 : decide (-(m : Int) < 0) = true := by simp; omega
  clear hr e1 ha hb hc hd hf
  generalize strB (Lib.decDigits a) = A at *
  generalize strB (Lib.decDigits b) = B at *
  generalize strB (Lib.decDigits c) = C at *
  generalize strB (Lib.decDigits d) = D at *
  clear h h2
  subst td
  subst tf
  go_enter Tryz.func68, Tryz.ntmps68
  go_wp2_with fail
  refine (cR _).mono ?_
  rintro e w1 ⟨rfl, hb1⟩
  obtain ⟨p0, p1, p2⟩ := bare_cells w 2 (-(m : Int)) s w1 (by simpa using hb1)
  go_wp2_with fail
  refine (cA _).mono ?_
  rintro e w' ⟨rfl, rfl⟩
  go_wp2_with fail
  refine (cB _).mono ?_
  rintro e w' ⟨rfl, rfl⟩
  go_wp2_with fail
  go_ret2
  exact ⟨by simp, hb0.trans (hb1.mono hb0.size)⟩

theorem fprint_dec (n : Int) (s : ByteArray) (w : World) (hs : s.size ≤ 100000) (hr : rightL 2 n s.data.toList = true) (g0 : -1000000000000000 < n) (g1 : n < 1000000000000000) :
    Calls Tryz.prog 68 #[.agg #[.int .i64 2, .int .i64 n, .string s]] w (txtPost (textV (some (decT n))) w) := by
  obtain ⟨m, hm⟩ : ∃ m : Nat, n.natAbs = m := ⟨_, rfl⟩
  by_cases hn : n < 0
  · have e1 : decT n = 45 :: decN m := by rw [decT, if_pos hn, hm]
    rw [e1]
    obtain rfl : n = -(m : Int) := by omega
    by_cases h1 : 0 < m % 10
    · exact fdec_na m _ _ _ _ s w hs hr (by omega) (by omega) rfl rfl rfl rfl h1
    · by_cases h2 : 0 < m / 10 % 10
      · exact fdec_nb m _ _ _ _ s w hs hr (by omega) (by omega) rfl rfl rfl rfl (by omega) h2
      · exact fdec_nc m _ _ _ _ s w hs hr (by omega) (by omega) rfl rfl rfl rfl (by omega) (by omega)
  · have e1 : decT n = decN m := by rw [decT, if_neg hn, hm]
    rw [e1]
    obtain rfl : n = (m : Int) := by omega
    by_cases h1 : 0 < m % 10
    · exact fdec_pa m _ _ _ _ s w hs hr (by omega) rfl rfl rfl rfl h1
    · by_cases h2 : 0 < m / 10 % 10
      · exact fdec_pb m _ _ _ _ s w hs hr (by omega) rfl rfl rfl rfl (by omega) h2
      · exact fdec_pc m _ _ _ _ s w hs hr (by omega) rfl rfl rfl rfl (by omega) (by omega)

theorem fprint_any (k n : Int) (s : ByteArray) (w : World) (hs : s.size ≤ 100000) :
    Calls Tryz.prog 68 #[.agg #[.int .i64 k, .int .i64 n, .string s]] w (txtPost (textV (printL k n s.data.toList)) w) := by
  cases hr : rightL k n s.data.toList
  · rw [printL, hr, if_neg (by simp)]
    exact fprint_none k n s w hs hr
  · rw [printL, hr, if_pos rfl]
    rcases right_kind k n _ hr with ⟨rfl | rfl, _, g0, g1⟩ | ⟨rfl, _, g0⟩ | ⟨rfl, rfl, _⟩ | ⟨rfl, rfl, _, _⟩ | ⟨rfl, rfl⟩
    · exact fprint_int n s w hs hr g0 g1
    · exact fprint_dec n s w hs hr g0 g1
    · exact fprint_bool n s w hs hr g0
    · exact fprint_str s w hs hr
    · exact fprint_tok s w hs hr
    · exact fprint_bytes s w hs hr

end Go.Proofs.YtjbipplaacgnkaaGreatDoor

namespace Go.Proofs.YtjbipplaacgnkaaGreatDoor
open Go.RowKit

/-- Only the Boolean 1 has the text of it. -/
theorem text_is_one (k n : Int) (s : List UInt8) (h : rightL k n s = true) : textL k n s = [63, 49] ↔ k = 6 ∧ n = 1 := by
  constructor
  · intro e
    have h1 := readL_text k n s [] h rfl
    rw [List.append_nil, e] at h1
    have h2 : readL [63, 49] = some ⟨6, 1, [], 2⟩ := by kernel_rfl
    rw [h2] at h1
    have h3 := Option.some.inj h1
    rw [Got.mk.injEq] at h3
    exact ⟨h3.1.symm, h3.2.1.symm⟩
  · rintro ⟨rfl, rfl⟩
    show 63 :: Lib.itoa 1 = [63, 49]
    simp [Lib.itoa, Lib.decDigits_one]

theorem ppT_none_of (ps : List Prm) (i : Nat) (p : Prm) (hp : ps[i]? = some p) (h : pmT p = none) : ppT ps = none := by
  have : ∀ (l : List Prm) (i : Nat), l[i]? = some p → ppGo l = none := by
    intro l
    induction l with
    | nil => intro i hi; simp at hi
    | cons q l ih =>
      intro i hi
      cases i with
      | zero =>
        obtain rfl := Option.some.inj hi
        exact ppGo_none _ _ h
      | succ i =>
        cases hq : pmT q with
        | none => exact ppGo_none _ _ hq
        | some t =>
          rw [ppGo_some _ _ _ hq, ih i hi]
          rfl
  rw [ppT, this ps i hp]
  split <;> rfl

theorem ppT_none_dup (ps : List Prm) (i j : Nat) (p q : Prm) (hij : j < i) (hp : ps[i]? = some p) (hq : ps[j]? = some q) (h : q.key = p.key) : ppT ps = none := by
  have hd : eqK ps = true := by
    unfold eqK
    simp only [Bool.not_eq_true', decide_eq_false_iff_not]
    intro hn
    have h1 : (ps.map Prm.key)[i]? = some p.key := by rw [List.getElem?_map, hp]; rfl
    have h2 : (ps.map Prm.key)[j]? = some q.key := by rw [List.getElem?_map, hq]; rfl
    obtain ⟨hi, e1⟩ := List.getElem?_eq_some_iff.1 h1
    obtain ⟨hj, e2⟩ := List.getElem?_eq_some_iff.1 h2
    have := (List.getElem_inj (h₀ := hj) (h₁ := hi) hn).1 (by rw [e1, e2, h])
    omega
  rw [ppT, if_pos hd]

theorem take_next (ps : List Prm) (j : Nat) (p : Prm) (hp : ps[j]? = some p) : ps.take (j + 1) = ps.take j ++ [p] := by
  obtain ⟨hj, e⟩ := List.getElem?_eq_some_iff.1 hp
  rw [List.take_add_one, hp]
  rfl

theorem nodup_next (ps : List Prm) (j : Nat) (p : Prm) (hp : ps[j]? = some p) (hn : ((ps.take j).map Prm.key).Nodup) (hb : ∀ (m : Nat) (q : Prm), m < j → ps[m]? = some q → q.key ≠ p.key) : ((ps.take (j + 1)).map Prm.key).Nodup := by
  rw [take_next ps j p hp, List.map_append, List.nodup_append]
  refine ⟨hn, by simp, ?_⟩
  intro a ha b hb'
  simp only [List.map_cons, List.map_nil, List.mem_singleton] at hb'
  subst hb'
  obtain ⟨q, hq, rfl⟩ := List.mem_map.1 ha
  obtain ⟨m, hm⟩ := List.getElem?_of_mem hq
  rw [List.getElem?_take] at hm
  split at hm
  · rename_i hmj
    exact hb m q hmj hm
  · cases hm

theorem ppGo_next (ps : List Prm) (j : Nat) (p : Prm) (u v : List UInt8) (hp : ps[j]? = some p) (h : ppGo (ps.take j) = some u) (hv : pmT p = some v) : ppGo (ps.take (j + 1)) = some (u ++ v) := by
  rw [take_next ps j p hp]
  exact ppGo_snoc _ p u v h hv

theorem ppT_all (ps : List Prm) (u : List UInt8) (hn : (ps.map Prm.key).Nodup) (h : ppGo ps = some u) : ppT ps = some u := by
  have hd : eqK ps = false := by
    unfold eqK
    simp [hn]
  rw [ppT, hd, h]
  rfl

end Go.Proofs.YtjbipplaacgnkaaGreatDoor
