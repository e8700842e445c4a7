/- The contract of strconv.FormatInt at sixteen, of small numbers. -/
import Derived.Test.YtfhpgobdnhlpcaaDoorChP
import Derived.Test.YtfhpgobdnhlpcaaDoorHdA
import Derived.Lib.ItoaWalk
import Derived.Test.YtfhpgobdnhlpcaaDoorShelf
import Derived.Laws.BitsLemmas
import Derived.Laws.BytesArg
namespace Go.Proofs.YtfhpgobdnhlpcaaDoor
open Go.RowKit Go.Shelf Go.Lib

/-- The one cell of the table that is read. -/
def Deb (w : World) : Prop := w.cell? ⟨7, 15, none⟩ = some (.int .u8 4)
theorem Deb.below {w w' : World} (h : Deb w) (hb : Below w.heap.size w w') : Deb w' := (hb.cell (p := ⟨_, 15, none⟩) (lt_of_cell h)).trans h

set_option maxHeartbeats 4000000 in
theorem tz16_any (w : World) (h : Deb w) :
    Calls Tryd.prog 112 #[.int .u64 16] w fun e w' => e = .returned (.int .i64 4) ∧ w' = w := by
  have key : IntKind.u64.wrap (bits BinOp.and IntKind.u64 16 (IntKind.u64.wrap (-16)) * 285870213051353865) / 288230376151711744 = 15 := by decide +kernel
  have key2 : IntKind.u64.wrap (bits BinOp.and IntKind.u64 16 18446744073709551600 * 285870213051353865) / 288230376151711744 = 15 := by decide +kernel
  have c64 : Calls Tryd.prog 126 #[.int .u64 16] w fun e w' => e = .returned (.int .i64 4) ∧ w' = w := by
    unfold Deb at h
    go_enter Tryd.func126, Tryd.ntmps126
    go_wp2_with (simp only [key, key2])
    go_ret
    exact ⟨rfl, rfl⟩
  go_enter Tryd.func112, Tryd.ntmps112
  go_wp2_with (go_at_call 126; refine c64.mono ?_; rintro e w' ⟨rfl, rfl⟩)
  go_ret
  exact ⟨rfl, rfl⟩

set_option maxHeartbeats 1000000 in
theorem pow2_any (w : World) :
    Calls Tryd.prog 111 #[.int .i64 16] w fun e w' => e = .returned (.bool true) ∧ w' = w := by
  have key : bits BinOp.and IntKind.i64 16 15 = 0 := by decide +kernel
  go_enter Tryd.func111, Tryd.ntmps111
  go_wp2_with (simp only [key])
  go_ret
  exact ⟨rfl, rfl⟩

/-- The library's digits. -/
def digsB : ByteArray := ⟨#[48, 49, 50, 51, 52, 53, 54, 55, 56, 57, 97, 98, 99, 100, 101, 102, 103, 104, 105, 106, 107, 108, 109, 110, 111, 112, 113, 114, 115, 116, 117, 118, 119, 120, 121, 122]⟩
theorem digs_at : ∀ i : Fin 16, digsB.data.toList[i.val]? = some (hexC i.val) := by decide
theorem idx_hex (t : TypeId) (ht : Tryd.prog.underlying t = some .string) (k : IntKind) (z : Int) (i : Nat) (hz : z = (i : Int)) (hi : i < 16) (w : World) :
    (Instr.index t (.string digsB) (.int k z)).run Tryd.prog w = .ok (.int .u8 ((hexC i).toNat : Int)) w := by
  subst hz
  have hs : digsB.size = 36 := rfl
  rw [run_index_string w t digsB k _ ht, dif_pos ⟨by omega, by rw [hs]; omega⟩]
  have e : ((i : Int)).toNat = i := by omega
  simp only [e]
  have := digs_at ⟨i, hi⟩
  have h2 : digsB[i]'(by rw [hs]; omega) = hexC i := by
    have h3 := (List.getElem?_eq_some_iff.1 this).2
    rw [← h3]
    rfl
  rw [h2]

theorem u64_and15 (u : Nat) (h : u < 18446744073709551616) : bits .and .u64 (u : Int) 15 = ((u % 16 : Nat) : Int) := by
  have := bits_and_u64_nat u 15 h (by omega)
  rw [show ((15 : Nat) : Int) = 15 from rfl] at this
  rw [this, show (15 : Nat) = 2 ^ 4 - 1 from rfl, Nat.and_two_pow_sub_one_eq_mod]

theorem drop_set {l : List UInt8} {i : Nat} (h : i < l.length) (c : UInt8) : (l.set i c).drop i = c :: l.drop (i + 1) := by
  rw [List.drop_set, if_neg (Nat.lt_irrefl _), Nat.sub_self, List.drop_eq_getElem_cons h, List.set_cons_zero]
theorem hex_round (u : Nat) (cs : List UInt8) (h : ¬ u < 16) : hexL u ++ cs = hexL (u / 16) ++ (hexC (u % 16) :: cs) := by
  rw [hexL_big u h, List.append_assoc, List.singleton_append]

set_option maxHeartbeats 8000000 in
set_option maxRecDepth 100000 in
theorem fbits_any (n : Nat) (hn : n < 1048576) (w : World) (hD : Deb w) :
    Calls Tryd.prog 93 #[.slice none 0 0, .int .u64 n, .int .i64 16, .bool false, .bool false] w fun e w' => e = .returned (.tuple #[.slice none 0 0, .string (strB (hexL n))]) ∧ Below w.heap.size w w' := by
  have cP := fun W => pow2_any W
  have cT := fun W h => tz16_any W h
  have hD1 : Deb (w.alloc (.cells Tryd.zeroCells123 123)) := hD.below ((Below.refl _ _).alloc (Nat.le_refl _) _)
  have HD1 := Lib.hid hD1
  clear hD hD1
  go_enter Tryd.func93, Tryd.ntmps93
  go_name_bytes PM hPM
  clear hPM
  go_name_bytes DG hDG
  have eDG : DG = digsB := by rw [← hDG]; rfl
  subst eDG
  clear hDG
  go_wp2_with fail
  refine (cP _).mono ?_
  rintro e w1 ⟨rfl, rfl⟩
  go_wp2_with fail
  refine (cT _ HD1.out).mono ?_
  rintro e w1 ⟨rfl, rfl⟩
  clear cP cT HD1
  go_wp2_with fail
  go_loopw [1, 13] (fun vu vi wr => ∃ (u p : Nat) (l : List UInt8), vu = .int .u64 u ∧ vi = .int .i64 ((p : Int) + 1) ∧ 60 ≤ p ∧ p ≤ 64 ∧ Hid (u < 16 ^ (p - 59)) ∧ Hid (l.length = 65) ∧ RowIs wr w.heap.size l ∧ Hid (hexL n = hexL u ++ l.drop (p + 1)) ∧ Below w.heap.size w wr) (fun _ vi _ => (intOf vi).toNat)
  case atStart =>
    refine ⟨n, 64, List.replicate 65 0, rfl, rfl, by omega, by omega, Lib.hid (by omega), Lib.hid (by simp), ?_, Lib.hid (by simp), (Below.refl _ _).alloc (Nat.le_refl _) _⟩
    intro j hj
    rw [List.length_replicate] at hj
    have hz : Tryd.zeroCells123 = Array.replicate 65 (.int .u8 0) := by kernel_rfl
    have hg : (List.replicate 65 (0 : UInt8)).getD j 0 = 0 := by rw [List.getD_eq_getElem?_getD, List.getElem?_replicate, if_pos hj]; rfl
    rw [hz, hg]
    constructor
    · simp [hj]
    · simp
  case round =>
    obtain ⟨u, p, l, rfl, rfl, hp0, hp4, hu, hl, hrow, hH, hb⟩ := hrel
    have HB := Lib.hid hb
    have HR := Lib.hid hrow
    obtain ⟨hc, hf⟩ := hrow p (by have := hl.out; omega)
    generalize ((l.getD p 0).toNat : Int) = old at hc
    have hu5 : u < 1048576 := Nat.lt_of_lt_of_le hu.out (Nat.le_trans (Nat.pow_le_pow_right (by omega) (show p - 59 ≤ 5 by omega)) (by decide))
    have pI : (p : Int) < 65 := by omega
    clear hb hrow
    by_cases h16 : u < 16
    · have d1 : ¬ (16 : Int) ≤ (u : Int) := by omega
      have hix := fun W => idx_hex 9 Tryd.underlying9 .u64 (u : Int) u rfl h16 W
      have HF : Hid (hexL n = (l.set p (hexC u)).drop p) := Lib.hid (by rw [hH.out, hexL_small u h16, drop_set (by have := hl.out; omega)]; rfl)
      have hrow2 := HR.out.set p (hexC u) ((hexC u).toNat : Int) rfl
      have HR2 := Lib.hid hrow2
      clear hrow2
      have hal : Tryd.prog.arrayLen 123 = 65 := by kernel_rfl
      have hsl : ∀ W, (Instr.sliceAt 123 (.pointer (some ⟨w.heap.size, 0, none⟩)) (some (.int .i64 (p : Int))) none none).run Tryd.prog W = .ok (.slice (some ⟨w.heap.size, p, none⟩) ((l.set p (hexC u)).drop p).length (65 - p)) W := fun W => by
        rw [run_sliceAt_array_l W 123 ⟨w.heap.size, 0, none⟩ (by simp [Program.arrayLen, Program.elem, Tryd.underlying123]) .i64 (p : Int) (by omega) (by rw [hal]; omega)]
        have hll : (l.set p (hexC u)).length = 65 := by rw [List.length_set]; exact hl.out
        rw [List.length_drop, hll, hal]
        have hel : Tryd.prog.elem 123 = 5 := by kernel_rfl
        rw [hel]
        go_simp
        omega
      have hback := fun (W : World) (hW : RowIs W w.heap.size (l.set p (hexC u))) => run_convert_bytes_back (P := Tryd.prog) W 55 9 5 ⟨w.heap.size, p, none⟩ (65 - p) ((l.set p (hexC u)).drop p) Tryd.underlying55 Tryd.underlying5 Tryd.underlying9 (by
        intro j hj
        have hj2 : p + j < (l.set p (hexC u)).length := by rw [List.length_drop] at hj; omega
        have := (hW (p + j) hj2).1
        rw [List.getD_eq_getElem?_getD, List.getElem?_eq_getElem hj2] at this
        rw [List.getElem_drop]
        rw [show (⟨w.heap.size, p, none⟩ : Addr).add j = ⟨w.heap.size, p + j, none⟩ from (by unfold Addr.add; split <;> simp_all)]
        exact this)
      have hback1 := hback _ HR2.out
      clear hback hal
      rw [← HF.out] at hsl hback1
      go_wp2_with fail
      exact bodyPost_ret (v := .tuple #[.slice none 0 0, .string (strB (hexL n))]) (by simp [results, Tryd.results93, go_sem, strB]) rfl ⟨rfl, HB.out.setCell (Nat.le_refl _) _⟩
    · obtain ⟨d, hd⟩ : ∃ d, u % 16 = d := ⟨_, rfl⟩
      obtain ⟨q, hq⟩ : ∃ q, u / 16 = q := ⟨_, rfl⟩
      have d1 : (16 : Int) ≤ (u : Int) := by omega
      have hm : bits .and .u64 (u : Int) 15 = (d : Int) := by rw [u64_and15 u (by omega), hd]
      have hs : (u : Int) / 16 = (q : Int) := by omega
      have hix := fun W => idx_hex 9 Tryd.underlying9 .u64 (d : Int) d rfl (by omega) W
      have hp60 : 60 < p := by
        have := hu.out
        by_cases h : p = 60
        · rw [h] at this
          omega
        · omega
      obtain ⟨p2, rfl⟩ : ∃ p2, p = p2 + 1 := ⟨p - 1, by omega⟩
      have HF : Hid (hexL n = hexL q ++ (l.set (p2 + 1) (hexC d)).drop (p2 + 1)) := Lib.hid (by rw [hH.out, hex_round u _ h16, hq, hd, drop_set (by have := hl.out; omega)])
      have HR2 := Lib.hid (HR.out.set (p2 + 1) (hexC d) ((hexC d).toNat : Int) rfl)
      have Hq : Hid (q < 16 ^ (p2 - 59)) := Lib.hid (by
        have := hu.out
        rw [show p2 + 1 - 59 = (p2 - 59) + 1 by omega, Nat.pow_succ] at this
        omega)
      clear hd hq
      go_wp2_with fail
      go_roundw
      case rel => exact ⟨q, p2, l.set (p2 + 1) (hexC d), rfl, by go_num, by omega, by omega, Hq, Lib.hid (by rw [List.length_set]; exact hl.out), HR2.out, Lib.hid HF.out, HB.out.setCell (Nat.le_refl _) _⟩
      case measure => simp [intOf]; omega

set_option maxHeartbeats 4000000 in
set_option maxRecDepth 100000 in
theorem fmt16_any (n : Nat) (hn : n < 1048576) (w : World) (hD : Deb w) :
    Calls Tryd.prog 61 #[.int .i64 n, .int .i64 16] w fun e w' => e = .returned (.string (strB (hexL n))) ∧ Below w.heap.size w w' := by
  have cB := fbits_any n hn w hD
  have cI : Calls Tryd.prog 75 #[.int .i64 n, .int .i64 16] w fun e w' => e = .returned (.string (strB (hexL n))) ∧ Below w.heap.size w w' := by
    have hwr : IntKind.u64.wrap (n : Int) = (n : Int) := by rw [IntKind.wrap_u64]; omega
    clear hD
    generalize strB (hexL n) = S at *
    go_enter Tryd.func75, Tryd.ntmps75
    go_wp2_with fail
    refine cB.mono ?_
    rintro e w1 ⟨rfl, hb⟩
    go_wp2_with fail
    go_ret
    exact ⟨rfl, hb⟩
  clear cB hD
  generalize strB (hexL n) = S at *
  go_enter Tryd.func61, Tryd.ntmps61
  go_wp2_with fail
  refine cI.mono ?_
  rintro e w1 ⟨rfl, hb⟩
  go_wp2_with fail
  go_ret
  exact ⟨rfl, hb⟩

set_option maxHeartbeats 2000000 in
theorem lineOf_any (n : Nat) (hn : n < 1048576) (w : World) (hD : Deb w) :
    Calls Tryd.prog 43 #[.int .i64 n] w fun e w' => e = .returned (.string (strB (hexL n ++ [13, 10]))) ∧ Below w.heap.size w w' := by
  have cF := fmt16_any n hn w hD
  have hl : (hexL n).length ≤ 5 := hexL_len 5 n (by omega) (by omega)
  have hS : strB (hexL n ++ [13, 10]) = strB (hexL n) ++ ⟨#[13, 10]⟩ := strB_append _ _
  have hz : (strB (hexL n)).size ≤ 5 := by rw [strB_size]; exact hl
  have hsum : ¬ 9223372036854775807 < (strB (hexL n)).size + 2 := by omega
  rw [hS]
  clear hS hD hl
  generalize strB (hexL n) = S at *
  clear hz
  go_enter Tryd.func43, Tryd.ntmps43
  go_wp2_with fail
  refine cF.mono ?_
  rintro e w1 ⟨rfl, hb⟩
  go_wp2_with fail
  go_ret
  exact ⟨rfl, hb⟩

end Go.Proofs.YtfhpgobdnhlpcaaDoor
