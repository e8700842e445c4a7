/- The walk of the law BareMore. -/
import Derived.Test.YtopfallmpbjbaaaDoorAwake02
import Derived.Test.YtopfallmpbjbaaaDoorBarR
namespace Go.Proofs.YtopfallmpbjbaaaDoor
open Go.RowKit

/-- Digits behind noughts. -/
def zrs (z m : Nat) : List UInt8 := List.replicate z 48 ++ Lib.decDigits m

theorem zrs_all (z m : Nat) : (zrs z m).all (fun c => digI c.toNat) = true := by
  rw [zrs, List.all_append, decDigits_all, Bool.and_true, List.all_eq_true]
  intro x hx
  obtain rfl := (List.mem_replicate.1 hx).2
  decide
theorem zrs_num (z m : Nat) : numL (zrs z m) = (m : Int) := by rw [zrs, numL_zeros, decDigits_num]
theorem zrs_len (z m : Nat) : (zrs z m).length = z + (Lib.decDigits m).length := by rw [zrs, List.length_append, List.length_replicate]
theorem zrs_pos (z m : Nat) : 1 ≤ (zrs z m).length := by
  have := decDigits_1 m
  rw [zrs_len]; omega
theorem zrs_plus (z m : Nat) : readL (zrs z m) = numTail 0 1 (zrs z m) := by
  have h1 := zrs_pos z m
  have h2 := zrs_all z m
  generalize zrs z m = l at *
  match l, h1 with
  | c :: r, _ =>
    rw [List.all_cons, Bool.and_eq_true] at h2
    exact readL_plus c r h2.1
theorem zrs_read (z m : Nat) (h : (zrs z m).length ≤ 15) : readL (zrs z m) = some ⟨1, (m : Int), [], (zrs z m).length⟩ ∧ readL (45 :: zrs z m) = some ⟨1, -(m : Int), [], (zrs z m).length + 1⟩ := by
  refine ⟨?_, ?_⟩
  · rw [zrs_plus, numTail_of 0 1 (zrs z m) (zrs z m) [] (by simp) (zrs_all z m) (zrs_pos z m) h rfl, zrs_num, Int.one_mul, Nat.zero_add]
  · rw [readL_minus, numTail_of 1 (-1) (45 :: zrs z m) (zrs z m) [] (by simp) (zrs_all z m) (zrs_pos z m) h rfl, zrs_num, Int.neg_one_mul, Nat.add_comm]
theorem zrs_long (z m : Nat) (h : 15 < (zrs z m).length) : readL (zrs z m) = none := by
  rw [zrs_plus]
  refine numTail_none (z := zrs z m) ?_ (.inr h)
  have := ldig_app (zrs z m) [] (zrs_all z m) rfl
  rw [List.append_nil] at this
  rw [List.drop_zero]; exact this

theorem gotV_num (k n : Int) (m : Nat) : gotV (some ⟨k, n, [], m⟩) = .tuple #[.agg #[.int .i64 k, .int .i64 n, .string ⟨#[]⟩], .int .i64 (m : Int), .int .i64 0] := rfl

theorem zrs_succ (z m : Nat) : (⟨#[48]⟩ : ByteArray) ++ strB (zrs z m) = strB (zrs (z + 1) m) := by
  rw [show (⟨#[48]⟩ : ByteArray) = strB [48] from rfl, strB_append, zrs, zrs, List.replicate_succ]; rfl

set_option maxRecDepth 100000 in
set_option maxHeartbeats 1000000 in
theorem more_walk (n z : Int) (w : World) (hA : Alph w) (hP : Pow w) (hn : -9223372036854775808 ≤ n ∧ n ≤ 9223372036854775807) :
    Calls Tryd.prog 6 #[.int .i64 n, .int .i64 z] w fun e w' => e = .returned (.bool true) ∧ Below w.heap.size w w' := by
  have cA := awake_any w hA hP
  have HA := Lib.hid hA
  have HP := Lib.hid hP
  clear hA hP
  by_cases h1 : n < 0
  · have d1 : decide (n < 0) = true := by simpa using h1
    go_enter Tryd.func6, Tryd.ntmps6
    go_wp2_with fail
    refine cA.mono ?_
    rintro e w1 ⟨rfl, hb1⟩
    have hz1 := hb1.size
    go_wp2_with fail
    go_ret
    exact ⟨rfl, hb1.alloc hz1 _⟩
  · have d1 : decide (n < 0) = false := by simpa using h1
    have cR := fun W => right_any 1 n ⟨#[]⟩ W (by decide)
    cases hr : rightL 1 n []
    · rw [show (⟨#[]⟩ : ByteArray).data.toList = [] from rfl, hr] at cR
      clear hr
      go_enter Tryd.func6, Tryd.ntmps6
      go_wp2_with fail
      refine cA.mono ?_
      rintro e w1 ⟨rfl, hb1⟩
      have hb2 : Below w.heap.size w (w1.alloc (.cells #[.int .i64 1, .int .i64 n, .string ⟨#[]⟩] 23)) := hb1.alloc hb1.size _
      go_wp2_with fail
      refine (cR _).mono ?_
      rintro e w2 ⟨rfl, hb3⟩
      go_wp2_with fail
      go_ret
      exact ⟨rfl, hb2.trans (hb3.mono hb2.size)⟩
    · have hin := hr
      rw [right_num _ _ _ (.inl rfl), inNum] at hin
      simp only [List.isEmpty_nil, Bool.true_and, Bool.and_eq_true, decide_eq_true_eq] at hin
      have Hpr : Hid (printL 1 n [] = some (Lib.itoa n)) := Lib.hid (by rw [printL, hr]; rfl)
      rw [show (⟨#[]⟩ : ByteArray).data.toList = [] from rfl, hr] at cR
      clear hr
      by_cases h2 : z < 0
      · have d2 : decide (z < 0) = true := by simpa using h2
        go_enter Tryd.func6, Tryd.ntmps6
        go_wp2_with fail
        refine cA.mono ?_
        rintro e w1 ⟨rfl, hb1⟩
        have hb2 : Below w.heap.size w (w1.alloc (.cells #[.int .i64 1, .int .i64 n, .string ⟨#[]⟩] 23)) := hb1.alloc hb1.size _
        go_wp2_with fail
        refine (cR _).mono ?_
        rintro e w2 ⟨rfl, hb3⟩
        go_wp2_with fail
        go_ret
        exact ⟨rfl, hb2.trans (hb3.mono hb2.size)⟩
      · have d2 : decide (z < 0) = false := by simpa using h2
        by_cases h3 : 15 < z
        · have d3 : decide (15 < z) = true := by simpa using h3
          go_enter Tryd.func6, Tryd.ntmps6
          go_wp2_with fail
          refine cA.mono ?_
          rintro e w1 ⟨rfl, hb1⟩
          have hb2 : Below w.heap.size w (w1.alloc (.cells #[.int .i64 1, .int .i64 n, .string ⟨#[]⟩] 23)) := hb1.alloc hb1.size _
          go_wp2_with fail
          refine (cR _).mono ?_
          rintro e w2 ⟨rfl, hb3⟩
          go_wp2_with fail
          go_ret
          exact ⟨rfl, hb2.trans (hb3.mono hb2.size)⟩
        · have d3 : decide (15 < z) = false := by simpa using h3
          obtain ⟨m, rfl⟩ : ∃ m : Nat, n = (m : Int) := ⟨n.toNat, by omega⟩
          obtain ⟨Z, rfl⟩ : ∃ Z : Nat, z = (Z : Int) := ⟨z.toNat, by omega⟩
          have hm15 := decDigits_15 m (by omega)
          have cP := fun W hW hW2 => print_any 1 (m : Int) ⟨#[]⟩ W (by decide) hn hW hW2
          rw [show (⟨#[]⟩ : ByteArray).data.toList = [] from rfl, Hpr.out, textV, itoa_nat, show Lib.decDigits m = zrs 0 m from rfl] at cP
          have Hl := Lib.hid (zrs_len Z m)
          have cT := fun W hW => read_any (strB (zrs Z m)) W (by rw [strB_size, zrs_len]; omega) hW
          have cM := fun W hW => read_any ((⟨#[45]⟩ : ByteArray) ++ strB (zrs Z m)) W (by rw [show (⟨#[45]⟩ : ByteArray) = strB [45] from rfl, strB_append, strB_size, List.length_append, zrs_len]; simp; omega) hW
          rw [strB_data] at cT
          have e45 : ((⟨#[45]⟩ : ByteArray) ++ strB (zrs Z m)).data.toList = 45 :: zrs Z m := by
            rw [show (⟨#[45]⟩ : ByteArray) = strB [45] from rfl, strB_append]; rfl
          rw [e45] at cM
          clear e45
          have hz4 : (strB (zrs Z m)).size ≤ 30 := by rw [strB_size, zrs_len]; omega
          clear Hpr
          clear hm15
          go_enter Tryd.func6, Tryd.ntmps6
          go_wp2_with fail
          refine cA.mono ?_
          rintro e w1 ⟨rfl, hb1⟩
          have hb2 : Below w.heap.size w (w1.alloc (.cells #[.int .i64 1, .int .i64 (m : Int), .string ⟨#[]⟩] 23)) := hb1.alloc hb1.size _
          go_wp2_with fail
          refine (cR _).mono ?_
          rintro e w2 ⟨rfl, hb3⟩
          have hb4 := hb2.trans (hb3.mono hb2.size)
          obtain ⟨p0, p1, p2⟩ := bare_cells w1 1 (m : Int) ⟨#[]⟩ w2 (by simpa using hb3)
          go_wp2_with fail
          refine (cP _ (HA.out.below hb4) (HP.out.below hb4)).mono ?_
          rintro e w3 ⟨rfl, hb5⟩
          clear p0 p1 p2
          have hb6 := hb4.trans (hb5.mono hb4.size)
          have hb7 := hb3.trans (hb5.mono hb3.size)
          clear hb3 hb4 hb5 hb2 hb1 cA cR cP
          go_wp2_with fail
          go_loop [9, 10] (fun t i => ∃ k : Nat, k ≤ Z ∧ i = .int .i64 k ∧ t = .string (strB (zrs k m))) (fun _ i => Z - (intOf i).toNat)
          case atStart => exact ⟨0, Nat.zero_le _, rfl, rfl⟩
          case round =>
            obtain ⟨k, hk, rfl, rfl⟩ := hrel
            by_cases hlt : k < Z
            · have Hs := Lib.hid (zrs_succ k m)
              have hsz : (strB (zrs k m)).size ≤ 30 := by rw [strB_size, zrs_len]; have := Hl.out; rw [← strB_size] at this; omega
              generalize hT : strB (zrs k m) = T at *
              clear hT
              go_wp2
              go_round
              case rel => exact ⟨k + 1, by omega, by go_num, by rw [← Hs.out]⟩
              case measure => simp [intOf]; omega
            · obtain rfl : k = Z := by omega
              have Hs : Hid (strB (zrs k m) = strB (zrs k m)) := Lib.hid rfl
              generalize hTe : strB (zrs k m) = T at *
              clear Hs
              have hTs : T.size = (zrs k m).length := by rw [← hTe, strB_size]
              by_cases h15 : 15 < T.size
              · rw [zrs_long k m (by omega), gotV] at cT
                clear hTe hTs
                go_wp2_with fail
                refine (cT _ (HA.out.below hb6)).mono ?_
                rintro e w4 ⟨rfl, hb8⟩
                have hb9 := hb6.trans (hb8.mono hb6.size)
                have hb10 : Below w.heap.size w (w4.alloc (.cells #[.int .i64 0, .int .i64 0, .string ⟨#[]⟩] 23)) := hb9.alloc hb9.size _
                clear hb8 hb7
                go_wp2_with fail
                go_ret
                exact ⟨rfl, hb10⟩
              · obtain ⟨r1, r2⟩ := zrs_read k m (by omega)
                rw [r1, ← hTs, gotV_num] at cT
                rw [r2, ← hTs, gotV_num, Int.natCast_add, Int.natCast_one] at cM
                clear hTe hTs r1 r2
                go_wp2_with fail
                refine (cT _ (HA.out.below hb6)).mono ?_
                rintro e w4 ⟨rfl, hb8⟩
                have hb9 := hb6.trans (hb8.mono hb6.size)
                have hb10 : Below w.heap.size w (w4.alloc (.cells #[.int .i64 1, .int .i64 (m : Int), .string ⟨#[]⟩] 23)) := hb9.alloc hb9.size _
                have hb11 := hb7.trans (hb8.mono hb7.size)
                have hb12 := hb11.alloc hb11.size (.cells #[.int .i64 1, .int .i64 (m : Int), .string ⟨#[]⟩] 23)
                clear hb8 hb7 hb6
                go_wp2_with fail
                refine (cM _ (HA.out.below hb10)).mono ?_
                rintro e w5 ⟨rfl, hb13⟩
                have hb14 := hb10.trans (hb13.mono hb10.size)
                have hb15 := hb12.trans (hb13.mono hb12.size)
                obtain ⟨p0, p1, p2⟩ := bare_cells w1 1 (m : Int) ⟨#[]⟩ w5 (by simpa using hb15)
                obtain ⟨q0, q1, q2⟩ := bare_cells w4 1 (m : Int) ⟨#[]⟩ w5 (by simpa using hb13)
                have s1 : w1.heap.size < w5.heap.size := by have := hb15.size; simp at this; omega
                have s2 : w4.heap.size < w5.heap.size := by have := hb13.size; simp at this; omega
                have hb16 : Below w.heap.size w (w5.alloc (.cells #[.int .i64 1, .int .i64 (-(m : Int)), .string ⟨#[]⟩] 23)) := hb14.alloc hb14.size _
                clear hb9 hb10 hb11 hb12 hb13 hb14 hb15
                go_wp2_with fail
                go_ret
                exact ⟨rfl, hb16⟩

end Go.Proofs.YtopfallmpbjbaaaDoor
