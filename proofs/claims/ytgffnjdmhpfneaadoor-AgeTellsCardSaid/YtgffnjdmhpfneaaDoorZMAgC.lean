/- The contracts of package age. · The law's own 'awake' over package age: it returns true. -/
import Derived.Test.YtgffnjdmhpfneaaDoorZMHdS
import Derived.Test.YtgffnjdmhpfneaaDoorZMBasP
import Derived.Test.YtgffnjdmhpfneaaDoorZHdU
import Derived.Test.YtgffnjdmhpfneaaDoorZDatJ
import Derived.Test.YtgffnjdmhpfneaaDoorZDigP
import Derived.Test.YtgffnjdmhpfneaaDoorRows
import Derived.Test.YtgffnjdmhpfneaaDoorZMDatA
import Derived.IntWalk
import Derived.BigQuiet
import Derived.Deep.QuietTactic
import Derived.WalkKit
import Derived.WalkSpells
import Derived.WalkLawsBesides
import Derived.Lib.Hide

namespace Go.Proofs.YtgffnjdmhpfneaaDoor
open Go.RowKit Go.Lib

set_option maxHeartbeats 1000000 in
theorem alimit_any (n a b : Int) (w : World) :
    Calls Tryd.prog 20 #[.int .i64 n, .int .i64 a, .int .i64 b] w fun e w' => e = .returned (.int .i64 (min (max n a) b)) ∧ w = w' := by
  go_enter Tryd.func20, Tryd.ntmps20
  go_wp2_with fail
  go_ret
  exact ⟨rfl, rfl⟩

set_option maxHeartbeats 1000000 in
theorem aclamp_any (n : Int) (w : World) :
    Calls Tryd.prog 10 #[.int .i64 n] w fun e w' => e = .returned (.int .i64 (clA n)) ∧ w = w' := by
  have c := fun W => alimit_any n 0 1099511627776 W
  have hc : clA n = min (max n 0) 1099511627776 := rfl
  rw [← hc] at c
  clear hc
  generalize clA n = R at *
  go_enter Tryd.func10, Tryd.ntmps10
  go_wp2_with fail
  refine (c _).mono ?_
  rintro e w1 ⟨rfl, rfl⟩
  go_wp2_with fail
  go_ret
  exact ⟨rfl, rfl⟩

set_option maxHeartbeats 1000000 in
theorem abehind_any (b a : Int) (w : World) :
    Calls Tryd.prog 27 #[.int .i64 b, .int .i64 a] w fun e w' => e = .returned (.int .i64 (behA a b)) ∧ w = w' := by
  have cA := fun W => aclamp_any a W
  have cB := fun W => aclamp_any b W
  have h1 := clA_in a
  have h2 := clA_in b
  unfold behA
  generalize clA a = A at *
  generalize clA b = B at *
  go_enter Tryd.func27, Tryd.ntmps27
  go_wp2_with fail
  refine (cA _).mono ?_
  rintro e w1 ⟨rfl, rfl⟩
  go_wp2_with fail
  refine (cB _).mono ?_
  rintro e w1 ⟨rfl, rfl⟩
  go_wp2_with fail
  go_ret
  exact ⟨rfl, rfl⟩

set_option maxRecDepth 100000 in
set_option maxHeartbeats 2000000 in
theorem asum_any (v : Value) (xs : List Int) (w : World) (h : IntsF w v xs) (hl : xs.length ≤ 1000) :
    Calls Tryd.prog 8 #[v] w fun e w' => e = .returned (.int .i64 (sumA xs)) ∧ w = w' := by
  obtain ⟨ao, cap, rfl, hc⟩ := h
  have HC := Lib.hid hc
  clear hc
  go_enter Tryd.func8, Tryd.ntmps8
  go_wp2_with fail
  go_loopw [3, 4, 9] (fun uv lv iv wr => ∃ (j : Nat) (U L : Int), uv = .int .i64 U ∧ lv = .int .i64 L ∧ iv = .int .i64 j ∧ j ≤ xs.length ∧ Hid (U = upA (xs.take j)) ∧ Hid (L = loA (xs.take j)) ∧ wr = w) (fun _ _ iv _ => xs.length - (RowKit.intOf iv).toNat)
  case atStart => exact ⟨0, 0, 0, rfl, rfl, rfl, Nat.zero_le _, Lib.hid (by simp [upA]), Lib.hid (by simp [loA]), rfl⟩
  case round =>
    obtain ⟨j, U, L, rfl, rfl, rfl, hj, HU, HL, rfl⟩ := hrel
    have hbu := upA_bd (xs.take j)
    have hbl := loA_bd (xs.take j)
    rw [← HU.out] at hbu
    rw [← HL.out] at hbl
    have htl : (xs.take j).length ≤ 1000 := by rw [List.length_take]; omega
    have u0 : -256000 ≤ U := by omega
    have u1 : U ≤ 256000 := by omega
    have l0 : 0 ≤ L := by omega
    have l1 : L ≤ 4294967296000 := by omega
    clear hbu hbl htl
    by_cases hlt : j < xs.length
    · rcases HC.out with hnil | ⟨c, off, rfl, hcl, hcell⟩
      · exfalso
        rw [hnil] at hlt
        simp at hlt
      obtain ⟨x, hx⟩ : ∃ x, xs[j]? = some x := ⟨_, List.getElem?_eq_getElem hlt⟩
      have a0 := hcell j x hx
      have jI : (j : Int) < (xs.length : Int) := by omega
      have j0 : (0 : Int) ≤ (j : Int) := by omega
      have cL := fun W => alimit_any x (-1099511627776) 1099511627776 W
      have hM := ctA_in x
      have hct : ctA x = min (max x (-1099511627776)) 1099511627776 := rfl
      rw [← hct] at cL
      have NU : Hid (U + ctA x / 4294967296 = upA (xs.take (j + 1))) := Lib.hid (by
        rw [List.take_add_one, hx]
        show _ = upA (xs.take j ++ [x])
        rw [upA_snoc, HU.out])
      have NL : Hid (L + ctA x % 4294967296 = loA (xs.take (j + 1))) := Lib.hid (by
        rw [List.take_add_one, hx]
        show _ = loA (xs.take j ++ [x])
        rw [loA_snoc, HL.out])
      clear hct
      generalize ctA x = M at *
      have hlow := i64_low M
      have m0 : -1099511627776 ≤ M := hM.1
      have m1 : M ≤ 1099511627776 := hM.2
      have b0 : 0 ≤ bits .and .i64 M 4294967295 := by omega
      have b1 : bits .and .i64 M 4294967295 < 4294967296 := by omega
      clear hcell hx hM
      rw [← hlow] at NL
      clear hlow
      go_wp2_with fail
      refine (cL _).mono ?_
      rintro e w1 ⟨rfl, rfl⟩
      go_wp2_with fail
      go_roundw
      case rel => exact ⟨j + 1, _, _, rfl, rfl, by go_num, by omega, NU, NL, trivial⟩
      case measure => simp [RowKit.intOf]; omega
    · obtain rfl : j = xs.length := by omega
      have g0 : ¬ (xs.length : Int) < (xs.length : Int) := by omega
      have HR := Lib.hid (sum_halves xs)
      have e1 := HU.out
      have e2 := HL.out
      rw [List.take_length] at e1 e2
      rw [← e1, ← e2] at HR
      have hlow := i64_low L
      clear e1 e2 HU HL
      have b0 : 0 ≤ bits .and .i64 L 4294967295 := by omega
      have b1 : bits .and .i64 L 4294967295 < 4294967296 := by omega
      by_cases h1 : U + L / 4294967296 < 0
      · have HV : Hid (sumA xs = 0) := Lib.hid (by rw [HR.out, if_pos h1])
        clear HR
        go_wp2_with fail
        go_ret
        exact ⟨by rw [HV.out] <;> rfl, rfl⟩
      · by_cases h2 : 0 < U + L / 4294967296
        · have HV : Hid (sumA xs = 2147483648) := Lib.hid (by rw [HR.out, if_neg h1, if_pos h2])
          clear HR
          go_wp2_with fail
          go_ret
          exact ⟨by rw [HV.out] <;> rfl, rfl⟩
        · have HV : Hid (sumA xs = min (L % 4294967296) 2147483648) := Lib.hid (by rw [HR.out, if_neg h1, if_neg h2])
          clear HR
          go_wp2_with fail
          go_ret
          exact ⟨by rw [HV.out] <;> rfl, rfl⟩

set_option maxRecDepth 100000 in
set_option maxHeartbeats 2000000 in
theorem atold_any (lo : Nat) (v : Value) (fs : List Fld) (w : World) (h : Flds lo w v fs) (hk : FldsOk fs) (hj : ∀ n, (joinH (allH fs n)).length ≤ 90000) :
    Calls Tryd.prog 12 #[v] w fun e w' => e = .returned (.int .i64 (toldA fs)) ∧ Below w.heap.size w w' := by
  have cG := fun W (hb : Below w.heap.size w W) => hget_any lo v fs nAgeA W (h.below hb) hk
  have cD := fun W => digits_any (strB (joinH (allH fs nAgeA))) W (by rw [strB_size]; have := hj nAgeA; unfold maxLen; omega)
  rw [strB_data] at cD
  unfold getV at cG
  have hd : toldA fs = digitsN (joinH (allH fs nAgeA)) := rfl
  rw [hd]
  obtain ⟨ao, cap, rfl, _⟩ := id h
  generalize decide (0 < (allH fs nAgeA).length) = D at *
  generalize digitsN (joinH (allH fs nAgeA)) = R at *
  generalize digitsB (joinH (allH fs nAgeA)) = B at *
  generalize strB (joinH (allH fs nAgeA)) = S at *
  clear h hk hj hd
  go_enter Tryd.func12, Tryd.ntmps12
  go_wp2_with fail
  refine (cG _ (Below.refl _ _)).mono ?_
  rintro e w1 ⟨rfl, hb⟩
  have HB := Lib.hid hb
  clear hb cG
  go_wp2_with fail
  refine (cD _).mono ?_
  rintro e w2 ⟨rfl, rfl⟩
  go_wp2_with fail
  go_ret
  exact ⟨rfl, HB.out⟩

set_option maxRecDepth 100000 in
set_option maxHeartbeats 2000000 in
theorem adate_any (lo : Nat) (v : Value) (fs : List Fld) (n : Int) (w : World) (h : Flds lo w v fs) (hk : FldsOk fs) (hj : ∀ n, (joinH (allH fs n)).length ≤ 90000) (hC : Cal w) :
    Calls Tryd.prog 14 #[v, .int .i64 n] w fun e w' => e = .returned (.int .i64 (dateA fs n)) ∧ Below w.heap.size w w' := by
  have cG := fun W (hb : Below w.heap.size w W) => hget_any lo v fs nDateA W (h.below hb) hk
  have HC := Lib.hid hC
  have cP := fun W (hb : Below w.heap.size w W) => parse_any (joinH (allH fs nDateA)) W (Nat.le_trans (hj nDateA) (by decide)) (Cal.below HC.out hb)
  unfold getV at cG
  obtain ⟨ao, cap, rfl, _⟩ := id h
  obtain ⟨R, hR⟩ : ∃ R, dateA fs n = R := ⟨_, rfl⟩
  have HN := Lib.hid (fun h => (hR.symm.trans (dateA_none n h)))
  have HS := Lib.hid (fun m h => (hR.symm.trans (dateA_some (m := m) n h)))
  rw [hR]
  clear hR h hk hj hC HC
  generalize decide (0 < (allH fs nDateA).length) = D at *
  generalize joinH (allH fs nDateA) = J at *
  cases hp : parL J with
  | none =>
    have cC := fun W => aclamp_any n W
    have HV := Lib.hid (HN.out hp)
    rw [hp] at cP
    unfold secV at cP
    clear HN HS hp
    generalize strB J = S at *
    go_enter Tryd.func14, Tryd.ntmps14
    go_wp2_with fail
    refine (cG _ (Below.refl _ _)).mono ?_
    rintro e w1 ⟨rfl, hb⟩
    have HB := Lib.hid hb
    clear hb cG
    go_wp2_with fail
    refine (cP _ HB.out).mono ?_
    rintro e w2 ⟨rfl, hb⟩
    have HB := Lib.hid (HB.out.trans (hb.mono HB.out.size))
    clear hb cP
    go_wp2_with fail
    refine (cC _).mono ?_
    rintro e w3 ⟨rfl, rfl⟩
    go_wp2_with fail
    go_ret
    exact ⟨by rw [HV.out] <;> rfl, HB.out⟩
  | some m =>
    have cC := fun W => aclamp_any (m : Int) W
    have HV := Lib.hid (HS.out m hp)
    rw [hp] at cP
    unfold secV at cP
    clear HN HS hp
    generalize strB J = S at *
    go_enter Tryd.func14, Tryd.ntmps14
    go_wp2_with fail
    refine (cG _ (Below.refl _ _)).mono ?_
    rintro e w1 ⟨rfl, hb⟩
    have HB := Lib.hid hb
    clear hb cG
    go_wp2_with fail
    refine (cP _ HB.out).mono ?_
    rintro e w2 ⟨rfl, hb⟩
    have HB := Lib.hid (HB.out.trans (hb.mono HB.out.size))
    clear hb cP
    go_wp2_with fail
    refine (cC _).mono ?_
    rintro e w3 ⟨rfl, rfl⟩
    go_wp2_with fail
    go_ret
    exact ⟨by rw [HV.out] <;> rfl, HB.out⟩

set_option maxRecDepth 100000 in
set_option maxHeartbeats 2000000 in
theorem acurrent_any (lo : Nat) (v : Value) (fs : List Fld) (a g n : Int) (w : World) (h : Flds lo w v fs) (hk : FldsOk fs) (hj : ∀ n, (joinH (allH fs n)).length ≤ 90000) (hC : Cal w) :
    Calls Tryd.prog 16 #[v, .int .i64 a, .int .i64 g, .int .i64 n] w fun e w' => e = .returned (.int .i64 (curA fs a g n)) ∧ Below w.heap.size w w' := by
  have HC := Lib.hid hC
  have cD := fun W (hb : Below w.heap.size w W) => adate_any lo v fs g W (h.below hb) hk hj (Cal.below HC.out hb)
  have cT := fun W (hb : Below w.heap.size w W) => atold_any lo v fs W (h.below hb) hk hj
  have c1 := fun W => abehind_any (dateA fs g) g W
  have c2 := fun W => abehind_any a g W
  have c3 := fun W => abehind_any g n W
  have h1 := behA_in g (dateA fs g)
  have h2 := behA_in g a
  have h3 := behA_in n g
  have h4 := toldA_in fs
  have hv : curA fs a g n = sumA [max (behA g (dateA fs g)) (toldA fs + behA g a), behA n g] := rfl
  obtain ⟨ao, cap, rfl, _⟩ := id h
  rw [hv]
  clear hv h hk hj hC HC
  generalize behA g (dateA fs g) = B1 at *
  generalize behA g a = B2 at *
  generalize behA n g = B3 at *
  generalize toldA fs = T at *
  generalize dateA fs g = DG at *
  have cS := fun v W (h : IntsF W v [max B1 (T + B2), B3]) => asum_any v _ W h (by simp)
  go_enter Tryd.func16, Tryd.ntmps16
  go_wp2_with fail
  refine (cD _ (Below.refl _ _)).mono ?_
  rintro e w1 ⟨rfl, hb⟩
  have HB := Lib.hid hb
  clear hb cD
  go_wp2_with fail
  refine (c1 _).mono ?_
  rintro e w2 ⟨rfl, rfl⟩
  go_wp2_with fail
  refine (cT _ HB.out).mono ?_
  rintro e w2 ⟨rfl, hb⟩
  have HB := Lib.hid (HB.out.trans (hb.mono HB.out.size))
  clear hb cT
  go_wp2_with fail
  refine (c2 _).mono ?_
  rintro e w3 ⟨rfl, rfl⟩
  go_wp2_with fail
  refine (c3 _).mono ?_
  rintro e w3 ⟨rfl, rfl⟩
  have HB9 := Lib.hid (HB.out.alloc HB.out.size (.cells #[.int .i64 (max B1 (T + B2)), .int .i64 B3] 2))
  go_wp2_with fail
  refine (cS _ _ (ints_two _ _ _ _)).mono ?_
  rintro e w4 ⟨rfl, rfl⟩
  go_wp2_with fail
  go_ret
  exact ⟨rfl, HB9.out⟩

end Go.Proofs.YtgffnjdmhpfneaaDoor

namespace Go.Proofs.YtgffnjdmhpfneaaDoor
open Go.RowKit Go.Shelf Go.Lib

set_option maxRecDepth 100000 in
set_option maxHeartbeats 8000000 in
theorem awake13_any (w : World) (hC : Cal w) :
    Calls Tryd.prog 6 #[] w fun e w' => e = .returned (.bool true) ∧ Below w.heap.size w w' := by
  have HC := Lib.hid hC
  clear hC
  have c1 := fun v W (h : Flds 0 W v agF) hC => acurrent_any 0 v agF 100 110 130 W h ag_ok ag_j hC
  have c2 := fun v W (h : Flds 0 W v agF) => atold_any 0 v agF W h ag_ok ag_j
  have c3 := fun v W (h : Flds 0 W v agF) hC => adate_any 0 v agF 7 W h ag_ok ag_j hC
  have c4 := fun W hC => adate_any 0 (.slice none 0 0) [] 7 W (Flds.nothing 0 W) ag_nok ag_nil hC
  have c5 := fun W v (h : IntsF W v [2147483648, 5]) => asum_any v _ W h (by decide)
  have c6 := fun W v (h : IntsF W v [3, -5]) => asum_any v _ W h (by decide)
  have c7 := fun W => aclamp_any (-1) W
  rw [ag_1] at c1
  rw [ag_2] at c2
  rw [ag_3] at c3
  rw [ag_4] at c4
  rw [ag_5] at c5
  rw [ag_6] at c6
  rw [ag_7] at c7
  have HB := Lib.hid ((Below.refl w.heap.size w).alloc (Nat.le_refl _) (.cells #[.string ⟨#[100, 97, 116, 101]⟩, .string ⟨#[84, 104, 117, 44, 32, 48, 49, 32, 74, 97, 110, 32, 49, 57, 55, 48, 32, 48, 48, 58, 48, 49, 58, 48, 48, 32, 71, 77, 84]⟩, .string ⟨#[97, 103, 101]⟩, .string ⟨#[53]⟩] 39))
  have HF : Hid (Flds 0 (w.alloc (.cells #[.string ⟨#[100, 97, 116, 101]⟩, .string ⟨#[84, 104, 117, 44, 32, 48, 49, 32, 74, 97, 110, 32, 49, 57, 55, 48, 32, 48, 48, 58, 48, 49, 58, 48, 48, 32, 71, 77, 84]⟩, .string ⟨#[97, 103, 101]⟩, .string ⟨#[53]⟩] 39)) (.slice (some ⟨w.heap.size, 0, none⟩) 2 2) agF) := Lib.hid (flds_two w nDateA _ nAgeA [53] 39)
  go_enter Tryd.func6, Tryd.ntmps6
  go_wp2_with fail
  refine (c1 _ _ HF.out (Cal.below HC.out HB.out)).mono ?_
  rintro e w1 ⟨rfl, hb⟩
  have HF := Lib.hid (HF.out.below hb)
  have HB := Lib.hid (HB.out.trans (hb.mono HB.out.size))
  clear hb
  go_wp2_with fail
  refine (c2 _ _ HF.out).mono ?_
  rintro e w2 ⟨rfl, hb⟩
  have HF := Lib.hid (HF.out.below hb)
  have HB := Lib.hid (HB.out.trans (hb.mono HB.out.size))
  clear hb
  go_wp2_with fail
  refine (c3 _ _ HF.out (Cal.below HC.out HB.out)).mono ?_
  rintro e w3 ⟨rfl, hb⟩
  have HF := Lib.hid (HF.out.below hb)
  have HB := Lib.hid (HB.out.trans (hb.mono HB.out.size))
  clear hb
  go_wp2_with fail
  refine (c4 _ (Cal.below HC.out HB.out)).mono ?_
  rintro e w4 ⟨rfl, hb⟩
  have HF := Lib.hid (HF.out.below hb)
  have HB := Lib.hid (HB.out.trans (hb.mono HB.out.size))
  clear hb
  go_wp2_with fail
  refine (c5 _ _ (ints_two _ _ _ _)).mono ?_
  rintro e w5 ⟨rfl, rfl⟩
  have HB := Lib.hid (HB.out.alloc HB.out.size (.cells #[.int .i64 2147483648, .int .i64 5] 2))
  go_wp2_with fail
  generalize hW5 : w4.alloc (.cells #[.int .i64 2147483648, .int .i64 5] 2) = W5 at *
  have hsz : w4.heap.size + 1 = W5.heap.size := by rw [← hW5]; simp
  rw [hsz]
  clear hsz hW5
  have HB9 := Lib.hid (HB.out.alloc HB.out.size (.cells #[.int .i64 3, .int .i64 (-5)] 2))
  have hi := ints_two W5 3 (-5) 2
  refine (c6 _ _ hi).mono ?_
  rintro e w6 ⟨rfl, rfl⟩
  go_wp2_with fail
  refine (c7 _).mono ?_
  rintro e w7 ⟨rfl, rfl⟩
  go_wp2_with fail
  go_ret
  exact ⟨rfl, HB9.out⟩

end Go.Proofs.YtgffnjdmhpfneaaDoor
