/- The document's own Clamp, Sum, Told, Date, behind, Current (sculleryref13). · The document's own Date and Current (sculleryref13). -/
import Derived.Test.YtgffnjdmhpfneaaDoorZMHdS
import Derived.Test.YtgffnjdmhpfneaaDoorZMBasP
import Derived.Test.YtgffnjdmhpfneaaDoorZRkL
import Derived.Test.YtgffnjdmhpfneaaDoorZMRdE
import Derived.Test.YtgffnjdmhpfneaaDoorZRfN
import Derived.Test.YtgffnjdmhpfneaaDoorRows
import Derived.IntWalk
import Derived.BigQuiet
import Derived.Deep.QuietTactic
import Derived.WalkKit
import Derived.WalkSpells
import Derived.WalkLawsBesides
import Derived.Lib.Hide

namespace Go.Proofs.YtgffnjdmhpfneaaDoor
open Go.RowKit Go.Lib

set_option maxHeartbeats 1000000 in
theorem rclamp_any (n : Int) (w : World) :
    Calls Tryd.prog 11 #[.int .i64 n] w fun e w' => e = .returned (.int .i64 (clA n)) ∧ w = w' := by
  unfold clA
  go_enter Tryd.func11, Tryd.ntmps11
  go_wp2_with fail
  go_ret
  exact ⟨rfl, rfl⟩

theorem toldV (fs : List Fld) : ∃ b, getV fs nAgeA = .tuple #[.string (strB (joinH (allH fs nAgeA))), .bool b] := ⟨_, rfl⟩
set_option maxRecDepth 100000 in
set_option maxHeartbeats 2000000 in
theorem rtold_any (lo : Nat) (v : Value) (fs : List Fld) (w : World) (h : Flds lo w v fs) (hk : FldsOk fs) (hj : ∀ n, (joinH (allH fs n)).length ≤ 90000) :
    Calls Tryd.prog 13 #[v] w fun e w' => e = .returned (.int .i64 (toldA fs)) ∧ Below w.heap.size w w' := by
  have cG := fun W (hb : Below w.heap.size w W) => rget_any lo v fs nAgeA W (h.below hb) hk
  have cD := fun W => r1digits_any (strB (joinH (allH fs nAgeA))) W (by rw [strB_size]; have := hj nAgeA; unfold maxLen; omega)
  rw [strB_data] at cD
  unfold getV at cG
  have hd : toldA fs = digitsN (joinH (allH fs nAgeA)) := rfl
  rw [hd]
  obtain ⟨ao, cap, rfl, _⟩ := id h
  generalize decide (0 < (allH fs nAgeA).length) = D at *
  generalize digitsN (joinH (allH fs nAgeA)) = R at *
  generalize digitsB (joinH (allH fs nAgeA)) = B at *
  generalize strB (joinH (allH fs nAgeA)) = S at *
  clear h hk hj hd
  go_enter Tryd.func13, Tryd.ntmps13
  go_wp2_with fail
  refine (cG _ (Below.refl _ _)).mono ?_
  rintro e w1 ⟨rfl, hb⟩
  have HB := Lib.hid hb
  clear hb cG
  go_wp2_with fail
  refine (cD _).mono ?_
  rintro e w2 ⟨rfl, rfl⟩
  go_wp2_with fail
  go_ret
  exact ⟨rfl, HB.out⟩

set_option maxHeartbeats 1000000 in
theorem rbehind_any (a b : Int) (w : World) :
    Calls Tryd.prog 28 #[.int .i64 a, .int .i64 b] w fun e w' => e = .returned (.int .i64 (behA a b)) ∧ w = w' := by
  have cA := fun W => rclamp_any a W
  have cB := fun W => rclamp_any b W
  have h1 := clA_in a
  have h2 := clA_in b
  unfold behA
  generalize clA a = A at *
  generalize clA b = B at *
  go_enter Tryd.func28, Tryd.ntmps28
  go_wp2_with fail
  refine (cA _).mono ?_
  rintro e w1 ⟨rfl, rfl⟩
  go_wp2_with fail
  refine (cB _).mono ?_
  rintro e w1 ⟨rfl, rfl⟩
  go_wp2_with fail
  go_ret
  exact ⟨rfl, rfl⟩

set_option maxRecDepth 100000 in
set_option maxHeartbeats 2000000 in
theorem rsum_any (v : Value) (xs : List Int) (w : World) (h : IntsF w v xs) (hl : xs.length ≤ 1000) :
    Calls Tryd.prog 9 #[v] w fun e w' => e = .returned (.int .i64 (sumA xs)) ∧ w = w' := by
  obtain ⟨ao, cap, rfl, hc⟩ := h
  have HC := Lib.hid hc
  clear hc
  go_enter Tryd.func9, Tryd.ntmps9
  go_wp2_with fail
  go_loopw [3, 4] (fun nv iv wr => ∃ (j : Nat) (Z : Int), nv = .int .i64 Z ∧ iv = .int .i64 j ∧ j ≤ xs.length ∧ Hid (Z = suA (xs.take j)) ∧ wr = w) (fun _ iv _ => xs.length - (RowKit.intOf iv).toNat)
  case atStart => exact ⟨0, 0, rfl, rfl, Nat.zero_le _, Lib.hid (by simp [suA]), rfl⟩
  case round =>
    obtain ⟨j, Z, rfl, rfl, hj, HZ, rfl⟩ := hrel
    have hbd := suA_bd (xs.take j)
    rw [← HZ.out] at hbd
    have htl : (xs.take j).length ≤ 1000 := by rw [List.length_take]; omega
    have hz0 : -1099511627776000 ≤ Z := by omega
    have hz1 : Z ≤ 1099511627776000 := by omega
    clear hbd htl
    by_cases hlt : j < xs.length
    · rcases HC.out with hnil | ⟨c, off, rfl, hcl, hcell⟩
      · exfalso
        rw [hnil] at hlt
        simp at hlt
      obtain ⟨x, hx⟩ : ∃ x, xs[j]? = some x := ⟨_, List.getElem?_eq_getElem hlt⟩
      have a0 := hcell j x hx
      have jI : (j : Int) < (xs.length : Int) := by omega
      have j0 : (0 : Int) ≤ (j : Int) := by omega
      have HN : Hid (Z + min (max x (-1099511627776)) 1099511627776 = suA (xs.take (j + 1))) := Lib.hid (by
        rw [List.take_add_one, hx]
        show _ = suA (xs.take j ++ [x])
        rw [suA_snoc, HZ.out]
        rfl)
      have hm0 : -1099511627776 ≤ min (max x (-1099511627776)) 1099511627776 := by omega
      have hm1 : min (max x (-1099511627776)) 1099511627776 ≤ 1099511627776 := by omega
      clear hcell hx
      go_wp2_with fail
      go_roundw
      case rel => exact ⟨j + 1, _, rfl, by go_num, by omega, HN, trivial⟩
      case measure => simp [RowKit.intOf]; omega
    · obtain rfl : j = xs.length := by omega
      have g0 : ¬ (xs.length : Int) < (xs.length : Int) := by omega
      have HR : Hid (sumA xs = min (max Z 0) 2147483648) := Lib.hid (by
        have := HZ.out
        rw [List.take_length] at this
        rw [sumA, ← this])
      go_wp2_with fail
      go_ret
      exact ⟨by rw [HR.out] <;> rfl, rfl⟩

end Go.Proofs.YtgffnjdmhpfneaaDoor

namespace Go.Proofs.YtgffnjdmhpfneaaDoor
open Go.RowKit Go.Lib

set_option maxRecDepth 100000 in
set_option maxHeartbeats 2000000 in
theorem rdate_any (lo : Nat) (v : Value) (fs : List Fld) (n : Int) (w : World) (h : Flds lo w v fs) (hk : FldsOk fs) (hj : ∀ n, (joinH (allH fs n)).length ≤ 90000) :
    Calls Tryd.prog 15 #[v, .int .i64 n] w fun e w' => e = .returned (.int .i64 (dateA fs n)) ∧ Below w.heap.size w w' := by
  have cG := fun W (hb : Below w.heap.size w W) => rget_any lo v fs nDateA W (h.below hb) hk
  have cP := fun W => rparse_any (joinH (allH fs nDateA)) W (Nat.le_trans (hj nDateA) (by decide))
  unfold getV at cG
  obtain ⟨ao, cap, rfl, _⟩ := id h
  obtain ⟨R, hR⟩ : ∃ R, dateA fs n = R := ⟨_, rfl⟩
  have HN := Lib.hid (fun h => (hR.symm.trans (dateA_none n h)))
  have HS := Lib.hid (fun m h => (hR.symm.trans (dateA_some (m := m) n h)))
  rw [hR]
  clear hR h hk hj
  generalize decide (0 < (allH fs nDateA).length) = D at *
  generalize joinH (allH fs nDateA) = J at *
  cases hp : parL J with
  | none =>
    have cC := fun W => rclamp_any n W
    have HV := Lib.hid (HN.out hp)
    rw [hp] at cP
    unfold secV at cP
    clear HN HS hp
    generalize strB J = S at *
    go_enter Tryd.func15, Tryd.ntmps15
    go_wp2_with fail
    refine (cG _ (Below.refl _ _)).mono ?_
    rintro e w1 ⟨rfl, hb⟩
    have HB := Lib.hid hb
    clear hb cG
    go_wp2_with fail
    refine (cP _).mono ?_
    rintro e w2 ⟨rfl, hb⟩
    have HB := Lib.hid (HB.out.trans (hb.mono HB.out.size))
    clear hb cP
    go_wp2_with fail
    refine (cC _).mono ?_
    rintro e w3 ⟨rfl, rfl⟩
    go_wp2_with fail
    go_ret
    exact ⟨by rw [HV.out] <;> rfl, HB.out⟩
  | some m =>
    have cC := fun W => rclamp_any (m : Int) W
    have HV := Lib.hid (HS.out m hp)
    rw [hp] at cP
    unfold secV at cP
    clear HN HS hp
    generalize strB J = S at *
    go_enter Tryd.func15, Tryd.ntmps15
    go_wp2_with fail
    refine (cG _ (Below.refl _ _)).mono ?_
    rintro e w1 ⟨rfl, hb⟩
    have HB := Lib.hid hb
    clear hb cG
    go_wp2_with fail
    refine (cP _).mono ?_
    rintro e w2 ⟨rfl, hb⟩
    have HB := Lib.hid (HB.out.trans (hb.mono HB.out.size))
    clear hb cP
    go_wp2_with fail
    refine (cC _).mono ?_
    rintro e w3 ⟨rfl, rfl⟩
    go_wp2_with fail
    go_ret
    exact ⟨by rw [HV.out] <;> rfl, HB.out⟩

set_option maxRecDepth 100000 in
set_option maxHeartbeats 2000000 in
theorem rcurrent_any (lo : Nat) (v : Value) (fs : List Fld) (a g n : Int) (w : World) (h : Flds lo w v fs) (hk : FldsOk fs) (hj : ∀ n, (joinH (allH fs n)).length ≤ 90000) :
    Calls Tryd.prog 17 #[v, .int .i64 a, .int .i64 g, .int .i64 n] w fun e w' => e = .returned (.int .i64 (curA fs a g n)) ∧ Below w.heap.size w w' := by
  have cD := fun W (hb : Below w.heap.size w W) => rdate_any lo v fs g W (h.below hb) hk hj
  have cT := fun W (hb : Below w.heap.size w W) => rtold_any lo v fs W (h.below hb) hk hj
  have c1 := fun W => rbehind_any g (dateA fs g) W
  have c2 := fun W => rbehind_any g a W
  have c3 := fun W => rbehind_any n g W
  have h1 := behA_in g (dateA fs g)
  have h2 := behA_in g a
  have h3 := behA_in n g
  have h4 := toldA_in fs
  have hv : curA fs a g n = sumA [max (behA g (dateA fs g)) (toldA fs + behA g a), behA n g] := rfl
  obtain ⟨ao, cap, rfl, _⟩ := id h
  rw [hv]
  clear hv h hk hj
  generalize behA g (dateA fs g) = B1 at *
  generalize behA g a = B2 at *
  generalize behA n g = B3 at *
  generalize toldA fs = T at *
  generalize dateA fs g = DG at *
  have cS := fun v W (h : IntsF W v [max B1 (T + B2), B3]) => rsum_any v _ W h (by simp)
  go_enter Tryd.func17, Tryd.ntmps17
  go_wp2_with fail
  refine (cD _ (Below.refl _ _)).mono ?_
  rintro e w1 ⟨rfl, hb⟩
  have HB := Lib.hid hb
  clear hb cD
  go_wp2_with fail
  refine (c1 _).mono ?_
  rintro e w2 ⟨rfl, rfl⟩
  go_wp2_with fail
  refine (cT _ HB.out).mono ?_
  rintro e w2 ⟨rfl, hb⟩
  have HB := Lib.hid (HB.out.trans (hb.mono HB.out.size))
  clear hb cT
  go_wp2_with fail
  refine (c2 _).mono ?_
  rintro e w3 ⟨rfl, rfl⟩
  go_wp2_with fail
  refine (c3 _).mono ?_
  rintro e w3 ⟨rfl, rfl⟩
  have HB9 := Lib.hid (HB.out.alloc HB.out.size (.cells #[.int .i64 (max B1 (T + B2)), .int .i64 B3] 2))
  go_wp2_with fail
  refine (cS _ _ (ints_two _ _ _ _)).mono ?_
  rintro e w4 ⟨rfl, rfl⟩
  go_wp2_with fail
  go_ret
  exact ⟨rfl, HB9.out⟩

end Go.Proofs.YtgffnjdmhpfneaaDoor
