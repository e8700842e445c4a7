/- The contracts of message.rangesWithoutBody and message.Bare (a range over a map, in whatever order). -/
import Derived.Test.YthbfcamfapgodaaGreatDoorG2
import Derived.Test.YthbfcamfapgodaaGreatDoorGE
import Derived.Maps.RangeWalk
import Derived.Maps.Own
import Derived.BigQuiet

namespace Go.Proofs.YthbfcamfapgodaaGreatDoor
open Go.RowKit Go.Shelf Go.Lib Go.Maps

/-- What 'm[k] = v' of a map's literal does: as the store into a map. -/
theorem wpList_insert_own {H : Type} {P : Program} (w : World) {ops : Array Oper} {rest : List Oper} {o : Oper} {a : Act} {Q : Exit → Act → World → Prop}
    (hg : o.guard = none) (m x v : Operand) (t : TypeId) (hop : o.op = Op.insert t m x v)
    (k e : TypeId) (K : Keyed P k) (ht : P.underlying t = some (.map k e)) (R : Value → Option (DataW H × List MemPlace)) (b n : Nat) (D : DataW H)
    (hm : a.eval m = .map (some b)) (hown : w.ownsMap P k R b n D) (hn : n < maxLen) (key val : Value) (kl : Lit) (hx : a.eval x = key) (hv : a.eval v = val) (hkey : keyOf P k key = some kl)
    (d : DataW H) (ps : List MemPlace) (hval : R val = some (d, ps))
    (hK : ∀ w', w'.ownsMap P k R b (n + 1) (D.put kl d) → w.grownBy w' (some b) → wpList P ops Q rest (a.put o.dst undef) w') :
    wpList P ops Q (o :: rest) a w := by
  refine wpList_plain hg fun K' hK' => ?_
  obtain ⟨w', hrun, r1, r2⟩ := hown.update K ht hn hkey hval
  unfold Oper.wp
  simp [execOp, hop, hm, hx, hv, hrun, Result.andThen]
  exact hK' _ _ (hK w' r1 r2)

theorem keyIntM : Keyed Tryz.prog 3 := int_keyed Tryz.underlying3
/-- The statuses without a body: the last of each range, by its first. -/
def rngD : DataW Unit := .map [(.int .i64 100, .lit (.int .i64 199)), (.int .i64 204, .lit (.int .i64 204)), (.int .i64 304, .lit (.int .i64 304))]
theorem Below.of_grown {B : Nat} {w w' : World} {row : Option Nat} (h : w.grownBy w' row) (hB : B ≤ w.heap.size) (hr : ∀ b, row = some b → B ≤ b) : Below B w w' :=
  ⟨h.os, h.tape, h.output, h.size, fun i hi => h.block i (by omega) (fun e => by have := hr i e.symm; omega)⟩
theorem rng_put : ((((DataW.map [] : DataW Unit).put (.int .i64 100) (.lit (.int .i64 199))).put (.int .i64 204) (.lit (.int .i64 204))).put (.int .i64 304) (.lit (.int .i64 304))) = rngD := by rfl
theorem sk_int (y x : Int) : (Lit.int .i64 y).sameKey (.int .i64 x) = (y == x) := by
  show decide (IntKind.i64 = IntKind.i64 ∧ y = x) = (y == x)
  by_cases h : y = x
  · rw [h, decide_eq_true ⟨rfl, rfl⟩, beq_self_eq_true]
  · rw [decide_eq_false (fun hh => h hh.2), beq_eq_false_iff_ne.2 h]
theorem rng_at {x c : Int} (h : ∀ zd : DataW Unit, rngD.atKey (.int .i64 x) zd = .lit (.int .i64 c)) : x = 100 ∧ c = 199 ∨ x = 204 ∧ c = 204 ∨ x = 304 ∧ c = 304 := by
  have hk : ∀ y : Int, (Lit.int .i64 y).sameKey (.int .i64 x) = (y == x) := fun y => sk_int y x
  have h0 := h (.map [])
  unfold rngD DataW.atKey at h0
  simp only [List.find?_cons, hk, List.find?_nil] at h0
  by_cases h1 : x = 100
  · subst h1
    simp at h0
    exact .inl ⟨rfl, by omega⟩
  · by_cases h2 : x = 204
    · subst h2
      simp at h0
      exact .inr (.inl ⟨rfl, by omega⟩)
    · by_cases h3 : x = 304
      · subst h3
        simp at h0
        exact .inr (.inr ⟨rfl, by omega⟩)
      · have e1 : ((100 : Int) == x) = false := by rewrite [beq_eq_false_iff_ne]; omega
        have e2 : ((204 : Int) == x) = false := by rewrite [beq_eq_false_iff_ne]; omega
        have e3 : ((304 : Int) == x) = false := by rewrite [beq_eq_false_iff_ne]; omega
        rw [e1, e2, e3] at h0
        cases h0

set_option maxRecDepth 100000 in
set_option maxHeartbeats 2000000 in
theorem mranges_any (w : World) :
    Calls Tryz.prog 51 #[] w fun e w' => e = .returned (.map (some w.heap.size)) ∧ w'.ownsMap Tryz.prog 3 (plainElem (H := Unit) Tryz.prog 3) w.heap.size 3 rngD ∧ Below w.heap.size w w' := by
  have Hmap0 := Lib.hid (World.ownsMap_made (H := Unit) w Tryz.prog 3 (plainElem (H := Unit) Tryz.prog 3))
  have hb0 := Lib.hid ((Below.refl w.heap.size w).alloc (Nat.le_refl _) (.map #[] 0))
  have hmm := @run_makeMap Tryz.prog
  go_enter Tryz.func51, Tryz.ntmps51
  go_wp2_with (first
    | (refine wpList_insert_own _ rfl _ _ _ 75 rfl 3 3 keyIntM Tryz.underlying75 (plainElem (H := Unit) Tryz.prog 3) w.heap.size 0 _ rfl Hmap0.out (by unfold maxLen; omega) _ _ _ rfl rfl (keyOf_int_mk Tryz.underlying3 (WalkArith.wf_i64 (by omega))) _ [] (plainElem_int Tryz.underlying3 (WalkArith.wf_i64 (by omega))) ?_; intro w1 hm1 hg1; clear Hmap0)
    | (refine wpList_insert_own _ rfl _ _ _ 75 rfl 3 3 keyIntM Tryz.underlying75 (plainElem (H := Unit) Tryz.prog 3) w.heap.size 1 _ rfl hm1 (by unfold maxLen; omega) _ _ _ rfl rfl (keyOf_int_mk Tryz.underlying3 (WalkArith.wf_i64 (by omega))) _ [] (plainElem_int Tryz.underlying3 (WalkArith.wf_i64 (by omega))) ?_; intro w2 hm2 hg2; clear hm1)
    | (refine wpList_insert_own _ rfl _ _ _ 75 rfl 3 3 keyIntM Tryz.underlying75 (plainElem (H := Unit) Tryz.prog 3) w.heap.size 2 _ rfl hm2 (by unfold maxLen; omega) _ _ _ rfl rfl (keyOf_int_mk Tryz.underlying3 (WalkArith.wf_i64 (by omega))) _ [] (plainElem_int Tryz.underlying3 (WalkArith.wf_i64 (by omega))) ?_; intro w3 hm3 hg3; clear hm2)
    | go_in)
  go_ret
  refine ⟨rfl, by rw [rng_put] at hm3; exact hm3, ?_⟩
  have z0 : (w.alloc (.map #[] 0)).heap.size = w.heap.size + 1 := by simp
  have s1 := hg1.size
  have s2 := hg2.size
  have t1 := Below.of_grown (B := w.heap.size) hg1 (by omega) (fun b h => by cases h; exact Nat.le_refl _)
  have t2 := Below.of_grown (B := w.heap.size) hg2 (by omega) (fun b h => by cases h; exact Nat.le_refl _)
  have t3 := Below.of_grown (B := w.heap.size) hg3 (by omega) (fun b h => by cases h; exact Nat.le_refl _)
  exact hb0.out.trans (t1.trans (t2.trans t3))

set_option maxRecDepth 100000 in
set_option maxHeartbeats 4000000 in
theorem mbare_any (n : Int) (m : ByteArray) (w : World) :
    Calls Tryz.prog 19 #[.int .i64 n, .string m] w fun e w' => e = .returned (.bool (bareB n m)) ∧ Below w.heap.size w w' := by
  have cR := fun W => mranges_any W
  have HBt : ∀ x c : Int, (x = 100 ∧ c = 199 ∨ x = 204 ∧ c = 204 ∨ x = 304 ∧ c = 304) → x ≤ n → n ≤ c → bareB n m = true := by
    intro x c h h1 h2
    unfold bareB
    rcases h with ⟨rfl, rfl⟩ | ⟨rfl, rfl⟩ | ⟨rfl, rfl⟩
    · rw [decide_eq_true h1, decide_eq_true h2] <;> rfl
    · obtain rfl : n = 204 := by omega
      simp
    · obtain rfl : n = 304 := by omega
      simp
  have HBf : (∀ x c : Int, (x = 100 ∧ c = 199 ∨ x = 204 ∧ c = 204 ∨ x = 304 ∧ c = 304) → ¬ (x ≤ n ∧ n ≤ c)) → bareB n m = (m.toList == [72, 69, 65, 68]) := by
    intro h
    have a1 := h 100 199 (.inl ⟨rfl, rfl⟩)
    have a2 := h 204 204 (.inr (.inl ⟨rfl, rfl⟩))
    have a3 := h 304 304 (.inr (.inr ⟨rfl, rfl⟩))
    have b1 : (decide (100 ≤ n) && decide (n ≤ 199)) = false := by
      rewrite [Bool.and_eq_false_iff, decide_eq_false_iff_not, decide_eq_false_iff_not]
      omega
    have b2 : (n == 204) = false := by rewrite [beq_eq_false_iff_ne]; omega
    have b3 : (n == 304) = false := by rewrite [beq_eq_false_iff_ne]; omega
    unfold bareB
    rewrite [b1, b2, b3]
    rfl
  have HT := Lib.hid HBt
  have HF := Lib.hid HBf
  clear HBt HBf
  generalize bareB n m = R at *
  generalize hm : (m.toList == [72, 69, 65, 68]) = hd at *
  have Hm := Lib.hid hm
  clear hm
  go_enter Tryz.func19, Tryz.ntmps19
  go_wp2_with fail
  refine (cR _).mono ?_
  rintro e w1 ⟨rfl, hown, hb1⟩
  have HB1 := Lib.hid hb1
  have hlt := hown.lt
  clear hb1 cR
  go_wp2_with (first
    | (at_range; refine wpList_range_own _ rfl _ 75 rfl 3 3 keyIntM Tryz.underlying75 (plainElem (H := Unit) Tryz.prog 3) w.heap.size 3 rngD rfl hown ?_; intro w2 hrg0 hg0 hs0)
    | go_in)
  go_frame
  have HB2 := Lib.hid (HB1.out.trans (Below.of_grown (B := w.heap.size) hg0 HB1.out.size (fun b h => by cases h)))
  go_loopw [5] (fun _ wr => ∃ (left : Lit → Bool) (cnt : Nat), wr.ranges Tryz.prog 3 (plainElem (H := Unit) Tryz.prog 3) w.heap.size w1.heap.size 3 rngD left cnt ∧ Below w.heap.size w wr ∧ Hid (∀ x c : Int, (x = 100 ∧ c = 199 ∨ x = 204 ∧ c = 204 ∨ x = 304 ∧ c = 304) → left (.int .i64 x) = false → ¬ (x ≤ n ∧ n ≤ c)))
    (fun _ wr => wr.rangeLeft w.heap.size w1.heap.size)
  case atStart =>
    refine ⟨_, _, hrg0, HB2.out, Lib.hid fun x c h h0 => ?_⟩
    exfalso
    rcases h with ⟨rfl, rfl⟩ | ⟨rfl, rfl⟩ | ⟨rfl, rfl⟩
    · exact absurd h0 (by decide)
    · exact absurd h0 (by decide)
    · exact absurd h0 (by decide)
  case round =>
    obtain ⟨left, cnt, hrg, hbr, H⟩ := hrel
    have HBr := Lib.hid hbr
    clear hbr hrg0
    go_wp2_with (first
      | (at_next; refine wpList_next_ranges_ii _ rfl _ rfl 3 3 .i64 .i64 keyIntM Tryz.underlying3 Tryz.underlying3 w.heap.size w1.heap.size 3 _ _ _ rfl hrg ?_ ?_)
      | go_in)
    · intro _ hl0
      have HR : Hid (R = hd) := Lib.hid (HF.out fun x c h => H.out x c h (hl0 _))
      have hm := Hm.out
      clear hl0
      go_wp2_with fail
      go_ret
      exact ⟨by rw [HR.out] <;> rfl, HBr.out⟩
    · intro x c w3 cnt1 hwx hwc hlx hat hrg1 hlt1 hg1 hs1 hen
      have HB3 := Lib.hid (HBr.out.trans (Below.of_grown (B := w.heap.size) hg1 HBr.out.size (fun b h => by cases h; exact HB1.out.size)))
      have Hxc := Lib.hid (rng_at hat)
      clear hat
      by_cases h1 : x ≤ n
      · by_cases h2 : n ≤ c
        · have HR : Hid (R = true) := Lib.hid (HT.out x c Hxc.out h1 h2)
          go_wp2_with fail
          go_ret
          exact ⟨by rw [HR.out] <;> rfl, HB3.out⟩
        · have HN : Hid (¬ (x ≤ n ∧ n ≤ c)) := Lib.hid (fun h => h2 h.2)
          go_wp2_with fail
          go_roundw
          case rel =>
            refine ⟨_, cnt1, hrg1, HB3.out, Lib.hid fun y d h h0 => ?_⟩
            by_cases hy : y = x
            · subst hy
              have hx := Hxc.out
              have : d = c := by omega
              subst this
              exact HN.out
            · have hk := sk_int y x
              have hf : (y == x) = false := by rewrite [beq_eq_false_iff_ne]; exact hy
              rw [hk, hf, Bool.not_false, Bool.and_true] at h0
              exact H.out y d h h0
          case measure => rewrite [hrg1.left_eq, hrg.left_eq]; exact hlt1
      · have HN : Hid (¬ (x ≤ n ∧ n ≤ c)) := Lib.hid (fun h => h1 h.1)
        go_wp2_with fail
        go_roundw
        case rel =>
          refine ⟨_, cnt1, hrg1, HB3.out, Lib.hid fun y d h h0 => ?_⟩
          by_cases hy : y = x
          · subst hy
            have hx := Hxc.out
            have : d = c := by omega
            subst this
            exact HN.out
          · have hk := sk_int y x
            have hf : (y == x) = false := by rewrite [beq_eq_false_iff_ne]; exact hy
            rw [hk, hf, Bool.not_false, Bool.and_true] at h0
            exact H.out y d h h0
        case measure => rewrite [hrg1.left_eq, hrg.left_eq]; exact hlt1

end Go.Proofs.YthbfcamfapgodaaGreatDoor
