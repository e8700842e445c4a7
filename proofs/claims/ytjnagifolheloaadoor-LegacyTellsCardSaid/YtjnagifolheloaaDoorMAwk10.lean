/- The law's own 'awake' over package legacy: it returns true. -/
import Derived.Test.YtjnagifolheloaaDoorMLgH

namespace Go.Proofs.YtjnagifolheloaaDoor
open Go.RowKit Go.Shelf Go.Lib

def aw0 : List UInt8 := [109, 97, 120, 45, 97, 103, 101, 61, 54, 48, 44, 32, 77, 97, 120, 45, 65, 103, 101, 61, 53, 44, 32, 78, 79, 45, 83, 84, 79, 82, 69, 44, 32, 112, 114, 105, 118, 97, 116, 101, 61, 34, 97, 44, 32, 92, 34, 98, 34, 44, 32, 120, 32, 121, 44, 32, 109, 97, 120, 45, 115, 116, 97, 108, 101]
def awD : List Dir := [(nMaxAge, [54, 48], true), (nMaxAge, [53], true), (nNoStore, [], false), (nPrivate, [97, 44, 32, 34, 98], true), (nStale, [], false)]
def awF : List Fld := [(nCtl, [97]), (nCtl, [115, 45, 109, 97, 120, 97, 103, 101, 61, 120])]
set_option maxRecDepth 100000 in
theorem aw_d : dirsL aw0 = awD := by rfl
set_option maxRecDepth 100000 in
theorem aw_r : rulV awD = .agg #[.bool true, .bool false, .bool true, .bool false, .bool false, .bool false, .bool false, .bool false, .int .i64 60, .int .i64 (-1), .int .i64 2147483648, .int .i64 (-1), .int .i64 (-1)] := by rfl
set_option maxRecDepth 100000 in
theorem aw_q : rulV (ctlD awF) = .agg #[.bool false, .bool false, .bool false, .bool false, .bool false, .bool false, .bool false, .bool false, .int .i64 (-1), .int .i64 0, .int .i64 (-1), .int .i64 (-1), .int .i64 (-1)] := by rfl
set_option maxRecDepth 100000 in
theorem aw_j : (joinH (allH awF nCtl)).length ≤ 100000 := by decide
theorem run_field_rules (a0 a1 a2 a3 a4 a5 a6 a7 a8 a9 a10 a11 a12 : Value) (w : World) : Sem.run Tryd.prog (Instr.field 34 (.agg #[a0, a1, a2, a3, a4, a5, a6, a7, a8, a9, a10, a11, a12]) 9) w = .ok a9 w := by kernel_rfl

set_option maxRecDepth 100000 in
set_option maxHeartbeats 8000000 in
theorem awake10_any (w : World) (hT : Tabs w) :
    Calls Tryd.prog 6 #[] w fun e w' => e = .returned (.bool true) ∧ Below w.heap.size w w' := by
  have HT := Lib.hid hT
  clear hT
  have c1 := fun W h => lparse_any (strB aw0) W (by decide) h
  simp only [strB_data, aw_d] at c1
  rw [show strB aw0 = (⟨([109, 97, 120, 45, 97, 103, 101, 61, 54, 48, 44, 32, 77, 97, 120, 45, 65, 103, 101, 61, 53, 44, 32, 78, 79, 45, 83, 84, 79, 82, 69, 44].append [32, 112, 114, 105, 118, 97, 116, 101, 61, 34, 97, 44, 32, 92, 34, 98, 34, 44, 32, 120, 32, 121, 44, 32, 109, 97, 120, 45, 115, 116, 97, 108, 101]).toArray⟩ : ByteArray) from rfl] at c1
  have c2 := fun u W (h : Dirs 0 W u awD) => of_any 0 u awD W h ⟨by decide, by decide⟩
  have c3 := fun v W (h : Flds 0 W v awF) hT => read_any 0 v awF W h ⟨by decide, by decide⟩ aw_j hT
  have c4 := none_any
  rw [aw_r] at c2
  rw [aw_q] at c3
  rw [rulV_none] at c4
  have hfr := run_field_rules
  go_enter Tryd.func6, Tryd.ntmps6
  go_wp2_with fail
  refine (c1 _ HT.out).mono ?_
  rintro e w1 ⟨⟨u, rfl, hD⟩, hb1⟩
  have cO := c2 _ _ (hD.low (Nat.zero_le _))
  obtain ⟨uo, uc, rfl, hcell⟩ := hD
  rw [show awD.length = 5 from rfl] at cO ⊢
  rcases hcell with hnil | ⟨c, off, rfl, _, hcl, hcell⟩
  · cases hnil
  have x3 := (hcell 3 _ rfl).2.1
  have HB1 := Lib.hid hb1
  have HC1 := Lib.hid hcl
  clear c1 hcell hb1
  go_wp2_with fail
  refine cO.mono ?_
  rintro e w2 ⟨rfl, hb2⟩
  have y3 := (hb2.cell (p := ⟨c, off + 3 * 3 + 1, none⟩) HC1.out).trans x3
  have HB2 := Lib.hid (HB1.out.trans (hb2.mono HB1.out.size))
  have HC2 := Lib.hid (Nat.lt_of_lt_of_le HC1.out hb2.size)
  clear x3 hb2 c2 cO
  have HR2 := Lib.hid (BoxN.made w2 [.bool true, .bool false, .bool true, .bool false, .bool false, .bool false, .bool false, .bool false, .int .i64 60, .int .i64 (-1), .int .i64 2147483648, .int .i64 (-1), .int .i64 (-1)] 34)
  have hal := (Below.refl w2.heap.size w2).alloc (Nat.le_refl _) (.cells #[.bool true, .bool false, .bool true, .bool false, .bool false, .bool false, .bool false, .bool false, .int .i64 60, .int .i64 (-1), .int .i64 2147483648, .int .i64 (-1), .int .i64 (-1)] 34)
  have HB3 := Lib.hid (HB2.out.trans (hal.mono HB2.out.size))
  have y4 := (hal.cell (p := ⟨c, off + 3 * 3 + 1, none⟩) HC2.out).trans y3
  have HC3 := Lib.hid (Nat.lt_of_lt_of_le HC2.out hal.size)
  have hz3 : (w2.alloc (.cells #[.bool true, .bool false, .bool true, .bool false, .bool false, .bool false, .bool false, .bool false, .int .i64 60, .int .i64 (-1), .int .i64 2147483648, .int .i64 (-1), .int .i64 (-1)] 34)).heap.size = w2.heap.size + 1 := by simp
  clear y3 hal
  go_wp2_with fail
  generalize w2.alloc (.cells #[.bool true, .bool false, .bool true, .bool false, .bool false, .bool false, .bool false, .bool false, .int .i64 60, .int .i64 (-1), .int .i64 2147483648, .int .i64 (-1), .int .i64 (-1)] 34) = W2 at *
  have hfl : Flds 0 (W2.alloc (.cells #[.string ⟨#[99, 97, 99, 104, 101, 45, 99, 111, 110, 116, 114, 111, 108]⟩, .string ⟨#[97]⟩, .string ⟨#[99, 97, 99, 104, 101, 45, 99, 111, 110, 116, 114, 111, 108]⟩, .string ⟨#[115, 45, 109, 97, 120, 97, 103, 101, 61, 120]⟩] 47)) (.slice (some ⟨w2.heap.size + 1, 0, none⟩) 2 2) awF := by
    rw [← hz3]
    refine ⟨_, 2, rfl, .inr ⟨W2.heap.size, 0, rfl, Nat.zero_le _, by simp, fun j p hj => ?_⟩⟩
    match j, hj with
    | 0, hj =>
      obtain rfl := Option.some.inj hj
      exact ⟨by simp; rfl, by simp; rfl⟩
    | 1, hj =>
      obtain rfl := Option.some.inj hj
      exact ⟨by simp; rfl, by simp; rfl⟩
    | j + 2, hj => cases hj
  have hal := (Below.refl W2.heap.size W2).alloc (Nat.le_refl _) (.cells #[.string ⟨#[99, 97, 99, 104, 101, 45, 99, 111, 110, 116, 114, 111, 108]⟩, .string ⟨#[97]⟩, .string ⟨#[99, 97, 99, 104, 101, 45, 99, 111, 110, 116, 114, 111, 108]⟩, .string ⟨#[115, 45, 109, 97, 120, 97, 103, 101, 61, 120]⟩] 47)
  have HB4 := Lib.hid (HB3.out.trans (hal.mono HB3.out.size))
  have y5 := (hal.cell (p := ⟨c, off + 3 * 3 + 1, none⟩) HC3.out).trans y4
  have HC4 := Lib.hid (Nat.lt_of_lt_of_le HC3.out hal.size)
  have HR3 := Lib.hid (HR2.out.next hal)
  clear y4 hal
  refine (c3 _ _ hfl (Utf8Tabs_below HT.out HB4.out)).mono ?_
  rintro e w3 ⟨rfl, hb3⟩
  have y6 := (hb3.cell (p := ⟨c, off + 3 * 3 + 1, none⟩) HC4.out).trans y5
  have hC := Nat.lt_of_lt_of_le HC4.out hb3.size
  have HR4 := Lib.hid (HR3.out.next hb3)
  have HB5 := Lib.hid (HB4.out.trans (hb3.mono HB4.out.size))
  have hlt := HR4.out.1
  have z0 := (HR4.out.2 0 _ rfl).1
  have z1 := (HR4.out.2 1 _ rfl).1
  have z2 := (HR4.out.2 2 _ rfl).1
  have z8 := (HR4.out.2 8 _ rfl).1
  have z10 := (HR4.out.2 10 _ rfl).1
  have z11 := (HR4.out.2 11 _ rfl).1
  rw [show off + 3 * 3 + 1 = off + 10 from rfl, show strB [97, 44, 32, 34, 98] = ⟨#[97, 44, 32, 34, 98]⟩ from rfl] at y6
  clear y5 hb3 c3 hfl
  go_wp2_with fail
  have HB6 := Lib.hid (HB5.out.alloc HB5.out.size (.cells #[.bool false, .bool false, .bool false, .bool false, .bool false, .bool false, .bool false, .bool false, .int .i64 (-1), .int .i64 0, .int .i64 (-1), .int .i64 (-1), .int .i64 (-1)] 34))
  refine (c4 _).mono ?_
  rintro e w4 ⟨rfl, hb4⟩
  have HB7 := Lib.hid (HB6.out.trans (hb4.mono HB6.out.size))
  clear hb4 c4 y6 z0 z1 z2 z8 z10 z11
  go_wp2_with fail
  go_ret
  exact ⟨rfl, HB7.out⟩

end Go.Proofs.YtjnagifolheloaaDoor
