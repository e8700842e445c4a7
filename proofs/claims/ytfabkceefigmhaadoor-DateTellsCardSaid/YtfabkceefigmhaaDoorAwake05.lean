/- The law's own 'awake' over package date: it returns true. -/
import Derived.Test.YtfabkceefigmhaaDoorDatJ
import Derived.Test.YtfabkceefigmhaaDoorDatD
import Derived.Test.YtfabkceefigmhaaDoorDatR
namespace Go.Proofs.YtfabkceefigmhaaDoor
open Go.RowKit

/-- The texts that it asks. -/
def aw0 : List UInt8 := [83, 117, 110, 44, 32, 48, 54, 32, 78, 111, 118, 32, 49, 57, 57, 52, 32, 48, 56, 58, 52, 57, 58, 51, 55, 32, 71, 77, 84]
def aw1 : List UInt8 := [83, 117, 110, 100, 97, 121, 44, 32, 48, 54, 45, 78, 111, 118, 45, 57, 52, 32, 48, 56, 58, 52, 57, 58, 51, 55, 32, 71, 77, 84]
def aw2 : List UInt8 := [83, 117, 110, 32, 78, 111, 118, 32, 32, 54, 32, 48, 56, 58, 52, 57, 58, 51, 55, 32, 49, 57, 57, 52]
def aw3 : List UInt8 := [77, 111, 110, 44, 32, 48, 54, 32, 78, 111, 118, 32, 49, 57, 57, 52, 32, 48, 56, 58, 52, 57, 58, 51, 55, 32, 71, 77, 84]

theorem aw_day : DayOk 1994 11 6 ∧ 86400 * daysN 1994 11 6 + 31777 = 784111777 := by decide +kernel
theorem aw_tx : tx0 1994 11 6 31777 = aw0 := by decide +kernel
theorem aw_p0 : parL aw0 = some 784111777 := by decide +kernel
theorem aw_p1 : parL aw1 = some 784111777 := by decide +kernel
theorem aw_p2 : parL aw2 = some 784111777 := by decide +kernel
theorem aw_p3 : parL aw3 = none := by decide +kernel
theorem aw_d : DayOk 2000 3 1 ∧ daysN 2000 3 1 = 11017 := by decide +kernel

set_option maxRecDepth 100000 in
set_option maxHeartbeats 4000000 in
theorem awake_any (w : World) (hC : Cal w) :
    Calls Tryd.prog 6 #[] w fun e w' => e = .returned (.bool true) ∧ Below w.heap.size w w' := by
  have HC := Lib.hid hC
  clear hC
  have c0 := fun W h => print_any 1994 11 6 31777 aw_day.1 (by omega) W h
  rw [aw_day.2, aw_tx] at c0
  have c1 := fun W h => parse_any aw0 W (by decide) h
  have c2 := fun W h => parse_any aw1 W (by decide) h
  have c3 := fun W h => parse_any aw2 W (by decide) h
  have c4 := fun W h => parse_any aw3 W (by decide) h
  rw [aw_p0] at c1
  rw [aw_p1] at c2
  rw [aw_p2] at c3
  rw [aw_p3] at c4
  simp only [secV] at c1 c2 c3 c4
  have c5 := fun W h => days_any 2000 3 1 W h
  have hd : daysV 2000 3 1 = .tuple #[.int .i64 11017, .int .i64 0] := by
    have h1 : dayI 2000 3 1 = true := by
      have := dayI_nat 2000 3 1
      rw [show ((2000 : Nat) : Int) = 2000 from rfl, show ((3 : Nat) : Int) = 3 from rfl, show ((1 : Nat) : Int) = 1 from rfl] at this
      rw [this]
      simpa using aw_d.1
    unfold daysV
    rw [if_pos h1]
    have : daysN (2000 : Int).toNat (3 : Int).toNat (1 : Int).toNat = 11017 := aw_d.2
    rw [this]
    rfl
  rw [hd] at c5
  have c6 := fun W => weekday_nat 11017 W (by omega)
  rw [show wdN 11017 = 3 by decide] at c6
  have s0 : strB aw0 = ⟨#[83, 117, 110, 44, 32, 48, 54, 32, 78, 111, 118, 32, 49, 57, 57, 52, 32, 48, 56, 58, 52, 57, 58, 51, 55, 32, 71, 77, 84]⟩ := rfl
  have s1 : strB aw1 = ⟨#[83, 117, 110, 100, 97, 121, 44, 32, 48, 54, 45, 78, 111, 118, 45, 57, 52, 32, 48, 56, 58, 52, 57, 58, 51, 55, 32, 71, 77, 84]⟩ := rfl
  have s2 : strB aw2 = ⟨#[83, 117, 110, 32, 78, 111, 118, 32, 32, 54, 32, 48, 56, 58, 52, 57, 58, 51, 55, 32, 49, 57, 57, 52]⟩ := rfl
  have s3 : strB aw3 = ⟨#[77, 111, 110, 44, 32, 48, 54, 32, 78, 111, 118, 32, 49, 57, 57, 52, 32, 48, 56, 58, 52, 57, 58, 51, 55, 32, 71, 77, 84]⟩ := rfl
  rw [s0] at c0 c1
  rw [s1] at c2
  rw [s2] at c3
  rw [s3] at c4
  clear s0 s1 s2 s3 hd
  go_enter Tryd.func6, Tryd.ntmps6
  go_wp2_with fail
  refine (c0 _ HC.out).mono ?_
  rintro e w1 ⟨rfl, hb1⟩
  go_wp2_with fail
  refine (c1 _ (HC.out.below hb1)).mono ?_
  rintro e w2 ⟨rfl, hb2⟩
  have hb2 := hb1.trans (hb2.mono hb1.size)
  clear hb1
  go_wp2_with fail
  refine (c2 _ (HC.out.below hb2)).mono ?_
  rintro e w3 ⟨rfl, hb3⟩
  have hb3 := hb2.trans (hb3.mono hb2.size)
  clear hb2
  go_wp2_with fail
  refine (c3 _ (HC.out.below hb3)).mono ?_
  rintro e w4 ⟨rfl, hb4⟩
  have hb4 := hb3.trans (hb4.mono hb3.size)
  clear hb3
  go_wp2_with fail
  refine (c4 _ (HC.out.below hb4)).mono ?_
  rintro e w5 ⟨rfl, hb5⟩
  have hb5 := hb4.trans (hb5.mono hb4.size)
  clear hb4
  go_wp2_with fail
  refine (c5 _ (HC.out.below hb5)).mono ?_
  rintro e w6 ⟨rfl, hb6⟩
  have hb6 := hb5.trans (hb6.mono hb5.size)
  clear hb5
  go_wp2_with fail
  refine (c6 _).mono ?_
  rintro e w7 ⟨rfl, rfl⟩
  go_wp2_with fail
  go_ret
  exact ⟨rfl, hb6⟩

end Go.Proofs.YtfabkceefigmhaaDoor
