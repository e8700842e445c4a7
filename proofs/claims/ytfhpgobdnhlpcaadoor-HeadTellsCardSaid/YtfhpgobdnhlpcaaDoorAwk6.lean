/- The law's own 'awake' over package head: it returns true. -/
import Derived.Test.YtfhpgobdnhlpcaaDoorHdE
import Derived.Test.YtfhpgobdnhlpcaaDoorHdH
import Derived.Test.YtfhpgobdnhlpcaaDoorHdM
import Derived.Test.YtfhpgobdnhlpcaaDoorHdY
namespace Go.Proofs.YtfhpgobdnhlpcaaDoor
open Go.RowKit

/-- The texts and the fields that it asks. -/
def aw0 : List UInt8 := [65, 58, 32, 98, 32, 13, 10, 99, 58, 100, 44, 32, 101, 13, 10, 97, 58, 102, 13, 10, 13, 10, 120]
def aw1 : List UInt8 := [97, 58, 32, 98, 13, 10, 99, 58, 32, 100, 44, 32, 101, 13, 10, 97, 58, 32, 102, 13, 10, 13, 10]
def aw2 : List UInt8 := [32, 97, 58, 32, 98, 13, 10, 13, 10]
def aw3 : List UInt8 := [97, 58, 32, 98, 13, 10]
def awF : List Fld := [([97], [98]), ([99], [100, 44, 32, 101]), ([97], [102])]
theorem aw_p0 : parseH aw0 = .ok (awF, 22) := by rfl
theorem aw_p2 : parseH aw2 = .error 2 := by rfl
theorem aw_p3 : parseH aw3 = .error 3 := by rfl
theorem aw_pr : printH awF = some aw1 := by decide +kernel
theorem aw_al : allH awF [97] = [[98], [102]] := by decide +kernel
theorem aw_rt : rightH awF = true := by decide +kernel
theorem aw_wo : withoutH awF [[97], [120]] = [([99], [100, 44, 32, 101])] := by decide +kernel
theorem aw_ok : FldsOk awF := by
  refine ⟨by decide, fun p hp => ?_⟩
  simp only [awF, List.mem_cons, List.not_mem_nil, or_false] at hp
  rcases hp with rfl | rfl | rfl <;> decide

set_option maxRecDepth 100000 in
set_option maxHeartbeats 4000000 in
theorem awake_any (w : World) (hT : Tabs w) :
    Calls Tryd.prog 8 #[] w fun e w' => e = .returned (.bool true) ∧ Below w.heap.size w w' := by
  have HT := Lib.hid hT
  clear hT
  have c1 := fun W h => hparse_any (strB aw0) W (by decide) h
  have c4 := fun W h => hparse_any (strB aw2) W (by decide) h
  have c5 := fun W h => hparse_any (strB aw3) W (by decide) h
  rw [strB_data] at c1 c4 c5
  rw [aw_p0] at c1
  rw [aw_p2] at c4
  rw [aw_p3] at c5
  have c2 := fun lo v W h1 h2 => hprint_any lo v awF W h1 aw_ok h2
  rw [aw_pr] at c2
  have c3 := fun lo v W h => hget_any lo v awF [97] W h aw_ok
  rw [getV, aw_al, show strB (joinH [[98], [102]]) = ⟨#[98, 44, 32, 102]⟩ from rfl] at c3
  have c6 := fun lo v W h1 h2 => hright_any lo v awF W h1 aw_ok h2
  rw [aw_rt] at c6
  have c7 := fun lo v v2 W h1 h2 => hwithout_any lo v v2 awF [[97], [120]] W h1 h2 aw_ok (by decide) (by intro q hq; simp at hq; rcases hq with rfl | rfl <;> decide)
  rw [aw_wo] at c7
  have c8 := fun lo v W h => hwith_any lo v awF ([120], [121]) W h (by decide)
  have c9 := fun lo v W h => hall_any lo v awF [97] W h (by decide)
  rw [aw_al] at c9
  rw [show strB aw0 = ⟨#[65, 58, 32, 98, 32, 13, 10, 99, 58, 100, 44, 32, 101, 13, 10, 97, 58, 102, 13, 10, 13, 10, 120]⟩ from rfl] at c1
  rw [show strB aw2 = ⟨#[32, 97, 58, 32, 98, 13, 10, 13, 10]⟩ from rfl] at c4
  rw [show strB aw3 = ⟨#[97, 58, 32, 98, 13, 10]⟩ from rfl] at c5
  have hV : textH (some aw1) = .tuple #[.string ⟨#[97, 58, 32, 98, 13, 10, 99, 58, 32, 100, 44, 32, 101, 13, 10, 97, 58, 32, 102, 13, 10, 13, 10]⟩, .int .i64 0] := rfl
  go_enter Tryd.func8, Tryd.ntmps8
  go_wp2_with fail
  refine (c1 _ HT.out).mono ?_
  rintro e w1 ⟨hb1, v, rfl, hown⟩
  have hown : w1.ownsRow w.heap.size 42 2 v 3 (rowF awF) := hown
  have HF1 := Lib.hid (Flds.of_own (fs := awF) hown (Nat.le_refl _))
  obtain ⟨a1, k1, rfl⟩ := owns_formF hown
  have HB1 := Lib.hid hb1
  clear hown hb1 c1
  go_wp2_with fail
  refine (c2 _ _ _ HF1.out (Utf8Tabs_below HT.out HB1.out)).mono ?_
  rintro e w2 ⟨rfl, hb2⟩
  rw [hV]
  clear hV
  have HF2 := Lib.hid (HF1.out.below hb2)
  have HB2 := Lib.hid (HB1.out.trans (hb2.mono HB1.out.size))
  clear hb2 c2 HF1 HB1
  go_wp2_with fail
  refine (c3 _ _ _ HF2.out).mono ?_
  rintro e w3 ⟨rfl, hb3⟩
  have HF3 := Lib.hid (HF2.out.below hb3)
  have HB3 := Lib.hid (HB2.out.trans (hb3.mono HB2.out.size))
  clear hb3 c3 HF2 HB2
  go_wp2_with fail
  refine (c4 _ (Utf8Tabs_below HT.out HB3.out)).mono ?_
  rintro e w4 ⟨hb4, rfl⟩
  have HF4 := Lib.hid (HF3.out.below hb4)
  have HB4 := Lib.hid (HB3.out.trans (hb4.mono HB3.out.size))
  clear hb4 c4 HF3 HB3
  go_wp2_with fail
  refine (c5 _ (Utf8Tabs_below HT.out HB4.out)).mono ?_
  rintro e w5 ⟨hb5, rfl⟩
  have HF5 := Lib.hid (HF4.out.below hb5)
  have HB5 := Lib.hid (HB4.out.trans (hb5.mono HB4.out.size))
  clear hb5 c5 HF4 HB4
  go_wp2_with fail
  refine (c6 _ _ _ HF5.out (Utf8Tabs_below HT.out HB5.out)).mono ?_
  rintro e w6 ⟨rfl, hb6⟩
  have HF6 := Lib.hid (HF5.out.below hb6)
  have HB6 := Lib.hid (HB5.out.trans (hb6.mono HB5.out.size))
  clear hb6 c6 HF5 HB5
  have ha6 := (Below.refl w6.heap.size w6).alloc (Nat.le_refl _) (.cells #[.string ⟨#[97]⟩, .string ⟨#[120]⟩] 9)
  have hS : StrsF (w6.alloc (.cells #[.string ⟨#[97]⟩, .string ⟨#[120]⟩] 9)) (.slice (some ⟨w6.heap.size, 0, none⟩) 2 2) [[97], [120]] := by
    refine ⟨_, 2, rfl, .inr ⟨w6.heap.size, 0, rfl, by simp, fun j q hj => ?_⟩⟩
    match j, hj with
    | 0, hj =>
      obtain rfl : [97] = q := by simpa using hj
      simp
      rfl
    | 1, hj =>
      obtain rfl : [120] = q := by simpa using hj
      simp
      rfl
  have c7' := c7 _ _ _ _ (HF6.out.below ha6) hS
  have HB6a := Lib.hid (HB6.out.trans (ha6.mono HB6.out.size))
  have HF6a := Lib.hid (HF6.out.below ha6)
  clear c7 hS ha6 HF6 HB6
  go_wp2_with fail
  refine c7'.mono ?_
  rintro e w7 ⟨⟨u7, rfl, hown7⟩, hb7⟩
  have hown7 : w7.ownsRow _ 42 2 u7 1 _ := hown7
  obtain ⟨a7, k7, rfl⟩ := owns_formF hown7
  have HF7 := Lib.hid (HF6a.out.below hb7)
  have HB7 := Lib.hid (HB6a.out.trans (hb7.mono HB6a.out.size))
  clear hb7 hown7 c7' HF6a HB6a
  go_wp2_with fail
  refine (c8 _ _ _ HF7.out).mono ?_
  rintro e w8 ⟨⟨u8, rfl, hown8⟩, hb8⟩
  have hown8 : w8.ownsRow _ 42 2 u8 4 _ := hown8
  obtain ⟨a8, k8, rfl⟩ := owns_formF hown8
  have HF8 := Lib.hid (HF7.out.below hb8)
  have HB8 := Lib.hid (HB7.out.trans (hb8.mono HB7.out.size))
  clear hb8 hown8 c8 HF7 HB7
  go_wp2_with fail
  refine (c9 _ _ _ HF8.out).mono ?_
  rintro e w9 ⟨⟨u9, rfl, hown9⟩, hb9⟩
  have hown9 : w9.ownsRow _ 9 1 u9 2 _ := hown9
  obtain ⟨a9, k9, rfl⟩ := owns_formF hown9
  have HB9 := Lib.hid (HB8.out.trans (hb9.mono HB8.out.size))
  clear hb9 hown9 c9 HF8 HB8
  go_wp2_with fail
  go_ret
  exact ⟨rfl, HB9.out⟩

end Go.Proofs.YtfhpgobdnhlpcaaDoor
