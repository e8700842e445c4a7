/- The law's own 'awake' over package chunk: it returns true. -/
import Derived.Test.YtfhpgobdnhlpcaaDoorChG
namespace Go.Proofs.YtfhpgobdnhlpcaaDoor
open Go.RowKit Go.Shelf Go.Lib

def aw0C : List UInt8 := [65, 32, 59, 120, 61, 49, 13, 10, 48, 49, 50, 51, 52, 53, 54, 55, 56, 57, 13, 10, 48, 13, 10, 122, 58, 32, 121, 13, 10, 13, 10, 109, 111, 114, 101]
def aw1C : List UInt8 := [49, 13, 10, 97, 98]
set_option maxRecDepth 100000 in
theorem aw_d0 : decL aw0C = .ok ([48, 49, 50, 51, 52, 53, 54, 55, 56, 57], 31) := by rfl
set_option maxRecDepth 100000 in
theorem aw_d1 : decL aw1C = .error 3 := by rfl
theorem aw_e0 : encV [97, 98, 99] 2 = .tuple #[.string ⟨#[50, 13, 10, 97, 98, 13, 10, 49, 13, 10, 99, 13, 10, 48, 13, 10, 13, 10]⟩, .int .i64 0] := by
  have h1 : hexL 1 = [49] := by rw [hexL_small 1 (by omega)]; rfl
  have h2 : hexL 2 = [50] := by rw [hexL_small 2 (by omega)]; rfl
  have e : encC 2 [97, 98, 99] = oneC [97, 98] ++ (oneC [99] ++ []) ++ endC := rfl
  rw [encV, if_neg (by decide), if_neg (by decide), show ((2 : Int)).toNat = 2 from rfl, e, oneC, oneC, show ([97, 98] : List UInt8).length = 2 from rfl, show ([99] : List UInt8).length = 1 from rfl, h1, h2]
  rfl
theorem aw_e1 : encV [] 0 = .tuple #[.string ⟨#[]⟩, .int .i64 1] := rfl

set_option maxRecDepth 100000 in
set_option maxHeartbeats 4000000 in
theorem awake7_any (w : World) (hT : Tabs w) (hE : Errs w) (hD : Deb w) :
    Calls Tryd.prog 26 #[] w fun e w' => e = .returned (.bool true) ∧ Below w.heap.size w w' := by
  have HT := Lib.hid hT
  have HE := Lib.hid hE
  have HD := Lib.hid hD
  clear hT hE hD
  have c1 := fun W h => encode_any (strB [97, 98, 99]) 2 W (by decide) h
  have c2 := fun W h1 h2 => decode_any (strB aw0C) W (by decide) h1 h2
  have c3 := fun W h1 h2 => decode_any (strB aw1C) W (by decide) h1 h2
  have c4 := fun W h => encode_any (strB []) 0 W (by decide) h
  rw [strB_data] at c1 c2 c3 c4
  rw [aw_e0, show strB [97, 98, 99] = (⟨#[97, 98, 99]⟩ : ByteArray) from rfl] at c1
  rw [aw_d0, show strB aw0C = (⟨#[65, 32, 59, 120, 61, 49, 13, 10, 48, 49, 50, 51, 52, 53, 54, 55, 56, 57, 13, 10, 48, 13, 10, 122, 58, 32, 121, 13, 10, 13, 10, 109, 111, 114, 101]⟩ : ByteArray) from rfl] at c2
  rw [aw_d1, show strB aw1C = (⟨#[49, 13, 10, 97, 98]⟩ : ByteArray) from rfl] at c3
  rw [aw_e1, show strB [] = (⟨#[]⟩ : ByteArray) from rfl] at c4
  have hV : decV (.ok ([48, 49, 50, 51, 52, 53, 54, 55, 56, 57], 31)) = .tuple #[.string ⟨#[48, 49, 50, 51, 52, 53, 54, 55, 56, 57]⟩, .int .i64 31, .int .i64 0] := rfl
  rw [hV] at c2
  unfold decV at c3
  clear hV
  go_enter Tryd.func26, Tryd.ntmps26
  go_wp2_with fail
  refine (c1 _ HD.out).mono ?_
  rintro e w1 ⟨rfl, hb1⟩
  have HB1 := Lib.hid hb1
  clear hb1 c1
  go_wp2_with fail
  refine (c2 _ (Utf8Tabs_below HT.out HB1.out) (HE.out.below HB1.out)).mono ?_
  rintro e w2 ⟨rfl, hb2⟩
  have HB2 := Lib.hid (HB1.out.trans (hb2.mono HB1.out.size))
  clear hb2 c2 HB1
  go_wp2_with fail
  refine (c3 _ (Utf8Tabs_below HT.out HB2.out) (HE.out.below HB2.out)).mono ?_
  rintro e w3 ⟨rfl, hb3⟩
  have HB3 := Lib.hid (HB2.out.trans (hb3.mono HB2.out.size))
  clear hb3 c3 HB2
  go_wp2_with fail
  refine (c4 _ (HD.out.below HB3.out)).mono ?_
  rintro e w4 ⟨rfl, hb4⟩
  have HB4 := Lib.hid (HB3.out.trans (hb4.mono HB3.out.size))
  clear hb4 c4 HB3
  go_wp2_with fail
  go_ret
  exact ⟨rfl, HB4.out⟩

end Go.Proofs.YtfhpgobdnhlpcaaDoor
