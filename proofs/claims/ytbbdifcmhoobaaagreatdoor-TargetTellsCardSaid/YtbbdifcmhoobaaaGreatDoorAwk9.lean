/- The law's own 'awake' over package target: it returns true. How long a target to a host is. -/
import Derived.Test.YtbbdifcmhoobaaaGreatDoorTaJ
namespace Go.Proofs.YtbbdifcmhoobaaaGreatDoor
open Go.RowKit Go.Shelf Go.Lib

theorem norm_len {h t n : List UInt8} (hn : normL h t = some n) : n.length ≤ 8 + h.length + 4 * t.length := by
  have hs1 : (splN h t).1.length ≤ h.length + t.length := by
    rw [splN]
    split
    · have := takeWhile_len_le endB (t.drop 7)
      rw [List.length_drop] at this
      dsimp only
      omega
    · dsimp only; omega
  have hs2 : (splN h t).2.length ≤ t.length := by
    rw [splN]
    split
    · have := dropWhile_len endB (t.drop 7)
      rw [List.length_drop] at this
      dsimp only
      omega
    · exact Nat.le_refl _
  unfold normL at hn
  cases h1 : hostL (splN h t).1 with
  | none => rw [h1] at hn; cases hn
  | some hh =>
    cases h2 : pctL (splN h t).2 with
    | none => rw [h1, h2] at hn; cases hn
    | some p =>
      rw [h1, h2] at hn
      dsimp only at hn
      split at hn
      · cases hn
      · obtain rfl := Option.some.inj hn
        have a := host_len h1
        have b := (pct_stays _ _ p (Nat.le_refl _) h2).2
        have c := takeWhile_len_le queB p
        have d := dropWhile_len queB p
        have e := dots_len (p.takeWhile queB)
        have f : (pthN p).length ≤ p.length + 1 := by
          rw [pthN]
          split
          · simp
          · omega
        have g : htpL.length = 7 := rfl
        simp only [List.length_append]
        omega

def aw0T : List UInt8 := [65, 46, 98, 58, 56, 48]
def aw1T : List UInt8 := [47, 120, 47, 46, 46, 47, 37, 55, 101, 99, 63, 37, 50, 102]
def aw2T : List UInt8 := [47, 97, 47, 98, 47, 46, 46, 47, 99, 47, 46]
set_option maxRecDepth 100000 in
theorem aw_h : hostL aw0T = some [97, 46, 98] := by rfl
set_option maxRecDepth 100000 in
theorem aw_n : normL aw0T aw1T = some [104, 116, 116, 112, 58, 47, 47, 97, 46, 98, 47, 126, 99, 63, 37, 50, 70] := by rfl
set_option maxRecDepth 100000 in
theorem aw_p : pctL [37, 50] = none := by rfl
set_option maxRecDepth 100000 in
theorem aw_d : dotsL aw2T = [47, 97, 47, 99, 47] := by rfl

set_option maxRecDepth 100000 in
set_option maxHeartbeats 4000000 in
theorem awake9_any (w : World) (hE : Errs w) :
    Calls Tryz.prog 4 #[] w fun e w' => e = .returned (.bool true) ∧ Below w.heap.size w w' := by
  have HE := Lib.hid hE
  clear hE
  have c1 := fun W => host_any (strB aw0T) W (by decide)
  have c2 := fun W h => normal_any (strB aw0T) (strB aw1T) W (by decide) (by decide) h
  have c3 := fun W h => percent_any (strB [37, 50]) W (by decide) h
  have c4 := fun W => dots_any (strB aw2T) W (by decide)
  rw [strB_data] at c1 c3 c4
  rw [strB_data, strB_data] at c2
  rw [aw_h] at c1
  rw [aw_n] at c2
  rw [aw_p] at c3
  rw [aw_d] at c4
  rw [show strB aw0T = (⟨#[65, 46, 98, 58, 56, 48]⟩ : ByteArray) from rfl] at c1 c2
  rw [show strB aw1T = (⟨#[47, 120, 47, 46, 46, 47, 37, 55, 101, 99, 63, 37, 50, 102]⟩ : ByteArray) from rfl] at c2
  rw [show strB [37, 50] = (⟨#[37, 50]⟩ : ByteArray) from rfl] at c3
  rw [show strB aw2T = (⟨#[47, 97, 47, 98, 47, 46, 46, 47, 99, 47, 46]⟩ : ByteArray) from rfl] at c4
  unfold errPost errV at c1 c2 c3
  unfold dtsPost at c4
  dsimp only at c1 c2 c3
  rw [show strB [97, 46, 98] = (⟨#[97, 46, 98]⟩ : ByteArray) from rfl] at c1
  rw [show strB [104, 116, 116, 112, 58, 47, 47, 97, 46, 98, 47, 126, 99, 63, 37, 50, 70] = (⟨#[104, 116, 116, 112, 58, 47, 47, 97, 46, 98, 47, 126, 99, 63, 37, 50, 70]⟩ : ByteArray) from rfl] at c2
  rw [show strB [47, 97, 47, 99, 47] = (⟨#[47, 97, 47, 99, 47]⟩ : ByteArray) from rfl] at c4
  go_enter Tryz.func4, Tryz.ntmps4
  go_wp2_with fail
  refine (c1 _).mono ?_
  rintro e w1 ⟨rfl, hb1⟩
  have HB1 := Lib.hid hb1
  clear hb1 c1
  go_wp2_with fail
  refine (c2 _ (HE.out.below HB1.out)).mono ?_
  rintro e w2 ⟨rfl, hb2⟩
  have HB2 := Lib.hid (HB1.out.trans (hb2.mono HB1.out.size))
  clear hb2 c2 HB1
  go_wp2_with fail
  refine (c3 _ (HE.out.below HB2.out)).mono ?_
  rintro e w3 ⟨rfl, hb3⟩
  have HB3 := Lib.hid (HB2.out.trans (hb3.mono HB2.out.size))
  clear hb3 c3 HB2
  go_wp2_with fail
  refine (c4 _).mono ?_
  rintro e w4 ⟨rfl, hb4⟩
  have HB4 := Lib.hid (HB3.out.trans (hb4.mono HB3.out.size))
  clear hb4 c4 HB3
  go_wp2
  go_ret
  exact ⟨rfl, HB4.out⟩

end Go.Proofs.YtbbdifcmhoobaaaGreatDoor
