/- The walk of the law AsciiStays. -/
import Derived.Test.YtflicgnonmooaaaDoorAwake01
import Derived.Test.YtflicgnonmooaaaDoorAscLaws
namespace Go.Proofs.YtflicgnonmooaaaDoor
open Go.RowKit

theorem lower_str (p : List UInt8) (w : World) (hs : p.length ≤ maxLen) :
    Calls Tryd.prog 17 #[.string (strB p)] w fun e w' => e = .returned (.string (strB (lowL p))) ∧ Below w.heap.size w w' :=
  lower_any (strB p) w (by rw [strB_size]; exact hs)
theorem trim_str (p : List UInt8) (w : World) (hs : p.length ≤ maxLen) (hT : Tabs w) :
    Calls Tryd.prog 19 #[.string (strB p)] w fun e w' => e = .returned (.string (strB (trimL p))) ∧ Below w.heap.size w w' :=
  trim_any (strB p) w (by rw [strB_size]; exact hs) hT
theorem token_str (p : List UInt8) (w : World) (hs : p.length ≤ maxLen) :
    Calls Tryd.prog 13 #[.string (strB p)] w fun e w' => e = .returned (.bool (tokL p)) ∧ w = w' :=
  token_any (strB p) w (by rw [strB_size]; exact hs)
theorem text_str (p : List UInt8) (w : World) (hs : p.length ≤ maxLen) (hT : Tabs w) :
    Calls Tryd.prog 15 #[.string (strB p)] w fun e w' => e = .returned (.bool (txtL p)) ∧ Below w.heap.size w w' :=
  text_any (strB p) w (by rw [strB_size]; exact hs) hT
theorem split_str (p : List UInt8) (w : World) (hs : p.length ≤ 1099511627776) (hT : Tabs w) :
    Calls Tryd.prog 11 #[.string (strB p)] w (StrsOut w.heap.size (splitL p) w) :=
  split_any (strB p) w (by rw [strB_size]; exact hs) hT

set_option maxHeartbeats 2000000 in
theorem stays_walk (p : List UInt8) (w : World) (hT : Tabs w) (hs : p.length ≤ maxLen) :
    Calls Tryd.prog 4 #[.string (strB p)] w fun e w' => e = .returned (.bool true) ∧ Below w.heap.size w w' := by
  have cA := awake_any w hT
  have HT := Lib.hid hT
  have hsz := strB_size p
  unfold maxLen at hs
  clear hT
  by_cases hlong : 500 < p.length
  · have hl2 : 500 < (strB p).size := by omega
    clear hsz
    go_enter Tryd.func4, Tryd.ntmps4
    go_wp2_with (go_at_call 7; refine cA.mono ?_; rintro e w1 ⟨rfl, hb1⟩)
    go_ret
    exact ⟨rfl, hb1⟩
  · have hl2 : (strB p).size ≤ 500 := by omega
    have hl3 : p.length ≤ maxLen := by unfold maxLen; omega
    have Hsz := Lib.hid hsz
    clear hsz
    go_enter Tryd.func4, Tryd.ntmps4
    go_wp2_with fail
    refine cA.mono ?_
    rintro e w1 ⟨rfl, hb1⟩
    go_wp2_with fail
    refine (lower_str p _ hl3).mono ?_
    rintro e w2 ⟨rfl, hb2⟩
    replace hb2 := hb1.trans (hb2.mono hb1.size)
    clear hb1
    go_wp2_with fail
    refine (trim_str p _ hl3 (Utf8Tabs_below HT.out hb2)).mono ?_
    rintro e w3 ⟨rfl, hb3⟩
    replace hb3 := hb2.trans (hb3.mono hb2.size)
    clear hb2
    go_wp2_with fail
    refine (lower_str (lowL p) _ (by rw [lowL_length]; exact hl3)).mono ?_
    rintro e w4 ⟨rfl, hb4⟩
    replace hb4 := hb3.trans (hb4.mono hb3.size)
    clear hb3
    rw [lowL_idem]
    go_wp2_with fail
    refine (trim_str (trimL p) _ (Nat.le_trans (trimL_le p) hl3) (Utf8Tabs_below HT.out hb4)).mono ?_
    rintro e w5 ⟨rfl, hb5⟩
    replace hb5 := hb4.trans (hb5.mono hb4.size)
    clear hb4
    rw [trimL_idem]
    have hz1 : ((strB (lowL p)).size : Int) = (strB p).size := by rw [strB_size, strB_size, lowL_length]
    have hz2 : (strB (trimL p)).size ≤ (strB p).size := by rw [strB_size, strB_size]; exact trimL_le p
    have hz3 : (((strB (lowL p)).size : Int) != ((strB p).size : Int)) = false := by rw [hz1]; simp
    have Hz1 := Lib.hid hz1
    clear hz1
    go_wp2_with fail
    cases htok : tokL p
    · have cK := token_str p w5 hl3
      rw [htok] at cK
      clear htok
      refine cK.mono ?_
      rintro e w' ⟨rfl, rfl⟩
      go_wp2_with fail
      go_ret
      exact ⟨rfl, hb5⟩
    · have cK := token_str p w5 hl3
      rw [htok] at cK
      have H1 := Lib.hid (tok_split p htok)
      have H2 := Lib.hid (tok_text p htok)
      have H3 := Lib.hid (tok_low p htok)
      have H4 := Lib.hid (tok_trim p htok)
      clear htok
      refine cK.mono ?_
      rintro e w' ⟨rfl, rfl⟩
      go_wp2_with fail
      refine (split_str p _ (by omega) (Utf8Tabs_below HT.out hb5)).mono ?_
      rintro e w6 ⟨v, rfl, hown, hb6⟩
      replace hb6 := hb5.trans (hb6.mono hb5.size)
      clear hb5 cK
      rw [H1.out] at hown
      obtain ⟨g, cap, rfl, hg, hgB, hcells⟩ := owns_shape hown (by simp)
      have hc0 : w6.cell? ⟨g, 0, none⟩ = some (.string (strB p)) := hcells 0 _ rfl
      clear hcells hown
      go_wp2_with fail
      have cT := text_str p w6 hl3 (Utf8Tabs_below HT.out hb6)
      rw [H2.out] at cT
      refine cT.mono ?_
      rintro e w7 ⟨rfl, hb7⟩
      clear cT
      have hc1 := (hb7.cell (p := ⟨g, 0, none⟩) hg).trans hc0
      replace hb7 := hb6.trans (hb7.mono hb6.size)
      clear hb6 hc0
      go_wp2_with fail
      have cL := token_str (lowL p) w7 (by rw [lowL_length]; exact hl3)
      rw [H3.out] at cL
      refine cL.mono ?_
      rintro e w' ⟨rfl, rfl⟩
      clear cL
      rw [H4.out]
      go_wp2_with fail
      go_ret
      exact ⟨rfl, hb7⟩

end Go.Proofs.YtflicgnonmooaaaDoor
