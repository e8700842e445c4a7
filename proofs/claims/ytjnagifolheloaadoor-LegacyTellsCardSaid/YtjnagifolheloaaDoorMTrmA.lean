/- The contract of ascii.Trim (for a seat on BasP). -/
import Derived.Test.YtjnagifolheloaaDoorMAscE
import Derived.Test.YtjnagifolheloaaDoorMBasP
import Derived.Test.YtjnagifolheloaaDoorMTrimP

namespace Go.Proofs.YtjnagifolheloaaDoor
open Go.RowKit

theorem blank_ascii : ∀ x : Fin 128, decide (0 ≤ Lib.indexByte [32, 9] x.val.toUInt8) = blkR x.val := by decide

set_option maxHeartbeats 1000000 in
theorem blank_pays (B : Nat) (w : World) (hB : B < w.heap.size) (hc : w.cell? ⟨B, 0, none⟩ = some (.string ⟨#[32, 9]⟩)) :
    PredGrows Tryd.prog 63 #[.pointer (some ⟨B, 0, none⟩)] blkR w := by
  intro W x hx hb
  have hc' := (hb.cell (p := ⟨B, 0, none⟩) hB).trans hc
  have cC : Calls Tryd.prog 64 #[.string ⟨#[32, 9]⟩, .int .i32 x] W fun e w' => e = .returned (.bool (blkR x)) ∧ Below W.heap.size W w' := by
    by_cases h : x < 128
    · refine (Tryd.strings_ContainsRune_ascii ⟨#[32, 9]⟩ x W (by omega) (by omega)).mono ?_
      rintro e w' ⟨rfl, rfl⟩
      refine ⟨?_, Below.refl _ _⟩
      rw [← blank_ascii ⟨x, h⟩]
      rfl
    · rw [blkR_big x (by omega)]
      exact containsRune_big x W (by omega) hx
  clear hb hc
  generalize blkR x = b at cC
  show Calls Tryd.prog 63 #[.int .i32 x, .pointer (some ⟨B, 0, none⟩)] W _
  go_enter Tryd.func63, Tryd.ntmps63
  go_wp2_with (go_at_call 64; refine cC.mono ?_; rintro e w' ⟨rfl, hb⟩)
  go_ret
  exact ⟨rfl, hb⟩

/-- The tables of package utf8, as they are laid. -/
abbrev Tabs (w : World) : Prop := Lib.Utf8Tabs 1 2 w

theorem trimF_eq (s : ByteArray) : Lib.trimF blkR s = ⟨(trimL s.data.toList).toArray⟩ := by
  rw [← trimF_is, Lib.mk_data]

set_option maxHeartbeats 1000000 in
theorem trim_any (s : ByteArray) (w : World) (hs : s.size ≤ maxLen) (hT : Tabs w) :
    Calls Tryd.prog 32 #[.string s] w fun e w' => e = .returned (.string ⟨(trimL s.data.toList).toArray⟩) ∧ Below w.heap.size w w' := by
  rw [← trimF_eq]
  have hb0 : Below w.heap.size w (w.alloc (.cells #[.string ⟨#[32, 9]⟩] 9)) := (Below.refl _ _).alloc (Nat.le_refl _) _
  have cT := Tryd.strings_TrimFunc_grows 63 #[.pointer (some ⟨w.heap.size, 0, none⟩)] (enters_of Tryd.func63 (by kernel_rfl) rfl) blkR s (w.alloc (.cells #[.string ⟨#[32, 9]⟩] 9)) hs (Utf8Tabs_below hT hb0) (blank_pays w.heap.size _ (by simp) (by simp))
  generalize Lib.trimF blkR s = t at cT
  have HT := Lib.hid hT
  clear hT
  go_enter Tryd.func32, Tryd.ntmps32
  go_wp2_with (first | (go_at_call 47; refine cT.mono ?_; rintro e w' ⟨rfl, hb⟩) | go_in)
  go_ret
  exact ⟨rfl, hb0.trans (hb.mono hb0.size)⟩

end Go.Proofs.YtjnagifolheloaaDoor
