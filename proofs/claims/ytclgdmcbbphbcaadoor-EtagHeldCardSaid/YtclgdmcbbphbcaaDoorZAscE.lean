/- The contracts of strings.IndexRune and ContainsRune over the two blanks, at runes beyond ASCII: there is none. -/
import Derived.Test.YtclgdmcbbphbcaaDoorShelf
import Derived.Test.YtclgdmcbbphbcaaDoorZIrnA
import Derived.Test.YtclgdmcbbphbcaaDoorRows
import Derived.WalkKit
import Derived.WalkSpells
import Derived.WalkLawsBesides
import Derived.Lib.Hide
import Derived.Deep.LoopGhost
import Derived.BigQuiet
import Derived.Deep.QuietTactic
import Derived.Lib.OthersKept
import Derived.Shelf.Strings.FuncGrows

namespace Go.Proofs.YtclgdmcbbphbcaaDoor
open Go.RowKit

set_option maxHeartbeats 1000000 in
set_option maxRecDepth 100000 in
theorem indexRune_valid (r : Int) (w : World) (h0 : 128 ≤ r) (h1 : r ≤ 1114111) (h2 : r < 55296 ∨ 57343 < r) (h3 : (r == 65533) = false) :
    Calls Tryd.prog 67 #[.string ⟨#[32, 9]⟩, .int .i32 r] w fun e w' => e = .returned (.int .i64 (-1)) ∧ Below w.heap.size w w' := by
  have cV := Tryd.utf8_ValidRune r w
  have hv : Lib.validRune r = true := by unfold Lib.validRune; simp; omega
  rw [hv] at cV
  clear hv
  rcases encode_cases r h0 with ⟨x, y, hy, he⟩ | ⟨x, y, z, he⟩ | ⟨x, y, z, u, he⟩
  · have hne : ((((⟨#[32, 9]⟩ : ByteArray)[1]'(by decide)).toNat : Int) != ((((⟨#[x, y]⟩ : ByteArray)[1]'(Nat.lt_succ_self 1))).toNat : Int)) = true := by
      have h9 : ((9 : Int) != (y.toNat : Int)) = true := by simp; omega
      exact h9
    go_enter Tryd.func67, Tryd.ntmps67
    go_wp2_with (go_at_call 83; refine cV.mono ?_; rintro e w' ⟨rfl, rfl⟩)
    go_step3
    go_wp2_with fail
    refine wp_loop_rounds 1 ?_
    rw [rounds_succ]
    go_wp2_with fail
    go_step3
    go_wp2_with fail
    go_quiet (fail)
    go_wp2_with fail
    go_quiet ((go_at_call 82; exact quiet_add_same (Tryd.strings_IndexByte _ _ _)))
    go_wp2_with fail
    rw [Exit.noGoto_ret]
    go_wp2_with fail
    rw [Exit.noGoto_ret]
    go_ret
    exact ⟨rfl, below_drewNg _ _⟩
  · go_enter Tryd.func67, Tryd.ntmps67
    go_wp2_with (go_at_call 83; refine cV.mono ?_; rintro e w' ⟨rfl, rfl⟩)
    go_step3
    go_wp2_with fail
    refine wp_loop_rounds 1 ?_
    rw [rounds_succ]
    go_wp2
    rw [Exit.noGoto_ret]
    go_ret
    exact ⟨rfl, Below.refl _ _⟩
  · go_enter Tryd.func67, Tryd.ntmps67
    go_wp2_with (go_at_call 83; refine cV.mono ?_; rintro e w' ⟨rfl, rfl⟩)
    go_step3
    go_wp2_with fail
    refine wp_loop_rounds 1 ?_
    rw [rounds_succ]
    go_wp2
    rw [Exit.noGoto_ret]
    go_ret
    exact ⟨rfl, Below.refl _ _⟩

theorem containsRune_big (r : Nat) (w : World) (h0 : 128 ≤ r) (h1 : r ≤ 1114111) :
    Calls Tryd.prog 54 #[.string ⟨#[32, 9]⟩, .int .i32 r] w fun e w' => e = .returned (.bool false) ∧ Below w.heap.size w w' := by
  have cI : Calls Tryd.prog 67 #[.string ⟨#[32, 9]⟩, .int .i32 r] w fun e w' => e = .returned (.int .i64 (-1)) ∧ Below w.heap.size w w' := by
    by_cases h2 : 55296 ≤ r ∧ r ≤ 57343
    · exact indexRune_invalid _ _ _ (by omega) (by omega)
    · by_cases h3 : r = 65533
      · subst h3
        exact indexRune_error _ _ (by
          intro pos h
          match pos, h with
          | 0, _ => exact (show (32 : UInt8).toNat < 128 by decide)
          | 1, _ => exact (show (9 : UInt8).toNat < 128 by decide))
      · exact indexRune_valid _ _ (by omega) (by omega) (by omega) (by simp; omega)
  go_enter Tryd.func54, Tryd.ntmps54
  go_wp2_with (go_at_call 67; refine cI.mono ?_; rintro e w' ⟨rfl, hb⟩)
  go_ret
  exact ⟨rfl, hb⟩

end Go.Proofs.YtclgdmcbbphbcaaDoor
