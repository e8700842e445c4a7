/- The contracts of strings.IndexRune and ContainsRune over the two blanks, at runes beyond ASCII: there is none. -/
import Derived.Test.YtfhpgobdnhlpcaaDoorShelf
import Derived.Test.YtfhpgobdnhlpcaaDoorRows
import Derived.WalkKit
import Derived.WalkSpells
import Derived.WalkLawsBesides
import Derived.Lib.Hide
import Derived.Deep.LoopGhost
import Derived.BigQuiet
import Derived.Deep.QuietTactic
import Derived.Lib.OthersKept
namespace Go.Proofs.YtfhpgobdnhlpcaaDoor
open Go.RowKit

set_option maxHeartbeats 1000000 in
set_option maxRecDepth 100000 in
theorem indexRune_invalid (s : ByteArray) (r : Int) (w : World) (h0 : 55296 ≤ r) (h1 : r ≤ 57343) :
    Calls Tryd.prog 94 #[.string s, .int .i32 r] w fun e w' => e = .returned (.int .i64 (-1)) ∧ Below w.heap.size w w' := by
  have cV := Tryd.utf8_ValidRune r w
  have hv : Lib.validRune r = false := by unfold Lib.validRune; simp; omega
  rw [hv] at cV
  clear hv
  go_enter Tryd.func94, Tryd.ntmps94
  go_wp2_with (go_at_call 113; refine cV.mono ?_; rintro e w' ⟨rfl, rfl⟩)
  go_ret
  exact ⟨rfl, Below.refl _ _⟩

set_option maxHeartbeats 1000000 in
set_option maxRecDepth 100000 in
theorem indexRune_error (s : ByteArray) (w : World) (ha : ∀ pos (h : pos < s.size), (s[pos]'h).toNat < 128) :
    Calls Tryd.prog 94 #[.string s, .int .i32 65533] w fun e w' => e = .returned (.int .i64 (-1)) ∧ Below w.heap.size w w' := by
  go_enter Tryd.func94, Tryd.ntmps94
  go_wp2_with fail
  go_loopg [] s.size (fun gf wx => ∃ pos : Nat, wx.heap[w.heap.size]? = some (.stringIter s pos) ∧ Below w.heap.size w wx ∧ s.size ≤ pos + gf)
  case atStart => exact ⟨0, World.iter_heap w s 0, (Below.refl _ w).alloc (Nat.le_refl _) _, by omega⟩
  case round =>
    obtain ⟨pos, hit, hbw, hfu⟩ := hrel
    by_cases hps : pos < s.size
    · obtain ⟨g', rfl⟩ : ∃ g', gk = g' + 1 := ⟨gk - 1, by omega⟩
      have ha1 := ha pos hps
      have hnx : ∀ ty, (Instr.next (.pointer (some ⟨w.heap.size, 0, none⟩)) true ty).run Tryd.prog wr = _ := fun ty => Lib.run_next_ascii_at wr w.heap.size s pos ty hit hps ha1
      have hne : (((s[pos]'hps).toNat : Int) == 65533) = false := by simp; omega
      have hit2 := Lib.iterAt_heap wr w.heap.size s pos (pos + 1) hit
      have hbw2 := Lib.below_iterAt hbw (k := w.heap.size) (Nat.le_refl _) s (pos + 1)
      clear ha
      generalize wr.iterAt w.heap.size s (pos + 1) = W at hnx hit2 hbw2
      go_wp2
      go_roundg g'
      case measure => omega
      case rel => exact ⟨pos + 1, hit2, hbw2, by omega⟩
    · have hnx : ∀ ty, (Instr.next (.pointer (some ⟨w.heap.size, 0, none⟩)) true ty).run Tryd.prog wr = _ := fun ty => Lib.run_next_end_at wr w.heap.size s pos ty hit hps
      go_wp2
      go_ret
      exact ⟨rfl, hbw⟩

theorem quiet_add_same {P : Program} {f : FuncId} {args : Array Value} {w : World} {a n : Nat} {v : Value}
    (h : Calls P f args (w.drewN (a + n)) fun e w' => e = .returned v ∧ w' = w.drewN (a + n)) :
    Calls P f args (w.drewN (a + n)) fun e w'' => e = .returned v ∧ ∃ m, w'' = w.drewN (a + m) :=
  h.mono fun _ _ ⟨he, hm⟩ => ⟨he, n, hm⟩

theorem encode_cases (r : Int) (h0 : 128 ≤ r) : (∃ x y : UInt8, 128 ≤ y.toNat ∧ Utf8.encode r = ⟨#[x, y]⟩) ∨ (∃ x y z : UInt8, Utf8.encode r = ⟨#[x, y, z]⟩) ∨ (∃ x y z u : UInt8, Utf8.encode r = ⟨#[x, y, z, u]⟩) := by
  have hc : ∃ c : Nat, 128 ≤ c ∧ (if Utf8.valid r then r.toNat else Utf8.runeError) = c := by
    split
    · exact ⟨_, by omega, rfl⟩
    · exact ⟨_, by decide, rfl⟩
  obtain ⟨c, h, e⟩ := hc
  unfold Utf8.encode
  simp only [e]
  rw [if_neg (by omega)]
  split
  · refine .inl ⟨_, _, ?_, rfl⟩
    rw [UInt8.toNat_ofNat']
    omega
  · split
    · exact .inr (.inl ⟨_, _, _, rfl⟩)
    · exact .inr (.inr ⟨_, _, _, _, rfl⟩)

set_option maxHeartbeats 1000000 in
set_option maxRecDepth 100000 in
theorem indexRune_valid (r : Int) (w : World) (h0 : 128 ≤ r) (h1 : r ≤ 1114111) (h2 : r < 55296 ∨ 57343 < r) (h3 : (r == 65533) = false) :
    Calls Tryd.prog 94 #[.string ⟨#[32, 9]⟩, .int .i32 r] w fun e w' => e = .returned (.int .i64 (-1)) ∧ Below w.heap.size w w' := by
  have cV := Tryd.utf8_ValidRune r w
  have hv : Lib.validRune r = true := by unfold Lib.validRune; simp; omega
  rw [hv] at cV
  clear hv
  rcases encode_cases r h0 with ⟨x, y, hy, he⟩ | ⟨x, y, z, he⟩ | ⟨x, y, z, u, he⟩
  · have hne : ((((⟨#[32, 9]⟩ : ByteArray)[1]'(by decide)).toNat : Int) != ((((⟨#[x, y]⟩ : ByteArray)[1]'(Nat.lt_succ_self 1))).toNat : Int)) = true := by
      have h9 : ((9 : Int) != (y.toNat : Int)) = true := by simp; omega
      exact h9
    go_enter Tryd.func94, Tryd.ntmps94
    go_wp2_with (go_at_call 113; refine cV.mono ?_; rintro e w' ⟨rfl, rfl⟩)
    go_step3
    go_wp2_with fail
    refine wp_loop_rounds 1 ?_
    rw [rounds_succ]
    go_wp2_with fail
    go_step3
    go_wp2_with fail
    go_quiet (fail)
    go_wp2_with fail
    go_quiet ((go_at_call 88; exact quiet_add_same (Tryd.strings_IndexByte _ _ _)))
    go_wp2_with fail
    rw [Exit.noGoto_ret]
    go_wp2_with fail
    rw [Exit.noGoto_ret]
    go_ret
    exact ⟨rfl, below_drewNg _ _⟩
  · go_enter Tryd.func94, Tryd.ntmps94
    go_wp2_with (go_at_call 113; refine cV.mono ?_; rintro e w' ⟨rfl, rfl⟩)
    go_step3
    go_wp2_with fail
    refine wp_loop_rounds 1 ?_
    rw [rounds_succ]
    go_wp2
    rw [Exit.noGoto_ret]
    go_ret
    exact ⟨rfl, Below.refl _ _⟩
  · go_enter Tryd.func94, Tryd.ntmps94
    go_wp2_with (go_at_call 113; refine cV.mono ?_; rintro e w' ⟨rfl, rfl⟩)
    go_step3
    go_wp2_with fail
    refine wp_loop_rounds 1 ?_
    rw [rounds_succ]
    go_wp2
    rw [Exit.noGoto_ret]
    go_ret
    exact ⟨rfl, Below.refl _ _⟩

theorem containsRune_big (r : Nat) (w : World) (h0 : 128 ≤ r) (h1 : r ≤ 1114111) :
    Calls Tryd.prog 85 #[.string ⟨#[32, 9]⟩, .int .i32 r] w fun e w' => e = .returned (.bool false) ∧ Below w.heap.size w w' := by
  have cI : Calls Tryd.prog 94 #[.string ⟨#[32, 9]⟩, .int .i32 r] w fun e w' => e = .returned (.int .i64 (-1)) ∧ Below w.heap.size w w' := by
    by_cases h2 : 55296 ≤ r ∧ r ≤ 57343
    · exact indexRune_invalid _ _ _ (by omega) (by omega)
    · by_cases h3 : r = 65533
      · subst h3
        exact indexRune_error _ _ (by
          intro pos h
          match pos, h with
          | 0, _ => exact (show (32 : UInt8).toNat < 128 by decide)
          | 1, _ => exact (show (9 : UInt8).toNat < 128 by decide))
      · exact indexRune_valid _ _ (by omega) (by omega) (by omega) (by simp; omega)
  go_enter Tryd.func85, Tryd.ntmps85
  go_wp2_with (go_at_call 94; refine cI.mono ?_; rintro e w' ⟨rfl, hb⟩)
  go_ret
  exact ⟨rfl, hb⟩

end Go.Proofs.YtfhpgobdnhlpcaaDoor
