/- The contracts of the document's own answers for package ascii (sculleryref01): Lower. -/
import Derived.Test.YtjnagifolheloaaDoorRows
import Derived.Test.YtjnagifolheloaaDoorMBytP
import Derived.Test.YtjnagifolheloaaDoorMLowP
import Derived.WalkKit
import Derived.WalkSpells
import Derived.WalkLawsBesides
import Derived.Laws.AppendOwn
import Derived.Laws.BytesArg

namespace Go.Proofs.YtjnagifolheloaaDoor
open Go.RowKit

theorem info_byte : (Tryd.prog.info? 5).map (fun i => (i.zero, i.size, i.bytes)) = some (some (.int .u8 0), 1, 1) := by kernel_rfl

theorem lowB_up32 (c : UInt8) (h : upI c.toNat = true) : ((lowB c).toNat : Int) = (c.toNat : Int) + 32 := by
  rw [lowB_up c h]; omega

theorem lowL_snoc (s : ByteArray) (k : Nat) (h : k < s.size) : lowL (s.data.toList.take (k + 1)) = lowL (s.data.toList.take k) ++ [lowB s[k]] := by
  rw [take_snoc s k h]; simp [lowL]

set_option maxHeartbeats 2000000 in
theorem rlower_any (s : ByteArray) (w : World) (hs : s.size ≤ 1099511627776) :
    Calls Tryd.prog 38 #[.string s] w fun e w' => e = .returned (.string (strB (lowL s.data.toList))) ∧ Below w.heap.size w w' := by
  obtain ⟨i0, hi, hz0, hz1, hz2⟩ := info_parts info_byte
  go_enter Tryd.func38, Tryd.ntmps38
  go_wp2_with fail
  go_loopw [3, 4] (fun v i wr => ∃ k : Nat, k ≤ s.size ∧ i = .int .i64 k ∧ wr.ownsRow w.heap.size 5 1 v k ((lowL (s.data.toList.take k)).map bytV) ∧ Below w.heap.size w wr) (fun _ i _ => s.size - (intOf i).toNat)
  case atStart => exact ⟨0, by omega, rfl, World.ownsRow_made _ _ _ (Nat.le_refl _) (by decide) rfl, (Below.refl _ _).alloc (Nat.le_refl _) _⟩
  case round =>
    obtain ⟨k, hk, rfl, hown, hb⟩ := hrel
    by_cases hlt : k < s.size
    · have Hsn := Lib.hid (lowL_snoc s k hlt)
      cases d1 : decide (65 ≤ (s[k].toNat : Int)) <;> cases d2 : decide ((s[k].toNat : Int) ≤ 90)
      · have Hlow := Lib.hid (lowB_not s[k] (by rw [upI, d1, d2]; rfl))
        go_wp2_with (at_builtin; refine wpList_append_own _ rfl _ _ 77 rfl w.heap.size 5 i0 (.int .u8 0) 1 1 Tryd.underlying77 hi hz0 hz1 hz2 rfl (by decide) _ _ _ rfl (hown.alloc _) ⟨_, 0, none⟩ 1 1 [.int .u8 (s[k].toNat : Int)] rfl rfl (cell_one_new _ _ _) (by intro u hu; simp at hu; subst hu; rfl) (by unfold maxLen; omega) (by omega) (by have := hb.size; simp; omega) ?_; intro v' w1 hown' hgrow _)
        go_roundw
        case rel =>
          refine ⟨k + 1, by omega, by go_num, ?_, (hb.alloc hb.size _).grown hgrow (by have := hb.size; simp; omega) (fun k e => (World.ownsRow.lt hown k e).1)⟩
          rw [Hsn.out, List.map_append, List.map_singleton, bytV, Hlow.out]
          exact hown'
        case measure => simp [intOf]; omega
      · have Hlow := Lib.hid (lowB_not s[k] (by rw [upI, d1, d2]; rfl))
        go_wp2_with (at_builtin; refine wpList_append_own _ rfl _ _ 77 rfl w.heap.size 5 i0 (.int .u8 0) 1 1 Tryd.underlying77 hi hz0 hz1 hz2 rfl (by decide) _ _ _ rfl (hown.alloc _) ⟨_, 0, none⟩ 1 1 [.int .u8 (s[k].toNat : Int)] rfl rfl (cell_one_new _ _ _) (by intro u hu; simp at hu; subst hu; rfl) (by unfold maxLen; omega) (by omega) (by have := hb.size; simp; omega) ?_; intro v' w1 hown' hgrow _)
        go_roundw
        case rel =>
          refine ⟨k + 1, by omega, by go_num, ?_, (hb.alloc hb.size _).grown hgrow (by have := hb.size; simp; omega) (fun k e => (World.ownsRow.lt hown k e).1)⟩
          rw [Hsn.out, List.map_append, List.map_singleton, bytV, Hlow.out]
          exact hown'
        case measure => simp [intOf]; omega
      · have Hlow := Lib.hid (lowB_not s[k] (by rw [upI, d1, d2]; rfl))
        go_wp2_with (at_builtin; refine wpList_append_own _ rfl _ _ 77 rfl w.heap.size 5 i0 (.int .u8 0) 1 1 Tryd.underlying77 hi hz0 hz1 hz2 rfl (by decide) _ _ _ rfl (hown.alloc _) ⟨_, 0, none⟩ 1 1 [.int .u8 (s[k].toNat : Int)] rfl rfl (cell_one_new _ _ _) (by intro u hu; simp at hu; subst hu; rfl) (by unfold maxLen; omega) (by omega) (by have := hb.size; simp; omega) ?_; intro v' w1 hown' hgrow _)
        go_roundw
        case rel =>
          refine ⟨k + 1, by omega, by go_num, ?_, (hb.alloc hb.size _).grown hgrow (by have := hb.size; simp; omega) (fun k e => (World.ownsRow.lt hown k e).1)⟩
          rw [Hsn.out, List.map_append, List.map_singleton, bytV, Hlow.out]
          exact hown'
        case measure => simp [intOf]; omega
      · have hu : upI (s[k].toNat : Int) = true := by rw [upI, d1, d2]; rfl
        have Hlow := Lib.hid (lowB_up32 s[k] hu)
        obtain ⟨h65, h90⟩ := (upI_iff _).1 hu
        clear hu
        go_wp2_with (at_builtin; refine wpList_append_own _ rfl _ _ 77 rfl w.heap.size 5 i0 (.int .u8 0) 1 1 Tryd.underlying77 hi hz0 hz1 hz2 rfl (by decide) _ _ _ rfl (hown.alloc _) ⟨_, 0, none⟩ 1 1 [.int .u8 ((s[k].toNat : Int) + 32)] rfl rfl (cell_one_new _ _ _) (by intro u hu; simp at hu; subst hu; rfl) (by unfold maxLen; omega) (by omega) (by have := hb.size; simp; omega) ?_; intro v' w1 hown' hgrow _)
        go_roundw
        case rel =>
          refine ⟨k + 1, by omega, by go_num, ?_, (hb.alloc hb.size _).grown hgrow (by have := hb.size; simp; omega) (fun k e => (World.ownsRow.lt hown k e).1)⟩
          rw [Hsn.out, List.map_append, List.map_singleton, bytV, Hlow.out]
          exact hown'
        case measure => simp [intOf]; omega
    · have hk' : s.size ≤ k := by omega
      obtain rfl : k = s.size := by omega
      have Hlen : Hid ((lowL s.data.toList).length = s.size) := Lib.hid (by rw [lowL_length, Lib.size_eq])
      rw [take_all s s.size (Nat.le_refl _)] at hown
      rcases hown.2 with ⟨hv, hz⟩ | ⟨g, cap, cur, hv, _, hh, _⟩
      · have hnil : Hid (strB (lowL s.data.toList) = ByteArray.empty) := Lib.hid (by
          have : lowL s.data.toList = [] := List.eq_nil_of_length_eq_zero (by rw [Hlen.out]; exact hz)
          rw [this]; rfl)
        have hback := run_convert_bytes_nil (P := Tryd.prog) wr 77 5 Tryd.underlying77 Tryd.underlying5 0 0 9 Tryd.underlying9
        rw [hv]
        have Hz := Lib.hid hz
        clear hown hv hz
        go_wp2
        go_ret
        exact ⟨by rw [hnil.out]; rfl, hb⟩
      · have hback := run_convert_bytes_back (P := Tryd.prog) wr 77 9 5 ⟨g, 0, none⟩ cap (lowL s.data.toList) Tryd.underlying77 Tryd.underlying5 Tryd.underlying9 (by
          intro j hj
          exact World.ownsRow.cells hown (g := g) (by rw [hv]; rfl) j _ (by rw [List.getElem?_map, List.getElem?_eq_getElem hj]; rfl))
        rw [Hlen.out] at hback
        rw [hv]
        clear hown hv hh
        go_wp2
        go_ret
        exact ⟨rfl, hb⟩

end Go.Proofs.YtjnagifolheloaaDoor
