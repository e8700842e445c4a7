/- The contract of the statements' own 'awake' over package bare: it returns true. -/
import Derived.Test.YtopfallmpbjbaaaDoorBarN
import Derived.Test.YtopfallmpbjbaaaDoorBarH
namespace Go.Proofs.YtopfallmpbjbaaaDoor
open Go.RowKit

theorem bare_cells (w : World) (a b : Int) (t : ByteArray) (W : World) (hb : Below (w.heap.size + 1) (w.alloc (.cells #[.int .i64 a, .int .i64 b, .string t] 23)) W) :
    (W.cell? ⟨w.heap.size, 0, none⟩ = some (.int .i64 a) ∧ W.cell? ⟨w.heap.size, 1, none⟩ = some (.int .i64 b) ∧ W.cell? ⟨w.heap.size, 2, none⟩ = some (.string t)) := by
  refine ⟨?_, ?_, ?_⟩
  · rw [hb.cell (p := ⟨w.heap.size, 0, none⟩) (by simp)]; simp
  · rw [hb.cell (p := ⟨w.heap.size, 1, none⟩) (by simp)]; simp
  · rw [hb.cell (p := ⟨w.heap.size, 2, none⟩) (by simp)]; simp

set_option maxRecDepth 100000 in
set_option maxHeartbeats 4000000 in
theorem awake_any (w : World) (hA : Alph w) (hP : Pow w) :
    Calls Tryd.prog 9 #[] w fun e w' => e = .returned (.bool true) ∧ Below w.heap.size w w' := by
  have HA := Lib.hid hA
  have HP := Lib.hid hP
  clear hA hP
  go_enter Tryd.func9, Tryd.ntmps9
  go_wp2_with fail
  refine (read_any _ _ (by decide) HA.out).mono ?_
  rintro e w1 ⟨rfl, hb1⟩
  rw [show readL (⟨#[49, 46, 53, 48, 59, 97]⟩ : ByteArray).data.toList = some ⟨2, 1500, [], 4⟩ by kernel_rfl, gotV, strB]
  go_wp2_with fail
  have hz1 := hb1.size
  have hbx : Below w.heap.size w (w1.alloc (.cells #[.int .i64 2, .int .i64 1500, .string ⟨#[]⟩] 23)) := hb1.alloc hz1 _
  refine (print_any 3 0 _ _ (by decide) (by decide) (HA.out.below hbx) (HP.out.below hbx)).mono ?_
  rintro e w2 ⟨rfl, hb2⟩
  rw [show printL 3 0 (⟨#[97, 34, 98]⟩ : ByteArray).data.toList = some [34, 97, 92, 34, 98, 34] by kernel_rfl, textV, strB]
  have hbx2 := hbx.trans (hb2.mono hbx.size)
  go_wp2_with fail
  refine (decode_any _ _ (by decide) (HA.out.below hbx2)).mono ?_
  rintro e w3 ⟨rfl, hb3⟩
  rw [show decL (⟨#[97, 71, 107, 61]⟩ : ByteArray).data.toList = some [104, 105] by kernel_rfl, decV, strB]
  have hb23 := hb2.trans (hb3.mono hb2.size)
  have hbx3 := hbx.trans (hb23.mono hbx.size)
  clear hb2 hb3 hbx2
  go_wp2_with fail
  refine (read_any _ _ (by decide) (HA.out.below hbx3)).mono ?_
  rintro e w4 ⟨rfl, hb4⟩
  rw [show readL (⟨#[63, 50]⟩ : ByteArray).data.toList = none by kernel_rfl, gotV]
  have hb24 := hb23.trans (hb4.mono hb23.size)
  have hbx4 := hbx.trans (hb24.mono hbx.size)
  clear hb23 hb4 hbx3
  obtain ⟨p0, p1, p2⟩ := bare_cells w1 2 1500 ⟨#[]⟩ w4 (by simpa using hb24)
  have hz4 : w1.heap.size < w4.heap.size := by have := hb24.size; simp at this; omega
  go_wp2_with fail
  refine (encode_any _ _ (by decide) (HA.out.below (hbx4.alloc hbx4.size _))).mono ?_
  rintro e w5 ⟨rfl, hb5⟩
  rw [show encL (⟨#[104, 105]⟩ : ByteArray).data.toList = [97, 71, 107, 61] by kernel_rfl, strB]
  have hbx5 := (hbx4.alloc hbx4.size (.cells #[.int .i64 0, .int .i64 0, .string ⟨#[]⟩] 23)).trans (hb5.mono (hbx4.alloc hbx4.size _).size)
  have hb25 := (hb24.alloc hb24.size (.cells #[.int .i64 0, .int .i64 0, .string ⟨#[]⟩] 23)).trans (hb5.mono (hb24.alloc hb24.size _).size)
  clear hb24 hbx4 hb5 p0 p1 p2
  obtain ⟨p0, p1, p2⟩ := bare_cells w1 2 1500 ⟨#[]⟩ w5 (by simpa using hb25)
  go_wp2_with fail
  refine (right_any _ _ _ _ (by decide)).mono ?_
  rintro e w6 ⟨rfl, hb6⟩
  rw [show rightL 2 1500 (⟨#[]⟩ : ByteArray).data.toList = true by kernel_rfl]
  go_wp2_with fail
  go_ret
  exact ⟨rfl, hbx5.trans (hb6.mono hbx5.size)⟩

end Go.Proofs.YtopfallmpbjbaaaDoor
