/- The law's awake (scullerylaw03). -/
import Derived.Test.YtcjnigmklijjiaaDoorItmO
import Derived.Test.YtcjnigmklijjiaaDoorItmR
namespace Go.Proofs.YtcjnigmklijjiaaDoor
open Go.RowKit

theorem awake_ps : psL [59, 97, 59, 32, 98, 61, 63, 48, 59, 97, 61, 50] [] 0 = some ([⟨[97], 1, 2, []⟩, ⟨[98], 6, 0, []⟩], 12) := by
  rw [psL_some _ _ _ ⟨[97], 6, 1, []⟩ 1 (by rfl) (by kernel_rfl)]
  rw [show List.drop (1 + 1) ([59, 97, 59, 32, 98, 61, 63, 48, 59, 97, 61, 50] : List UInt8) = [59, 32, 98, 61, 63, 48, 59, 97, 61, 50] from rfl]
  rw [psL_some _ _ _ ⟨[98], 6, 0, []⟩ 5 (by rfl) (by kernel_rfl)]
  rw [show List.drop (1 + 5) ([59, 32, 98, 61, 63, 48, 59, 97, 61, 50] : List UInt8) = [59, 97, 61, 50] from rfl]
  rw [psL_some _ _ _ ⟨[97], 1, 2, []⟩ 3 (by rfl) (by kernel_rfl)]
  rw [show List.drop (1 + 3) ([59, 97, 61, 50] : List UInt8) = [] from rfl]
  rw [psL_end _ _ _ (by simp)]
  kernel_rfl

theorem awake_parse : parseL [32, 53, 59, 97, 59, 32, 98, 61, 63, 48, 59, 97, 61, 50, 32] = some (⟨1, 5, [], 1⟩, [⟨[97], 1, 2, []⟩, ⟨[98], 6, 0, []⟩]) := by
  have ht : Lib.trimB [32, 53, 59, 97, 59, 32, 98, 61, 63, 48, 59, 97, 61, 50, 32] 32 = [53, 59, 97, 59, 32, 98, 61, 63, 48, 59, 97, 61, 50] := by kernel_rfl
  have hr : readL [53, 59, 97, 59, 32, 98, 61, 63, 48, 59, 97, 61, 50] = some ⟨1, 5, [], 1⟩ := by kernel_rfl
  have hi : itmL [53, 59, 97, 59, 32, 98, 61, 63, 48, 59, 97, 61, 50] = some (⟨1, 5, [], 1⟩, [⟨[97], 1, 2, []⟩, ⟨[98], 6, 0, []⟩], 13) := by
    rw [itmL, hr]
    dsimp only
    rw [show List.drop 1 ([53, 59, 97, 59, 32, 98, 61, 63, 48, 59, 97, 61, 50] : List UInt8) = [59, 97, 59, 32, 98, 61, 63, 48, 59, 97, 61, 50] from rfl, awake_ps]
  rw [parseL, ht, hi]
  dsimp only
  rw [if_neg (by decide)]

theorem awake_none : parseL [53, 32, 59, 97] = none := by
  have ht : Lib.trimB [53, 32, 59, 97] 32 = [53, 32, 59, 97] := by kernel_rfl
  have hr : readL [53, 32, 59, 97] = some ⟨1, 5, [], 1⟩ := by kernel_rfl
  have hi : itmL [53, 32, 59, 97] = some (⟨1, 5, [], 1⟩, [], 1) := by
    rw [itmL, hr]
    dsimp only
    rw [show List.drop 1 ([53, 32, 59, 97] : List UInt8) = [32, 59, 97] from rfl, psL_end _ _ _ (by simp)]
  rw [parseL, ht, hi]
  dsimp only
  rw [if_pos (by decide)]

theorem awake_print : prT 1 5 [] [⟨[97], 1, 2, []⟩, ⟨[98], 6, 0, []⟩] = some [53, 59, 97, 61, 50, 59, 98, 61, 63, 48] := by kernel_rfl

set_option maxRecDepth 100000 in
set_option maxHeartbeats 4000000 in
theorem awake_any (w : World) (hA : Alph w) (hP : Pow w) :
    Calls Tryd.prog 5 #[] w fun e w' => e = .returned (.bool true) ∧ Below w.heap.size w w' := by
  have HA := Lib.hid hA
  have HP := Lib.hid hP
  clear hA hP
  go_enter Tryd.func5, Tryd.ntmps5
  go_wp2_with fail
  refine (parse_any _ _ (by decide) (by exact HA.out)).mono ?_
  rw [show parseL (⟨#[32, 53, 59, 97, 59, 32, 98, 61, 63, 48, 59, 97, 61, 50, 32]⟩ : ByteArray).data.toList = some (⟨1, 5, [], 1⟩, [⟨[97], 1, 2, []⟩, ⟨[98], 6, 0, []⟩]) from awake_parse]
  rintro e w1 ⟨hb1, v, rfl, hv⟩
  have hp1 := Prms.of_own hv
  clear hv
  have HPr := Lib.hid hp1
  obtain ⟨ao, cap, rfl, hc⟩ := hp1
  clear hc
  rw [show strB [] = ⟨#[]⟩ from rfl, show ([⟨[97], 1, 2, []⟩, ⟨[98], 6, 0, []⟩] : List Prm).length = 2 from rfl]
  have hz1 := hb1.size
  have hbx := hb1.alloc hz1 (.cells #[.int .i64 1, .int .i64 5, .string ⟨#[]⟩, .slice ao 2 cap] 26)
  have hpx := HPr.out.below ((Below.refl _ _).alloc (Nat.le_refl _) (.cells #[.int .i64 1, .int .i64 5, .string ⟨#[]⟩, .slice ao 2 cap] 26))
  go_wp2_with fail
  refine (iprint_any 1 5 [] _ _ _ hpx (by decide) (by
    intro p hp
    simp only [List.mem_cons, List.not_mem_nil, or_false] at hp
    rcases hp with rfl | rfl
    · exact ⟨by decide, by decide, by decide, by decide⟩
    · exact ⟨by decide, by decide, by decide, by decide⟩) (by decide) (by decide) (HA.out.below hbx) (HP.out.below hbx)).mono ?_
  rw [awake_print, textV, strB]
  rintro e w2 ⟨rfl, hb2⟩
  have hbx2 := hbx.trans (hb2.mono hbx.size)
  go_wp2_with fail
  refine (readKey_any _ _ (by decide)).mono ?_
  rw [show rkV (⟨#[42, 97, 45, 49, 61]⟩ : ByteArray).data.toList = .tuple #[.string ⟨#[42, 97, 45, 49]⟩, .int .i64 4, .int .i64 0] by kernel_rfl]
  rintro e w3 ⟨rfl, rfl⟩
  go_wp2_with fail
  refine (parse_any _ _ (by decide) (HA.out.below hbx2)).mono ?_
  rw [show parseL (⟨#[53, 32, 59, 97]⟩ : ByteArray).data.toList = none from awake_none]
  rintro e w4 ⟨hb4, rfl⟩
  have hb24 := hb2.trans (hb4.mono hb2.size)
  have hbx4 := hbx2.trans (hb4.mono hbx2.size)
  clear hb4 hb2 hbx2
  obtain ⟨p0, p1, p2, p3⟩ := item_cells w1 1 5 ⟨#[]⟩ (.slice ao 2 cap) w4 (by simpa using hb24)
  have hz4 : w1.heap.size < w4.heap.size := by have := hb24.size; simp at this; omega
  have hb14 := ((Below.refl w1.heap.size w1).alloc (Nat.le_refl _) (.cells #[.int .i64 1, .int .i64 5, .string ⟨#[]⟩, .slice ao 2 cap] 26)).trans (hb24.mono (by simp))
  have hbW := hbx4.alloc hbx4.size (.cells #[.int .i64 0, .int .i64 0, .string ⟨#[]⟩, .slice none 0 0] 26)
  have hpW := HPr.out.below (hb14.alloc hb14.size (.cells #[.int .i64 0, .int .i64 0, .string ⟨#[]⟩, .slice none 0 0] 26))
  clear hb14 hbx4 hb24
  go_wp2_with fail
  refine (key_any _ _ (by decide)).mono ?_
  rw [show keyL (⟨#[97, 46, 98]⟩ : ByteArray).data.toList = true by kernel_rfl]
  rintro e w5 ⟨rfl, rfl⟩
  go_wp2_with fail
  refine (isame_any 1 5 1 5 [] [] _ _ _ _ _ hpW hpW (by decide) (by decide)).mono ?_
  rw [show sameI 1 5 [] [⟨[97], 1, 2, []⟩, ⟨[98], 6, 0, []⟩] 1 5 [] [⟨[97], 1, 2, []⟩, ⟨[98], 6, 0, []⟩] = true by kernel_rfl]
  rintro e w6 ⟨rfl, hb6⟩
  go_wp2_with fail
  go_ret
  exact ⟨rfl, hbW.trans (hb6.mono hbW.size)⟩

end Go.Proofs.YtcjnigmklijjiaaDoor
