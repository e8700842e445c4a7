/- The contract of the document's own Digits (sculleryref01). · The contracts of the document's own answers for package ascii (sculleryref01): Lower. -/
import Derived.Test.YtpifbgefkbhopaaGreatDoorRows
import Derived.Test.YtpifbgefkbhopaaGreatDoorZMBasP
import Derived.Test.YtpifbgefkbhopaaGreatDoorZBytP
import Derived.WalkKit
import Derived.WalkSpells
import Derived.WalkLawsBesides
import Derived.Laws.AppendOwn
import Derived.Laws.BytesArg

namespace Go.Proofs.YtpifbgefkbhopaaGreatDoor
open Go.RowKit

set_option maxHeartbeats 1000000 in
theorem rdigits_any (s : ByteArray) (w : World) (hs : s.size ≤ maxLen) :
    Calls Tryz.prog 97 #[.string s] w fun e w' => e = .returned (.tuple #[.int .i64 (digitsN s.data.toList), .bool (digitsB s.data.toList)]) ∧ w = w' := by
  unfold maxLen at hs
  go_enter Tryz.func97, Tryz.ntmps97
  go_wp2
  go_loop [4, 5] (fun n i => ∃ k : Nat, k ≤ s.size ∧ i = .int .i64 k ∧ Hid (digAll (s.data.toList.take k) = true) ∧ n = .int .i64 (digN (s.data.toList.take k))) (fun _ i => s.size - (intOf i).toNat)
  case atStart => exact ⟨0, Nat.zero_le _, rfl, rfl, rfl⟩
  case round =>
    obtain ⟨k, hk, rfl, Hall, rfl⟩ := hrel
    obtain ⟨hn0, hn1⟩ := digN_in s k Hall.out
    by_cases hlt : k < s.size
    · by_cases hd : digI (s[k].toNat : Int) = true
      · have Hs := Lib.hid (digN_snoc s k hlt)
        have Ha := Lib.hid (all_snoc (fun c => digI c.toNat) s k hlt)
        obtain ⟨h48, h57⟩ := (digI_iff _).1 hd
        have d1 : decide ((s[k].toNat : Int) < 48) = false := by simp; omega
        have d2 : decide (57 < (s[k].toNat : Int)) = false := by simp; omega
        have Hd := Lib.hid hd
        clear hd
        go_wp2
        go_round
        case rel => exact ⟨k + 1, by omega, by go_num, Lib.hid (by rewrite [digAll, Ha.out, Hd.out, Bool.and_true]; exact Hall.out), by rewrite [Hs.out, digStep]; exact int_eq (by omega)⟩
        case measure => simp [intOf]; omega
      · have Hf := Lib.hid (all_false_of (fun c => digI c.toNat) s k hlt (by simpa using hd))
        have hn : ¬ (48 ≤ (s[k].toNat : Int) ∧ (s[k].toNat : Int) ≤ 57) := fun h => hd ((digI_iff _).2 h)
        clear hd
        cases d1 : decide ((s[k].toNat : Int) < 48) <;> cases d2 : decide (57 < (s[k].toNat : Int))
        · exfalso; simp at d1 d2; omega
        all_goals
          clear hn
          go_wp2
          go_ret2
          exact ⟨by simp [digitsN, digitsB, digAll, Hf.out], rfl⟩
    · have hk' : s.size ≤ k := by omega
      have Hp : Hid (decide (0 < s.size) = !s.data.toList.isEmpty) := Lib.hid (by rewrite [Lib.size_eq]; exact pos_of _)
      go_wp2
      go_ret2
      rw [take_all s k hk'] at Hall ⊢
      refine ⟨two_eq (int_eq ?_) (bool_eq ?_), rfl⟩
      · rw [digitsN, if_pos Hall.out]
      · rw [digitsB, Hall.out, Bool.true_and, ← Hp.out]

end Go.Proofs.YtpifbgefkbhopaaGreatDoor

namespace Go.Proofs.YtpifbgefkbhopaaGreatDoor
open Go.RowKit

theorem info_byte : (Tryz.prog.info? 5).map (fun i => (i.zero, i.size, i.bytes)) = some (some (.int .u8 0), 1, 1) := by kernel_rfl

theorem lowB_up32 (c : UInt8) (h : upI c.toNat = true) : ((lowB c).toNat : Int) = (c.toNat : Int) + 32 := by
  rewrite [lowB_up c h]; omega

theorem lowL_snoc (s : ByteArray) (k : Nat) (h : k < s.size) : lowL (s.data.toList.take (k + 1)) = lowL (s.data.toList.take k) ++ [lowB s[k]] := by
  rewrite [take_snoc s k h]; simp [lowL]

set_option maxHeartbeats 2000000 in
theorem rlower_any (s : ByteArray) (w : World) (hs : s.size ≤ 1099511627776) :
    Calls Tryz.prog 99 #[.string s] w fun e w' => e = .returned (.string (strB (lowL s.data.toList))) ∧ Below w.heap.size w w' := by
  obtain ⟨i0, hi, hz0, hz1, hz2⟩ := info_parts info_byte
  go_enter Tryz.func99, Tryz.ntmps99
  go_wp2_with fail
  go_loopw [3, 4] (fun v i wr => ∃ k : Nat, k ≤ s.size ∧ i = .int .i64 k ∧ wr.ownsRow w.heap.size 5 1 v k ((lowL (s.data.toList.take k)).map bytV) ∧ Below w.heap.size w wr) (fun _ i _ => s.size - (intOf i).toNat)
  case atStart => exact ⟨0, by omega, rfl, World.ownsRow_made _ _ _ (Nat.le_refl _) (by decide) rfl, (Below.refl _ _).alloc (Nat.le_refl _) _⟩
  case round =>
    obtain ⟨k, hk, rfl, hown, hb⟩ := hrel
    by_cases hlt : k < s.size
    · have Hsn := Lib.hid (lowL_snoc s k hlt)
      cases d1 : decide (65 ≤ (s[k].toNat : Int)) <;> cases d2 : decide ((s[k].toNat : Int) ≤ 90)
      · have Hlow := Lib.hid (lowB_not s[k] (by rw [upI, d1, d2] <;> rfl))
        go_wp2_with (at_builtin; refine wpList_append_own _ rfl _ _ 136 rfl w.heap.size 5 i0 (.int .u8 0) 1 1 Tryz.underlying136 hi hz0 hz1 hz2 rfl (by decide) _ _ _ rfl (hown.alloc _) ⟨_, 0, none⟩ 1 1 [.int .u8 (s[k].toNat : Int)] rfl rfl (cell_one_new _ _ _) (by intro u hu; simp at hu; subst hu; rfl) (by unfold maxLen; omega) (by omega) (by have := hb.size; simp; omega) ?_; intro v' w1 hown' hgrow _)
        go_roundw
        case rel =>
          refine ⟨k + 1, by omega, by go_num, ?_, (hb.alloc hb.size _).grown hgrow (by have := hb.size; simp; omega) (fun k e => (World.ownsRow.lt hown k e).1)⟩
          rewrite [Hsn.out, List.map_append, List.map_singleton, bytV, Hlow.out]
          exact hown'
        case measure => simp [intOf]; omega
      · have Hlow := Lib.hid (lowB_not s[k] (by rw [upI, d1, d2] <;> rfl))
        go_wp2_with (at_builtin; refine wpList_append_own _ rfl _ _ 136 rfl w.heap.size 5 i0 (.int .u8 0) 1 1 Tryz.underlying136 hi hz0 hz1 hz2 rfl (by decide) _ _ _ rfl (hown.alloc _) ⟨_, 0, none⟩ 1 1 [.int .u8 (s[k].toNat : Int)] rfl rfl (cell_one_new _ _ _) (by intro u hu; simp at hu; subst hu; rfl) (by unfold maxLen; omega) (by omega) (by have := hb.size; simp; omega) ?_; intro v' w1 hown' hgrow _)
        go_roundw
        case rel =>
          refine ⟨k + 1, by omega, by go_num, ?_, (hb.alloc hb.size _).grown hgrow (by have := hb.size; simp; omega) (fun k e => (World.ownsRow.lt hown k e).1)⟩
          rewrite [Hsn.out, List.map_append, List.map_singleton, bytV, Hlow.out]
          exact hown'
        case measure => simp [intOf]; omega
      · have Hlow := Lib.hid (lowB_not s[k] (by rw [upI, d1, d2] <;> rfl))
        go_wp2_with (at_builtin; refine wpList_append_own _ rfl _ _ 136 rfl w.heap.size 5 i0 (.int .u8 0) 1 1 Tryz.underlying136 hi hz0 hz1 hz2 rfl (by decide) _ _ _ rfl (hown.alloc _) ⟨_, 0, none⟩ 1 1 [.int .u8 (s[k].toNat : Int)] rfl rfl (cell_one_new _ _ _) (by intro u hu; simp at hu; subst hu; rfl) (by unfold maxLen; omega) (by omega) (by have := hb.size; simp; omega) ?_; intro v' w1 hown' hgrow _)
        go_roundw
        case rel =>
          refine ⟨k + 1, by omega, by go_num, ?_, (hb.alloc hb.size _).grown hgrow (by have := hb.size; simp; omega) (fun k e => (World.ownsRow.lt hown k e).1)⟩
          rewrite [Hsn.out, List.map_append, List.map_singleton, bytV, Hlow.out]
          exact hown'
        case measure => simp [intOf]; omega
      · have hu : upI (s[k].toNat : Int) = true := by rw [upI, d1, d2] <;> rfl
        have Hlow := Lib.hid (lowB_up32 s[k] hu)
        obtain ⟨h65, h90⟩ := (upI_iff _).1 hu
        clear hu
        go_wp2_with (at_builtin; refine wpList_append_own _ rfl _ _ 136 rfl w.heap.size 5 i0 (.int .u8 0) 1 1 Tryz.underlying136 hi hz0 hz1 hz2 rfl (by decide) _ _ _ rfl (hown.alloc _) ⟨_, 0, none⟩ 1 1 [.int .u8 ((s[k].toNat : Int) + 32)] rfl rfl (cell_one_new _ _ _) (by intro u hu; simp at hu; subst hu; rfl) (by unfold maxLen; omega) (by omega) (by have := hb.size; simp; omega) ?_; intro v' w1 hown' hgrow _)
        go_roundw
        case rel =>
          refine ⟨k + 1, by omega, by go_num, ?_, (hb.alloc hb.size _).grown hgrow (by have := hb.size; simp; omega) (fun k e => (World.ownsRow.lt hown k e).1)⟩
          rewrite [Hsn.out, List.map_append, List.map_singleton, bytV, Hlow.out]
          exact hown'
        case measure => simp [intOf]; omega
    · have hk' : s.size ≤ k := by omega
      obtain rfl : k = s.size := by omega
      have Hlen : Hid ((lowL s.data.toList).length = s.size) := Lib.hid (by rw [lowL_length, Lib.size_eq])
      rw [take_all s s.size (Nat.le_refl _)] at hown
      rcases hown.2 with ⟨hv, hz⟩ | ⟨g, cap, cur, hv, _, hh, _⟩
      · have hnil : Hid (strB (lowL s.data.toList) = ByteArray.empty) := Lib.hid (by
          have : lowL s.data.toList = [] := List.eq_nil_of_length_eq_zero (by rewrite [Hlen.out]; exact hz)
          rw [this] <;> rfl)
        have hback := run_convert_bytes_nil (P := Tryz.prog) wr 136 5 Tryz.underlying136 Tryz.underlying5 0 0 9 Tryz.underlying9
        rewrite [hv]
        have Hz := Lib.hid hz
        clear hown hv hz
        go_wp2
        go_ret
        exact ⟨by rw [hnil.out] <;> rfl, hb⟩
      · have hback := run_convert_bytes_back (P := Tryz.prog) wr 136 9 5 ⟨g, 0, none⟩ cap (lowL s.data.toList) Tryz.underlying136 Tryz.underlying5 Tryz.underlying9 (by
          intro j hj
          exact World.ownsRow.cells hown (g := g) (by rw [hv] <;> rfl) j _ (by rw [List.getElem?_map, List.getElem?_eq_getElem hj] <;> rfl))
        rw [Hlen.out] at hback
        rewrite [hv]
        clear hown hv hh
        go_wp2
        go_ret
        exact ⟨rfl, hb⟩

end Go.Proofs.YtpifbgefkbhopaaGreatDoor
