/- The document's own Target, Bare and cut (sculleryref08). -/
import Derived.Test.YthbfcamfapgodaaGreatDoorGE
import Derived.Test.YthbfcamfapgodaaGreatDoorG2
import Derived.Test.YthbfcamfapgodaaGreatDoorShelf
import Derived.Test.YthbfcamfapgodaaGreatDoorGB
import Derived.BigQuiet
import Derived.Deep.QuietTactic

namespace Go.Proofs.YthbfcamfapgodaaGreatDoor
open Go.RowKit Go.Shelf Go.Lib

set_option maxRecDepth 100000 in
set_option maxHeartbeats 2000000 in
theorem rtarget_any (s : ByteArray) (w : World) (hs : s.size ≤ 100000) :
    Calls Tryz.prog 32 #[.string s] w fun e w' => e = .returned (.bool (tgtL s.data.toList)) ∧ w = w' := by
  go_enter Tryz.func32, Tryz.ntmps32
  go_wp2_with fail
  go_loop [3] (fun i => ∃ k : Nat, k ≤ s.size ∧ i = .int .i64 k ∧ Hid ((s.data.toList.take k).all tgtB = true)) (fun i => s.size - (intOf i).toNat)
  case atStart => exact ⟨0, Nat.zero_le _, rfl, Lib.hid (by simp)⟩
  case round =>
    obtain ⟨k, hk, rfl, H⟩ := hrel
    by_cases hlt : k < s.size
    · have Hs := Lib.hid (tgt_snoc s k hlt tgtB)
      have Hno := Lib.hid (tgt_no s k hlt tgtB)
      have Hd : Hid (tgtB s[k] = !(decide ((s[k].toNat : Int) < 33) || decide ((126 : Int) < (s[k].toNat : Int)))) := Lib.hid rfl
      cases d1 : decide ((s[k].toNat : Int) < 33) <;> cases d2 : decide ((126 : Int) < (s[k].toNat : Int))
      · have Hn : Hid ((s.data.toList.take (k + 1)).all tgtB = true) := Lib.hid (by rw [Hs.out, H.out, Hd.out, d1, d2] <;> rfl)
        go_wp2_with fail
        go_round
        case rel => exact ⟨k + 1, by omega, by go_num, Lib.hid Hn.out⟩
        case measure => simp [intOf]; omega
      all_goals
        have HR : Hid (tgtL s.data.toList = false) := Lib.hid (by rw [tgtL, Hno.out (by rw [Hd.out, d1, d2] <;> rfl)] <;> rfl)
        go_wp2_with fail
        go_ret
        exact ⟨by rw [HR.out] <;> rfl, rfl⟩
    · have hall : s.data.toList.take k = s.data.toList := take_all s k (by omega)
      have hH := H.out
      rw [hall] at hH
      obtain ⟨b, hb⟩ : ∃ b, s.toList.isEmpty = b := ⟨_, rfl⟩
      have HR : Hid (tgtL s.data.toList = !b) := Lib.hid (by rw [tgtL, hH, ← hb, Lib.toList_data] <;> rfl)
      clear hH H hall
      cases b
      all_goals
        go_wp2_with fail
        go_ret
        exact ⟨by rw [HR.out] <;> rfl, rfl⟩

set_option maxHeartbeats 1000000 in
theorem rbare_any (n : Int) (m : ByteArray) (w : World) :
    Calls Tryz.prog 20 #[.int .i64 n, .string m] w fun e w' => e = .returned (.bool (bareB n m)) ∧ w = w' := by
  have hB : bareB n m = (decide (100 ≤ n) && decide (n ≤ 199) || n == 204 || n == 304 || m.toList == [72, 69, 65, 68]) := rfl
  rewrite [hB]
  by_cases a : 100 ≤ n ∧ n ≤ 199
  · obtain ⟨d1, d2⟩ := a
    have hr : (decide (100 ≤ n) && decide (n ≤ 199) || n == 204 || n == 304 || m.toList == [72, 69, 65, 68]) = true := by simp [d1, d2]
    rewrite [hr]
    clear hB hr
    go_enter Tryz.func20, Tryz.ntmps20
    go_wp2_with fail
    go_ret
    exact ⟨rfl, rfl⟩
  · by_cases e1 : n = 204
    · subst e1
      clear hB a
      go_enter Tryz.func20, Tryz.ntmps20
      go_wp2_with fail
      go_ret
      exact ⟨rfl, rfl⟩
    · by_cases e2 : n = 304
      · subst e2
        clear hB a e1
        go_enter Tryz.func20, Tryz.ntmps20
        go_wp2_with fail
        go_ret
        exact ⟨rfl, rfl⟩
      · have f1 : (n == 204) = false := by simpa using e1
        have f2 : (n == 304) = false := by simpa using e2
        by_cases d1 : 100 ≤ n
        · have d2 : ¬ n ≤ 199 := fun h => a ⟨d1, h⟩
          have hr : (decide (100 ≤ n) && decide (n ≤ 199) || n == 204 || n == 304 || m.toList == [72, 69, 65, 68]) = (m.toList == [72, 69, 65, 68]) := by simp [d1, d2, f1, f2]
          rewrite [hr]
          clear hB hr a e1 e2
          generalize hm : (m.toList == [72, 69, 65, 68]) = h at *
          cases h
          all_goals
            go_enter Tryz.func20, Tryz.ntmps20
            go_wp2_with fail
            go_ret
            exact ⟨rfl, rfl⟩
        · have hr : (decide (100 ≤ n) && decide (n ≤ 199) || n == 204 || n == 304 || m.toList == [72, 69, 65, 68]) = (m.toList == [72, 69, 65, 68]) := by simp [d1, f1, f2]
          rewrite [hr]
          clear hB hr a e1 e2
          generalize hm : (m.toList == [72, 69, 65, 68]) = h at *
          cases h
          all_goals
            go_enter Tryz.func20, Tryz.ntmps20
            go_wp2_with fail
            go_ret
            exact ⟨rfl, rfl⟩

set_option maxRecDepth 100000 in
set_option maxHeartbeats 2000000 in
theorem rcut_any (s : ByteArray) (w : World) (hs : s.size ≤ 100000) :
    Calls Tryz.prog 30 #[.string s] w fun e w' => e = .returned (cutV s.data.toList 32) ∧ Below w.heap.size w w' := by
  go_enter Tryz.func30, Tryz.ntmps30
  go_wp2_with fail
  go_loop [5] (fun i => ∃ k : Nat, k ≤ s.size ∧ i = .int .i64 k ∧ Hid (∀ x ∈ s.data.toList.take k, x ≠ 32)) (fun i => s.size - (intOf i).toNat)
  case atStart => exact ⟨0, Nat.zero_le _, rfl, Lib.hid (by simp)⟩
  case round =>
    obtain ⟨k, hk, rfl, H⟩ := hrel
    by_cases hlt : k < s.size
    · have B : ((s[k].toNat : Int) == 32) = (s[k] == 32) := byte_beq s[k] 32
      by_cases hc : s[k] = 32
      · have e1 : ((s[k].toNat : Int) == 32) = true := by rw [B, hc] <;> rfl
        have HV : Hid (cutV s.data.toList 32 = .tuple #[.string (s.extract 0 k), .string (s.extract (k + 1) s.size), .bool true]) := Lib.hid (by
          have hi := index_at s k 32 H.out hlt hc
          rw [cutV, hi, if_neg (by omega), Int.toNat_natCast, ← extract_take, ← Lib.extract_to_end, strB_of, strB_of])
        have W1 : Hid (IntKind.i64.wrap ((k : Int) + 1) = (k : Int) + 1) := Lib.hid (IntWalk.i64_in _ (by omega))
        have T1 : Hid (((k : Int) + 1).toNat = k + 1) := Lib.hid (by omega)
        have L1 : Hid ((0 : Int) ≤ (k : Int) + 1) := Lib.hid (by omega)
        have L2 : Hid ((k : Int) + 1 ≤ (s.size : Int)) := Lib.hid (by omega)
        have L3 : Hid ((k : Int) ≤ (s.size : Int)) := Lib.hid (by omega)
        clear B hc H
        go_wp2_with fail
        have a1 := W1.out
        have a2 := T1.out
        have a3 := L1.out
        have a4 := L2.out
        have a5 := L3.out
        have a6 : k ≤ s.size := by omega
        go_quiet (fail)
        all_goals
          clear a1 a2 a3 a4 a5
          go_wp2_with fail
          exact bodyPost_ret (v := .tuple #[.string (s.extract 0 k), .string (s.extract (k + 1) s.size), .bool true]) (by simp [results, Tryz.results30, go_sem]) rfl ⟨by rw [HV.out], below_drewN _ _⟩
      · have e1 : ((s[k].toNat : Int) == 32) = false := by rewrite [B]; simpa using hc
        have Hn := Lib.hid (not_snoc H.out hlt hc)
        clear B hc
        go_wp2_with fail
        go_round
        case rel => exact ⟨k + 1, by omega, by go_num, Lib.hid Hn.out⟩
        case measure => simp [intOf]; omega
    · have hall : s.data.toList.take k = s.data.toList := take_all s k (by omega)
      have hH := H.out
      rw [hall] at hH
      have HV : Hid (cutV s.data.toList 32 = .tuple #[.string s, .string ⟨#[]⟩, .bool false]) := Lib.hid (by rw [cutV, index_not _ _ hH, if_pos rfl, strB_of])
      clear hH H hall
      go_wp2_with fail
      exact bodyPost_ret (v := .tuple #[.string s, .string ⟨#[]⟩, .bool false]) (by simp [results, Tryz.results30, go_sem]) rfl ⟨by rw [HV.out], Below.refl _ _⟩

end Go.Proofs.YthbfcamfapgodaaGreatDoor
