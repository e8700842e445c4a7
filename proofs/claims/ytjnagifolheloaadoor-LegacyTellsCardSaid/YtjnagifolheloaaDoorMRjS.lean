/- The document's own Split (sculleryref01), for a seat on BasP. -/
import Derived.Test.YtjnagifolheloaaDoorMSpP
import Derived.Test.YtjnagifolheloaaDoorMSpV
import Derived.Test.YtjnagifolheloaaDoorMRjA

namespace Go.Proofs.YtjnagifolheloaaDoor
open Go.RowKit

theorem extract_mid (s : ByteArray) (a b : Nat) : (s.extract a b).data.toList = (s.data.toList.drop a).take (b - a) := Lib.extract_data s a b

set_option maxRecDepth 100000 in
set_option maxHeartbeats 4000000 in
theorem rsplit_any (s : ByteArray) (w : World) (hs : s.size ≤ 1099511627776) :
    Calls Tryd.prog 20 #[.string s] w (StrsOut w.heap.size (splitL s.data.toList) w) := by
  obtain ⟨i0, hi, hz0, hz1, hz2⟩ := info_parts info_string
  go_enter Tryd.func20, Tryd.ntmps20
  go_wp2_with fail
  go_loopw [3, 4, 5, 6, 7] (fun v xq xs xf i wr => ∃ (k f : Nat) (q sl : Bool) (acc : List (List UInt8)), k ≤ s.size + 1 ∧ f ≤ k ∧ i = .int .i64 k ∧ xf = .int .i64 f ∧ xq = .bool q ∧ xs = .bool sl ∧ SplInv s.data.toList k f q sl acc ∧ wr.ownsRow w.heap.size 9 1 v acc.length (acc.map strV) ∧ Below w.heap.size w wr) (fun _ _ _ _ i _ => s.size + 1 - (intOf i).toNat)
  case atStart => exact ⟨0, 0, false, false, [], by omega, by omega, rfl, rfl, rfl, rfl, SplInv.start _, World.ownsRow_nil _ _ _ _, Below.refl _ _⟩
  case round =>
    obtain ⟨k, f, q, sl, acc, hk, hfk, rfl, rfl, rfl, rfl, hI, hown, hb⟩ := hrel
    have hacc := hI.few
    have Hsz := Lib.hid (Lib.size_eq s)
    by_cases hlt : k < s.size
    · have hll : k < s.data.toList.length := by rw [← Hsz.out]; exact hlt
      have Hdr := Lib.hid (drop_cons_at s k hlt)
      have B92 : Hid (((s[k].toNat : Int) == 92) = (s[k] == 92)) := Lib.hid (byte_beq s[k] 92)
      have B34 : Hid (((s[k].toNat : Int) == 34) = (s[k] == 34)) := Lib.hid (byte_beq s[k] 34)
      have B44 : Hid (((s[k].toNat : Int) == 44) = (s[k] == 44)) := Lib.hid (byte_beq s[k] 44)
      cases q
      · obtain rfl := hI.quiet rfl
        cases h44 : ((s[k].toNat : Int) != 44)
        · have P44 : Hid ((s[k] == 44) = true) := Lib.hid (by rw [← B44.out]; simpa using h44)
          have Hz : Hid (peS (stOf false false) (s.data.toList.drop k) = 0) := Lib.hid (by
            rw [Hdr.out, stOf, if_neg (by decide), peS, P44.out]; rfl)
          have hkl : k ≤ s.data.toList.length := by omega
          have cM := rtrim_any (s.extract f k).size (s.extract f k) wr (Nat.le_refl _) (by rw [Lib.size_eq, extract_mid, List.length_take]; unfold maxLen; omega)
          rw [extract_mid] at cM
          have Hnx := Lib.hid (hI.next hkl (fun _ => rfl) Hz.out false false (fun _ => rfl) (fun _ => rfl))
          generalize trimL ((s.data.toList.drop f).take (k - f)) = p at cM Hnx
          by_cases hp : p = []
          · have hpe : (strB p).toList.isEmpty = true := by rw [Lib.toList_data, strB_data, hp]; rfl
            have Hp := Lib.hid hp
            clear hp
            go_wp2_with (go_at_call 37; refine cM.mono ?_; rintro e w' ⟨rfl, rfl⟩)
            go_roundw
            case rel => exact ⟨k + 1, k + 1, false, false, acc ++ [], by omega, by omega, by go_num, by go_num, rfl, rfl, Hnx.out [] (by rw [if_pos Hp.out]), by rw [List.append_nil]; exact hown, hb⟩
            case measure => simp [intOf] <;> omega
          · have hpe : (strB p).toList.isEmpty = false := by rw [Lib.toList_data, strB_data, List.isEmpty_eq_false_iff]; exact hp
            have Hp := Lib.hid hp
            clear hp
            go_wp2_with (first | (go_at_call 37; refine cM.mono ?_; rintro e w' ⟨rfl, rfl⟩) | (at_builtin; refine wpList_append_own _ rfl _ _ 49 rfl w.heap.size 9 i0 (.string ⟨#[]⟩) 1 16 Tryd.underlying49 hi hz0 hz1 hz2 rfl (by decide) _ _ _ rfl (hown.alloc _) ⟨_, 0, none⟩ 1 1 [.string (strB p)] rfl rfl (cell_one_new _ _ _) (by intro u hu; simp at hu; subst hu; rfl) (by unfold maxLen; omega) (by omega) (by have := hb.size; simp; omega) ?_; intro v' w1 hown' hgrow _))
            go_roundw
            case rel =>
              refine ⟨k + 1, k + 1, false, false, acc ++ [p], by omega, by omega, by go_num, by go_num, rfl, rfl, Hnx.out [p] (by rw [if_neg Hp.out]), ?_, (hb.alloc hb.size _).grown hgrow (by have := hb.size; simp; omega) (fun k e => (World.ownsRow.lt hown k e).1)⟩
              rw [List.length_append, List.map_append]
              exact hown'
            case measure => simp [intOf] <;> omega
        · have P44 : Hid ((s[k] == 44) = false) := Lib.hid (by rw [← B44.out]; simpa using h44)
          cases h34 : ((s[k].toNat : Int) == 34)
          · have Hst : Hid (peS (stOf false false) (s.data.toList.drop k) = 1 + peS (stOf false false) (s.data.toList.drop (k + 1))) := Lib.hid (by
              rw [Hdr.out, stOf, if_neg (by decide), peS, P44.out, ← B34.out, h34]; rfl)
            go_wp2
            go_roundw
            case rel => exact ⟨k + 1, f, false, false, acc, by omega, by omega, by go_num, rfl, rfl, rfl, hI.plain hll false false (fun _ => rfl) Hst.out, hown, hb⟩
            case measure => simp [intOf] <;> omega
          · have Hst : Hid (peS (stOf false false) (s.data.toList.drop k) = 1 + peS (stOf true false) (s.data.toList.drop (k + 1))) := Lib.hid (by
              rw [Hdr.out, stOf, if_neg (by decide), peS, P44.out, ← B34.out, h34]; rfl)
            go_wp2
            go_roundw
            case rel => exact ⟨k + 1, f, true, false, acc, by omega, by omega, by go_num, rfl, rfl, rfl, hI.plain hll true false (fun h => by cases h) Hst.out, hown, hb⟩
            case measure => simp [intOf] <;> omega
      · cases sl
        · cases h92 : ((s[k].toNat : Int) == 92)
          · cases h34 : ((s[k].toNat : Int) == 34)
            · have Hst : Hid (peS (stOf true false) (s.data.toList.drop k) = 1 + peS (stOf true false) (s.data.toList.drop (k + 1))) := Lib.hid (by
                rw [Hdr.out, stOf, if_pos rfl, peS, ← B92.out, h92, ← B34.out, h34]; rfl)
              go_wp2
              go_roundw
              case rel => exact ⟨k + 1, f, true, false, acc, by omega, by omega, by go_num, rfl, rfl, rfl, hI.plain hll true false (fun h => by cases h) Hst.out, hown, hb⟩
              case measure => simp [intOf] <;> omega
            · have Hst : Hid (peS (stOf true false) (s.data.toList.drop k) = 1 + peS (stOf false false) (s.data.toList.drop (k + 1))) := Lib.hid (by
                rw [Hdr.out, stOf, if_pos rfl, peS, ← B92.out, h92, ← B34.out, h34]; rfl)
              go_wp2
              go_roundw
              case rel => exact ⟨k + 1, f, false, false, acc, by omega, by omega, by go_num, rfl, rfl, rfl, hI.plain hll false false (fun _ => rfl) Hst.out, hown, hb⟩
              case measure => simp [intOf] <;> omega
          · have Hst : Hid (peS (stOf true false) (s.data.toList.drop k) = 1 + peS (stOf true true) (s.data.toList.drop (k + 1))) := Lib.hid (by
              rw [Hdr.out, stOf, if_pos rfl, peS, ← B92.out, h92]; rfl)
            go_wp2
            go_roundw
            case rel => exact ⟨k + 1, f, true, true, acc, by omega, by omega, by go_num, rfl, rfl, rfl, hI.plain hll true true (fun h => by cases h) Hst.out, hown, hb⟩
            case measure => simp [intOf] <;> omega
        · have Hst : Hid (peS (stOf true true) (s.data.toList.drop k) = 1 + peS (stOf true false) (s.data.toList.drop (k + 1))) := Lib.hid (by
            rw [Hdr.out, stOf, if_pos rfl, peS]
            cases (s[k] == 92) <;> simp [stOf])
          go_wp2
          go_roundw
          case rel => exact ⟨k + 1, f, true, false, acc, by omega, by omega, by go_num, rfl, rfl, rfl, hI.plain hll true false (fun h => by cases h) Hst.out, hown, hb⟩
          case measure => simp [intOf] <;> omega
    · by_cases hend : k = s.size
      · subst hend
        have Hz : Hid (peS (stOf q sl) (s.data.toList.drop s.size) = 0) := Lib.hid (by
          rw [List.drop_of_length_le (by rw [← Hsz.out]; omega)]
          cases q <;> cases sl <;> rfl)
        have hkl : s.size ≤ s.data.toList.length := by rw [← Hsz.out]; omega
        have Hq := Lib.hid hI.quiet
        have Hll : Hid (s.size < s.data.toList.length → False) := Lib.hid (fun h => by rw [← Hsz.out] at h; omega)
        have cM := rtrim_any (s.extract f s.size).size (s.extract f s.size) wr (Nat.le_refl _) (by rw [Lib.size_eq, extract_mid, List.length_take]; unfold maxLen; omega)
        rw [extract_mid] at cM
        have Hnx := Lib.hid (hI.next hkl (fun h => (Hll.out h).elim) Hz.out q sl (fun h => (Hll.out h).elim) Hq.out)
        generalize trimL ((s.data.toList.drop f).take (s.size - f)) = p at cM Hnx
        by_cases hp : p = []
        · have hpe : (strB p).toList.isEmpty = true := by rw [Lib.toList_data, strB_data, hp]; rfl
          have Hp := Lib.hid hp
          clear hp
          go_wp2_with (go_at_call 37; refine cM.mono ?_; rintro e w' ⟨rfl, rfl⟩)
          go_roundw
          case rel => exact ⟨s.size + 1, s.size + 1, q, sl, acc ++ [], by omega, by omega, by go_num, by go_num, rfl, rfl, Hnx.out [] (by rw [if_pos Hp.out]), by rw [List.append_nil]; exact hown, hb⟩
          case measure => simp [intOf] <;> omega
        · have hpe : (strB p).toList.isEmpty = false := by rw [Lib.toList_data, strB_data, List.isEmpty_eq_false_iff]; exact hp
          have Hp := Lib.hid hp
          clear hp
          go_wp2_with (first | (go_at_call 37; refine cM.mono ?_; rintro e w' ⟨rfl, rfl⟩) | (at_builtin; refine wpList_append_own _ rfl _ _ 49 rfl w.heap.size 9 i0 (.string ⟨#[]⟩) 1 16 Tryd.underlying49 hi hz0 hz1 hz2 rfl (by decide) _ _ _ rfl (hown.alloc _) ⟨_, 0, none⟩ 1 1 [.string (strB p)] rfl rfl (cell_one_new _ _ _) (by intro u hu; simp at hu; subst hu; rfl) (by unfold maxLen; omega) (by omega) (by have := hb.size; simp; omega) ?_; intro v' w1 hown' hgrow _))
          go_roundw
          case rel =>
            refine ⟨s.size + 1, s.size + 1, q, sl, acc ++ [p], by omega, by omega, by go_num, by go_num, rfl, rfl, Hnx.out [p] (by rw [if_neg Hp.out]), ?_, (hb.alloc hb.size _).grown hgrow (by have := hb.size; simp; omega) (fun k e => (World.ownsRow.lt hown k e).1)⟩
            rw [List.length_append, List.map_append]
            exact hown'
          case measure => simp [intOf] <;> omega
      · obtain rfl : k = s.size + 1 := by omega
        have Hfin : Hid (splitL s.data.toList = acc) := Lib.hid (by
          rw [hI.split, hI.last (by rw [← Hsz.out]), List.drop_of_length_le (by omega), splitL_nil, List.append_nil])
        go_wp2
        go_ret
        refine ⟨_, rfl, ?_, hb⟩
        rw [Hfin.out]
        exact hown

end Go.Proofs.YtjnagifolheloaaDoor
