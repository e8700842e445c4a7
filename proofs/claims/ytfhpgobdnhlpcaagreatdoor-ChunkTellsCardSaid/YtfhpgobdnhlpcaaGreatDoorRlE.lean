/- The document's own Encode in chunks (sculleryref07). -/
import Derived.Test.YtfhpgobdnhlpcaaGreatDoorRlA
import Derived.Test.YtfhpgobdnhlpcaaGreatDoorChF
namespace Go.Proofs.YtfhpgobdnhlpcaaGreatDoor
open Go.RowKit Go.Shelf Go.Lib

set_option maxRecDepth 100000 in
set_option maxHeartbeats 8000000 in
theorem rencode_any (s : ByteArray) (z : Int) (w : World) (hz : z ≤ 9223372036854775807) :
    Calls Tryz.prog 6 #[.string s, .int .i64 z] w fun e w' => e = .returned (encV s.data.toList z) ∧ Below w.heap.size w w' := by
  have hsz := Lib.size_eq s
  by_cases h1 : z < 1
  · have HV : Hid (encV s.data.toList z = .tuple #[.string ⟨#[]⟩, .int .i64 1]) := Lib.hid (by rw [encV, if_pos h1])
    clear hsz
    go_enter Tryz.func6, Tryz.ntmps6
    go_wp2_with fail
    exact bodyPost_ret (v := .tuple #[.string ⟨#[]⟩, .int .i64 1]) (by simp [results, Tryz.results6, go_sem]) rfl ⟨by rw [HV.out], Below.refl _ _⟩
  · by_cases h2 : 100000 < s.size
    · have HV : Hid (encV s.data.toList z = .tuple #[.string ⟨#[]⟩, .int .i64 4]) := Lib.hid (by rw [encV, if_neg h1, ← hsz, if_pos h2])
      have d : (100000 : Int) < (s.size : Int) := by omega
      clear hsz h2
      go_enter Tryz.func6, Tryz.ntmps6
      go_wp2_with fail
      exact bodyPost_ret (v := .tuple #[.string ⟨#[]⟩, .int .i64 4]) (by simp [results, Tryz.results6, go_sem]) rfl ⟨by rw [HV.out], Below.refl _ _⟩
    · obtain ⟨n, rfl⟩ : ∃ n : Nat, z = (n : Int) := ⟨z.toNat, by omega⟩
      have hn : 0 < n := by omega
      have HV : Hid (encV s.data.toList (n : Int) = .tuple #[.string (strB (chunksL s.size n s.data.toList ++ endC)), .int .i64 0]) := Lib.hid (by rw [encV, if_neg h1, ← hsz, if_neg h2, Int.toNat_natCast, encC, hsz])
      have d : ¬ (100000 : Int) < (s.size : Int) := by omega
      have hs : s.size ≤ 100000 := by omega
      have HSt : Hid (chunksL s.size n s.data.toList = (⟨#[]⟩ : ByteArray).data.toList ++ chunksL s.size n s.data.toList) := Lib.hid (List.nil_append _).symm
      clear hsz h1 h2
      go_enter Tryz.func6, Tryz.ntmps6
      go_wp2_with fail
      go_loopw [0, 6] (fun v t wr => ∃ (b A : ByteArray), v = .string b ∧ t = .string A ∧ b.size ≤ s.size ∧ A.size + 10 * b.size ≤ 10 * s.size ∧ Hid (chunksL s.size n s.data.toList = A.data.toList ++ chunksL s.size n b.data.toList) ∧ Below w.heap.size w wr) (fun v _ _ => lenV v)
      case atStart => exact ⟨s, ⟨#[]⟩, rfl, rfl, Nat.le_refl _, (by show 0 + 10 * s.size ≤ 10 * s.size; omega), HSt, Below.refl _ _⟩
      case round =>
        obtain ⟨b, A, rfl, rfl, hbs, hal, H, hb⟩ := hrel
        clear HSt
        have HB := Lib.hid hb
        have hws := hb.size
        clear hb
        by_cases hb0 : b.size = 0
        · have hbl : b.data.toList = [] := List.eq_nil_of_length_eq_zero (by rw [← Lib.size_eq, hb0])
          have e1 : b.toList.isEmpty = true := by rw [Lib.toList_data, hbl]; rfl
          have HT2 : Hid (encV s.data.toList (n : Int) = .tuple #[.string (A ++ ⟨#[48, 13, 10, 13, 10]⟩), .int .i64 0]) := Lib.hid (by
            rw [HV.out, H.out, hbl]
            have : ∀ f, chunksL f n [] = [] := fun f => by cases f <;> rfl
            rw [this, List.append_nil, ← strB_append, strB_of]
            rfl)
          have s1 : ¬ 9223372036854775807 < A.size + 5 := by omega
          clear hbl H
          go_wp2_with fail
          exact bodyPost_ret (v := .tuple #[.string (A ++ ⟨#[48, 13, 10, 13, 10]⟩), .int .i64 0]) (by simp [results, Tryz.results6, go_sem]) rfl ⟨by rw [HT2.out], HB.out⟩
        · have e1 : b.toList.isEmpty = false := by
            rw [Lib.toList_data]
            cases h : b.data.toList with
            | nil => rw [Lib.size_eq, h] at hb0; exact absurd rfl hb0
            | cons c r => rfl
          have hbne : b.data.toList ≠ [] := fun h => hb0 (by rw [Lib.size_eq, h]; rfl)
          obtain ⟨m, hm⟩ : ∃ m, min n b.size = m := ⟨_, rfl⟩
          have hm0 : 0 < m := by omega
          have hmb : m ≤ b.size := by omega
          have hmI : min (n : Int) (b.size : Int) = (m : Int) := by omega
          have hstep := chunksL_step s.size n b.data.toList hn hbne (by rw [← Lib.size_eq]; exact hbs)
          rw [← Lib.size_eq, hm] at hstep
          have htl : (b.data.toList.take m).length = m := by rw [List.length_take, ← Lib.size_eq]; omega
          have hX : A ++ strB (hexL m) ++ (⟨#[13, 10]⟩ : ByteArray) ++ b.extract 0 m ++ (⟨#[13, 10]⟩ : ByteArray) = A ++ strB (oneC (b.data.toList.take m)) := by
            rw [show b.extract 0 m = strB (b.data.toList.take m) by rw [← extract_take, strB_of], show (⟨#[13, 10]⟩ : ByteArray) = strB [13, 10] from rfl, ← strB_of A, strB_append, strB_append, strB_append, strB_append, strB_append, oneC, htl]
            simp
          have Hnext : Hid (chunksL s.size n s.data.toList = (A ++ strB (oneC (b.data.toList.take m))).data.toList ++ chunksL s.size n (b.extract m b.size).data.toList) := Lib.hid (by
            rw [H.out, hstep, Lib.extract_to_end, append_data, strB_data, List.append_assoc])
          have hol := oneC_len (b.data.toList.take m) (by omega)
          rw [htl] at hol
          have hxz : (b.extract 0 m).size = m := by rw [Lib.size_eq, extract_take, htl]
          have hyz : (b.extract m b.size).size = b.size - m := by rw [Lib.size_eq, Lib.extract_to_end, List.length_drop, ← Lib.size_eq]
          have HX := Lib.hid hX
          have hlz : (strB (hexL m)).size ≤ 5 := by rw [strB_size]; exact hexL_len 5 m (by omega) (by omega)
          have hA2 : (A ++ strB (oneC (b.data.toList.take m))).size + 10 * (b.size - m) ≤ 10 * s.size := by rw [ByteArray.size_append, strB_size]; omega
          have cH := fun W => rhex_any m W (by omega)
          have hbI : (m : Int) ≤ (b.size : Int) := by omega
          have s1 : ¬ 9223372036854775807 < A.size + (strB (hexL m)).size := by omega
          have s2 : ¬ 9223372036854775807 < A.size + (strB (hexL m)).size + 2 := by omega
          have s3 : ¬ 9223372036854775807 < A.size + (strB (hexL m)).size + 2 + m := by omega
          have s4 : ¬ 9223372036854775807 < A.size + (strB (hexL m)).size + 2 + m + 2 := by omega
          have s5 : ¬ 9223372036854775807 < A.size + (strB (hexL m)).size + 2 + (b.extract 0 m).size := by omega
          have Hsz := Lib.hid hyz
          generalize A ++ strB (oneC (b.data.toList.take m)) = A2 at *
          generalize strB (hexL m) = LN at *
          clear hX hol htl hxz hyz hstep hm H hbne hb0 hlz
          go_upto_region 8 with fail
          first
          | (go_region_law ((go_simp; go_at_call 12; refine (cH _).mono ?_; rintro e w2 ⟨rfl, rfl⟩)))
          | fail "law"
          all_goals
            rw [HX.out]
            go_wp2_with fail
            go_roundw
            case rel => exact ⟨b.extract m b.size, A2, rfl, rfl, by rw [Hsz.out]; omega, by rw [Hsz.out]; exact hA2, Lib.hid Hnext.out, HB.out.trans ((Below.refl _ _).drew.mono hws)⟩
            case measure => simp [lenV, Hsz.out]; omega

end Go.Proofs.YtfhpgobdnhlpcaaGreatDoor
