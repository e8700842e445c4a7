/- The walk of the law ChunkTells. -/
import Derived.Test.YtfhpgobdnhlpcaaGreatDoorAwk7
import Derived.Test.YtfhpgobdnhlpcaaGreatDoorRlC
import Derived.Test.YtfhpgobdnhlpcaaGreatDoorRlE
namespace Go.Proofs.YtfhpgobdnhlpcaaGreatDoor
open Go.RowKit Go.Shelf Go.Lib

theorem decV_form (o : Except Int (List UInt8 × Nat)) : ∃ (T : ByteArray) (n e : Int), decV o = .tuple #[.string T, .int .i64 n, .int .i64 e] := by
  cases o with
  | error e => exact ⟨_, _, _, rfl⟩
  | ok q => exact ⟨_, _, _, rfl⟩
theorem encV_form (l : List UInt8) (z : Int) : ∃ (T : ByteArray) (e : Int), encV l z = .tuple #[.string T, .int .i64 e] := by
  unfold encV
  split
  · exact ⟨_, _, rfl⟩
  · split
    · exact ⟨_, _, rfl⟩
    · exact ⟨_, _, rfl⟩

set_option maxRecDepth 100000 in
set_option maxHeartbeats 8000000 in
theorem ctells_walk (b s : ByteArray) (z : Int) (w : World) (hz : z ≤ 9223372036854775807) (hT : Tabs w) (hE : Errs w) (hD : Deb w) :
    Calls Tryz.prog 3 #[.string b, .string s, .int .i64 z] w fun e w' => e = .returned (.bool true) ∧ Below w.heap.size w w' := by
  have cA := awake7_any w hT hE hD
  have HT := Lib.hid hT
  have HE := Lib.hid hE
  have HD := Lib.hid hD
  clear hT hE hD
  by_cases h1 : 1000 < b.size
  · have d1 : (1000 : Int) < (b.size : Int) := by omega
    clear h1
    go_enter Tryz.func3, Tryz.ntmps3
    go_wp2_with fail
    refine cA.mono ?_
    rintro e w1 ⟨rfl, hb1⟩
    go_wp2_with fail
    go_ret
    exact ⟨rfl, hb1⟩
  · have d1 : ¬ (1000 : Int) < (b.size : Int) := by omega
    by_cases h2 : 3000 < s.size
    · have d2 : (3000 : Int) < (s.size : Int) := by omega
      clear h1 h2
      go_enter Tryz.func3, Tryz.ntmps3
      go_wp2_with fail
      refine cA.mono ?_
      rintro e w1 ⟨rfl, hb1⟩
      go_wp2_with fail
      go_ret
      exact ⟨rfl, hb1⟩
    · have d2 : ¬ (3000 : Int) < (s.size : Int) := by omega
      have c1 := fun W h => encode_any b z W hz h
      have c2 := fun W => rencode_any b z W hz
      have c3 := fun W h1 h2 => decode_any s W (by omega) h1 h2
      have c4 := fun W => rdecode_any s W (by omega)
      obtain ⟨T1, e1, hV1⟩ := encV_form b.data.toList z
      obtain ⟨T2, n2, e2, hV2⟩ := decV_form (decL s.data.toList)
      rw [hV1] at c1 c2
      rw [hV2] at c3 c4
      clear h1 h2 hV1 hV2
      go_enter Tryz.func3, Tryz.ntmps3
      go_wp2_with fail
      refine cA.mono ?_
      rintro e w1 ⟨rfl, hb1⟩
      have HB1 := Lib.hid hb1
      clear hb1 cA
      go_wp2_with fail
      refine (c1 _ (HD.out.below HB1.out)).mono ?_
      rintro e w2 ⟨rfl, hb2⟩
      have HB2 := Lib.hid (HB1.out.trans (hb2.mono HB1.out.size))
      clear hb2 c1 HB1
      go_wp2_with fail
      refine (c2 _).mono ?_
      rintro e w3 ⟨rfl, hb3⟩
      have HB3 := Lib.hid (HB2.out.trans (hb3.mono HB2.out.size))
      clear hb3 c2 HB2
      go_wp2_with fail
      refine (c3 _ (Utf8Tabs_below HT.out HB3.out) (HE.out.below HB3.out)).mono ?_
      rintro e w4 ⟨rfl, hb4⟩
      have HB4 := Lib.hid (HB3.out.trans (hb4.mono HB3.out.size))
      clear hb4 c3 HB3
      go_wp2_with fail
      refine (c4 _).mono ?_
      rintro e w5 ⟨rfl, hb5⟩
      have HB5 := Lib.hid (HB4.out.trans (hb5.mono HB4.out.size))
      clear hb5 c4 HB4
      go_wp2_with fail
      go_ret
      exact ⟨rfl, HB5.out⟩

end Go.Proofs.YtfhpgobdnhlpcaaGreatDoor
