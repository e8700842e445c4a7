/- The walk of the law ChunkJoin. -/
import Derived.Test.YtfhpgobdnhlpcaaDoorAwk7
import Derived.Test.YtfhpgobdnhlpcaaDoorChQ
namespace Go.Proofs.YtfhpgobdnhlpcaaDoor
open Go.RowKit Go.Shelf Go.Lib

set_option maxRecDepth 100000 in
set_option maxHeartbeats 8000000 in
theorem cjoin_walk (a b : ByteArray) (x y : Int) (w : World) (hx : x ≤ 9223372036854775807) (hy : y ≤ 9223372036854775807) (hT : Tabs w) (hE : Errs w) (hD : Deb w) :
    Calls Tryd.prog 7 #[.string a, .string b, .agg #[.int .i64 x, .int .i64 y]] w fun e w' => e = .returned (.bool true) ∧ Below w.heap.size w w' := by
  have ha := (Below.refl w.heap.size w).alloc (Nat.le_refl _) (.cells #[.int .i64 x, .int .i64 y] 44)
  have cA := awake7_any _ (Utf8Tabs_below hT ha) (hE.below ha) (hD.below ha)
  have hz0 : w.heap.size < (w.alloc (.cells #[.int .i64 x, .int .i64 y] 44)).heap.size := by simp
  have x0 : (w.alloc (.cells #[.int .i64 x, .int .i64 y] 44)).cell? ⟨w.heap.size, 0, none⟩ = some (.int .i64 x) := by simp
  have x1 : (w.alloc (.cells #[.int .i64 x, .int .i64 y] 44)).cell? ⟨w.heap.size, 1, none⟩ = some (.int .i64 y) := by simp
  have HA := Lib.hid ha
  have HX0 := Lib.hid x0
  have HX1 := Lib.hid x1
  have HZ0 := Lib.hid hz0
  have HT := Lib.hid hT
  have HE := Lib.hid hE
  have HD := Lib.hid hD
  clear ha x0 x1 hz0 hT hE hD
  by_cases h1 : 500 < a.size
  · have d1 : (500 : Int) < (a.size : Int) := by omega
    clear h1
    go_enter Tryd.func7, Tryd.ntmps7
    go_wp2_with fail
    refine cA.mono ?_
    rintro e w1 ⟨rfl, hb1⟩
    have HB1 := Lib.hid (HA.out.trans (hb1.mono HA.out.size))
    have y0 : w1.cell? ⟨w.heap.size, 0, none⟩ = some (.int .i64 x) := (hb1.cell (p := ⟨w.heap.size, 0, none⟩) HZ0.out).trans HX0.out
    have y1 : w1.cell? ⟨w.heap.size, 1, none⟩ = some (.int .i64 y) := (hb1.cell (p := ⟨w.heap.size, 1, none⟩) HZ0.out).trans HX1.out
    clear hb1 cA
    go_wp2_with fail
    go_ret
    exact ⟨rfl, HB1.out⟩
  · have d1 : ¬ (500 : Int) < (a.size : Int) := by omega
    by_cases h2 : 500 < b.size
    · have d2 : (500 : Int) < (b.size : Int) := by omega
      clear h1 h2
      go_enter Tryd.func7, Tryd.ntmps7
      go_wp2_with fail
      refine cA.mono ?_
      rintro e w1 ⟨rfl, hb1⟩
      have HB1 := Lib.hid (HA.out.trans (hb1.mono HA.out.size))
      have y0 : w1.cell? ⟨w.heap.size, 0, none⟩ = some (.int .i64 x) := (hb1.cell (p := ⟨w.heap.size, 0, none⟩) HZ0.out).trans HX0.out
      have y1 : w1.cell? ⟨w.heap.size, 1, none⟩ = some (.int .i64 y) := (hb1.cell (p := ⟨w.heap.size, 1, none⟩) HZ0.out).trans HX1.out
      clear hb1 cA
      go_wp2_with fail
      go_ret
      exact ⟨rfl, HB1.out⟩
    · have d2 : ¬ (500 : Int) < (b.size : Int) := by omega
      by_cases h3 : x < 1
      · have d3 := h3
        clear h1 h2
        go_enter Tryd.func7, Tryd.ntmps7
        go_wp2_with fail
        refine cA.mono ?_
        rintro e w1 ⟨rfl, hb1⟩
        have HB1 := Lib.hid (HA.out.trans (hb1.mono HA.out.size))
        have y0 : w1.cell? ⟨w.heap.size, 0, none⟩ = some (.int .i64 x) := (hb1.cell (p := ⟨w.heap.size, 0, none⟩) HZ0.out).trans HX0.out
        have y1 : w1.cell? ⟨w.heap.size, 1, none⟩ = some (.int .i64 y) := (hb1.cell (p := ⟨w.heap.size, 1, none⟩) HZ0.out).trans HX1.out
        clear hb1 cA
        go_wp2_with fail
        go_ret
        exact ⟨rfl, HB1.out⟩
      · by_cases h4 : y < 1
        · have d4 := h4
          clear h1 h2
          go_enter Tryd.func7, Tryd.ntmps7
          go_wp2_with fail
          refine cA.mono ?_
          rintro e w1 ⟨rfl, hb1⟩
          have HB1 := Lib.hid (HA.out.trans (hb1.mono HA.out.size))
          have y0 : w1.cell? ⟨w.heap.size, 0, none⟩ = some (.int .i64 x) := (hb1.cell (p := ⟨w.heap.size, 0, none⟩) HZ0.out).trans HX0.out
          have y1 : w1.cell? ⟨w.heap.size, 1, none⟩ = some (.int .i64 y) := (hb1.cell (p := ⟨w.heap.size, 1, none⟩) HZ0.out).trans HX1.out
          clear hb1 cA
          go_wp2_with fail
          go_ret
          exact ⟨rfl, HB1.out⟩
        · obtain ⟨n, rfl⟩ : ∃ n : Nat, x = (n : Int) := ⟨x.toNat, by omega⟩
          obtain ⟨m, rfl⟩ : ∃ m : Nat, y = (m : Int) := ⟨y.toNat, by omega⟩
          have hn : 0 < n := by omega
          have hm : 0 < m := by omega
          have cE := fun W h => encode_any a n W hx h
          have cF := fun W h => encode_any b m W hy h
          have hal : a.data.toList.length = a.size := (Lib.size_eq a).symm
          have hbl : b.data.toList.length = b.size := (Lib.size_eq b).symm
          have hV : encV a.data.toList (n : Int) = .tuple #[.string (strB (encC n a.data.toList)), .int .i64 0] := by rw [encV, if_neg h3, hal, if_neg (by omega), Int.toNat_natCast]
          have hW : encV b.data.toList (m : Int) = .tuple #[.string (strB (encC m b.data.toList)), .int .i64 0] := by rw [encV, if_neg h4, hbl, if_neg (by omega), Int.toNat_natCast]
          rw [hV] at cE
          rw [hW] at cF
          have hlA := chunksL_len a.data.toList.length n a.data.toList (by omega)
          have hlB := chunksL_len b.data.toList.length m b.data.toList (by omega)
          have heA := encC_len n a.data.toList
          have heB := encC_len m b.data.toList
          have hSl := strB_size (encC n a.data.toList)
          have hTl := strB_size (encC m b.data.toList)
          obtain ⟨q, hq⟩ : ∃ q, (chunksL a.data.toList.length n a.data.toList).length = q := ⟨_, rfl⟩
          rw [hq] at heA
          rw [heA] at hSl
          have hcut : ((strB (encC n a.data.toList)).extract 0 q).data.toList = chunksL a.data.toList.length n a.data.toList := by
            rw [extract_take, strB_data, encC, List.take_append_of_le_length (by omega), ← hq, List.take_length]
          have hdec := decL_join n m a.data.toList b.data.toList [] hn hm (by omega)
          rw [List.append_nil] at hdec
          have hxs : ((strB (encC n a.data.toList)).extract 0 q).size = q := by rw [Lib.size_eq, hcut, hq]
          have cD := fun W h1 h2 => decode_any ((strB (encC n a.data.toList)).extract 0 q ++ strB (encC m b.data.toList)) W (by rw [ByteArray.size_append, hxs]; omega) h1 h2
          rw [append_data, hcut, strB_data, hdec, hq] at cD
          have hDV : decV (.ok (a.data.toList ++ b.data.toList, q + (encC m b.data.toList).length)) = .tuple #[.string (a ++ b), .int .i64 ((q : Int) + ((strB (encC m b.data.toList)).size : Int)), .int .i64 0] := by
            rw [decV, hTl, show strB (a.data.toList ++ b.data.toList) = a ++ b by rw [← append_data, strB_of], show ((q + (encC m b.data.toList).length : Nat) : Int) = (q : Int) + ((encC m b.data.toList).length : Int) by omega]
          rw [hDV] at cD
          have hTz : (strB (encC m b.data.toList)).size ≤ 6000 := by omega
          have hs1 : ¬ 9223372036854775807 < ((strB (encC n a.data.toList)).extract 0 q).size + (strB (encC m b.data.toList)).size := by omega
          have hs2 : ¬ 9223372036854775807 < q + (strB (encC m b.data.toList)).size := by omega
          have hs3 : ¬ 9223372036854775807 < a.size + b.size := by omega
          have hq6 : q ≤ 6000 := by omega
          clear hdec hDV hV hW hTl hlA hlB heA heB hal hbl hq hcut hxs h1 h2
          generalize strB (encC n a.data.toList) = S at *
          generalize strB (encC m b.data.toList) = T at *
          go_enter Tryd.func7, Tryd.ntmps7
          go_wp2_with fail
          refine cA.mono ?_
          rintro e w1 ⟨rfl, hb1⟩
          have HB1 := Lib.hid (HA.out.trans (hb1.mono HA.out.size))
          have y0 : w1.cell? ⟨w.heap.size, 0, none⟩ = some (.int .i64 n) := (hb1.cell (p := ⟨w.heap.size, 0, none⟩) HZ0.out).trans HX0.out
          have y1 : w1.cell? ⟨w.heap.size, 1, none⟩ = some (.int .i64 m) := (hb1.cell (p := ⟨w.heap.size, 1, none⟩) HZ0.out).trans HX1.out
          have HS1 : Hid (w.heap.size < w1.heap.size) := Lib.hid (Nat.lt_of_lt_of_le HZ0.out hb1.size)
          have HY1 := Lib.hid y1
          clear hb1 cA
          go_wp2_with fail
          refine (cE _ (HD.out.below HB1.out)).mono ?_
          rintro e w2 ⟨rfl, hb2⟩
          have HB2 := Lib.hid (HB1.out.trans (hb2.mono HB1.out.size))
          have z1 : w2.cell? ⟨w.heap.size, 1, none⟩ = some (.int .i64 m) := (hb2.cell (p := ⟨w.heap.size, 1, none⟩) HS1.out).trans HY1.out
          clear hb2 cE y0 y1
          go_wp2_with fail
          refine (cF _ (HD.out.below HB2.out)).mono ?_
          rintro e w3 ⟨rfl, hb3⟩
          have HB3 := Lib.hid (HB2.out.trans (hb3.mono HB2.out.size))
          clear hb3 cF z1
          go_wp2_with fail
          refine (cD _ (Utf8Tabs_below HT.out HB3.out) (HE.out.below HB3.out)).mono ?_
          rintro e w4 ⟨rfl, hb4⟩
          have HB4 := Lib.hid (HB3.out.trans (hb4.mono HB3.out.size))
          clear hb4 cD
          go_wp2_with fail
          go_ret
          exact ⟨rfl, HB4.out⟩

end Go.Proofs.YtfhpgobdnhlpcaaDoor
