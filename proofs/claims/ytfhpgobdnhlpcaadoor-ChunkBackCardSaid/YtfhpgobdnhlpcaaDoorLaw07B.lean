/- The walk of the law ChunkBack. -/
import Derived.Test.YtfhpgobdnhlpcaaDoorAwk7
import Derived.Test.YtfhpgobdnhlpcaaDoorChQ
namespace Go.Proofs.YtfhpgobdnhlpcaaDoor
open Go.RowKit Go.Shelf Go.Lib

set_option maxRecDepth 100000 in
set_option maxHeartbeats 8000000 in
theorem cback_walk (b more : ByteArray) (x y : Int) (w : World) (hx : x ≤ 9223372036854775807) (hT : Tabs w) (hE : Errs w) (hD : Deb w) :
    Calls Tryd.prog 6 #[.string b, .string more, .agg #[.int .i64 x, .int .i64 y]] w fun e w' => e = .returned (.bool true) ∧ Below w.heap.size w w' := by
  have ha := (Below.refl w.heap.size w).alloc (Nat.le_refl _) (.cells #[.int .i64 x, .int .i64 y] 44)
  have cA := awake7_any _ (Utf8Tabs_below hT ha) (hE.below ha) (hD.below ha)
  have hz0 : w.heap.size < (w.alloc (.cells #[.int .i64 x, .int .i64 y] 44)).heap.size := by simp
  have x0 : (w.alloc (.cells #[.int .i64 x, .int .i64 y] 44)).cell? ⟨w.heap.size, 0, none⟩ = some (.int .i64 x) := by simp
  have x1 : (w.alloc (.cells #[.int .i64 x, .int .i64 y] 44)).cell? ⟨w.heap.size, 1, none⟩ = some (.int .i64 y) := by simp
  have HA := Lib.hid ha
  have HX0 := Lib.hid x0
  have HX1 := Lib.hid x1
  have HZ0 := Lib.hid hz0
  have HT := Lib.hid hT
  have HE := Lib.hid hE
  have HD := Lib.hid hD
  clear ha x0 x1 hz0 hT hE hD
  by_cases h1 : 1000 < b.size
  · have d1 : (1000 : Int) < (b.size : Int) := by omega
    clear h1
    go_enter Tryd.func6, Tryd.ntmps6
    go_wp2_with fail
    refine cA.mono ?_
    rintro e w1 ⟨rfl, hb1⟩
    have HB1 := Lib.hid (HA.out.trans (hb1.mono HA.out.size))
    clear hb1 cA
    go_wp2_with fail
    go_ret
    exact ⟨rfl, HB1.out⟩
  · have d1 : ¬ (1000 : Int) < (b.size : Int) := by omega
    by_cases h2 : 100 < more.size
    · have d2 : (100 : Int) < (more.size : Int) := by omega
      clear h1 h2
      go_enter Tryd.func6, Tryd.ntmps6
      go_wp2_with fail
      refine cA.mono ?_
      rintro e w1 ⟨rfl, hb1⟩
      have HB1 := Lib.hid (HA.out.trans (hb1.mono HA.out.size))
      clear hb1 cA
      go_wp2_with fail
      go_ret
      exact ⟨rfl, HB1.out⟩
    · have d2 : ¬ (100 : Int) < (more.size : Int) := by omega
      have cE := fun W h => encode_any b x W hx h
      by_cases h3 : x < 1
      · have hV : encV b.data.toList x = .tuple #[.string ⟨#[]⟩, .int .i64 1] := by rw [encV, if_pos h3]
        rw [hV] at cE
        clear h1 h2 hV
        go_enter Tryd.func6, Tryd.ntmps6
        go_wp2_with fail
        refine cA.mono ?_
        rintro e w1 ⟨rfl, hb1⟩
        have HB1 := Lib.hid (HA.out.trans (hb1.mono HA.out.size))
        have y0 : w1.cell? ⟨w.heap.size, 0, none⟩ = some (.int .i64 x) := (hb1.cell (p := ⟨w.heap.size, 0, none⟩) HZ0.out).trans HX0.out
        have HS1 : Hid (w.heap.size < w1.heap.size) := Lib.hid (Nat.lt_of_lt_of_le HZ0.out hb1.size)
        clear hb1 cA
        go_wp2_with fail
        refine (cE _ (HD.out.below HB1.out)).mono ?_
        rintro e w2 ⟨rfl, hb2⟩
        have HB2 := Lib.hid (HB1.out.trans (hb2.mono HB1.out.size))
        have z0 : w2.cell? ⟨w.heap.size, 0, none⟩ = some (.int .i64 x) := (hb2.cell (p := ⟨w.heap.size, 0, none⟩) HS1.out).trans y0
        clear hb2 cE y0
        go_wp2_with fail
        go_ret
        exact ⟨rfl, HB2.out⟩
      · obtain ⟨n, rfl⟩ : ∃ n : Nat, x = (n : Int) := ⟨x.toNat, by omega⟩
        have hn : 0 < n := by omega
        have hbl : b.data.toList.length = b.size := (Lib.size_eq b).symm
        have hV : encV b.data.toList (n : Int) = .tuple #[.string (strB (encC n b.data.toList)), .int .i64 0] := by rw [encV, if_neg h3, hbl, if_neg (by omega), Int.toNat_natCast]
        rw [hV] at cE
        have hlen : (encC n b.data.toList).length ≤ 10005 := by
          have := chunksL_len b.data.toList.length n b.data.toList (by omega)
          rw [encC_len]
          omega
        have hSl := strB_size (encC n b.data.toList)
        have hdec := decL_enc n b.data.toList more.data.toList hn (by omega)
        have cD := fun W h1 h2 => decode_any (strB (encC n b.data.toList) ++ more) W (by rw [ByteArray.size_append]; omega) h1 h2
        rw [append_data, strB_data, hdec] at cD
        have hDV : decV (.ok (b.data.toList, (encC n b.data.toList).length)) = .tuple #[.string b, .int .i64 ((strB (encC n b.data.toList)).size : Int), .int .i64 0] := by
          rw [decV, strB_of, hSl]
        rw [hDV] at cD
        have hs1 : ¬ 9223372036854775807 < (strB (encC n b.data.toList)).size + more.size := by omega
        have HCut : Hid (∀ j : Nat, j < (strB (encC n b.data.toList)).size → decL ((strB (encC n b.data.toList)).extract 0 j).data.toList = .error 3) := Lib.hid fun j hj => by
          rw [extract_take, strB_data]
          exact decL_cut n b.data.toList j hn (by omega) (by omega)
        have hSz : (strB (encC n b.data.toList)).size ≤ 10005 := by omega
        clear hdec hDV hV hSl hlen hbl
        generalize strB (encC n b.data.toList) = S at *
        by_cases h4 : y < 0
        · clear h1 h2
          go_enter Tryd.func6, Tryd.ntmps6
          go_wp2_with fail
          refine cA.mono ?_
          rintro e w1 ⟨rfl, hb1⟩
          have HB1 := Lib.hid (HA.out.trans (hb1.mono HA.out.size))
          have y0 : w1.cell? ⟨w.heap.size, 0, none⟩ = some (.int .i64 n) := (hb1.cell (p := ⟨w.heap.size, 0, none⟩) HZ0.out).trans HX0.out
          have HY1 : Hid (w1.cell? ⟨w.heap.size, 1, none⟩ = some (.int .i64 y)) := Lib.hid ((hb1.cell (p := ⟨w.heap.size, 1, none⟩) HZ0.out).trans HX1.out)
          have HS1 : Hid (w.heap.size < w1.heap.size) := Lib.hid (Nat.lt_of_lt_of_le HZ0.out hb1.size)
          clear hb1 cA
          go_wp2_with fail
          refine (cE _ (HD.out.below HB1.out)).mono ?_
          rintro e w2 ⟨rfl, hb2⟩
          have HB2 := Lib.hid (HB1.out.trans (hb2.mono HB1.out.size))
          have HZ1 : Hid (w2.cell? ⟨w.heap.size, 1, none⟩ = some (.int .i64 y)) := Lib.hid ((hb2.cell (p := ⟨w.heap.size, 1, none⟩) HS1.out).trans HY1.out)
          have HS2 : Hid (w.heap.size < w2.heap.size) := Lib.hid (Nat.lt_of_lt_of_le HS1.out hb2.size)
          clear hb2 cE y0
          go_wp2_with fail
          refine (cD _ (Utf8Tabs_below HT.out HB2.out) (HE.out.below HB2.out)).mono ?_
          rintro e w3 ⟨rfl, hb3⟩
          have HB3 := Lib.hid (HB2.out.trans (hb3.mono HB2.out.size))
          have z1 : w3.cell? ⟨w.heap.size, 1, none⟩ = some (.int .i64 y) := (hb3.cell (p := ⟨w.heap.size, 1, none⟩) HS2.out).trans HZ1.out
          clear hb3 cD
          go_wp2_with fail
          go_ret
          exact ⟨rfl, HB3.out⟩
        · obtain ⟨j, rfl⟩ : ∃ j : Nat, y = (j : Int) := ⟨y.toNat, by omega⟩
          by_cases h5 : S.size ≤ j
          · have d5 : (S.size : Int) ≤ (j : Int) := by omega
            clear h1 h2 h5
            go_enter Tryd.func6, Tryd.ntmps6
            go_wp2_with fail
            refine cA.mono ?_
            rintro e w1 ⟨rfl, hb1⟩
            have HB1 := Lib.hid (HA.out.trans (hb1.mono HA.out.size))
            have y0 : w1.cell? ⟨w.heap.size, 0, none⟩ = some (.int .i64 n) := (hb1.cell (p := ⟨w.heap.size, 0, none⟩) HZ0.out).trans HX0.out
            have HY1 : Hid (w1.cell? ⟨w.heap.size, 1, none⟩ = some (.int .i64 j)) := Lib.hid ((hb1.cell (p := ⟨w.heap.size, 1, none⟩) HZ0.out).trans HX1.out)
            have HS1 : Hid (w.heap.size < w1.heap.size) := Lib.hid (Nat.lt_of_lt_of_le HZ0.out hb1.size)
            clear hb1 cA
            go_wp2_with fail
            refine (cE _ (HD.out.below HB1.out)).mono ?_
            rintro e w2 ⟨rfl, hb2⟩
            have HB2 := Lib.hid (HB1.out.trans (hb2.mono HB1.out.size))
            have HZ1 : Hid (w2.cell? ⟨w.heap.size, 1, none⟩ = some (.int .i64 j)) := Lib.hid ((hb2.cell (p := ⟨w.heap.size, 1, none⟩) HS1.out).trans HY1.out)
            have HS2 : Hid (w.heap.size < w2.heap.size) := Lib.hid (Nat.lt_of_lt_of_le HS1.out hb2.size)
            clear hb2 cE y0
            go_wp2_with fail
            refine (cD _ (Utf8Tabs_below HT.out HB2.out) (HE.out.below HB2.out)).mono ?_
            rintro e w3 ⟨rfl, hb3⟩
            have HB3 := Lib.hid (HB2.out.trans (hb3.mono HB2.out.size))
            have z1 : w3.cell? ⟨w.heap.size, 1, none⟩ = some (.int .i64 j) := (hb3.cell (p := ⟨w.heap.size, 1, none⟩) HS2.out).trans HZ1.out
            clear hb3 cD
            go_wp2_with fail
            go_ret
            exact ⟨rfl, HB3.out⟩
          · have d5 : ¬ (S.size : Int) ≤ (j : Int) := by omega
            have d6 : (j : Int) ≤ (S.size : Int) := by omega
            have d7 : j ≤ S.size := by omega
            have hcut := HCut.out j (by omega)
            have cF := fun W h1 h2 => decode_any (S.extract 0 j) W (by rw [Lib.size_eq, extract_take, List.length_take, ← Lib.size_eq]; omega) h1 h2
            rw [hcut] at cF
            unfold decV at cF
            clear h1 h2 h5 hcut HCut
            go_enter Tryd.func6, Tryd.ntmps6
            go_wp2_with fail
            refine cA.mono ?_
            rintro e w1 ⟨rfl, hb1⟩
            have HB1 := Lib.hid (HA.out.trans (hb1.mono HA.out.size))
            have y0 : w1.cell? ⟨w.heap.size, 0, none⟩ = some (.int .i64 n) := (hb1.cell (p := ⟨w.heap.size, 0, none⟩) HZ0.out).trans HX0.out
            have HY1 : Hid (w1.cell? ⟨w.heap.size, 1, none⟩ = some (.int .i64 j)) := Lib.hid ((hb1.cell (p := ⟨w.heap.size, 1, none⟩) HZ0.out).trans HX1.out)
            have HS1 : Hid (w.heap.size < w1.heap.size) := Lib.hid (Nat.lt_of_lt_of_le HZ0.out hb1.size)
            clear hb1 cA
            go_wp2_with fail
            refine (cE _ (HD.out.below HB1.out)).mono ?_
            rintro e w2 ⟨rfl, hb2⟩
            have HB2 := Lib.hid (HB1.out.trans (hb2.mono HB1.out.size))
            have HZ1 : Hid (w2.cell? ⟨w.heap.size, 1, none⟩ = some (.int .i64 j)) := Lib.hid ((hb2.cell (p := ⟨w.heap.size, 1, none⟩) HS1.out).trans HY1.out)
            have HS2 : Hid (w.heap.size < w2.heap.size) := Lib.hid (Nat.lt_of_lt_of_le HS1.out hb2.size)
            clear hb2 cE y0
            go_wp2_with fail
            refine (cD _ (Utf8Tabs_below HT.out HB2.out) (HE.out.below HB2.out)).mono ?_
            rintro e w3 ⟨rfl, hb3⟩
            have HB3 := Lib.hid (HB2.out.trans (hb3.mono HB2.out.size))
            have z1 : w3.cell? ⟨w.heap.size, 1, none⟩ = some (.int .i64 j) := (hb3.cell (p := ⟨w.heap.size, 1, none⟩) HS2.out).trans HZ1.out
            clear hb3 cD
            go_wp2_with fail
            refine (cF _ (Utf8Tabs_below HT.out HB3.out) (HE.out.below HB3.out)).mono ?_
            rintro e w4 ⟨rfl, hb4⟩
            have HB4 := Lib.hid (HB3.out.trans (hb4.mono HB3.out.size))
            clear hb4 cF
            go_wp2_with fail
            go_ret
            exact ⟨rfl, HB4.out⟩

end Go.Proofs.YtfhpgobdnhlpcaaDoor
