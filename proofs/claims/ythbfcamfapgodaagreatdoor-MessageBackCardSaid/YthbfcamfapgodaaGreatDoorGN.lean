/- The contract of message.ReadResponse, way by way. -/
import Derived.Test.YthbfcamfapgodaaGreatDoorGI
import Derived.Test.YthbfcamfapgodaaGreatDoorGJ
import Derived.Test.YthbfcamfapgodaaGreatDoorGL
import Derived.RegionTactic
import Derived.ChangeAlike

namespace Go.Proofs.YthbfcamfapgodaaGreatDoor
open Go.RowKit Go.Shelf Go.Lib

set_option maxRecDepth 100000 in
set_option maxHeartbeats 8000000 in
theorem mreadp_e1 (s me : ByteArray) (w : World) (hs : s.size ≤ 90000) (hT : Tabs w) (hE : Errs w) (ln rs : List UInt8) (y x : Int) (hv : lnxV s.data.toList = .tuple #[.string (strB ln), .string (strB rs), .int .i64 y]) (hln : ln.length ≤ 100000) (hf : frP ln = none) (hx : x ≠ 0) (hxe : reqE y false = x) :
    Calls Tryz.prog 10 #[.string s, .string me] w (rpPost (.error x) w) := by
  have HR0 := Lib.hid (Rdr.made w nilP s)
  have HA0 : Hid (Nil3 ((w.alloc nilP).alloc (.cells #[.string s, .int .i64 0] 46)) w.heap.size) := Lib.hid ((Nil3.made w).next ((Below.refl (w.heap.size + 1) (w.alloc nilP)).alloc (by simp) _) (Nat.lt_succ_self _))
  have HB0 : Hid (Below w.heap.size w ((w.alloc nilP).alloc (.cells #[.string s, .int .i64 0] 46))) := Lib.hid (((Below.refl w.heap.size w).alloc (Nat.le_refl _) nilP).alloc (by simp) _)
  have HT := Lib.hid hT
  have HE := Lib.hid hE
  clear hT hE
  have cE := fun (t : ByteArray) (x : Int) (is : Bool) W h => mrequire_any (w.heap.size + 1) t x is W h
  have cL := fun W h => mline_at (w.heap.size + 1) s W ln rs y hs hv h
  have cQ := fun W h => msta_no ln W hln h hf
  have cF := fun t W h => mfields_err (w.heap.size + 1) t x W h hx
  have cN := fun W => mlength_any 0 (.slice none 0 0) [] W (Flds.nothing _ _) ⟨by decide, fun p hp => by cases hp⟩
  rw [lnM_nil, show lnV (-2, true) = .tuple #[.int .i64 (-2), .bool true] from rfl] at cN
  have cA0 := fun n W => mbare_any n me W
  have cB := fun t z W h => mbody_err (w.heap.size + 1) t x z W h hx
  have hk1 := Lib.hid (reqE_keep hx)
  have HX := Lib.hid hxe
  have hne : (x != 0) = true := by rewrite [bne_iff_ne]; exact hx
  clear hs hv hln hf hxe hx
  generalize strB ln = SL at *
  generalize strB rs = SR at *
  go_enter Tryz.func10, Tryz.ntmps10
  go_wp2_with fail
  refine (cL _ HR0.out).mono ?_
  rintro e w1 ⟨rfl, hr1, hm1⟩
  have HR1 := Lib.hid hr1
  have HA1 := Lib.hid (HA0.out.moved hm1 (Nat.ne_of_lt (Nat.lt_succ_self _)))
  have HB1 := Lib.hid (HB0.out.trans (hm1.below (Nat.le_succ _) HB0.out.size))
  clear hr1 hm1
  go_wp2_with fail
  refine (cQ _ (Utf8Tabs_below HT.out HB1.out)).mono ?_
  rintro e w2 ⟨⟨n, rfl⟩, hb2⟩
  have HR2 := Lib.hid (HR1.out.below hb2)
  have HA2 := Lib.hid (HA1.out.next hb2 HA1.out.lt)
  have HB2 := Lib.hid (HB1.out.trans (hb2.mono HB1.out.size))
  clear hb2
  have cA := cA0 n
  clear cA0
  generalize bareB n me = ba at *
  go_wp2_with fail
  refine (cE _ _ _ _ HR2.out).mono ?_
  rintro e w3 ⟨rfl, hr3, hm3⟩
  rw [HX.out] at hr3
  have HR3 := Lib.hid hr3
  have HA3 := Lib.hid (HA2.out.moved hm3 (Nat.ne_of_lt (Nat.lt_succ_self _)))
  have HB3 := Lib.hid (HB2.out.trans (hm3.below (Nat.le_succ _) HB2.out.size))
  clear hr3 hm3
  go_wp2_with fail
  refine (cF _ _ HR3.out).mono ?_
  rintro e _ ⟨rfl, rfl⟩
  go_wp2_with fail
  refine (cN _).mono ?_
  rintro e w4 ⟨rfl, hb4⟩
  have HR4 := Lib.hid (HR3.out.below hb4)
  have HA4 := Lib.hid (HA3.out.next hb4 HA3.out.lt)
  have HB4 := Lib.hid (HB3.out.trans (hb4.mono HB3.out.size))
  clear hb4
  go_wp2_with fail
  refine (cE _ _ _ _ HR4.out).mono ?_
  rintro e w5 ⟨rfl, hr5, hm5⟩
  rw [hk1.out] at hr5
  have HR5 := Lib.hid hr5
  have HA5 := Lib.hid (HA4.out.moved hm5 (Nat.ne_of_lt (Nat.lt_succ_self _)))
  have HB5 := Lib.hid (HB4.out.trans (hm5.below (Nat.le_succ _) HB4.out.size))
  clear hr5 hm5
  go_wp2_with fail
  refine (cA _).mono ?_
  rintro e w6 ⟨rfl, hb6⟩
  have HR6 := Lib.hid (HR5.out.below hb6)
  have HA6 := Lib.hid (HA5.out.next hb6 HA5.out.lt)
  have HB6 := Lib.hid (HB5.out.trans (hb6.mono HB5.out.size))
  clear hb6
  cases ba
  rotate_left
  · skip
    obtain ⟨y0, y1, _, _⟩ := HR6.out
    go_wp2_with fail
    refine (cB _ _ _ HR6.out).mono ?_
    rintro e _ ⟨rfl, rfl⟩
    go_wp2_with fail
    clear y0 y1
    refine (cE _ _ _ _ HR6.out).mono ?_
    rintro e w7 ⟨rfl, hr7, hm7⟩
    rw [hk1.out] at hr7
    have HR7 := Lib.hid hr7
    have HA7 := Lib.hid (HA6.out.moved hm7 (Nat.ne_of_lt (Nat.lt_succ_self _)))
    have HB7 := Lib.hid (HB6.out.trans (hm7.below (Nat.le_succ _) HB6.out.size))
    clear hr7 hm7
    have hla := HA7.out.lt
    obtain ⟨a0, a1, a2, e0, e1, e2⟩ := HA7.out
    obtain ⟨x0, x1, _, _⟩ := HR7.out
    go_wp2_with fail
    go_region
    all_goals
      go_wp2_with fail
      refine bodyPost_ret (v := .tuple #[.agg #[.int .i64 0, .slice none 0 0, .slice none 0 0], .int .i64 x]) (by simp [results, Tryz.results10, go_sem, a0, a1, a2]) rfl ?_
      refine ⟨?_, rfl⟩
      repeat (first | with_reducible refine Below.alloc ?_ (by simp; omega) _ | with_reducible refine Below.setCell ?_ (by simp) _ | with_reducible refine Below.drew ?_)
      exact HB7.out
  · skip
    obtain ⟨y0, y1, _, _⟩ := HR6.out
    go_wp2_with fail
    refine (cB _ _ _ HR6.out).mono ?_
    rintro e _ ⟨rfl, rfl⟩
    go_wp2_with fail
    clear y0 y1
    refine (cE _ _ _ _ HR6.out).mono ?_
    rintro e w7 ⟨rfl, hr7, hm7⟩
    rw [hk1.out] at hr7
    have HR7 := Lib.hid hr7
    have HA7 := Lib.hid (HA6.out.moved hm7 (Nat.ne_of_lt (Nat.lt_succ_self _)))
    have HB7 := Lib.hid (HB6.out.trans (hm7.below (Nat.le_succ _) HB6.out.size))
    clear hr7 hm7
    have hla := HA7.out.lt
    obtain ⟨a0, a1, a2, e0, e1, e2⟩ := HA7.out
    obtain ⟨x0, x1, _, _⟩ := HR7.out
    go_wp2_with fail
    go_region
    all_goals
      go_wp2_with fail
      refine bodyPost_ret (v := .tuple #[.agg #[.int .i64 0, .slice none 0 0, .slice none 0 0], .int .i64 x]) (by simp [results, Tryz.results10, go_sem, a0, a1, a2]) rfl ?_
      refine ⟨?_, rfl⟩
      repeat (first | with_reducible refine Below.alloc ?_ (by simp; omega) _ | with_reducible refine Below.setCell ?_ (by simp) _ | with_reducible refine Below.drew ?_)
      exact HB7.out

set_option maxRecDepth 100000 in
set_option maxHeartbeats 8000000 in
theorem mreadp_e2 (s me : ByteArray) (w : World) (hs : s.size ≤ 90000) (hT : Tabs w) (hE : Errs w) (ln r1 : List UInt8) (n x : Int) (hv : lnxV s.data.toList = .tuple #[.string (strB ln), .string (strB r1), .int .i64 0]) (hln : ln.length ≤ 100000) (hf : frP ln = some n) (hl1 : r1.length ≤ 90000) (h3 : parseH r1 = .error x) (hx : x ≠ 0) :
    Calls Tryz.prog 10 #[.string s, .string me] w (rpPost (.error x) w) := by
  have HR0 := Lib.hid (Rdr.made w nilP s)
  have HA0 : Hid (Nil3 ((w.alloc nilP).alloc (.cells #[.string s, .int .i64 0] 46)) w.heap.size) := Lib.hid ((Nil3.made w).next ((Below.refl (w.heap.size + 1) (w.alloc nilP)).alloc (by simp) _) (Nat.lt_succ_self _))
  have HB0 : Hid (Below w.heap.size w ((w.alloc nilP).alloc (.cells #[.string s, .int .i64 0] 46))) := Lib.hid (((Below.refl w.heap.size w).alloc (Nat.le_refl _) nilP).alloc (by simp) _)
  have HT := Lib.hid hT
  have HE := Lib.hid hE
  clear hT hE
  have cE := fun (t : ByteArray) (x : Int) (is : Bool) W h => mrequire_any (w.heap.size + 1) t x is W h
  have cL := fun W h => mline_at (w.heap.size + 1) s W ln r1 0 hs hv h
  have cQ := fun W h => msta_ok ln n W hln h hf
  have cF := fun W h hT => mfld_no (w.heap.size + 1) r1 W hl1 x h3 h hT
  have cN := fun W => mlength_any 0 (.slice none 0 0) [] W (Flds.nothing _ _) ⟨by decide, fun p hp => by cases hp⟩
  rw [lnM_nil, show lnV (-2, true) = .tuple #[.int .i64 (-2), .bool true] from rfl] at cN
  have cA := fun W => mbare_any n me W
  have cB := fun t z W h => mbody_err (w.heap.size + 1) t x z W h hx
  have hk1 := Lib.hid (reqE_keep hx)
  have hk0 : Hid (reqE 0 true = 0) := Lib.hid rfl
  have hne : (x != 0) = true := by rewrite [bne_iff_ne]; exact hx
  clear hs hv hln hf hl1 h3 hx
  generalize strB ln = SL at *
  generalize strB r1 = SR at *
  generalize bareB n me = ba at *
  go_enter Tryz.func10, Tryz.ntmps10
  go_wp2_with fail
  refine (cL _ HR0.out).mono ?_
  rintro e w1 ⟨rfl, hr1, hm1⟩
  have HR1 := Lib.hid hr1
  have HA1 := Lib.hid (HA0.out.moved hm1 (Nat.ne_of_lt (Nat.lt_succ_self _)))
  have HB1 := Lib.hid (HB0.out.trans (hm1.below (Nat.le_succ _) HB0.out.size))
  clear hr1 hm1
  go_wp2_with fail
  refine (cQ _ (Utf8Tabs_below HT.out HB1.out)).mono ?_
  rintro e w2 ⟨rfl, hb2⟩
  have HR2 := Lib.hid (HR1.out.below hb2)
  have HA2 := Lib.hid (HA1.out.next hb2 HA1.out.lt)
  have HB2 := Lib.hid (HB1.out.trans (hb2.mono HB1.out.size))
  clear hb2
  go_wp2_with fail
  refine (cE _ _ _ _ HR2.out).mono ?_
  rintro e w3 ⟨rfl, hr3, hm3⟩
  rw [hk0.out] at hr3
  have HR3 := Lib.hid hr3
  have HA3 := Lib.hid (HA2.out.moved hm3 (Nat.ne_of_lt (Nat.lt_succ_self _)))
  have HB3 := Lib.hid (HB2.out.trans (hm3.below (Nat.le_succ _) HB2.out.size))
  clear hr3 hm3
  go_wp2_with fail
  refine (cF _ HR3.out (Utf8Tabs_below HT.out HB3.out)).mono ?_
  rintro e w4 ⟨rfl, hr4, hm4⟩
  have HR4 := Lib.hid hr4
  have HA4 := Lib.hid (HA3.out.moved hm4 (Nat.ne_of_lt (Nat.lt_succ_self _)))
  have HB4 := Lib.hid (HB3.out.trans (hm4.below (Nat.le_succ _) HB3.out.size))
  clear hr4 hm4
  go_wp2_with fail
  refine (cN _).mono ?_
  rintro e w5 ⟨rfl, hb5⟩
  have HR5 := Lib.hid (HR4.out.below hb5)
  have HA5 := Lib.hid (HA4.out.next hb5 HA4.out.lt)
  have HB5 := Lib.hid (HB4.out.trans (hb5.mono HB4.out.size))
  clear hb5
  go_wp2_with fail
  refine (cE _ _ _ _ HR5.out).mono ?_
  rintro e w6 ⟨rfl, hr6, hm6⟩
  rw [hk1.out] at hr6
  have HR6 := Lib.hid hr6
  have HA6 := Lib.hid (HA5.out.moved hm6 (Nat.ne_of_lt (Nat.lt_succ_self _)))
  have HB6 := Lib.hid (HB5.out.trans (hm6.below (Nat.le_succ _) HB5.out.size))
  clear hr6 hm6
  go_wp2_with fail
  refine (cA _).mono ?_
  rintro e w7 ⟨rfl, hb7⟩
  have HR7 := Lib.hid (HR6.out.below hb7)
  have HA7 := Lib.hid (HA6.out.next hb7 HA6.out.lt)
  have HB7 := Lib.hid (HB6.out.trans (hb7.mono HB6.out.size))
  clear hb7
  cases ba
  rotate_left
  · skip
    obtain ⟨y0, y1, _, _⟩ := HR7.out
    go_wp2_with fail
    refine (cB _ _ _ HR7.out).mono ?_
    rintro e _ ⟨rfl, rfl⟩
    go_wp2_with fail
    clear y0 y1
    refine (cE _ _ _ _ HR7.out).mono ?_
    rintro e w8 ⟨rfl, hr8, hm8⟩
    rw [hk1.out] at hr8
    have HR8 := Lib.hid hr8
    have HA8 := Lib.hid (HA7.out.moved hm8 (Nat.ne_of_lt (Nat.lt_succ_self _)))
    have HB8 := Lib.hid (HB7.out.trans (hm8.below (Nat.le_succ _) HB7.out.size))
    clear hr8 hm8
    have hla := HA8.out.lt
    obtain ⟨a0, a1, a2, e0, e1, e2⟩ := HA8.out
    obtain ⟨x0, x1, _, _⟩ := HR8.out
    go_wp2_with fail
    go_region
    all_goals
      go_wp2_with fail
      refine bodyPost_ret (v := .tuple #[.agg #[.int .i64 0, .slice none 0 0, .slice none 0 0], .int .i64 x]) (by simp [results, Tryz.results10, go_sem, a0, a1, a2]) rfl ?_
      refine ⟨?_, rfl⟩
      repeat (first | with_reducible refine Below.alloc ?_ (by simp; omega) _ | with_reducible refine Below.setCell ?_ (by simp) _ | with_reducible refine Below.drew ?_)
      exact HB8.out
  · skip
    obtain ⟨y0, y1, _, _⟩ := HR7.out
    go_wp2_with fail
    refine (cB _ _ _ HR7.out).mono ?_
    rintro e _ ⟨rfl, rfl⟩
    go_wp2_with fail
    clear y0 y1
    refine (cE _ _ _ _ HR7.out).mono ?_
    rintro e w8 ⟨rfl, hr8, hm8⟩
    rw [hk1.out] at hr8
    have HR8 := Lib.hid hr8
    have HA8 := Lib.hid (HA7.out.moved hm8 (Nat.ne_of_lt (Nat.lt_succ_self _)))
    have HB8 := Lib.hid (HB7.out.trans (hm8.below (Nat.le_succ _) HB7.out.size))
    clear hr8 hm8
    have hla := HA8.out.lt
    obtain ⟨a0, a1, a2, e0, e1, e2⟩ := HA8.out
    obtain ⟨x0, x1, _, _⟩ := HR8.out
    go_wp2_with fail
    go_region
    all_goals
      go_wp2_with fail
      refine bodyPost_ret (v := .tuple #[.agg #[.int .i64 0, .slice none 0 0, .slice none 0 0], .int .i64 x]) (by simp [results, Tryz.results10, go_sem, a0, a1, a2]) rfl ?_
      refine ⟨?_, rfl⟩
      repeat (first | with_reducible refine Below.alloc ?_ (by simp; omega) _ | with_reducible refine Below.setCell ?_ (by simp) _ | with_reducible refine Below.drew ?_)
      exact HB8.out

set_option maxRecDepth 100000 in
set_option maxHeartbeats 8000000 in
theorem mreadp_e4 (s me : ByteArray) (w : World) (hs : s.size ≤ 90000) (hT : Tabs w) (hE : Errs w) (ln r1 : List UInt8) (nn : Int) (fs : List Fld) (n : Nat) (k : Int) (hv : lnxV s.data.toList = .tuple #[.string (strB ln), .string (strB r1), .int .i64 0]) (hln : ln.length ≤ 100000) (hf : frP ln = some nn) (hl1 : r1.length ≤ 90000) (h3 : parseH r1 = .ok (fs, n)) (h5 : lnM fs = (k, false)) :
    Calls Tryz.prog 10 #[.string s, .string me] w (rpPost (.error 2) w) := by
  have HR0 := Lib.hid (Rdr.made w nilP s)
  have HA0 : Hid (Nil3 ((w.alloc nilP).alloc (.cells #[.string s, .int .i64 0] 46)) w.heap.size) := Lib.hid ((Nil3.made w).next ((Below.refl (w.heap.size + 1) (w.alloc nilP)).alloc (by simp) _) (Nat.lt_succ_self _))
  have HB0 : Hid (Below w.heap.size w ((w.alloc nilP).alloc (.cells #[.string s, .int .i64 0] 46))) := Lib.hid (((Below.refl w.heap.size w).alloc (Nat.le_refl _) nilP).alloc (by simp) _)
  have HT := Lib.hid hT
  have HE := Lib.hid hE
  clear hT hE
  have cE := fun (t : ByteArray) (x : Int) (is : Bool) W h => mrequire_any (w.heap.size + 1) t x is W h
  have cL := fun W h => mline_at (w.heap.size + 1) s W ln r1 0 hs hv h
  have cQ := fun W h => msta_ok ln nn W hln h hf
  have cF := fun W h hT => mfld_ok (w.heap.size + 1) r1 W hl1 fs n h3 h hT
  have hfk := parse_ok _ _ _ h3
  have cN := fun lo v W h => mlength_any lo v fs W h hfk
  have cA := fun W => mbare_any nn me W
  rw [h5, show lnV (k, false) = .tuple #[.int .i64 k, .bool false] from rfl] at cN
  have cB := fun t z W h => mbody_err (w.heap.size + 1) t 2 z W h (by decide)
  have hk0 : Hid (reqE 0 true = 0) := Lib.hid rfl
  have hk2 : Hid (reqE 0 false = 2) := Lib.hid rfl
  have hk1 := Lib.hid (reqE_keep (show (2 : Int) ≠ 0 by decide))
  have hne : ((2 : Int) != 0) = true := by decide
  clear hs hv hln hf hl1 h3 h5 hfk
  generalize strB ln = SL at *
  generalize strB r1 = SR at *
  generalize strB (r1.drop n) = SD at *
  generalize bareB nn me = ba at *
  go_enter Tryz.func10, Tryz.ntmps10
  go_wp2_with fail
  refine (cL _ HR0.out).mono ?_
  rintro e w1 ⟨rfl, hr1, hm1⟩
  have HR1 := Lib.hid hr1
  have HA1 := Lib.hid (HA0.out.moved hm1 (Nat.ne_of_lt (Nat.lt_succ_self _)))
  have HB1 := Lib.hid (HB0.out.trans (hm1.below (Nat.le_succ _) HB0.out.size))
  clear hr1 hm1
  go_wp2_with fail
  refine (cQ _ (Utf8Tabs_below HT.out HB1.out)).mono ?_
  rintro e w2 ⟨rfl, hb2⟩
  have HR2 := Lib.hid (HR1.out.below hb2)
  have HA2 := Lib.hid (HA1.out.next hb2 HA1.out.lt)
  have HB2 := Lib.hid (HB1.out.trans (hb2.mono HB1.out.size))
  clear hb2
  go_wp2_with fail
  refine (cE _ _ _ _ HR2.out).mono ?_
  rintro e w3 ⟨rfl, hr3, hm3⟩
  rw [hk0.out] at hr3
  have HR3 := Lib.hid hr3
  have HA3 := Lib.hid (HA2.out.moved hm3 (Nat.ne_of_lt (Nat.lt_succ_self _)))
  have HB3 := Lib.hid (HB2.out.trans (hm3.below (Nat.le_succ _) HB2.out.size))
  clear hr3 hm3
  go_wp2_with fail
  refine (cF _ HR3.out (Utf8Tabs_below HT.out HB3.out)).mono ?_
  rintro e w4 ⟨⟨v4, rfl, hf4⟩, hr4, hm4⟩
  have HR4 := Lib.hid hr4
  have HA4 := Lib.hid (HA3.out.moved hm4 (Nat.ne_of_lt (Nat.lt_succ_self _)))
  have HB4 := Lib.hid (HB3.out.trans (hm4.below (Nat.le_succ _) HB3.out.size))
  clear hr4 hm4
  have HF4 := Lib.hid hf4
  obtain ⟨ao, cap, rfl, _⟩ := hf4
  go_wp2_with fail
  refine (cN _ _ _ HF4.out).mono ?_
  rintro e w5 ⟨rfl, hb5⟩
  have HR5 := Lib.hid (HR4.out.below hb5)
  have HA5 := Lib.hid (HA4.out.next hb5 HA4.out.lt)
  have HB5 := Lib.hid (HB4.out.trans (hb5.mono HB4.out.size))
  have HF5 := Lib.hid (HF4.out.below hb5)
  clear hb5
  go_wp2_with fail
  refine (cE _ _ _ _ HR5.out).mono ?_
  rintro e w6 ⟨rfl, hr6, hm6⟩
  rw [hk2.out] at hr6
  have HR6 := Lib.hid hr6
  have HA6 := Lib.hid (HA5.out.moved hm6 (Nat.ne_of_lt (Nat.lt_succ_self _)))
  have HB6 := Lib.hid (HB5.out.trans (hm6.below (Nat.le_succ _) HB5.out.size))
  have HF6 := Lib.hid (HF5.out.moved hm6 HR3.out.lt)
  clear hr6 hm6
  go_wp2_with fail
  refine (cA _).mono ?_
  rintro e w7 ⟨rfl, hb7⟩
  have HR7 := Lib.hid (HR6.out.below hb7)
  have HA7 := Lib.hid (HA6.out.next hb7 HA6.out.lt)
  have HB7 := Lib.hid (HB6.out.trans (hb7.mono HB6.out.size))
  have HF7 := Lib.hid (HF6.out.below hb7)
  clear hb7
  cases ba
  rotate_left
  · skip
    obtain ⟨y0, y1, _, _⟩ := HR7.out
    go_wp2_with fail
    refine (cB _ _ _ HR7.out).mono ?_
    rintro e _ ⟨rfl, rfl⟩
    go_wp2_with fail
    clear y0 y1
    refine (cE _ _ _ _ HR7.out).mono ?_
    rintro e w8 ⟨rfl, hr8, hm8⟩
    rw [hk1.out] at hr8
    have HR8 := Lib.hid hr8
    have HA8 := Lib.hid (HA7.out.moved hm8 (Nat.ne_of_lt (Nat.lt_succ_self _)))
    have HB8 := Lib.hid (HB7.out.trans (hm8.below (Nat.le_succ _) HB7.out.size))
    have HF8 := Lib.hid (HF7.out.moved hm8 HR3.out.lt)
    clear hr8 hm8
    have hla := HA8.out.lt
    obtain ⟨a0, a1, a2, e0, e1, e2⟩ := HA8.out
    obtain ⟨x0, x1, _, _⟩ := HR8.out
    go_wp2_with fail
    go_region
    all_goals
      go_wp2_with fail
      refine bodyPost_ret (v := .tuple #[.agg #[.int .i64 0, .slice none 0 0, .slice none 0 0], .int .i64 2]) (by simp [results, Tryz.results10, go_sem, a0, a1, a2]) rfl ?_
      refine ⟨?_, rfl⟩
      repeat (first | with_reducible refine Below.alloc ?_ (by simp; omega) _ | with_reducible refine Below.setCell ?_ (by simp) _ | with_reducible refine Below.drew ?_)
      exact HB8.out
  by_cases hk : k = -2
  · have hq : (k == -2) = true := by rewrite [hk]; decide
    clear hk
    obtain ⟨y0, y1, _, _⟩ := HR7.out
    go_wp2_with fail
    refine (cB _ _ _ HR7.out).mono ?_
    rintro e _ ⟨rfl, rfl⟩
    go_wp2_with fail
    clear y0 y1
    refine (cE _ _ _ _ HR7.out).mono ?_
    rintro e w8 ⟨rfl, hr8, hm8⟩
    rw [hk1.out] at hr8
    have HR8 := Lib.hid hr8
    have HA8 := Lib.hid (HA7.out.moved hm8 (Nat.ne_of_lt (Nat.lt_succ_self _)))
    have HB8 := Lib.hid (HB7.out.trans (hm8.below (Nat.le_succ _) HB7.out.size))
    have HF8 := Lib.hid (HF7.out.moved hm8 HR3.out.lt)
    clear hr8 hm8
    have hla := HA8.out.lt
    obtain ⟨a0, a1, a2, e0, e1, e2⟩ := HA8.out
    obtain ⟨x0, x1, _, _⟩ := HR8.out
    go_wp2_with fail
    go_region
    all_goals
      go_wp2_with fail
      refine bodyPost_ret (v := .tuple #[.agg #[.int .i64 0, .slice none 0 0, .slice none 0 0], .int .i64 2]) (by simp [results, Tryz.results10, go_sem, a0, a1, a2]) rfl ?_
      refine ⟨?_, rfl⟩
      repeat (first | with_reducible refine Below.alloc ?_ (by simp; omega) _ | with_reducible refine Below.setCell ?_ (by simp) _ | with_reducible refine Below.drew ?_)
      exact HB8.out
  · have hq : (k == -2) = false := by rewrite [beq_eq_false_iff_ne]; exact hk
    clear hk
    obtain ⟨y0, y1, _, _⟩ := HR7.out
    go_wp2_with fail
    refine (cB _ _ _ HR7.out).mono ?_
    rintro e _ ⟨rfl, rfl⟩
    go_wp2_with fail
    clear y0 y1
    refine (cE _ _ _ _ HR7.out).mono ?_
    rintro e w8 ⟨rfl, hr8, hm8⟩
    rw [hk1.out] at hr8
    have HR8 := Lib.hid hr8
    have HA8 := Lib.hid (HA7.out.moved hm8 (Nat.ne_of_lt (Nat.lt_succ_self _)))
    have HB8 := Lib.hid (HB7.out.trans (hm8.below (Nat.le_succ _) HB7.out.size))
    have HF8 := Lib.hid (HF7.out.moved hm8 HR3.out.lt)
    clear hr8 hm8
    have hla := HA8.out.lt
    obtain ⟨a0, a1, a2, e0, e1, e2⟩ := HA8.out
    obtain ⟨x0, x1, _, _⟩ := HR8.out
    go_wp2_with fail
    go_region
    all_goals
      go_wp2_with fail
      refine bodyPost_ret (v := .tuple #[.agg #[.int .i64 0, .slice none 0 0, .slice none 0 0], .int .i64 2]) (by simp [results, Tryz.results10, go_sem, a0, a1, a2]) rfl ?_
      refine ⟨?_, rfl⟩
      repeat (first | with_reducible refine Below.alloc ?_ (by simp; omega) _ | with_reducible refine Below.setCell ?_ (by simp) _ | with_reducible refine Below.drew ?_)
      exact HB8.out

set_option maxRecDepth 100000 in
set_option maxHeartbeats 8000000 in
theorem mreadp_e7 (s me : ByteArray) (w : World) (hs : s.size ≤ 90000) (hT : Tabs w) (hE : Errs w) (ln r1 : List UInt8) (nn : Int) (fs : List Fld) (n : Nat) (k z x : Int) (hv : lnxV s.data.toList = .tuple #[.string (strB ln), .string (strB r1), .int .i64 0]) (hln : ln.length ≤ 100000) (hf : frP ln = some nn) (hl1 : r1.length ≤ 90000) (h3 : parseH r1 = .ok (fs, n)) (h5 : lnM fs = (k, true)) (hz : (bareB nn me = true ∧ z = 0) ∨ (bareB nn me = false ∧ k = -2 ∧ z = ((strB (r1.drop n)).size : Int)) ∨ (bareB nn me = false ∧ k ≠ -2 ∧ z = k)) (hz1 : -1 ≤ z) (h6 : bodM (r1.drop n) z = .error x) (hx : x ≠ 0) :
    Calls Tryz.prog 10 #[.string s, .string me] w (rpPost (.error x) w) := by
  have HR0 := Lib.hid (Rdr.made w nilP s)
  have HA0 : Hid (Nil3 ((w.alloc nilP).alloc (.cells #[.string s, .int .i64 0] 46)) w.heap.size) := Lib.hid ((Nil3.made w).next ((Below.refl (w.heap.size + 1) (w.alloc nilP)).alloc (by simp) _) (Nat.lt_succ_self _))
  have HB0 : Hid (Below w.heap.size w ((w.alloc nilP).alloc (.cells #[.string s, .int .i64 0] 46))) := Lib.hid (((Below.refl w.heap.size w).alloc (Nat.le_refl _) nilP).alloc (by simp) _)
  have HT := Lib.hid hT
  have HE := Lib.hid hE
  clear hT hE
  have cE := fun (t : ByteArray) (x : Int) (is : Bool) W h => mrequire_any (w.heap.size + 1) t x is W h
  have cL := fun W h => mline_at (w.heap.size + 1) s W ln r1 0 hs hv h
  have cQ := fun W h => msta_ok ln nn W hln h hf
  have cF := fun W h hT => mfld_ok (w.heap.size + 1) r1 W hl1 fs n h3 h hT
  have hfk := parse_ok _ _ _ h3
  have cN := fun lo v W h => mlength_any lo v fs W h hfk
  have cA := fun W => mbare_any nn me W
  rw [h5, show lnV (k, true) = .tuple #[.int .i64 k, .bool true] from rfl] at cN
  have cB := fun W h hT hE => mbod_no (w.heap.size + 1) (r1.drop n) z W (by rewrite [List.length_drop]; omega) hz1 x h6 h hT hE
  have hk0 : Hid (reqE 0 true = 0) := Lib.hid rfl
  have hk1 := Lib.hid (reqE_keep hx)
  have hne : (x != 0) = true := by rewrite [bne_iff_ne]; exact hx
  clear hs hv hln hf hl1 h3 h5 h6 hfk hx hz1
  generalize strB ln = SL at *
  generalize strB r1 = SR at *
  generalize strB (r1.drop n) = SD at *
  generalize bareB nn me = ba at *
  go_enter Tryz.func10, Tryz.ntmps10
  go_wp2_with fail
  refine (cL _ HR0.out).mono ?_
  rintro e w1 ⟨rfl, hr1, hm1⟩
  have HR1 := Lib.hid hr1
  have HA1 := Lib.hid (HA0.out.moved hm1 (Nat.ne_of_lt (Nat.lt_succ_self _)))
  have HB1 := Lib.hid (HB0.out.trans (hm1.below (Nat.le_succ _) HB0.out.size))
  clear hr1 hm1
  go_wp2_with fail
  refine (cQ _ (Utf8Tabs_below HT.out HB1.out)).mono ?_
  rintro e w2 ⟨rfl, hb2⟩
  have HR2 := Lib.hid (HR1.out.below hb2)
  have HA2 := Lib.hid (HA1.out.next hb2 HA1.out.lt)
  have HB2 := Lib.hid (HB1.out.trans (hb2.mono HB1.out.size))
  clear hb2
  go_wp2_with fail
  refine (cE _ _ _ _ HR2.out).mono ?_
  rintro e w3 ⟨rfl, hr3, hm3⟩
  rw [hk0.out] at hr3
  have HR3 := Lib.hid hr3
  have HA3 := Lib.hid (HA2.out.moved hm3 (Nat.ne_of_lt (Nat.lt_succ_self _)))
  have HB3 := Lib.hid (HB2.out.trans (hm3.below (Nat.le_succ _) HB2.out.size))
  clear hr3 hm3
  go_wp2_with fail
  refine (cF _ HR3.out (Utf8Tabs_below HT.out HB3.out)).mono ?_
  rintro e w4 ⟨⟨v4, rfl, hf4⟩, hr4, hm4⟩
  have HR4 := Lib.hid hr4
  have HA4 := Lib.hid (HA3.out.moved hm4 (Nat.ne_of_lt (Nat.lt_succ_self _)))
  have HB4 := Lib.hid (HB3.out.trans (hm4.below (Nat.le_succ _) HB3.out.size))
  clear hr4 hm4
  have HF4 := Lib.hid hf4
  obtain ⟨ao, cap, rfl, _⟩ := hf4
  go_wp2_with fail
  refine (cN _ _ _ HF4.out).mono ?_
  rintro e w5 ⟨rfl, hb5⟩
  have HR5 := Lib.hid (HR4.out.below hb5)
  have HA5 := Lib.hid (HA4.out.next hb5 HA4.out.lt)
  have HB5 := Lib.hid (HB4.out.trans (hb5.mono HB4.out.size))
  have HF5 := Lib.hid (HF4.out.below hb5)
  clear hb5
  go_wp2_with fail
  refine (cE _ _ _ _ HR5.out).mono ?_
  rintro e w6 ⟨rfl, hr6, hm6⟩
  rw [hk0.out] at hr6
  have HR6 := Lib.hid hr6
  have HA6 := Lib.hid (HA5.out.moved hm6 (Nat.ne_of_lt (Nat.lt_succ_self _)))
  have HB6 := Lib.hid (HB5.out.trans (hm6.below (Nat.le_succ _) HB5.out.size))
  have HF6 := Lib.hid (HF5.out.moved hm6 HR3.out.lt)
  clear hr6 hm6
  rcases hz with ⟨hba, rfl⟩ | ⟨hba, hk, rfl⟩ | ⟨hba, hk, rfl⟩
  · subst hba
    go_wp2_with fail
    refine (cA _).mono ?_
    rintro e w7 ⟨rfl, hb7⟩
    have HR7 := Lib.hid (HR6.out.below hb7)
    have HA7 := Lib.hid (HA6.out.next hb7 HA6.out.lt)
    have HB7 := Lib.hid (HB6.out.trans (hb7.mono HB6.out.size))
    have HF7 := Lib.hid (HF6.out.below hb7)
    clear hb7
    obtain ⟨y0, y1, _, _⟩ := HR7.out
    go_wp2_with fail
    clear y0 y1
    refine (cB _ HR7.out (Utf8Tabs_below HT.out HB7.out) (HE.out.below HB7.out)).mono ?_
    rintro e w8 ⟨rfl, hr8, hm8⟩
    have HR8 := Lib.hid hr8
    have HA8 := Lib.hid (HA7.out.moved hm8 (Nat.ne_of_lt (Nat.lt_succ_self _)))
    have HB8 := Lib.hid (HB7.out.trans (hm8.below (Nat.le_succ _) HB7.out.size))
    have HF8 := Lib.hid (HF7.out.moved hm8 HR3.out.lt)
    clear hr8 hm8
    obtain ⟨y0, y1, _, _⟩ := HR8.out
    go_wp2_with fail
    clear y0 y1
    refine (cE _ _ _ _ HR8.out).mono ?_
    rintro e w9 ⟨rfl, hr9, hm9⟩
    rw [hk1.out] at hr9
    have HR9 := Lib.hid hr9
    have HA9 := Lib.hid (HA8.out.moved hm9 (Nat.ne_of_lt (Nat.lt_succ_self _)))
    have HB9 := Lib.hid (HB8.out.trans (hm9.below (Nat.le_succ _) HB8.out.size))
    have HF9 := Lib.hid (HF8.out.moved hm9 HR3.out.lt)
    clear hr9 hm9
    have hla := HA9.out.lt
    obtain ⟨a0, a1, a2, e0, e1, e2⟩ := HA9.out
    obtain ⟨x0, x1, _, _⟩ := HR9.out
    go_wp2_with fail
    go_region
    all_goals
      go_wp2_with fail
      refine bodyPost_ret (v := .tuple #[.agg #[.int .i64 0, .slice none 0 0, .slice none 0 0], .int .i64 x]) (by simp [results, Tryz.results10, go_sem, a0, a1, a2]) rfl ?_
      refine ⟨?_, rfl⟩
      repeat (first | with_reducible refine Below.alloc ?_ (by simp; omega) _ | with_reducible refine Below.setCell ?_ (by simp) _ | with_reducible refine Below.drew ?_)
      exact HB9.out
  · subst hba
    have hq : (k == -2) = true := by rewrite [hk]; decide
    clear hk
    go_wp2_with fail
    refine (cA _).mono ?_
    rintro e w7 ⟨rfl, hb7⟩
    have HR7 := Lib.hid (HR6.out.below hb7)
    have HA7 := Lib.hid (HA6.out.next hb7 HA6.out.lt)
    have HB7 := Lib.hid (HB6.out.trans (hb7.mono HB6.out.size))
    have HF7 := Lib.hid (HF6.out.below hb7)
    clear hb7
    obtain ⟨y0, y1, _, _⟩ := HR7.out
    go_wp2_with fail
    clear y0 y1
    refine (cB _ HR7.out (Utf8Tabs_below HT.out HB7.out) (HE.out.below HB7.out)).mono ?_
    rintro e w8 ⟨rfl, hr8, hm8⟩
    have HR8 := Lib.hid hr8
    have HA8 := Lib.hid (HA7.out.moved hm8 (Nat.ne_of_lt (Nat.lt_succ_self _)))
    have HB8 := Lib.hid (HB7.out.trans (hm8.below (Nat.le_succ _) HB7.out.size))
    have HF8 := Lib.hid (HF7.out.moved hm8 HR3.out.lt)
    clear hr8 hm8
    obtain ⟨y0, y1, _, _⟩ := HR8.out
    go_wp2_with fail
    clear y0 y1
    refine (cE _ _ _ _ HR8.out).mono ?_
    rintro e w9 ⟨rfl, hr9, hm9⟩
    rw [hk1.out] at hr9
    have HR9 := Lib.hid hr9
    have HA9 := Lib.hid (HA8.out.moved hm9 (Nat.ne_of_lt (Nat.lt_succ_self _)))
    have HB9 := Lib.hid (HB8.out.trans (hm9.below (Nat.le_succ _) HB8.out.size))
    have HF9 := Lib.hid (HF8.out.moved hm9 HR3.out.lt)
    clear hr9 hm9
    have hla := HA9.out.lt
    obtain ⟨a0, a1, a2, e0, e1, e2⟩ := HA9.out
    obtain ⟨x0, x1, _, _⟩ := HR9.out
    go_wp2_with fail
    go_region
    all_goals
      go_wp2_with fail
      refine bodyPost_ret (v := .tuple #[.agg #[.int .i64 0, .slice none 0 0, .slice none 0 0], .int .i64 x]) (by simp [results, Tryz.results10, go_sem, a0, a1, a2]) rfl ?_
      refine ⟨?_, rfl⟩
      repeat (first | with_reducible refine Below.alloc ?_ (by simp; omega) _ | with_reducible refine Below.setCell ?_ (by simp) _ | with_reducible refine Below.drew ?_)
      exact HB9.out
  · subst hba
    have hq : (z == -2) = false := by rewrite [beq_eq_false_iff_ne]; exact hk
    clear hk
    go_wp2_with fail
    refine (cA _).mono ?_
    rintro e w7 ⟨rfl, hb7⟩
    have HR7 := Lib.hid (HR6.out.below hb7)
    have HA7 := Lib.hid (HA6.out.next hb7 HA6.out.lt)
    have HB7 := Lib.hid (HB6.out.trans (hb7.mono HB6.out.size))
    have HF7 := Lib.hid (HF6.out.below hb7)
    clear hb7
    obtain ⟨y0, y1, _, _⟩ := HR7.out
    go_wp2_with fail
    clear y0 y1
    refine (cB _ HR7.out (Utf8Tabs_below HT.out HB7.out) (HE.out.below HB7.out)).mono ?_
    rintro e w8 ⟨rfl, hr8, hm8⟩
    have HR8 := Lib.hid hr8
    have HA8 := Lib.hid (HA7.out.moved hm8 (Nat.ne_of_lt (Nat.lt_succ_self _)))
    have HB8 := Lib.hid (HB7.out.trans (hm8.below (Nat.le_succ _) HB7.out.size))
    have HF8 := Lib.hid (HF7.out.moved hm8 HR3.out.lt)
    clear hr8 hm8
    obtain ⟨y0, y1, _, _⟩ := HR8.out
    go_wp2_with fail
    clear y0 y1
    refine (cE _ _ _ _ HR8.out).mono ?_
    rintro e w9 ⟨rfl, hr9, hm9⟩
    rw [hk1.out] at hr9
    have HR9 := Lib.hid hr9
    have HA9 := Lib.hid (HA8.out.moved hm9 (Nat.ne_of_lt (Nat.lt_succ_self _)))
    have HB9 := Lib.hid (HB8.out.trans (hm9.below (Nat.le_succ _) HB8.out.size))
    have HF9 := Lib.hid (HF8.out.moved hm9 HR3.out.lt)
    clear hr9 hm9
    have hla := HA9.out.lt
    obtain ⟨a0, a1, a2, e0, e1, e2⟩ := HA9.out
    obtain ⟨x0, x1, _, _⟩ := HR9.out
    go_wp2_with fail
    go_region
    all_goals
      go_wp2_with fail
      refine bodyPost_ret (v := .tuple #[.agg #[.int .i64 0, .slice none 0 0, .slice none 0 0], .int .i64 x]) (by simp [results, Tryz.results10, go_sem, a0, a1, a2]) rfl ?_
      refine ⟨?_, rfl⟩
      repeat (first | with_reducible refine Below.alloc ?_ (by simp; omega) _ | with_reducible refine Below.setCell ?_ (by simp) _ | with_reducible refine Below.drew ?_)
      exact HB9.out

set_option maxRecDepth 100000 in
set_option maxHeartbeats 8000000 in
theorem mreadp_e8 (s me : ByteArray) (w : World) (hs : s.size ≤ 90000) (hT : Tabs w) (hE : Errs w) (ln r1 : List UInt8) (nn : Int) (fs : List Fld) (n u : Nat) (b : List UInt8) (k z : Int) (hv : lnxV s.data.toList = .tuple #[.string (strB ln), .string (strB r1), .int .i64 0]) (hln : ln.length ≤ 100000) (hf : frP ln = some nn) (hl1 : r1.length ≤ 90000) (h3 : parseH r1 = .ok (fs, n)) (h5 : lnM fs = (k, true)) (hz : (bareB nn me = true ∧ z = 0) ∨ (bareB nn me = false ∧ k = -2 ∧ z = ((strB (r1.drop n)).size : Int)) ∨ (bareB nn me = false ∧ k ≠ -2 ∧ z = k)) (hz1 : -1 ≤ z) (h6 : bodM (r1.drop n) z = .ok (b, u)) (h7 : (r1.drop n).drop u ≠ []) :
    Calls Tryz.prog 10 #[.string s, .string me] w (rpPost (.error 2) w) := by
  have HR0 := Lib.hid (Rdr.made w nilP s)
  have HA0 : Hid (Nil3 ((w.alloc nilP).alloc (.cells #[.string s, .int .i64 0] 46)) w.heap.size) := Lib.hid ((Nil3.made w).next ((Below.refl (w.heap.size + 1) (w.alloc nilP)).alloc (by simp) _) (Nat.lt_succ_self _))
  have HB0 : Hid (Below w.heap.size w ((w.alloc nilP).alloc (.cells #[.string s, .int .i64 0] 46))) := Lib.hid (((Below.refl w.heap.size w).alloc (Nat.le_refl _) nilP).alloc (by simp) _)
  have HT := Lib.hid hT
  have HE := Lib.hid hE
  clear hT hE
  have cE := fun (t : ByteArray) (x : Int) (is : Bool) W h => mrequire_any (w.heap.size + 1) t x is W h
  have cL := fun W h => mline_at (w.heap.size + 1) s W ln r1 0 hs hv h
  have cQ := fun W h => msta_ok ln nn W hln h hf
  have cF := fun W h hT => mfld_ok (w.heap.size + 1) r1 W hl1 fs n h3 h hT
  have hfk := parse_ok _ _ _ h3
  have cN := fun lo v W h => mlength_any lo v fs W h hfk
  have cA := fun W => mbare_any nn me W
  rw [h5, show lnV (k, true) = .tuple #[.int .i64 k, .bool true] from rfl] at cN
  have cB := fun W h hT hE => mbod_ok (w.heap.size + 1) (r1.drop n) z W (by rewrite [List.length_drop]; omega) hz1 b u h6 h hT hE
  have hk0 : Hid (reqE 0 true = 0) := Lib.hid rfl
  have hk1 : Hid (reqE 0 false = 2) := Lib.hid rfl
  have hne : ((2 : Int) != 0) = true := by decide
  have hem : (strB ((r1.drop n).drop u)).toList.isEmpty = false := by
    rewrite [Lib.toList_data, strB_data, List.isEmpty_eq_false_iff]
    exact h7
  clear hs hv hln hf hl1 h3 h5 h6 hfk h7 hz1
  generalize strB ln = SL at *
  generalize strB r1 = SR at *
  generalize strB ((r1.drop n).drop u) = SX at *
  generalize strB (r1.drop n) = SD at *
  generalize strB b = SB at *
  generalize bareB nn me = ba at *
  go_enter Tryz.func10, Tryz.ntmps10
  go_wp2_with fail
  refine (cL _ HR0.out).mono ?_
  rintro e w1 ⟨rfl, hr1, hm1⟩
  have HR1 := Lib.hid hr1
  have HA1 := Lib.hid (HA0.out.moved hm1 (Nat.ne_of_lt (Nat.lt_succ_self _)))
  have HB1 := Lib.hid (HB0.out.trans (hm1.below (Nat.le_succ _) HB0.out.size))
  clear hr1 hm1
  go_wp2_with fail
  refine (cQ _ (Utf8Tabs_below HT.out HB1.out)).mono ?_
  rintro e w2 ⟨rfl, hb2⟩
  have HR2 := Lib.hid (HR1.out.below hb2)
  have HA2 := Lib.hid (HA1.out.next hb2 HA1.out.lt)
  have HB2 := Lib.hid (HB1.out.trans (hb2.mono HB1.out.size))
  clear hb2
  go_wp2_with fail
  refine (cE _ _ _ _ HR2.out).mono ?_
  rintro e w3 ⟨rfl, hr3, hm3⟩
  rw [hk0.out] at hr3
  have HR3 := Lib.hid hr3
  have HA3 := Lib.hid (HA2.out.moved hm3 (Nat.ne_of_lt (Nat.lt_succ_self _)))
  have HB3 := Lib.hid (HB2.out.trans (hm3.below (Nat.le_succ _) HB2.out.size))
  clear hr3 hm3
  go_wp2_with fail
  refine (cF _ HR3.out (Utf8Tabs_below HT.out HB3.out)).mono ?_
  rintro e w4 ⟨⟨v4, rfl, hf4⟩, hr4, hm4⟩
  have HR4 := Lib.hid hr4
  have HA4 := Lib.hid (HA3.out.moved hm4 (Nat.ne_of_lt (Nat.lt_succ_self _)))
  have HB4 := Lib.hid (HB3.out.trans (hm4.below (Nat.le_succ _) HB3.out.size))
  clear hr4 hm4
  have HF4 := Lib.hid hf4
  obtain ⟨ao, cap, rfl, _⟩ := hf4
  go_wp2_with fail
  refine (cN _ _ _ HF4.out).mono ?_
  rintro e w5 ⟨rfl, hb5⟩
  have HR5 := Lib.hid (HR4.out.below hb5)
  have HA5 := Lib.hid (HA4.out.next hb5 HA4.out.lt)
  have HB5 := Lib.hid (HB4.out.trans (hb5.mono HB4.out.size))
  have HF5 := Lib.hid (HF4.out.below hb5)
  clear hb5
  go_wp2_with fail
  refine (cE _ _ _ _ HR5.out).mono ?_
  rintro e w6 ⟨rfl, hr6, hm6⟩
  rw [hk0.out] at hr6
  have HR6 := Lib.hid hr6
  have HA6 := Lib.hid (HA5.out.moved hm6 (Nat.ne_of_lt (Nat.lt_succ_self _)))
  have HB6 := Lib.hid (HB5.out.trans (hm6.below (Nat.le_succ _) HB5.out.size))
  have HF6 := Lib.hid (HF5.out.moved hm6 HR3.out.lt)
  clear hr6 hm6
  rcases hz with ⟨hba, rfl⟩ | ⟨hba, hk, rfl⟩ | ⟨hba, hk, rfl⟩
  · subst hba
    go_wp2_with fail
    refine (cA _).mono ?_
    rintro e w7 ⟨rfl, hb7⟩
    have HR7 := Lib.hid (HR6.out.below hb7)
    have HA7 := Lib.hid (HA6.out.next hb7 HA6.out.lt)
    have HB7 := Lib.hid (HB6.out.trans (hb7.mono HB6.out.size))
    have HF7 := Lib.hid (HF6.out.below hb7)
    clear hb7
    obtain ⟨y0, y1, _, _⟩ := HR7.out
    go_wp2_with fail
    clear y0 y1
    refine (cB _ HR7.out (Utf8Tabs_below HT.out HB7.out) (HE.out.below HB7.out)).mono ?_
    rintro e w8 ⟨rfl, hr8, hm8⟩
    have HR8 := Lib.hid hr8
    have HA8 := Lib.hid (HA7.out.moved hm8 (Nat.ne_of_lt (Nat.lt_succ_self _)))
    have HB8 := Lib.hid (HB7.out.trans (hm8.below (Nat.le_succ _) HB7.out.size))
    have HF8 := Lib.hid (HF7.out.moved hm8 HR3.out.lt)
    clear hr8 hm8
    obtain ⟨y0, y1, _, _⟩ := HR8.out
    go_wp2_with fail
    clear y0 y1
    refine (cE _ _ _ _ HR8.out).mono ?_
    rintro e w9 ⟨rfl, hr9, hm9⟩
    rw [hk1.out] at hr9
    have HR9 := Lib.hid hr9
    have HA9 := Lib.hid (HA8.out.moved hm9 (Nat.ne_of_lt (Nat.lt_succ_self _)))
    have HB9 := Lib.hid (HB8.out.trans (hm9.below (Nat.le_succ _) HB8.out.size))
    have HF9 := Lib.hid (HF8.out.moved hm9 HR3.out.lt)
    clear hr9 hm9
    have hla := HA9.out.lt
    obtain ⟨a0, a1, a2, e0, e1, e2⟩ := HA9.out
    obtain ⟨x0, x1, _, _⟩ := HR9.out
    go_wp2_with fail
    go_region
    all_goals
      go_wp2_with fail
      refine bodyPost_ret (v := .tuple #[.agg #[.int .i64 0, .slice none 0 0, .slice none 0 0], .int .i64 2]) (by simp [results, Tryz.results10, go_sem, a0, a1, a2]) rfl ?_
      refine ⟨?_, rfl⟩
      repeat (first | with_reducible refine Below.alloc ?_ (by simp; omega) _ | with_reducible refine Below.setCell ?_ (by simp) _ | with_reducible refine Below.drew ?_)
      exact HB9.out
  · subst hba
    have hq : (k == -2) = true := by rewrite [hk]; decide
    clear hk
    go_wp2_with fail
    refine (cA _).mono ?_
    rintro e w7 ⟨rfl, hb7⟩
    have HR7 := Lib.hid (HR6.out.below hb7)
    have HA7 := Lib.hid (HA6.out.next hb7 HA6.out.lt)
    have HB7 := Lib.hid (HB6.out.trans (hb7.mono HB6.out.size))
    have HF7 := Lib.hid (HF6.out.below hb7)
    clear hb7
    obtain ⟨y0, y1, _, _⟩ := HR7.out
    go_wp2_with fail
    clear y0 y1
    refine (cB _ HR7.out (Utf8Tabs_below HT.out HB7.out) (HE.out.below HB7.out)).mono ?_
    rintro e w8 ⟨rfl, hr8, hm8⟩
    have HR8 := Lib.hid hr8
    have HA8 := Lib.hid (HA7.out.moved hm8 (Nat.ne_of_lt (Nat.lt_succ_self _)))
    have HB8 := Lib.hid (HB7.out.trans (hm8.below (Nat.le_succ _) HB7.out.size))
    have HF8 := Lib.hid (HF7.out.moved hm8 HR3.out.lt)
    clear hr8 hm8
    obtain ⟨y0, y1, _, _⟩ := HR8.out
    go_wp2_with fail
    clear y0 y1
    refine (cE _ _ _ _ HR8.out).mono ?_
    rintro e w9 ⟨rfl, hr9, hm9⟩
    rw [hk1.out] at hr9
    have HR9 := Lib.hid hr9
    have HA9 := Lib.hid (HA8.out.moved hm9 (Nat.ne_of_lt (Nat.lt_succ_self _)))
    have HB9 := Lib.hid (HB8.out.trans (hm9.below (Nat.le_succ _) HB8.out.size))
    have HF9 := Lib.hid (HF8.out.moved hm9 HR3.out.lt)
    clear hr9 hm9
    have hla := HA9.out.lt
    obtain ⟨a0, a1, a2, e0, e1, e2⟩ := HA9.out
    obtain ⟨x0, x1, _, _⟩ := HR9.out
    go_wp2_with fail
    go_region
    all_goals
      go_wp2_with fail
      refine bodyPost_ret (v := .tuple #[.agg #[.int .i64 0, .slice none 0 0, .slice none 0 0], .int .i64 2]) (by simp [results, Tryz.results10, go_sem, a0, a1, a2]) rfl ?_
      refine ⟨?_, rfl⟩
      repeat (first | with_reducible refine Below.alloc ?_ (by simp; omega) _ | with_reducible refine Below.setCell ?_ (by simp) _ | with_reducible refine Below.drew ?_)
      exact HB9.out
  · subst hba
    have hq : (z == -2) = false := by rewrite [beq_eq_false_iff_ne]; exact hk
    clear hk
    go_wp2_with fail
    refine (cA _).mono ?_
    rintro e w7 ⟨rfl, hb7⟩
    have HR7 := Lib.hid (HR6.out.below hb7)
    have HA7 := Lib.hid (HA6.out.next hb7 HA6.out.lt)
    have HB7 := Lib.hid (HB6.out.trans (hb7.mono HB6.out.size))
    have HF7 := Lib.hid (HF6.out.below hb7)
    clear hb7
    obtain ⟨y0, y1, _, _⟩ := HR7.out
    go_wp2_with fail
    clear y0 y1
    refine (cB _ HR7.out (Utf8Tabs_below HT.out HB7.out) (HE.out.below HB7.out)).mono ?_
    rintro e w8 ⟨rfl, hr8, hm8⟩
    have HR8 := Lib.hid hr8
    have HA8 := Lib.hid (HA7.out.moved hm8 (Nat.ne_of_lt (Nat.lt_succ_self _)))
    have HB8 := Lib.hid (HB7.out.trans (hm8.below (Nat.le_succ _) HB7.out.size))
    have HF8 := Lib.hid (HF7.out.moved hm8 HR3.out.lt)
    clear hr8 hm8
    obtain ⟨y0, y1, _, _⟩ := HR8.out
    go_wp2_with fail
    clear y0 y1
    refine (cE _ _ _ _ HR8.out).mono ?_
    rintro e w9 ⟨rfl, hr9, hm9⟩
    rw [hk1.out] at hr9
    have HR9 := Lib.hid hr9
    have HA9 := Lib.hid (HA8.out.moved hm9 (Nat.ne_of_lt (Nat.lt_succ_self _)))
    have HB9 := Lib.hid (HB8.out.trans (hm9.below (Nat.le_succ _) HB8.out.size))
    have HF9 := Lib.hid (HF8.out.moved hm9 HR3.out.lt)
    clear hr9 hm9
    have hla := HA9.out.lt
    obtain ⟨a0, a1, a2, e0, e1, e2⟩ := HA9.out
    obtain ⟨x0, x1, _, _⟩ := HR9.out
    go_wp2_with fail
    go_region
    all_goals
      go_wp2_with fail
      refine bodyPost_ret (v := .tuple #[.agg #[.int .i64 0, .slice none 0 0, .slice none 0 0], .int .i64 2]) (by simp [results, Tryz.results10, go_sem, a0, a1, a2]) rfl ?_
      refine ⟨?_, rfl⟩
      repeat (first | with_reducible refine Below.alloc ?_ (by simp; omega) _ | with_reducible refine Below.setCell ?_ (by simp) _ | with_reducible refine Below.drew ?_)
      exact HB9.out

set_option maxRecDepth 100000 in
set_option maxHeartbeats 8000000 in
theorem mreadp_ok (s me : ByteArray) (w : World) (hs : s.size ≤ 90000) (hT : Tabs w) (hE : Errs w) (ln r1 : List UInt8) (nn : Int) (fs : List Fld) (n u : Nat) (b : List UInt8) (k z : Int) (hv : lnxV s.data.toList = .tuple #[.string (strB ln), .string (strB r1), .int .i64 0]) (hln : ln.length ≤ 100000) (hf : frP ln = some nn) (hl1 : r1.length ≤ 90000) (h3 : parseH r1 = .ok (fs, n)) (h5 : lnM fs = (k, true)) (hz : (bareB nn me = true ∧ z = 0) ∨ (bareB nn me = false ∧ k = -2 ∧ z = ((strB (r1.drop n)).size : Int)) ∨ (bareB nn me = false ∧ k ≠ -2 ∧ z = k)) (hz1 : -1 ≤ z) (h6 : bodM (r1.drop n) z = .ok (b, u)) (h7 : (r1.drop n).drop u = []) :
    Calls Tryz.prog 10 #[.string s, .string me] w (rpPost (.ok ⟨nn, lesL fs, b⟩) w) := by
  have HR0 := Lib.hid (Rdr.made w nilP s)
  have HA0 : Hid (Nil3 ((w.alloc nilP).alloc (.cells #[.string s, .int .i64 0] 46)) w.heap.size) := Lib.hid ((Nil3.made w).next ((Below.refl (w.heap.size + 1) (w.alloc nilP)).alloc (by simp) _) (Nat.lt_succ_self _))
  have HB0 : Hid (Below w.heap.size w ((w.alloc nilP).alloc (.cells #[.string s, .int .i64 0] 46))) := Lib.hid (((Below.refl w.heap.size w).alloc (Nat.le_refl _) nilP).alloc (by simp) _)
  have HT := Lib.hid hT
  have HE := Lib.hid hE
  clear hT hE
  have cE := fun (t : ByteArray) (x : Int) (is : Bool) W h => mrequire_any (w.heap.size + 1) t x is W h
  have cL := fun W h => mline_at (w.heap.size + 1) s W ln r1 0 hs hv h
  have cQ := fun W h => msta_ok ln nn W hln h hf
  have cF := fun W h hT => mfld_ok (w.heap.size + 1) r1 W hl1 fs n h3 h hT
  have hfk := parse_ok _ _ _ h3
  have cN := fun lo v W h => mlength_any lo v fs W h hfk
  have cA := fun W => mbare_any nn me W
  rw [h5, show lnV (k, true) = .tuple #[.int .i64 k, .bool true] from rfl] at cN
  have cB := fun W h hT hE => mbod_ok (w.heap.size + 1) (r1.drop n) z W (by rewrite [List.length_drop]; omega) hz1 b u h6 h hT hE
  have cW := fun lo v W h => mless_any lo v fs W h hfk
  have hk0 : Hid (reqE 0 true = 0) := Lib.hid rfl
  have hk1 : Hid (reqE 0 true = 0) := Lib.hid rfl
  have hem : (strB ((r1.drop n).drop u)).toList.isEmpty = true := by
    rewrite [Lib.toList_data, strB_data, List.isEmpty_iff]
    exact h7
  have hbz := strB_size b
  have hbd2 := strB_data b
  clear hs hv hln hf hl1 h3 h5 h6 hfk h7 hz1
  generalize strB ln = SL at *
  generalize strB r1 = SR at *
  generalize strB ((r1.drop n).drop u) = SX at *
  generalize strB (r1.drop n) = SD at *
  generalize hSB : strB b = SB at *
  have HSB := Lib.hid hSB
  clear hSB
  generalize bareB nn me = ba at *
  go_enter Tryz.func10, Tryz.ntmps10
  go_wp2_with fail
  refine (cL _ HR0.out).mono ?_
  rintro e w1 ⟨rfl, hr1, hm1⟩
  have HR1 := Lib.hid hr1
  have HA1 := Lib.hid (HA0.out.moved hm1 (Nat.ne_of_lt (Nat.lt_succ_self _)))
  have HB1 := Lib.hid (HB0.out.trans (hm1.below (Nat.le_succ _) HB0.out.size))
  clear hr1 hm1
  go_wp2_with fail
  refine (cQ _ (Utf8Tabs_below HT.out HB1.out)).mono ?_
  rintro e w2 ⟨rfl, hb2⟩
  have HR2 := Lib.hid (HR1.out.below hb2)
  have HA2 := Lib.hid (HA1.out.next hb2 HA1.out.lt)
  have HB2 := Lib.hid (HB1.out.trans (hb2.mono HB1.out.size))
  clear hb2
  go_wp2_with fail
  refine (cE _ _ _ _ HR2.out).mono ?_
  rintro e w3 ⟨rfl, hr3, hm3⟩
  rw [hk0.out] at hr3
  have HR3 := Lib.hid hr3
  have HA3 := Lib.hid (HA2.out.moved hm3 (Nat.ne_of_lt (Nat.lt_succ_self _)))
  have HB3 := Lib.hid (HB2.out.trans (hm3.below (Nat.le_succ _) HB2.out.size))
  clear hr3 hm3
  go_wp2_with fail
  refine (cF _ HR3.out (Utf8Tabs_below HT.out HB3.out)).mono ?_
  rintro e w4 ⟨⟨v4, rfl, hf4⟩, hr4, hm4⟩
  have HR4 := Lib.hid hr4
  have HA4 := Lib.hid (HA3.out.moved hm4 (Nat.ne_of_lt (Nat.lt_succ_self _)))
  have HB4 := Lib.hid (HB3.out.trans (hm4.below (Nat.le_succ _) HB3.out.size))
  clear hr4 hm4
  have HF4 := Lib.hid hf4
  obtain ⟨ao, cap, rfl, _⟩ := hf4
  go_wp2_with fail
  refine (cN _ _ _ HF4.out).mono ?_
  rintro e w5 ⟨rfl, hb5⟩
  have HR5 := Lib.hid (HR4.out.below hb5)
  have HA5 := Lib.hid (HA4.out.next hb5 HA4.out.lt)
  have HB5 := Lib.hid (HB4.out.trans (hb5.mono HB4.out.size))
  have HF5 := Lib.hid (HF4.out.below hb5)
  clear hb5
  go_wp2_with fail
  refine (cE _ _ _ _ HR5.out).mono ?_
  rintro e w6 ⟨rfl, hr6, hm6⟩
  rw [hk0.out] at hr6
  have HR6 := Lib.hid hr6
  have HA6 := Lib.hid (HA5.out.moved hm6 (Nat.ne_of_lt (Nat.lt_succ_self _)))
  have HB6 := Lib.hid (HB5.out.trans (hm6.below (Nat.le_succ _) HB5.out.size))
  have HF6 := Lib.hid (HF5.out.moved hm6 HR3.out.lt)
  clear hr6 hm6
  rcases hz with ⟨hba, rfl⟩ | ⟨hba, hk, rfl⟩ | ⟨hba, hk, rfl⟩
  · subst hba
    go_wp2_with fail
    refine (cA _).mono ?_
    rintro e w7 ⟨rfl, hb7⟩
    have HR7 := Lib.hid (HR6.out.below hb7)
    have HA7 := Lib.hid (HA6.out.next hb7 HA6.out.lt)
    have HB7 := Lib.hid (HB6.out.trans (hb7.mono HB6.out.size))
    have HF7 := Lib.hid (HF6.out.below hb7)
    clear hb7
    obtain ⟨y0, y1, _, _⟩ := HR7.out
    go_wp2_with fail
    clear y0 y1
    refine (cB _ HR7.out (Utf8Tabs_below HT.out HB7.out) (HE.out.below HB7.out)).mono ?_
    rintro e w8 ⟨rfl, hr8, hm8⟩
    have HR8 := Lib.hid hr8
    have HA8 := Lib.hid (HA7.out.moved hm8 (Nat.ne_of_lt (Nat.lt_succ_self _)))
    have HB8 := Lib.hid (HB7.out.trans (hm8.below (Nat.le_succ _) HB7.out.size))
    have HF8 := Lib.hid (HF7.out.moved hm8 HR3.out.lt)
    clear hr8 hm8
    obtain ⟨y0, y1, _, _⟩ := HR8.out
    go_wp2_with fail
    clear y0 y1
    refine (cE _ _ _ _ HR8.out).mono ?_
    rintro e w9 ⟨rfl, hr9, hm9⟩
    rw [hk1.out] at hr9
    have HR9 := Lib.hid hr9
    have HA9 := Lib.hid (HA8.out.moved hm9 (Nat.ne_of_lt (Nat.lt_succ_self _)))
    have HB9 := Lib.hid (HB8.out.trans (hm9.below (Nat.le_succ _) HB8.out.size))
    have HF9 := Lib.hid (HF8.out.moved hm9 HR3.out.lt)
    clear hr9 hm9
    obtain ⟨y0, y1, _, _⟩ := HR9.out
    go_wp2_with fail
    clear y0 y1
    refine (cW _ _ _ HF9.out).mono ?_
    rintro e w10 ⟨⟨u10, rfl, hown⟩, hb10⟩
    have HA10 := Lib.hid (HA9.out.next hb10 HA9.out.lt)
    have HB10 := Lib.hid (HB9.out.trans (hb10.mono HB9.out.size))
    obtain ⟨bo, ko, rfl⟩ := owns_formF hown
    have hFo : Flds w9.heap.size w10 (.slice bo (lesL fs).length ko) (lesL fs) := Flds.of_own hown (Nat.le_refl _)
    have hcv := Lib.run_convert_string_bytes (P := Tryz.prog) w10 9 24 5 SB (u := .string) Tryz.underlying9 Tryz.underlying24 Tryz.underlying5
    have hb8 : Below w10.heap.size w10 (Lib.bytesWorld w10 5 SB) := Go.Joins.below_bytesWorld _ w10 5 SB (Nat.le_refl _)
    have hB8 := BytF.made w10 SB
    obtain ⟨W8, hW8⟩ : ∃ W8, Lib.bytesWorld w10 5 SB = W8 := ⟨_, rfl⟩
    generalize grownCap w10 SB.size 0 5 = cp at *
    rw [hW8] at hcv hb8 hB8
    rw [hbd2, hbz] at hB8
    have hF8 := hFo.below hb8
    have HA8 := Lib.hid (HA10.out.next hb8 HA10.out.lt)
    have HB8 := Lib.hid (HB10.out.trans (hb8.mono HB10.out.size))
    have HF8 := Lib.hid hF8
    have HY8 := Lib.hid hB8
    have hlw := HA10.out.lt
    have hlp := HA9.out.lt
    clear hown hb10 hb8 hW8 hFo hF8 hB8 hbd2
    have hla := HA8.out.lt
    obtain ⟨a0, a1, a2, e0, e1, e2⟩ := HA8.out
    go_wp2_with fail
    refine bodyPost_ret (v := .tuple #[.agg #[.int .i64 nn, .slice bo (lesL fs).length ko, .slice (some ⟨w10.heap.size, 0, none⟩) b.length cp], .int .i64 0]) (by simp [results, Tryz.results10, go_sem, a0, a1, a2]) rfl ?_
    refine ⟨?_, _, _, rfl, (HF8.out.moved (x := w.heap.size) ?_ hlp).low HB9.out.size, (HY8.out.moved (x := w.heap.size) ?_ hlw).low HB10.out.size⟩
    · repeat (first | with_reducible refine Below.alloc ?_ (by simp; omega) _ | with_reducible refine Below.setCell ?_ (by simp) _ | with_reducible refine Below.drew ?_)
      exact HB8.out
    · repeat (first | with_reducible refine Moved.drew1 ?_ | with_reducible refine Moved.alloc ?_ _ | with_reducible refine Moved.setCell ?_ _)
      exact Moved.refl _ _
    · repeat (first | with_reducible refine Moved.drew1 ?_ | with_reducible refine Moved.alloc ?_ _ | with_reducible refine Moved.setCell ?_ _)
      exact Moved.refl _ _
  · subst hba
    have hq : (k == -2) = true := by rewrite [hk]; decide
    clear hk
    go_wp2_with fail
    refine (cA _).mono ?_
    rintro e w7 ⟨rfl, hb7⟩
    have HR7 := Lib.hid (HR6.out.below hb7)
    have HA7 := Lib.hid (HA6.out.next hb7 HA6.out.lt)
    have HB7 := Lib.hid (HB6.out.trans (hb7.mono HB6.out.size))
    have HF7 := Lib.hid (HF6.out.below hb7)
    clear hb7
    obtain ⟨y0, y1, _, _⟩ := HR7.out
    go_wp2_with fail
    clear y0 y1
    refine (cB _ HR7.out (Utf8Tabs_below HT.out HB7.out) (HE.out.below HB7.out)).mono ?_
    rintro e w8 ⟨rfl, hr8, hm8⟩
    have HR8 := Lib.hid hr8
    have HA8 := Lib.hid (HA7.out.moved hm8 (Nat.ne_of_lt (Nat.lt_succ_self _)))
    have HB8 := Lib.hid (HB7.out.trans (hm8.below (Nat.le_succ _) HB7.out.size))
    have HF8 := Lib.hid (HF7.out.moved hm8 HR3.out.lt)
    clear hr8 hm8
    obtain ⟨y0, y1, _, _⟩ := HR8.out
    go_wp2_with fail
    clear y0 y1
    refine (cE _ _ _ _ HR8.out).mono ?_
    rintro e w9 ⟨rfl, hr9, hm9⟩
    rw [hk1.out] at hr9
    have HR9 := Lib.hid hr9
    have HA9 := Lib.hid (HA8.out.moved hm9 (Nat.ne_of_lt (Nat.lt_succ_self _)))
    have HB9 := Lib.hid (HB8.out.trans (hm9.below (Nat.le_succ _) HB8.out.size))
    have HF9 := Lib.hid (HF8.out.moved hm9 HR3.out.lt)
    clear hr9 hm9
    obtain ⟨y0, y1, _, _⟩ := HR9.out
    go_wp2_with fail
    clear y0 y1
    refine (cW _ _ _ HF9.out).mono ?_
    rintro e w10 ⟨⟨u10, rfl, hown⟩, hb10⟩
    have HA10 := Lib.hid (HA9.out.next hb10 HA9.out.lt)
    have HB10 := Lib.hid (HB9.out.trans (hb10.mono HB9.out.size))
    obtain ⟨bo, ko, rfl⟩ := owns_formF hown
    have hFo : Flds w9.heap.size w10 (.slice bo (lesL fs).length ko) (lesL fs) := Flds.of_own hown (Nat.le_refl _)
    have hcv := Lib.run_convert_string_bytes (P := Tryz.prog) w10 9 24 5 SB (u := .string) Tryz.underlying9 Tryz.underlying24 Tryz.underlying5
    have hb8 : Below w10.heap.size w10 (Lib.bytesWorld w10 5 SB) := Go.Joins.below_bytesWorld _ w10 5 SB (Nat.le_refl _)
    have hB8 := BytF.made w10 SB
    obtain ⟨W8, hW8⟩ : ∃ W8, Lib.bytesWorld w10 5 SB = W8 := ⟨_, rfl⟩
    generalize grownCap w10 SB.size 0 5 = cp at *
    rw [hW8] at hcv hb8 hB8
    rw [hbd2, hbz] at hB8
    have hF8 := hFo.below hb8
    have HA8 := Lib.hid (HA10.out.next hb8 HA10.out.lt)
    have HB8 := Lib.hid (HB10.out.trans (hb8.mono HB10.out.size))
    have HF8 := Lib.hid hF8
    have HY8 := Lib.hid hB8
    have hlw := HA10.out.lt
    have hlp := HA9.out.lt
    clear hown hb10 hb8 hW8 hFo hF8 hB8 hbd2
    have hla := HA8.out.lt
    obtain ⟨a0, a1, a2, e0, e1, e2⟩ := HA8.out
    go_wp2_with fail
    refine bodyPost_ret (v := .tuple #[.agg #[.int .i64 nn, .slice bo (lesL fs).length ko, .slice (some ⟨w10.heap.size, 0, none⟩) b.length cp], .int .i64 0]) (by simp [results, Tryz.results10, go_sem, a0, a1, a2]) rfl ?_
    refine ⟨?_, _, _, rfl, (HF8.out.moved (x := w.heap.size) ?_ hlp).low HB9.out.size, (HY8.out.moved (x := w.heap.size) ?_ hlw).low HB10.out.size⟩
    · repeat (first | with_reducible refine Below.alloc ?_ (by simp; omega) _ | with_reducible refine Below.setCell ?_ (by simp) _ | with_reducible refine Below.drew ?_)
      exact HB8.out
    · repeat (first | with_reducible refine Moved.drew1 ?_ | with_reducible refine Moved.alloc ?_ _ | with_reducible refine Moved.setCell ?_ _)
      exact Moved.refl _ _
    · repeat (first | with_reducible refine Moved.drew1 ?_ | with_reducible refine Moved.alloc ?_ _ | with_reducible refine Moved.setCell ?_ _)
      exact Moved.refl _ _
  · subst hba
    have hq : (z == -2) = false := by rewrite [beq_eq_false_iff_ne]; exact hk
    clear hk
    go_wp2_with fail
    refine (cA _).mono ?_
    rintro e w7 ⟨rfl, hb7⟩
    have HR7 := Lib.hid (HR6.out.below hb7)
    have HA7 := Lib.hid (HA6.out.next hb7 HA6.out.lt)
    have HB7 := Lib.hid (HB6.out.trans (hb7.mono HB6.out.size))
    have HF7 := Lib.hid (HF6.out.below hb7)
    clear hb7
    obtain ⟨y0, y1, _, _⟩ := HR7.out
    go_wp2_with fail
    clear y0 y1
    refine (cB _ HR7.out (Utf8Tabs_below HT.out HB7.out) (HE.out.below HB7.out)).mono ?_
    rintro e w8 ⟨rfl, hr8, hm8⟩
    have HR8 := Lib.hid hr8
    have HA8 := Lib.hid (HA7.out.moved hm8 (Nat.ne_of_lt (Nat.lt_succ_self _)))
    have HB8 := Lib.hid (HB7.out.trans (hm8.below (Nat.le_succ _) HB7.out.size))
    have HF8 := Lib.hid (HF7.out.moved hm8 HR3.out.lt)
    clear hr8 hm8
    obtain ⟨y0, y1, _, _⟩ := HR8.out
    go_wp2_with fail
    clear y0 y1
    refine (cE _ _ _ _ HR8.out).mono ?_
    rintro e w9 ⟨rfl, hr9, hm9⟩
    rw [hk1.out] at hr9
    have HR9 := Lib.hid hr9
    have HA9 := Lib.hid (HA8.out.moved hm9 (Nat.ne_of_lt (Nat.lt_succ_self _)))
    have HB9 := Lib.hid (HB8.out.trans (hm9.below (Nat.le_succ _) HB8.out.size))
    have HF9 := Lib.hid (HF8.out.moved hm9 HR3.out.lt)
    clear hr9 hm9
    obtain ⟨y0, y1, _, _⟩ := HR9.out
    go_wp2_with fail
    clear y0 y1
    refine (cW _ _ _ HF9.out).mono ?_
    rintro e w10 ⟨⟨u10, rfl, hown⟩, hb10⟩
    have HA10 := Lib.hid (HA9.out.next hb10 HA9.out.lt)
    have HB10 := Lib.hid (HB9.out.trans (hb10.mono HB9.out.size))
    obtain ⟨bo, ko, rfl⟩ := owns_formF hown
    have hFo : Flds w9.heap.size w10 (.slice bo (lesL fs).length ko) (lesL fs) := Flds.of_own hown (Nat.le_refl _)
    have hcv := Lib.run_convert_string_bytes (P := Tryz.prog) w10 9 24 5 SB (u := .string) Tryz.underlying9 Tryz.underlying24 Tryz.underlying5
    have hb8 : Below w10.heap.size w10 (Lib.bytesWorld w10 5 SB) := Go.Joins.below_bytesWorld _ w10 5 SB (Nat.le_refl _)
    have hB8 := BytF.made w10 SB
    obtain ⟨W8, hW8⟩ : ∃ W8, Lib.bytesWorld w10 5 SB = W8 := ⟨_, rfl⟩
    generalize grownCap w10 SB.size 0 5 = cp at *
    rw [hW8] at hcv hb8 hB8
    rw [hbd2, hbz] at hB8
    have hF8 := hFo.below hb8
    have HA8 := Lib.hid (HA10.out.next hb8 HA10.out.lt)
    have HB8 := Lib.hid (HB10.out.trans (hb8.mono HB10.out.size))
    have HF8 := Lib.hid hF8
    have HY8 := Lib.hid hB8
    have hlw := HA10.out.lt
    have hlp := HA9.out.lt
    clear hown hb10 hb8 hW8 hFo hF8 hB8 hbd2
    have hla := HA8.out.lt
    obtain ⟨a0, a1, a2, e0, e1, e2⟩ := HA8.out
    go_wp2_with fail
    refine bodyPost_ret (v := .tuple #[.agg #[.int .i64 nn, .slice bo (lesL fs).length ko, .slice (some ⟨w10.heap.size, 0, none⟩) b.length cp], .int .i64 0]) (by simp [results, Tryz.results10, go_sem, a0, a1, a2]) rfl ?_
    refine ⟨?_, _, _, rfl, (HF8.out.moved (x := w.heap.size) ?_ hlp).low HB9.out.size, (HY8.out.moved (x := w.heap.size) ?_ hlw).low HB10.out.size⟩
    · repeat (first | with_reducible refine Below.alloc ?_ (by simp; omega) _ | with_reducible refine Below.setCell ?_ (by simp) _ | with_reducible refine Below.drew ?_)
      exact HB8.out
    · repeat (first | with_reducible refine Moved.drew1 ?_ | with_reducible refine Moved.alloc ?_ _ | with_reducible refine Moved.setCell ?_ _)
      exact Moved.refl _ _
    · repeat (first | with_reducible refine Moved.drew1 ?_ | with_reducible refine Moved.alloc ?_ _ | with_reducible refine Moved.setCell ?_ _)
      exact Moved.refl _ _

end Go.Proofs.YthbfcamfapgodaaGreatDoor
