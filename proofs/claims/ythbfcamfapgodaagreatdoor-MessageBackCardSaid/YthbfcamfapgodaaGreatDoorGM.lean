/- The contract of message.ReadRequest, way by way. -/
import Derived.Test.YthbfcamfapgodaaGreatDoorGI
import Derived.Test.YthbfcamfapgodaaGreatDoorGJ
import Derived.Test.YthbfcamfapgodaaGreatDoorGL
import Derived.RegionTactic
import Derived.ChangeAlike

namespace Go.Proofs.YthbfcamfapgodaaGreatDoor
open Go.RowKit Go.Shelf Go.Lib

set_option maxRecDepth 100000 in
set_option maxHeartbeats 8000000 in
theorem mreadq_e1 (s : ByteArray) (w : World) (hs : s.size ≤ 90000) (hT : Tabs w) (hE : Errs w) (ln rs : List UInt8) (y x : Int) (hv : lnxV s.data.toList = .tuple #[.string (strB ln), .string (strB rs), .int .i64 y]) (hln : ln.length ≤ 100000) (hf : frL ln = none) (hx : x ≠ 0) (hxe : reqE y false = x) :
    Calls Tryz.prog 8 #[.string s] w (rqPost (.error x) w) := by
  have HR0 := Lib.hid (Rdr.made w nilQ s)
  have HA0 : Hid (Nil4 ((w.alloc nilQ).alloc (.cells #[.string s, .int .i64 0] 46)) w.heap.size) := Lib.hid ((Nil4.made w).next ((Below.refl (w.heap.size + 1) (w.alloc nilQ)).alloc (by simp) _) (Nat.lt_succ_self _))
  have HB0 : Hid (Below w.heap.size w ((w.alloc nilQ).alloc (.cells #[.string s, .int .i64 0] 46))) := Lib.hid (((Below.refl w.heap.size w).alloc (Nat.le_refl _) nilQ).alloc (by simp) _)
  have HT := Lib.hid hT
  have HE := Lib.hid hE
  clear hT hE
  have cE := fun (t : ByteArray) (x : Int) (is : Bool) W h => mrequire_any (w.heap.size + 1) t x is W h
  have cL := fun W h => mline_at (w.heap.size + 1) s W ln rs y hs hv h
  have cQ := fun W => mreq_no ln W hln hf
  have cF := fun t W h => mfields_err (w.heap.size + 1) t x W h hx
  have cH := fun W => mhost_any 0 (.slice none 0 0) [] W (Flds.nothing _ _) (by decide)
  rw [show decide ((allH [] hoN).length = 1) = false from rfl] at cH
  have cN := fun W => mlength_any 0 (.slice none 0 0) [] W (Flds.nothing _ _) ⟨by decide, fun p hp => by cases hp⟩
  rw [lnM_nil, show lnV (-2, true) = .tuple #[.int .i64 (-2), .bool true] from rfl] at cN
  have cB := fun t W h => mbody_err (w.heap.size + 1) t x 0 W h hx
  have hk1 := Lib.hid (reqE_keep hx)
  have HX := Lib.hid hxe
  have hne : (x != 0) = true := by rewrite [bne_iff_ne]; exact hx
  clear hs hv hln hf hxe hx
  generalize strB ln = SL at *
  generalize strB rs = SR at *
  go_enter Tryz.func8, Tryz.ntmps8
  go_wp2_with fail
  refine (cL _ HR0.out).mono ?_
  rintro e w1 ⟨rfl, hr1, hm1⟩
  have HR1 := Lib.hid hr1
  have HA1 := Lib.hid (HA0.out.moved hm1 (Nat.ne_of_lt (Nat.lt_succ_self _)))
  have HB1 := Lib.hid (HB0.out.trans (hm1.below (Nat.le_succ _) HB0.out.size))
  clear hr1 hm1
  go_wp2_with fail
  refine (cQ _).mono ?_
  rintro e w2 ⟨⟨M, T, rfl⟩, hb2⟩
  have HR2 := Lib.hid (HR1.out.below hb2)
  have HA2 := Lib.hid (HA1.out.next hb2 HA1.out.lt)
  have HB2 := Lib.hid (HB1.out.trans (hb2.mono HB1.out.size))
  clear hb2
  go_wp2_with fail
  refine (cE _ _ _ _ HR2.out).mono ?_
  rintro e w3 ⟨rfl, hr3, hm3⟩
  rw [HX.out] at hr3
  have HR3 := Lib.hid hr3
  have HA3 := Lib.hid (HA2.out.moved hm3 (Nat.ne_of_lt (Nat.lt_succ_self _)))
  have HB3 := Lib.hid (HB2.out.trans (hm3.below (Nat.le_succ _) HB2.out.size))
  clear hr3 hm3
  go_wp2_with fail
  refine (cF _ _ HR3.out).mono ?_
  rintro e _ ⟨rfl, rfl⟩
  go_wp2_with fail
  refine (cH _).mono ?_
  rintro e w4 ⟨rfl, hb4⟩
  have HR4 := Lib.hid (HR3.out.below hb4)
  have HA4 := Lib.hid (HA3.out.next hb4 HA3.out.lt)
  have HB4 := Lib.hid (HB3.out.trans (hb4.mono HB3.out.size))
  clear hb4
  go_wp2_with fail
  refine (cE _ _ _ _ HR4.out).mono ?_
  rintro e w5 ⟨rfl, hr5, hm5⟩
  rw [hk1.out] at hr5
  have HR5 := Lib.hid hr5
  have HA5 := Lib.hid (HA4.out.moved hm5 (Nat.ne_of_lt (Nat.lt_succ_self _)))
  have HB5 := Lib.hid (HB4.out.trans (hm5.below (Nat.le_succ _) HB4.out.size))
  clear hr5 hm5
  go_wp2_with fail
  refine (cN _).mono ?_
  rintro e w6 ⟨rfl, hb6⟩
  have HR6 := Lib.hid (HR5.out.below hb6)
  have HA6 := Lib.hid (HA5.out.next hb6 HA5.out.lt)
  have HB6 := Lib.hid (HB5.out.trans (hb6.mono HB5.out.size))
  clear hb6
  go_wp2_with fail
  refine (cE _ _ _ _ HR6.out).mono ?_
  rintro e w7 ⟨rfl, hr7, hm7⟩
  rw [hk1.out] at hr7
  have HR7 := Lib.hid hr7
  have HA7 := Lib.hid (HA6.out.moved hm7 (Nat.ne_of_lt (Nat.lt_succ_self _)))
  have HB7 := Lib.hid (HB6.out.trans (hm7.below (Nat.le_succ _) HB6.out.size))
  clear hr7 hm7
  go_wp2_with fail
  refine (cB _ _ HR7.out).mono ?_
  rintro e _ ⟨rfl, rfl⟩
  have hla := HA7.out.lt
  obtain ⟨a0, a1, a2, a3, e0, e1, e2, e3⟩ := HA7.out
  obtain ⟨x0, x1, _, _⟩ := HR7.out
  go_wp2_with fail
  go_region
  all_goals
    go_wp2_with fail
    refine bodyPost_ret (v := .tuple #[.agg #[.string ⟨#[]⟩, .string ⟨#[]⟩, .slice none 0 0, .slice none 0 0], .int .i64 0, .int .i64 x]) (by simp [results, Tryz.results8, go_sem, a0, a1, a2, a3]) rfl ?_
    refine ⟨?_, rfl⟩
    repeat (first | with_reducible refine Below.alloc ?_ (by simp; omega) _ | with_reducible refine Below.setCell ?_ (by simp) _ | with_reducible refine Below.drew ?_)
    exact HB7.out

set_option maxRecDepth 100000 in
set_option maxHeartbeats 8000000 in
theorem mreadq_e2 (s : ByteArray) (w : World) (hs : s.size ≤ 90000) (hT : Tabs w) (hE : Errs w) (ln r1 m t : List UInt8) (x : Int) (hv : lnxV s.data.toList = .tuple #[.string (strB ln), .string (strB r1), .int .i64 0]) (hln : ln.length ≤ 100000) (hf : frL ln = some (m, t)) (hl1 : r1.length ≤ 90000) (h3 : parseH r1 = .error x) (hx : x ≠ 0) :
    Calls Tryz.prog 8 #[.string s] w (rqPost (.error x) w) := by
  have HR0 := Lib.hid (Rdr.made w nilQ s)
  have HA0 : Hid (Nil4 ((w.alloc nilQ).alloc (.cells #[.string s, .int .i64 0] 46)) w.heap.size) := Lib.hid ((Nil4.made w).next ((Below.refl (w.heap.size + 1) (w.alloc nilQ)).alloc (by simp) _) (Nat.lt_succ_self _))
  have HB0 : Hid (Below w.heap.size w ((w.alloc nilQ).alloc (.cells #[.string s, .int .i64 0] 46))) := Lib.hid (((Below.refl w.heap.size w).alloc (Nat.le_refl _) nilQ).alloc (by simp) _)
  have HT := Lib.hid hT
  have HE := Lib.hid hE
  clear hT hE
  have cE := fun (t : ByteArray) (x : Int) (is : Bool) W h => mrequire_any (w.heap.size + 1) t x is W h
  have cL := fun W h => mline_at (w.heap.size + 1) s W ln r1 0 hs hv h
  have cQ := fun W => mreq_ok ln m t W hln hf
  have cF := fun W h hT => mfld_no (w.heap.size + 1) r1 W hl1 x h3 h hT
  have cH := fun W => mhost_any 0 (.slice none 0 0) [] W (Flds.nothing _ _) (by decide)
  rw [show decide ((allH [] hoN).length = 1) = false from rfl] at cH
  have cN := fun W => mlength_any 0 (.slice none 0 0) [] W (Flds.nothing _ _) ⟨by decide, fun p hp => by cases hp⟩
  rw [lnM_nil, show lnV (-2, true) = .tuple #[.int .i64 (-2), .bool true] from rfl] at cN
  have cB := fun t W h => mbody_err (w.heap.size + 1) t x 0 W h hx
  have hk1 := Lib.hid (reqE_keep hx)
  have hk0 : Hid (reqE 0 true = 0) := Lib.hid rfl
  have hne : (x != 0) = true := by rewrite [bne_iff_ne]; exact hx
  clear hs hv hln hf hl1 h3 hx
  generalize strB ln = SL at *
  generalize strB r1 = SR at *
  generalize strB m = SM at *
  generalize strB t = ST at *
  go_enter Tryz.func8, Tryz.ntmps8
  go_wp2_with fail
  refine (cL _ HR0.out).mono ?_
  rintro e w1 ⟨rfl, hr1, hm1⟩
  have HR1 := Lib.hid hr1
  have HA1 := Lib.hid (HA0.out.moved hm1 (Nat.ne_of_lt (Nat.lt_succ_self _)))
  have HB1 := Lib.hid (HB0.out.trans (hm1.below (Nat.le_succ _) HB0.out.size))
  clear hr1 hm1
  go_wp2_with fail
  refine (cQ _).mono ?_
  rintro e w2 ⟨rfl, hb2⟩
  have HR2 := Lib.hid (HR1.out.below hb2)
  have HA2 := Lib.hid (HA1.out.next hb2 HA1.out.lt)
  have HB2 := Lib.hid (HB1.out.trans (hb2.mono HB1.out.size))
  clear hb2
  go_wp2_with fail
  refine (cE _ _ _ _ HR2.out).mono ?_
  rintro e w3 ⟨rfl, hr3, hm3⟩
  rw [hk0.out] at hr3
  have HR3 := Lib.hid hr3
  have HA3 := Lib.hid (HA2.out.moved hm3 (Nat.ne_of_lt (Nat.lt_succ_self _)))
  have HB3 := Lib.hid (HB2.out.trans (hm3.below (Nat.le_succ _) HB2.out.size))
  clear hr3 hm3
  go_wp2_with fail
  refine (cF _ HR3.out (Utf8Tabs_below HT.out HB3.out)).mono ?_
  rintro e w4 ⟨rfl, hr4, hm4⟩
  have HR4 := Lib.hid hr4
  have HA4 := Lib.hid (HA3.out.moved hm4 (Nat.ne_of_lt (Nat.lt_succ_self _)))
  have HB4 := Lib.hid (HB3.out.trans (hm4.below (Nat.le_succ _) HB3.out.size))
  clear hr4 hm4
  go_wp2_with fail
  refine (cH _).mono ?_
  rintro e w5 ⟨rfl, hb5⟩
  have HR5 := Lib.hid (HR4.out.below hb5)
  have HA5 := Lib.hid (HA4.out.next hb5 HA4.out.lt)
  have HB5 := Lib.hid (HB4.out.trans (hb5.mono HB4.out.size))
  clear hb5
  go_wp2_with fail
  refine (cE _ _ _ _ HR5.out).mono ?_
  rintro e w6 ⟨rfl, hr6, hm6⟩
  rw [hk1.out] at hr6
  have HR6 := Lib.hid hr6
  have HA6 := Lib.hid (HA5.out.moved hm6 (Nat.ne_of_lt (Nat.lt_succ_self _)))
  have HB6 := Lib.hid (HB5.out.trans (hm6.below (Nat.le_succ _) HB5.out.size))
  clear hr6 hm6
  go_wp2_with fail
  refine (cN _).mono ?_
  rintro e w7 ⟨rfl, hb7⟩
  have HR7 := Lib.hid (HR6.out.below hb7)
  have HA7 := Lib.hid (HA6.out.next hb7 HA6.out.lt)
  have HB7 := Lib.hid (HB6.out.trans (hb7.mono HB6.out.size))
  clear hb7
  go_wp2_with fail
  refine (cE _ _ _ _ HR7.out).mono ?_
  rintro e w8 ⟨rfl, hr8, hm8⟩
  rw [hk1.out] at hr8
  have HR8 := Lib.hid hr8
  have HA8 := Lib.hid (HA7.out.moved hm8 (Nat.ne_of_lt (Nat.lt_succ_self _)))
  have HB8 := Lib.hid (HB7.out.trans (hm8.below (Nat.le_succ _) HB7.out.size))
  clear hr8 hm8
  go_wp2_with fail
  refine (cB _ _ HR8.out).mono ?_
  rintro e _ ⟨rfl, rfl⟩
  have hla := HA8.out.lt
  obtain ⟨a0, a1, a2, a3, e0, e1, e2, e3⟩ := HA8.out
  obtain ⟨x0, x1, _, _⟩ := HR8.out
  go_wp2_with fail
  go_region
  all_goals
    go_wp2_with fail
    refine bodyPost_ret (v := .tuple #[.agg #[.string ⟨#[]⟩, .string ⟨#[]⟩, .slice none 0 0, .slice none 0 0], .int .i64 0, .int .i64 x]) (by simp [results, Tryz.results8, go_sem, a0, a1, a2, a3]) rfl ?_
    refine ⟨?_, rfl⟩
    repeat (first | with_reducible refine Below.alloc ?_ (by simp; omega) _ | with_reducible refine Below.setCell ?_ (by simp) _ | with_reducible refine Below.drew ?_)
    exact HB8.out

set_option maxRecDepth 100000 in
set_option maxHeartbeats 8000000 in
theorem mreadq_e34 (s : ByteArray) (w : World) (hs : s.size ≤ 90000) (hT : Tabs w) (hE : Errs w) (ln r1 m t : List UInt8) (fs : List Fld) (n : Nat) (hb is : Bool) (k : Int) (hv : lnxV s.data.toList = .tuple #[.string (strB ln), .string (strB r1), .int .i64 0]) (hln : ln.length ≤ 100000) (hf : frL ln = some (m, t)) (hl1 : r1.length ≤ 90000) (h3 : parseH r1 = .ok (fs, n)) (h4 : decide ((allH fs hoN).length = 1) = hb) (h5 : lnM fs = (k, is)) (h6 : reqE (reqE 0 hb) is = 2) :
    Calls Tryz.prog 8 #[.string s] w (rqPost (.error 2) w) := by
  have HR0 := Lib.hid (Rdr.made w nilQ s)
  have HA0 : Hid (Nil4 ((w.alloc nilQ).alloc (.cells #[.string s, .int .i64 0] 46)) w.heap.size) := Lib.hid ((Nil4.made w).next ((Below.refl (w.heap.size + 1) (w.alloc nilQ)).alloc (by simp) _) (Nat.lt_succ_self _))
  have HB0 : Hid (Below w.heap.size w ((w.alloc nilQ).alloc (.cells #[.string s, .int .i64 0] 46))) := Lib.hid (((Below.refl w.heap.size w).alloc (Nat.le_refl _) nilQ).alloc (by simp) _)
  have HT := Lib.hid hT
  have HE := Lib.hid hE
  clear hT hE
  have cE := fun (t : ByteArray) (x : Int) (is : Bool) W h => mrequire_any (w.heap.size + 1) t x is W h
  have cL := fun W h => mline_at (w.heap.size + 1) s W ln r1 0 hs hv h
  have cQ := fun W => mreq_ok ln m t W hln hf
  have cF := fun W h hT => mfld_ok (w.heap.size + 1) r1 W hl1 fs n h3 h hT
  have hfk := parse_ok _ _ _ h3
  have cH := fun lo v W h => mhost_any lo v fs W h hfk.1
  have cN := fun lo v W h => mlength_any lo v fs W h hfk
  rw [h4] at cH
  rw [h5, show lnV (k, is) = .tuple #[.int .i64 k, .bool is] from rfl] at cN
  have cB := fun t z W h => mbody_err (w.heap.size + 1) t 2 z W h (by decide)
  have hk0 : Hid (reqE 0 true = 0) := Lib.hid rfl
  have hk2 := Lib.hid h6
  have hne : ((2 : Int) != 0) = true := by decide
  clear hs hv hln hf hl1 h3 h4 h5 h6 hfk
  generalize strB ln = SL at *
  generalize strB r1 = SR at *
  generalize strB m = SM at *
  generalize strB t = ST at *
  generalize strB (r1.drop n) = SD at *
  go_enter Tryz.func8, Tryz.ntmps8
  go_wp2_with fail
  refine (cL _ HR0.out).mono ?_
  rintro e w1 ⟨rfl, hr1, hm1⟩
  have HR1 := Lib.hid hr1
  have HA1 := Lib.hid (HA0.out.moved hm1 (Nat.ne_of_lt (Nat.lt_succ_self _)))
  have HB1 := Lib.hid (HB0.out.trans (hm1.below (Nat.le_succ _) HB0.out.size))
  clear hr1 hm1
  go_wp2_with fail
  refine (cQ _).mono ?_
  rintro e w2 ⟨rfl, hb2⟩
  have HR2 := Lib.hid (HR1.out.below hb2)
  have HA2 := Lib.hid (HA1.out.next hb2 HA1.out.lt)
  have HB2 := Lib.hid (HB1.out.trans (hb2.mono HB1.out.size))
  clear hb2
  go_wp2_with fail
  refine (cE _ _ _ _ HR2.out).mono ?_
  rintro e w3 ⟨rfl, hr3, hm3⟩
  rw [hk0.out] at hr3
  have HR3 := Lib.hid hr3
  have HA3 := Lib.hid (HA2.out.moved hm3 (Nat.ne_of_lt (Nat.lt_succ_self _)))
  have HB3 := Lib.hid (HB2.out.trans (hm3.below (Nat.le_succ _) HB2.out.size))
  clear hr3 hm3
  go_wp2_with fail
  refine (cF _ HR3.out (Utf8Tabs_below HT.out HB3.out)).mono ?_
  rintro e w4 ⟨⟨v4, rfl, hf4⟩, hr4, hm4⟩
  have HR4 := Lib.hid hr4
  have HA4 := Lib.hid (HA3.out.moved hm4 (Nat.ne_of_lt (Nat.lt_succ_self _)))
  have HB4 := Lib.hid (HB3.out.trans (hm4.below (Nat.le_succ _) HB3.out.size))
  clear hr4 hm4
  have HF4 := Lib.hid hf4
  obtain ⟨ao, cap, rfl, _⟩ := hf4
  go_wp2_with fail
  refine (cH _ _ _ HF4.out).mono ?_
  rintro e w5 ⟨rfl, hb5⟩
  have HR5 := Lib.hid (HR4.out.below hb5)
  have HA5 := Lib.hid (HA4.out.next hb5 HA4.out.lt)
  have HB5 := Lib.hid (HB4.out.trans (hb5.mono HB4.out.size))
  have HF5 := Lib.hid (HF4.out.below hb5)
  clear hb5
  go_wp2_with fail
  refine (cE _ _ _ _ HR5.out).mono ?_
  rintro e w6 ⟨rfl, hr6, hm6⟩
  have HR6 := Lib.hid hr6
  have HA6 := Lib.hid (HA5.out.moved hm6 (Nat.ne_of_lt (Nat.lt_succ_self _)))
  have HB6 := Lib.hid (HB5.out.trans (hm6.below (Nat.le_succ _) HB5.out.size))
  have HF6 := Lib.hid (HF5.out.moved hm6 HR3.out.lt)
  clear hr6 hm6
  go_wp2_with fail
  refine (cN _ _ _ HF6.out).mono ?_
  rintro e w7 ⟨rfl, hb7⟩
  have HR7 := Lib.hid (HR6.out.below hb7)
  have HA7 := Lib.hid (HA6.out.next hb7 HA6.out.lt)
  have HB7 := Lib.hid (HB6.out.trans (hb7.mono HB6.out.size))
  have HF7 := Lib.hid (HF6.out.below hb7)
  clear hb7
  go_wp2_with fail
  refine (cE _ _ _ _ HR7.out).mono ?_
  rintro e w8 ⟨rfl, hr8, hm8⟩
  rw [hk2.out] at hr8
  have HR8 := Lib.hid hr8
  have HA8 := Lib.hid (HA7.out.moved hm8 (Nat.ne_of_lt (Nat.lt_succ_self _)))
  have HB8 := Lib.hid (HB7.out.trans (hm8.below (Nat.le_succ _) HB7.out.size))
  have HF8 := Lib.hid (HF7.out.moved hm8 HR3.out.lt)
  clear hr8 hm8
  by_cases hk : k = -2
  · have hq : (k == -2) = true := by rewrite [hk]; decide
    clear hk
    go_wp2_with fail
    refine (cB _ _ _ HR8.out).mono ?_
    rintro e _ ⟨rfl, rfl⟩
    have hla := HA8.out.lt
    obtain ⟨a0, a1, a2, a3, e0, e1, e2, e3⟩ := HA8.out
    obtain ⟨x0, x1, _, _⟩ := HR8.out
    go_wp2_with fail
    go_region
    all_goals
      go_wp2_with fail
      refine bodyPost_ret (v := .tuple #[.agg #[.string ⟨#[]⟩, .string ⟨#[]⟩, .slice none 0 0, .slice none 0 0], .int .i64 0, .int .i64 2]) (by simp [results, Tryz.results8, go_sem, a0, a1, a2, a3]) rfl ?_
      refine ⟨?_, rfl⟩
      repeat (first | with_reducible refine Below.alloc ?_ (by simp; omega) _ | with_reducible refine Below.setCell ?_ (by simp) _ | with_reducible refine Below.drew ?_)
      exact HB8.out
  · have hq : (k == -2) = false := by rewrite [beq_eq_false_iff_ne]; exact hk
    clear hk
    go_wp2_with fail
    refine (cB _ _ _ HR8.out).mono ?_
    rintro e _ ⟨rfl, rfl⟩
    have hla := HA8.out.lt
    obtain ⟨a0, a1, a2, a3, e0, e1, e2, e3⟩ := HA8.out
    obtain ⟨x0, x1, _, _⟩ := HR8.out
    go_wp2_with fail
    go_region
    all_goals
      go_wp2_with fail
      refine bodyPost_ret (v := .tuple #[.agg #[.string ⟨#[]⟩, .string ⟨#[]⟩, .slice none 0 0, .slice none 0 0], .int .i64 0, .int .i64 2]) (by simp [results, Tryz.results8, go_sem, a0, a1, a2, a3]) rfl ?_
      refine ⟨?_, rfl⟩
      repeat (first | with_reducible refine Below.alloc ?_ (by simp; omega) _ | with_reducible refine Below.setCell ?_ (by simp) _ | with_reducible refine Below.drew ?_)
      exact HB8.out

set_option maxRecDepth 100000 in
set_option maxHeartbeats 8000000 in
theorem mreadq_e5 (s : ByteArray) (w : World) (hs : s.size ≤ 90000) (hT : Tabs w) (hE : Errs w) (ln r1 m t : List UInt8) (fs : List Fld) (n : Nat) (k z x : Int) (hv : lnxV s.data.toList = .tuple #[.string (strB ln), .string (strB r1), .int .i64 0]) (hln : ln.length ≤ 100000) (hf : frL ln = some (m, t)) (hl1 : r1.length ≤ 90000) (h3 : parseH r1 = .ok (fs, n)) (h4 : decide ((allH fs hoN).length = 1) = true) (h5 : lnM fs = (k, true)) (hz : (k = -2 ∧ z = 0) ∨ (k ≠ -2 ∧ z = k)) (hz1 : -1 ≤ z) (h6 : bodM (r1.drop n) z = .error x) (hx : x ≠ 0) :
    Calls Tryz.prog 8 #[.string s] w (rqPost (.error x) w) := by
  have HR0 := Lib.hid (Rdr.made w nilQ s)
  have HA0 : Hid (Nil4 ((w.alloc nilQ).alloc (.cells #[.string s, .int .i64 0] 46)) w.heap.size) := Lib.hid ((Nil4.made w).next ((Below.refl (w.heap.size + 1) (w.alloc nilQ)).alloc (by simp) _) (Nat.lt_succ_self _))
  have HB0 : Hid (Below w.heap.size w ((w.alloc nilQ).alloc (.cells #[.string s, .int .i64 0] 46))) := Lib.hid (((Below.refl w.heap.size w).alloc (Nat.le_refl _) nilQ).alloc (by simp) _)
  have HT := Lib.hid hT
  have HE := Lib.hid hE
  clear hT hE
  have cE := fun (t : ByteArray) (x : Int) (is : Bool) W h => mrequire_any (w.heap.size + 1) t x is W h
  have cL := fun W h => mline_at (w.heap.size + 1) s W ln r1 0 hs hv h
  have cQ := fun W => mreq_ok ln m t W hln hf
  have cF := fun W h hT => mfld_ok (w.heap.size + 1) r1 W hl1 fs n h3 h hT
  have hfk := parse_ok _ _ _ h3
  have cH := fun lo v W h => mhost_any lo v fs W h hfk.1
  have cN := fun lo v W h => mlength_any lo v fs W h hfk
  rw [h4] at cH
  rw [h5, show lnV (k, true) = .tuple #[.int .i64 k, .bool true] from rfl] at cN
  have cB := fun W h hT hE => mbod_no (w.heap.size + 1) (r1.drop n) z W (by rewrite [List.length_drop]; omega) hz1 x h6 h hT hE
  have hk0 : Hid (reqE 0 true = 0) := Lib.hid rfl
  have hne : (x != 0) = true := by rewrite [bne_iff_ne]; exact hx
  clear hs hv hln hf hl1 h3 h4 h5 h6 hfk hx hz1
  generalize strB ln = SL at *
  generalize strB r1 = SR at *
  generalize strB m = SM at *
  generalize strB t = ST at *
  generalize strB (r1.drop n) = SD at *
  go_enter Tryz.func8, Tryz.ntmps8
  go_wp2_with fail
  refine (cL _ HR0.out).mono ?_
  rintro e w1 ⟨rfl, hr1, hm1⟩
  have HR1 := Lib.hid hr1
  have HA1 := Lib.hid (HA0.out.moved hm1 (Nat.ne_of_lt (Nat.lt_succ_self _)))
  have HB1 := Lib.hid (HB0.out.trans (hm1.below (Nat.le_succ _) HB0.out.size))
  clear hr1 hm1
  go_wp2_with fail
  refine (cQ _).mono ?_
  rintro e w2 ⟨rfl, hb2⟩
  have HR2 := Lib.hid (HR1.out.below hb2)
  have HA2 := Lib.hid (HA1.out.next hb2 HA1.out.lt)
  have HB2 := Lib.hid (HB1.out.trans (hb2.mono HB1.out.size))
  clear hb2
  go_wp2_with fail
  refine (cE _ _ _ _ HR2.out).mono ?_
  rintro e w3 ⟨rfl, hr3, hm3⟩
  rw [hk0.out] at hr3
  have HR3 := Lib.hid hr3
  have HA3 := Lib.hid (HA2.out.moved hm3 (Nat.ne_of_lt (Nat.lt_succ_self _)))
  have HB3 := Lib.hid (HB2.out.trans (hm3.below (Nat.le_succ _) HB2.out.size))
  clear hr3 hm3
  go_wp2_with fail
  refine (cF _ HR3.out (Utf8Tabs_below HT.out HB3.out)).mono ?_
  rintro e w4 ⟨⟨v4, rfl, hf4⟩, hr4, hm4⟩
  have HR4 := Lib.hid hr4
  have HA4 := Lib.hid (HA3.out.moved hm4 (Nat.ne_of_lt (Nat.lt_succ_self _)))
  have HB4 := Lib.hid (HB3.out.trans (hm4.below (Nat.le_succ _) HB3.out.size))
  clear hr4 hm4
  have HF4 := Lib.hid hf4
  obtain ⟨ao, cap, rfl, _⟩ := hf4
  go_wp2_with fail
  refine (cH _ _ _ HF4.out).mono ?_
  rintro e w5 ⟨rfl, hb5⟩
  have HR5 := Lib.hid (HR4.out.below hb5)
  have HA5 := Lib.hid (HA4.out.next hb5 HA4.out.lt)
  have HB5 := Lib.hid (HB4.out.trans (hb5.mono HB4.out.size))
  have HF5 := Lib.hid (HF4.out.below hb5)
  clear hb5
  go_wp2_with fail
  refine (cE _ _ _ _ HR5.out).mono ?_
  rintro e w6 ⟨rfl, hr6, hm6⟩
  rw [hk0.out] at hr6
  have HR6 := Lib.hid hr6
  have HA6 := Lib.hid (HA5.out.moved hm6 (Nat.ne_of_lt (Nat.lt_succ_self _)))
  have HB6 := Lib.hid (HB5.out.trans (hm6.below (Nat.le_succ _) HB5.out.size))
  have HF6 := Lib.hid (HF5.out.moved hm6 HR3.out.lt)
  clear hr6 hm6
  go_wp2_with fail
  refine (cN _ _ _ HF6.out).mono ?_
  rintro e w7 ⟨rfl, hb7⟩
  have HR7 := Lib.hid (HR6.out.below hb7)
  have HA7 := Lib.hid (HA6.out.next hb7 HA6.out.lt)
  have HB7 := Lib.hid (HB6.out.trans (hb7.mono HB6.out.size))
  have HF7 := Lib.hid (HF6.out.below hb7)
  clear hb7
  go_wp2_with fail
  refine (cE _ _ _ _ HR7.out).mono ?_
  rintro e w8 ⟨rfl, hr8, hm8⟩
  rw [hk0.out] at hr8
  have HR8 := Lib.hid hr8
  have HA8 := Lib.hid (HA7.out.moved hm8 (Nat.ne_of_lt (Nat.lt_succ_self _)))
  have HB8 := Lib.hid (HB7.out.trans (hm8.below (Nat.le_succ _) HB7.out.size))
  have HF8 := Lib.hid (HF7.out.moved hm8 HR3.out.lt)
  clear hr8 hm8
  rcases hz with ⟨hk, rfl⟩ | ⟨hk, rfl⟩
  · have hq : (k == -2) = true := by rewrite [hk]; decide
    clear hk
    go_wp2_with fail
    refine (cB _ HR8.out (Utf8Tabs_below HT.out HB8.out) (HE.out.below HB8.out)).mono ?_
    rintro e w9 ⟨rfl, hr9, hm9⟩
    have HR9 := Lib.hid hr9
    have HA9 := Lib.hid (HA8.out.moved hm9 (Nat.ne_of_lt (Nat.lt_succ_self _)))
    have HB9 := Lib.hid (HB8.out.trans (hm9.below (Nat.le_succ _) HB8.out.size))
    have HF9 := Lib.hid (HF8.out.moved hm9 HR3.out.lt)
    clear hr9 hm9
    have hla := HA9.out.lt
    obtain ⟨a0, a1, a2, a3, e0, e1, e2, e3⟩ := HA9.out
    obtain ⟨x0, x1, _, _⟩ := HR9.out
    go_wp2_with fail
    go_region
    all_goals
      go_wp2_with fail
      refine bodyPost_ret (v := .tuple #[.agg #[.string ⟨#[]⟩, .string ⟨#[]⟩, .slice none 0 0, .slice none 0 0], .int .i64 0, .int .i64 x]) (by simp [results, Tryz.results8, go_sem, a0, a1, a2, a3]) rfl ?_
      refine ⟨?_, rfl⟩
      repeat (first | with_reducible refine Below.alloc ?_ (by simp; omega) _ | with_reducible refine Below.setCell ?_ (by simp) _ | with_reducible refine Below.drew ?_)
      exact HB9.out
  · have hq : (z == -2) = false := by rewrite [beq_eq_false_iff_ne]; exact hk
    clear hk
    go_wp2_with fail
    refine (cB _ HR8.out (Utf8Tabs_below HT.out HB8.out) (HE.out.below HB8.out)).mono ?_
    rintro e w9 ⟨rfl, hr9, hm9⟩
    have HR9 := Lib.hid hr9
    have HA9 := Lib.hid (HA8.out.moved hm9 (Nat.ne_of_lt (Nat.lt_succ_self _)))
    have HB9 := Lib.hid (HB8.out.trans (hm9.below (Nat.le_succ _) HB8.out.size))
    have HF9 := Lib.hid (HF8.out.moved hm9 HR3.out.lt)
    clear hr9 hm9
    have hla := HA9.out.lt
    obtain ⟨a0, a1, a2, a3, e0, e1, e2, e3⟩ := HA9.out
    obtain ⟨x0, x1, _, _⟩ := HR9.out
    go_wp2_with fail
    go_region
    all_goals
      go_wp2_with fail
      refine bodyPost_ret (v := .tuple #[.agg #[.string ⟨#[]⟩, .string ⟨#[]⟩, .slice none 0 0, .slice none 0 0], .int .i64 0, .int .i64 x]) (by simp [results, Tryz.results8, go_sem, a0, a1, a2, a3]) rfl ?_
      refine ⟨?_, rfl⟩
      repeat (first | with_reducible refine Below.alloc ?_ (by simp; omega) _ | with_reducible refine Below.setCell ?_ (by simp) _ | with_reducible refine Below.drew ?_)
      exact HB9.out

set_option maxRecDepth 100000 in
set_option maxHeartbeats 8000000 in
theorem mreadq_ok (s : ByteArray) (w : World) (hs : s.size ≤ 90000) (hT : Tabs w) (hE : Errs w) (ln r1 m t b : List UInt8) (fs : List Fld) (n u N : Nat) (k z : Int) (hv : lnxV s.data.toList = .tuple #[.string (strB ln), .string (strB r1), .int .i64 0]) (hln : ln.length ≤ 100000) (hf : frL ln = some (m, t)) (hl1 : r1.length ≤ 90000) (h3 : parseH r1 = .ok (fs, n)) (h4 : decide ((allH fs hoN).length = 1) = true) (h5 : lnM fs = (k, true)) (hz : (k = -2 ∧ z = 0) ∨ (k ≠ -2 ∧ z = k)) (hz1 : -1 ≤ z) (h6 : bodM (r1.drop n) z = .ok (b, u)) (hN : N + ((r1.drop n).drop u).length = s.size) :
    Calls Tryz.prog 8 #[.string s] w (rqPost (.ok (⟨m, t, lesL fs, b⟩, N)) w) := by
  have HR0 := Lib.hid (Rdr.made w nilQ s)
  have HA0 : Hid (Nil4 ((w.alloc nilQ).alloc (.cells #[.string s, .int .i64 0] 46)) w.heap.size) := Lib.hid ((Nil4.made w).next ((Below.refl (w.heap.size + 1) (w.alloc nilQ)).alloc (by simp) _) (Nat.lt_succ_self _))
  have HB0 : Hid (Below w.heap.size w ((w.alloc nilQ).alloc (.cells #[.string s, .int .i64 0] 46))) := Lib.hid (((Below.refl w.heap.size w).alloc (Nat.le_refl _) nilQ).alloc (by simp) _)
  have HT := Lib.hid hT
  have HE := Lib.hid hE
  clear hT hE
  have cE := fun (t : ByteArray) (x : Int) (is : Bool) W h => mrequire_any (w.heap.size + 1) t x is W h
  have cL := fun W h => mline_at (w.heap.size + 1) s W ln r1 0 hs hv h
  have cQ := fun W => mreq_ok ln m t W hln hf
  have cF := fun W h hT => mfld_ok (w.heap.size + 1) r1 W hl1 fs n h3 h hT
  have hfk := parse_ok _ _ _ h3
  have cH := fun lo v W h => mhost_any lo v fs W h hfk.1
  have cN := fun lo v W h => mlength_any lo v fs W h hfk
  rw [h4] at cH
  rw [h5, show lnV (k, true) = .tuple #[.int .i64 k, .bool true] from rfl] at cN
  have cW := fun lo v W h => mless_any lo v fs W h hfk
  have cB := fun W h hT hE => mbod_ok (w.heap.size + 1) (r1.drop n) z W (by rewrite [List.length_drop]; omega) hz1 b u h6 h hT hE
  have hk0 : Hid (reqE 0 true = 0) := Lib.hid rfl
  have hbz := strB_size b
  have hbd2 := strB_data b
  have hsub : IntKind.i64.wrap ((s.size : Int) - ((strB ((r1.drop n).drop u)).size : Int)) = (N : Int) := by
    rewrite [strB_size, IntWalk.i64_in _ (by omega)]
    omega
  clear hs hv hln hf hl1 h3 h4 h5 h6 hfk hz1 hN
  generalize strB ln = SL at *
  generalize strB r1 = SR at *
  generalize hSM : strB m = SM at cQ
  generalize hST : strB t = ST at cQ
  generalize strB ((r1.drop n).drop u) = SX at *
  generalize strB (r1.drop n) = SD at *
  generalize hSB : strB b = SB at *
  have HSM := Lib.hid hSM
  have HST := Lib.hid hST
  have HSB := Lib.hid hSB
  clear hSM hST hSB
  go_enter Tryz.func8, Tryz.ntmps8
  go_wp2_with fail
  refine (cL _ HR0.out).mono ?_
  rintro e w1 ⟨rfl, hr1, hm1⟩
  have HR1 := Lib.hid hr1
  have HA1 := Lib.hid (HA0.out.moved hm1 (Nat.ne_of_lt (Nat.lt_succ_self _)))
  have HB1 := Lib.hid (HB0.out.trans (hm1.below (Nat.le_succ _) HB0.out.size))
  clear hr1 hm1
  go_wp2_with fail
  refine (cQ _).mono ?_
  rintro e w2 ⟨rfl, hb2⟩
  have HR2 := Lib.hid (HR1.out.below hb2)
  have HA2 := Lib.hid (HA1.out.next hb2 HA1.out.lt)
  have HB2 := Lib.hid (HB1.out.trans (hb2.mono HB1.out.size))
  clear hb2
  go_wp2_with fail
  refine (cE _ _ _ _ HR2.out).mono ?_
  rintro e w3 ⟨rfl, hr3, hm3⟩
  rw [hk0.out] at hr3
  have HR3 := Lib.hid hr3
  have HA3 := Lib.hid (HA2.out.moved hm3 (Nat.ne_of_lt (Nat.lt_succ_self _)))
  have HB3 := Lib.hid (HB2.out.trans (hm3.below (Nat.le_succ _) HB2.out.size))
  clear hr3 hm3
  go_wp2_with fail
  refine (cF _ HR3.out (Utf8Tabs_below HT.out HB3.out)).mono ?_
  rintro e w4 ⟨⟨v4, rfl, hf4⟩, hr4, hm4⟩
  have HR4 := Lib.hid hr4
  have HA4 := Lib.hid (HA3.out.moved hm4 (Nat.ne_of_lt (Nat.lt_succ_self _)))
  have HB4 := Lib.hid (HB3.out.trans (hm4.below (Nat.le_succ _) HB3.out.size))
  clear hr4 hm4
  have HF4 := Lib.hid hf4
  obtain ⟨ao, cap, rfl, _⟩ := hf4
  go_wp2_with fail
  refine (cH _ _ _ HF4.out).mono ?_
  rintro e w5 ⟨rfl, hb5⟩
  have HR5 := Lib.hid (HR4.out.below hb5)
  have HA5 := Lib.hid (HA4.out.next hb5 HA4.out.lt)
  have HB5 := Lib.hid (HB4.out.trans (hb5.mono HB4.out.size))
  have HF5 := Lib.hid (HF4.out.below hb5)
  clear hb5
  go_wp2_with fail
  refine (cE _ _ _ _ HR5.out).mono ?_
  rintro e w6 ⟨rfl, hr6, hm6⟩
  rw [hk0.out] at hr6
  have HR6 := Lib.hid hr6
  have HA6 := Lib.hid (HA5.out.moved hm6 (Nat.ne_of_lt (Nat.lt_succ_self _)))
  have HB6 := Lib.hid (HB5.out.trans (hm6.below (Nat.le_succ _) HB5.out.size))
  have HF6 := Lib.hid (HF5.out.moved hm6 HR3.out.lt)
  clear hr6 hm6
  go_wp2_with fail
  refine (cN _ _ _ HF6.out).mono ?_
  rintro e w7 ⟨rfl, hb7⟩
  have HR7 := Lib.hid (HR6.out.below hb7)
  have HA7 := Lib.hid (HA6.out.next hb7 HA6.out.lt)
  have HB7 := Lib.hid (HB6.out.trans (hb7.mono HB6.out.size))
  have HF7 := Lib.hid (HF6.out.below hb7)
  clear hb7
  go_wp2_with fail
  refine (cE _ _ _ _ HR7.out).mono ?_
  rintro e w8 ⟨rfl, hr8, hm8⟩
  rw [hk0.out] at hr8
  have HR8 := Lib.hid hr8
  have HA8 := Lib.hid (HA7.out.moved hm8 (Nat.ne_of_lt (Nat.lt_succ_self _)))
  have HB8 := Lib.hid (HB7.out.trans (hm8.below (Nat.le_succ _) HB7.out.size))
  have HF8 := Lib.hid (HF7.out.moved hm8 HR3.out.lt)
  clear hr8 hm8
  rcases hz with ⟨hk, rfl⟩ | ⟨hk, rfl⟩
  · have hq : (k == -2) = true := by rewrite [hk]; decide
    clear hk
    go_wp2_with fail
    refine (cB _ HR8.out (Utf8Tabs_below HT.out HB8.out) (HE.out.below HB8.out)).mono ?_
    rintro e w9 ⟨rfl, hr9, hm9⟩
    have HR9 := Lib.hid hr9
    have HA9 := Lib.hid (HA8.out.moved hm9 (Nat.ne_of_lt (Nat.lt_succ_self _)))
    have HB9 := Lib.hid (HB8.out.trans (hm9.below (Nat.le_succ _) HB8.out.size))
    have HF9 := Lib.hid (HF8.out.moved hm9 HR3.out.lt)
    clear hr9 hm9
    obtain ⟨_, y1, _, _⟩ := HR9.out
    go_wp2_with fail
    clear y1
    refine (cW _ _ _ HF9.out).mono ?_
    rintro e w10 ⟨⟨u10, rfl, hown⟩, hb10⟩
    have HR10 := Lib.hid (HR9.out.below hb10)
    have HA10 := Lib.hid (HA9.out.next hb10 HA9.out.lt)
    have HB10 := Lib.hid (HB9.out.trans (hb10.mono HB9.out.size))
    obtain ⟨bo, ko, rfl⟩ := owns_formF hown
    have hFo : Flds w9.heap.size w10 (.slice bo (lesL fs).length ko) (lesL fs) := Flds.of_own hown (Nat.le_refl _)
    have hcv := Lib.run_convert_string_bytes (P := Tryz.prog) w10 9 24 5 SB (u := .string) Tryz.underlying9 Tryz.underlying24 Tryz.underlying5
    have hb8 : Below w10.heap.size w10 (Lib.bytesWorld w10 5 SB) := Go.Joins.below_bytesWorld _ w10 5 SB (Nat.le_refl _)
    have hB8 := BytF.made w10 SB
    obtain ⟨W8, hW8⟩ : ∃ W8, Lib.bytesWorld w10 5 SB = W8 := ⟨_, rfl⟩
    generalize grownCap w10 SB.size 0 5 = cp at *
    rw [hW8] at hcv hb8 hB8
    rw [hbd2, hbz] at hB8
    have hF8 := hFo.below hb8
    have HR8 := Lib.hid (HR10.out.below hb8)
    have HA8 := Lib.hid (HA10.out.next hb8 HA10.out.lt)
    have HB8 := Lib.hid (HB10.out.trans (hb8.mono HB10.out.size))
    have HF8 := Lib.hid hF8
    have HY8 := Lib.hid hB8
    have hlw := HA10.out.lt
    have hlp := HA9.out.lt
    have HS8 := Lib.hid hb8.size
    clear hown hb10 hb8 hW8 hFo hF8 hB8 hbd2
    have hla := HA8.out.lt
    have hlr := HR8.out.lt
    obtain ⟨a0, a1, a2, a3, e0, e1, e2, e3⟩ := HA8.out
    obtain ⟨x0, x1, _, _⟩ := HR8.out
    go_wp2_with fail
    go_region
    all_goals
      go_wp2_with fail
      refine bodyPost_ret (v := .tuple #[.agg #[.string SM, .string ST, .slice bo (lesL fs).length ko, .slice (some ⟨w10.heap.size, 0, none⟩) b.length cp], .int .i64 (N : Int), .int .i64 0]) (by simp [results, Tryz.results8, go_sem, a0, a1, a2, a3, hla]) rfl ?_
      refine ⟨?_, _, _, by rw [HSM.out, HST.out], (HF8.out.moved (x := w.heap.size) ?_ hlp).low HB9.out.size, (HY8.out.moved (x := w.heap.size) ?_ hlw).low HB10.out.size⟩
      · repeat (first | with_reducible refine Below.alloc ?_ (by simp; omega) _ | with_reducible refine Below.setCell ?_ (by simp) _ | with_reducible refine Below.drew ?_)
        exact HB8.out
      · repeat (first | with_reducible refine Moved.drew1 ?_ | with_reducible refine Moved.alloc ?_ _ | with_reducible refine Moved.setCell ?_ _)
        exact Moved.refl _ _
      · repeat (first | with_reducible refine Moved.drew1 ?_ | with_reducible refine Moved.alloc ?_ _ | with_reducible refine Moved.setCell ?_ _)
        exact Moved.refl _ _
  · have hq : (z == -2) = false := by rewrite [beq_eq_false_iff_ne]; exact hk
    clear hk
    go_wp2_with fail
    refine (cB _ HR8.out (Utf8Tabs_below HT.out HB8.out) (HE.out.below HB8.out)).mono ?_
    rintro e w9 ⟨rfl, hr9, hm9⟩
    have HR9 := Lib.hid hr9
    have HA9 := Lib.hid (HA8.out.moved hm9 (Nat.ne_of_lt (Nat.lt_succ_self _)))
    have HB9 := Lib.hid (HB8.out.trans (hm9.below (Nat.le_succ _) HB8.out.size))
    have HF9 := Lib.hid (HF8.out.moved hm9 HR3.out.lt)
    clear hr9 hm9
    obtain ⟨_, y1, _, _⟩ := HR9.out
    go_wp2_with fail
    clear y1
    refine (cW _ _ _ HF9.out).mono ?_
    rintro e w10 ⟨⟨u10, rfl, hown⟩, hb10⟩
    have HR10 := Lib.hid (HR9.out.below hb10)
    have HA10 := Lib.hid (HA9.out.next hb10 HA9.out.lt)
    have HB10 := Lib.hid (HB9.out.trans (hb10.mono HB9.out.size))
    obtain ⟨bo, ko, rfl⟩ := owns_formF hown
    have hFo : Flds w9.heap.size w10 (.slice bo (lesL fs).length ko) (lesL fs) := Flds.of_own hown (Nat.le_refl _)
    have hcv := Lib.run_convert_string_bytes (P := Tryz.prog) w10 9 24 5 SB (u := .string) Tryz.underlying9 Tryz.underlying24 Tryz.underlying5
    have hb8 : Below w10.heap.size w10 (Lib.bytesWorld w10 5 SB) := Go.Joins.below_bytesWorld _ w10 5 SB (Nat.le_refl _)
    have hB8 := BytF.made w10 SB
    obtain ⟨W8, hW8⟩ : ∃ W8, Lib.bytesWorld w10 5 SB = W8 := ⟨_, rfl⟩
    generalize grownCap w10 SB.size 0 5 = cp at *
    rw [hW8] at hcv hb8 hB8
    rw [hbd2, hbz] at hB8
    have hF8 := hFo.below hb8
    have HR8 := Lib.hid (HR10.out.below hb8)
    have HA8 := Lib.hid (HA10.out.next hb8 HA10.out.lt)
    have HB8 := Lib.hid (HB10.out.trans (hb8.mono HB10.out.size))
    have HF8 := Lib.hid hF8
    have HY8 := Lib.hid hB8
    have hlw := HA10.out.lt
    have hlp := HA9.out.lt
    have HS8 := Lib.hid hb8.size
    clear hown hb10 hb8 hW8 hFo hF8 hB8 hbd2
    have hla := HA8.out.lt
    have hlr := HR8.out.lt
    obtain ⟨a0, a1, a2, a3, e0, e1, e2, e3⟩ := HA8.out
    obtain ⟨x0, x1, _, _⟩ := HR8.out
    go_wp2_with fail
    go_region
    all_goals
      go_wp2_with fail
      refine bodyPost_ret (v := .tuple #[.agg #[.string SM, .string ST, .slice bo (lesL fs).length ko, .slice (some ⟨w10.heap.size, 0, none⟩) b.length cp], .int .i64 (N : Int), .int .i64 0]) (by simp [results, Tryz.results8, go_sem, a0, a1, a2, a3, hla]) rfl ?_
      refine ⟨?_, _, _, by rw [HSM.out, HST.out], (HF8.out.moved (x := w.heap.size) ?_ hlp).low HB9.out.size, (HY8.out.moved (x := w.heap.size) ?_ hlw).low HB10.out.size⟩
      · repeat (first | with_reducible refine Below.alloc ?_ (by simp; omega) _ | with_reducible refine Below.setCell ?_ (by simp) _ | with_reducible refine Below.drew ?_)
        exact HB8.out
      · repeat (first | with_reducible refine Moved.drew1 ?_ | with_reducible refine Moved.alloc ?_ _ | with_reducible refine Moved.setCell ?_ _)
        exact Moved.refl _ _
      · repeat (first | with_reducible refine Moved.drew1 ?_ | with_reducible refine Moved.alloc ?_ _ | with_reducible refine Moved.setCell ?_ _)
        exact Moved.refl _ _

end Go.Proofs.YthbfcamfapgodaaGreatDoor
