/- The walk of the law MessageAgain. -/
import Derived.Test.YthbfcamfapgodaaGreatDoorGW

namespace Go.Proofs.YthbfcamfapgodaaGreatDoor
open Go.RowKit Go.Shelf Go.Lib

theorem fldsok_small {fs : List Fld} {n : Nat} (h : smallF fs n) : FldsOk fs := ⟨by have := h.2.1; omega, fun p hp => by have := h.2.2 p hp; omega⟩
theorem backQ0 {q : Rq} {t : List UInt8} (h : prQ q = some t) : rdQ t = .ok (q, t.length) := by
  have := backQ h []
  rwa [List.append_nil] at this

theorem rdQ_err {l : List UInt8} {x : Int} (h : rdQ l = .error x) : x ≠ 0 := by
  unfold rdQ at h
  split at h
  · simp only [Except.error.injEq] at h
    omega
  · cases h2 : frL (lineL l).1 with
    | none => rw [h2] at h; simp only [Except.error.injEq] at h; omega
    | some p =>
      rw [h2] at h
      dsimp only at h
      cases h3 : parseH (l.drop ((lineL l).1.length + 2)) with
      | error y => rw [h3] at h; simp only [Except.error.injEq] at h; have := parseH_no h3; omega
      | ok p =>
        rw [h3] at h
        dsimp only at h
        split at h
        · simp only [Except.error.injEq] at h; omega
        · cases h5 : lngL p.1 with
          | error y => rw [h5] at h; simp only [Except.error.injEq] at h; have := lngL_no h5; omega
          | ok k =>
            rw [h5] at h
            dsimp only at h
            cases h6 : bodL (l.drop ((lineL l).1.length + 2 + p.2)) k with
            | error y => rw [h6] at h; simp only [Except.error.injEq] at h; have := bodL_no h6; omega
            | ok y => rw [h6] at h; cases h
theorem rdP_err {l : List UInt8} {me : ByteArray} {x : Int} (h : rdP l me = .error x) : x ≠ 0 := by
  unfold rdP at h
  split at h
  · simp only [Except.error.injEq] at h
    omega
  · cases h2 : frP (lineL l).1 with
    | none => rw [h2] at h; simp only [Except.error.injEq] at h; omega
    | some n =>
      rw [h2] at h
      dsimp only at h
      cases h3 : parseH (l.drop ((lineL l).1.length + 2)) with
      | error y => rw [h3] at h; simp only [Except.error.injEq] at h; have := parseH_no h3; omega
      | ok p =>
        rw [h3] at h
        dsimp only at h
        cases h5 : lngL p.1 with
        | error y => rw [h5] at h; simp only [Except.error.injEq] at h; have := lngL_no h5; omega
        | ok k =>
          rw [h5] at h
          dsimp only at h
          split at h
          · split at h
            · cases h
            · simp only [Except.error.injEq] at h; omega
          · cases h6 : bodL (l.drop ((lineL l).1.length + 2 + p.2)) (if k = -1 then ((l.drop ((lineL l).1.length + 2 + p.2)).length : Int) else k) with
            | error y => rw [h6] at h; simp only [Except.error.injEq] at h; have := bodL_no h6; omega
            | ok y =>
              rw [h6] at h
              dsimp only at h
              split at h
              · cases h
              · simp only [Except.error.injEq] at h; omega
/-- How long what is printed of a response is. -/
theorem prP_len {p : Rp} {me : ByteArray} {t : List UInt8} (h : prP p me = some t) : t.length ≤ (prF p.fs).length + p.b.length + 70 := by
  obtain ⟨h1, h2, _, _, _, _, h7, _, rfl⟩ := prP_parts h
  have hf : (prF (fieldsP p me)).length ≤ (prF p.fs).length + 30 := by
    unfold fieldsP
    split
    · omega
    · have hd := dec_len 5 p.b.length (by omega)
      have he : ∀ fs : List Fld, ∀ x : Fld, (prF (fs ++ [x])).length = (prF fs).length + (lineF x).length := fun fs x => by
        induction fs with
        | nil => simp [prF]
        | cons y r ih => rewrite [List.cons_append, prF, prF, List.length_append, List.length_append, ih]; omega
      rewrite [withCl, he, lineF_len]
      have : clN.length = 14 := rfl
      simp only
      omega
  have hl := linP_len h1 h2
  simp only [List.length_append, List.length_cons, List.length_nil]
  omega

set_option maxRecDepth 100000 in
set_option maxHeartbeats 8000000 in
theorem again_ee (s me : ByteArray) (w : World) (hs : ¬ 10000 < s.size) (hm : ¬ 100 < me.size) (hT : Tabs w) (hE : Errs w) (hP : Pow w) (x : Int) (hq : rdQ s.data.toList = .error x) (y : Int) (hp : rdP s.data.toList me = .error y) :
    Calls Tryz.prog 6 #[.string s, .string me] w fun e w' => e = .returned (.bool true) ∧ Below w.heap.size w w' := by
  have cA := awake8_any w hT hE hP
  have HT := Lib.hid hT
  have HE := Lib.hid hE
  have HP := Lib.hid hP
  have e1 : ¬ (10000 : Int) < (s.size : Int) := by omega
  have e2 : ¬ (100 : Int) < (me.size : Int) := by omega
  have hsz := Lib.size_eq s
  clear hT hE hP
  have c1 := fun W h1 h2 => mreadq_any s W (by omega) h1 h2
  rw [hq] at c1
  have hx : (x == 0) = false := by
    have := rdQ_err hq
    rewrite [beq_eq_false_iff_ne]
    omega
  have d1 := fun W h1 h2 => mreadp_any s me W (by omega) h1 h2
  rw [hp] at d1
  have hy : (y != 0) = true := by
    have := rdP_err hp
    rewrite [bne_iff_ne]
    omega
  clear hs hm hq hp
  clear hsz
  go_enter Tryz.func6, Tryz.ntmps6
  go_wp2_with fail
  refine cA.mono ?_
  rintro e w1 ⟨rfl, hb1⟩
  have HB1 := Lib.hid hb1
  clear hb1 cA
  go_wp2_with fail
  refine (c1 _ (Utf8Tabs_below HT.out HB1.out) (HE.out.below HB1.out)).mono ?_
  rintro e w2 ⟨hb2, rfl⟩
  have ha2 := (Below.refl w2.heap.size w2).alloc (Nat.le_refl _) nilQ
  have HB2 := Lib.hid (HB1.out.trans ((hb2.trans (ha2.mono hb2.size)).mono HB1.out.size))
  clear hb2 ha2 c1
  go_wp2_with fail
  refine (d1 _ (Utf8Tabs_below HT.out HB2.out) (HE.out.below HB2.out)).mono ?_
  rintro e w3 ⟨hb3, rfl⟩
  have ha3 := (Below.refl w3.heap.size w3).alloc (Nat.le_refl _) nilP
  have HB3 := Lib.hid (HB2.out.trans ((hb3.trans (ha3.mono hb3.size)).mono HB2.out.size))
  clear hb3 ha3 d1
  go_wp2_with fail
  go_ret
  exact ⟨rfl, HB3.out⟩

set_option maxRecDepth 100000 in
set_option maxHeartbeats 8000000 in
theorem again_en (s me : ByteArray) (w : World) (hs : ¬ 10000 < s.size) (hm : ¬ 100 < me.size) (hT : Tabs w) (hE : Errs w) (hP : Pow w) (x : Int) (hq : rdQ s.data.toList = .error x) (p : Rp) (hp : rdP s.data.toList me = .ok p) (hpp : prP p me = none) :
    Calls Tryz.prog 6 #[.string s, .string me] w fun e w' => e = .returned (.bool true) ∧ Below w.heap.size w w' := by
  have cA := awake8_any w hT hE hP
  have HT := Lib.hid hT
  have HE := Lib.hid hE
  have HP := Lib.hid hP
  have e1 : ¬ (10000 : Int) < (s.size : Int) := by omega
  have e2 : ¬ (100 : Int) < (me.size : Int) := by omega
  have hsz := Lib.size_eq s
  clear hT hE hP
  have c1 := fun W h1 h2 => mreadq_any s W (by omega) h1 h2
  rw [hq] at c1
  have hx : (x == 0) = false := by
    have := rdQ_err hq
    rewrite [beq_eq_false_iff_ne]
    omega
  have d1 := fun W h1 h2 => mreadp_any s me W (by omega) h1 h2
  rw [hp] at d1
  obtain ⟨sp5, sp6⟩ := rdP_small hp
  have hfp := fldsok_small sp5
  have sp7 := sp5.1
  have sp8 := sp5.2.1
  have d2 := fun v vb W h hb h1 h2 => mprp_any 0 0 p me v vb W h hfp hb (by omega) h1 h2
  rw [hpp] at d2
  rw [show textH none = .tuple #[.string ⟨#[]⟩, .int .i64 2] from rfl] at d2
  clear hs hm hq hp hpp sp5 sp6 sp7 sp8 hfp
  clear hsz
  go_enter Tryz.func6, Tryz.ntmps6
  go_wp2_with fail
  refine cA.mono ?_
  rintro e w1 ⟨rfl, hb1⟩
  have HB1 := Lib.hid hb1
  clear hb1 cA
  go_wp2_with fail
  refine (c1 _ (Utf8Tabs_below HT.out HB1.out) (HE.out.below HB1.out)).mono ?_
  rintro e w2 ⟨hb2, rfl⟩
  have ha2 := (Below.refl w2.heap.size w2).alloc (Nat.le_refl _) nilQ
  have HB2 := Lib.hid (HB1.out.trans ((hb2.trans (ha2.mono hb2.size)).mono HB1.out.size))
  clear hb2 ha2 c1
  go_wp2_with fail
  refine (d1 _ (Utf8Tabs_below HT.out HB2.out) (HE.out.below HB2.out)).mono ?_
  rintro e w3 ⟨hb3, f3, b3, rfl, hf3, hy3⟩
  have ha3 := (Below.refl w3.heap.size w3).alloc (Nat.le_refl _) (.cells #[.int .i64 p.n, f3, b3] 31)
  have hc3 := hb3.trans (ha3.mono hb3.size)
  have HB3 := Lib.hid (HB2.out.trans (hc3.mono HB2.out.size))
  have LX3 := Lib.hid (BoxP.made w3 p.n f3 b3)
  have LF3 := Lib.hid ((hf3.low (Nat.zero_le _)).below ha3)
  have LY3 := Lib.hid ((hy3.low (Nat.zero_le _)).below ha3)
  obtain ⟨fo3, fc3, rfl, _⟩ := hf3
  obtain ⟨bo3, bc3, rfl, _⟩ := hy3
  clear hb3 ha3 hc3 d1
  obtain ⟨u0, u1, u2⟩ := LX3.out
  go_wp2_with fail
  refine (d2 _ _ _ LF3.out LY3.out (Utf8Tabs_below HT.out HB3.out) (HP.out.below HB3.out)).mono ?_
  rintro e w4 ⟨rfl, hb4⟩
  have HB4 := Lib.hid (HB3.out.trans (hb4.mono HB3.out.size))
  clear hb4 d2 u0 u1 u2
  go_wp2_with fail
  go_ret
  exact ⟨rfl, HB4.out⟩

set_option maxRecDepth 100000 in
set_option maxHeartbeats 8000000 in
theorem again_es (s me : ByteArray) (w : World) (hs : ¬ 10000 < s.size) (hm : ¬ 100 < me.size) (hT : Tabs w) (hE : Errs w) (hP : Pow w) (x : Int) (hq : rdQ s.data.toList = .error x) (p : Rp) (u : List UInt8) (hp : rdP s.data.toList me = .ok p) (hpp : prP p me = some u) :
    Calls Tryz.prog 6 #[.string s, .string me] w fun e w' => e = .returned (.bool true) ∧ Below w.heap.size w w' := by
  have cA := awake8_any w hT hE hP
  have HT := Lib.hid hT
  have HE := Lib.hid hE
  have HP := Lib.hid hP
  have e1 : ¬ (10000 : Int) < (s.size : Int) := by omega
  have e2 : ¬ (100 : Int) < (me.size : Int) := by omega
  have hsz := Lib.size_eq s
  clear hT hE hP
  have c1 := fun W h1 h2 => mreadq_any s W (by omega) h1 h2
  rw [hq] at c1
  have hx : (x == 0) = false := by
    have := rdQ_err hq
    rewrite [beq_eq_false_iff_ne]
    omega
  have d1 := fun W h1 h2 => mreadp_any s me W (by omega) h1 h2
  rw [hp] at d1
  obtain ⟨sp5, sp6⟩ := rdP_small hp
  have hfp := fldsok_small sp5
  have sp7 := sp5.1
  have sp8 := sp5.2.1
  have d2 := fun v vb W h hb h1 h2 => mprp_any 0 0 p me v vb W h hfp hb (by omega) h1 h2
  rw [hpp] at d2
  rw [show textH (some u) = .tuple #[.string (strB u), .int .i64 0] from rfl] at d2
  have hul := prP_len hpp
  have d3 := fun W h1 h2 => mreadp_any (strB u) me W (by rewrite [strB_size]; omega) h1 h2
  rw [strB_data, backP hpp] at d3
  have d4 := fun f1 f2 b1 b2 W h1 h2 h3 h4 => rsamep_any 0 0 0 0 p p f1 f2 b1 b2 W h1 h2 h3 h4 (by omega) (by omega)
  rw [sameP_self] at d4
  generalize strB u = SU at *
  clear hs hm hq hp hpp sp5 sp6 sp7 sp8 hfp hul
  clear hsz
  go_enter Tryz.func6, Tryz.ntmps6
  go_wp2_with fail
  refine cA.mono ?_
  rintro e w1 ⟨rfl, hb1⟩
  have HB1 := Lib.hid hb1
  clear hb1 cA
  go_wp2_with fail
  refine (c1 _ (Utf8Tabs_below HT.out HB1.out) (HE.out.below HB1.out)).mono ?_
  rintro e w2 ⟨hb2, rfl⟩
  have ha2 := (Below.refl w2.heap.size w2).alloc (Nat.le_refl _) nilQ
  have HB2 := Lib.hid (HB1.out.trans ((hb2.trans (ha2.mono hb2.size)).mono HB1.out.size))
  clear hb2 ha2 c1
  go_wp2_with fail
  refine (d1 _ (Utf8Tabs_below HT.out HB2.out) (HE.out.below HB2.out)).mono ?_
  rintro e w3 ⟨hb3, f3, b3, rfl, hf3, hy3⟩
  have ha3 := (Below.refl w3.heap.size w3).alloc (Nat.le_refl _) (.cells #[.int .i64 p.n, f3, b3] 31)
  have hc3 := hb3.trans (ha3.mono hb3.size)
  have HB3 := Lib.hid (HB2.out.trans (hc3.mono HB2.out.size))
  have LX3 := Lib.hid (BoxP.made w3 p.n f3 b3)
  have LF3 := Lib.hid ((hf3.low (Nat.zero_le _)).below ha3)
  have LY3 := Lib.hid ((hy3.low (Nat.zero_le _)).below ha3)
  obtain ⟨fo3, fc3, rfl, _⟩ := hf3
  obtain ⟨bo3, bc3, rfl, _⟩ := hy3
  clear hb3 ha3 hc3 d1
  obtain ⟨u0, u1, u2⟩ := LX3.out
  go_wp2_with fail
  refine (d2 _ _ _ LF3.out LY3.out (Utf8Tabs_below HT.out HB3.out) (HP.out.below HB3.out)).mono ?_
  rintro e w4 ⟨rfl, hb4⟩
  have HB4 := Lib.hid (HB3.out.trans (hb4.mono HB3.out.size))
  have LX4 := Lib.hid (LX3.out.next hb4)
  have LF4 := Lib.hid (LF3.out.below hb4)
  have LY4 := Lib.hid (LY3.out.below hb4)
  clear hb4 d2 u0 u1 u2
  go_wp2_with fail
  refine (d3 _ (Utf8Tabs_below HT.out HB4.out) (HE.out.below HB4.out)).mono ?_
  rintro e w5 ⟨hb5, f5, b5, rfl, hf5, hy5⟩
  have ha5 := (Below.refl w5.heap.size w5).alloc (Nat.le_refl _) (.cells #[.int .i64 p.n, f5, b5] 31)
  have hc5 := hb5.trans (ha5.mono hb5.size)
  have HB5 := Lib.hid (HB4.out.trans (hc5.mono HB4.out.size))
  have MX5 := Lib.hid (BoxP.made w5 p.n f5 b5)
  have MF5 := Lib.hid ((hf5.low (Nat.zero_le _)).below ha5)
  have MY5 := Lib.hid ((hy5.low (Nat.zero_le _)).below ha5)
  obtain ⟨fo5, fc5, rfl, _⟩ := hf5
  obtain ⟨bo5, bc5, rfl, _⟩ := hy5
  have LX5 := Lib.hid (LX4.out.next hc5)
  have LF5 := Lib.hid (LF4.out.below hc5)
  have LY5 := Lib.hid (LY4.out.below hc5)
  clear hb5 ha5 hc5 d3
  obtain ⟨u0, u1, u2⟩ := LX5.out
  obtain ⟨v0, v1, v2⟩ := MX5.out
  go_wp2_with fail
  refine (d4 _ _ _ _ _ LF5.out MF5.out LY5.out MY5.out).mono ?_
  rintro e w6 ⟨rfl, hb6⟩
  have HB6 := Lib.hid (HB5.out.trans (hb6.mono HB5.out.size))
  clear hb6 d4 u0 u1 u2 v0 v1 v2
  go_wp2_with fail
  go_ret
  exact ⟨rfl, HB6.out⟩

set_option maxRecDepth 100000 in
set_option maxHeartbeats 8000000 in
theorem again_ne (s me : ByteArray) (w : World) (hs : ¬ 10000 < s.size) (hm : ¬ 100 < me.size) (hT : Tabs w) (hE : Errs w) (hP : Pow w) (q : Rq) (n : Nat) (hq : rdQ s.data.toList = .ok (q, n)) (hpq : prQ q = none) (y : Int) (hp : rdP s.data.toList me = .error y) :
    Calls Tryz.prog 6 #[.string s, .string me] w fun e w' => e = .returned (.bool true) ∧ Below w.heap.size w w' := by
  have cA := awake8_any w hT hE hP
  have HT := Lib.hid hT
  have HE := Lib.hid hE
  have HP := Lib.hid hP
  have e1 : ¬ (10000 : Int) < (s.size : Int) := by omega
  have e2 : ¬ (100 : Int) < (me.size : Int) := by omega
  have hsz := Lib.size_eq s
  clear hT hE hP
  have c1 := fun W h1 h2 => mreadq_any s W (by omega) h1 h2
  rw [hq] at c1
  obtain ⟨sq1, sq2, sq3, sq4, sq5, sq6⟩ := rdQ_small hq
  have hfk := fldsok_small sq5
  have sq7 := sq5.1
  have sq8 := sq5.2.1
  have dn1 : ¬ (n : Int) < 1 := by omega
  have dn2 : ¬ (s.size : Int) < (n : Int) := by omega
  have c2 := fun v vb W h hb h1 h2 => mprq_any 0 0 q v vb W h hfk (by omega) hb (by omega) (by omega) (by omega) h1 h2
  rw [hpq] at c2
  rw [show textH none = .tuple #[.string ⟨#[]⟩, .int .i64 2] from rfl] at c2
  have d1 := fun W h1 h2 => mreadp_any s me W (by omega) h1 h2
  rw [hp] at d1
  have hy : (y != 0) = true := by
    have := rdP_err hp
    rewrite [bne_iff_ne]
    omega
  clear hs hm hq hp hpq sq1 sq2 sq3 sq4 sq5 sq6 sq7 sq8 hfk
  clear hsz
  go_enter Tryz.func6, Tryz.ntmps6
  go_wp2_with fail
  refine cA.mono ?_
  rintro e w1 ⟨rfl, hb1⟩
  have HB1 := Lib.hid hb1
  clear hb1 cA
  go_wp2_with fail
  refine (c1 _ (Utf8Tabs_below HT.out HB1.out) (HE.out.below HB1.out)).mono ?_
  rintro e w2 ⟨hb2, f2, b2, rfl, hf2, hy2⟩
  have ha2 := (Below.refl w2.heap.size w2).alloc (Nat.le_refl _) (.cells #[.string (strB q.m), .string (strB q.t), f2, b2] 26)
  have hc2 := hb2.trans (ha2.mono hb2.size)
  have HB2 := Lib.hid (HB1.out.trans (hc2.mono HB1.out.size))
  have HX2 := Lib.hid (BoxQ.made w2 (strB q.m) (strB q.t) f2 b2)
  have HF2 := Lib.hid ((hf2.low (Nat.zero_le _)).below ha2)
  have HY2 := Lib.hid ((hy2.low (Nat.zero_le _)).below ha2)
  obtain ⟨fo2, fc2, rfl, _⟩ := hf2
  obtain ⟨bo2, bc2, rfl, _⟩ := hy2
  clear hb2 ha2 hc2 c1
  obtain ⟨x0, x1, x2, x3⟩ := HX2.out
  go_wp2_with fail
  refine (c2 _ _ _ HF2.out HY2.out (Utf8Tabs_below HT.out HB2.out) (HP.out.below HB2.out)).mono ?_
  rintro e w3 ⟨rfl, hb3⟩
  have HB3 := Lib.hid (HB2.out.trans (hb3.mono HB2.out.size))
  clear hb3 c2 x0 x1 x2 x3
  go_wp2_with fail
  refine (d1 _ (Utf8Tabs_below HT.out HB3.out) (HE.out.below HB3.out)).mono ?_
  rintro e w4 ⟨hb4, rfl⟩
  have ha4 := (Below.refl w4.heap.size w4).alloc (Nat.le_refl _) nilP
  have HB4 := Lib.hid (HB3.out.trans ((hb4.trans (ha4.mono hb4.size)).mono HB3.out.size))
  clear hb4 ha4 d1
  go_wp2_with fail
  go_ret
  exact ⟨rfl, HB4.out⟩

set_option maxRecDepth 100000 in
set_option maxHeartbeats 8000000 in
theorem again_nn (s me : ByteArray) (w : World) (hs : ¬ 10000 < s.size) (hm : ¬ 100 < me.size) (hT : Tabs w) (hE : Errs w) (hP : Pow w) (q : Rq) (n : Nat) (hq : rdQ s.data.toList = .ok (q, n)) (hpq : prQ q = none) (p : Rp) (hp : rdP s.data.toList me = .ok p) (hpp : prP p me = none) :
    Calls Tryz.prog 6 #[.string s, .string me] w fun e w' => e = .returned (.bool true) ∧ Below w.heap.size w w' := by
  have cA := awake8_any w hT hE hP
  have HT := Lib.hid hT
  have HE := Lib.hid hE
  have HP := Lib.hid hP
  have e1 : ¬ (10000 : Int) < (s.size : Int) := by omega
  have e2 : ¬ (100 : Int) < (me.size : Int) := by omega
  have hsz := Lib.size_eq s
  clear hT hE hP
  have c1 := fun W h1 h2 => mreadq_any s W (by omega) h1 h2
  rw [hq] at c1
  obtain ⟨sq1, sq2, sq3, sq4, sq5, sq6⟩ := rdQ_small hq
  have hfk := fldsok_small sq5
  have sq7 := sq5.1
  have sq8 := sq5.2.1
  have dn1 : ¬ (n : Int) < 1 := by omega
  have dn2 : ¬ (s.size : Int) < (n : Int) := by omega
  have c2 := fun v vb W h hb h1 h2 => mprq_any 0 0 q v vb W h hfk (by omega) hb (by omega) (by omega) (by omega) h1 h2
  rw [hpq] at c2
  rw [show textH none = .tuple #[.string ⟨#[]⟩, .int .i64 2] from rfl] at c2
  have d1 := fun W h1 h2 => mreadp_any s me W (by omega) h1 h2
  rw [hp] at d1
  obtain ⟨sp5, sp6⟩ := rdP_small hp
  have hfp := fldsok_small sp5
  have sp7 := sp5.1
  have sp8 := sp5.2.1
  have d2 := fun v vb W h hb h1 h2 => mprp_any 0 0 p me v vb W h hfp hb (by omega) h1 h2
  rw [hpp] at d2
  rw [show textH none = .tuple #[.string ⟨#[]⟩, .int .i64 2] from rfl] at d2
  clear hs hm hq hp hpq sq1 sq2 sq3 sq4 sq5 sq6 sq7 sq8 hfk hpp sp5 sp6 sp7 sp8 hfp
  clear hsz
  go_enter Tryz.func6, Tryz.ntmps6
  go_wp2_with fail
  refine cA.mono ?_
  rintro e w1 ⟨rfl, hb1⟩
  have HB1 := Lib.hid hb1
  clear hb1 cA
  go_wp2_with fail
  refine (c1 _ (Utf8Tabs_below HT.out HB1.out) (HE.out.below HB1.out)).mono ?_
  rintro e w2 ⟨hb2, f2, b2, rfl, hf2, hy2⟩
  have ha2 := (Below.refl w2.heap.size w2).alloc (Nat.le_refl _) (.cells #[.string (strB q.m), .string (strB q.t), f2, b2] 26)
  have hc2 := hb2.trans (ha2.mono hb2.size)
  have HB2 := Lib.hid (HB1.out.trans (hc2.mono HB1.out.size))
  have HX2 := Lib.hid (BoxQ.made w2 (strB q.m) (strB q.t) f2 b2)
  have HF2 := Lib.hid ((hf2.low (Nat.zero_le _)).below ha2)
  have HY2 := Lib.hid ((hy2.low (Nat.zero_le _)).below ha2)
  obtain ⟨fo2, fc2, rfl, _⟩ := hf2
  obtain ⟨bo2, bc2, rfl, _⟩ := hy2
  clear hb2 ha2 hc2 c1
  obtain ⟨x0, x1, x2, x3⟩ := HX2.out
  go_wp2_with fail
  refine (c2 _ _ _ HF2.out HY2.out (Utf8Tabs_below HT.out HB2.out) (HP.out.below HB2.out)).mono ?_
  rintro e w3 ⟨rfl, hb3⟩
  have HB3 := Lib.hid (HB2.out.trans (hb3.mono HB2.out.size))
  clear hb3 c2 x0 x1 x2 x3
  go_wp2_with fail
  refine (d1 _ (Utf8Tabs_below HT.out HB3.out) (HE.out.below HB3.out)).mono ?_
  rintro e w4 ⟨hb4, f4, b4, rfl, hf4, hy4⟩
  have ha4 := (Below.refl w4.heap.size w4).alloc (Nat.le_refl _) (.cells #[.int .i64 p.n, f4, b4] 31)
  have hc4 := hb4.trans (ha4.mono hb4.size)
  have HB4 := Lib.hid (HB3.out.trans (hc4.mono HB3.out.size))
  have LX4 := Lib.hid (BoxP.made w4 p.n f4 b4)
  have LF4 := Lib.hid ((hf4.low (Nat.zero_le _)).below ha4)
  have LY4 := Lib.hid ((hy4.low (Nat.zero_le _)).below ha4)
  obtain ⟨fo4, fc4, rfl, _⟩ := hf4
  obtain ⟨bo4, bc4, rfl, _⟩ := hy4
  clear hb4 ha4 hc4 d1
  obtain ⟨u0, u1, u2⟩ := LX4.out
  go_wp2_with fail
  refine (d2 _ _ _ LF4.out LY4.out (Utf8Tabs_below HT.out HB4.out) (HP.out.below HB4.out)).mono ?_
  rintro e w5 ⟨rfl, hb5⟩
  have HB5 := Lib.hid (HB4.out.trans (hb5.mono HB4.out.size))
  clear hb5 d2 u0 u1 u2
  go_wp2_with fail
  go_ret
  exact ⟨rfl, HB5.out⟩

set_option maxRecDepth 100000 in
set_option maxHeartbeats 8000000 in
theorem again_ns (s me : ByteArray) (w : World) (hs : ¬ 10000 < s.size) (hm : ¬ 100 < me.size) (hT : Tabs w) (hE : Errs w) (hP : Pow w) (q : Rq) (n : Nat) (hq : rdQ s.data.toList = .ok (q, n)) (hpq : prQ q = none) (p : Rp) (u : List UInt8) (hp : rdP s.data.toList me = .ok p) (hpp : prP p me = some u) :
    Calls Tryz.prog 6 #[.string s, .string me] w fun e w' => e = .returned (.bool true) ∧ Below w.heap.size w w' := by
  have cA := awake8_any w hT hE hP
  have HT := Lib.hid hT
  have HE := Lib.hid hE
  have HP := Lib.hid hP
  have e1 : ¬ (10000 : Int) < (s.size : Int) := by omega
  have e2 : ¬ (100 : Int) < (me.size : Int) := by omega
  have hsz := Lib.size_eq s
  clear hT hE hP
  have c1 := fun W h1 h2 => mreadq_any s W (by omega) h1 h2
  rw [hq] at c1
  obtain ⟨sq1, sq2, sq3, sq4, sq5, sq6⟩ := rdQ_small hq
  have hfk := fldsok_small sq5
  have sq7 := sq5.1
  have sq8 := sq5.2.1
  have dn1 : ¬ (n : Int) < 1 := by omega
  have dn2 : ¬ (s.size : Int) < (n : Int) := by omega
  have c2 := fun v vb W h hb h1 h2 => mprq_any 0 0 q v vb W h hfk (by omega) hb (by omega) (by omega) (by omega) h1 h2
  rw [hpq] at c2
  rw [show textH none = .tuple #[.string ⟨#[]⟩, .int .i64 2] from rfl] at c2
  have d1 := fun W h1 h2 => mreadp_any s me W (by omega) h1 h2
  rw [hp] at d1
  obtain ⟨sp5, sp6⟩ := rdP_small hp
  have hfp := fldsok_small sp5
  have sp7 := sp5.1
  have sp8 := sp5.2.1
  have d2 := fun v vb W h hb h1 h2 => mprp_any 0 0 p me v vb W h hfp hb (by omega) h1 h2
  rw [hpp] at d2
  rw [show textH (some u) = .tuple #[.string (strB u), .int .i64 0] from rfl] at d2
  have hul := prP_len hpp
  have d3 := fun W h1 h2 => mreadp_any (strB u) me W (by rewrite [strB_size]; omega) h1 h2
  rw [strB_data, backP hpp] at d3
  have d4 := fun f1 f2 b1 b2 W h1 h2 h3 h4 => rsamep_any 0 0 0 0 p p f1 f2 b1 b2 W h1 h2 h3 h4 (by omega) (by omega)
  rw [sameP_self] at d4
  generalize strB u = SU at *
  clear hs hm hq hp hpq sq1 sq2 sq3 sq4 sq5 sq6 sq7 sq8 hfk hpp sp5 sp6 sp7 sp8 hfp hul
  clear hsz
  go_enter Tryz.func6, Tryz.ntmps6
  go_wp2_with fail
  refine cA.mono ?_
  rintro e w1 ⟨rfl, hb1⟩
  have HB1 := Lib.hid hb1
  clear hb1 cA
  go_wp2_with fail
  refine (c1 _ (Utf8Tabs_below HT.out HB1.out) (HE.out.below HB1.out)).mono ?_
  rintro e w2 ⟨hb2, f2, b2, rfl, hf2, hy2⟩
  have ha2 := (Below.refl w2.heap.size w2).alloc (Nat.le_refl _) (.cells #[.string (strB q.m), .string (strB q.t), f2, b2] 26)
  have hc2 := hb2.trans (ha2.mono hb2.size)
  have HB2 := Lib.hid (HB1.out.trans (hc2.mono HB1.out.size))
  have HX2 := Lib.hid (BoxQ.made w2 (strB q.m) (strB q.t) f2 b2)
  have HF2 := Lib.hid ((hf2.low (Nat.zero_le _)).below ha2)
  have HY2 := Lib.hid ((hy2.low (Nat.zero_le _)).below ha2)
  obtain ⟨fo2, fc2, rfl, _⟩ := hf2
  obtain ⟨bo2, bc2, rfl, _⟩ := hy2
  clear hb2 ha2 hc2 c1
  obtain ⟨x0, x1, x2, x3⟩ := HX2.out
  go_wp2_with fail
  refine (c2 _ _ _ HF2.out HY2.out (Utf8Tabs_below HT.out HB2.out) (HP.out.below HB2.out)).mono ?_
  rintro e w3 ⟨rfl, hb3⟩
  have HB3 := Lib.hid (HB2.out.trans (hb3.mono HB2.out.size))
  clear hb3 c2 x0 x1 x2 x3
  go_wp2_with fail
  refine (d1 _ (Utf8Tabs_below HT.out HB3.out) (HE.out.below HB3.out)).mono ?_
  rintro e w4 ⟨hb4, f4, b4, rfl, hf4, hy4⟩
  have ha4 := (Below.refl w4.heap.size w4).alloc (Nat.le_refl _) (.cells #[.int .i64 p.n, f4, b4] 31)
  have hc4 := hb4.trans (ha4.mono hb4.size)
  have HB4 := Lib.hid (HB3.out.trans (hc4.mono HB3.out.size))
  have LX4 := Lib.hid (BoxP.made w4 p.n f4 b4)
  have LF4 := Lib.hid ((hf4.low (Nat.zero_le _)).below ha4)
  have LY4 := Lib.hid ((hy4.low (Nat.zero_le _)).below ha4)
  obtain ⟨fo4, fc4, rfl, _⟩ := hf4
  obtain ⟨bo4, bc4, rfl, _⟩ := hy4
  clear hb4 ha4 hc4 d1
  obtain ⟨u0, u1, u2⟩ := LX4.out
  go_wp2_with fail
  refine (d2 _ _ _ LF4.out LY4.out (Utf8Tabs_below HT.out HB4.out) (HP.out.below HB4.out)).mono ?_
  rintro e w5 ⟨rfl, hb5⟩
  have HB5 := Lib.hid (HB4.out.trans (hb5.mono HB4.out.size))
  have LX5 := Lib.hid (LX4.out.next hb5)
  have LF5 := Lib.hid (LF4.out.below hb5)
  have LY5 := Lib.hid (LY4.out.below hb5)
  clear hb5 d2 u0 u1 u2
  go_wp2_with fail
  refine (d3 _ (Utf8Tabs_below HT.out HB5.out) (HE.out.below HB5.out)).mono ?_
  rintro e w6 ⟨hb6, f6, b6, rfl, hf6, hy6⟩
  have ha6 := (Below.refl w6.heap.size w6).alloc (Nat.le_refl _) (.cells #[.int .i64 p.n, f6, b6] 31)
  have hc6 := hb6.trans (ha6.mono hb6.size)
  have HB6 := Lib.hid (HB5.out.trans (hc6.mono HB5.out.size))
  have MX6 := Lib.hid (BoxP.made w6 p.n f6 b6)
  have MF6 := Lib.hid ((hf6.low (Nat.zero_le _)).below ha6)
  have MY6 := Lib.hid ((hy6.low (Nat.zero_le _)).below ha6)
  obtain ⟨fo6, fc6, rfl, _⟩ := hf6
  obtain ⟨bo6, bc6, rfl, _⟩ := hy6
  have LX6 := Lib.hid (LX5.out.next hc6)
  have LF6 := Lib.hid (LF5.out.below hc6)
  have LY6 := Lib.hid (LY5.out.below hc6)
  clear hb6 ha6 hc6 d3
  obtain ⟨u0, u1, u2⟩ := LX6.out
  obtain ⟨v0, v1, v2⟩ := MX6.out
  go_wp2_with fail
  refine (d4 _ _ _ _ _ LF6.out MF6.out LY6.out MY6.out).mono ?_
  rintro e w7 ⟨rfl, hb7⟩
  have HB7 := Lib.hid (HB6.out.trans (hb7.mono HB6.out.size))
  clear hb7 d4 u0 u1 u2 v0 v1 v2
  go_wp2_with fail
  go_ret
  exact ⟨rfl, HB7.out⟩

set_option maxRecDepth 100000 in
set_option maxHeartbeats 8000000 in
theorem again_se (s me : ByteArray) (w : World) (hs : ¬ 10000 < s.size) (hm : ¬ 100 < me.size) (hT : Tabs w) (hE : Errs w) (hP : Pow w) (q : Rq) (n : Nat) (t : List UInt8) (hq : rdQ s.data.toList = .ok (q, n)) (hpq : prQ q = some t) (y : Int) (hp : rdP s.data.toList me = .error y) :
    Calls Tryz.prog 6 #[.string s, .string me] w fun e w' => e = .returned (.bool true) ∧ Below w.heap.size w w' := by
  have cA := awake8_any w hT hE hP
  have HT := Lib.hid hT
  have HE := Lib.hid hE
  have HP := Lib.hid hP
  have e1 : ¬ (10000 : Int) < (s.size : Int) := by omega
  have e2 : ¬ (100 : Int) < (me.size : Int) := by omega
  have hsz := Lib.size_eq s
  clear hT hE hP
  have c1 := fun W h1 h2 => mreadq_any s W (by omega) h1 h2
  rw [hq] at c1
  obtain ⟨sq1, sq2, sq3, sq4, sq5, sq6⟩ := rdQ_small hq
  have hfk := fldsok_small sq5
  have sq7 := sq5.1
  have sq8 := sq5.2.1
  have dn1 : ¬ (n : Int) < 1 := by omega
  have dn2 : ¬ (s.size : Int) < (n : Int) := by omega
  have c2 := fun v vb W h hb h1 h2 => mprq_any 0 0 q v vb W h hfk (by omega) hb (by omega) (by omega) (by omega) h1 h2
  rw [hpq] at c2
  rw [show textH (some t) = .tuple #[.string (strB t), .int .i64 0] from rfl] at c2
  have htl := prQ_len hpq
  have c3 := fun W h1 h2 => mreadq_any (strB t) W (by rewrite [strB_size]; omega) h1 h2
  rw [strB_data, backQ0 hpq] at c3
  have c4 := fun f1 f2 b1 b2 W h1 h2 h3 h4 => rsameq_any 0 0 0 0 q q f1 f2 b1 b2 W h1 h2 h3 h4 (by omega) (by omega)
  rw [sameQ_self] at c4
  generalize strB t = ST at *
  have d1 := fun W h1 h2 => mreadp_any s me W (by omega) h1 h2
  rw [hp] at d1
  have hy : (y != 0) = true := by
    have := rdP_err hp
    rewrite [bne_iff_ne]
    omega
  clear hs hm hq hp hpq sq1 sq2 sq3 sq4 sq5 sq6 sq7 sq8 hfk htl
  clear hsz
  go_enter Tryz.func6, Tryz.ntmps6
  go_wp2_with fail
  refine cA.mono ?_
  rintro e w1 ⟨rfl, hb1⟩
  have HB1 := Lib.hid hb1
  clear hb1 cA
  go_wp2_with fail
  refine (c1 _ (Utf8Tabs_below HT.out HB1.out) (HE.out.below HB1.out)).mono ?_
  rintro e w2 ⟨hb2, f2, b2, rfl, hf2, hy2⟩
  have ha2 := (Below.refl w2.heap.size w2).alloc (Nat.le_refl _) (.cells #[.string (strB q.m), .string (strB q.t), f2, b2] 26)
  have hc2 := hb2.trans (ha2.mono hb2.size)
  have HB2 := Lib.hid (HB1.out.trans (hc2.mono HB1.out.size))
  have HX2 := Lib.hid (BoxQ.made w2 (strB q.m) (strB q.t) f2 b2)
  have HF2 := Lib.hid ((hf2.low (Nat.zero_le _)).below ha2)
  have HY2 := Lib.hid ((hy2.low (Nat.zero_le _)).below ha2)
  obtain ⟨fo2, fc2, rfl, _⟩ := hf2
  obtain ⟨bo2, bc2, rfl, _⟩ := hy2
  clear hb2 ha2 hc2 c1
  obtain ⟨x0, x1, x2, x3⟩ := HX2.out
  go_wp2_with fail
  refine (c2 _ _ _ HF2.out HY2.out (Utf8Tabs_below HT.out HB2.out) (HP.out.below HB2.out)).mono ?_
  rintro e w3 ⟨rfl, hb3⟩
  have HB3 := Lib.hid (HB2.out.trans (hb3.mono HB2.out.size))
  have HX3 := Lib.hid (HX2.out.next hb3)
  have HF3 := Lib.hid (HF2.out.below hb3)
  have HY3 := Lib.hid (HY2.out.below hb3)
  clear hb3 c2 x0 x1 x2 x3
  go_wp2_with fail
  refine (c3 _ (Utf8Tabs_below HT.out HB3.out) (HE.out.below HB3.out)).mono ?_
  rintro e w4 ⟨hb4, f4, b4, rfl, hf4, hy4⟩
  have ha4 := (Below.refl w4.heap.size w4).alloc (Nat.le_refl _) (.cells #[.string (strB q.m), .string (strB q.t), f4, b4] 26)
  have hc4 := hb4.trans (ha4.mono hb4.size)
  have HB4 := Lib.hid (HB3.out.trans (hc4.mono HB3.out.size))
  have KX4 := Lib.hid (BoxQ.made w4 (strB q.m) (strB q.t) f4 b4)
  have KF4 := Lib.hid ((hf4.low (Nat.zero_le _)).below ha4)
  have KY4 := Lib.hid ((hy4.low (Nat.zero_le _)).below ha4)
  obtain ⟨fo4, fc4, rfl, _⟩ := hf4
  obtain ⟨bo4, bc4, rfl, _⟩ := hy4
  have HX4 := Lib.hid (HX3.out.next hc4)
  have HF4 := Lib.hid (HF3.out.below hc4)
  have HY4 := Lib.hid (HY3.out.below hc4)
  clear hb4 ha4 hc4 c3
  obtain ⟨x0, x1, x2, x3⟩ := HX4.out
  obtain ⟨y0, y1, y2, y3⟩ := KX4.out
  go_wp2_with fail
  refine (c4 _ _ _ _ _ HF4.out KF4.out HY4.out KY4.out).mono ?_
  rintro e w5 ⟨rfl, hb5⟩
  have HB5 := Lib.hid (HB4.out.trans (hb5.mono HB4.out.size))
  clear hb5 c4 x0 x1 x2 x3 y0 y1 y2 y3
  go_wp2_with fail
  refine (d1 _ (Utf8Tabs_below HT.out HB5.out) (HE.out.below HB5.out)).mono ?_
  rintro e w6 ⟨hb6, rfl⟩
  have ha6 := (Below.refl w6.heap.size w6).alloc (Nat.le_refl _) nilP
  have HB6 := Lib.hid (HB5.out.trans ((hb6.trans (ha6.mono hb6.size)).mono HB5.out.size))
  clear hb6 ha6 d1
  go_wp2_with fail
  go_ret
  exact ⟨rfl, HB6.out⟩

set_option maxRecDepth 100000 in
set_option maxHeartbeats 8000000 in
theorem again_sn (s me : ByteArray) (w : World) (hs : ¬ 10000 < s.size) (hm : ¬ 100 < me.size) (hT : Tabs w) (hE : Errs w) (hP : Pow w) (q : Rq) (n : Nat) (t : List UInt8) (hq : rdQ s.data.toList = .ok (q, n)) (hpq : prQ q = some t) (p : Rp) (hp : rdP s.data.toList me = .ok p) (hpp : prP p me = none) :
    Calls Tryz.prog 6 #[.string s, .string me] w fun e w' => e = .returned (.bool true) ∧ Below w.heap.size w w' := by
  have cA := awake8_any w hT hE hP
  have HT := Lib.hid hT
  have HE := Lib.hid hE
  have HP := Lib.hid hP
  have e1 : ¬ (10000 : Int) < (s.size : Int) := by omega
  have e2 : ¬ (100 : Int) < (me.size : Int) := by omega
  have hsz := Lib.size_eq s
  clear hT hE hP
  have c1 := fun W h1 h2 => mreadq_any s W (by omega) h1 h2
  rw [hq] at c1
  obtain ⟨sq1, sq2, sq3, sq4, sq5, sq6⟩ := rdQ_small hq
  have hfk := fldsok_small sq5
  have sq7 := sq5.1
  have sq8 := sq5.2.1
  have dn1 : ¬ (n : Int) < 1 := by omega
  have dn2 : ¬ (s.size : Int) < (n : Int) := by omega
  have c2 := fun v vb W h hb h1 h2 => mprq_any 0 0 q v vb W h hfk (by omega) hb (by omega) (by omega) (by omega) h1 h2
  rw [hpq] at c2
  rw [show textH (some t) = .tuple #[.string (strB t), .int .i64 0] from rfl] at c2
  have htl := prQ_len hpq
  have c3 := fun W h1 h2 => mreadq_any (strB t) W (by rewrite [strB_size]; omega) h1 h2
  rw [strB_data, backQ0 hpq] at c3
  have c4 := fun f1 f2 b1 b2 W h1 h2 h3 h4 => rsameq_any 0 0 0 0 q q f1 f2 b1 b2 W h1 h2 h3 h4 (by omega) (by omega)
  rw [sameQ_self] at c4
  generalize strB t = ST at *
  have d1 := fun W h1 h2 => mreadp_any s me W (by omega) h1 h2
  rw [hp] at d1
  obtain ⟨sp5, sp6⟩ := rdP_small hp
  have hfp := fldsok_small sp5
  have sp7 := sp5.1
  have sp8 := sp5.2.1
  have d2 := fun v vb W h hb h1 h2 => mprp_any 0 0 p me v vb W h hfp hb (by omega) h1 h2
  rw [hpp] at d2
  rw [show textH none = .tuple #[.string ⟨#[]⟩, .int .i64 2] from rfl] at d2
  clear hs hm hq hp hpq sq1 sq2 sq3 sq4 sq5 sq6 sq7 sq8 hfk htl hpp sp5 sp6 sp7 sp8 hfp
  clear hsz
  go_enter Tryz.func6, Tryz.ntmps6
  go_wp2_with fail
  refine cA.mono ?_
  rintro e w1 ⟨rfl, hb1⟩
  have HB1 := Lib.hid hb1
  clear hb1 cA
  go_wp2_with fail
  refine (c1 _ (Utf8Tabs_below HT.out HB1.out) (HE.out.below HB1.out)).mono ?_
  rintro e w2 ⟨hb2, f2, b2, rfl, hf2, hy2⟩
  have ha2 := (Below.refl w2.heap.size w2).alloc (Nat.le_refl _) (.cells #[.string (strB q.m), .string (strB q.t), f2, b2] 26)
  have hc2 := hb2.trans (ha2.mono hb2.size)
  have HB2 := Lib.hid (HB1.out.trans (hc2.mono HB1.out.size))
  have HX2 := Lib.hid (BoxQ.made w2 (strB q.m) (strB q.t) f2 b2)
  have HF2 := Lib.hid ((hf2.low (Nat.zero_le _)).below ha2)
  have HY2 := Lib.hid ((hy2.low (Nat.zero_le _)).below ha2)
  obtain ⟨fo2, fc2, rfl, _⟩ := hf2
  obtain ⟨bo2, bc2, rfl, _⟩ := hy2
  clear hb2 ha2 hc2 c1
  obtain ⟨x0, x1, x2, x3⟩ := HX2.out
  go_wp2_with fail
  refine (c2 _ _ _ HF2.out HY2.out (Utf8Tabs_below HT.out HB2.out) (HP.out.below HB2.out)).mono ?_
  rintro e w3 ⟨rfl, hb3⟩
  have HB3 := Lib.hid (HB2.out.trans (hb3.mono HB2.out.size))
  have HX3 := Lib.hid (HX2.out.next hb3)
  have HF3 := Lib.hid (HF2.out.below hb3)
  have HY3 := Lib.hid (HY2.out.below hb3)
  clear hb3 c2 x0 x1 x2 x3
  go_wp2_with fail
  refine (c3 _ (Utf8Tabs_below HT.out HB3.out) (HE.out.below HB3.out)).mono ?_
  rintro e w4 ⟨hb4, f4, b4, rfl, hf4, hy4⟩
  have ha4 := (Below.refl w4.heap.size w4).alloc (Nat.le_refl _) (.cells #[.string (strB q.m), .string (strB q.t), f4, b4] 26)
  have hc4 := hb4.trans (ha4.mono hb4.size)
  have HB4 := Lib.hid (HB3.out.trans (hc4.mono HB3.out.size))
  have KX4 := Lib.hid (BoxQ.made w4 (strB q.m) (strB q.t) f4 b4)
  have KF4 := Lib.hid ((hf4.low (Nat.zero_le _)).below ha4)
  have KY4 := Lib.hid ((hy4.low (Nat.zero_le _)).below ha4)
  obtain ⟨fo4, fc4, rfl, _⟩ := hf4
  obtain ⟨bo4, bc4, rfl, _⟩ := hy4
  have HX4 := Lib.hid (HX3.out.next hc4)
  have HF4 := Lib.hid (HF3.out.below hc4)
  have HY4 := Lib.hid (HY3.out.below hc4)
  clear hb4 ha4 hc4 c3
  obtain ⟨x0, x1, x2, x3⟩ := HX4.out
  obtain ⟨y0, y1, y2, y3⟩ := KX4.out
  go_wp2_with fail
  refine (c4 _ _ _ _ _ HF4.out KF4.out HY4.out KY4.out).mono ?_
  rintro e w5 ⟨rfl, hb5⟩
  have HB5 := Lib.hid (HB4.out.trans (hb5.mono HB4.out.size))
  clear hb5 c4 x0 x1 x2 x3 y0 y1 y2 y3
  go_wp2_with fail
  refine (d1 _ (Utf8Tabs_below HT.out HB5.out) (HE.out.below HB5.out)).mono ?_
  rintro e w6 ⟨hb6, f6, b6, rfl, hf6, hy6⟩
  have ha6 := (Below.refl w6.heap.size w6).alloc (Nat.le_refl _) (.cells #[.int .i64 p.n, f6, b6] 31)
  have hc6 := hb6.trans (ha6.mono hb6.size)
  have HB6 := Lib.hid (HB5.out.trans (hc6.mono HB5.out.size))
  have LX6 := Lib.hid (BoxP.made w6 p.n f6 b6)
  have LF6 := Lib.hid ((hf6.low (Nat.zero_le _)).below ha6)
  have LY6 := Lib.hid ((hy6.low (Nat.zero_le _)).below ha6)
  obtain ⟨fo6, fc6, rfl, _⟩ := hf6
  obtain ⟨bo6, bc6, rfl, _⟩ := hy6
  clear hb6 ha6 hc6 d1
  obtain ⟨u0, u1, u2⟩ := LX6.out
  go_wp2_with fail
  refine (d2 _ _ _ LF6.out LY6.out (Utf8Tabs_below HT.out HB6.out) (HP.out.below HB6.out)).mono ?_
  rintro e w7 ⟨rfl, hb7⟩
  have HB7 := Lib.hid (HB6.out.trans (hb7.mono HB6.out.size))
  clear hb7 d2 u0 u1 u2
  go_wp2_with fail
  go_ret
  exact ⟨rfl, HB7.out⟩

set_option maxRecDepth 100000 in
set_option maxHeartbeats 8000000 in
theorem again_ss (s me : ByteArray) (w : World) (hs : ¬ 10000 < s.size) (hm : ¬ 100 < me.size) (hT : Tabs w) (hE : Errs w) (hP : Pow w) (q : Rq) (n : Nat) (t : List UInt8) (hq : rdQ s.data.toList = .ok (q, n)) (hpq : prQ q = some t) (p : Rp) (u : List UInt8) (hp : rdP s.data.toList me = .ok p) (hpp : prP p me = some u) :
    Calls Tryz.prog 6 #[.string s, .string me] w fun e w' => e = .returned (.bool true) ∧ Below w.heap.size w w' := by
  have cA := awake8_any w hT hE hP
  have HT := Lib.hid hT
  have HE := Lib.hid hE
  have HP := Lib.hid hP
  have e1 : ¬ (10000 : Int) < (s.size : Int) := by omega
  have e2 : ¬ (100 : Int) < (me.size : Int) := by omega
  have hsz := Lib.size_eq s
  clear hT hE hP
  have c1 := fun W h1 h2 => mreadq_any s W (by omega) h1 h2
  rw [hq] at c1
  obtain ⟨sq1, sq2, sq3, sq4, sq5, sq6⟩ := rdQ_small hq
  have hfk := fldsok_small sq5
  have sq7 := sq5.1
  have sq8 := sq5.2.1
  have dn1 : ¬ (n : Int) < 1 := by omega
  have dn2 : ¬ (s.size : Int) < (n : Int) := by omega
  have c2 := fun v vb W h hb h1 h2 => mprq_any 0 0 q v vb W h hfk (by omega) hb (by omega) (by omega) (by omega) h1 h2
  rw [hpq] at c2
  rw [show textH (some t) = .tuple #[.string (strB t), .int .i64 0] from rfl] at c2
  have htl := prQ_len hpq
  have c3 := fun W h1 h2 => mreadq_any (strB t) W (by rewrite [strB_size]; omega) h1 h2
  rw [strB_data, backQ0 hpq] at c3
  have c4 := fun f1 f2 b1 b2 W h1 h2 h3 h4 => rsameq_any 0 0 0 0 q q f1 f2 b1 b2 W h1 h2 h3 h4 (by omega) (by omega)
  rw [sameQ_self] at c4
  generalize strB t = ST at *
  have d1 := fun W h1 h2 => mreadp_any s me W (by omega) h1 h2
  rw [hp] at d1
  obtain ⟨sp5, sp6⟩ := rdP_small hp
  have hfp := fldsok_small sp5
  have sp7 := sp5.1
  have sp8 := sp5.2.1
  have d2 := fun v vb W h hb h1 h2 => mprp_any 0 0 p me v vb W h hfp hb (by omega) h1 h2
  rw [hpp] at d2
  rw [show textH (some u) = .tuple #[.string (strB u), .int .i64 0] from rfl] at d2
  have hul := prP_len hpp
  have d3 := fun W h1 h2 => mreadp_any (strB u) me W (by rewrite [strB_size]; omega) h1 h2
  rw [strB_data, backP hpp] at d3
  have d4 := fun f1 f2 b1 b2 W h1 h2 h3 h4 => rsamep_any 0 0 0 0 p p f1 f2 b1 b2 W h1 h2 h3 h4 (by omega) (by omega)
  rw [sameP_self] at d4
  generalize strB u = SU at *
  clear hs hm hq hp hpq sq1 sq2 sq3 sq4 sq5 sq6 sq7 sq8 hfk htl hpp sp5 sp6 sp7 sp8 hfp hul
  clear hsz
  go_enter Tryz.func6, Tryz.ntmps6
  go_wp2_with fail
  refine cA.mono ?_
  rintro e w1 ⟨rfl, hb1⟩
  have HB1 := Lib.hid hb1
  clear hb1 cA
  go_wp2_with fail
  refine (c1 _ (Utf8Tabs_below HT.out HB1.out) (HE.out.below HB1.out)).mono ?_
  rintro e w2 ⟨hb2, f2, b2, rfl, hf2, hy2⟩
  have ha2 := (Below.refl w2.heap.size w2).alloc (Nat.le_refl _) (.cells #[.string (strB q.m), .string (strB q.t), f2, b2] 26)
  have hc2 := hb2.trans (ha2.mono hb2.size)
  have HB2 := Lib.hid (HB1.out.trans (hc2.mono HB1.out.size))
  have HX2 := Lib.hid (BoxQ.made w2 (strB q.m) (strB q.t) f2 b2)
  have HF2 := Lib.hid ((hf2.low (Nat.zero_le _)).below ha2)
  have HY2 := Lib.hid ((hy2.low (Nat.zero_le _)).below ha2)
  obtain ⟨fo2, fc2, rfl, _⟩ := hf2
  obtain ⟨bo2, bc2, rfl, _⟩ := hy2
  clear hb2 ha2 hc2 c1
  obtain ⟨x0, x1, x2, x3⟩ := HX2.out
  go_wp2_with fail
  refine (c2 _ _ _ HF2.out HY2.out (Utf8Tabs_below HT.out HB2.out) (HP.out.below HB2.out)).mono ?_
  rintro e w3 ⟨rfl, hb3⟩
  have HB3 := Lib.hid (HB2.out.trans (hb3.mono HB2.out.size))
  have HX3 := Lib.hid (HX2.out.next hb3)
  have HF3 := Lib.hid (HF2.out.below hb3)
  have HY3 := Lib.hid (HY2.out.below hb3)
  clear hb3 c2 x0 x1 x2 x3
  go_wp2_with fail
  refine (c3 _ (Utf8Tabs_below HT.out HB3.out) (HE.out.below HB3.out)).mono ?_
  rintro e w4 ⟨hb4, f4, b4, rfl, hf4, hy4⟩
  have ha4 := (Below.refl w4.heap.size w4).alloc (Nat.le_refl _) (.cells #[.string (strB q.m), .string (strB q.t), f4, b4] 26)
  have hc4 := hb4.trans (ha4.mono hb4.size)
  have HB4 := Lib.hid (HB3.out.trans (hc4.mono HB3.out.size))
  have KX4 := Lib.hid (BoxQ.made w4 (strB q.m) (strB q.t) f4 b4)
  have KF4 := Lib.hid ((hf4.low (Nat.zero_le _)).below ha4)
  have KY4 := Lib.hid ((hy4.low (Nat.zero_le _)).below ha4)
  obtain ⟨fo4, fc4, rfl, _⟩ := hf4
  obtain ⟨bo4, bc4, rfl, _⟩ := hy4
  have HX4 := Lib.hid (HX3.out.next hc4)
  have HF4 := Lib.hid (HF3.out.below hc4)
  have HY4 := Lib.hid (HY3.out.below hc4)
  clear hb4 ha4 hc4 c3
  obtain ⟨x0, x1, x2, x3⟩ := HX4.out
  obtain ⟨y0, y1, y2, y3⟩ := KX4.out
  go_wp2_with fail
  refine (c4 _ _ _ _ _ HF4.out KF4.out HY4.out KY4.out).mono ?_
  rintro e w5 ⟨rfl, hb5⟩
  have HB5 := Lib.hid (HB4.out.trans (hb5.mono HB4.out.size))
  clear hb5 c4 x0 x1 x2 x3 y0 y1 y2 y3
  go_wp2_with fail
  refine (d1 _ (Utf8Tabs_below HT.out HB5.out) (HE.out.below HB5.out)).mono ?_
  rintro e w6 ⟨hb6, f6, b6, rfl, hf6, hy6⟩
  have ha6 := (Below.refl w6.heap.size w6).alloc (Nat.le_refl _) (.cells #[.int .i64 p.n, f6, b6] 31)
  have hc6 := hb6.trans (ha6.mono hb6.size)
  have HB6 := Lib.hid (HB5.out.trans (hc6.mono HB5.out.size))
  have LX6 := Lib.hid (BoxP.made w6 p.n f6 b6)
  have LF6 := Lib.hid ((hf6.low (Nat.zero_le _)).below ha6)
  have LY6 := Lib.hid ((hy6.low (Nat.zero_le _)).below ha6)
  obtain ⟨fo6, fc6, rfl, _⟩ := hf6
  obtain ⟨bo6, bc6, rfl, _⟩ := hy6
  clear hb6 ha6 hc6 d1
  obtain ⟨u0, u1, u2⟩ := LX6.out
  go_wp2_with fail
  refine (d2 _ _ _ LF6.out LY6.out (Utf8Tabs_below HT.out HB6.out) (HP.out.below HB6.out)).mono ?_
  rintro e w7 ⟨rfl, hb7⟩
  have HB7 := Lib.hid (HB6.out.trans (hb7.mono HB6.out.size))
  have LX7 := Lib.hid (LX6.out.next hb7)
  have LF7 := Lib.hid (LF6.out.below hb7)
  have LY7 := Lib.hid (LY6.out.below hb7)
  clear hb7 d2 u0 u1 u2
  go_wp2_with fail
  refine (d3 _ (Utf8Tabs_below HT.out HB7.out) (HE.out.below HB7.out)).mono ?_
  rintro e w8 ⟨hb8, f8, b8, rfl, hf8, hy8⟩
  have ha8 := (Below.refl w8.heap.size w8).alloc (Nat.le_refl _) (.cells #[.int .i64 p.n, f8, b8] 31)
  have hc8 := hb8.trans (ha8.mono hb8.size)
  have HB8 := Lib.hid (HB7.out.trans (hc8.mono HB7.out.size))
  have MX8 := Lib.hid (BoxP.made w8 p.n f8 b8)
  have MF8 := Lib.hid ((hf8.low (Nat.zero_le _)).below ha8)
  have MY8 := Lib.hid ((hy8.low (Nat.zero_le _)).below ha8)
  obtain ⟨fo8, fc8, rfl, _⟩ := hf8
  obtain ⟨bo8, bc8, rfl, _⟩ := hy8
  have LX8 := Lib.hid (LX7.out.next hc8)
  have LF8 := Lib.hid (LF7.out.below hc8)
  have LY8 := Lib.hid (LY7.out.below hc8)
  clear hb8 ha8 hc8 d3
  obtain ⟨u0, u1, u2⟩ := LX8.out
  obtain ⟨v0, v1, v2⟩ := MX8.out
  go_wp2_with fail
  refine (d4 _ _ _ _ _ LF8.out MF8.out LY8.out MY8.out).mono ?_
  rintro e w9 ⟨rfl, hb9⟩
  have HB9 := Lib.hid (HB8.out.trans (hb9.mono HB8.out.size))
  clear hb9 d4 u0 u1 u2 v0 v1 v2
  go_wp2_with fail
  go_ret
  exact ⟨rfl, HB9.out⟩

set_option maxRecDepth 100000 in
set_option maxHeartbeats 8000000 in
theorem again_big (s me : ByteArray) (w : World) (hb : 10000 < s.size ∨ 100 < me.size) (hT : Tabs w) (hE : Errs w) (hP : Pow w) :
    Calls Tryz.prog 6 #[.string s, .string me] w fun e w' => e = .returned (.bool true) ∧ Below w.heap.size w w' := by
  have cA := awake8_any w hT hE hP
  clear hT hE hP
  by_cases h1 : 10000 < s.size
  · have d1 : (10000 : Int) < (s.size : Int) := by omega
    clear h1 hb
    go_enter Tryz.func6, Tryz.ntmps6
    go_wp2_with fail
    refine cA.mono ?_
    rintro e w1 ⟨rfl, hb1⟩
    go_wp2_with fail
    go_ret
    exact ⟨rfl, hb1⟩
  · have d1 : ¬ (10000 : Int) < (s.size : Int) := by omega
    have d2 : (100 : Int) < (me.size : Int) := by omega
    clear h1 hb
    go_enter Tryz.func6, Tryz.ntmps6
    go_wp2_with fail
    refine cA.mono ?_
    rintro e w1 ⟨rfl, hb1⟩
    go_wp2_with fail
    go_ret
    exact ⟨rfl, hb1⟩

theorem again_walk (s me : ByteArray) (w : World) (hT : Tabs w) (hE : Errs w) (hP : Pow w) :
    Calls Tryz.prog 6 #[.string s, .string me] w fun e w' => e = .returned (.bool true) ∧ Below w.heap.size w w' := by
  by_cases h1 : 10000 < s.size
  · exact again_big s me w (.inl h1) hT hE hP
  by_cases h2 : 100 < me.size
  · exact again_big s me w (.inr h2) hT hE hP
  cases hq : rdQ s.data.toList with
  | error x =>
    cases hp : rdP s.data.toList me with
    | error y => exact again_ee s me w h1 h2 hT hE hP x hq y hp
    | ok p =>
      cases hpp : prP p me with
      | none => exact again_en s me w h1 h2 hT hE hP x hq p hp hpp
      | some u => exact again_es s me w h1 h2 hT hE hP x hq p u hp hpp
  | ok r =>
    obtain ⟨q, n⟩ := r
    cases hpq : prQ q with
    | none =>
      cases hp : rdP s.data.toList me with
      | error y => exact again_ne s me w h1 h2 hT hE hP q n hq hpq y hp
      | ok p =>
        cases hpp : prP p me with
        | none => exact again_nn s me w h1 h2 hT hE hP q n hq hpq p hp hpp
        | some u => exact again_ns s me w h1 h2 hT hE hP q n hq hpq p u hp hpp
    | some t =>
      cases hp : rdP s.data.toList me with
      | error y => exact again_se s me w h1 h2 hT hE hP q n t hq hpq y hp
      | ok p =>
        cases hpp : prP p me with
        | none => exact again_sn s me w h1 h2 hT hE hP q n t hq hpq p hp hpp
        | some u => exact again_ss s me w h1 h2 hT hE hP q n t hq hpq p u hp hpp

end Go.Proofs.YthbfcamfapgodaaGreatDoor
