/- The document's own PrintRequest (sculleryref08). -/
import Derived.Test.YthbfcamfapgodaaGreatDoorIC
import Derived.Test.YthbfcamfapgodaaGreatDoorHF
import Derived.Test.YthbfcamfapgodaaGreatDoorIB
import Derived.Test.YthbfcamfapgodaaGreatDoorHA
import Derived.Test.YthbfcamfapgodaaGreatDoorGS

namespace Go.Proofs.YthbfcamfapgodaaGreatDoor
open Go.RowKit Go.Shelf Go.Lib

theorem fieldsQ_len {q : Rq} {t : List UInt8} (h : prQ q = some t) : rightH (fieldsQ q) = true ∧ (prF (fieldsQ q)).length ≤ 200000 := by
  obtain ⟨_, _, h3, _, _, _, h7, _, h9, _⟩ := prQ_parts h
  have := fieldsQ_right h3 h7 h9
  exact ⟨this, prF_le this⟩

set_option maxRecDepth 100000 in
set_option maxHeartbeats 8000000 in
theorem rprq_tk (lo lo2 : Nat) (q : Rq) (v vb : Value) (w : World) (h : Flds lo w v q.fs) (hk : FldsOk q.fs) (hl : q.fs.length ≤ 90000) (hb : BytF lo2 w vb q.b) (hbl : q.b.length ≤ 90000) (hml : q.m.length ≤ 90000) (htl : q.t.length ≤ 90000) (e1 : tokL q.m = false) :
    Calls Tryz.prog 16 #[.agg #[.string (strB q.m), .string (strB q.t), v, vb]] w fun e w' => e = .returned (textH (prQ q)) ∧ Below w.heap.size w w' := by
  obtain ⟨m, t, fs, b⟩ := q
  dsimp only at *
  have cT := fun W => rtoken_any (strB m) W (by rewrite [strB_size]; unfold maxLen; omega)
  have cG := fun W => rtarget_any (strB t) W (by rewrite [strB_size]; omega)
  rw [strB_data] at cT cG
  have cF := fun W h => rfair_any lo v fs W h hk
  have cH := fun W h => rall_any lo v fs hoN W h hk.1
  rw [show strB hoN = (⟨#[104, 111, 115, 116]⟩ : ByteArray) from rfl] at cH
  have hhl := Nat.le_trans (allH_len fs hoN) hk.1
  have hms := strB_size m
  have hts := strB_size t
  have y1 : (strB m).size ≤ 90000 := by omega
  have y2 : (strB t).size ≤ 90000 := by omega
  have HF := Lib.hid (h.below ((Below.refl w.heap.size w).alloc (Nat.le_refl _) (.cells #[.string (strB m), .string (strB t), v, vb] 26)))
  have HY := Lib.hid (hb.below ((Below.refl w.heap.size w).alloc (Nat.le_refl _) (.cells #[.string (strB m), .string (strB t), v, vb] 26)))
  have HX0 := Lib.hid (BoxQ.made w (strB m) (strB t) v vb)
  have HB0 := Lib.hid ((Below.refl w.heap.size w).alloc (Nat.le_refl _) (.cells #[.string (strB m), .string (strB t), v, vb] 26))
  obtain ⟨ao, cap, rfl, _⟩ := h
  obtain ⟨bo, bcap, rfl, _⟩ := hb
  have HV : Hid (prQ ⟨m, t, fs, b⟩ = none) := Lib.hid (by rewrite [prQ]; exact if_neg (by simp [e1]))
  rw [e1] at cT
  clear e1
  clear hml htl hms hts hk
  generalize strB m = M at *
  generalize strB t = T at *
  obtain ⟨x0, x1, x2, x3⟩ := HX0.out
  go_enter Tryz.func16, Tryz.ntmps16
  go_wp2_with fail
  refine (cT _).mono ?_
  rintro e _ ⟨rfl, rfl⟩
  go_wp2_with fail
  exact bodyPost_ret (v := .tuple #[.string ⟨#[]⟩, .int .i64 2]) (by simp [results, Tryz.results16, go_sem]) rfl ⟨by rw [HV.out] <;> rfl, HB0.out⟩

set_option maxRecDepth 100000 in
set_option maxHeartbeats 8000000 in
theorem rprq_tg (lo lo2 : Nat) (q : Rq) (v vb : Value) (w : World) (h : Flds lo w v q.fs) (hk : FldsOk q.fs) (hl : q.fs.length ≤ 90000) (hb : BytF lo2 w vb q.b) (hbl : q.b.length ≤ 90000) (hml : q.m.length ≤ 90000) (htl : q.t.length ≤ 90000) (e1 : tokL q.m = true) (e2 : tgtL q.t = false) :
    Calls Tryz.prog 16 #[.agg #[.string (strB q.m), .string (strB q.t), v, vb]] w fun e w' => e = .returned (textH (prQ q)) ∧ Below w.heap.size w w' := by
  obtain ⟨m, t, fs, b⟩ := q
  dsimp only at *
  have cT := fun W => rtoken_any (strB m) W (by rewrite [strB_size]; unfold maxLen; omega)
  have cG := fun W => rtarget_any (strB t) W (by rewrite [strB_size]; omega)
  rw [strB_data] at cT cG
  have cF := fun W h => rfair_any lo v fs W h hk
  have cH := fun W h => rall_any lo v fs hoN W h hk.1
  rw [show strB hoN = (⟨#[104, 111, 115, 116]⟩ : ByteArray) from rfl] at cH
  have hhl := Nat.le_trans (allH_len fs hoN) hk.1
  have hms := strB_size m
  have hts := strB_size t
  have y1 : (strB m).size ≤ 90000 := by omega
  have y2 : (strB t).size ≤ 90000 := by omega
  have HF := Lib.hid (h.below ((Below.refl w.heap.size w).alloc (Nat.le_refl _) (.cells #[.string (strB m), .string (strB t), v, vb] 26)))
  have HY := Lib.hid (hb.below ((Below.refl w.heap.size w).alloc (Nat.le_refl _) (.cells #[.string (strB m), .string (strB t), v, vb] 26)))
  have HX0 := Lib.hid (BoxQ.made w (strB m) (strB t) v vb)
  have HB0 := Lib.hid ((Below.refl w.heap.size w).alloc (Nat.le_refl _) (.cells #[.string (strB m), .string (strB t), v, vb] 26))
  obtain ⟨ao, cap, rfl, _⟩ := h
  obtain ⟨bo, bcap, rfl, _⟩ := hb
  have HV : Hid (prQ ⟨m, t, fs, b⟩ = none) := Lib.hid (by rewrite [prQ]; exact if_neg (by simp [e2]))
  rw [e1] at cT
  rw [e2] at cG
  clear e1 e2
  clear hml htl hms hts hk
  generalize strB m = M at *
  generalize strB t = T at *
  obtain ⟨x0, x1, x2, x3⟩ := HX0.out
  go_enter Tryz.func16, Tryz.ntmps16
  go_wp2_with fail
  refine (cT _).mono ?_
  rintro e _ ⟨rfl, rfl⟩
  go_wp2_with fail
  refine (cG _).mono ?_
  rintro e _ ⟨rfl, rfl⟩
  go_wp2_with fail
  exact bodyPost_ret (v := .tuple #[.string ⟨#[]⟩, .int .i64 2]) (by simp [results, Tryz.results16, go_sem]) rfl ⟨by rw [HV.out] <;> rfl, HB0.out⟩

set_option maxRecDepth 100000 in
set_option maxHeartbeats 8000000 in
theorem rprq_fa (lo lo2 : Nat) (q : Rq) (v vb : Value) (w : World) (h : Flds lo w v q.fs) (hk : FldsOk q.fs) (hl : q.fs.length ≤ 90000) (hb : BytF lo2 w vb q.b) (hbl : q.b.length ≤ 90000) (hml : q.m.length ≤ 90000) (htl : q.t.length ≤ 90000) (e1 : tokL q.m = true) (e2 : tgtL q.t = true) (e3 : fairL q.fs = false) :
    Calls Tryz.prog 16 #[.agg #[.string (strB q.m), .string (strB q.t), v, vb]] w fun e w' => e = .returned (textH (prQ q)) ∧ Below w.heap.size w w' := by
  obtain ⟨m, t, fs, b⟩ := q
  dsimp only at *
  have cT := fun W => rtoken_any (strB m) W (by rewrite [strB_size]; unfold maxLen; omega)
  have cG := fun W => rtarget_any (strB t) W (by rewrite [strB_size]; omega)
  rw [strB_data] at cT cG
  have cF := fun W h => rfair_any lo v fs W h hk
  have cH := fun W h => rall_any lo v fs hoN W h hk.1
  rw [show strB hoN = (⟨#[104, 111, 115, 116]⟩ : ByteArray) from rfl] at cH
  have hhl := Nat.le_trans (allH_len fs hoN) hk.1
  have hms := strB_size m
  have hts := strB_size t
  have y1 : (strB m).size ≤ 90000 := by omega
  have y2 : (strB t).size ≤ 90000 := by omega
  have HF := Lib.hid (h.below ((Below.refl w.heap.size w).alloc (Nat.le_refl _) (.cells #[.string (strB m), .string (strB t), v, vb] 26)))
  have HY := Lib.hid (hb.below ((Below.refl w.heap.size w).alloc (Nat.le_refl _) (.cells #[.string (strB m), .string (strB t), v, vb] 26)))
  have HX0 := Lib.hid (BoxQ.made w (strB m) (strB t) v vb)
  have HB0 := Lib.hid ((Below.refl w.heap.size w).alloc (Nat.le_refl _) (.cells #[.string (strB m), .string (strB t), v, vb] 26))
  obtain ⟨ao, cap, rfl, _⟩ := h
  obtain ⟨bo, bcap, rfl, _⟩ := hb
  have HV : Hid (prQ ⟨m, t, fs, b⟩ = none) := Lib.hid (by rewrite [prQ]; exact if_neg (by simp [e3]))
  rw [e1] at cT
  rw [e2] at cG
  rw [e3] at cF
  clear e1 e2 e3
  clear hml htl hms hts hk
  generalize strB m = M at *
  generalize strB t = T at *
  obtain ⟨x0, x1, x2, x3⟩ := HX0.out
  go_enter Tryz.func16, Tryz.ntmps16
  go_wp2_with fail
  refine (cT _).mono ?_
  rintro e _ ⟨rfl, rfl⟩
  go_wp2_with fail
  refine (cG _).mono ?_
  rintro e _ ⟨rfl, rfl⟩
  go_wp2_with fail
  refine (cF _ HF.out).mono ?_
  rintro e w1 ⟨rfl, hb1⟩
  have HX1 := Lib.hid (HX0.out.next hb1)
  have HB1 := Lib.hid (HB0.out.trans (hb1.mono HB0.out.size))
  have HF1 := Lib.hid (HF.out.below hb1)
  have HY1 := Lib.hid (HY.out.below hb1)
  clear hb1
  clear x0 x1 x2 x3
  go_wp2_with fail
  exact bodyPost_ret (v := .tuple #[.string ⟨#[]⟩, .int .i64 2]) (by simp [results, Tryz.results16, go_sem]) rfl ⟨by rw [HV.out] <;> rfl, HB1.out⟩

set_option maxRecDepth 100000 in
set_option maxHeartbeats 8000000 in
theorem rprq_ho (lo lo2 : Nat) (q : Rq) (v vb : Value) (w : World) (h : Flds lo w v q.fs) (hk : FldsOk q.fs) (hl : q.fs.length ≤ 90000) (hb : BytF lo2 w vb q.b) (hbl : q.b.length ≤ 90000) (hml : q.m.length ≤ 90000) (htl : q.t.length ≤ 90000) (e1 : tokL q.m = true) (e2 : tgtL q.t = true) (e3 : fairL q.fs = true) (e4 : decide ((allH q.fs hoN).length = 1) = false) :
    Calls Tryz.prog 16 #[.agg #[.string (strB q.m), .string (strB q.t), v, vb]] w fun e w' => e = .returned (textH (prQ q)) ∧ Below w.heap.size w w' := by
  obtain ⟨m, t, fs, b⟩ := q
  dsimp only at *
  have cT := fun W => rtoken_any (strB m) W (by rewrite [strB_size]; unfold maxLen; omega)
  have cG := fun W => rtarget_any (strB t) W (by rewrite [strB_size]; omega)
  rw [strB_data] at cT cG
  have cF := fun W h => rfair_any lo v fs W h hk
  have cH := fun W h => rall_any lo v fs hoN W h hk.1
  rw [show strB hoN = (⟨#[104, 111, 115, 116]⟩ : ByteArray) from rfl] at cH
  have hhl := Nat.le_trans (allH_len fs hoN) hk.1
  have hms := strB_size m
  have hts := strB_size t
  have y1 : (strB m).size ≤ 90000 := by omega
  have y2 : (strB t).size ≤ 90000 := by omega
  have HF := Lib.hid (h.below ((Below.refl w.heap.size w).alloc (Nat.le_refl _) (.cells #[.string (strB m), .string (strB t), v, vb] 26)))
  have HY := Lib.hid (hb.below ((Below.refl w.heap.size w).alloc (Nat.le_refl _) (.cells #[.string (strB m), .string (strB t), v, vb] 26)))
  have HX0 := Lib.hid (BoxQ.made w (strB m) (strB t) v vb)
  have HB0 := Lib.hid ((Below.refl w.heap.size w).alloc (Nat.le_refl _) (.cells #[.string (strB m), .string (strB t), v, vb] 26))
  obtain ⟨ao, cap, rfl, _⟩ := h
  obtain ⟨bo, bcap, rfl, _⟩ := hb
  have HV : Hid (prQ ⟨m, t, fs, b⟩ = none) := Lib.hid (by rewrite [prQ]; exact if_neg (by simp [e4]))
  rw [e1] at cT
  rw [e2] at cG
  rw [e3] at cF
  have hho : (((allH fs hoN).length : Int) != 1) = !decide ((allH fs hoN).length = 1) := by
    by_cases hh : (allH fs hoN).length = 1
    · rw [decide_eq_true hh, hh] <;> rfl
    · rw [decide_eq_false hh, bne_iff_ne.2 (by omega)] <;> rfl
  rw [e4, Bool.not_false] at hho
  clear e1 e2 e3 e4
  generalize allH fs hoN = hs at *
  clear hml htl hms hts hk
  generalize strB m = M at *
  generalize strB t = T at *
  obtain ⟨x0, x1, x2, x3⟩ := HX0.out
  go_enter Tryz.func16, Tryz.ntmps16
  go_wp2_with fail
  refine (cT _).mono ?_
  rintro e _ ⟨rfl, rfl⟩
  go_wp2_with fail
  refine (cG _).mono ?_
  rintro e _ ⟨rfl, rfl⟩
  go_wp2_with fail
  refine (cF _ HF.out).mono ?_
  rintro e w1 ⟨rfl, hb1⟩
  have HX1 := Lib.hid (HX0.out.next hb1)
  have HB1 := Lib.hid (HB0.out.trans (hb1.mono HB0.out.size))
  have HF1 := Lib.hid (HF.out.below hb1)
  have HY1 := Lib.hid (HY.out.below hb1)
  clear hb1
  clear x0 x1 x2 x3
  obtain ⟨x0, x1, x2, x3⟩ := HX1.out
  go_wp2_with fail
  refine (cH _ HF1.out).mono ?_
  rintro e w2 ⟨⟨u2, rfl, hown2⟩, hb2⟩
  have HX2 := Lib.hid (HX1.out.next hb2)
  have HB2 := Lib.hid (HB1.out.trans (hb2.mono HB1.out.size))
  have HF2 := Lib.hid (HF1.out.below hb2)
  have HY2 := Lib.hid (HY1.out.below hb2)
  obtain ⟨a2, k2, rfl⟩ := owns_formF hown2
  clear hown2
  clear hb2
  clear x0 x1 x2 x3
  obtain ⟨x0, x1, x2, x3⟩ := HX2.out
  go_wp2_with fail
  exact bodyPost_ret (v := .tuple #[.string ⟨#[]⟩, .int .i64 2]) (by simp [results, Tryz.results16, go_sem]) rfl ⟨by rw [HV.out] <;> rfl, HB2.out⟩

set_option maxRecDepth 100000 in
set_option maxHeartbeats 8000000 in
theorem rprq_lg (lo lo2 : Nat) (q : Rq) (v vb : Value) (w : World) (h : Flds lo w v q.fs) (hk : FldsOk q.fs) (hl : q.fs.length ≤ 90000) (hb : BytF lo2 w vb q.b) (hbl : q.b.length ≤ 90000) (hml : q.m.length ≤ 90000) (htl : q.t.length ≤ 90000) (e1 : tokL q.m = true) (e2 : tgtL q.t = true) (e3 : fairL q.fs = true) (e4 : decide ((allH q.fs hoN).length = 1) = true) (e5 : ¬ q.m.length + q.t.length + 10 ≤ 2000) :
    Calls Tryz.prog 16 #[.agg #[.string (strB q.m), .string (strB q.t), v, vb]] w fun e w' => e = .returned (textH (prQ q)) ∧ Below w.heap.size w w' := by
  obtain ⟨m, t, fs, b⟩ := q
  dsimp only at *
  have cT := fun W => rtoken_any (strB m) W (by rewrite [strB_size]; unfold maxLen; omega)
  have cG := fun W => rtarget_any (strB t) W (by rewrite [strB_size]; omega)
  rw [strB_data] at cT cG
  have cF := fun W h => rfair_any lo v fs W h hk
  have cH := fun W h => rall_any lo v fs hoN W h hk.1
  rw [show strB hoN = (⟨#[104, 111, 115, 116]⟩ : ByteArray) from rfl] at cH
  have hhl := Nat.le_trans (allH_len fs hoN) hk.1
  have hms := strB_size m
  have hts := strB_size t
  have y1 : (strB m).size ≤ 90000 := by omega
  have y2 : (strB t).size ≤ 90000 := by omega
  have HF := Lib.hid (h.below ((Below.refl w.heap.size w).alloc (Nat.le_refl _) (.cells #[.string (strB m), .string (strB t), v, vb] 26)))
  have HY := Lib.hid (hb.below ((Below.refl w.heap.size w).alloc (Nat.le_refl _) (.cells #[.string (strB m), .string (strB t), v, vb] 26)))
  have HX0 := Lib.hid (BoxQ.made w (strB m) (strB t) v vb)
  have HB0 := Lib.hid ((Below.refl w.heap.size w).alloc (Nat.le_refl _) (.cells #[.string (strB m), .string (strB t), v, vb] 26))
  obtain ⟨ao, cap, rfl, _⟩ := h
  obtain ⟨bo, bcap, rfl, _⟩ := hb
  have HV : Hid (prQ ⟨m, t, fs, b⟩ = none) := Lib.hid (by rewrite [prQ]; exact if_neg (by simp [e5]))
  rw [e1] at cT
  rw [e2] at cG
  rw [e3] at cF
  have hho : (((allH fs hoN).length : Int) != 1) = !decide ((allH fs hoN).length = 1) := by
    by_cases hh : (allH fs hoN).length = 1
    · rw [decide_eq_true hh, hh] <;> rfl
    · rw [decide_eq_false hh, bne_iff_ne.2 (by omega)] <;> rfl
  rw [e4, Bool.not_true] at hho
  have d5 : ¬ (100000 : Int) < (b.length : Int) := by omega
  have d6 : (2000 : Int) < ((strB m).size : Int) + ((strB t).size : Int) + 10 := by rewrite [hms, hts]; omega
  clear e1 e2 e3 e4 e5
  generalize allH fs hoN = hs at *
  clear hml htl hms hts hk
  generalize strB m = M at *
  generalize strB t = T at *
  obtain ⟨x0, x1, x2, x3⟩ := HX0.out
  go_enter Tryz.func16, Tryz.ntmps16
  go_wp2_with fail
  refine (cT _).mono ?_
  rintro e _ ⟨rfl, rfl⟩
  go_wp2_with fail
  refine (cG _).mono ?_
  rintro e _ ⟨rfl, rfl⟩
  go_wp2_with fail
  refine (cF _ HF.out).mono ?_
  rintro e w1 ⟨rfl, hb1⟩
  have HX1 := Lib.hid (HX0.out.next hb1)
  have HB1 := Lib.hid (HB0.out.trans (hb1.mono HB0.out.size))
  have HF1 := Lib.hid (HF.out.below hb1)
  have HY1 := Lib.hid (HY.out.below hb1)
  clear hb1
  clear x0 x1 x2 x3
  obtain ⟨x0, x1, x2, x3⟩ := HX1.out
  go_wp2_with fail
  refine (cH _ HF1.out).mono ?_
  rintro e w2 ⟨⟨u2, rfl, hown2⟩, hb2⟩
  have HX2 := Lib.hid (HX1.out.next hb2)
  have HB2 := Lib.hid (HB1.out.trans (hb2.mono HB1.out.size))
  have HF2 := Lib.hid (HF1.out.below hb2)
  have HY2 := Lib.hid (HY1.out.below hb2)
  obtain ⟨a2, k2, rfl⟩ := owns_formF hown2
  clear hown2
  clear hb2
  clear x0 x1 x2 x3
  obtain ⟨x0, x1, x2, x3⟩ := HX2.out
  go_wp2_with fail
  exact bodyPost_ret (v := .tuple #[.string ⟨#[]⟩, .int .i64 2]) (by simp [results, Tryz.results16, go_sem]) rfl ⟨by rw [HV.out] <;> rfl, HB2.out⟩

set_option maxRecDepth 100000 in
set_option maxHeartbeats 8000000 in
theorem rprq_mb (lo lo2 : Nat) (q : Rq) (v vb : Value) (w : World) (h : Flds lo w v q.fs) (hk : FldsOk q.fs) (hl : q.fs.length ≤ 90000) (hb : BytF lo2 w vb q.b) (hbl : q.b.length ≤ 90000) (hml : q.m.length ≤ 90000) (htl : q.t.length ≤ 90000) (e1 : tokL q.m = true) (e2 : tgtL q.t = true) (e3 : fairL q.fs = true) (e4 : decide ((allH q.fs hoN).length = 1) = true) (e5 : q.m.length + q.t.length + 10 ≤ 2000) (e6 : q.b ≠ []) (e7 : 64 ≤ q.fs.length) :
    Calls Tryz.prog 16 #[.agg #[.string (strB q.m), .string (strB q.t), v, vb]] w fun e w' => e = .returned (textH (prQ q)) ∧ Below w.heap.size w w' := by
  obtain ⟨m, t, fs, b⟩ := q
  dsimp only at *
  have cT := fun W => rtoken_any (strB m) W (by rewrite [strB_size]; unfold maxLen; omega)
  have cG := fun W => rtarget_any (strB t) W (by rewrite [strB_size]; omega)
  rw [strB_data] at cT cG
  have cF := fun W h => rfair_any lo v fs W h hk
  have cH := fun W h => rall_any lo v fs hoN W h hk.1
  rw [show strB hoN = (⟨#[104, 111, 115, 116]⟩ : ByteArray) from rfl] at cH
  have hhl := Nat.le_trans (allH_len fs hoN) hk.1
  have hms := strB_size m
  have hts := strB_size t
  have y1 : (strB m).size ≤ 90000 := by omega
  have y2 : (strB t).size ≤ 90000 := by omega
  have HF := Lib.hid (h.below ((Below.refl w.heap.size w).alloc (Nat.le_refl _) (.cells #[.string (strB m), .string (strB t), v, vb] 26)))
  have HY := Lib.hid (hb.below ((Below.refl w.heap.size w).alloc (Nat.le_refl _) (.cells #[.string (strB m), .string (strB t), v, vb] 26)))
  have HX0 := Lib.hid (BoxQ.made w (strB m) (strB t) v vb)
  have HB0 := Lib.hid ((Below.refl w.heap.size w).alloc (Nat.le_refl _) (.cells #[.string (strB m), .string (strB t), v, vb] 26))
  obtain ⟨ao, cap, rfl, _⟩ := h
  obtain ⟨bo, bcap, rfl, _⟩ := hb
  have HV : Hid (prQ ⟨m, t, fs, b⟩ = none) := Lib.hid (by rewrite [prQ]; exact if_neg (by simp [e6, show ¬ fs.length < 64 by omega]))
  rw [e1] at cT
  rw [e2] at cG
  rw [e3] at cF
  have hho : (((allH fs hoN).length : Int) != 1) = !decide ((allH fs hoN).length = 1) := by
    by_cases hh : (allH fs hoN).length = 1
    · rw [decide_eq_true hh, hh] <;> rfl
    · rw [decide_eq_false hh, bne_iff_ne.2 (by omega)] <;> rfl
  rw [e4, Bool.not_true] at hho
  have d5 : ¬ (100000 : Int) < (b.length : Int) := by omega
  have d6 : ¬ (2000 : Int) < ((strB m).size : Int) + ((strB t).size : Int) + 10 := by rewrite [hms, hts]; omega
  have hb0 : 0 < b.length := List.length_pos_iff.2 e6
  have d7 : (0 : Int) < (b.length : Int) := by omega
  have d8 : (64 : Int) ≤ (fs.length : Int) := by omega
  clear e1 e2 e3 e4 e5 e6 e7
  generalize allH fs hoN = hs at *
  clear hml htl hms hts hk
  generalize strB m = M at *
  generalize strB t = T at *
  obtain ⟨x0, x1, x2, x3⟩ := HX0.out
  go_enter Tryz.func16, Tryz.ntmps16
  go_wp2_with fail
  refine (cT _).mono ?_
  rintro e _ ⟨rfl, rfl⟩
  go_wp2_with fail
  refine (cG _).mono ?_
  rintro e _ ⟨rfl, rfl⟩
  go_wp2_with fail
  refine (cF _ HF.out).mono ?_
  rintro e w1 ⟨rfl, hb1⟩
  have HX1 := Lib.hid (HX0.out.next hb1)
  have HB1 := Lib.hid (HB0.out.trans (hb1.mono HB0.out.size))
  have HF1 := Lib.hid (HF.out.below hb1)
  have HY1 := Lib.hid (HY.out.below hb1)
  clear hb1
  clear x0 x1 x2 x3
  obtain ⟨x0, x1, x2, x3⟩ := HX1.out
  go_wp2_with fail
  refine (cH _ HF1.out).mono ?_
  rintro e w2 ⟨⟨u2, rfl, hown2⟩, hb2⟩
  have HX2 := Lib.hid (HX1.out.next hb2)
  have HB2 := Lib.hid (HB1.out.trans (hb2.mono HB1.out.size))
  have HF2 := Lib.hid (HF1.out.below hb2)
  have HY2 := Lib.hid (HY1.out.below hb2)
  obtain ⟨a2, k2, rfl⟩ := owns_formF hown2
  clear hown2
  clear hb2
  clear x0 x1 x2 x3
  obtain ⟨x0, x1, x2, x3⟩ := HX2.out
  go_wp2_with fail
  exact bodyPost_ret (v := .tuple #[.string ⟨#[]⟩, .int .i64 2]) (by simp [results, Tryz.results16, go_sem]) rfl ⟨by rw [HV.out] <;> rfl, HB2.out⟩

set_option maxRecDepth 100000 in
set_option maxHeartbeats 8000000 in
theorem rprq_e (lo lo2 : Nat) (q : Rq) (v vb : Value) (w : World) (h : Flds lo w v q.fs) (hk : FldsOk q.fs) (hl : q.fs.length ≤ 90000) (hb : BytF lo2 w vb q.b) (hbl : q.b.length ≤ 90000) (hml : q.m.length ≤ 90000) (htl : q.t.length ≤ 90000) (e1 : tokL q.m = true) (e2 : tgtL q.t = true) (e3 : fairL q.fs = true) (e4 : decide ((allH q.fs hoN).length = 1) = true) (e5 : q.m.length + q.t.length + 10 ≤ 2000) (e6 : q.b = []) :
    Calls Tryz.prog 16 #[.agg #[.string (strB q.m), .string (strB q.t), v, vb]] w fun e w' => e = .returned (textH (prQ q)) ∧ Below w.heap.size w w' := by
  obtain ⟨m, t, fs, b⟩ := q
  dsimp only at *
  have cT := fun W => rtoken_any (strB m) W (by rewrite [strB_size]; unfold maxLen; omega)
  have cG := fun W => rtarget_any (strB t) W (by rewrite [strB_size]; omega)
  rw [strB_data] at cT cG
  have cF := fun W h => rfair_any lo v fs W h hk
  have cH := fun W h => rall_any lo v fs hoN W h hk.1
  rw [show strB hoN = (⟨#[104, 111, 115, 116]⟩ : ByteArray) from rfl] at cH
  have hhl := Nat.le_trans (allH_len fs hoN) hk.1
  have hms := strB_size m
  have hts := strB_size t
  have y1 : (strB m).size ≤ 90000 := by omega
  have y2 : (strB t).size ≤ 90000 := by omega
  have HF := Lib.hid (h.below ((Below.refl w.heap.size w).alloc (Nat.le_refl _) (.cells #[.string (strB m), .string (strB t), v, vb] 26)))
  have HY := Lib.hid (hb.below ((Below.refl w.heap.size w).alloc (Nat.le_refl _) (.cells #[.string (strB m), .string (strB t), v, vb] 26)))
  have HX0 := Lib.hid (BoxQ.made w (strB m) (strB t) v vb)
  have HB0 := Lib.hid ((Below.refl w.heap.size w).alloc (Nat.le_refl _) (.cells #[.string (strB m), .string (strB t), v, vb] 26))
  obtain ⟨ao, cap, rfl, _⟩ := h
  obtain ⟨bo, bcap, rfl, _⟩ := hb
  obtain ⟨TX, htx⟩ : ∃ TX, prQ ⟨m, t, fs, b⟩ = some TX := ⟨_, by rewrite [prQ]; exact if_pos (by simp [e1, e2, e3, of_decide_eq_true e4, e5, e6])⟩
  obtain ⟨g1, g2⟩ := fieldsQ_len htx
  have htv := (prQ_parts htx).2.2.2.2.2.2.2.2.2
  have HV : Hid (textH (prQ ⟨m, t, fs, b⟩) = .tuple #[.string (strB m ++ ⟨#[32]⟩ ++ strB t ++ ⟨#[32, 72, 84, 84, 80, 47, 49, 46, 49, 13, 10]⟩ ++ strB (prF (fieldsQ ⟨m, t, fs, b⟩) ++ [13, 10]) ++ strB b), .int .i64 0]) := Lib.hid (by
    rewrite [htx, htv, show linQ ⟨m, t, fs, b⟩ ++ [13, 10] ++ (prF (fieldsQ ⟨m, t, fs, b⟩) ++ [13, 10]) ++ b = m ++ [32] ++ t ++ [32, 72, 84, 84, 80, 47, 49, 46, 49, 13, 10] ++ (prF (fieldsQ ⟨m, t, fs, b⟩) ++ [13, 10]) ++ b by simp [linQ, h11], textH, ← strB_append, ← strB_append, ← strB_append, ← strB_append, ← strB_append]
    rfl)
  have hpl : (strB (prF (fieldsQ ⟨m, t, fs, b⟩) ++ [13, 10])).size ≤ 200002 := by rewrite [strB_size, List.length_append]; simp; omega
  have hpr : textH (printH (fieldsQ ⟨m, t, fs, b⟩)) = .tuple #[.string (strB (prF (fieldsQ ⟨m, t, fs, b⟩) ++ [13, 10])), .int .i64 0] := by rw [printH, g1] <;> rfl
  have hbs := strB_size b
  have n1 : ¬ 9223372036854775807 < (strB m).size + 1 := by omega
  have n2 : ¬ 9223372036854775807 < (strB m).size + 1 + (strB t).size := by omega
  have n3 : ¬ 9223372036854775807 < (strB m).size + 1 + (strB t).size + 11 := by omega
  have n4 : ¬ 9223372036854775807 < (strB m).size + 1 + (strB t).size + 11 + (strB (prF (fieldsQ ⟨m, t, fs, b⟩) ++ [13, 10])).size := by omega
  have n5 : ¬ 9223372036854775807 < (strB m).size + 1 + (strB t).size + 11 + (strB (prF (fieldsQ ⟨m, t, fs, b⟩) ++ [13, 10])).size + (strB b).size := by omega
  have hfe : fieldsQ ⟨m, t, fs, b⟩ = fs := by rw [fieldsQ, if_pos e6]
  have cP := fun W h => rprint_any lo (.slice ao fs.length cap) fs W h hk
  unfold hprPost at cP
  rw [hfe] at hpr
  rw [hpr] at cP
  rw [e1] at cT
  rw [e2] at cG
  rw [e3] at cF
  have hho : (((allH fs hoN).length : Int) != 1) = !decide ((allH fs hoN).length = 1) := by
    by_cases hh : (allH fs hoN).length = 1
    · rw [decide_eq_true hh, hh] <;> rfl
    · rw [decide_eq_false hh, bne_iff_ne.2 (by omega)] <;> rfl
  rw [e4, Bool.not_true] at hho
  have d5 : ¬ (100000 : Int) < (b.length : Int) := by omega
  have d6 : ¬ (2000 : Int) < ((strB m).size : Int) + ((strB t).size : Int) + 10 := by rewrite [hms, hts]; omega
  have d7 : ¬ (0 : Int) < (b.length : Int) := by rewrite [e6]; decide
  clear e1 e2 e3 e4 e5 hpr
  rw [hfe] at HV n4 n5 hpl
  generalize strB (prF fs ++ [13, 10]) = PX at *
  generalize hSB : strB b = SB at *
  have HSB := Lib.hid hSB
  clear hSB hbs hpl g1 g2 htv htx
  generalize allH fs hoN = hs at *
  clear hfe e6
  clear hml htl hms hts hk
  generalize strB m = M at *
  generalize strB t = T at *
  obtain ⟨x0, x1, x2, x3⟩ := HX0.out
  go_enter Tryz.func16, Tryz.ntmps16
  go_wp2_with fail
  refine (cT _).mono ?_
  rintro e _ ⟨rfl, rfl⟩
  go_wp2_with fail
  refine (cG _).mono ?_
  rintro e _ ⟨rfl, rfl⟩
  go_wp2_with fail
  refine (cF _ HF.out).mono ?_
  rintro e w1 ⟨rfl, hb1⟩
  have HX1 := Lib.hid (HX0.out.next hb1)
  have HB1 := Lib.hid (HB0.out.trans (hb1.mono HB0.out.size))
  have HF1 := Lib.hid (HF.out.below hb1)
  have HY1 := Lib.hid (HY.out.below hb1)
  clear hb1
  clear x0 x1 x2 x3
  obtain ⟨x0, x1, x2, x3⟩ := HX1.out
  go_wp2_with fail
  refine (cH _ HF1.out).mono ?_
  rintro e w2 ⟨⟨u2, rfl, hown2⟩, hb2⟩
  have HX2 := Lib.hid (HX1.out.next hb2)
  have HB2 := Lib.hid (HB1.out.trans (hb2.mono HB1.out.size))
  have HF2 := Lib.hid (HF1.out.below hb2)
  have HY2 := Lib.hid (HY1.out.below hb2)
  obtain ⟨a2, k2, rfl⟩ := owns_formF hown2
  clear hown2
  clear hb2
  clear x0 x1 x2 x3
  obtain ⟨x0, x1, x2, x3⟩ := HX2.out
  go_wp2_with fail
  refine (cP _ HF2.out).mono ?_
  rintro e w3 ⟨rfl, hb3⟩
  have HX3 := Lib.hid (HX2.out.next hb3)
  have HB3 := Lib.hid (HB2.out.trans (hb3.mono HB2.out.size))
  have HF3 := Lib.hid (HF2.out.below hb3)
  have HY3 := Lib.hid (HY2.out.below hb3)
  clear hb3
  clear x0 x1 x2 x3
  have k1 := HY3.out.conv
  rw [HSB.out] at k1
  obtain ⟨x0, x1, x2, x3⟩ := HX3.out
  go_wp2_with fail
  exact bodyPost_ret (v := .tuple #[.string (M ++ ⟨#[32]⟩ ++ T ++ ⟨#[32, 72, 84, 84, 80, 47, 49, 46, 49, 13, 10]⟩ ++ PX ++ SB), .int .i64 0]) (by simp [results, Tryz.results16, go_sem]) rfl ⟨by rw [HV.out], HB3.out⟩

set_option maxRecDepth 100000 in
set_option maxHeartbeats 8000000 in
theorem rprq_b (lo lo2 : Nat) (q : Rq) (v vb : Value) (w : World) (h : Flds lo w v q.fs) (hk : FldsOk q.fs) (hl : q.fs.length ≤ 90000) (hb : BytF lo2 w vb q.b) (hbl : q.b.length ≤ 90000) (hml : q.m.length ≤ 90000) (htl : q.t.length ≤ 90000) (e1 : tokL q.m = true) (e2 : tgtL q.t = true) (e3 : fairL q.fs = true) (e4 : decide ((allH q.fs hoN).length = 1) = true) (e5 : q.m.length + q.t.length + 10 ≤ 2000) (e6 : q.b ≠ []) (e7 : q.fs.length < 64) :
    Calls Tryz.prog 16 #[.agg #[.string (strB q.m), .string (strB q.t), v, vb]] w fun e w' => e = .returned (textH (prQ q)) ∧ Below w.heap.size w w' := by
  obtain ⟨m, t, fs, b⟩ := q
  dsimp only at *
  have cT := fun W => rtoken_any (strB m) W (by rewrite [strB_size]; unfold maxLen; omega)
  have cG := fun W => rtarget_any (strB t) W (by rewrite [strB_size]; omega)
  rw [strB_data] at cT cG
  have cF := fun W h => rfair_any lo v fs W h hk
  have cH := fun W h => rall_any lo v fs hoN W h hk.1
  rw [show strB hoN = (⟨#[104, 111, 115, 116]⟩ : ByteArray) from rfl] at cH
  have hhl := Nat.le_trans (allH_len fs hoN) hk.1
  have hms := strB_size m
  have hts := strB_size t
  have y1 : (strB m).size ≤ 90000 := by omega
  have y2 : (strB t).size ≤ 90000 := by omega
  have HF := Lib.hid (h.below ((Below.refl w.heap.size w).alloc (Nat.le_refl _) (.cells #[.string (strB m), .string (strB t), v, vb] 26)))
  have HY := Lib.hid (hb.below ((Below.refl w.heap.size w).alloc (Nat.le_refl _) (.cells #[.string (strB m), .string (strB t), v, vb] 26)))
  have HX0 := Lib.hid (BoxQ.made w (strB m) (strB t) v vb)
  have HB0 := Lib.hid ((Below.refl w.heap.size w).alloc (Nat.le_refl _) (.cells #[.string (strB m), .string (strB t), v, vb] 26))
  obtain ⟨ao, cap, rfl, _⟩ := h
  obtain ⟨bo, bcap, rfl, _⟩ := hb
  obtain ⟨TX, htx⟩ : ∃ TX, prQ ⟨m, t, fs, b⟩ = some TX := ⟨_, by rewrite [prQ]; exact if_pos (by simp [e1, e2, e3, of_decide_eq_true e4, e5, e7, show b.length ≤ 100000 by omega])⟩
  obtain ⟨g1, g2⟩ := fieldsQ_len htx
  have htv := (prQ_parts htx).2.2.2.2.2.2.2.2.2
  have HV : Hid (textH (prQ ⟨m, t, fs, b⟩) = .tuple #[.string (strB m ++ ⟨#[32]⟩ ++ strB t ++ ⟨#[32, 72, 84, 84, 80, 47, 49, 46, 49, 13, 10]⟩ ++ strB (prF (fieldsQ ⟨m, t, fs, b⟩) ++ [13, 10]) ++ strB b), .int .i64 0]) := Lib.hid (by
    rewrite [htx, htv, show linQ ⟨m, t, fs, b⟩ ++ [13, 10] ++ (prF (fieldsQ ⟨m, t, fs, b⟩) ++ [13, 10]) ++ b = m ++ [32] ++ t ++ [32, 72, 84, 84, 80, 47, 49, 46, 49, 13, 10] ++ (prF (fieldsQ ⟨m, t, fs, b⟩) ++ [13, 10]) ++ b by simp [linQ, h11], textH, ← strB_append, ← strB_append, ← strB_append, ← strB_append, ← strB_append]
    rfl)
  have hpl : (strB (prF (fieldsQ ⟨m, t, fs, b⟩) ++ [13, 10])).size ≤ 200002 := by rewrite [strB_size, List.length_append]; simp; omega
  have hpr : textH (printH (fieldsQ ⟨m, t, fs, b⟩)) = .tuple #[.string (strB (prF (fieldsQ ⟨m, t, fs, b⟩) ++ [13, 10])), .int .i64 0] := by rw [printH, g1] <;> rfl
  have hbs := strB_size b
  have n1 : ¬ 9223372036854775807 < (strB m).size + 1 := by omega
  have n2 : ¬ 9223372036854775807 < (strB m).size + 1 + (strB t).size := by omega
  have n3 : ¬ 9223372036854775807 < (strB m).size + 1 + (strB t).size + 11 := by omega
  have n4 : ¬ 9223372036854775807 < (strB m).size + 1 + (strB t).size + 11 + (strB (prF (fieldsQ ⟨m, t, fs, b⟩) ++ [13, 10])).size := by omega
  have n5 : ¬ 9223372036854775807 < (strB m).size + 1 + (strB t).size + 11 + (strB (prF (fieldsQ ⟨m, t, fs, b⟩) ++ [13, 10])).size + (strB b).size := by omega
  have hfe : fieldsQ ⟨m, t, fs, b⟩ = fs ++ [(clN, Lib.decDigits b.length)] := by rw [fieldsQ, if_neg e6] <;> rfl
  have hkf : FldsOk (fs ++ [(clN, Lib.decDigits b.length)]) := fldsok_with hk (by omega) (by omega)
  have cP := fun v W h => rprint_any 0 v (fs ++ [(clN, Lib.decDigits b.length)]) W h hkf
  unfold hprPost at cP
  rw [hfe] at hpr
  rw [hpr] at cP
  have cW := fun W h => rwith_any lo (.slice ao fs.length cap) fs (clN, Lib.decDigits b.length) W h hk.1
  have cN := fun W => rnumber_any b.length W (by omega)
  rw [show strB clN = (⟨#[99, 111, 110, 116, 101, 110, 116, 45, 108, 101, 110, 103, 116, 104]⟩ : ByteArray) from rfl] at cW
  rw [e1] at cT
  rw [e2] at cG
  rw [e3] at cF
  have hho : (((allH fs hoN).length : Int) != 1) = !decide ((allH fs hoN).length = 1) := by
    by_cases hh : (allH fs hoN).length = 1
    · rw [decide_eq_true hh, hh] <;> rfl
    · rw [decide_eq_false hh, bne_iff_ne.2 (by omega)] <;> rfl
  rw [e4, Bool.not_true] at hho
  have d5 : ¬ (100000 : Int) < (b.length : Int) := by omega
  have d6 : ¬ (2000 : Int) < ((strB m).size : Int) + ((strB t).size : Int) + 10 := by rewrite [hms, hts]; omega
  have hb0 : 0 < b.length := List.length_pos_iff.2 e6
  have d7 : (0 : Int) < (b.length : Int) := by omega
  have d8 : ¬ (64 : Int) ≤ (fs.length : Int) := by omega
  clear e1 e2 e3 e4 e5 hpr
  rw [hfe] at HV n4 n5 hpl
  generalize strB (prF (fs ++ [(clN, Lib.decDigits b.length)]) ++ [13, 10]) = PX at *
  generalize hSB : strB b = SB at *
  have HSB := Lib.hid hSB
  clear hSB hbs hpl g1 g2 htv htx
  generalize allH fs hoN = hs at *
  clear hfe e6 e7 hkf
  clear hml htl hms hts hk
  generalize strB m = M at *
  generalize strB t = T at *
  generalize strB (Lib.decDigits b.length) = SD at *
  obtain ⟨x0, x1, x2, x3⟩ := HX0.out
  go_enter Tryz.func16, Tryz.ntmps16
  go_wp2_with fail
  refine (cT _).mono ?_
  rintro e _ ⟨rfl, rfl⟩
  go_wp2_with fail
  refine (cG _).mono ?_
  rintro e _ ⟨rfl, rfl⟩
  go_wp2_with fail
  refine (cF _ HF.out).mono ?_
  rintro e w1 ⟨rfl, hb1⟩
  have HX1 := Lib.hid (HX0.out.next hb1)
  have HB1 := Lib.hid (HB0.out.trans (hb1.mono HB0.out.size))
  have HF1 := Lib.hid (HF.out.below hb1)
  have HY1 := Lib.hid (HY.out.below hb1)
  clear hb1
  clear x0 x1 x2 x3
  obtain ⟨x0, x1, x2, x3⟩ := HX1.out
  go_wp2_with fail
  refine (cH _ HF1.out).mono ?_
  rintro e w2 ⟨⟨u2, rfl, hown2⟩, hb2⟩
  have HX2 := Lib.hid (HX1.out.next hb2)
  have HB2 := Lib.hid (HB1.out.trans (hb2.mono HB1.out.size))
  have HF2 := Lib.hid (HF1.out.below hb2)
  have HY2 := Lib.hid (HY1.out.below hb2)
  obtain ⟨a2, k2, rfl⟩ := owns_formF hown2
  clear hown2
  clear hb2
  clear x0 x1 x2 x3
  obtain ⟨x0, x1, x2, x3⟩ := HX2.out
  go_wp2_with fail
  refine (cN _).mono ?_
  rintro e _ ⟨rfl, rfl⟩
  go_wp2_with fail
  refine (cW _ HF2.out).mono ?_
  rintro e w3 ⟨⟨u3, rfl, hown3⟩, hb3⟩
  have HX3 := Lib.hid (HX2.out.next hb3)
  have HB3 := Lib.hid (HB2.out.trans (hb3.mono HB2.out.size))
  have HF3 := Lib.hid (HF2.out.below hb3)
  have HY3 := Lib.hid (HY2.out.below hb3)
  obtain ⟨b3, k3, rfl⟩ := owns_formF hown3
  have HG3 : Hid (Flds 0 w3 (.slice b3 (fs.length + 1) k3) (fs ++ [(clN, Lib.decDigits b.length)])) := Lib.hid (by
    have := Flds.of_own hown3 (Nat.zero_le _)
    rw [List.length_append] at this
    exact this)
  rewrite [List.length_append]
  clear hown3
  clear hb3
  clear x0 x1 x2 x3
  obtain ⟨x0, x1, x2, x3⟩ := HX3.out
  go_wp2_with fail
  refine (cP _ _ HG3.out).mono ?_
  rintro e w4 ⟨rfl, hb4⟩
  have HX4 := Lib.hid (HX3.out.next hb4)
  have HB4 := Lib.hid (HB3.out.trans (hb4.mono HB3.out.size))
  have HF4 := Lib.hid (HF3.out.below hb4)
  have HY4 := Lib.hid (HY3.out.below hb4)
  clear hb4
  clear x0 x1 x2 x3
  have k1 := HY4.out.conv
  rw [HSB.out] at k1
  obtain ⟨x0, x1, x2, x3⟩ := HX4.out
  go_wp2_with fail
  exact bodyPost_ret (v := .tuple #[.string (M ++ ⟨#[32]⟩ ++ T ++ ⟨#[32, 72, 84, 84, 80, 47, 49, 46, 49, 13, 10]⟩ ++ PX ++ SB), .int .i64 0]) (by simp [results, Tryz.results16, go_sem]) rfl ⟨by rw [HV.out], HB4.out⟩

theorem rprq_any (lo lo2 : Nat) (q : Rq) (v vb : Value) (w : World) (h : Flds lo w v q.fs) (hk : FldsOk q.fs) (hl : q.fs.length ≤ 90000) (hb : BytF lo2 w vb q.b) (hbl : q.b.length ≤ 90000) (hml : q.m.length ≤ 90000) (htl : q.t.length ≤ 90000) :
    Calls Tryz.prog 16 #[.agg #[.string (strB q.m), .string (strB q.t), v, vb]] w fun e w' => e = .returned (textH (prQ q)) ∧ Below w.heap.size w w' := by
  cases e1 : tokL q.m with
  | false => exact rprq_tk lo lo2 q v vb w h hk hl hb hbl hml htl e1
  | true =>
    cases e2 : tgtL q.t with
    | false => exact rprq_tg lo lo2 q v vb w h hk hl hb hbl hml htl e1 e2
    | true =>
      cases e3 : fairL q.fs with
      | false => exact rprq_fa lo lo2 q v vb w h hk hl hb hbl hml htl e1 e2 e3
      | true =>
        cases e4 : decide ((allH q.fs hoN).length = 1) with
        | false => exact rprq_ho lo lo2 q v vb w h hk hl hb hbl hml htl e1 e2 e3 e4
        | true =>
          by_cases e5 : q.m.length + q.t.length + 10 ≤ 2000
          · by_cases e6 : q.b = []
            · exact rprq_e lo lo2 q v vb w h hk hl hb hbl hml htl e1 e2 e3 e4 e5 e6
            · by_cases e7 : q.fs.length < 64
              · exact rprq_b lo lo2 q v vb w h hk hl hb hbl hml htl e1 e2 e3 e4 e5 e6 e7
              · exact rprq_mb lo lo2 q v vb w h hk hl hb hbl hml htl e1 e2 e3 e4 e5 e6 (by omega)
          · exact rprq_lg lo lo2 q v vb w h hk hl hb hbl hml htl e1 e2 e3 e4 e5

end Go.Proofs.YthbfcamfapgodaaGreatDoor
