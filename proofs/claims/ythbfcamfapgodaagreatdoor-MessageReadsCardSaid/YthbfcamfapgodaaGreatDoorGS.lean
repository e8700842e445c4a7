/- The contract of message.PrintRequest. -/
import Derived.Test.YthbfcamfapgodaaGreatDoorGR
import Derived.Test.YthbfcamfapgodaaGreatDoorGK
import Derived.Test.YthbfcamfapgodaaGreatDoorGI

namespace Go.Proofs.YthbfcamfapgodaaGreatDoor
open Go.RowKit Go.Shelf Go.Lib

/-- Four cells of a request. -/
structure BoxQ (W : World) (c : Nat) (a b : ByteArray) (f y : Value) : Prop where
  r0 : W.cell? ⟨c, 0, none⟩ = some (.string a)
  r1 : W.cell? ⟨c, 1, none⟩ = some (.string b)
  r2 : W.cell? ⟨c, 2, none⟩ = some f
  r3 : W.cell? ⟨c, 3, none⟩ = some y
theorem BoxQ.made (w : World) (a b : ByteArray) (f y : Value) : BoxQ (w.alloc (.cells #[.string a, .string b, f, y] 26)) w.heap.size a b f y := ⟨by simp, by simp, by simp, by simp⟩
theorem BoxQ.lt {W : World} {c : Nat} {a b : ByteArray} {f y : Value} (h : BoxQ W c a b f y) : c < W.heap.size := lt_of_cell h.r0
theorem BoxQ.next {W W1 : World} {c : Nat} {a b : ByteArray} {f y : Value} (h : BoxQ W c a b f y) (hb : Below W.heap.size W W1) : BoxQ W1 c a b f y :=
  ⟨(hb.cell (p := ⟨c, 0, none⟩) h.lt).trans h.r0, (hb.cell (p := ⟨c, 1, none⟩) h.lt).trans h.r1, (hb.cell (p := ⟨c, 2, none⟩) h.lt).trans h.r2, (hb.cell (p := ⟨c, 3, none⟩) h.lt).trans h.r3⟩

set_option maxRecDepth 100000 in
set_option maxHeartbeats 8000000 in
theorem mprq_any (lo lo2 : Nat) (q : Rq) (v vb : Value) (w : World) (h : Flds lo w v q.fs) (hk : FldsOk q.fs) (hl : q.fs.length ≤ 90000) (hb : BytF lo2 w vb q.b) (hbl : q.b.length ≤ 90000) (hml : q.m.length ≤ 90000) (htl : q.t.length ≤ 90000) (hT : Tabs w) (hP : Pow w) :
    Calls Tryz.prog 15 #[.agg #[.string (strB q.m), .string (strB q.t), v, vb]] w fun e w' => e = .returned (textH (prQ q)) ∧ Below w.heap.size w w' := by
  obtain ⟨m, t, fs, b⟩ := q
  dsimp only at *
  have hV : prQ ⟨m, t, fs, b⟩ = if (tokL m && tgtL t && decide ((linQ ⟨m, t, fs, b⟩).length ≤ 2000) && decide ((allH fs hoN).length = 1)) = true then txoL (linQ ⟨m, t, fs, b⟩) fs b (decide (0 < b.length)) else none := prQ_tx _
  have hll : (linQ ⟨m, t, fs, b⟩).length = m.length + t.length + 10 := linQ_len _
  have hL : strB (linQ ⟨m, t, fs, b⟩) = strB m ++ ⟨#[32]⟩ ++ strB t ++ ⟨#[32]⟩ ++ ⟨#[72, 84, 84, 80, 47, 49, 46, 49]⟩ := by
    rewrite [show linQ ⟨m, t, fs, b⟩ = m ++ [32] ++ t ++ [32] ++ h11 from rfl, ← strB_append, ← strB_append, ← strB_append, ← strB_append]
    rfl
  have cT := fun W => token_any (strB m) W (by rewrite [strB_size]; unfold maxLen; omega)
  have cG := fun W => mtarget_any (strB t) W (by rewrite [strB_size]; omega)
  rw [strB_data] at cT cG
  have cH := fun W h => mhost_any lo v fs W h hk.1
  have cX := fun W h hb hT hP => mtext_any lo lo2 v vb (linQ ⟨m, t, fs, b⟩) fs b (decide (0 < b.length)) W h hk hl hb (by omega) (by omega) hT hP
  rw [hL] at cX
  rw [hll] at hV
  have hms := strB_size m
  have hts := strB_size t
  have HF := Lib.hid (h.below ((Below.refl w.heap.size w).alloc (Nat.le_refl _) (.cells #[.string (strB m), .string (strB t), v, vb] 26)))
  have HY := Lib.hid (hb.below ((Below.refl w.heap.size w).alloc (Nat.le_refl _) (.cells #[.string (strB m), .string (strB t), v, vb] 26)))
  have HX0 := Lib.hid (BoxQ.made w (strB m) (strB t) v vb)
  have HB0 := Lib.hid ((Below.refl w.heap.size w).alloc (Nat.le_refl _) (.cells #[.string (strB m), .string (strB t), v, vb] 26))
  obtain ⟨ao, cap, rfl, _⟩ := h
  obtain ⟨bo, bcap, rfl, _⟩ := hb
  have HT := Lib.hid hT
  have HP := Lib.hid hP
  have n1 : ¬ 9223372036854775807 < (strB m).size + 1 := by omega
  have n2 : ¬ 9223372036854775807 < (strB m).size + 1 + (strB t).size := by omega
  have n3 : ¬ 9223372036854775807 < (strB m).size + 1 + (strB t).size + 1 := by omega
  have n4 : ¬ 9223372036854775807 < (strB m).size + 1 + (strB t).size + 1 + 8 := by omega
  clear hT hP hk hL hll
  generalize txoL (linQ ⟨m, t, fs, b⟩) fs b (decide (0 < b.length)) = X at *
  have hlt : decide ((2000 : Int) < ((strB m).size : Int) + 1 + ((strB t).size : Int) + 1 + 8) = !decide (m.length + t.length + 10 ≤ 2000) := by
    rewrite [hms, hts]
    by_cases h0 : m.length + t.length + 10 ≤ 2000
    · rw [decide_eq_true h0, decide_eq_false (by omega)] <;> rfl
    · rw [decide_eq_false h0, decide_eq_true (by omega)] <;> rfl
  generalize decide (m.length + t.length + 10 ≤ 2000) = lg at *
  generalize tokL m = tk at *
  generalize tgtL t = tg at *
  generalize decide ((allH fs hoN).length = 1) = ho at *
  have HV := Lib.hid hV
  clear hV
  clear hml htl hms hts hbl hl
  generalize strB m = M at *
  generalize strB t = T at *
  have hlo := HX0.out
  obtain ⟨x0, x1, x2, x3⟩ := hlo
  clear x0 x1 x2 x3
  cases tk
  · go_enter Tryz.func15, Tryz.ntmps15
    go_wp2_with fail
    refine (cT _).mono ?_
    rintro e _ ⟨rfl, rfl⟩
    go_wp2_with fail
    exact bodyPost_ret (v := .tuple #[.string ⟨#[]⟩, .int .i64 2]) (by simp [results, Tryz.results15, go_sem]) rfl ⟨by rw [HV.out] <;> rfl, HB0.out⟩
  cases tg
  · go_enter Tryz.func15, Tryz.ntmps15
    go_wp2_with fail
    refine (cT _).mono ?_
    rintro e _ ⟨rfl, rfl⟩
    go_wp2_with fail
    refine (cG _).mono ?_
    rintro e _ ⟨rfl, rfl⟩
    go_wp2_with fail
    exact bodyPost_ret (v := .tuple #[.string ⟨#[]⟩, .int .i64 2]) (by simp [results, Tryz.results15, go_sem]) rfl ⟨by rw [HV.out] <;> rfl, HB0.out⟩
  cases lg
  · rw [Bool.not_false] at hlt
    go_enter Tryz.func15, Tryz.ntmps15
    go_wp2_with fail
    refine (cT _).mono ?_
    rintro e _ ⟨rfl, rfl⟩
    go_wp2_with fail
    refine (cG _).mono ?_
    rintro e _ ⟨rfl, rfl⟩
    go_wp2_with fail
    exact bodyPost_ret (v := .tuple #[.string ⟨#[]⟩, .int .i64 2]) (by simp [results, Tryz.results15, go_sem]) rfl ⟨by rw [HV.out] <;> rfl, HB0.out⟩
  rw [Bool.not_true] at hlt
  cases ho
  · go_enter Tryz.func15, Tryz.ntmps15
    go_wp2_with fail
    refine (cT _).mono ?_
    rintro e _ ⟨rfl, rfl⟩
    go_wp2_with fail
    refine (cG _).mono ?_
    rintro e _ ⟨rfl, rfl⟩
    go_wp2_with fail
    refine (cH _ HF.out).mono ?_
    rintro e w1 ⟨rfl, hb1⟩
    have HB1 := Lib.hid (HB0.out.trans (hb1.mono HB0.out.size))
    clear hb1
    go_wp2_with fail
    exact bodyPost_ret (v := .tuple #[.string ⟨#[]⟩, .int .i64 2]) (by simp [results, Tryz.results15, go_sem]) rfl ⟨by rw [HV.out] <;> rfl, HB1.out⟩
  · have HW : Hid (prQ ⟨m, t, fs, b⟩ = X) := Lib.hid (by rw [HV.out] <;> rfl)
    obtain ⟨S, E, hse⟩ : ∃ S E, textH X = .tuple #[.string S, .int .i64 E] := by cases X <;> exact ⟨_, _, rfl⟩
    rw [hse] at cX
    have HSE := Lib.hid hse
    clear hse
    go_enter Tryz.func15, Tryz.ntmps15
    go_wp2_with fail
    refine (cT _).mono ?_
    rintro e _ ⟨rfl, rfl⟩
    go_wp2_with fail
    refine (cG _).mono ?_
    rintro e _ ⟨rfl, rfl⟩
    go_wp2_with fail
    refine (cH _ HF.out).mono ?_
    rintro e w1 ⟨rfl, hb1⟩
    have HX1 := Lib.hid (HX0.out.next hb1)
    have HF1 := Lib.hid (HF.out.below hb1)
    have HY1 := Lib.hid (HY.out.below hb1)
    have HB1 := Lib.hid (HB0.out.trans (hb1.mono HB0.out.size))
    obtain ⟨x0, x1, x2, x3⟩ := HX1.out
    clear hb1
    go_wp2_with fail
    refine (cX _ HF1.out HY1.out (Utf8Tabs_below HT.out HB1.out) (HP.out.below HB1.out)).mono ?_
    rintro e w2 ⟨rfl, hb2⟩
    have HB2 := Lib.hid (HB1.out.trans (hb2.mono HB1.out.size))
    clear hb2
    go_wp2_with fail
    exact bodyPost_ret (v := .tuple #[.string S, .int .i64 E]) (by simp [results, Tryz.results15, go_sem]) rfl ⟨by rw [HW.out, HSE.out], HB2.out⟩

end Go.Proofs.YthbfcamfapgodaaGreatDoor
