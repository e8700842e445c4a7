/- The document's own PrintResponse (sculleryref08). -/
import Derived.Test.YthbfcamfapgodaaGreatDoorID
import Derived.Test.YthbfcamfapgodaaGreatDoorGU
import Derived.BigQuiet
import Derived.Deep.QuietTactic

namespace Go.Proofs.YthbfcamfapgodaaGreatDoor
open Go.RowKit Go.Shelf Go.Lib

theorem fieldsP_len {p : Rp} {me : ByteArray} {t : List UInt8} (h : prP p me = some t) : rightH (fieldsP p me) = true ∧ (prF (fieldsP p me)).length ≤ 200000 := by
  obtain ⟨_, _, h3, _, _, h6, h7, _, _⟩ := prP_parts h
  have : rightH (fieldsP p me) = true := by
    unfold fieldsP
    split
    · exact h3
    · exact right_with h3 h6 h7
  exact ⟨this, prF_le this⟩

set_option maxRecDepth 100000 in
set_option maxHeartbeats 8000000 in
theorem rprp_1 (lo lo2 : Nat) (p : Rp) (me : ByteArray) (v vb : Value) (w : World) (h : Flds lo w v p.fs) (hk : FldsOk p.fs) (hl : p.fs.length ≤ 90000) (hb : BytF lo2 w vb p.b) (hbl : p.b.length ≤ 90000) (e1 : p.n < 100) :
    Calls Tryz.prog 18 #[.agg #[.int .i64 p.n, v, vb], .string me] w fun e w' => e = .returned (textH (prP p me)) ∧ Below w.heap.size w w' := by
  obtain ⟨n, fs, b⟩ := p
  dsimp only at *
  have cF := fun W h => rfair_any lo v fs W h hk
  have cB := fun W => rbare_any n me W
  have HF := Lib.hid (h.below ((Below.refl w.heap.size w).alloc (Nat.le_refl _) (.cells #[.int .i64 n, v, vb] 31)))
  have HY := Lib.hid (hb.below ((Below.refl w.heap.size w).alloc (Nat.le_refl _) (.cells #[.int .i64 n, v, vb] 31)))
  have HX0 := Lib.hid (BoxP.made w n v vb)
  have HB0 := Lib.hid ((Below.refl w.heap.size w).alloc (Nat.le_refl _) (.cells #[.int .i64 n, v, vb] 31))
  obtain ⟨ao, cap, rfl, _⟩ := h
  obtain ⟨bo, bcap, rfl, _⟩ := hb
  have d5 : ¬ (100000 : Int) < (b.length : Int) := by omega
  have HV : Hid (prP ⟨n, fs, b⟩ me = none) := Lib.hid (by rewrite [prP]; exact if_neg (by simp [show ¬ 100 ≤ n by omega]))
  have d1 : decide (n < (100 : Int)) = true := decide_eq_true e1
  clear e1
  clear hk
  obtain ⟨x0, x1, x2⟩ := HX0.out
  go_enter Tryz.func18, Tryz.ntmps18
  go_wp2_with fail
  exact bodyPost_ret (v := .tuple #[.string ⟨#[]⟩, .int .i64 2]) (by simp [results, Tryz.results18, go_sem]) rfl ⟨by rw [HV.out] <;> rfl, HB0.out⟩

set_option maxRecDepth 100000 in
set_option maxHeartbeats 8000000 in
theorem rprp_2 (lo lo2 : Nat) (p : Rp) (me : ByteArray) (v vb : Value) (w : World) (h : Flds lo w v p.fs) (hk : FldsOk p.fs) (hl : p.fs.length ≤ 90000) (hb : BytF lo2 w vb p.b) (hbl : p.b.length ≤ 90000) (e1 : ¬ p.n < 100) (e2 : 599 < p.n) :
    Calls Tryz.prog 18 #[.agg #[.int .i64 p.n, v, vb], .string me] w fun e w' => e = .returned (textH (prP p me)) ∧ Below w.heap.size w w' := by
  obtain ⟨n, fs, b⟩ := p
  dsimp only at *
  have cF := fun W h => rfair_any lo v fs W h hk
  have cB := fun W => rbare_any n me W
  have HF := Lib.hid (h.below ((Below.refl w.heap.size w).alloc (Nat.le_refl _) (.cells #[.int .i64 n, v, vb] 31)))
  have HY := Lib.hid (hb.below ((Below.refl w.heap.size w).alloc (Nat.le_refl _) (.cells #[.int .i64 n, v, vb] 31)))
  have HX0 := Lib.hid (BoxP.made w n v vb)
  have HB0 := Lib.hid ((Below.refl w.heap.size w).alloc (Nat.le_refl _) (.cells #[.int .i64 n, v, vb] 31))
  obtain ⟨ao, cap, rfl, _⟩ := h
  obtain ⟨bo, bcap, rfl, _⟩ := hb
  have d5 : ¬ (100000 : Int) < (b.length : Int) := by omega
  have HV : Hid (prP ⟨n, fs, b⟩ me = none) := Lib.hid (by rewrite [prP]; exact if_neg (by simp [show ¬ n ≤ 599 by omega]))
  have d1 : decide (n < (100 : Int)) = false := decide_eq_false e1
  have d2 : decide ((599 : Int) < n) = true := decide_eq_true e2
  clear e1 e2
  clear hk
  obtain ⟨x0, x1, x2⟩ := HX0.out
  go_enter Tryz.func18, Tryz.ntmps18
  go_wp2_with fail
  exact bodyPost_ret (v := .tuple #[.string ⟨#[]⟩, .int .i64 2]) (by simp [results, Tryz.results18, go_sem]) rfl ⟨by rw [HV.out] <;> rfl, HB0.out⟩

set_option maxRecDepth 100000 in
set_option maxHeartbeats 8000000 in
theorem rprp_3 (lo lo2 : Nat) (p : Rp) (me : ByteArray) (v vb : Value) (w : World) (h : Flds lo w v p.fs) (hk : FldsOk p.fs) (hl : p.fs.length ≤ 90000) (hb : BytF lo2 w vb p.b) (hbl : p.b.length ≤ 90000) (e1 : ¬ p.n < 100) (e2 : ¬ 599 < p.n) (e3 : fairL p.fs = false) :
    Calls Tryz.prog 18 #[.agg #[.int .i64 p.n, v, vb], .string me] w fun e w' => e = .returned (textH (prP p me)) ∧ Below w.heap.size w w' := by
  obtain ⟨n, fs, b⟩ := p
  dsimp only at *
  have cF := fun W h => rfair_any lo v fs W h hk
  have cB := fun W => rbare_any n me W
  have HF := Lib.hid (h.below ((Below.refl w.heap.size w).alloc (Nat.le_refl _) (.cells #[.int .i64 n, v, vb] 31)))
  have HY := Lib.hid (hb.below ((Below.refl w.heap.size w).alloc (Nat.le_refl _) (.cells #[.int .i64 n, v, vb] 31)))
  have HX0 := Lib.hid (BoxP.made w n v vb)
  have HB0 := Lib.hid ((Below.refl w.heap.size w).alloc (Nat.le_refl _) (.cells #[.int .i64 n, v, vb] 31))
  obtain ⟨ao, cap, rfl, _⟩ := h
  obtain ⟨bo, bcap, rfl, _⟩ := hb
  have d5 : ¬ (100000 : Int) < (b.length : Int) := by omega
  have HV : Hid (prP ⟨n, fs, b⟩ me = none) := Lib.hid (by rewrite [prP]; exact if_neg (by simp [e3]))
  have d1 : decide (n < (100 : Int)) = false := decide_eq_false e1
  have d2 : decide ((599 : Int) < n) = false := decide_eq_false e2
  rw [e3] at cF
  clear e1 e2 e3
  clear hk
  obtain ⟨x0, x1, x2⟩ := HX0.out
  go_enter Tryz.func18, Tryz.ntmps18
  go_wp2_with fail
  refine (cF _ HF.out).mono ?_
  rintro e w1 ⟨rfl, hb1⟩
  have HX1 := Lib.hid (HX0.out.next hb1)
  have HB1 := Lib.hid (HB0.out.trans (hb1.mono HB0.out.size))
  have HF1 := Lib.hid (HF.out.below hb1)
  have HY1 := Lib.hid (HY.out.below hb1)
  clear hb1
  clear x0 x1 x2
  obtain ⟨x0, x1, x2⟩ := HX1.out
  go_wp2_with fail
  exact bodyPost_ret (v := .tuple #[.string ⟨#[]⟩, .int .i64 2]) (by simp [results, Tryz.results18, go_sem]) rfl ⟨by rw [HV.out] <;> rfl, HB1.out⟩

set_option maxRecDepth 100000 in
set_option maxHeartbeats 8000000 in
theorem rprp_4 (lo lo2 : Nat) (p : Rp) (me : ByteArray) (v vb : Value) (w : World) (h : Flds lo w v p.fs) (hk : FldsOk p.fs) (hl : p.fs.length ≤ 90000) (hb : BytF lo2 w vb p.b) (hbl : p.b.length ≤ 90000) (e1 : ¬ p.n < 100) (e2 : ¬ 599 < p.n) (e3 : fairL p.fs = true) (e4 : 64 ≤ p.fs.length) :
    Calls Tryz.prog 18 #[.agg #[.int .i64 p.n, v, vb], .string me] w fun e w' => e = .returned (textH (prP p me)) ∧ Below w.heap.size w w' := by
  obtain ⟨n, fs, b⟩ := p
  dsimp only at *
  have cF := fun W h => rfair_any lo v fs W h hk
  have cB := fun W => rbare_any n me W
  have HF := Lib.hid (h.below ((Below.refl w.heap.size w).alloc (Nat.le_refl _) (.cells #[.int .i64 n, v, vb] 31)))
  have HY := Lib.hid (hb.below ((Below.refl w.heap.size w).alloc (Nat.le_refl _) (.cells #[.int .i64 n, v, vb] 31)))
  have HX0 := Lib.hid (BoxP.made w n v vb)
  have HB0 := Lib.hid ((Below.refl w.heap.size w).alloc (Nat.le_refl _) (.cells #[.int .i64 n, v, vb] 31))
  obtain ⟨ao, cap, rfl, _⟩ := h
  obtain ⟨bo, bcap, rfl, _⟩ := hb
  have d5 : ¬ (100000 : Int) < (b.length : Int) := by omega
  have HV : Hid (prP ⟨n, fs, b⟩ me = none) := Lib.hid (by rewrite [prP]; exact if_neg (by simp [show ¬ fs.length < 64 by omega]))
  have d1 : decide (n < (100 : Int)) = false := decide_eq_false e1
  have d2 : decide ((599 : Int) < n) = false := decide_eq_false e2
  have d4 : (64 : Int) ≤ (fs.length : Int) := by omega
  rw [e3] at cF
  clear e1 e2 e3 e4
  clear hk
  obtain ⟨x0, x1, x2⟩ := HX0.out
  go_enter Tryz.func18, Tryz.ntmps18
  go_wp2_with fail
  refine (cF _ HF.out).mono ?_
  rintro e w1 ⟨rfl, hb1⟩
  have HX1 := Lib.hid (HX0.out.next hb1)
  have HB1 := Lib.hid (HB0.out.trans (hb1.mono HB0.out.size))
  have HF1 := Lib.hid (HF.out.below hb1)
  have HY1 := Lib.hid (HY.out.below hb1)
  clear hb1
  clear x0 x1 x2
  obtain ⟨x0, x1, x2⟩ := HX1.out
  go_wp2_with fail
  exact bodyPost_ret (v := .tuple #[.string ⟨#[]⟩, .int .i64 2]) (by simp [results, Tryz.results18, go_sem]) rfl ⟨by rw [HV.out] <;> rfl, HB1.out⟩

set_option maxRecDepth 100000 in
set_option maxHeartbeats 8000000 in
theorem rprp_6 (lo lo2 : Nat) (p : Rp) (me : ByteArray) (v vb : Value) (w : World) (h : Flds lo w v p.fs) (hk : FldsOk p.fs) (hl : p.fs.length ≤ 90000) (hb : BytF lo2 w vb p.b) (hbl : p.b.length ≤ 90000) (e1 : ¬ p.n < 100) (e2 : ¬ 599 < p.n) (e3 : fairL p.fs = true) (e4 : ¬ 64 ≤ p.fs.length) (e6 : bareB p.n me = true) (e7 : p.b ≠ []) :
    Calls Tryz.prog 18 #[.agg #[.int .i64 p.n, v, vb], .string me] w fun e w' => e = .returned (textH (prP p me)) ∧ Below w.heap.size w w' := by
  obtain ⟨n, fs, b⟩ := p
  dsimp only at *
  have cF := fun W h => rfair_any lo v fs W h hk
  have cB := fun W => rbare_any n me W
  have HF := Lib.hid (h.below ((Below.refl w.heap.size w).alloc (Nat.le_refl _) (.cells #[.int .i64 n, v, vb] 31)))
  have HY := Lib.hid (hb.below ((Below.refl w.heap.size w).alloc (Nat.le_refl _) (.cells #[.int .i64 n, v, vb] 31)))
  have HX0 := Lib.hid (BoxP.made w n v vb)
  have HB0 := Lib.hid ((Below.refl w.heap.size w).alloc (Nat.le_refl _) (.cells #[.int .i64 n, v, vb] 31))
  obtain ⟨ao, cap, rfl, _⟩ := h
  obtain ⟨bo, bcap, rfl, _⟩ := hb
  have d5 : ¬ (100000 : Int) < (b.length : Int) := by omega
  have HV : Hid (prP ⟨n, fs, b⟩ me = none) := Lib.hid (by rewrite [prP]; exact if_neg (by simp [e6, e7]))
  have d1 : decide (n < (100 : Int)) = false := decide_eq_false e1
  have d2 : decide ((599 : Int) < n) = false := decide_eq_false e2
  have d4 : ¬ (64 : Int) ≤ (fs.length : Int) := by omega
  have hb0 : 0 < b.length := List.length_pos_iff.2 e7
  have d7 : (0 : Int) < (b.length : Int) := by omega
  rw [e3] at cF
  rw [e6] at cB
  clear e1 e2 e3 e4 e6 e7
  clear hk
  obtain ⟨x0, x1, x2⟩ := HX0.out
  go_enter Tryz.func18, Tryz.ntmps18
  go_wp2_with fail
  refine (cF _ HF.out).mono ?_
  rintro e w1 ⟨rfl, hb1⟩
  have HX1 := Lib.hid (HX0.out.next hb1)
  have HB1 := Lib.hid (HB0.out.trans (hb1.mono HB0.out.size))
  have HF1 := Lib.hid (HF.out.below hb1)
  have HY1 := Lib.hid (HY.out.below hb1)
  clear hb1
  clear x0 x1 x2
  obtain ⟨x0, x1, x2⟩ := HX1.out
  go_wp2_with fail
  refine (cB _).mono ?_
  rintro e _ ⟨rfl, rfl⟩
  go_wp2_with fail
  exact bodyPost_ret (v := .tuple #[.string ⟨#[]⟩, .int .i64 2]) (by simp [results, Tryz.results18, go_sem]) rfl ⟨by rw [HV.out] <;> rfl, HB1.out⟩

set_option maxRecDepth 100000 in
set_option maxHeartbeats 8000000 in
theorem rprp_7 (lo lo2 : Nat) (p : Rp) (me : ByteArray) (v vb : Value) (w : World) (h : Flds lo w v p.fs) (hk : FldsOk p.fs) (hl : p.fs.length ≤ 90000) (hb : BytF lo2 w vb p.b) (hbl : p.b.length ≤ 90000) (e1 : ¬ p.n < 100) (e2 : ¬ 599 < p.n) (e3 : fairL p.fs = true) (e4 : ¬ 64 ≤ p.fs.length) (e6 : bareB p.n me = true) (e7 : p.b = []) :
    Calls Tryz.prog 18 #[.agg #[.int .i64 p.n, v, vb], .string me] w fun e w' => e = .returned (textH (prP p me)) ∧ Below w.heap.size w w' := by
  obtain ⟨n, fs, b⟩ := p
  dsimp only at *
  have cF := fun W h => rfair_any lo v fs W h hk
  have cB := fun W => rbare_any n me W
  have HF := Lib.hid (h.below ((Below.refl w.heap.size w).alloc (Nat.le_refl _) (.cells #[.int .i64 n, v, vb] 31)))
  have HY := Lib.hid (hb.below ((Below.refl w.heap.size w).alloc (Nat.le_refl _) (.cells #[.int .i64 n, v, vb] 31)))
  have HX0 := Lib.hid (BoxP.made w n v vb)
  have HB0 := Lib.hid ((Below.refl w.heap.size w).alloc (Nat.le_refl _) (.cells #[.int .i64 n, v, vb] 31))
  obtain ⟨ao, cap, rfl, _⟩ := h
  obtain ⟨bo, bcap, rfl, _⟩ := hb
  have d5 : ¬ (100000 : Int) < (b.length : Int) := by omega
  obtain ⟨k, rfl⟩ : ∃ k : Nat, n = (k : Int) := ⟨n.toNat, by omega⟩
  have d1 : decide ((k : Int) < (100 : Int)) = false := decide_eq_false e1
  have d2 : decide ((599 : Int) < (k : Int)) = false := decide_eq_false e2
  have d4 : ¬ (64 : Int) ≤ (fs.length : Int) := by omega
  have cK := fun W => rnumber_any k W (by omega)
  obtain ⟨TX, htx⟩ : ∃ TX, prP ⟨(k : Int), fs, b⟩ me = some TX := ⟨_, by rewrite [prP]; exact if_pos (by simp [show (100 : Int) ≤ (k : Int) by omega, show (k : Int) ≤ 599 by omega, e3, show fs.length < 64 by omega, e6, e7])⟩
  obtain ⟨g1, g2⟩ := fieldsP_len htx
  have htv := (prP_parts htx).2.2.2.2.2.2.2.2
  have HV : Hid (textH (prP ⟨(k : Int), fs, b⟩ me) = .tuple #[.string (⟨#[72, 84, 84, 80, 47, 49, 46, 49, 32]⟩ ++ strB (Lib.decDigits k) ++ ⟨#[32, 13, 10]⟩ ++ strB (prF (fieldsP ⟨(k : Int), fs, b⟩ me) ++ [13, 10]) ++ strB b), .int .i64 0]) := Lib.hid (by
    rewrite [htx, htv, show linP ⟨(k : Int), fs, b⟩ ++ [13, 10] ++ (prF (fieldsP ⟨(k : Int), fs, b⟩ me) ++ [13, 10]) ++ b = [72, 84, 84, 80, 47, 49, 46, 49, 32] ++ Lib.decDigits k ++ [32, 13, 10] ++ (prF (fieldsP ⟨(k : Int), fs, b⟩ me) ++ [13, 10]) ++ b by simp [linP, h11], textH, ← strB_append, ← strB_append, ← strB_append, ← strB_append]
    rfl)
  have hpl : (strB (prF (fieldsP ⟨(k : Int), fs, b⟩ me) ++ [13, 10])).size ≤ 200002 := by rewrite [strB_size, List.length_append]; simp; omega
  have hpr : textH (printH (fieldsP ⟨(k : Int), fs, b⟩ me)) = .tuple #[.string (strB (prF (fieldsP ⟨(k : Int), fs, b⟩ me) ++ [13, 10])), .int .i64 0] := by rw [printH, g1] <;> rfl
  have hbs := strB_size b
  have hds : (strB (Lib.decDigits k)).size ≤ 6 := by rewrite [strB_size]; exact dec_len 5 k (by omega)
  have n1 : ¬ 9223372036854775807 < 9 + (strB (Lib.decDigits k)).size := by omega
  have n2 : ¬ 9223372036854775807 < 9 + (strB (Lib.decDigits k)).size + 3 := by omega
  have n3 : ¬ 9223372036854775807 < 9 + (strB (Lib.decDigits k)).size + 3 + (strB (prF (fieldsP ⟨(k : Int), fs, b⟩ me) ++ [13, 10])).size := by omega
  have n4 : ¬ 9223372036854775807 < 9 + (strB (Lib.decDigits k)).size + 3 + (strB (prF (fieldsP ⟨(k : Int), fs, b⟩ me) ++ [13, 10])).size + (strB b).size := by omega
  have hfe : fieldsP ⟨(k : Int), fs, b⟩ me = fs := by rw [fieldsP, if_pos e6]
  have cP := fun W h => rprint_any lo (.slice ao fs.length cap) fs W h hk
  unfold hprPost at cP
  rw [hfe] at hpr
  rw [hpr] at cP
  have d7 : ¬ (0 : Int) < (b.length : Int) := by rewrite [e7]; decide
  rw [e3] at cF
  rw [e6] at cB
  rw [hfe] at HV n3 n4 hpl
  generalize strB (prF fs ++ [13, 10]) = PX at *
  generalize hSB : strB b = SB at *
  have HSB := Lib.hid hSB
  clear hSB hbs hpl g1 g2 htv htx hds
  generalize strB (Lib.decDigits k) = D at *
  clear hfe hpr e1 e2 e3 e4 e6 e7 hk
  obtain ⟨x0, x1, x2⟩ := HX0.out
  go_enter Tryz.func18, Tryz.ntmps18
  go_wp2_with fail
  refine (cF _ HF.out).mono ?_
  rintro e w1 ⟨rfl, hb1⟩
  have HX1 := Lib.hid (HX0.out.next hb1)
  have HB1 := Lib.hid (HB0.out.trans (hb1.mono HB0.out.size))
  have HF1 := Lib.hid (HF.out.below hb1)
  have HY1 := Lib.hid (HY.out.below hb1)
  clear hb1
  clear x0 x1 x2
  obtain ⟨x0, x1, x2⟩ := HX1.out
  go_wp2_with fail
  refine (cB _).mono ?_
  rintro e _ ⟨rfl, rfl⟩
  go_wp2_with fail
  refine (cP _ HF1.out).mono ?_
  rintro e w2 ⟨rfl, hb2⟩
  have HX2 := Lib.hid (HX1.out.next hb2)
  have HB2 := Lib.hid (HB1.out.trans (hb2.mono HB1.out.size))
  have HF2 := Lib.hid (HF1.out.below hb2)
  have HY2 := Lib.hid (HY1.out.below hb2)
  clear hb2
  clear x0 x1 x2
  have k0 := HY2.out.conv
  have k1 : ∀ m, (convert 24 9 (.slice bo b.length bcap)).run Tryz.prog (w2.drewN m) = .ok (.string (strB b)) (w2.drewN m) := fun m => (HY2.out.below (below_drewN _ m)).conv
  rw [HSB.out] at k0 k1
  obtain ⟨x0, x1, x2⟩ := HX2.out
  go_wp2_with fail
  go_quiet ((go_at_call 47; exact Calls.quiet_of_same ((cK _).mono (fun _ _ h => ⟨h.1, h.2.symm⟩))))
  all_goals
    go_wp2_with fail
    exact bodyPost_ret (v := .tuple #[.string (⟨#[72, 84, 84, 80, 47, 49, 46, 49, 32]⟩ ++ D ++ ⟨#[32, 13, 10]⟩ ++ PX ++ SB), .int .i64 0]) (by simp [results, Tryz.results18, go_sem]) rfl ⟨by rw [HV.out], HB2.out.trans ((below_drewN _ _).mono HB2.out.size)⟩

set_option maxRecDepth 100000 in
set_option maxHeartbeats 8000000 in
theorem rprp_8 (lo lo2 : Nat) (p : Rp) (me : ByteArray) (v vb : Value) (w : World) (h : Flds lo w v p.fs) (hk : FldsOk p.fs) (hl : p.fs.length ≤ 90000) (hb : BytF lo2 w vb p.b) (hbl : p.b.length ≤ 90000) (e1 : ¬ p.n < 100) (e2 : ¬ 599 < p.n) (e3 : fairL p.fs = true) (e4 : ¬ 64 ≤ p.fs.length) (e6 : bareB p.n me = false) :
    Calls Tryz.prog 18 #[.agg #[.int .i64 p.n, v, vb], .string me] w fun e w' => e = .returned (textH (prP p me)) ∧ Below w.heap.size w w' := by
  obtain ⟨n, fs, b⟩ := p
  dsimp only at *
  have cF := fun W h => rfair_any lo v fs W h hk
  have cB := fun W => rbare_any n me W
  have HF := Lib.hid (h.below ((Below.refl w.heap.size w).alloc (Nat.le_refl _) (.cells #[.int .i64 n, v, vb] 31)))
  have HY := Lib.hid (hb.below ((Below.refl w.heap.size w).alloc (Nat.le_refl _) (.cells #[.int .i64 n, v, vb] 31)))
  have HX0 := Lib.hid (BoxP.made w n v vb)
  have HB0 := Lib.hid ((Below.refl w.heap.size w).alloc (Nat.le_refl _) (.cells #[.int .i64 n, v, vb] 31))
  obtain ⟨ao, cap, rfl, _⟩ := h
  obtain ⟨bo, bcap, rfl, _⟩ := hb
  have d5 : ¬ (100000 : Int) < (b.length : Int) := by omega
  obtain ⟨k, rfl⟩ : ∃ k : Nat, n = (k : Int) := ⟨n.toNat, by omega⟩
  have d1 : decide ((k : Int) < (100 : Int)) = false := decide_eq_false e1
  have d2 : decide ((599 : Int) < (k : Int)) = false := decide_eq_false e2
  have d4 : ¬ (64 : Int) ≤ (fs.length : Int) := by omega
  have cK := fun W => rnumber_any k W (by omega)
  obtain ⟨TX, htx⟩ : ∃ TX, prP ⟨(k : Int), fs, b⟩ me = some TX := ⟨_, by rewrite [prP]; exact if_pos (by simp [show (100 : Int) ≤ (k : Int) by omega, show (k : Int) ≤ 599 by omega, e3, show fs.length < 64 by omega, e6, show b.length ≤ 100000 by omega])⟩
  obtain ⟨g1, g2⟩ := fieldsP_len htx
  have htv := (prP_parts htx).2.2.2.2.2.2.2.2
  have HV : Hid (textH (prP ⟨(k : Int), fs, b⟩ me) = .tuple #[.string (⟨#[72, 84, 84, 80, 47, 49, 46, 49, 32]⟩ ++ strB (Lib.decDigits k) ++ ⟨#[32, 13, 10]⟩ ++ strB (prF (fieldsP ⟨(k : Int), fs, b⟩ me) ++ [13, 10]) ++ strB b), .int .i64 0]) := Lib.hid (by
    rewrite [htx, htv, show linP ⟨(k : Int), fs, b⟩ ++ [13, 10] ++ (prF (fieldsP ⟨(k : Int), fs, b⟩ me) ++ [13, 10]) ++ b = [72, 84, 84, 80, 47, 49, 46, 49, 32] ++ Lib.decDigits k ++ [32, 13, 10] ++ (prF (fieldsP ⟨(k : Int), fs, b⟩ me) ++ [13, 10]) ++ b by simp [linP, h11], textH, ← strB_append, ← strB_append, ← strB_append, ← strB_append]
    rfl)
  have hpl : (strB (prF (fieldsP ⟨(k : Int), fs, b⟩ me) ++ [13, 10])).size ≤ 200002 := by rewrite [strB_size, List.length_append]; simp; omega
  have hpr : textH (printH (fieldsP ⟨(k : Int), fs, b⟩ me)) = .tuple #[.string (strB (prF (fieldsP ⟨(k : Int), fs, b⟩ me) ++ [13, 10])), .int .i64 0] := by rw [printH, g1] <;> rfl
  have hbs := strB_size b
  have hds : (strB (Lib.decDigits k)).size ≤ 6 := by rewrite [strB_size]; exact dec_len 5 k (by omega)
  have n1 : ¬ 9223372036854775807 < 9 + (strB (Lib.decDigits k)).size := by omega
  have n2 : ¬ 9223372036854775807 < 9 + (strB (Lib.decDigits k)).size + 3 := by omega
  have n3 : ¬ 9223372036854775807 < 9 + (strB (Lib.decDigits k)).size + 3 + (strB (prF (fieldsP ⟨(k : Int), fs, b⟩ me) ++ [13, 10])).size := by omega
  have n4 : ¬ 9223372036854775807 < 9 + (strB (Lib.decDigits k)).size + 3 + (strB (prF (fieldsP ⟨(k : Int), fs, b⟩ me) ++ [13, 10])).size + (strB b).size := by omega
  have hfe : fieldsP ⟨(k : Int), fs, b⟩ me = fs ++ [(clN, Lib.decDigits b.length)] := by rw [fieldsP, if_neg (by simp [e6])] <;> rfl
  have hkf : FldsOk (fs ++ [(clN, Lib.decDigits b.length)]) := fldsok_with hk (by omega) (by omega)
  have cP := fun v W h => rprint_any 0 v (fs ++ [(clN, Lib.decDigits b.length)]) W h hkf
  unfold hprPost at cP
  rw [hfe] at hpr
  rw [hpr] at cP
  have cW := fun W h => rwith_any lo (.slice ao fs.length cap) fs (clN, Lib.decDigits b.length) W h hk.1
  have cN := fun W => rnumber_any b.length W (by omega)
  rw [show strB clN = (⟨#[99, 111, 110, 116, 101, 110, 116, 45, 108, 101, 110, 103, 116, 104]⟩ : ByteArray) from rfl] at cW
  rw [e3] at cF
  rw [e6] at cB
  rw [hfe] at HV n3 n4 hpl
  generalize strB (prF (fs ++ [(clN, Lib.decDigits b.length)]) ++ [13, 10]) = PX at *
  generalize hSB : strB b = SB at *
  have HSB := Lib.hid hSB
  clear hSB hbs hpl g1 g2 htv htx hds
  generalize strB (Lib.decDigits k) = D at *
  clear hfe hpr hkf e1 e2 e3 e4 e6 hk
  generalize strB (Lib.decDigits b.length) = SD at *
  obtain ⟨x0, x1, x2⟩ := HX0.out
  go_enter Tryz.func18, Tryz.ntmps18
  go_wp2_with fail
  refine (cF _ HF.out).mono ?_
  rintro e w1 ⟨rfl, hb1⟩
  have HX1 := Lib.hid (HX0.out.next hb1)
  have HB1 := Lib.hid (HB0.out.trans (hb1.mono HB0.out.size))
  have HF1 := Lib.hid (HF.out.below hb1)
  have HY1 := Lib.hid (HY.out.below hb1)
  clear hb1
  clear x0 x1 x2
  obtain ⟨x0, x1, x2⟩ := HX1.out
  go_wp2_with fail
  refine (cB _).mono ?_
  rintro e _ ⟨rfl, rfl⟩
  go_wp2_with fail
  refine (cN _).mono ?_
  rintro e _ ⟨rfl, rfl⟩
  go_wp2_with fail
  refine (cW _ HF1.out).mono ?_
  rintro e w2 ⟨⟨u2, rfl, hown2⟩, hb2⟩
  have HX2 := Lib.hid (HX1.out.next hb2)
  have HB2 := Lib.hid (HB1.out.trans (hb2.mono HB1.out.size))
  have HF2 := Lib.hid (HF1.out.below hb2)
  have HY2 := Lib.hid (HY1.out.below hb2)
  obtain ⟨b2, k2, rfl⟩ := owns_formF hown2
  have HG2 : Hid (Flds 0 w2 (.slice b2 (fs.length + 1) k2) (fs ++ [(clN, Lib.decDigits b.length)])) := Lib.hid (by
    have := Flds.of_own hown2 (Nat.zero_le _)
    rw [List.length_append] at this
    exact this)
  rewrite [List.length_append]
  clear hown2
  clear hb2
  clear x0 x1 x2
  obtain ⟨x0, x1, x2⟩ := HX2.out
  go_wp2_with fail
  refine (cP _ _ HG2.out).mono ?_
  rintro e w3 ⟨rfl, hb3⟩
  have HX3 := Lib.hid (HX2.out.next hb3)
  have HB3 := Lib.hid (HB2.out.trans (hb3.mono HB2.out.size))
  have HF3 := Lib.hid (HF2.out.below hb3)
  have HY3 := Lib.hid (HY2.out.below hb3)
  clear hb3
  clear x0 x1 x2
  have k0 := HY3.out.conv
  have k1 : ∀ m, (convert 24 9 (.slice bo b.length bcap)).run Tryz.prog (w3.drewN m) = .ok (.string (strB b)) (w3.drewN m) := fun m => (HY3.out.below (below_drewN _ m)).conv
  rw [HSB.out] at k0 k1
  obtain ⟨x0, x1, x2⟩ := HX3.out
  go_wp2_with fail
  go_quiet ((go_at_call 47; exact Calls.quiet_of_same ((cK _).mono (fun _ _ h => ⟨h.1, h.2.symm⟩))))
  all_goals
    go_wp2_with fail
    exact bodyPost_ret (v := .tuple #[.string (⟨#[72, 84, 84, 80, 47, 49, 46, 49, 32]⟩ ++ D ++ ⟨#[32, 13, 10]⟩ ++ PX ++ SB), .int .i64 0]) (by simp [results, Tryz.results18, go_sem]) rfl ⟨by rw [HV.out], HB3.out.trans ((below_drewN _ _).mono HB3.out.size)⟩

theorem rprp_any (lo lo2 : Nat) (p : Rp) (me : ByteArray) (v vb : Value) (w : World) (h : Flds lo w v p.fs) (hk : FldsOk p.fs) (hl : p.fs.length ≤ 90000) (hb : BytF lo2 w vb p.b) (hbl : p.b.length ≤ 90000) :
    Calls Tryz.prog 18 #[.agg #[.int .i64 p.n, v, vb], .string me] w fun e w' => e = .returned (textH (prP p me)) ∧ Below w.heap.size w w' := by
  by_cases e1 : p.n < 100
  · exact rprp_1 lo lo2 p me v vb w h hk hl hb hbl e1
  by_cases e2 : 599 < p.n
  · exact rprp_2 lo lo2 p me v vb w h hk hl hb hbl e1 e2
  cases e3 : fairL p.fs with
  | false => exact rprp_3 lo lo2 p me v vb w h hk hl hb hbl e1 e2 e3
  | true =>
    by_cases e4 : 64 ≤ p.fs.length
    · exact rprp_4 lo lo2 p me v vb w h hk hl hb hbl e1 e2 e3 e4
    cases e6 : bareB p.n me with
    | false => exact rprp_8 lo lo2 p me v vb w h hk hl hb hbl e1 e2 e3 e4 e6
    | true =>
      by_cases e7 : p.b = []
      · exact rprp_7 lo lo2 p me v vb w h hk hl hb hbl e1 e2 e3 e4 e6 e7
      · exact rprp_6 lo lo2 p me v vb w h hk hl hb hbl e1 e2 e3 e4 e6 e7

end Go.Proofs.YthbfcamfapgodaaGreatDoor
