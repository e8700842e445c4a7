/- The contract of message.PrintResponse. -/
import Derived.Test.YthbfcamfapgodaaGreatDoorGR
import Derived.Test.YthbfcamfapgodaaGreatDoorGK
import Derived.Test.YthbfcamfapgodaaGreatDoorGI
import Derived.Test.YthbfcamfapgodaaGreatDoorGJ
import Derived.Deep.DeepCutAuto
import Derived.Deep.RegionHeld3
import Derived.Deep.RegionWith
import Derived.Deep.AppendLies
import Derived.BigQuiet

namespace Go.Proofs.YthbfcamfapgodaaGreatDoor
open Go.RowKit Go.Shelf Go.Lib

/-- Three cells of a response, in a new block; nothing older has changed. -/
abbrev heldP (w : World) (n : Int) (f y : Value) (W : World) : Prop := W.cell? ⟨w.heap.size, 0, none⟩ = some (.int .i64 n) ∧ W.cell? ⟨w.heap.size, 1, none⟩ = some f ∧ W.cell? ⟨w.heap.size, 2, none⟩ = some y ∧ Below w.heap.size w W ∧ w.heap.size < W.heap.size
theorem heldP_next {w W W1 : World} {n : Int} {f y : Value} (h : heldP w n f y W) (hb : Below W.heap.size W W1) : heldP w n f y W1 :=
  ⟨(hb.cell (p := ⟨w.heap.size, 0, none⟩) h.2.2.2.2).trans h.1, (hb.cell (p := ⟨w.heap.size, 1, none⟩) h.2.2.2.2).trans h.2.1, (hb.cell (p := ⟨w.heap.size, 2, none⟩) h.2.2.2.2).trans h.2.2.1, h.2.2.2.1.trans (hb.mono h.2.2.2.1.size), Nat.lt_of_lt_of_le h.2.2.2.2 hb.size⟩
theorem heldP_new (w : World) (n : Int) (f y : Value) : heldP w n f y (w.alloc (.cells #[.int .i64 n, f, y] 31)) :=
  ⟨by simp, by simp, by simp, (Below.refl _ _).alloc (Nat.le_refl _) _, by simp⟩

set_option maxRecDepth 100000 in
set_option maxHeartbeats 8000000 in
theorem mprp_no (lo lo2 : Nat) (p : Rp) (me : ByteArray) (v vb : Value) (w : World) (h : Flds lo w v p.fs) (hb : BytF lo2 w vb p.b) (hn : (decide (100 ≤ p.n) && decide (p.n ≤ 599) && decide (p.fs.length < 64) && (!bareB p.n me || decide (p.b = []))) = false) :
    Calls Tryz.prog 17 #[.agg #[.int .i64 p.n, v, vb], .string me] w fun e w' => e = .returned (.tuple #[.string ⟨#[]⟩, .int .i64 2]) ∧ Below w.heap.size w w' := by
  obtain ⟨n, fs, b⟩ := p
  dsimp only at *
  have cB := fun W => mbare_any n me W
  have cS := fun W => mstatus_any n W
  obtain ⟨ao, cap, rfl, _⟩ := h
  obtain ⟨bo, bcap, rfl, _⟩ := hb
  have HX0 := Lib.hid (heldP_new w n (.slice ao fs.length cap) (.slice bo b.length bcap))
  generalize bareB n me = ba at *
  generalize (decide (100 ≤ n) && decide (n ≤ 599)) = st at *
  cases st
  · clear hn
    go_enter Tryz.func17, Tryz.ntmps17
    go_wp2_with fail
    refine (cB _).mono ?_
    rintro e w1 ⟨rfl, hb1⟩
    have HX1 := Lib.hid (heldP_next HX0.out hb1)
    obtain ⟨x0, x1, x2, x3, x4⟩ := HX1.out
    have HB1 := Lib.hid x3
    clear hb1 x3
    go_wp2_with fail
    refine (cS _).mono ?_
    rintro e _ ⟨rfl, rfl⟩
    go_wp2_with fail
    exact bodyPost_ret (v := .tuple #[.string ⟨#[]⟩, .int .i64 2]) (by simp [results, Tryz.results17, go_sem]) rfl ⟨rfl, HB1.out⟩
  by_cases hl : fs.length < 64
  · have d : ¬ (64 : Int) ≤ (fs.length : Int) := by omega
    rw [decide_eq_true hl] at hn
    cases ba
    · cases hn
    · have hbl : 0 < b.length := by
        have : b ≠ [] := by simpa using hn
        exact List.length_pos_iff.2 this
      have d2 : (0 : Int) < (b.length : Int) := by omega
      clear hn hl
      go_enter Tryz.func17, Tryz.ntmps17
      go_wp2_with fail
      refine (cB _).mono ?_
      rintro e w1 ⟨rfl, hb1⟩
      have HX1 := Lib.hid (heldP_next HX0.out hb1)
      obtain ⟨x0, x1, x2, x3, x4⟩ := HX1.out
      have HB1 := Lib.hid x3
      clear hb1 x3
      go_wp2_with fail
      refine (cS _).mono ?_
      rintro e _ ⟨rfl, rfl⟩
      go_wp2_with fail
      exact bodyPost_ret (v := .tuple #[.string ⟨#[]⟩, .int .i64 2]) (by simp [results, Tryz.results17, go_sem]) rfl ⟨rfl, HB1.out⟩
  · have d : (64 : Int) ≤ (fs.length : Int) := by omega
    clear hn hl
    go_enter Tryz.func17, Tryz.ntmps17
    go_wp2_with fail
    refine (cB _).mono ?_
    rintro e w1 ⟨rfl, hb1⟩
    have HX1 := Lib.hid (heldP_next HX0.out hb1)
    obtain ⟨x0, x1, x2, x3, x4⟩ := HX1.out
    have HB1 := Lib.hid x3
    clear hb1 x3
    go_wp2_with fail
    refine (cS _).mono ?_
    rintro e _ ⟨rfl, rfl⟩
    go_wp2_with fail
    exact bodyPost_ret (v := .tuple #[.string ⟨#[]⟩, .int .i64 2]) (by simp [results, Tryz.results17, go_sem]) rfl ⟨rfl, HB1.out⟩

set_option maxRecDepth 100000 in
set_option maxHeartbeats 8000000 in
theorem mprp_yes (lo lo2 : Nat) (k : Nat) (fs : List Fld) (b : List UInt8) (me : ByteArray) (v vb : Value) (w : World) (h : Flds lo w v fs) (hk : FldsOk fs) (hb : BytF lo2 w vb b) (hbl : b.length ≤ 90000) (hT : Tabs w) (hP : Pow w)
    (h1 : 100 ≤ k) (h2 : k ≤ 599) (h3 : fs.length < 64) (h4 : bareB (k : Int) me = false ∨ b = []) :
    Calls Tryz.prog 17 #[.agg #[.int .i64 (k : Int), v, vb], .string me] w fun e w' => e = .returned (textH (txoL (linP ⟨(k : Int), fs, b⟩) fs b (!bareB (k : Int) me))) ∧ Below w.heap.size w w' := by
  have cB := fun W => mbare_any (k : Int) me W
  have cS := fun W => mstatus_any (k : Int) W
  rw [decide_eq_true (show (100 : Int) ≤ (k : Int) by omega), decide_eq_true (show (k : Int) ≤ 599 by omega)] at cS
  have HT := Lib.hid hT
  have HP := Lib.hid hP
  have hln : (linP ⟨(k : Int), fs, b⟩).length ≤ 20 := by
    have hd := dec_len 5 k (by omega)
    rewrite [linP]
    simp only [List.length_append, Int.toNat_natCast, List.length_cons, List.length_nil]
    have : h11.length = 8 := rfl
    omega
  have hL : strB (linP ⟨(k : Int), fs, b⟩) = ⟨#[72, 84, 84, 80, 47, 49, 46, 49, 32]⟩ ++ strB (Lib.decDigits k) ++ ⟨#[32]⟩ := by
    rewrite [show linP ⟨(k : Int), fs, b⟩ = (h11 ++ [32]) ++ Lib.decDigits k ++ [32] from rfl, ← strB_append, ← strB_append]
    rfl
  have hds : (strB (Lib.decDigits k)).size ≤ 6 := by rewrite [strB_size]; exact dec_len 5 k (by omega)
  have HF := Lib.hid h
  have HY := Lib.hid hb
  have cI := fun W (hS : heldP w (k : Int) v vb W) => (mitoa_any k (by omega) W (HP.out.below hS.2.2.2.1)).mono fun e w' (hh : _ ∧ Below W.heap.size W w') => (⟨hh.1, heldP_next hS hh.2⟩ : _ ∧ heldP w (k : Int) v vb w')
  have cX := fun W (hS : heldP w (k : Int) v vb W) => (mtext_any lo lo2 v vb (linP ⟨(k : Int), fs, b⟩) fs b (!bareB (k : Int) me) W (HF.out.below hS.2.2.2.1) hk (by omega) (HY.out.below hS.2.2.2.1) (by omega) (by omega) (Utf8Tabs_below HT.out hS.2.2.2.1) (HP.out.below hS.2.2.2.1)).mono fun e w' (hh : _ ∧ Below W.heap.size W w') => (⟨hh.1, heldP_next hS hh.2⟩ : _ ∧ heldP w (k : Int) v vb w')
  rw [hL] at cX
  clear hL hln hT hP
  obtain ⟨ao, cap, rfl, _⟩ := h
  obtain ⟨bo, bcap, rfl, _⟩ := hb
  obtain ⟨S, E, hse⟩ : ∃ S E, textH (txoL (linP ⟨(k : Int), fs, b⟩) fs b (!bareB (k : Int) me)) = .tuple #[.string S, .int .i64 E] := by
    cases txoL (linP ⟨(k : Int), fs, b⟩) fs b (!bareB (k : Int) me) <;> exact ⟨_, _, rfl⟩
  rw [hse] at cX ⊢
  clear hse
  have HX0 := Lib.hid (heldP_new w (k : Int) (.slice ao fs.length cap) (.slice bo b.length bcap))
  have d : ¬ (64 : Int) ≤ (fs.length : Int) := by omega
  have d2 : bareB (k : Int) me = false ∨ ¬ (0 : Int) < (b.length : Int) := by
    rcases h4 with h4 | h4
    · exact .inl h4
    · exact .inr (by rewrite [h4]; decide)
  have n1 : ¬ 9223372036854775807 < 9 + (strB (Lib.decDigits k)).size := by omega
  have n2 : ¬ 9223372036854775807 < 9 + (strB (Lib.decDigits k)).size + 1 := by omega
  clear h4 h3 h1 h2 hk hbl hds
  generalize strB (Lib.decDigits k) = D at *
  generalize bareB (k : Int) me = ba at *
  cases ba
  · clear d2
    rw [Bool.not_false] at cX
    go_enter Tryz.func17, Tryz.ntmps17
    go_wp2_with fail
    refine (cB _).mono ?_
    rintro e w1 ⟨rfl, hb1⟩
    have HX1 := Lib.hid (heldP_next HX0.out hb1)
    obtain ⟨x0, x1, x2, x3, x4⟩ := HX1.out
    clear hb1
    go_wp2_with fail
    refine (cS _).mono ?_
    rintro e _ ⟨rfl, rfl⟩
    have hS0 := heldP_next HX1.out (Below.refl _ _).drew
    go_wp2_with fail
    go_region_held3 (fun W => W.cell? ⟨w.heap.size, 0, none⟩ = some (.int .i64 (k : Int)) ∧ W.cell? ⟨w.heap.size, 1, none⟩ = some (.slice ao fs.length cap) ∧ W.cell? ⟨w.heap.size, 2, none⟩ = some (.slice bo b.length bcap) ∧ Below w.heap.size w W ∧ w.heap.size < W.heap.size) (with_reducible assumption) (first | (go_at_call 50; with_reducible refine (cI _ (by with_reducible assumption)).mono ?_; rintro e w' ⟨rfl, hh⟩) | (go_at_call 44; with_reducible refine (cX _ (by with_reducible assumption)).mono ?_; rintro e w' ⟨rfl, hh⟩))
    all_goals
      go_wp2_with fail
      exact bodyPost_ret (v := .tuple #[.string S, .int .i64 E]) (by simp [results, Tryz.results17, go_sem]) rfl ⟨rfl, (by assumption : heldP w (k : Int) (.slice ao fs.length cap) (.slice bo b.length bcap) _).2.2.2.1⟩
  · have d3 : ¬ (0 : Int) < (b.length : Int) := by
      rcases d2 with d2 | d2
      · cases d2
      · exact d2
    clear d2
    rw [Bool.not_true] at cX
    go_enter Tryz.func17, Tryz.ntmps17
    go_wp2_with fail
    refine (cB _).mono ?_
    rintro e w1 ⟨rfl, hb1⟩
    have HX1 := Lib.hid (heldP_next HX0.out hb1)
    obtain ⟨x0, x1, x2, x3, x4⟩ := HX1.out
    clear hb1
    go_wp2_with fail
    refine (cS _).mono ?_
    rintro e _ ⟨rfl, rfl⟩
    have hS0 := heldP_next HX1.out (Below.refl _ _).drew
    go_wp2_with fail
    go_region_held3 (fun W => W.cell? ⟨w.heap.size, 0, none⟩ = some (.int .i64 (k : Int)) ∧ W.cell? ⟨w.heap.size, 1, none⟩ = some (.slice ao fs.length cap) ∧ W.cell? ⟨w.heap.size, 2, none⟩ = some (.slice bo b.length bcap) ∧ Below w.heap.size w W ∧ w.heap.size < W.heap.size) (with_reducible assumption) (first | (go_at_call 50; with_reducible refine (cI _ (by with_reducible assumption)).mono ?_; rintro e w' ⟨rfl, hh⟩) | (go_at_call 44; with_reducible refine (cX _ (by with_reducible assumption)).mono ?_; rintro e w' ⟨rfl, hh⟩))
    all_goals
      go_wp2_with fail
      exact bodyPost_ret (v := .tuple #[.string S, .int .i64 E]) (by simp [results, Tryz.results17, go_sem]) rfl ⟨rfl, (by assumption : heldP w (k : Int) (.slice ao fs.length cap) (.slice bo b.length bcap) _).2.2.2.1⟩

theorem mprp_any (lo lo2 : Nat) (p : Rp) (me : ByteArray) (v vb : Value) (w : World) (h : Flds lo w v p.fs) (hk : FldsOk p.fs) (hb : BytF lo2 w vb p.b) (hbl : p.b.length ≤ 90000) (hT : Tabs w) (hP : Pow w) :
    Calls Tryz.prog 17 #[.agg #[.int .i64 p.n, v, vb], .string me] w fun e w' => e = .returned (textH (prP p me)) ∧ Below w.heap.size w w' := by
  rewrite [prP_tx]
  cases hc : (decide (100 ≤ p.n) && decide (p.n ≤ 599) && decide (p.fs.length < 64) && (!bareB p.n me || decide (p.b = [])))
  · exact mprp_no lo lo2 p me v vb w h hb hc
  · obtain ⟨n, fs, b⟩ := p
    simp only [Bool.and_eq_true, decide_eq_true_eq, Bool.or_eq_true, Bool.not_eq_true'] at hc
    obtain ⟨⟨⟨h1, h2⟩, h3⟩, h4⟩ := hc
    obtain ⟨k, rfl⟩ : ∃ k : Nat, n = (k : Int) := ⟨n.toNat, by omega⟩
    exact mprp_yes lo lo2 k fs b me v vb w h hk hb hbl hT hP (by omega) (by omega) h3 h4

end Go.Proofs.YthbfcamfapgodaaGreatDoor
