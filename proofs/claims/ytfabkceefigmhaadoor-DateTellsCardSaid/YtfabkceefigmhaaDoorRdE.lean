/- The contract of the document's own forms (sculleryref05). -/
import Derived.Test.YtfabkceefigmhaaDoorRdD
import Derived.Test.YtfabkceefigmhaaDoorDatD
import Derived.Deep.RegionHeld3
namespace Go.Proofs.YtfabkceefigmhaaDoor
open Go.RowKit

/-- The result's block, and what was made behind it. -/
def FB (w W : World) : Prop := Below (w.heap.size + 1) (w.alloc (.cells #[.string ⟨#[]⟩, .string ⟨#[]⟩, .string ⟨#[]⟩] 41)) W
theorem FB.cells {w W : World} (h : FB w W) : W.cell? ⟨w.heap.size, 0, none⟩ = some (.string ⟨#[]⟩) ∧ W.cell? ⟨w.heap.size, 1, none⟩ = some (.string ⟨#[]⟩) ∧ W.cell? ⟨w.heap.size, 2, none⟩ = some (.string ⟨#[]⟩) ∧ W.frozen? ⟨w.heap.size, 0, none⟩ = false ∧ W.frozen? ⟨w.heap.size, 1, none⟩ = false ∧ W.frozen? ⟨w.heap.size, 2, none⟩ = false := by
  have hl : w.heap.size < w.heap.size + 1 := Nat.lt_succ_self _
  refine ⟨(Below.cell (p := ⟨w.heap.size, 0, none⟩) h hl).trans (by simp), (Below.cell (p := ⟨w.heap.size, 1, none⟩) h hl).trans (by simp), (Below.cell (p := ⟨w.heap.size, 2, none⟩) h hl).trans (by simp), (Below.frozen (p := ⟨w.heap.size, 0, none⟩) h hl).trans (by simp), (Below.frozen (p := ⟨w.heap.size, 1, none⟩) h hl).trans (by simp), (Below.frozen (p := ⟨w.heap.size, 2, none⟩) h hl).trans (by simp)⟩
theorem FB.later {w W : World} (h : FB w W) : Below w.heap.size w W :=
  ((Below.refl w.heap.size w).alloc (Nat.le_refl _) _).trans (Below.mono h (by omega))
theorem FB.next {w W W1 : World} (h : FB w W) (hb : Below W.heap.size W W1) : FB w W1 :=
  Below.trans h (hb.mono (by have := Below.size h; simp at this; omega))
theorem FB.drew {w W : World} (h : FB w W) : FB w W.drew := h.next (Below.refl _ _).drew
theorem fb_calls {f : FuncId} {args : Array Value} {v : Value} (w : World) (h : ∀ W, Calls Tryd.prog f args W fun e w' => e = .returned v ∧ Below W.heap.size W w') : ∀ W, FB w W → Calls Tryd.prog f args W fun e w' => e = .returned v ∧ FB w w' :=
  fun W hW => (h W).mono fun _ _ ⟨he, hb⟩ => ⟨he, hW.next hb⟩

/-- The result's block lies, whatever it holds. -/
structure H3 (W : World) (b : Nat) : Prop where
  x : ∃ v0 v1 v2, W.cell? ⟨b, 0, none⟩ = some v0 ∧ W.cell? ⟨b, 1, none⟩ = some v1 ∧ W.cell? ⟨b, 2, none⟩ = some v2
  f : W.frozen? ⟨b, 0, none⟩ = false ∧ W.frozen? ⟨b, 1, none⟩ = false ∧ W.frozen? ⟨b, 2, none⟩ = false
abbrev heldF (w W : World) : Prop := Below w.heap.size w W ∧ H3 W w.heap.size
theorem FB.held {w W : World} (h : FB w W) : heldF w W := by
  obtain ⟨x0, x1, x2, x3, x4, x5⟩ := h.cells
  exact ⟨h.later, ⟨⟨_, _, _, x0, x1, x2⟩, ⟨x3, x4, x5⟩⟩⟩
theorem held_later {w W W1 : World} (h : heldF w W) (hb : Below W.heap.size W W1) : heldF w W1 := by
  obtain ⟨h1, ⟨v0, v1, v2, x0, x1, x2⟩, y0, y1, y2⟩ := h
  exact ⟨h1.trans (hb.mono h1.size), ⟨⟨v0, v1, v2, (hb.cell (p := ⟨w.heap.size, 0, none⟩) (lt_of_cell x0)).trans x0, (hb.cell (p := ⟨w.heap.size, 1, none⟩) (lt_of_cell x1)).trans x1, (hb.cell (p := ⟨w.heap.size, 2, none⟩) (lt_of_cell x2)).trans x2⟩, ⟨(hb.frozen (p := ⟨w.heap.size, 0, none⟩) (lt_of_cell x0)).trans y0, (hb.frozen (p := ⟨w.heap.size, 1, none⟩) (lt_of_cell x1)).trans y1, (hb.frozen (p := ⟨w.heap.size, 2, none⟩) (lt_of_cell x2)).trans y2⟩⟩⟩
theorem held_st {w W : World} (h : heldF w W) (a b c : Value) : heldF w (((W.setCell ⟨w.heap.size, 0, none⟩ a).setCell ⟨w.heap.size, 1, none⟩ b).setCell ⟨w.heap.size, 2, none⟩ c) := by
  obtain ⟨h1, ⟨v0, v1, v2, x0, x1, x2⟩, y0, y1, y2⟩ := h
  have q0 : (W.setCell ⟨w.heap.size, 0, none⟩ a).cell? ⟨w.heap.size, 0, none⟩ = some a := World.cell?_setCell_same _ _ _ x0
  have q1 : (W.setCell ⟨w.heap.size, 0, none⟩ a).cell? ⟨w.heap.size, 1, none⟩ = some v1 := (World.cell?_setCell_other W ⟨w.heap.size, 0, none⟩ ⟨w.heap.size, 1, none⟩ _ (by simp)).trans x1
  have q2 : (W.setCell ⟨w.heap.size, 0, none⟩ a).cell? ⟨w.heap.size, 2, none⟩ = some v2 := (World.cell?_setCell_other W ⟨w.heap.size, 0, none⟩ ⟨w.heap.size, 2, none⟩ _ (by simp)).trans x2
  have r0 := (World.cell?_setCell_other (W.setCell ⟨w.heap.size, 0, none⟩ a) ⟨w.heap.size, 1, none⟩ ⟨w.heap.size, 0, none⟩ b (by simp)).trans q0
  have r1 : ((W.setCell ⟨w.heap.size, 0, none⟩ a).setCell ⟨w.heap.size, 1, none⟩ b).cell? ⟨w.heap.size, 1, none⟩ = some b := World.cell?_setCell_same _ _ _ q1
  have r2 := (World.cell?_setCell_other (W.setCell ⟨w.heap.size, 0, none⟩ a) ⟨w.heap.size, 1, none⟩ ⟨w.heap.size, 2, none⟩ b (by simp)).trans q2
  have s0 := (World.cell?_setCell_other ((W.setCell ⟨w.heap.size, 0, none⟩ a).setCell ⟨w.heap.size, 1, none⟩ b) ⟨w.heap.size, 2, none⟩ ⟨w.heap.size, 0, none⟩ c (by simp)).trans r0
  have s1 := (World.cell?_setCell_other ((W.setCell ⟨w.heap.size, 0, none⟩ a).setCell ⟨w.heap.size, 1, none⟩ b) ⟨w.heap.size, 2, none⟩ ⟨w.heap.size, 1, none⟩ c (by simp)).trans r1
  have s2 : (((W.setCell ⟨w.heap.size, 0, none⟩ a).setCell ⟨w.heap.size, 1, none⟩ b).setCell ⟨w.heap.size, 2, none⟩ c).cell? ⟨w.heap.size, 2, none⟩ = some c := World.cell?_setCell_same _ _ _ r2
  refine ⟨((h1.setCell (Nat.le_refl _) _).setCell (Nat.le_refl _) _).setCell (Nat.le_refl _) _, ⟨⟨a, b, c, s0, s1, s2⟩, ?_, ?_, ?_⟩⟩
  all_goals
    rw [World.frozen?_setCell, World.frozen?_setCell, World.frozen?_setCell]
    assumption
theorem held_calls {f : FuncId} {args : Array Value} {v : Value} (w : World) (h : ∀ W, Calls Tryd.prog f args W fun e w' => e = .returned v ∧ Below W.heap.size W w') : ∀ W, heldF w W → Calls Tryd.prog f args W fun e w' => e = .returned v ∧ heldF w w' :=
  fun W hW => (h W).mono fun _ _ ⟨he, hb⟩ => ⟨he, held_later hW hb⟩

set_option maxRecDepth 100000 in
set_option maxHeartbeats 2000000 in
theorem rforms_any (y m d c : Nat) (hk : DayOk y m d) (hc : c < 86400) (w : World) :
    Calls Tryd.prog 25 #[.int .i64 (86400 * daysN y m d + c : Nat)] w fun e w' => e = .returned (.agg #[.string (strB (tx0 y m d c)), .string (strB (if 2069 < y then [] else tx1 y m d c)), .string (strB (tx2 y m d c))]) ∧ Below w.heap.size w w' := by
  have hy2 := hk.y2
  have hm2 := hk.m2
  have hd100 : d < 100 := by have := hk.d2; have := ml_bounds hk.y1 hk.m1 hk.m2; omega
  have hlt := days_bound hk
  have cD := fb_calls w fun W => rday_any y m d hk W
  have cW := fun W => (rweekday_any (daysN y m d : Nat) W (by omega) (by omega))
  have cN := fb_calls w fun W => rwkname_any (wdN (daysN y m d)) W (wdN_lt _)
  have cM := fb_calls w fun W => rmoname_any m W hk.m1 (by omega)
  have c1 := fb_calls w fun W => rtwo_any (c / 3600) W (by omega)
  have c2 := fb_calls w fun W => rtwo_any (c % 3600 / 60) W (by omega)
  have c3 := fb_calls w fun W => rtwo_any (c % 60) W (by omega)
  have c4 := fb_calls w fun W => rtwo_any (y / 100) W (by omega)
  have c5 := fb_calls w fun W => rtwo_any (y % 100) W (by omega)
  have c6 := fb_calls w fun W => rtwo_any d W hd100
  have k6 := held_calls w fun W => rtwo_any d W hd100
  have kM := held_calls w fun W => rmoname_any m W hk.m1 (by omega)
  have hw : (if ((daysN y m d : Nat) : Int) < 0 then (0 : Int) else (((daysN y m d : Nat) : Int) % 7 + 4) % 7) = ((wdN (daysN y m d) : Nat) : Int) := by unfold wdN; omega
  rw [hw] at cW
  rw [show ((c / 3600 : Nat) : Int) = (c : Int) / 3600 by omega] at c1
  rw [show ((c % 3600 / 60 : Nat) : Int) = (c : Int) / 60 % 60 by omega] at c2
  rw [show ((c % 60 : Nat) : Int) = (c : Int) % 60 by omega] at c3
  rw [show ((y / 100 : Nat) : Int) = (y : Int) / 100 by omega] at c4
  rw [show ((y % 100 : Nat) : Int) = (y : Int) % 100 by omega] at c5
  have z1 := pad_size 2 (c / 3600)
  have z2 := pad_size 2 (c % 3600 / 60)
  have z3 := pad_size 2 (c % 60)
  have z4 := pad_size 2 (y / 100)
  have z5 := pad_size 2 (y % 100)
  have z6 := pad_size 2 d
  have z7 := mo_size m hk.m1 hk.m2
  have z8 : 3 ≤ (strB (wkT (wdN (daysN y m d)))).size ∧ (strB (wkT (wdN (daysN y m d)))).size ≤ 9 := by rw [strB_size]; exact wk_len ⟨_, wdN_lt _⟩
  have zc := ck_size hc
  have zy := pad_size 4 y
  have zs : (strB (spT d)).size = 2 := by rw [strB_size, len_sp]
  have hK0 : FB w (w.alloc (.cells #[.string ⟨#[]⟩, .string ⟨#[]⟩, .string ⟨#[]⟩] 41)) := Below.refl _ _
  have hCK : strB (padL 2 (c / 3600)) ++ ⟨#[58]⟩ ++ strB (padL 2 (c % 3600 / 60)) ++ ⟨#[58]⟩ ++ strB (padL 2 (c % 60)) = strB (ckT c) := by
    refine eq_strB ?_
    simp only [append_data, strB_data, ckT, List.append_assoc]
  have hYY : strB (padL 2 (y / 100)) ++ strB (padL 2 (y % 100)) = strB (padL 4 y) := by
    rw [strB_append]
    congr 1
    simp only [padL, List.nil_append, List.append_assoc]
    rw [show y / 10 / 10 / 10 = y / 100 / 10 by omega, show y / 10 / 10 = y / 100 by omega]
    have e1 : digC (y % 100 / 10) = digC (y / 10) := by unfold digC; rw [show y % 100 / 10 % 10 = y / 10 % 10 by omega]
    have e2 : digC (y % 100) = digC y := by unfold digC; rw [show y % 100 % 10 = y % 10 by omega]
    rw [e1, e2]
  have hT0 : strB (tx0 y m d c) = (strB (wkT (wdN (daysN y m d)))).extract 0 3 ++ ⟨#[44, 32]⟩ ++ strB (padL 2 d) ++ ⟨#[32]⟩ ++ strB (moT m) ++ ⟨#[32]⟩ ++ strB (padL 4 y) ++ ⟨#[32]⟩ ++ strB (ckT c) ++ ⟨#[32, 71, 77, 84]⟩ := by
    rw [strB_take]
    refine (eq_strB ?_).symm
    simp only [append_data, strB_data, tx0, wsT, List.append_assoc]
  have hT1 : strB (tx1 y m d c) = strB (wkT (wdN (daysN y m d))) ++ ⟨#[44, 32]⟩ ++ strB (padL 2 d) ++ ⟨#[45]⟩ ++ strB (moT m) ++ ⟨#[45]⟩ ++ strB (padL 2 (y % 100)) ++ ⟨#[32]⟩ ++ strB (ckT c) ++ ⟨#[32, 71, 77, 84]⟩ := by
    refine (eq_strB ?_).symm
    simp only [append_data, strB_data, tx1, List.append_assoc]
  have hT2 : strB (tx2 y m d c) = (strB (wkT (wdN (daysN y m d)))).extract 0 3 ++ ⟨#[32]⟩ ++ strB (moT m) ++ ⟨#[32]⟩ ++ strB (spT d) ++ ⟨#[32]⟩ ++ strB (ckT c) ++ ⟨#[32]⟩ ++ strB (padL 4 y) := by
    rw [strB_take]
    refine (eq_strB ?_).symm
    simp only [append_data, strB_data, tx2, wsT, List.append_assoc]
  have hS1 : d < 10 → ⟨#[32]⟩ ++ (strB (padL 2 d)).extract 1 2 = strB (spT d) := by
    intro h
    unfold spT
    rw [if_pos h, strB_drop _ 1 2 (by rw [padL_length]), ← strB_append]
    rfl
  have hS2 : ¬ d < 10 → strB (padL 2 d) = strB (spT d) := by
    intro h
    unfold spT
    rw [if_neg h]
  have hif : strB (if 2069 < y then [] else tx1 y m d c) = if 2069 < y then ⟨#[]⟩ else strB (tx1 y m d c) := by split <;> rfl
  rw [hif]
  have HT0 := Lib.hid hT0
  have HT2 := Lib.hid hT2
  have HTy : Hid (2069 < y → (if 2069 < y then (⟨#[]⟩ : ByteArray) else strB (tx1 y m d c)) = ⟨#[]⟩) := Lib.hid fun h => if_pos h
  have HTn : Hid (¬ 2069 < y → (if 2069 < y then (⟨#[]⟩ : ByteArray) else strB (tx1 y m d c)) = strB (wkT (wdN (daysN y m d))) ++ ⟨#[44, 32]⟩ ++ strB (padL 2 d) ++ ⟨#[45]⟩ ++ strB (moT m) ++ ⟨#[45]⟩ ++ strB (padL 2 (y % 100)) ++ ⟨#[32]⟩ ++ strB (ckT c) ++ ⟨#[32, 71, 77, 84]⟩) := Lib.hid fun h => (if_neg h).trans hT1
  clear hw hk hT0 hT1 hT2 hif
  generalize (if 2069 < y then (⟨#[]⟩ : ByteArray) else strB (tx1 y m d c)) = T1 at *
  generalize strB (tx0 y m d c) = T0 at *
  generalize strB (tx2 y m d c) = T2 at *
  generalize strB (padL 2 (c / 3600)) = A1 at *
  generalize strB (padL 2 (c % 3600 / 60)) = A2 at *
  generalize strB (padL 2 (c % 60)) = A3 at *
  generalize strB (padL 2 (y / 100)) = Y1 at *
  generalize strB (padL 2 (y % 100)) = Y2 at *
  generalize strB (padL 2 d) = D at *
  generalize strB (spT d) = S at *
  generalize strB (moT m) = M at *
  generalize strB (padL 4 y) = Y at *
  generalize strB (ckT c) = C at *
  generalize strB (wkT (wdN (daysN y m d))) = N at *
  generalize wdN (daysN y m d) = wd at *
  generalize daysN y m d = K at *
  generalize hN : 86400 * K + c = n at *
  have e1 : (n : Int) / 86400 = (K : Int) := by omega
  have e2 : (n : Int) % 86400 = (c : Int) := by omega
  clear hN
  obtain ⟨z8, z9⟩ := z8
  go_enter Tryd.func25, Tryd.ntmps25
  go_wp2_with fail
  refine (cD _ hK0).mono ?_
  rintro e w1 ⟨rfl, hK1⟩
  clear hK0 cD
  go_wp2_with fail
  refine (cW _).mono ?_
  rintro e w2 ⟨rfl, rfl⟩
  clear cW
  go_wp2_with fail
  refine (cN _ hK1).mono ?_
  rintro e w2 ⟨rfl, hK2⟩
  clear hK1 cN
  go_wp2_with fail
  refine (c1 _ hK2).mono ?_
  rintro e w3 ⟨rfl, hK3⟩
  clear hK2 c1
  go_wp2_with fail
  refine (c2 _ hK3).mono ?_
  rintro e w4 ⟨rfl, hK4⟩
  clear hK3 c2
  go_wp2_with fail
  refine (c3 _ hK4).mono ?_
  rintro e w5 ⟨rfl, hK5⟩
  clear hK4 c3
  go_wp2_with fail
  refine (c4 _ hK5).mono ?_
  rintro e w6 ⟨rfl, hK6⟩
  clear hK5 c4
  go_wp2_with fail
  refine (c5 _ hK6).mono ?_
  rintro e w7 ⟨rfl, hK7⟩
  clear hK6
  go_wp2_with fail
  refine (c6 _ hK7).mono ?_
  rintro e w8 ⟨rfl, hK8⟩
  clear hK7
  by_cases h10 : d < 10
  · have d10 : decide ((d : Int) < 10) = true := by simp; omega
    have hS := hS1 h10
    clear hS1 hS2 h10
    by_cases h69 : 2069 < y
    · have d69 : decide ((y : Int) > 2069) = true := by simp; omega
      have HT1 := Lib.hid (HTy.out h69)
      clear h69 HTy HTn
      go_wp2_with fail
      refine (c6 _ hK8).mono ?_
      rintro e w9 ⟨rfl, hK9⟩
      clear hK8
      go_wp2_with fail
      refine (cM _ hK9).mono ?_
      rintro e w10 ⟨rfl, hK10⟩
      clear hK9
      go_wp2_with fail
      refine (c5 _ hK10).mono ?_
      rintro e w11 ⟨rfl, hK11⟩
      clear hK10 c5
      go_wp2_with fail
      have hH := hK11.drew.held
      have zI : (3 : Int) ≤ (N.size : Int) := by omega
      clear hK11 c6 cM
      go_region_held3 (fun W => Below w.heap.size w W ∧ H3 W w.heap.size) (first | assumption | exact held_st (by assumption) _ _ _ | go_keep)
        (first | (go_at_call 33; refine (k6 _ (by assumption)).mono ?_; rintro e w' ⟨rfl, hh⟩; obtain ⟨⟨v0, v1, v2, x0, x1, x2⟩, x3, x4, x5⟩ := hh.2) | (go_at_call 34; refine (kM _ (by assumption)).mono ?_; rintro e w' ⟨rfl, hh⟩; obtain ⟨⟨v0, v1, v2, x0, x1, x2⟩, x3, x4, x5⟩ := hh.2))
      all_goals go_wp2_with fail
      all_goals exact bodyPost_ret (v := .agg #[.string T0, .string T1, .string T2]) (by simp [results, Tryd.results25, go_sem, x0, x1, x2]; exact ⟨HT0.out.symm, HT1.out.symm, HT2.out.symm⟩) rfl ⟨rfl, (held_st (W := _) (by assumption) _ _ _).1⟩
    · have d69 : decide ((y : Int) > 2069) = false := by simp; omega
      have HT1 := Lib.hid (HTn.out h69)
      clear h69 HTy HTn
      go_wp2_with fail
      refine (c6 _ hK8).mono ?_
      rintro e w9 ⟨rfl, hK9⟩
      clear hK8
      go_wp2_with fail
      refine (cM _ hK9).mono ?_
      rintro e w10 ⟨rfl, hK10⟩
      clear hK9
      go_wp2_with fail
      refine (c5 _ hK10).mono ?_
      rintro e w11 ⟨rfl, hK11⟩
      clear hK10 c5
      go_wp2_with fail
      have hH := hK11.drew.held
      have zI : (3 : Int) ≤ (N.size : Int) := by omega
      clear hK11 c6 cM
      go_region_held3 (fun W => Below w.heap.size w W ∧ H3 W w.heap.size) (first | assumption | exact held_st (by assumption) _ _ _ | go_keep)
        (first | (go_at_call 33; refine (k6 _ (by assumption)).mono ?_; rintro e w' ⟨rfl, hh⟩; obtain ⟨⟨v0, v1, v2, x0, x1, x2⟩, x3, x4, x5⟩ := hh.2) | (go_at_call 34; refine (kM _ (by assumption)).mono ?_; rintro e w' ⟨rfl, hh⟩; obtain ⟨⟨v0, v1, v2, x0, x1, x2⟩, x3, x4, x5⟩ := hh.2))
      all_goals go_wp2_with fail
      all_goals exact bodyPost_ret (v := .agg #[.string T0, .string T1, .string T2]) (by simp [results, Tryd.results25, go_sem, x0, x1, x2]; exact ⟨HT0.out.symm, HT1.out.symm, HT2.out.symm⟩) rfl ⟨rfl, (held_st (W := _) (by assumption) _ _ _).1⟩
  · have d10 : decide ((d : Int) < 10) = false := by simp; omega
    have hS := hS2 h10
    clear hS1 hS2 h10
    subst hS
    by_cases h69 : 2069 < y
    · have d69 : decide ((y : Int) > 2069) = true := by simp; omega
      have HT1 := Lib.hid (HTy.out h69)
      clear h69 HTy HTn
      go_wp2_with fail
      refine (c6 _ hK8).mono ?_
      rintro e w9 ⟨rfl, hK9⟩
      clear hK8
      go_wp2_with fail
      refine (cM _ hK9).mono ?_
      rintro e w10 ⟨rfl, hK10⟩
      clear hK9
      go_wp2_with fail
      refine (c5 _ hK10).mono ?_
      rintro e w11 ⟨rfl, hK11⟩
      clear hK10 c5
      go_wp2_with fail
      have hH := hK11.drew.held
      have zI : (3 : Int) ≤ (N.size : Int) := by omega
      clear hK11 c6 cM
      go_region_held3 (fun W => Below w.heap.size w W ∧ H3 W w.heap.size) (first | assumption | exact held_st (by assumption) _ _ _ | go_keep)
        (first | (go_at_call 33; refine (k6 _ (by assumption)).mono ?_; rintro e w' ⟨rfl, hh⟩; obtain ⟨⟨v0, v1, v2, x0, x1, x2⟩, x3, x4, x5⟩ := hh.2) | (go_at_call 34; refine (kM _ (by assumption)).mono ?_; rintro e w' ⟨rfl, hh⟩; obtain ⟨⟨v0, v1, v2, x0, x1, x2⟩, x3, x4, x5⟩ := hh.2))
      all_goals go_wp2_with fail
      all_goals exact bodyPost_ret (v := .agg #[.string T0, .string T1, .string T2]) (by simp [results, Tryd.results25, go_sem, x0, x1, x2]; exact ⟨HT0.out.symm, HT1.out.symm, HT2.out.symm⟩) rfl ⟨rfl, (held_st (W := _) (by assumption) _ _ _).1⟩
    · have d69 : decide ((y : Int) > 2069) = false := by simp; omega
      have HT1 := Lib.hid (HTn.out h69)
      clear h69 HTy HTn
      go_wp2_with fail
      refine (c6 _ hK8).mono ?_
      rintro e w9 ⟨rfl, hK9⟩
      clear hK8
      go_wp2_with fail
      refine (cM _ hK9).mono ?_
      rintro e w10 ⟨rfl, hK10⟩
      clear hK9
      go_wp2_with fail
      refine (c5 _ hK10).mono ?_
      rintro e w11 ⟨rfl, hK11⟩
      clear hK10 c5
      go_wp2_with fail
      have hH := hK11.drew.held
      have zI : (3 : Int) ≤ (N.size : Int) := by omega
      clear hK11 c6 cM
      go_region_held3 (fun W => Below w.heap.size w W ∧ H3 W w.heap.size) (first | assumption | exact held_st (by assumption) _ _ _ | go_keep)
        (first | (go_at_call 33; refine (k6 _ (by assumption)).mono ?_; rintro e w' ⟨rfl, hh⟩; obtain ⟨⟨v0, v1, v2, x0, x1, x2⟩, x3, x4, x5⟩ := hh.2) | (go_at_call 34; refine (kM _ (by assumption)).mono ?_; rintro e w' ⟨rfl, hh⟩; obtain ⟨⟨v0, v1, v2, x0, x1, x2⟩, x3, x4, x5⟩ := hh.2))
      all_goals go_wp2_with fail
      all_goals exact bodyPost_ret (v := .agg #[.string T0, .string T1, .string T2]) (by simp [results, Tryd.results25, go_sem, x0, x1, x2]; exact ⟨HT0.out.symm, HT1.out.symm, HT2.out.symm⟩) rfl ⟨rfl, (held_st (W := _) (by assumption) _ _ _).1⟩

end Go.Proofs.YtfabkceefigmhaaDoor
