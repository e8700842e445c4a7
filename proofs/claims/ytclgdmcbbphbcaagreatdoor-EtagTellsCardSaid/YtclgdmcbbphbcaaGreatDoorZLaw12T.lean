/- The walk of the law EtagTells. -/
import Derived.Test.YtclgdmcbbphbcaaGreatDoorZMEvF
import Derived.Test.YtclgdmcbbphbcaaGreatDoorZMEuI
import Derived.Test.YtclgdmcbbphbcaaGreatDoorZMEuO
import Derived.Test.YtclgdmcbbphbcaaGreatDoorZMEuA
import Derived.Test.YtclgdmcbbphbcaaGreatDoorZMEvR
import Derived.Test.YtclgdmcbbphbcaaGreatDoorZMEvC
import Derived.Test.YtclgdmcbbphbcaaGreatDoorZMSizA
import Derived.Test.YtclgdmcbbphbcaaGreatDoorZDirS
import Derived.Deep.RegionHeld3

namespace Go.Proofs.YtclgdmcbbphbcaaGreatDoor
open Go.RowKit Go.Shelf Go.Lib

def belowT (w W : World) : Prop := Below w.heap.size w W
theorem cellT_next {W W1 : World} {c o : Nat} {v : Value} (hb : Below W.heap.size W W1) (h : W.cell? ⟨c, o, none⟩ = some v) : W1.cell? ⟨c, o, none⟩ = some v := (hb.cell (p := ⟨c, o, none⟩) (lt_of_cell h)).trans h
/-- What the statement on likeness reads, as long as it calls. -/
abbrev simC (w W : World) (P C D : Nat) (x0 x1 x2 x3 : Value) : Prop :=
  W.cell? ⟨P, 0, none⟩ = some x0 ∧ W.cell? ⟨P, 1, none⟩ = some x1 ∧ W.cell? ⟨P, 2, none⟩ = some x2 ∧ W.cell? ⟨P, 3, none⟩ = some x3 ∧ W.cell? ⟨C, 0, none⟩ = some x0 ∧ W.cell? ⟨C, 1, none⟩ = some x1 ∧ W.cell? ⟨D, 0, none⟩ = some x2 ∧ W.cell? ⟨D, 1, none⟩ = some x3 ∧ belowT w W
theorem simC_next {w W W1 : World} {P C D : Nat} {x0 x1 x2 x3 : Value} (hb : Below W.heap.size W W1) (h : simC w W P C D x0 x1 x2 x3) : simC w W1 P C D x0 x1 x2 x3 := by
  obtain ⟨h0, h1, h2, h3, h4, h5, h6, h7, hB⟩ := h
  exact ⟨cellT_next hb h0, cellT_next hb h1, cellT_next hb h2, cellT_next hb h3, cellT_next hb h4, cellT_next hb h5, cellT_next hb h6, cellT_next hb h7, Below.trans hB (hb.mono (Below.size hB))⟩
/-- What the law's last statement reads, as long as it calls. -/
abbrev lasC (w W : World) (P C D : Nat) (x0 x1 y0 y1 : Value) : Prop :=
  W.cell? ⟨P, 0, none⟩ = some x0 ∧ W.cell? ⟨P, 1, none⟩ = some x1 ∧ W.cell? ⟨C, 0, none⟩ = some x0 ∧ W.cell? ⟨C, 1, none⟩ = some x1 ∧ W.cell? ⟨D, 0, none⟩ = some y0 ∧ W.cell? ⟨D, 1, none⟩ = some y1 ∧ belowT w W
theorem lasC_next {w W W1 : World} {P C D : Nat} {x0 x1 y0 y1 : Value} (hb : Below W.heap.size W W1) (h : lasC w W P C D x0 x1 y0 y1) : lasC w W1 P C D x0 x1 y0 y1 := by
  obtain ⟨h0, h1, h2, h3, h4, h5, hB⟩ := h
  exact ⟨cellT_next hb h0, cellT_next hb h1, cellT_next hb h2, cellT_next hb h3, cellT_next hb h4, cellT_next hb h5, Below.trans hB (hb.mono (Below.size hB))⟩
theorem drewT (W : World) : Below W.heap.size W W.drew := (Below.refl _ _).drew

theorem prV_form (o : Option Tg) : ∃ (b : Bool) (X : ByteArray) (k : Int), prV o = .tuple #[.agg #[.bool b, .string X], .int .i64 k] := by
  cases o with
  | none => exact ⟨_, _, _, rfl⟩
  | some t => exact ⟨_, _, _, rfl⟩
theorem txV_form (t : Tg) : ∃ (X : ByteArray) (k : Int), txV t = .tuple #[.string X, .int .i64 k] := by
  unfold txV
  split
  · exact ⟨_, _, rfl⟩
  · exact ⟨_, _, rfl⟩
/-- What List answers, in one form. -/
theorem ls_form (o : Option (List Tg × Bool)) : ∃ (xs : List Tg) (b : Bool) (k : Int), (∀ n, (∀ ys st, o = some (ys, st) → ys.length ≤ n) → xs.length ≤ n) ∧ ∀ w e w', lsPost o w e w' → Below w.heap.size w w' ∧ ∃ u, e = .returned (.tuple #[u, .bool b, .int .i64 k]) ∧ Tags w.heap.size w' u xs := by
  cases o with
  | none => exact ⟨[], false, 2, fun n _ => Nat.zero_le _, fun w e w' h => ⟨h.1, _, h.2, Tags.nothing _ _⟩⟩
  | some x =>
    obtain ⟨xs, st⟩ := x
    exact ⟨xs, st, 0, fun n h => h xs st rfl, fun w e w' h => h⟩

set_option maxRecDepth 100000 in
set_option maxHeartbeats 8000000 in
theorem etells_walk (s : ByteArray) (a b : Tg) (u0 u1 : Value) (f g : List Fld) (w : World) (_ : s.size ≤ maxLen) (hka : a.2.length ≤ 140737488355328) (hkb : b.2.length ≤ 140737488355328) (hF : Flds 0 w u0 f) (hf : FldsIn f) (hG : Flds 0 w u1 g) (hg : FldsIn g) (hC : Cal w) :
    Calls Tryz.prog 3 #[.string s, .agg #[.bool a.1, .string (strB a.2), .bool b.1, .string (strB b.2)], .agg #[u0, u1]] w fun e w' => e = .returned (.bool true) ∧ Below w.heap.size w w' := by
  have HC := Lib.hid hC
  have HF := Lib.hid hF
  have HG := Lib.hid hG
  have cA := fun W (hb : Below w.heap.size w W) => awake12_any W (Cal.below HC.out hb)
  have cS0 := fun W (hb : Below w.heap.size w W) => rsize_any 0 u0 f W (HF.out.below hb) hf
  have cS1 := fun W (hb : Below w.heap.size w W) => rsize_any 0 u1 g W (HG.out.below hb) hg
  have hza : (strB a.2).size = a.2.length := strB_size _
  have hzb : (strB b.2).size = b.2.length := strB_size _
  obtain ⟨ao, ac, rfl, _⟩ := id hF
  obtain ⟨bo, bc, rfl, _⟩ := id hG
  obtain ⟨aw, at'⟩ := a
  obtain ⟨bw, bt⟩ := b
  dsimp only at hka hkb hza hzb ⊢
  generalize hA : strB at' = A at *
  generalize hB : strB bt = B at *
  have HA := Lib.hid hA
  have HBt := Lib.hid hB
  clear hA hB hF hG hC
  have HB0 := Lib.hid (((Below.refl w.heap.size w).alloc (Nat.le_refl _) (.cells #[.bool aw, .string A, .bool bw, .string B] 24)).alloc (by simp) (.cells #[.slice ao f.length ac, .slice bo g.length bc] 26))
  have HT0 := Lib.hid ((BoxN.made w [.bool aw, .string A, .bool bw, .string B] 24).next ((Below.refl _ _).alloc (Nat.le_refl _) (.cells #[.slice ao f.length ac, .slice bo g.length bc] 26)))
  have HN0 : Hid (BoxN ((w.alloc (.cells #[.bool aw, .string A, .bool bw, .string B] 24)).alloc (.cells #[.slice ao f.length ac, .slice bo g.length bc] 26)) (w.heap.size + 1) [.slice ao f.length ac, .slice bo g.length bc]) := Lib.hid (by
    have h := BoxN.made (w.alloc (.cells #[.bool aw, .string A, .bool bw, .string B] 24)) [.slice ao f.length ac, .slice bo g.length bc] 26
    rw [show (w.alloc (.cells #[.bool aw, .string A, .bool bw, .string B] 24)).heap.size = w.heap.size + 1 by simp] at h
    exact h)
  by_cases d1 : 500 < s.size
  · have g1 : (500 : Int) < (s.size : Int) := by omega
    clear hza hzb
    go_enter Tryz.func3, Tryz.ntmps3
    go_wp2_with fail
    refine (cA _ HB0.out).mono ?_
    rintro e w1 ⟨rfl, hb⟩
    have HT := Lib.hid (HT0.out.next hb)
    have HN := Lib.hid (HN0.out.next hb)
    have HB := Lib.hid (HB0.out.trans (hb.mono HB0.out.size))
    clear hb cA
    have x0 := (HT.out.2 0 _ rfl).1
    have x1 := (HT.out.2 1 _ rfl).1
    have x2 := (HT.out.2 2 _ rfl).1
    have x3 := (HT.out.2 3 _ rfl).1
    have y0 := (HN.out.2 0 _ rfl).1
    have y1 := (HN.out.2 1 _ rfl).1
    go_wp2_with fail
    go_ret
    exact ⟨rfl, HB.out⟩
  have g1 : ¬ (500 : Int) < (s.size : Int) := by omega
  by_cases d2 : 200 < A.size
  · have g2 : (200 : Int) < (A.size : Int) := by omega
    clear hza hzb
    go_enter Tryz.func3, Tryz.ntmps3
    go_wp2_with fail
    refine (cA _ HB0.out).mono ?_
    rintro e w1 ⟨rfl, hb⟩
    have HT := Lib.hid (HT0.out.next hb)
    have HN := Lib.hid (HN0.out.next hb)
    have HB := Lib.hid (HB0.out.trans (hb.mono HB0.out.size))
    clear hb cA
    have x0 := (HT.out.2 0 _ rfl).1
    have x1 := (HT.out.2 1 _ rfl).1
    have x2 := (HT.out.2 2 _ rfl).1
    have x3 := (HT.out.2 3 _ rfl).1
    have y0 := (HN.out.2 0 _ rfl).1
    have y1 := (HN.out.2 1 _ rfl).1
    go_wp2_with fail
    go_ret
    exact ⟨rfl, HB.out⟩
  have g2 : ¬ (200 : Int) < (A.size : Int) := by omega
  by_cases d3 : 200 < B.size
  · have g3 : (200 : Int) < (B.size : Int) := by omega
    clear hza hzb
    go_enter Tryz.func3, Tryz.ntmps3
    go_wp2_with fail
    refine (cA _ HB0.out).mono ?_
    rintro e w1 ⟨rfl, hb⟩
    have HT := Lib.hid (HT0.out.next hb)
    have HN := Lib.hid (HN0.out.next hb)
    have HB := Lib.hid (HB0.out.trans (hb.mono HB0.out.size))
    clear hb cA
    have x0 := (HT.out.2 0 _ rfl).1
    have x1 := (HT.out.2 1 _ rfl).1
    have x2 := (HT.out.2 2 _ rfl).1
    have x3 := (HT.out.2 3 _ rfl).1
    have y0 := (HN.out.2 0 _ rfl).1
    have y1 := (HN.out.2 1 _ rfl).1
    go_wp2_with fail
    go_ret
    exact ⟨rfl, HB.out⟩
  have g3 : ¬ (200 : Int) < (B.size : Int) := by omega
  have hka2 : at'.length ≤ 100000 := by omega
  clear hza hzb
  by_cases d4 : 2000 < szH 0 f
  · have g4 : (2000 : Int) < ((szH 0 f : Nat) : Int) := by omega
    generalize szH 0 f = Y at *
    go_enter Tryz.func3, Tryz.ntmps3
    go_wp2_with fail
    refine (cA _ HB0.out).mono ?_
    rintro e w1 ⟨rfl, hb⟩
    have HT := Lib.hid (HT0.out.next hb)
    have HN := Lib.hid (HN0.out.next hb)
    have HB := Lib.hid (HB0.out.trans (hb.mono HB0.out.size))
    clear hb cA
    have x0 := (HT.out.2 0 _ rfl).1
    have x1 := (HT.out.2 1 _ rfl).1
    have x2 := (HT.out.2 2 _ rfl).1
    have x3 := (HT.out.2 3 _ rfl).1
    have y0 := (HN.out.2 0 _ rfl).1
    have y1 := (HN.out.2 1 _ rfl).1
    go_wp2_with fail
    refine (cS0 _ HB.out).mono ?_
    rintro e w2 ⟨rfl, hb⟩
    clear x0 x1 x2 x3 y0 y1
    have HT := Lib.hid (HT.out.next hb)
    have HN := Lib.hid (HN.out.next hb)
    have HB := Lib.hid (HB.out.trans (hb.mono HB.out.size))
    clear hb
    have x0 := (HT.out.2 0 _ rfl).1
    have x1 := (HT.out.2 1 _ rfl).1
    have x2 := (HT.out.2 2 _ rfl).1
    have x3 := (HT.out.2 3 _ rfl).1
    have y0 := (HN.out.2 0 _ rfl).1
    have y1 := (HN.out.2 1 _ rfl).1
    go_wp2_with fail
    go_ret
    exact ⟨rfl, HB.out⟩
  have g4 : ¬ (2000 : Int) < ((szH 0 f : Nat) : Int) := by omega
  by_cases d5 : 2000 < szH 0 g
  · have g5 : (2000 : Int) < ((szH 0 g : Nat) : Int) := by omega
    generalize szH 0 f = Y at *
    generalize szH 0 g = Z at *
    go_enter Tryz.func3, Tryz.ntmps3
    go_wp2_with fail
    refine (cA _ HB0.out).mono ?_
    rintro e w1 ⟨rfl, hb⟩
    have HT := Lib.hid (HT0.out.next hb)
    have HN := Lib.hid (HN0.out.next hb)
    have HB := Lib.hid (HB0.out.trans (hb.mono HB0.out.size))
    clear hb cA
    have x0 := (HT.out.2 0 _ rfl).1
    have x1 := (HT.out.2 1 _ rfl).1
    have x2 := (HT.out.2 2 _ rfl).1
    have x3 := (HT.out.2 3 _ rfl).1
    have y0 := (HN.out.2 0 _ rfl).1
    have y1 := (HN.out.2 1 _ rfl).1
    go_wp2_with fail
    refine (cS0 _ HB.out).mono ?_
    rintro e w2 ⟨rfl, hb⟩
    clear x0 x1 x2 x3 y0 y1
    have HT := Lib.hid (HT.out.next hb)
    have HN := Lib.hid (HN.out.next hb)
    have HB := Lib.hid (HB.out.trans (hb.mono HB.out.size))
    clear hb
    have x0 := (HT.out.2 0 _ rfl).1
    have x1 := (HT.out.2 1 _ rfl).1
    have x2 := (HT.out.2 2 _ rfl).1
    have x3 := (HT.out.2 3 _ rfl).1
    have y0 := (HN.out.2 0 _ rfl).1
    have y1 := (HN.out.2 1 _ rfl).1
    go_wp2_with fail
    refine (cS1 _ HB.out).mono ?_
    rintro e w3 ⟨rfl, hb⟩
    clear x0 x1 x2 x3 y0 y1
    have HT := Lib.hid (HT.out.next hb)
    have HN := Lib.hid (HN.out.next hb)
    have HB := Lib.hid (HB.out.trans (hb.mono HB.out.size))
    clear hb
    have x0 := (HT.out.2 0 _ rfl).1
    have x1 := (HT.out.2 1 _ rfl).1
    have x2 := (HT.out.2 2 _ rfl).1
    have x3 := (HT.out.2 3 _ rfl).1
    have y0 := (HN.out.2 0 _ rfl).1
    have y1 := (HN.out.2 1 _ rfl).1
    go_wp2_with fail
    go_ret
    exact ⟨rfl, HB.out⟩
  have g5 : ¬ (2000 : Int) < ((szH 0 g : Nat) : Int) := by omega
  obtain ⟨hfo, hfp⟩ := szH_ok f (by omega)
  obtain ⟨hgo, hgp⟩ := szH_ok g (by omega)
  have cP := fun W => eparse_any s W (by omega)
  have cP2 := fun W => uparse_any s W (by omega)
  obtain ⟨pw, PX, pk, hPF⟩ := prV_form (prsE s.data.toList)
  rw [hPF] at cP cP2
  have cL := fun W => elist_any s W (by omega)
  have cL2 := fun W => ulist_any s W (by omega)
  obtain ⟨xs, xb, xk, hxl, hLF⟩ := ls_form (lstE s.data.toList)
  have hxl := hxl 500 (fun ys st h => by
    have h1 := lstE_len h
    rw [← Lib.size_eq] at h1
    omega)
  have cO := fun v W (h : Tags 0 W v xs) => eown_any 0 v xs W h (by omega)
  have cSm := fun v1 v2 W (h1 : Tags 0 W v1 xs) (h2 : Tags 0 W v2 xs) => esame_any 0 v1 v2 xs xs W h1 h2 (by omega)
  rw [decide_eq_true rfl] at cSm
  have cT := fun W => eprint_any aw at' W hka
  have cT2 := fun W => uprint_any aw at' W hka2
  obtain ⟨TX, tk, hTF⟩ := txV_form (aw, at')
  rw [hTF, HA.out] at cT cT2
  have cK := fun st W => elike_any (aw, at') (bw, bt) st W
  have cK2 := fun st W => ulike_any (aw, at') (bw, bt) st W
  simp only [tgV] at cK cK2
  rw [HA.out, HBt.out] at cK cK2
  obtain ⟨LK, hLK⟩ : ∃ LK : Bool → Bool, ∀ st, likE (aw, at') (bw, bt) st = LK st := ⟨_, fun _ => rfl⟩
  simp only [hLK] at cK cK2
  have cH := fun W (hb : Below w.heap.size w W) => eheld_any 0 0 (.slice ao f.length ac) (.slice bo g.length bc) f g W (HF.out.below hb) (HG.out.below hb) hfo hgo (fun n => Nat.le_trans (join_small f n) (by omega)) (fun n => Nat.le_trans (join_small g n) (by omega)) (Cal.below HC.out hb)
  have cG := fun W (hb : Below w.heap.size w W) => uheld_any 0 0 (.slice ao f.length ac) (.slice bo g.length bc) f g W (HF.out.below hb) (HG.out.below hb) hfo hgo (fun n => Nat.le_trans (join_small f n) (by omega)) (fun n => Nat.le_trans (join_small g n) (by omega))
  generalize heldE f g = HDV at *
  generalize lstE s.data.toList = LO at *
  generalize szH 0 f = Y at *
  generalize szH 0 g = Z at *
  clear hfo hgo hfp hgp hPF hTF hLK hxl hka2 d1 d2 d3 d4 d5
  go_enter Tryz.func3, Tryz.ntmps3
  go_wp2_with fail
  refine (cA _ HB0.out).mono ?_
  rintro e w1 ⟨rfl, hb⟩
  have HT := Lib.hid (HT0.out.next hb)
  have HN := Lib.hid (HN0.out.next hb)
  have HB := Lib.hid (HB0.out.trans (hb.mono HB0.out.size))
  clear hb cA
  have x0 := (HT.out.2 0 _ rfl).1
  have x1 := (HT.out.2 1 _ rfl).1
  have x2 := (HT.out.2 2 _ rfl).1
  have x3 := (HT.out.2 3 _ rfl).1
  have y0 := (HN.out.2 0 _ rfl).1
  have y1 := (HN.out.2 1 _ rfl).1
  go_wp2_with fail
  refine (cS0 _ HB.out).mono ?_
  rintro e w2 ⟨rfl, hb⟩
  clear x0 x1 x2 x3 y0 y1
  have HT := Lib.hid (HT.out.next hb)
  have HN := Lib.hid (HN.out.next hb)
  have HB := Lib.hid (HB.out.trans (hb.mono HB.out.size))
  clear hb
  have x0 := (HT.out.2 0 _ rfl).1
  have x1 := (HT.out.2 1 _ rfl).1
  have x2 := (HT.out.2 2 _ rfl).1
  have x3 := (HT.out.2 3 _ rfl).1
  have y0 := (HN.out.2 0 _ rfl).1
  have y1 := (HN.out.2 1 _ rfl).1
  go_wp2_with fail
  refine (cS1 _ HB.out).mono ?_
  rintro e w3 ⟨rfl, hb⟩
  clear x0 x1 x2 x3 y0 y1
  have HT := Lib.hid (HT.out.next hb)
  have HN := Lib.hid (HN.out.next hb)
  have HB := Lib.hid (HB.out.trans (hb.mono HB.out.size))
  clear hb
  have x0 := (HT.out.2 0 _ rfl).1
  have x1 := (HT.out.2 1 _ rfl).1
  have x2 := (HT.out.2 2 _ rfl).1
  have x3 := (HT.out.2 3 _ rfl).1
  have y0 := (HN.out.2 0 _ rfl).1
  have y1 := (HN.out.2 1 _ rfl).1
  clear cS0 cS1
  go_wp2_with fail
  refine (cP _).mono ?_
  rintro e w4 ⟨rfl, hb⟩
  clear x0 x1 x2 x3 y0 y1
  have HT := Lib.hid (HT.out.next hb)
  have HN := Lib.hid (HN.out.next hb)
  have HB := Lib.hid (HB.out.trans (hb.mono HB.out.size))
  clear hb
  have x0 := (HT.out.2 0 _ rfl).1
  have x1 := (HT.out.2 1 _ rfl).1
  have x2 := (HT.out.2 2 _ rfl).1
  have x3 := (HT.out.2 3 _ rfl).1
  have y0 := (HN.out.2 0 _ rfl).1
  have y1 := (HN.out.2 1 _ rfl).1
  have hb := (Below.refl w4.heap.size w4).alloc (Nat.le_refl _) (.cells #[.bool pw, .string PX] 23)
  have H1 := Lib.hid (BoxN.made w4 [.bool pw, .string PX] 23)
  clear x0 x1 x2 x3 y0 y1
  have HT := Lib.hid (HT.out.next hb)
  have HN := Lib.hid (HN.out.next hb)
  have HB := Lib.hid (HB.out.trans (hb.mono HB.out.size))
  clear hb
  have x0 := (HT.out.2 0 _ rfl).1
  have x1 := (HT.out.2 1 _ rfl).1
  have x2 := (HT.out.2 2 _ rfl).1
  have x3 := (HT.out.2 3 _ rfl).1
  have y0 := (HN.out.2 0 _ rfl).1
  have y1 := (HN.out.2 1 _ rfl).1
  go_wp2_with fail
  generalize w4.alloc (.cells #[.bool pw, .string PX] 23) = W4 at *
  generalize w4.heap.size = C1 at *
  refine (cP2 _).mono ?_
  rintro e w5 ⟨rfl, hb⟩
  clear x0 x1 x2 x3 y0 y1
  have HT := Lib.hid (HT.out.next hb)
  have HN := Lib.hid (HN.out.next hb)
  have HB := Lib.hid (HB.out.trans (hb.mono HB.out.size))
  have H1 := Lib.hid (H1.out.next hb)
  clear hb
  have x0 := (HT.out.2 0 _ rfl).1
  have x1 := (HT.out.2 1 _ rfl).1
  have x2 := (HT.out.2 2 _ rfl).1
  have x3 := (HT.out.2 3 _ rfl).1
  have y0 := (HN.out.2 0 _ rfl).1
  have y1 := (HN.out.2 1 _ rfl).1
  have hb := (Below.refl w5.heap.size w5).alloc (Nat.le_refl _) (.cells #[.bool pw, .string PX] 32)
  have H2 := Lib.hid (BoxN.made w5 [.bool pw, .string PX] 32)
  clear x0 x1 x2 x3 y0 y1
  have HT := Lib.hid (HT.out.next hb)
  have HN := Lib.hid (HN.out.next hb)
  have HB := Lib.hid (HB.out.trans (hb.mono HB.out.size))
  have H1 := Lib.hid (H1.out.next hb)
  clear hb
  have x0 := (HT.out.2 0 _ rfl).1
  have x1 := (HT.out.2 1 _ rfl).1
  have x2 := (HT.out.2 2 _ rfl).1
  have x3 := (HT.out.2 3 _ rfl).1
  have y0 := (HN.out.2 0 _ rfl).1
  have y1 := (HN.out.2 1 _ rfl).1
  go_wp2_with fail
  generalize w5.alloc (.cells #[.bool pw, .string PX] 32) = W5 at *
  generalize w5.heap.size = C2 at *
  refine (cL _).mono ?_
  rintro e w6 hpost
  obtain ⟨hb, u6, rfl, hU⟩ := hLF _ _ _ hpost
  have HU := Lib.hid (hU.low (Nat.zero_le _))
  obtain ⟨uo, uc, rfl, _⟩ := hU
  clear hpost
  clear x0 x1 x2 x3 y0 y1
  have HT := Lib.hid (HT.out.next hb)
  have HN := Lib.hid (HN.out.next hb)
  have HB := Lib.hid (HB.out.trans (hb.mono HB.out.size))
  have H1 := Lib.hid (H1.out.next hb)
  have H2 := Lib.hid (H2.out.next hb)
  clear hb
  have x0 := (HT.out.2 0 _ rfl).1
  have x1 := (HT.out.2 1 _ rfl).1
  have x2 := (HT.out.2 2 _ rfl).1
  have x3 := (HT.out.2 3 _ rfl).1
  have y0 := (HN.out.2 0 _ rfl).1
  have y1 := (HN.out.2 1 _ rfl).1
  go_wp2_with fail
  refine (cL2 _).mono ?_
  rintro e w7 hpost
  obtain ⟨hb, u7, rfl, hV⟩ := hLF _ _ _ hpost
  have HV := Lib.hid (hV.low (Nat.zero_le _))
  obtain ⟨vo, vc, rfl, _⟩ := hV
  clear hpost
  clear x0 x1 x2 x3 y0 y1
  have HT := Lib.hid (HT.out.next hb)
  have HN := Lib.hid (HN.out.next hb)
  have HB := Lib.hid (HB.out.trans (hb.mono HB.out.size))
  have H1 := Lib.hid (H1.out.next hb)
  have H2 := Lib.hid (H2.out.next hb)
  have HU := Lib.hid (HU.out.below hb)
  clear hb
  have x0 := (HT.out.2 0 _ rfl).1
  have x1 := (HT.out.2 1 _ rfl).1
  have x2 := (HT.out.2 2 _ rfl).1
  have x3 := (HT.out.2 3 _ rfl).1
  have y0 := (HN.out.2 0 _ rfl).1
  have y1 := (HN.out.2 1 _ rfl).1
  go_wp2_with fail
  refine (cO _ _ HU.out).mono ?_
  rintro e w8 ⟨⟨u8, rfl, hO⟩, hb⟩
  have HO := Lib.hid (hO.low (Nat.zero_le _))
  obtain ⟨oo, oc, rfl, _⟩ := hO
  clear x0 x1 x2 x3 y0 y1
  have HT := Lib.hid (HT.out.next hb)
  have HN := Lib.hid (HN.out.next hb)
  have HB := Lib.hid (HB.out.trans (hb.mono HB.out.size))
  have H1 := Lib.hid (H1.out.next hb)
  have H2 := Lib.hid (H2.out.next hb)
  have HV := Lib.hid (HV.out.below hb)
  clear hb
  have x0 := (HT.out.2 0 _ rfl).1
  have x1 := (HT.out.2 1 _ rfl).1
  have x2 := (HT.out.2 2 _ rfl).1
  have x3 := (HT.out.2 3 _ rfl).1
  have y0 := (HN.out.2 0 _ rfl).1
  have y1 := (HN.out.2 1 _ rfl).1
  go_wp2_with fail
  refine (cSm _ _ _ HO.out HV.out).mono ?_
  rintro e w9 ⟨rfl, hb⟩
  clear x0 x1 x2 x3 y0 y1
  have HT := Lib.hid (HT.out.next hb)
  have HN := Lib.hid (HN.out.next hb)
  have HB := Lib.hid (HB.out.trans (hb.mono HB.out.size))
  have H1 := Lib.hid (H1.out.next hb)
  have H2 := Lib.hid (H2.out.next hb)
  clear hb
  have x0 := (HT.out.2 0 _ rfl).1
  have x1 := (HT.out.2 1 _ rfl).1
  have x2 := (HT.out.2 2 _ rfl).1
  have x3 := (HT.out.2 3 _ rfl).1
  have y0 := (HN.out.2 0 _ rfl).1
  have y1 := (HN.out.2 1 _ rfl).1
  clear cL cL2 cO cSm HU HV HO
  go_wp2_with fail
  refine (cT _).mono ?_
  rintro e w10 ⟨rfl, hb⟩
  clear x0 x1 x2 x3 y0 y1
  have HT := Lib.hid (HT.out.next hb)
  have HN := Lib.hid (HN.out.next hb)
  have HB := Lib.hid (HB.out.trans (hb.mono HB.out.size))
  have H1 := Lib.hid (H1.out.next hb)
  have H2 := Lib.hid (H2.out.next hb)
  clear hb
  have x0 := (HT.out.2 0 _ rfl).1
  have x1 := (HT.out.2 1 _ rfl).1
  have x2 := (HT.out.2 2 _ rfl).1
  have x3 := (HT.out.2 3 _ rfl).1
  have y0 := (HN.out.2 0 _ rfl).1
  have y1 := (HN.out.2 1 _ rfl).1
  go_wp2_with fail
  refine (cT2 _).mono ?_
  rintro e w11 ⟨rfl, hb⟩
  clear x0 x1 x2 x3 y0 y1
  have HT := Lib.hid (HT.out.next hb)
  have HN := Lib.hid (HN.out.next hb)
  have HB := Lib.hid (HB.out.trans (hb.mono HB.out.size))
  have H1 := Lib.hid (H1.out.next hb)
  have H2 := Lib.hid (H2.out.next hb)
  clear hb
  have x0 := (HT.out.2 0 _ rfl).1
  have x1 := (HT.out.2 1 _ rfl).1
  have x2 := (HT.out.2 2 _ rfl).1
  have x3 := (HT.out.2 3 _ rfl).1
  have y0 := (HN.out.2 0 _ rfl).1
  have y1 := (HN.out.2 1 _ rfl).1
  have hlt := HT.out.1
  go_wp2_with fail
  clear hlt
  have hb := (Below.refl w11.heap.size w11).alloc (Nat.le_refl _) (.cells #[.bool aw, .string A] 32)
  have H3 := Lib.hid (BoxN.made w11 [.bool aw, .string A] 32)
  clear x0 x1 x2 x3 y0 y1
  have HT := Lib.hid (HT.out.next hb)
  have HN := Lib.hid (HN.out.next hb)
  have HB := Lib.hid (HB.out.trans (hb.mono HB.out.size))
  have H1 := Lib.hid (H1.out.next hb)
  have H2 := Lib.hid (H2.out.next hb)
  clear hb
  have x0 := (HT.out.2 0 _ rfl).1
  have x1 := (HT.out.2 1 _ rfl).1
  have x2 := (HT.out.2 2 _ rfl).1
  have x3 := (HT.out.2 3 _ rfl).1
  have y0 := (HN.out.2 0 _ rfl).1
  have y1 := (HN.out.2 1 _ rfl).1
  generalize hW11 : w11.alloc (.cells #[.bool aw, .string A] 32) = W11 at *
  have hsz : w11.heap.size + 1 = W11.heap.size := by rw [← hW11]; simp
  have hb := (Below.refl W11.heap.size W11).alloc (Nat.le_refl _) (.cells #[.bool bw, .string B] 32)
  have H4 := Lib.hid (BoxN.made W11 [.bool bw, .string B] 32)
  clear x0 x1 x2 x3 y0 y1
  have HT := Lib.hid (HT.out.next hb)
  have HN := Lib.hid (HN.out.next hb)
  have HB := Lib.hid (HB.out.trans (hb.mono HB.out.size))
  have H1 := Lib.hid (H1.out.next hb)
  have H2 := Lib.hid (H2.out.next hb)
  have H3 := Lib.hid (H3.out.next hb)
  clear hb
  have x0 := (HT.out.2 0 _ rfl).1
  have x1 := (HT.out.2 1 _ rfl).1
  have x2 := (HT.out.2 2 _ rfl).1
  have x3 := (HT.out.2 3 _ rfl).1
  have y0 := (HN.out.2 0 _ rfl).1
  have y1 := (HN.out.2 1 _ rfl).1
  try rw [hsz]
  clear hsz hW11
  generalize W11.alloc (.cells #[.bool bw, .string B] 32) = W12 at *
  generalize w11.heap.size = C3 at *
  generalize W11.heap.size = C4 at *
  have hS13 : simC W12 W12.drew w.heap.size C3 C4 (.bool aw) (.string A) (.bool bw) (.string B) := simC_next (drewT W12) ⟨x0, x1, x2, x3, (H3.out.2 0 _ rfl).1, (H3.out.2 1 _ rfl).1, (H4.out.2 0 _ rfl).1, (H4.out.2 1 _ rfl).1, Below.refl _ _⟩
  have kL : ∀ st W, simC W12 W w.heap.size C3 C4 (.bool aw) (.string A) (.bool bw) (.string B) → Calls Tryz.prog 14 #[.agg #[.bool aw, .string A], .agg #[.bool bw, .string B], .bool st] W fun e W => e = .returned (.bool (LK st)) ∧ simC W12 W w.heap.size C3 C4 (.bool aw) (.string A) (.bool bw) (.string B) := fun st W h => (cK st W).mono fun e w' hh => ⟨hh.1, simC_next hh.2 h⟩
  have kR : ∀ st W, simC W12 W w.heap.size C3 C4 (.bool aw) (.string A) (.bool bw) (.string B) → Calls Tryz.prog 15 #[.agg #[.bool aw, .string A], .agg #[.bool bw, .string B], .bool st] W fun e W => e = .returned (.bool (LK st)) ∧ simC W12 W w.heap.size C3 C4 (.bool aw) (.string A) (.bool bw) (.string B) := fun st W h => (cK2 st W).mono fun e w' hh => ⟨hh.1, simC_next hh.2 h⟩
  clear cK cK2
  refine wp_region_held_drew (S := (fun W => W.cell? ⟨w.heap.size, 0, none⟩ = some (.bool aw) ∧ W.cell? ⟨w.heap.size, 1, none⟩ = some (.string A) ∧ W.cell? ⟨w.heap.size, 2, none⟩ = some (.bool bw) ∧ W.cell? ⟨w.heap.size, 3, none⟩ = some (.string B) ∧ W.cell? ⟨C3, 0, none⟩ = some (.bool aw) ∧ W.cell? ⟨C3, 1, none⟩ = some (.string A) ∧ W.cell? ⟨C4, 0, none⟩ = some (.bool bw) ∧ W.cell? ⟨C4, 1, none⟩ = some (.string B) ∧ belowT W12 W)) (by kernel_rfl) ?_ (fun hHeld => ?_)
  · exact hS13
  refine wpAnyH_take (i := 0) (v := ?_) rfl (by kernel_rfl) (by kernel_rfl) (by kernel_rfl) (fun _ _ _ h => h) (Or.inl ⟨by rfl, ?_⟩) (by assumption) ?_
  rotate_left 1
  · intro w hSw; (try dsimp only at hSw); go_simp; (try with_reducible rfl)
  try simp only [Act.put, List.getElem_toArray, List.getElem_cons_zero, List.setIfInBounds_toArray, List.set_cons_zero, List.set_cons_succ]
  refine wpAnyH_take (i := 1) (v := ?_) rfl (by kernel_rfl) (by kernel_rfl) (by kernel_rfl) (fun _ _ _ h => h) (Or.inl ⟨by rfl, ?_⟩) (by assumption) ?_
  rotate_left 1
  · intro w hSw; (try dsimp only at hSw); go_simp; (try with_reducible rfl)
  try simp only [Act.put, List.getElem_toArray, List.getElem_cons_succ, List.getElem_cons_zero, List.setIfInBounds_toArray, List.set_cons_zero, List.set_cons_succ]
  refine wpAnyH_take (i := 2) (v := ?_) rfl (by kernel_rfl) (by kernel_rfl) (by kernel_rfl) (fun _ _ _ h => h) (Or.inl ⟨by rfl, ?_⟩) (by assumption) ?_
  rotate_left 1
  · intro w hSw; (try dsimp only at hSw); go_simp; (try with_reducible rfl)
  try simp only [Act.put, List.getElem_toArray, List.getElem_cons_succ, List.getElem_cons_zero, List.setIfInBounds_toArray, List.set_cons_zero, List.set_cons_succ]
  refine wpAnyH_take (i := 3) (v := ?_) rfl (by kernel_rfl) (by kernel_rfl) (by kernel_rfl) (fun _ _ _ h => h) (Or.inl ⟨by rfl, ?_⟩) (by assumption) ?_
  rotate_left 1
  · intro w hSw; (try dsimp only at hSw); go_simp; (try with_reducible rfl)
  try simp only [Act.put, List.getElem_toArray, List.getElem_cons_succ, List.getElem_cons_zero, List.setIfInBounds_toArray, List.set_cons_zero, List.set_cons_succ]
  refine wpAnyH_take (i := 5) (v := ?_) rfl (by kernel_rfl) (by kernel_rfl) (by kernel_rfl) (fun _ _ _ h => h) (Or.inl ⟨by rfl, ?_⟩) (by assumption) ?_
  rotate_left 1
  · intro w hSw; (try dsimp only at hSw); go_simp; (try with_reducible rfl)
  try simp only [Act.put, List.getElem_toArray, List.getElem_cons_succ, List.getElem_cons_zero, List.setIfInBounds_toArray, List.set_cons_zero, List.set_cons_succ]
  refine wpAnyH_take (i := 6) (v := ?_) rfl (by kernel_rfl) (by kernel_rfl) (by kernel_rfl) (fun _ _ _ h => h) (Or.inl ⟨by rfl, ?_⟩) (by assumption) ?_
  rotate_left 1
  · intro w hSw; (try dsimp only at hSw); go_simp; (try with_reducible rfl)
  try simp only [Act.put, List.getElem_toArray, List.getElem_cons_succ, List.getElem_cons_zero, List.setIfInBounds_toArray, List.set_cons_zero, List.set_cons_succ]
  refine wpAnyH_ready (rs := [4]) (by kernel_rfl) (by simp) ?_
  refine AllReadyH.cons rfl (fun K hK => ?_) AllReadyH.nil
  go_simp
  refine Calls.mono (kL false _ hHeld) ?_
  rintro e w6 ⟨rfl, hh⟩
  dsimp only
  refine hK.out _ _ hh (fun hHeld => ?_)
  clear hK K hh
  try simp only [Act.put, List.getElem_toArray, List.getElem_cons_succ, List.getElem_cons_zero, List.setIfInBounds_toArray, List.set_cons_zero, List.set_cons_succ]
  refine wpAnyH_ready (rs := [7]) (by kernel_rfl) (by simp) ?_
  refine AllReadyH.cons rfl (fun K hK => ?_) AllReadyH.nil
  go_simp
  refine Calls.mono (kR false _ hHeld) ?_
  rintro e w6 ⟨rfl, hh⟩
  dsimp only
  refine hK.out _ _ hh (fun hHeld => ?_)
  clear hK K hh
  try simp only [Act.put, List.getElem_toArray, List.getElem_cons_succ, List.getElem_cons_zero, List.setIfInBounds_toArray, List.set_cons_zero, List.set_cons_succ]
  refine wpAnyH_take (i := 8) (v := ?_) rfl (by kernel_rfl) (by kernel_rfl) (by kernel_rfl) (fun _ _ _ h => h) (Or.inl ⟨by rfl, ?_⟩) (by assumption) ?_
  rotate_left 1
  · intro w hSw; (try dsimp only at hSw); go_simp; (try with_reducible rfl)
  try simp only [Act.put, List.getElem_toArray, List.getElem_cons_succ, List.getElem_cons_zero, List.setIfInBounds_toArray, List.set_cons_zero, List.set_cons_succ]
  refine wpAnyH_take (i := 9) (v := ?_) rfl (by kernel_rfl) (by kernel_rfl) (by kernel_rfl) (fun _ _ _ h => h) (Or.inl ⟨by rfl, ?_⟩) (by assumption) ?_
  rotate_left 1
  · intro w hSw; (try dsimp only at hSw); go_simp; (try with_reducible rfl)
  try simp only [Act.put, List.getElem_toArray, List.getElem_cons_succ, List.getElem_cons_zero, List.setIfInBounds_toArray, List.set_cons_zero, List.set_cons_succ]
  refine wpAnyH_take (i := 10) (v := ?_) rfl (by kernel_rfl) (by kernel_rfl) (by kernel_rfl) (fun _ _ _ h => h) (Or.inl ⟨by rfl, ?_⟩) (by assumption) ?_
  rotate_left 1
  · intro w hSw; (try dsimp only at hSw); go_simp; (try with_reducible rfl)
  try simp only [Act.put, List.getElem_toArray, List.getElem_cons_succ, List.getElem_cons_zero, List.setIfInBounds_toArray, List.set_cons_zero, List.set_cons_succ]
  refine wpAnyH_take (i := 11) (v := ?_) rfl (by kernel_rfl) (by kernel_rfl) (by kernel_rfl) (fun _ _ _ h => h) (Or.inl ⟨by rfl, ?_⟩) (by assumption) ?_
  rotate_left 1
  · intro w hSw; (try dsimp only at hSw); go_simp; (try with_reducible rfl)
  try simp only [Act.put, List.getElem_toArray, List.getElem_cons_succ, List.getElem_cons_zero, List.setIfInBounds_toArray, List.set_cons_zero, List.set_cons_succ]
  refine wpAnyH_take (i := 12) (v := ?_) rfl (by kernel_rfl) (by kernel_rfl) (by kernel_rfl) (fun _ _ _ h => h) (Or.inl ⟨by rfl, ?_⟩) (by assumption) ?_
  rotate_left 1
  · intro w hSw; (try dsimp only at hSw); go_simp; (try with_reducible rfl)
  try simp only [Act.put, List.getElem_toArray, List.getElem_cons_succ, List.getElem_cons_zero, List.setIfInBounds_toArray, List.set_cons_zero, List.set_cons_succ]
  refine wpAnyH_take (i := 13) (v := ?_) rfl (by kernel_rfl) (by kernel_rfl) (by kernel_rfl) (fun _ _ _ h => h) (Or.inl ⟨by rfl, ?_⟩) (by assumption) ?_
  rotate_left 1
  · intro w hSw; (try dsimp only at hSw); go_simp; (try with_reducible rfl)
  try simp only [Act.put, List.getElem_toArray, List.getElem_cons_succ, List.getElem_cons_zero, List.setIfInBounds_toArray, List.set_cons_zero, List.set_cons_succ]
  refine wpAnyH_take (i := 15) (v := ?_) rfl (by kernel_rfl) (by kernel_rfl) (by kernel_rfl) (fun _ _ _ h => h) (Or.inl ⟨by rfl, ?_⟩) (by assumption) ?_
  rotate_left 1
  · intro w hSw; (try dsimp only at hSw); go_simp; (try with_reducible rfl)
  try simp only [Act.put, List.getElem_toArray, List.getElem_cons_succ, List.getElem_cons_zero, List.setIfInBounds_toArray, List.set_cons_zero, List.set_cons_succ]
  refine wpAnyH_take (i := 16) (v := ?_) rfl (by kernel_rfl) (by kernel_rfl) (by kernel_rfl) (fun _ _ _ h => h) (Or.inl ⟨by rfl, ?_⟩) (by assumption) ?_
  rotate_left 1
  · intro w hSw; (try dsimp only at hSw); go_simp; (try with_reducible rfl)
  try simp only [Act.put, List.getElem_toArray, List.getElem_cons_succ, List.getElem_cons_zero, List.setIfInBounds_toArray, List.set_cons_zero, List.set_cons_succ]
  refine wpAnyH_ready (rs := [14]) (by kernel_rfl) (by simp) ?_
  refine AllReadyH.cons rfl (fun K hK => ?_) AllReadyH.nil
  go_simp
  refine Calls.mono (kL true _ hHeld) ?_
  rintro e w6 ⟨rfl, hh⟩
  dsimp only
  refine hK.out _ _ hh (fun hHeld => ?_)
  clear hK K hh
  try simp only [Act.put, List.getElem_toArray, List.getElem_cons_succ, List.getElem_cons_zero, List.setIfInBounds_toArray, List.set_cons_zero, List.set_cons_succ]
  refine wpAnyH_ready (rs := [17]) (by kernel_rfl) (by simp) ?_
  refine AllReadyH.cons rfl (fun K hK => ?_) AllReadyH.nil
  go_simp
  refine Calls.mono (kR true _ hHeld) ?_
  rintro e w6 ⟨rfl, hh⟩
  dsimp only
  refine hK.out _ _ hh (fun hHeld => ?_)
  clear hK K hh
  try simp only [Act.put, List.getElem_toArray, List.getElem_cons_succ, List.getElem_cons_zero, List.setIfInBounds_toArray, List.set_cons_zero, List.set_cons_succ]
  refine wpAnyH_take (i := 18) (v := ?_) rfl (by kernel_rfl) (by kernel_rfl) (by kernel_rfl) (fun _ _ _ h => h) (Or.inl ⟨by rfl, ?_⟩) (by assumption) ?_
  rotate_left 1
  · intro w hSw; (try dsimp only at hSw); go_simp; (try with_reducible rfl)
  try simp only [Act.put, List.getElem_toArray, List.getElem_cons_succ, List.getElem_cons_zero, List.setIfInBounds_toArray, List.set_cons_zero, List.set_cons_succ]
  refine wpAnyH_take (i := 19) (v := ?_) rfl (by kernel_rfl) (by kernel_rfl) (by kernel_rfl) (fun _ _ _ h => h) (Or.inl ⟨by rfl, ?_⟩) (by assumption) ?_
  rotate_left 1
  · intro w hSw; (try dsimp only at hSw); go_simp; (try with_reducible rfl)
  try simp only [Act.put, List.getElem_toArray, List.getElem_cons_succ, List.getElem_cons_zero, List.setIfInBounds_toArray, List.set_cons_zero, List.set_cons_succ]
  refine wpAnyH_take (i := 20) (v := ?_) rfl (by kernel_rfl) (by kernel_rfl) (by kernel_rfl) (fun _ _ _ h => h) (Or.inl ⟨by rfl, ?_⟩) (by assumption) ?_
  rotate_left 1
  · intro w hSw; (try dsimp only at hSw); go_simp; (try with_reducible rfl)
  try simp only [Act.put, List.getElem_toArray, List.getElem_cons_succ, List.getElem_cons_zero, List.setIfInBounds_toArray, List.set_cons_zero, List.set_cons_succ]
  refine wpAnyH_done (by kernel_rfl) ?_ _
  have hb : Below W12.heap.size W12 _ := hHeld.2.2.2.2.2.2.2.2
  clear hHeld kL kR hS13 H3 H4
  clear x0 x1 x2 x3 y0 y1
  have HT := Lib.hid (HT.out.next hb)
  have HN := Lib.hid (HN.out.next hb)
  have HB := Lib.hid (HB.out.trans (hb.mono HB.out.size))
  have H1 := Lib.hid (H1.out.next hb)
  have H2 := Lib.hid (H2.out.next hb)
  clear hb
  have x0 := (HT.out.2 0 _ rfl).1
  have x1 := (HT.out.2 1 _ rfl).1
  have x2 := (HT.out.2 2 _ rfl).1
  have x3 := (HT.out.2 3 _ rfl).1
  have y0 := (HN.out.2 0 _ rfl).1
  have y1 := (HN.out.2 1 _ rfl).1
  go_wp2_with fail
  rename World => W13
  have hS14 : lasC W13 W13.drew C1 C2 (w.heap.size + 1) (.bool pw) (.string PX) (.slice ao f.length ac) (.slice bo g.length bc) := lasC_next (drewT W13) ⟨(H1.out.2 0 _ rfl).1, (H1.out.2 1 _ rfl).1, (H2.out.2 0 _ rfl).1, (H2.out.2 1 _ rfl).1, y0, y1, Below.refl _ _⟩
  have kH : ∀ W, lasC W13 W C1 C2 (w.heap.size + 1) (.bool pw) (.string PX) (.slice ao f.length ac) (.slice bo g.length bc) → Calls Tryz.prog 16 #[.slice ao f.length ac, .slice bo g.length bc] W fun e W => e = .returned (.bool HDV) ∧ lasC W13 W C1 C2 (w.heap.size + 1) (.bool pw) (.string PX) (.slice ao f.length ac) (.slice bo g.length bc) := fun W h => (cH W (HB.out.trans (Below.mono h.2.2.2.2.2.2 HB.out.size))).mono fun e w' hh => ⟨hh.1, lasC_next hh.2 h⟩
  have kG : ∀ W, lasC W13 W C1 C2 (w.heap.size + 1) (.bool pw) (.string PX) (.slice ao f.length ac) (.slice bo g.length bc) → Calls Tryz.prog 17 #[.slice ao f.length ac, .slice bo g.length bc] W fun e W => e = .returned (.bool HDV) ∧ lasC W13 W C1 C2 (w.heap.size + 1) (.bool pw) (.string PX) (.slice ao f.length ac) (.slice bo g.length bc) := fun W h => (cG W (HB.out.trans (Below.mono h.2.2.2.2.2.2 HB.out.size))).mono fun e w' hh => ⟨hh.1, lasC_next hh.2 h⟩
  clear cH cG
  refine wp_region_held_drew (S := (fun W => W.cell? ⟨C1, 0, none⟩ = some (.bool pw) ∧ W.cell? ⟨C1, 1, none⟩ = some (.string PX) ∧ W.cell? ⟨C2, 0, none⟩ = some (.bool pw) ∧ W.cell? ⟨C2, 1, none⟩ = some (.string PX) ∧ W.cell? ⟨w.heap.size + 1, 0, none⟩ = some (.slice ao f.length ac) ∧ W.cell? ⟨w.heap.size + 1, 1, none⟩ = some (.slice bo g.length bc) ∧ belowT W13 W)) (by kernel_rfl) ?_ (fun hHeld => ?_)
  · exact hS14
  refine wpAnyH_take (i := 0) (v := ?_) rfl (by kernel_rfl) (by kernel_rfl) (by kernel_rfl) (fun _ _ _ h => h) (Or.inl ⟨by rfl, ?_⟩) (by assumption) ?_
  rotate_left 1
  · intro w hSw; (try dsimp only at hSw); go_simp; (try with_reducible rfl)
  try simp only [Act.put, List.getElem_toArray, List.getElem_cons_zero, List.setIfInBounds_toArray, List.set_cons_zero, List.set_cons_succ]
  refine wpAnyH_take (i := 1) (v := ?_) rfl (by kernel_rfl) (by kernel_rfl) (by kernel_rfl) (fun _ _ _ h => h) (Or.inl ⟨by rfl, ?_⟩) (by assumption) ?_
  rotate_left 1
  · intro w hSw; (try dsimp only at hSw); go_simp; (try with_reducible rfl)
  try simp only [Act.put, List.getElem_toArray, List.getElem_cons_succ, List.getElem_cons_zero, List.setIfInBounds_toArray, List.set_cons_zero, List.set_cons_succ]
  refine wpAnyH_take (i := 2) (v := ?_) rfl (by kernel_rfl) (by kernel_rfl) (by kernel_rfl) (fun _ _ _ h => h) (Or.inl ⟨by rfl, ?_⟩) (by assumption) ?_
  rotate_left 1
  · intro w hSw; (try dsimp only at hSw); go_simp; (try with_reducible rfl)
  try simp only [Act.put, List.getElem_toArray, List.getElem_cons_succ, List.getElem_cons_zero, List.setIfInBounds_toArray, List.set_cons_zero, List.set_cons_succ]
  refine wpAnyH_take (i := 3) (v := ?_) rfl (by kernel_rfl) (by kernel_rfl) (by kernel_rfl) (fun _ _ _ h => h) (Or.inl ⟨by rfl, ?_⟩) (by assumption) ?_
  rotate_left 1
  · intro w hSw; (try dsimp only at hSw); go_simp; (try with_reducible rfl)
  try simp only [Act.put, List.getElem_toArray, List.getElem_cons_succ, List.getElem_cons_zero, List.setIfInBounds_toArray, List.set_cons_zero, List.set_cons_succ]
  refine wpAnyH_take (i := 4) (v := ?_) rfl (by kernel_rfl) (by kernel_rfl) (by kernel_rfl) (fun _ _ _ h => h) (Or.inl ⟨by rfl, ?_⟩) (by assumption) ?_
  rotate_left 1
  · intro w hSw; (try dsimp only at hSw); go_simp; (try with_reducible rfl)
  try simp only [Act.put, List.getElem_toArray, List.getElem_cons_succ, List.getElem_cons_zero, List.setIfInBounds_toArray, List.set_cons_zero, List.set_cons_succ]
  refine wpAnyH_take (i := 5) (v := ?_) rfl (by kernel_rfl) (by kernel_rfl) (by kernel_rfl) (fun _ _ _ h => h) (Or.inl ⟨by rfl, ?_⟩) (by assumption) ?_
  rotate_left 1
  · intro w hSw; (try dsimp only at hSw); go_simp; (try with_reducible rfl)
  try simp only [Act.put, List.getElem_toArray, List.getElem_cons_succ, List.getElem_cons_zero, List.setIfInBounds_toArray, List.set_cons_zero, List.set_cons_succ]
  refine wpAnyH_take (i := 6) (v := ?_) rfl (by kernel_rfl) (by kernel_rfl) (by kernel_rfl) (fun _ _ _ h => h) (Or.inl ⟨by rfl, ?_⟩) (by assumption) ?_
  rotate_left 1
  · intro w hSw; (try dsimp only at hSw); go_simp; (try with_reducible rfl)
  try simp only [Act.put, List.getElem_toArray, List.getElem_cons_succ, List.getElem_cons_zero, List.setIfInBounds_toArray, List.set_cons_zero, List.set_cons_succ]
  refine wpAnyH_take (i := 7) (v := ?_) rfl (by kernel_rfl) (by kernel_rfl) (by kernel_rfl) (fun _ _ _ h => h) (Or.inl ⟨by rfl, ?_⟩) (by assumption) ?_
  rotate_left 1
  · intro w hSw; (try dsimp only at hSw); go_simp; (try with_reducible rfl)
  try simp only [Act.put, List.getElem_toArray, List.getElem_cons_succ, List.getElem_cons_zero, List.setIfInBounds_toArray, List.set_cons_zero, List.set_cons_succ]
  refine wpAnyH_take (i := 8) (v := ?_) rfl (by kernel_rfl) (by kernel_rfl) (by kernel_rfl) (fun _ _ _ h => h) (Or.inl ⟨by rfl, ?_⟩) (by assumption) ?_
  rotate_left 1
  · intro w hSw; (try dsimp only at hSw); go_simp; (try with_reducible rfl)
  try simp only [Act.put, List.getElem_toArray, List.getElem_cons_succ, List.getElem_cons_zero, List.setIfInBounds_toArray, List.set_cons_zero, List.set_cons_succ]
  refine wpAnyH_take (i := 9) (v := ?_) rfl (by kernel_rfl) (by kernel_rfl) (by kernel_rfl) (fun _ _ _ h => h) (Or.inl ⟨by rfl, ?_⟩) (by assumption) ?_
  rotate_left 1
  · intro w hSw; (try dsimp only at hSw); go_simp; (try with_reducible rfl)
  try simp only [Act.put, List.getElem_toArray, List.getElem_cons_succ, List.getElem_cons_zero, List.setIfInBounds_toArray, List.set_cons_zero, List.set_cons_succ]
  refine wpAnyH_take (i := 10) (v := ?_) rfl (by kernel_rfl) (by kernel_rfl) (by kernel_rfl) (fun _ _ _ h => h) (Or.inl ⟨by rfl, ?_⟩) (by assumption) ?_
  rotate_left 1
  · intro w hSw; (try dsimp only at hSw); go_simp; (try with_reducible rfl)
  try simp only [Act.put, List.getElem_toArray, List.getElem_cons_succ, List.getElem_cons_zero, List.setIfInBounds_toArray, List.set_cons_zero, List.set_cons_succ]
  refine wpAnyH_take (i := 11) (v := ?_) rfl (by kernel_rfl) (by kernel_rfl) (by kernel_rfl) (fun _ _ _ h => h) (Or.inl ⟨by rfl, ?_⟩) (by assumption) ?_
  rotate_left 1
  · intro w hSw; (try dsimp only at hSw); go_simp; (try with_reducible rfl)
  try simp only [Act.put, List.getElem_toArray, List.getElem_cons_succ, List.getElem_cons_zero, List.setIfInBounds_toArray, List.set_cons_zero, List.set_cons_succ]
  refine wpAnyH_take (i := 12) (v := ?_) rfl (by kernel_rfl) (by kernel_rfl) (by kernel_rfl) (fun _ _ _ h => h) (Or.inl ⟨by rfl, ?_⟩) (by assumption) ?_
  rotate_left 1
  · intro w hSw; (try dsimp only at hSw); go_simp; (try with_reducible rfl)
  try simp only [Act.put, List.getElem_toArray, List.getElem_cons_succ, List.getElem_cons_zero, List.setIfInBounds_toArray, List.set_cons_zero, List.set_cons_succ]
  refine wpAnyH_take (i := 13) (v := ?_) rfl (by kernel_rfl) (by kernel_rfl) (by kernel_rfl) (fun _ _ _ h => h) (Or.inl ⟨by rfl, ?_⟩) (by assumption) ?_
  rotate_left 1
  · intro w hSw; (try dsimp only at hSw); go_simp; (try with_reducible rfl)
  try simp only [Act.put, List.getElem_toArray, List.getElem_cons_succ, List.getElem_cons_zero, List.setIfInBounds_toArray, List.set_cons_zero, List.set_cons_succ]
  refine wpAnyH_take (i := 14) (v := ?_) rfl (by kernel_rfl) (by kernel_rfl) (by kernel_rfl) (fun _ _ _ h => h) (Or.inl ⟨by rfl, ?_⟩) (by assumption) ?_
  rotate_left 1
  · intro w hSw; (try dsimp only at hSw); go_simp; (try with_reducible rfl)
  try simp only [Act.put, List.getElem_toArray, List.getElem_cons_succ, List.getElem_cons_zero, List.setIfInBounds_toArray, List.set_cons_zero, List.set_cons_succ]
  refine wpAnyH_take (i := 15) (v := ?_) rfl (by kernel_rfl) (by kernel_rfl) (by kernel_rfl) (fun _ _ _ h => h) (Or.inl ⟨by rfl, ?_⟩) (by assumption) ?_
  rotate_left 1
  · intro w hSw; (try dsimp only at hSw); go_simp; (try with_reducible rfl)
  try simp only [Act.put, List.getElem_toArray, List.getElem_cons_succ, List.getElem_cons_zero, List.setIfInBounds_toArray, List.set_cons_zero, List.set_cons_succ]
  refine wpAnyH_take (i := 16) (v := ?_) rfl (by kernel_rfl) (by kernel_rfl) (by kernel_rfl) (fun _ _ _ h => h) (Or.inl ⟨by rfl, ?_⟩) (by assumption) ?_
  rotate_left 1
  · intro w hSw; (try dsimp only at hSw); go_simp; (try with_reducible rfl)
  try simp only [Act.put, List.getElem_toArray, List.getElem_cons_succ, List.getElem_cons_zero, List.setIfInBounds_toArray, List.set_cons_zero, List.set_cons_succ]
  refine wpAnyH_take (i := 17) (v := ?_) rfl (by kernel_rfl) (by kernel_rfl) (by kernel_rfl) (fun _ _ _ h => h) (Or.inl ⟨by rfl, ?_⟩) (by assumption) ?_
  rotate_left 1
  · intro w hSw; (try dsimp only at hSw); go_simp; (try with_reducible rfl)
  try simp only [Act.put, List.getElem_toArray, List.getElem_cons_succ, List.getElem_cons_zero, List.setIfInBounds_toArray, List.set_cons_zero, List.set_cons_succ]
  refine wpAnyH_take (i := 18) (v := ?_) rfl (by kernel_rfl) (by kernel_rfl) (by kernel_rfl) (fun _ _ _ h => h) (Or.inl ⟨by rfl, ?_⟩) (by assumption) ?_
  rotate_left 1
  · intro w hSw; (try dsimp only at hSw); go_simp; (try with_reducible rfl)
  try simp only [Act.put, List.getElem_toArray, List.getElem_cons_succ, List.getElem_cons_zero, List.setIfInBounds_toArray, List.set_cons_zero, List.set_cons_succ]
  refine wpAnyH_take (i := 19) (v := ?_) rfl (by kernel_rfl) (by kernel_rfl) (by kernel_rfl) (fun _ _ _ h => h) (Or.inl ⟨by rfl, ?_⟩) (by assumption) ?_
  rotate_left 1
  · intro w hSw; (try dsimp only at hSw); go_simp; (try with_reducible rfl)
  try simp only [Act.put, List.getElem_toArray, List.getElem_cons_succ, List.getElem_cons_zero, List.setIfInBounds_toArray, List.set_cons_zero, List.set_cons_succ]
  refine wpAnyH_take (i := 20) (v := ?_) rfl (by kernel_rfl) (by kernel_rfl) (by kernel_rfl) (fun _ _ _ h => h) (Or.inl ⟨by rfl, ?_⟩) (by assumption) ?_
  rotate_left 1
  · intro w hSw; (try dsimp only at hSw); go_simp; (try with_reducible rfl)
  try simp only [Act.put, List.getElem_toArray, List.getElem_cons_succ, List.getElem_cons_zero, List.setIfInBounds_toArray, List.set_cons_zero, List.set_cons_succ]
  refine wpAnyH_take (i := 21) (v := ?_) rfl (by kernel_rfl) (by kernel_rfl) (by kernel_rfl) (fun _ _ _ h => h) (Or.inl ⟨by rfl, ?_⟩) (by assumption) ?_
  rotate_left 1
  · intro w hSw; (try dsimp only at hSw); go_simp; (try with_reducible rfl)
  try simp only [Act.put, List.getElem_toArray, List.getElem_cons_succ, List.getElem_cons_zero, List.setIfInBounds_toArray, List.set_cons_zero, List.set_cons_succ]
  refine wpAnyH_take (i := 22) (v := ?_) rfl (by kernel_rfl) (by kernel_rfl) (by kernel_rfl) (fun _ _ _ h => h) (Or.inl ⟨by rfl, ?_⟩) (by assumption) ?_
  rotate_left 1
  · intro w hSw; (try dsimp only at hSw); go_simp; (try with_reducible rfl)
  try simp only [Act.put, List.getElem_toArray, List.getElem_cons_succ, List.getElem_cons_zero, List.setIfInBounds_toArray, List.set_cons_zero, List.set_cons_succ]
  refine wpAnyH_take (i := 23) (v := ?_) rfl (by kernel_rfl) (by kernel_rfl) (by kernel_rfl) (fun _ _ _ h => h) (Or.inl ⟨by rfl, ?_⟩) (by assumption) ?_
  rotate_left 1
  · intro w hSw; (try dsimp only at hSw); go_simp; (try with_reducible rfl)
  try simp only [Act.put, List.getElem_toArray, List.getElem_cons_succ, List.getElem_cons_zero, List.setIfInBounds_toArray, List.set_cons_zero, List.set_cons_succ]
  refine wpAnyH_take (i := 24) (v := ?_) rfl (by kernel_rfl) (by kernel_rfl) (by kernel_rfl) (fun _ _ _ h => h) (Or.inl ⟨by rfl, ?_⟩) (by assumption) ?_
  rotate_left 1
  · intro w hSw; (try dsimp only at hSw); go_simp; (try with_reducible rfl)
  try simp only [Act.put, List.getElem_toArray, List.getElem_cons_succ, List.getElem_cons_zero, List.setIfInBounds_toArray, List.set_cons_zero, List.set_cons_succ]
  refine wpAnyH_take (i := 25) (v := ?_) rfl (by kernel_rfl) (by kernel_rfl) (by kernel_rfl) (fun _ _ _ h => h) (Or.inl ⟨by rfl, ?_⟩) (by assumption) ?_
  rotate_left 1
  · intro w hSw; (try dsimp only at hSw); go_simp; (try with_reducible rfl)
  try simp only [Act.put, List.getElem_toArray, List.getElem_cons_succ, List.getElem_cons_zero, List.setIfInBounds_toArray, List.set_cons_zero, List.set_cons_succ]
  refine wpAnyH_take (i := 26) (v := ?_) rfl (by kernel_rfl) (by kernel_rfl) (by kernel_rfl) (fun _ _ _ h => h) (Or.inl ⟨by rfl, ?_⟩) (by assumption) ?_
  rotate_left 1
  · intro w hSw; (try dsimp only at hSw); go_simp; (try with_reducible rfl)
  try simp only [Act.put, List.getElem_toArray, List.getElem_cons_succ, List.getElem_cons_zero, List.setIfInBounds_toArray, List.set_cons_zero, List.set_cons_succ]
  refine wpAnyH_take (i := 27) (v := ?_) rfl (by kernel_rfl) (by kernel_rfl) (by kernel_rfl) (fun _ _ _ h => h) (Or.inl ⟨by rfl, ?_⟩) (by assumption) ?_
  rotate_left 1
  · intro w hSw; (try dsimp only at hSw); go_simp; (try with_reducible rfl)
  try simp only [Act.put, List.getElem_toArray, List.getElem_cons_succ, List.getElem_cons_zero, List.setIfInBounds_toArray, List.set_cons_zero, List.set_cons_succ]
  refine wpAnyH_take (i := 28) (v := ?_) rfl (by kernel_rfl) (by kernel_rfl) (by kernel_rfl) (fun _ _ _ h => h) (Or.inl ⟨by rfl, ?_⟩) (by assumption) ?_
  rotate_left 1
  · intro w hSw; (try dsimp only at hSw); go_simp; (try with_reducible rfl)
  try simp only [Act.put, List.getElem_toArray, List.getElem_cons_succ, List.getElem_cons_zero, List.setIfInBounds_toArray, List.set_cons_zero, List.set_cons_succ]
  refine wpAnyH_take (i := 29) (v := ?_) rfl (by kernel_rfl) (by kernel_rfl) (by kernel_rfl) (fun _ _ _ h => h) (Or.inl ⟨by rfl, ?_⟩) (by assumption) ?_
  rotate_left 1
  · intro w hSw; (try dsimp only at hSw); go_simp; (try with_reducible rfl)
  try simp only [Act.put, List.getElem_toArray, List.getElem_cons_succ, List.getElem_cons_zero, List.setIfInBounds_toArray, List.set_cons_zero, List.set_cons_succ]
  refine wpAnyH_take (i := 30) (v := ?_) rfl (by kernel_rfl) (by kernel_rfl) (by kernel_rfl) (fun _ _ _ h => h) (Or.inl ⟨by rfl, ?_⟩) (by assumption) ?_
  rotate_left 1
  · intro w hSw; (try dsimp only at hSw); go_simp; (try with_reducible rfl)
  try simp only [Act.put, List.getElem_toArray, List.getElem_cons_succ, List.getElem_cons_zero, List.setIfInBounds_toArray, List.set_cons_zero, List.set_cons_succ]
  refine wpAnyH_take (i := 31) (v := ?_) rfl (by kernel_rfl) (by kernel_rfl) (by kernel_rfl) (fun _ _ _ h => h) (Or.inl ⟨by rfl, ?_⟩) (by assumption) ?_
  rotate_left 1
  · intro w hSw; (try dsimp only at hSw); go_simp; (try with_reducible rfl)
  try simp only [Act.put, List.getElem_toArray, List.getElem_cons_succ, List.getElem_cons_zero, List.setIfInBounds_toArray, List.set_cons_zero, List.set_cons_succ]
  refine wpAnyH_take (i := 32) (v := ?_) rfl (by kernel_rfl) (by kernel_rfl) (by kernel_rfl) (fun _ _ _ h => h) (Or.inl ⟨by rfl, ?_⟩) (by assumption) ?_
  rotate_left 1
  · intro w hSw; (try dsimp only at hSw); go_simp; (try with_reducible rfl)
  try simp only [Act.put, List.getElem_toArray, List.getElem_cons_succ, List.getElem_cons_zero, List.setIfInBounds_toArray, List.set_cons_zero, List.set_cons_succ]
  refine wpAnyH_take (i := 33) (v := ?_) rfl (by kernel_rfl) (by kernel_rfl) (by kernel_rfl) (fun _ _ _ h => h) (Or.inl ⟨by rfl, ?_⟩) (by assumption) ?_
  rotate_left 1
  · intro w hSw; (try dsimp only at hSw); go_simp; (try with_reducible rfl)
  try simp only [Act.put, List.getElem_toArray, List.getElem_cons_succ, List.getElem_cons_zero, List.setIfInBounds_toArray, List.set_cons_zero, List.set_cons_succ]
  refine wpAnyH_take (i := 34) (v := ?_) rfl (by kernel_rfl) (by kernel_rfl) (by kernel_rfl) (fun _ _ _ h => h) (Or.inl ⟨by rfl, ?_⟩) (by assumption) ?_
  rotate_left 1
  · intro w hSw; (try dsimp only at hSw); go_simp; (try with_reducible rfl)
  try simp only [Act.put, List.getElem_toArray, List.getElem_cons_succ, List.getElem_cons_zero, List.setIfInBounds_toArray, List.set_cons_zero, List.set_cons_succ]
  refine wpAnyH_take (i := 35) (v := ?_) rfl (by kernel_rfl) (by kernel_rfl) (by kernel_rfl) (fun _ _ _ h => h) (Or.inl ⟨by rfl, ?_⟩) (by assumption) ?_
  rotate_left 1
  · intro w hSw; (try dsimp only at hSw); go_simp; (try with_reducible rfl)
  try simp only [Act.put, List.getElem_toArray, List.getElem_cons_succ, List.getElem_cons_zero, List.setIfInBounds_toArray, List.set_cons_zero, List.set_cons_succ]
  refine wpAnyH_take (i := 36) (v := ?_) rfl (by kernel_rfl) (by kernel_rfl) (by kernel_rfl) (fun _ _ _ h => h) (Or.inl ⟨by rfl, ?_⟩) (by assumption) ?_
  rotate_left 1
  · intro w hSw; (try dsimp only at hSw); go_simp; (try with_reducible rfl)
  try simp only [Act.put, List.getElem_toArray, List.getElem_cons_succ, List.getElem_cons_zero, List.setIfInBounds_toArray, List.set_cons_zero, List.set_cons_succ]
  refine wpAnyH_take (i := 37) (v := ?_) rfl (by kernel_rfl) (by kernel_rfl) (by kernel_rfl) (fun _ _ _ h => h) (Or.inl ⟨by rfl, ?_⟩) (by assumption) ?_
  rotate_left 1
  · intro w hSw; (try dsimp only at hSw); go_simp; (try with_reducible rfl)
  try simp only [Act.put, List.getElem_toArray, List.getElem_cons_succ, List.getElem_cons_zero, List.setIfInBounds_toArray, List.set_cons_zero, List.set_cons_succ]
  refine wpAnyH_take (i := 38) (v := ?_) rfl (by kernel_rfl) (by kernel_rfl) (by kernel_rfl) (fun _ _ _ h => h) (Or.inl ⟨by rfl, ?_⟩) (by assumption) ?_
  rotate_left 1
  · intro w hSw; (try dsimp only at hSw); go_simp; (try with_reducible rfl)
  try simp only [Act.put, List.getElem_toArray, List.getElem_cons_succ, List.getElem_cons_zero, List.setIfInBounds_toArray, List.set_cons_zero, List.set_cons_succ]
  refine wpAnyH_take (i := 39) (v := ?_) rfl (by kernel_rfl) (by kernel_rfl) (by kernel_rfl) (fun _ _ _ h => h) (Or.inl ⟨by rfl, ?_⟩) (by assumption) ?_
  rotate_left 1
  · intro w hSw; (try dsimp only at hSw); go_simp; (try with_reducible rfl)
  try simp only [Act.put, List.getElem_toArray, List.getElem_cons_succ, List.getElem_cons_zero, List.setIfInBounds_toArray, List.set_cons_zero, List.set_cons_succ]
  refine wpAnyH_take (i := 40) (v := ?_) rfl (by kernel_rfl) (by kernel_rfl) (by kernel_rfl) (fun _ _ _ h => h) (Or.inl ⟨by rfl, ?_⟩) (by assumption) ?_
  rotate_left 1
  · intro w hSw; (try dsimp only at hSw); go_simp; (try with_reducible rfl)
  try simp only [Act.put, List.getElem_toArray, List.getElem_cons_succ, List.getElem_cons_zero, List.setIfInBounds_toArray, List.set_cons_zero, List.set_cons_succ]
  refine wpAnyH_take (i := 41) (v := ?_) rfl (by kernel_rfl) (by kernel_rfl) (by kernel_rfl) (fun _ _ _ h => h) (Or.inl ⟨by rfl, ?_⟩) (by assumption) ?_
  rotate_left 1
  · intro w hSw; (try dsimp only at hSw); go_simp; (try with_reducible rfl)
  try simp only [Act.put, List.getElem_toArray, List.getElem_cons_succ, List.getElem_cons_zero, List.setIfInBounds_toArray, List.set_cons_zero, List.set_cons_succ]
  refine wpAnyH_take (i := 43) (v := ?_) rfl (by kernel_rfl) (by kernel_rfl) (by kernel_rfl) (fun _ _ _ h => h) (Or.inl ⟨by rfl, ?_⟩) (by assumption) ?_
  rotate_left 1
  · intro w hSw; (try dsimp only at hSw); go_simp; (try with_reducible rfl)
  try simp only [Act.put, List.getElem_toArray, List.getElem_cons_succ, List.getElem_cons_zero, List.setIfInBounds_toArray, List.set_cons_zero, List.set_cons_succ]
  refine wpAnyH_take (i := 44) (v := ?_) rfl (by kernel_rfl) (by kernel_rfl) (by kernel_rfl) (fun _ _ _ h => h) (Or.inl ⟨by rfl, ?_⟩) (by assumption) ?_
  rotate_left 1
  · intro w hSw; (try dsimp only at hSw); go_simp; (try with_reducible rfl)
  try simp only [Act.put, List.getElem_toArray, List.getElem_cons_succ, List.getElem_cons_zero, List.setIfInBounds_toArray, List.set_cons_zero, List.set_cons_succ]
  refine wpAnyH_take (i := 45) (v := ?_) rfl (by kernel_rfl) (by kernel_rfl) (by kernel_rfl) (fun _ _ _ h => h) (Or.inl ⟨by rfl, ?_⟩) (by assumption) ?_
  rotate_left 1
  · intro w hSw; (try dsimp only at hSw); go_simp; (try with_reducible rfl)
  try simp only [Act.put, List.getElem_toArray, List.getElem_cons_succ, List.getElem_cons_zero, List.setIfInBounds_toArray, List.set_cons_zero, List.set_cons_succ]
  refine wpAnyH_take (i := 46) (v := ?_) rfl (by kernel_rfl) (by kernel_rfl) (by kernel_rfl) (fun _ _ _ h => h) (Or.inl ⟨by rfl, ?_⟩) (by assumption) ?_
  rotate_left 1
  · intro w hSw; (try dsimp only at hSw); go_simp; (try with_reducible rfl)
  try simp only [Act.put, List.getElem_toArray, List.getElem_cons_succ, List.getElem_cons_zero, List.setIfInBounds_toArray, List.set_cons_zero, List.set_cons_succ]
  refine wpAnyH_ready (rs := [42]) (by kernel_rfl) (by simp) ?_
  refine AllReadyH.cons rfl (fun K hK => ?_) AllReadyH.nil
  go_simp
  refine Calls.mono (kH _ hHeld) ?_
  rintro e w6 ⟨rfl, hh⟩
  dsimp only
  refine hK.out _ _ hh (fun hHeld => ?_)
  clear hK K hh
  try simp only [Act.put, List.getElem_toArray, List.getElem_cons_succ, List.getElem_cons_zero, List.setIfInBounds_toArray, List.set_cons_zero, List.set_cons_succ]
  refine wpAnyH_ready (rs := [47]) (by kernel_rfl) (by simp) ?_
  refine AllReadyH.cons rfl (fun K hK => ?_) AllReadyH.nil
  go_simp
  refine Calls.mono (kG _ hHeld) ?_
  rintro e w6 ⟨rfl, hh⟩
  dsimp only
  refine hK.out _ _ hh (fun hHeld => ?_)
  clear hK K hh
  try simp only [Act.put, List.getElem_toArray, List.getElem_cons_succ, List.getElem_cons_zero, List.setIfInBounds_toArray, List.set_cons_zero, List.set_cons_succ]
  refine wpAnyH_take (i := 48) (v := ?_) rfl (by kernel_rfl) (by kernel_rfl) (by kernel_rfl) (fun _ _ _ h => h) (Or.inl ⟨by rfl, ?_⟩) (by assumption) ?_
  rotate_left 1
  · intro w hSw; (try dsimp only at hSw); go_simp; (try with_reducible rfl)
  try simp only [Act.put, List.getElem_toArray, List.getElem_cons_succ, List.getElem_cons_zero, List.setIfInBounds_toArray, List.set_cons_zero, List.set_cons_succ]
  refine wpAnyH_take (i := 49) (v := ?_) rfl (by kernel_rfl) (by kernel_rfl) (by kernel_rfl) (fun _ _ _ h => h) (Or.inl ⟨by rfl, ?_⟩) (by assumption) ?_
  rotate_left 1
  · intro w hSw; (try dsimp only at hSw); go_simp; (try with_reducible rfl)
  try simp only [Act.put, List.getElem_toArray, List.getElem_cons_succ, List.getElem_cons_zero, List.setIfInBounds_toArray, List.set_cons_zero, List.set_cons_succ]
  refine wpAnyH_take (i := 50) (v := ?_) rfl (by kernel_rfl) (by kernel_rfl) (by kernel_rfl) (fun _ _ _ h => h) (Or.inl ⟨by rfl, ?_⟩) (by assumption) ?_
  rotate_left 1
  · intro w hSw; (try dsimp only at hSw); go_simp; (try with_reducible rfl)
  try simp only [Act.put, List.getElem_toArray, List.getElem_cons_succ, List.getElem_cons_zero, List.setIfInBounds_toArray, List.set_cons_zero, List.set_cons_succ]
  refine wpAnyH_done (by kernel_rfl) ?_ _
  have hb : Below W13.heap.size W13 _ := hHeld.2.2.2.2.2.2
  have HB := Lib.hid (HB.out.trans (hb.mono HB.out.size))
  clear hb hHeld kH kG hS14
  go_wp2_with fail
  go_ret
  exact ⟨rfl, HB.out⟩

end Go.Proofs.YtclgdmcbbphbcaaGreatDoor
