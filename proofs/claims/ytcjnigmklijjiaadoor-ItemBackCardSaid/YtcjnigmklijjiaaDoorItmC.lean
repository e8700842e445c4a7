/- The contract of the parser's value. -/
import Derived.Test.YtcjnigmklijjiaaDoorItmB
import Derived.Deep.RegionHeld3
namespace Go.Proofs.YtcjnigmklijjiaaDoor
open Go.RowKit

theorem Par.other {w : World} {b : Nat} {t : ByteArray} {k : Nat} (h : Par w b t k) {c o : Nat} (hc : c ≠ b) (v : Value) : Par (w.setCell ⟨c, o, none⟩ v) b t k :=
  ⟨(World.cell?_setCell_other w ⟨c, o, none⟩ ⟨b, 0, none⟩ _ (by simp [hc])).trans h.text, (World.cell?_setCell_other w ⟨c, o, none⟩ ⟨b, 1, none⟩ _ (by simp [hc])).trans h.at_, by rw [World.frozen?_setCell]; exact h.f0, by rw [World.frozen?_setCell]; exact h.f1⟩
theorem Par.alloc {w : World} {b : Nat} {t : ByteArray} {k : Nat} (h : Par w b t k) (o : Obj) : Par (w.alloc o) b t k := h.below ((Below.refl _ _).alloc (Nat.le_refl _) o)
theorem Moved.alloc {b : Nat} {w W : World} (h : Moved b w W) (o : Obj) : Moved b w (W.alloc o) := h.trans (Moved.of_below ((Below.refl _ _).alloc (Nat.le_refl _) o))
theorem Moved.setNew {b : Nat} {w W : World} (h : Moved b w W) {c o : Nat} (hc : w.heap.size ≤ c) (v : Value) : Moved b w (W.setCell ⟨c, o, none⟩ v) :=
  ⟨h.os, h.tape, h.output, by simpa using h.size, fun k hk1 hb => (Below.heap_setCell W ⟨c, o, none⟩ v k (by show k ≠ c; omega)).trans (h.block k hk1 hb)⟩
theorem Moved.low {b : Nat} {w W V : World} (h : Moved b w W) (hb : Below W.heap.size W V) : Moved b w V := h.trans (Moved.of_below hb)

/-- A value and OK, or none and ErrForm; how far the parser goes. -/
def valV (o : Option Got) : Value := match o with
  | some g => .tuple #[.agg #[.int .i64 g.k, .int .i64 g.n, .string (strB g.s)], .int .i64 0]
  | none => .tuple #[.agg #[.int .i64 0, .int .i64 0, .string ⟨#[]⟩], .int .i64 2]
def advL (o : Option Got) : Nat := match o with
  | some g => g.m
  | none => 0

theorem value_cells (w w1 : World) (k n : Int) (s : ByteArray) (hb : Below (w.heap.size + 1) (w.alloc (.cells #[.int .i64 k, .int .i64 n, .string s] 23)) w1) : (w1.cell? ⟨w.heap.size, 0, none⟩ = some (.int .i64 k) ∧ w1.cell? ⟨w.heap.size, 1, none⟩ = some (.int .i64 n) ∧ w1.cell? ⟨w.heap.size, 2, none⟩ = some (.string s)) ∧ (w1.frozen? ⟨w.heap.size, 0, none⟩ = false ∧ w1.frozen? ⟨w.heap.size, 1, none⟩ = false ∧ w1.frozen? ⟨w.heap.size, 2, none⟩ = false) := by
  refine ⟨⟨?_, ?_, ?_⟩, ?_, ?_, ?_⟩
  · rw [hb.cell (p := ⟨w.heap.size, 0, none⟩) (by simp)]; simp
  · rw [hb.cell (p := ⟨w.heap.size, 1, none⟩) (by simp)]; simp
  · rw [hb.cell (p := ⟨w.heap.size, 2, none⟩) (by simp)]; simp
  · rw [hb.frozen (p := ⟨w.heap.size, 0, none⟩) (by simp)]; simp
  · rw [hb.frozen (p := ⟨w.heap.size, 1, none⟩) (by simp)]; simp
  · rw [hb.frozen (p := ⟨w.heap.size, 2, none⟩) (by simp)]; simp

theorem Par.setI {w : World} {b : Nat} {t : ByteArray} {k : Nat} (h : Par w b t k) (m : Nat) (z : Int) (hz : z = (m : Int)) : Par (w.setCell ⟨b, 1, none⟩ (.int .i64 z)) b t m := hz ▸ h.set m

theorem gotV_parts (o : Option Got) : ∃ (x y : Int) (z : ByteArray) (r : Int), gotV o = .tuple #[.agg #[.int .i64 x, .int .i64 y, .string z], .int .i64 (advL o : Int), .int .i64 r] ∧ valV o = .tuple #[.agg #[.int .i64 x, .int .i64 y, .string z], .int .i64 r] := by
  cases o with
  | none => exact ⟨_, _, _, _, rfl, rfl⟩
  | some g => exact ⟨_, _, _, _, rfl, rfl⟩

/-- The result's cells, as they were made. -/
structure Res (W : World) (c : Nat) : Prop where
  r0 : W.cell? ⟨c, 0, none⟩ = some (.int .i64 0)
  r1 : W.cell? ⟨c, 1, none⟩ = some (.int .i64 0)
  r2 : W.cell? ⟨c, 2, none⟩ = some (.string ⟨#[]⟩)
  g0 : W.frozen? ⟨c, 0, none⟩ = false
  g1 : W.frozen? ⟨c, 1, none⟩ = false
  g2 : W.frozen? ⟨c, 2, none⟩ = false

abbrev heldV (w W : World) (b : Nat) (t : ByteArray) (k : Nat) : Prop :=
  W.cell? ⟨b, 0, none⟩ = some (.string t) ∧ W.cell? ⟨b, 1, none⟩ = some (.int .i64 (k : Int)) ∧ Par W b t k ∧ Below w.heap.size w W ∧ Alph W ∧ Res W w.heap.size

theorem Res.lt {W : World} {c : Nat} (h : Res W c) : c < W.heap.size := lt_of_cell h.r0
theorem Res.below {W W1 : World} {c : Nat} (h : Res W c) (hb : Below W.heap.size W W1) : Res W1 c :=
  ⟨(hb.cell (p := ⟨c, 0, none⟩) h.lt).trans h.r0, (hb.cell (p := ⟨c, 1, none⟩) h.lt).trans h.r1, (hb.cell (p := ⟨c, 2, none⟩) h.lt).trans h.r2, (hb.frozen (p := ⟨c, 0, none⟩) h.lt).trans h.g0, (hb.frozen (p := ⟨c, 1, none⟩) h.lt).trans h.g1, (hb.frozen (p := ⟨c, 2, none⟩) h.lt).trans h.g2⟩
theorem Res.other {W : World} {c : Nat} (h : Res W c) {d o : Nat} (hd : d ≠ c) (v : Value) : Res (W.setCell ⟨d, o, none⟩ v) c :=
  ⟨(World.cell?_setCell_other W ⟨d, o, none⟩ ⟨c, 0, none⟩ _ (by simp [hd])).trans h.r0, (World.cell?_setCell_other W ⟨d, o, none⟩ ⟨c, 1, none⟩ _ (by simp [hd])).trans h.r1, (World.cell?_setCell_other W ⟨d, o, none⟩ ⟨c, 2, none⟩ _ (by simp [hd])).trans h.r2, by rw [World.frozen?_setCell]; exact h.g0, by rw [World.frozen?_setCell]; exact h.g1, by rw [World.frozen?_setCell]; exact h.g2⟩
theorem Res.made (w : World) : Res (w.alloc zeroBare) w.heap.size := ⟨by simp, by simp, by simp, by simp, by simp, by simp⟩

theorem held_below2 {w W W1 : World} {b : Nat} {t : ByteArray} {k : Nat} (hb : Below W.heap.size W W1) (h : heldV w W b t k) : heldV w W1 b t k := by
  obtain ⟨_, _, h2, h3, h4, h5⟩ := h
  have hP := h2.below hb
  exact ⟨hP.text, hP.at_, hP, h3.trans (hb.mono h3.size), h4.below hb, h5.below hb⟩
theorem held_alloc {w W : World} {b : Nat} {t : ByteArray} {k : Nat} (h : heldV w W b t k) (o : Obj) : heldV w (W.alloc o) b t k := held_below2 ((Below.refl _ _).alloc (Nat.le_refl _) o) h
theorem held_set3 {w W : World} {b : Nat} {t : ByteArray} {k : Nat} (hA : Alph w) (hbl : b < w.heap.size) (h : heldV w W b t k) (c : Nat) (hc : w.heap.size < c) (v0 v1 v2 : Value) :
    heldV w (((W.setCell ⟨c, 0, none⟩ v0).setCell ⟨c, 1, none⟩ v1).setCell ⟨c, 2, none⟩ v2) b t k := by
  obtain ⟨_, _, h2, h3, _, h5⟩ := h
  have hne : c ≠ b := by omega
  have hne2 : c ≠ w.heap.size := by omega
  have hle : w.heap.size ≤ c := by omega
  have hP := ((h2.other hne v0 (o := 0)).other hne v1 (o := 1)).other hne v2 (o := 2)
  have hB : Below w.heap.size w (((W.setCell ⟨c, 0, none⟩ v0).setCell ⟨c, 1, none⟩ v1).setCell ⟨c, 2, none⟩ v2) := ((h3.setCell hle _).setCell hle _).setCell hle _
  exact ⟨hP.text, hP.at_, hP, hB, hA.below hB, ((h5.other hne2 v0 (o := 0)).other hne2 v1 (o := 1)).other hne2 v2 (o := 2)⟩

set_option maxRecDepth 100000 in
set_option maxHeartbeats 2000000 in
theorem value_any (b : Nat) (t : ByteArray) (k : Nat) (w : World) (h : Par w b t k) (ht : t.size ≤ 100000) (hk : k ≤ t.size) (hA : Alph w) :
    Calls Tryd.prog 36 #[.pointer (some ⟨b, 0, none⟩)] w (movePost (valV (readL (t.data.toList.drop k))) b t (k + advL (readL (t.data.toList.drop k))) w) := by
  have hb0 : Below w.heap.size w (w.alloc zeroBare) := (Below.refl _ _).alloc (Nat.le_refl _) _
  have HA := Lib.hid hA
  have hxd : (t.extract k t.size).data.toList = t.data.toList.drop k := Lib.extract_to_end t k
  have hxs : (t.extract k t.size).size ≤ 100000 := by rw [Lib.size_eq, hxd, List.length_drop, ← Lib.size_eq]; omega
  have cQ := fun W hW => read_any (t.extract k t.size) W hxs hW
  rw [hxd] at cQ
  clear hA hxd hxs
  have hbl := h.lt
  have HP := Lib.hid h
  clear h
  have ho : k + advL (readL (t.data.toList.drop k)) ≤ t.size := by
    cases hg : readL (t.data.toList.drop k) with
    | none => exact hk
    | some g =>
      have := (readL_right _ g hg).2.2.1
      rw [List.length_drop, ← Lib.size_eq] at this
      show k + g.m ≤ t.size
      omega
  generalize readL (t.data.toList.drop k) = o at *
  obtain ⟨x, y, z, r, hv, hv2⟩ := gotV_parts o
  rw [hv] at cQ
  rw [hv2]
  generalize advL o = m at *
  clear hv hv2
  have hS0 : heldV w (w.alloc zeroBare).drew b t k := ⟨(HP.out.alloc zeroBare).text, (HP.out.alloc zeroBare).at_, HP.out.below hb0.drew, hb0.drew, HA.out.below hb0.drew, (Res.made w).below (Below.refl _ _).drew⟩
  have cQ2 : ∀ W, heldV w W b t k → Calls Tryd.prog 52 #[.string (t.extract k t.size)] W fun e w' => e = .returned (.tuple #[.agg #[.int .i64 x, .int .i64 y, .string z], .int .i64 (m : Int), .int .i64 r]) ∧ heldV w w' b t k ∧ Below W.heap.size W w' :=
    fun W h => (cQ W h.2.2.2.2.1).mono fun e w' hh => ⟨hh.1, held_below2 hh.2 h, hh.2⟩
  have j1 : (0 : Int) ≤ (k : Int) := by omega
  have j2 : (k : Int) ≤ (t.size : Int) := by omega
  clear cQ
  go_enter Tryd.func36, Tryd.ntmps36
  go_wp2_with fail
  go_region_held3 (fun W => W.cell? ⟨b, 0, none⟩ = some (.string t) ∧ W.cell? ⟨b, 1, none⟩ = some (.int .i64 (k : Int)) ∧ Par W b t k ∧ Below w.heap.size w W ∧ Alph W ∧ Res W w.heap.size) (first | assumption | exact held_alloc (by assumption) _ | exact held_set3 HA.out hbl (by assumption) _ (by omega) _ _ _ | go_keep)
    (first | (go_at_call 52; refine (cQ2 _ (by assumption)).mono ?_; rintro e w' ⟨rfl, hh, hlow⟩; obtain ⟨hce, hfr⟩ := bcell hlow; have hsz := hlow.size; have hbl2 : b < w'.heap.size := hh.2.2.1.lt; have hrl2 : w.heap.size < w'.heap.size := hh.2.2.2.2.2.lt; have s0 := hh.2.2.2.2.2.r0; have s1 := hh.2.2.2.2.2.r1; have s2 := hh.2.2.2.2.2.r2))
  all_goals
    obtain ⟨e0, e1, eP, eB, _, eR⟩ := (by assumption : heldV w _ b t k)
    have e2 := eP.f1
    have r0 := eR.r0
    have r1 := eR.r1
    have r2 := eR.r2
    have g0 := eR.g0
    have g1 := eR.g1
    have g2 := eR.g2
  all_goals go_wp2_with fail
  all_goals
    have n1 : ¬ b = w.heap.size := by omega
    have n2 : ¬ w.heap.size = b := by omega
    refine bodyPost_ret (v := .tuple #[.agg #[.int .i64 x, .int .i64 y, .string z], .int .i64 r]) (by simp [results, Tryd.results36, go_sem, s0, s1, s2, n1, n2, hrl2]) rfl ⟨rfl, ?_, ?_⟩
    · repeat (first | with_reducible refine Par.alloc ?_ _ | with_reducible refine Par.other ?_ (by omega) _ | with_reducible refine Par.setI (k := k) ?_ _ _ (Int.natCast_add k m).symm)
      exact hh.2.2.1
    · repeat (first | with_reducible refine Moved.alloc ?_ _ | with_reducible refine Moved.setNew ?_ (by omega) _ | with_reducible refine Moved.setCell ?_ _)
      exact Moved.of_below hh.2.2.2.1

end Go.Proofs.YtcjnigmklijjiaaDoor
