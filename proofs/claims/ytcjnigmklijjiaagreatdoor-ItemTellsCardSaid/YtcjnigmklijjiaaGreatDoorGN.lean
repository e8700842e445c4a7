/- The contract of the law's same (scullerylaw03): is an item the document's? · What package item and the document answer, said alike. -/
import Derived.Test.YtcjnigmklijjiaaGreatDoorGK
import Derived.Test.YtcjnigmklijjiaaGreatDoorGM
import Derived.Deep.RegionWith

namespace Go.Proofs.YtcjnigmklijjiaaGreatDoor
open Go.RowKit

abbrev ritemObj (k n : Int) (s : ByteArray) (v : Value) : Obj := .cells #[.int .i64 k, .int .i64 n, .string s, v] 32

/-- Two boxes, and what was made behind them. -/
def TwoB (w : World) (a b c d a' b' c' d' : Value) (T T' : TypeId) (W : World) : Prop := Below (w.heap.size + 2) ((w.alloc (.cells #[a, b, c, d] T)).alloc (.cells #[a', b', c', d'] T')) W

theorem TwoB.cells {w W : World} {a b c d a' b' c' d' : Value} {T T' : TypeId} (h : TwoB w a b c d a' b' c' d' T T' W) :
    (W.cell? ⟨w.heap.size, 0, none⟩ = some a ∧ W.cell? ⟨w.heap.size, 1, none⟩ = some b ∧ W.cell? ⟨w.heap.size, 2, none⟩ = some c ∧ W.cell? ⟨w.heap.size, 3, none⟩ = some d) ∧
    (W.cell? ⟨w.heap.size + 1, 0, none⟩ = some a' ∧ W.cell? ⟨w.heap.size + 1, 1, none⟩ = some b' ∧ W.cell? ⟨w.heap.size + 1, 2, none⟩ = some c' ∧ W.cell? ⟨w.heap.size + 1, 3, none⟩ = some d') := by
  have a0 := box4 (w := w) (((Below.refl (w.heap.size + 1) (w.alloc (.cells #[a, b, c, d] T))).alloc (by simp) _).trans (Below.mono h (by omega)))
  have b0 := box4 (w := w.alloc (.cells #[a, b, c, d] T)) (a := a') (b := b') (c := c') (d := d') (T := T') (W := W) (by rw [show (w.alloc (.cells #[a, b, c, d] T)).heap.size + 1 = w.heap.size + 2 by simp]; exact h)
  rw [show (w.alloc (.cells #[a, b, c, d] T)).heap.size = w.heap.size + 1 by simp] at b0
  exact ⟨a0, b0⟩
theorem TwoB.later {w W : World} {a b c d a' b' c' d' : Value} {T T' : TypeId} (h : TwoB w a b c d a' b' c' d' T T' W) : Below w.heap.size w W :=
  (((Below.refl w.heap.size w).alloc (Nat.le_refl _) (.cells #[a, b, c, d] T)).alloc (by simp) (.cells #[a', b', c', d'] T')).trans (Below.mono h (by omega))
theorem TwoB.next {w W W1 : World} {a b c d a' b' c' d' : Value} {T T' : TypeId} (h : TwoB w a b c d a' b' c' d' T T' W) (hb : Below W.heap.size W W1) : TwoB w a b c d a' b' c' d' T T' W1 :=
  Below.trans h (hb.mono (by have := Below.size h; simp at this; omega))
theorem TwoB.drew {w W : World} {a b c d a' b' c' d' : Value} {T T' : TypeId} (h : TwoB w a b c d a' b' c' d' T T' W) : TwoB w a b c d a' b' c' d' T T' W.drew := h.next (Below.refl _ _).drew

set_option maxRecDepth 100000 in
set_option maxHeartbeats 4000000 in
theorem lsame_true (k n : Int) (s : List UInt8) (v1 v2 : Value) (ps qs : List Prm) (w : World) (h1 : Prms w v1 ps) (h2 : Prms w v2 qs) (hl1 : ps.length ≤ 100000) (hl2 : qs.length ≤ 100000) :
    Calls Tryz.prog 20 #[.agg #[.int .i64 k, .int .i64 n, .string (strB s), v1], .agg #[.int .i64 k, .int .i64 n, .string (strB s), v2]] w fun e w' => e = .returned (.bool (samePs ps qs)) ∧ Below w.heap.size w w' := by
  generalize strB s = S
  have cO : ∀ W, TwoB w (.int .i64 k) (.int .i64 n) (.string S) v1 (.int .i64 k) (.int .i64 n) (.string S) v2 26 32 W → Calls Tryz.prog 10 #[.agg #[.int .i64 k, .int .i64 n, .string S, v1]] W fun e w' => ∃ ao cap, e = .returned (.agg #[.int .i64 k, .int .i64 n, .string S, .slice ao ps.length cap]) ∧ Prms w' (.slice ao ps.length cap) ps ∧ TwoB w (.int .i64 k) (.int .i64 n) (.string S) v1 (.int .i64 k) (.int .i64 n) (.string S) v2 26 32 w' := fun W hW =>
    (own_any k n S v1 ps W (h1.below hW.later) (by omega)).mono fun e w' ⟨u, he, ho, hb⟩ => by
      obtain ⟨ao, cap, rfl⟩ := owns_form ho
      exact ⟨ao, cap, he, Prms.of_own ho, hW.next hb⟩
  have cS : ∀ W u, Prms W u ps → TwoB w (.int .i64 k) (.int .i64 n) (.string S) v1 (.int .i64 k) (.int .i64 n) (.string S) v2 26 32 W → Calls Tryz.prog 19 #[u, v2] W fun e w' => e = .returned (.bool (samePs ps qs)) ∧ TwoB w (.int .i64 k) (.int .i64 n) (.string S) v1 (.int .i64 k) (.int .i64 n) (.string S) v2 26 32 w' := fun W u hu hW =>
    (rsameParams_any u v2 ps qs W hu (h2.below hW.later) hl1 hl2).mono fun e w' ⟨he, hb⟩ => ⟨he, hW.next hb⟩
  have hK0 : TwoB w (.int .i64 k) (.int .i64 n) (.string S) v1 (.int .i64 k) (.int .i64 n) (.string S) v2 26 32 ((w.alloc (.cells #[.int .i64 k, .int .i64 n, .string S, v1] 26)).alloc (.cells #[.int .i64 k, .int .i64 n, .string S, v2] 32)) := Below.refl _ _
  have hF := run_field_rparams
  clear h1 h2 hl1 hl2
  generalize samePs ps qs = R at *
  go_enter Tryz.func20, Tryz.ntmps20
  go_wp2_with fail
  go_region_with (first
    | (go_at_call 10; refine (cO _ ?_).mono ?_; exact hK0.drew; rintro e w' ⟨ao, cap, rfl, hpu, hK⟩; obtain ⟨⟨x0, x1, x2, x3⟩, y0, y1, y2, y3⟩ := hK.cells)
    | (go_at_call 19; refine (cS _ _ ?_ ?_).mono ?_; assumption; assumption; rintro e w' ⟨rfl, hK⟩))
  all_goals go_wp2_with fail
  all_goals go_ret
  all_goals exact ⟨rfl, TwoB.later (by assumption)⟩

set_option maxRecDepth 100000 in
set_option maxHeartbeats 2000000 in
theorem lsame_any (k n k' n' : Int) (s s' : List UInt8) (v1 v2 : Value) (ps qs : List Prm) (w : World) (h1 : Prms w v1 ps) (h2 : Prms w v2 qs) (hl1 : ps.length ≤ 100000) (hl2 : qs.length ≤ 100000) :
    Calls Tryz.prog 20 #[.agg #[.int .i64 k, .int .i64 n, .string (strB s), v1], .agg #[.int .i64 k', .int .i64 n', .string (strB s'), v2]] w fun e w' => e = .returned (.bool (sameI k n s ps k' n' s' qs)) ∧ Below w.heap.size w w' := by
  have hb0 : Below w.heap.size w ((w.alloc (.cells #[.int .i64 k, .int .i64 n, .string (strB s), v1] 26)).alloc (.cells #[.int .i64 k', .int .i64 n', .string (strB s'), v2] 32)) := ((Below.refl _ _).alloc (Nat.le_refl _) _).alloc (by simp) _
  by_cases hk : k = k'
  · subst hk
    by_cases hn : n = n'
    · subst hn
      by_cases ht : (strB s).toList = (strB s').toList
      · have hs : s = s' := by simpa only [Lib.toList_data, strB_data] using ht
        subst hs
        have HS : sameI k n s ps k n s qs = samePs ps qs := by simp [sameI]
        rw [HS]
        exact lsame_true k n s v1 v2 ps qs w h1 h2 hl1 hl2
      · have HS : Hid (sameI k n s ps k n s' qs = false) := Lib.hid (by simp only [sameI, beq_eq_false_iff_ne.2 ht, Bool.and_false, Bool.false_and])
        have ht2 := beq_eq_false_iff_ne.2 ht
        clear h1 h2 ht
        generalize strB s = S at *
        generalize strB s' = S' at *
        go_enter Tryz.func20, Tryz.ntmps20
        go_wp2_with fail
        go_quiet (fail)
        go_wp2_with fail
        go_ret
        exact ⟨ret_eq (bool_eq HS.out.symm), hb0.trans ((below_drewN _ _).mono hb0.size)⟩
    · have HS : Hid (sameI k n s ps k n' s' qs = false) := Lib.hid (by simp only [sameI, beq_eq_false_iff_ne.2 hn, Bool.and_false, Bool.false_and])
      have hn2 : (n == n') = false := beq_eq_false_iff_ne.2 hn
      clear h1 h2
      generalize strB s = S at *
      generalize strB s' = S' at *
      go_enter Tryz.func20, Tryz.ntmps20
      go_wp2_with fail
      go_quiet (fail)
      go_wp2_with fail
      go_ret
      exact ⟨ret_eq (bool_eq HS.out.symm), hb0.trans ((below_drewN _ _).mono hb0.size)⟩
  · have HS : Hid (sameI k n s ps k' n' s' qs = false) := Lib.hid (by simp only [sameI, beq_eq_false_iff_ne.2 hk, Bool.false_and])
    have hk2 : (k == k') = false := beq_eq_false_iff_ne.2 hk
    clear h1 h2
    generalize strB s = S at *
    generalize strB s' = S' at *
    go_enter Tryz.func20, Tryz.ntmps20
    go_wp2_with fail
    go_quiet (fail)
    go_wp2_with fail
    go_ret
    exact ⟨ret_eq (bool_eq HS.out.symm), hb0.trans ((below_drewN _ _).mono hb0.size)⟩

end Go.Proofs.YtcjnigmklijjiaaGreatDoor

namespace Go.Proofs.YtcjnigmklijjiaaGreatDoor
open Go.RowKit

/-- An item that was read, how long it is, and whether there is one. -/
structure Rd where
  k : Int
  n : Int
  s : List UInt8
  ps : List Prm
  m : Nat
  E : Int

def rdI (o : Option (Got × List Prm × Nat)) : Rd := match o with
  | none => ⟨0, 0, [], [], 0, 2⟩
  | some (g, ps, m) => ⟨g.k, g.n, g.s, ps, m, 0⟩
def rdP (o : Option (Got × List Prm)) : Rd := match o with
  | none => ⟨0, 0, [], [], 0, 2⟩
  | some (g, ps) => ⟨g.k, g.n, g.s, ps, 0, 0⟩
def rdS (o : Option (List Prm × Nat)) : Rd := match o with
  | none => ⟨0, 0, [], [], 0, 2⟩
  | some (ps, m) => ⟨0, 0, [], ps, m, 0⟩

theorem Prms.nothing (w : World) : Prms w (.slice none 0 0) [] := ⟨none, 0, rfl, .inl rfl⟩

def threeV (r : Rd) (ao : Option Addr) (cap : Nat) : Value := .tuple #[.agg #[.int .i64 r.k, .int .i64 r.n, .string (strB r.s), .slice ao r.ps.length cap], .int .i64 (r.m : Int), .int .i64 r.E]
def twoV (r : Rd) (ao : Option Addr) (cap : Nat) : Value := .tuple #[.agg #[.int .i64 r.k, .int .i64 r.n, .string (strB r.s), .slice ao r.ps.length cap], .int .i64 r.E]
def psV (r : Rd) (ao : Option Addr) (cap : Nat) : Value := .tuple #[.slice ao r.ps.length cap, .int .i64 (r.m : Int), .int .i64 r.E]

theorem iread_all {o : Option (Got × List Prm × Nat)} {w : World} {e : Ending} {w' : World} (h : ireadPost o w e w') : ∃ ao cap, e = .returned (threeV (rdI o) ao cap) ∧ Prms w' (.slice ao (rdI o).ps.length cap) (rdI o).ps ∧ Below w.heap.size w w' := by
  cases o with
  | none => exact ⟨none, 0, h.2, Prms.nothing _, h.1⟩
  | some x =>
    obtain ⟨g, ps, m⟩ := x
    obtain ⟨hb, v, he, ho⟩ := h
    obtain ⟨ao, cap, rfl⟩ := owns_form ho
    exact ⟨ao, cap, he, Prms.of_own ho, hb⟩
theorem rread_all {o : Option (Got × List Prm × Nat)} {w : World} {e : Ending} {w' : World} (h : rreadPost o w e w') : ∃ ao cap, e = .returned (threeV (rdI o) ao cap) ∧ Prms w' (.slice ao (rdI o).ps.length cap) (rdI o).ps ∧ Below w.heap.size w w' := by
  cases o with
  | none => exact ⟨none, 0, h.2, Prms.nothing _, h.1⟩
  | some x =>
    obtain ⟨g, ps, m⟩ := x
    obtain ⟨hb, v, he, ho⟩ := h
    obtain ⟨ao, cap, rfl⟩ := owns_form ho
    exact ⟨ao, cap, he, Prms.of_own ho, hb⟩
theorem iparse_all {o : Option (Got × List Prm)} {w : World} {e : Ending} {w' : World} (h : parsePost o w e w') : ∃ ao cap, e = .returned (twoV (rdP o) ao cap) ∧ Prms w' (.slice ao (rdP o).ps.length cap) (rdP o).ps ∧ Below w.heap.size w w' := by
  cases o with
  | none => exact ⟨none, 0, h.2, Prms.nothing _, h.1⟩
  | some x =>
    obtain ⟨g, ps⟩ := x
    obtain ⟨hb, v, he, ho⟩ := h
    obtain ⟨ao, cap, rfl⟩ := owns_form ho
    exact ⟨ao, cap, he, Prms.of_own ho, hb⟩
theorem rparse_all {o : Option (Got × List Prm)} {w : World} {e : Ending} {w' : World} (h : rparsePost o w e w') : ∃ ao cap, e = .returned (twoV (rdP o) ao cap) ∧ Prms w' (.slice ao (rdP o).ps.length cap) (rdP o).ps ∧ Below w.heap.size w w' := by
  cases o with
  | none => exact ⟨none, 0, h.2, Prms.nothing _, h.1⟩
  | some x =>
    obtain ⟨g, ps⟩ := x
    obtain ⟨hb, v, he, ho⟩ := h
    obtain ⟨ao, cap, rfl⟩ := owns_form ho
    exact ⟨ao, cap, he, Prms.of_own ho, hb⟩
theorem iparams_all {o : Option (List Prm × Nat)} {w : World} {e : Ending} {w' : World} (h : psPost o w e w') : ∃ ao cap, e = .returned (psV (rdS o) ao cap) ∧ Prms w' (.slice ao (rdS o).ps.length cap) (rdS o).ps ∧ Below w.heap.size w w' := by
  cases o with
  | none => exact ⟨none, 0, h.2, Prms.nothing _, h.1⟩
  | some x =>
    obtain ⟨ps, m⟩ := x
    obtain ⟨hb, v, he, ho⟩ := h
    obtain ⟨ao, cap, rfl⟩ := owns_form ho
    exact ⟨ao, cap, he, Prms.of_own ho, hb⟩
theorem rparams_all {o : Option (List Prm × Nat)} {w : World} {e : Ending} {w' : World} (h : rpsPost o w e w') : ∃ ao cap, e = .returned (psV (rdS o) ao cap) ∧ Prms w' (.slice ao (rdS o).ps.length cap) (rdS o).ps ∧ Below w.heap.size w w' := by
  cases o with
  | none => exact ⟨none, 0, h.2, Prms.nothing _, h.1⟩
  | some x =>
    obtain ⟨ps, m⟩ := x
    obtain ⟨hb, v, he, ho⟩ := h
    obtain ⟨ao, cap, rfl⟩ := owns_form ho
    exact ⟨ao, cap, he, Prms.of_own ho, hb⟩

theorem rkV_form (l : List UInt8) : ∃ (X : ByteArray) (N E : Int), rkV l = .tuple #[.string X, .int .i64 N, .int .i64 E] := by
  unfold rkV
  split
  · exact ⟨_, _, _, rfl⟩
  · exact ⟨_, _, _, rfl⟩

/-- How many parameters there are at most. -/
theorem rdI_len (q : List UInt8) : (rdI (itmL q)).ps.length ≤ q.length := by
  cases h : itmL q with
  | none => exact Nat.zero_le _
  | some x =>
    obtain ⟨g, ps, m⟩ := x
    have h1 := itmL_used _ _ _ _ h
    have h2 := itmL_le _ _ _ _ h
    have h3 := szN_len ps
    show ps.length ≤ _
    omega
theorem rdP_len (q : List UInt8) : (rdP (parseL q)).ps.length ≤ q.length := by
  cases h : parseL q with
  | none => exact Nat.zero_le _
  | some x =>
    obtain ⟨g, ps⟩ := x
    have h1 := parseL_used _ _ _ h
    have h3 := szN_len ps
    show ps.length ≤ _
    omega
theorem rdS_len (q : List UInt8) : (rdS (psL q [] 0)).ps.length ≤ q.length := by
  cases h : psL q [] 0 with
  | none => exact Nat.zero_le _
  | some x =>
    obtain ⟨ps, m⟩ := x
    have h1 := psL_used _ _ _ _ _ _ (Nat.le_refl _) h
    have h2 := psL_le _ _ _ _ _ _ (Nat.le_refl _) h
    have h3 := szN_len ps
    have h4 : szN [] = 0 := rfl
    show ps.length ≤ _
    omega

theorem box8 {w W : World} {a b c d a' b' c' d' : Value} {T : TypeId} (hb : Below (w.heap.size + 1) (w.alloc (.cells #[a, b, c, d, a', b', c', d'] T)) W) :
    (W.cell? ⟨w.heap.size, 0, none⟩ = some a ∧ W.cell? ⟨w.heap.size, 1, none⟩ = some b ∧ W.cell? ⟨w.heap.size, 2, none⟩ = some c ∧ W.cell? ⟨w.heap.size, 3, none⟩ = some d) ∧
    (W.cell? ⟨w.heap.size, 4, none⟩ = some a' ∧ W.cell? ⟨w.heap.size, 5, none⟩ = some b' ∧ W.cell? ⟨w.heap.size, 6, none⟩ = some c' ∧ W.cell? ⟨w.heap.size, 7, none⟩ = some d') := by
  refine ⟨⟨?_, ?_, ?_, ?_⟩, ?_, ?_, ?_, ?_⟩
  · rw [hb.cell (p := ⟨w.heap.size, 0, none⟩) (by simp)]; simp
  · rw [hb.cell (p := ⟨w.heap.size, 1, none⟩) (by simp)]; simp
  · rw [hb.cell (p := ⟨w.heap.size, 2, none⟩) (by simp)]; simp
  · rw [hb.cell (p := ⟨w.heap.size, 3, none⟩) (by simp)]; simp
  · rw [hb.cell (p := ⟨w.heap.size, 4, none⟩) (by simp)]; simp
  · rw [hb.cell (p := ⟨w.heap.size, 5, none⟩) (by simp)]; simp
  · rw [hb.cell (p := ⟨w.heap.size, 6, none⟩) (by simp)]; simp
  · rw [hb.cell (p := ⟨w.heap.size, 7, none⟩) (by simp)]; simp
theorem box_made {w W : World} {o : Obj} (c : Below (w.heap.size + 1) (w.alloc o) W) (o1 : Obj) : Below (w.heap.size + 1) (w.alloc o) (W.alloc o1) :=
  c.alloc (by simpa using c.size) o1

end Go.Proofs.YtcjnigmklijjiaaGreatDoor
