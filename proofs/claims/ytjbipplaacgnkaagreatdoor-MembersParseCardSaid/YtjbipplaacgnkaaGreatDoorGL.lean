/- The contract of the document's Put (sculleryref03): a parameter more, or another value of one. · The contract of item.Same. · The contracts of the document's SameItem (sculleryref04), and of members.isOfOneKind. · The contract of members.joined at items: their texts, with a separator between. · The contract of members.memberText. -/
import Derived.Test.YtjbipplaacgnkaaGreatDoorGK
import Derived.Test.YtjbipplaacgnkaaGreatDoorGH
import Derived.Test.YtjbipplaacgnkaaGreatDoorGJ
import Derived.Test.YtjbipplaacgnkaaGreatDoorGI

namespace Go.Proofs.YtjbipplaacgnkaaGreatDoor
open Go.RowKit Go.Maps

abbrev rparamObj (p : Prm) : Obj := .cells #[.string (strB p.key), .int .i64 p.k, .int .i64 p.n, .string (strB p.s)] 116

def rputPost (acc : List Prm) (p : Prm) (base : Nat) (w : World) (e : Ending) (w' : World) : Prop :=
  Below base w w' ∧ ∃ v, e = .returned v ∧ w'.ownsRow base 116 4 v (putL acc p).length (rowP (putL acc p))

theorem box4 {w W : World} {a b c d : Value} {T : TypeId} (hb : Below (w.heap.size + 1) (w.alloc (.cells #[a, b, c, d] T)) W) :
    W.cell? ⟨w.heap.size, 0, none⟩ = some a ∧ W.cell? ⟨w.heap.size, 1, none⟩ = some b ∧ W.cell? ⟨w.heap.size, 2, none⟩ = some c ∧ W.cell? ⟨w.heap.size, 3, none⟩ = some d := by
  refine ⟨?_, ?_, ?_, ?_⟩
  · rw [hb.cell (p := ⟨w.heap.size, 0, none⟩) (by simp)]; simp
  · rw [hb.cell (p := ⟨w.heap.size, 1, none⟩) (by simp)]; simp
  · rw [hb.cell (p := ⟨w.heap.size, 2, none⟩) (by simp)]; simp
  · rw [hb.cell (p := ⟨w.heap.size, 3, none⟩) (by simp)]; simp
theorem box_next {w W W1 : World} {o : Obj} (c : Below (w.heap.size + 1) (w.alloc o) W) (hb : Below W.heap.size W W1) : Below (w.heap.size + 1) (w.alloc o) W1 :=
  c.trans (hb.mono (by simpa using c.size))
theorem box_later {w W : World} {o : Obj} (c : Below (w.heap.size + 1) (w.alloc o) W) : Below w.heap.size w W :=
  ((Below.refl w.heap.size w).alloc (Nat.le_refl _) o).trans (c.mono (Nat.le_succ _))

/-- The cells of one row of an owned slice of parameters. -/
theorem owns_at {w : World} {base : Nat} {e : TypeId} {ao : Option Addr} {m cap : Nat} {ps : List Prm} (h : w.ownsRow base e 4 (.slice ao m cap) ps.length (rowP ps)) (j : Nat) (p : Prm) (hp : ps[j]? = some p) :
    ∃ g, ao = some ⟨g, 0, none⟩ ∧ base ≤ g ∧ g < w.heap.size ∧ (w.cell? ⟨g, j * 4, none⟩ = some (.string (strB p.key)) ∧ w.cell? ⟨g, j * 4 + 1, none⟩ = some (.int .i64 p.k) ∧ w.cell? ⟨g, j * 4 + 2, none⟩ = some (.int .i64 p.n) ∧ w.cell? ⟨g, j * 4 + 3, none⟩ = some (.string (strB p.s))) ∧
      w.frozen? ⟨g, j * 4 + 1, none⟩ = false ∧ w.frozen? ⟨g, j * 4 + 2, none⟩ = false ∧ w.frozen? ⟨g, j * 4 + 3, none⟩ = false := by
  have hj : j < ps.length := (List.getElem?_eq_some_iff.1 hp).1
  obtain ⟨g, cap1, hv, hg, hg2, _⟩ := owns_slice h (by omega)
  obtain ⟨rfl, _, rfl⟩ := Value.slice.inj hv
  obtain ⟨ao2, cap2, hv2, hc⟩ := Prms.of_own h
  obtain ⟨rfl, rfl, rfl⟩ := Value.slice.inj hv2
  rcases hc with hnil | ⟨c, off, hao, hcell⟩
  · rw [hnil] at hp; cases hp
  · obtain ⟨rfl, rfl, _⟩ := Addr.mk.inj (Option.some.inj hao)
    obtain ⟨x0, x1, x2, x3⟩ := rowP_at ps j p hp
    have c0 := hcell _ _ x0
    have c1 := hcell _ _ x1
    have c2 := hcell _ _ x2
    have c3 := hcell _ _ x3
    simp only [Nat.zero_add] at c0 c1 c2 c3
    obtain ⟨_, _, f1⟩ := owns_cell h (j * 4 + 1) (by omega)
    obtain ⟨_, _, f2⟩ := owns_cell h (j * 4 + 2) (by omega)
    obtain ⟨_, _, f3⟩ := owns_cell h (j * 4 + 3) (by omega)
    exact ⟨g, rfl, hg, hg2, ⟨c0, c1, c2, c3⟩, f1, f2, f3⟩

theorem idx_first (acc : List Prm) (p r : Prm) (j : Nat) (hr : acc[j]? = some r) (hk : r.key = p.key) (hb : ∀ (m : Nat) (q : Prm), m < j → acc[m]? = some q → q.key ≠ p.key) : idxL (acc.map Prm.key) p.key = j := by
  have hj : j < acc.length := (List.getElem?_eq_some_iff.1 hr).1
  have hjm : j < (acc.map Prm.key).length := by rw [List.length_map]; exact hj
  unfold idxL
  rw [List.findIdx_eq hjm]
  constructor
  · have : (acc.map Prm.key)[j]? = some r.key := by rw [List.getElem?_map, hr]; rfl
    rw [List.getElem?_eq_getElem hjm, Option.some.injEq] at this
    rw [this, hk]; simp
  · intro m hm
    have hml : m < acc.length := by omega
    have := hb m _ hm (List.getElem?_eq_getElem hml)
    simpa using this

theorem idx_none (acc : List Prm) (p : Prm) (hb : ∀ (m : Nat) (q : Prm), m < acc.length → acc[m]? = some q → q.key ≠ p.key) : ¬ idxL (acc.map Prm.key) p.key < acc.length := by
  intro h
  have hm : p.key ∈ acc.map Prm.key := (idxL_lt _ _).1 (by rw [List.length_map]; exact h)
  obtain ⟨q, hq, hk⟩ := List.mem_map.1 hm
  obtain ⟨m, hm⟩ := List.getElem?_of_mem hq
  exact hb m q (List.getElem?_eq_some_iff.1 hm).1 hm hk

theorem set_same {α : Type} (l : List α) (i : Nat) (a : α) (h : l[i]? = some a) : l.set i a = l := by
  obtain ⟨hi, rfl⟩ := List.getElem?_eq_some_iff.1 h
  exact List.set_getElem_self hi

set_option maxRecDepth 100000 in
set_option maxHeartbeats 2000000 in
theorem rput_any (v : Value) (acc : List Prm) (p : Prm) (base : Nat) (w : World) (h : w.ownsRow base 116 4 v acc.length (rowP acc)) (hb : base ≤ w.heap.size) (hl : acc.length ≤ 100000) :
    Calls Tryz.prog 100 #[v, .agg #[.string (strB p.key), .int .i64 p.k, .int .i64 p.n, .string (strB p.s)]] w (rputPost acc p base w) := by
  obtain ⟨i0, hi, hz0, hz1, hz2⟩ := info_parts info_rparam
  obtain ⟨ao, cap, rfl⟩ := owns_form h
  have HO := Lib.hid (ownsRow_later h ((Below.refl w.heap.size w).alloc (Nat.le_refl _) (rparamObj p)))
  have HB := Lib.hid hb
  clear h hb
  go_enter Tryz.func100, Tryz.ntmps100
  go_wp2_with fail
  obtain ⟨W0, hW0⟩ : ∃ W0, w.alloc (rparamObj p) = W0 := ⟨_, rfl⟩
  have c0 : Below (w.heap.size + 1) (w.alloc (rparamObj p)) W0 := by rw [← hW0]; exact Below.refl _ _
  rw [hW0] at HO
  rw [show w.alloc (.cells #[.string (strB p.key), .int .i64 p.k, .int .i64 p.n, .string (strB p.s)] 116) = W0 from hW0]
  clear hW0
  go_loopw [5] (fun i wr => ∃ j : Nat, i = .int .i64 j ∧ j ≤ acc.length ∧ Hid (∀ (m : Nat) (q : Prm), m < j → acc[m]? = some q → q.key ≠ p.key) ∧ Below W0.heap.size W0 wr) (fun i _ => acc.length - (intOf i).toNat)
  case atStart => exact ⟨0, rfl, Nat.zero_le _, Lib.hid (fun m q hm => absurd hm (Nat.not_lt_zero _)), Below.refl _ _⟩
  case round =>
    obtain ⟨j, rfl, hj, H, hb⟩ := hrel
    obtain ⟨p0, p1, p2, p3⟩ := box4 (box_next c0 hb)
    have HB2 := Lib.hid hb
    have HOw := Lib.hid (ownsRow_later HO.out hb)
    have HBw : Hid (Below base w wr) := Lib.hid ((box_later (box_next c0 hb)).mono HB.out)
    have hbs : base ≤ wr.heap.size := Nat.le_trans HB.out HBw.out.size
    clear hb
    by_cases hlt : j < acc.length
    · obtain ⟨r, hr⟩ : ∃ r, acc[j]? = some r := ⟨_, List.getElem?_eq_getElem hlt⟩
      obtain ⟨g, rfl, hg, hg2, ⟨a0, a1, a2, a3⟩, f1, f2, f3⟩ := owns_at HOw.out j r hr
      have jI : (j : Int) < (acc.length : Int) := by omega
      have j0 : (0 : Int) ≤ (j : Int) := by omega
      have HR := Lib.hid hr
      by_cases hkk : r.key = p.key
      · have HI := Lib.hid (idx_first acc p r j hr hkk H.out)
        rw [hkk] at a0
        have hx0 := Lib.hid (rowP_at acc j r hr).1
        rw [hkk] at hx0
        clear hr
        go_wp2_with fail
        go_quiet (fail)
        go_wp2_with fail
        refine bodyPost_ret (v := .slice (some ⟨g, 0, none⟩) acc.length cap) (by simp [results, Tryz.results100, go_sem]) rfl ⟨?_, _, rfl, ?_⟩
        · exact (((HBw.out.trans ((below_drewN _ _).mono hbs)).setCell hg _).setCell hg _).setCell hg _
        · have s0 := (ownsRow_later HOw.out (below_drewN wr nq)).stored (j * 4 + 1) (.int .i64 p.k)
          have s1 := s0.1.stored (j * 4 + 1 + 1) (.int .i64 p.n)
          have s2 := s1.1.stored (j * 4 + 1 + 2) (.string (strB p.s))
          rw [putL, HI.out, if_pos hlt, List.length_set, rowP_set acc j p hlt, set_same (rowP acc) (j * 4) (.string (strB p.key)) hx0.out]
          exact s2.1
      · have hT : ((strB r.key).toList == (strB p.key).toList) = false := by
          rw [beq_eq_false_iff_ne]
          intro h
          exact hkk (by simpa only [Lib.toList_data, strB_data] using h)
        have HN : Hid (∀ (m : Nat) (q : Prm), m < j + 1 → acc[m]? = some q → q.key ≠ p.key) := Lib.hid (fun m q hm hq => by
          by_cases e : m = j
          · subst e
            rw [HR.out] at hq
            obtain rfl := Option.some.inj hq
            exact hkk
          · exact H.out m q (by omega) hq)
        clear hr hkk
        generalize strB r.key = RK at *
        go_wp2_with fail
        go_quiet (fail)
        go_wp2_with fail
        go_roundw
        case rel => exact ⟨j + 1, by go_num, by omega, HN, HB2.out.trans ((below_drewN _ _).mono HB2.out.size)⟩
        case measure => simp [intOf]; omega
    · obtain rfl : j = acc.length := by omega
      have HI := Lib.hid (idx_none acc p H.out)
      go_wp2_with (at_builtin; refine wpList_append_own _ rfl _ _ 52 rfl base 116 i0 (.agg #[.string ⟨#[]⟩, .int .i64 0, .int .i64 0, .string ⟨#[]⟩]) 4 48 Tryz.underlying52 hi hz0 hz1 hz2 rfl (by decide) _ _ _ rfl (HOw.out.alloc _) ⟨_, 0, none⟩ 1 1 (cellsP p) rfl rfl (cells_new _ _ _) (by simp [Value.oneCell', cellsP]) (by unfold maxLen; omega) (by omega) (by simp; omega) ?_; intro v' w5 hown5 hgrow5 _)
      refine bodyPost_ret (v := v') (by simp [results, Tryz.results100, go_sem]) rfl ⟨?_, _, rfl, ?_⟩
      · have h1 := HBw.out.alloc hbs (.cells #[.string (strB p.key), .int .i64 p.k, .int .i64 p.n, .string (strB p.s)] 116)
        exact ⟨hgrow5.os.trans h1.os, hgrow5.tape.trans h1.tape, hgrow5.output.trans h1.output, Nat.le_trans h1.size hgrow5.size, fun i hi => (hgrow5.block i (Nat.lt_of_lt_of_le hi (by simp; omega)) (own_ne HOw.out hi)).trans (h1.block i hi)⟩
      · rw [putL, if_neg HI.out, List.length_append, rowP_snoc]
        exact hown5

end Go.Proofs.YtjbipplaacgnkaaGreatDoor

namespace Go.Proofs.YtjbipplaacgnkaaGreatDoor
open Go.RowKit

/-- Whether two items are the same. -/
def sameI (k n : Int) (s : List UInt8) (ps : List Prm) (k' n' : Int) (s' : List UInt8) (qs : List Prm) : Bool :=
  (k == k' && (n == n' && ((strB s).toList == (strB s').toList))) && samePs ps qs

set_option maxRecDepth 100000 in
set_option maxHeartbeats 2000000 in
theorem isame_any (k n k' n' : Int) (s s' : List UInt8) (v1 v2 : Value) (ps qs : List Prm) (w : World) (h1 : Prms w v1 ps) (h2 : Prms w v2 qs) (hl1 : ps.length ≤ 100000) (hl2 : qs.length ≤ 100000) :
    Calls Tryz.prog 44 #[.agg #[.int .i64 k, .int .i64 n, .string (strB s), v1], .agg #[.int .i64 k', .int .i64 n', .string (strB s'), v2]] w fun e w' => e = .returned (.bool (sameI k n s ps k' n' s' qs)) ∧ Below w.heap.size w w' := by
  have H1 := Lib.hid h1
  have H2 := Lib.hid h2
  have hb0 : Below w.heap.size w ((w.alloc (.cells #[.int .i64 k, .int .i64 n, .string (strB s), v1] 46)).alloc (.cells #[.int .i64 k', .int .i64 n', .string (strB s'), v2] 46)) := ((Below.refl _ _).alloc (Nat.le_refl _) _).alloc (by simp) _
  have cE := equal_any v1 v2 ps qs ((w.alloc (.cells #[.int .i64 k, .int .i64 n, .string (strB s), v1] 46)).alloc (.cells #[.int .i64 k', .int .i64 n', .string (strB s'), v2] 46)) (h1.below hb0) (h2.below hb0) hl1 hl2
  obtain ⟨ao1, cap1, rfl, hc1⟩ := h1
  obtain ⟨ao2, cap2, rfl, hc2⟩ := h2
  clear hc1 hc2
  by_cases hk : k = k'
  · subst hk
    by_cases hn : n = n'
    · subst hn
      by_cases ht : (strB s).toList = (strB s').toList
      · have hs : s = s' := by simpa only [Lib.toList_data, strB_data] using ht
        subst hs
        have HS : Hid (sameI k n s ps k n s qs = samePs ps qs) := Lib.hid (by simp [sameI])
        clear ht
        generalize strB s = S at *
        go_enter Tryz.func44, Tryz.ntmps44
        go_wp2_with fail
        refine cE.mono ?_
        rintro e w1 ⟨rfl, hb1⟩
        go_wp2_with fail
        go_ret
        exact ⟨ret_eq (bool_eq HS.out.symm), hb0.trans (hb1.mono hb0.size)⟩
      · have HS : Hid (sameI k n s ps k n s' qs = false) := Lib.hid (by simp only [sameI, beq_eq_false_iff_ne.2 ht, Bool.and_false, Bool.false_and])
        generalize strB s = S at *
        generalize strB s' = S' at *
        clear cE
        go_enter Tryz.func44, Tryz.ntmps44
        go_wp2_with fail
        go_ret
        exact ⟨ret_eq (bool_eq HS.out.symm), hb0⟩
    · have HS : Hid (sameI k n s ps k n' s' qs = false) := Lib.hid (by simp only [sameI, beq_eq_false_iff_ne.2 hn, Bool.and_false, Bool.false_and])
      clear cE
      go_enter Tryz.func44, Tryz.ntmps44
      go_wp2_with fail
      go_ret
      exact ⟨ret_eq (bool_eq HS.out.symm), hb0⟩
  · have HS : Hid (sameI k n s ps k' n' s' qs = false) := Lib.hid (by simp only [sameI, beq_eq_false_iff_ne.2 hk, Bool.false_and])
    clear cE
    go_enter Tryz.func44, Tryz.ntmps44
    go_wp2_with fail
    go_ret
    exact ⟨ret_eq (bool_eq HS.out.symm), hb0⟩

end Go.Proofs.YtjbipplaacgnkaaGreatDoor

namespace Go.Proofs.YtjbipplaacgnkaaGreatDoor
open Go.RowKit Go.Maps

set_option maxRecDepth 100000 in
set_option maxHeartbeats 2000000 in
theorem r4sameItem_any (k n k' n' : Int) (s s' : List UInt8) (v1 v2 : Value) (ps qs : List Prm) (w : World) (h1 : Prms w v1 ps) (h2 : Prms w v2 qs) (hl1 : ps.length ≤ 100000) (hl2 : qs.length ≤ 100000) :
    Calls Tryz.prog 32 #[.agg #[.int .i64 k, .int .i64 n, .string (strB s), v1], .agg #[.int .i64 k', .int .i64 n', .string (strB s'), v2]] w fun e w' => e = .returned (.bool (sameI k n s ps k' n' s' qs)) ∧ Below w.heap.size w w' := by
  have hb0 : Below w.heap.size w ((w.alloc (.cells #[.int .i64 k, .int .i64 n, .string (strB s), v1] 54)).alloc (.cells #[.int .i64 k', .int .i64 n', .string (strB s'), v2] 54)) := ((Below.refl _ _).alloc (Nat.le_refl _) _).alloc (by simp) _
  have cE := rsameParams_any v1 v2 ps qs ((w.alloc (.cells #[.int .i64 k, .int .i64 n, .string (strB s), v1] 54)).alloc (.cells #[.int .i64 k', .int .i64 n', .string (strB s'), v2] 54)) (h1.below hb0) (h2.below hb0) hl1 hl2
  obtain ⟨ao1, cap1, rfl, hc1⟩ := h1
  obtain ⟨ao2, cap2, rfl, hc2⟩ := h2
  clear hc1 hc2
  by_cases hk : k = k'
  · subst hk
    by_cases hn : n = n'
    · subst hn
      by_cases ht : (strB s).toList = (strB s').toList
      · have hs : s = s' := by simpa only [Lib.toList_data, strB_data] using ht
        subst hs
        have HS : Hid (sameI k n s ps k n s qs = samePs ps qs) := Lib.hid (by simp [sameI])
        clear ht
        generalize strB s = S at *
        go_enter Tryz.func32, Tryz.ntmps32
        go_wp2_with fail
        refine cE.mono ?_
        rintro e w1 ⟨rfl, hb1⟩
        go_wp2_with fail
        go_ret
        exact ⟨ret_eq (bool_eq HS.out.symm), hb0.trans (hb1.mono hb0.size)⟩
      · have HS : Hid (sameI k n s ps k n s' qs = false) := Lib.hid (by simp only [sameI, beq_eq_false_iff_ne.2 ht, Bool.and_false, Bool.false_and])
        generalize strB s = S at *
        generalize strB s' = S' at *
        clear cE
        go_enter Tryz.func32, Tryz.ntmps32
        go_wp2_with fail
        go_ret
        exact ⟨ret_eq (bool_eq HS.out.symm), hb0⟩
    · have HS : Hid (sameI k n s ps k n' s' qs = false) := Lib.hid (by simp only [sameI, beq_eq_false_iff_ne.2 hn, Bool.and_false, Bool.false_and])
      clear cE
      go_enter Tryz.func32, Tryz.ntmps32
      go_wp2_with fail
      go_ret
      exact ⟨ret_eq (bool_eq HS.out.symm), hb0⟩
  · have HS : Hid (sameI k n s ps k' n' s' qs = false) := Lib.hid (by simp only [sameI, beq_eq_false_iff_ne.2 hk, Bool.false_and])
    clear cE
    go_enter Tryz.func32, Tryz.ntmps32
    go_wp2_with fail
    go_ret
    exact ⟨ret_eq (bool_eq HS.out.symm), hb0⟩

/-- Whether all is empty that members of its kind do not use. -/
def kindL (M : Mem) : Bool := if M.inner then sameI M.it.k M.it.n M.it.s M.it.ps 0 0 [] [] else M.its.isEmpty && M.ps.isEmpty

theorem box7 {w W : World} {a b c d a' b' c' : Value} {T : TypeId} (hb : Below (w.heap.size + 1) (w.alloc (.cells #[a, b, c, d, a', b', c'] T)) W) :
    W.cell? ⟨w.heap.size, 0, none⟩ = some a ∧ W.cell? ⟨w.heap.size, 1, none⟩ = some b ∧ W.cell? ⟨w.heap.size, 2, none⟩ = some c ∧ W.cell? ⟨w.heap.size, 3, none⟩ = some d ∧ W.cell? ⟨w.heap.size, 4, none⟩ = some a' ∧ W.cell? ⟨w.heap.size, 5, none⟩ = some b' ∧ W.cell? ⟨w.heap.size, 6, none⟩ = some c' := by
  refine ⟨?_, ?_, ?_, ?_, ?_, ?_, ?_⟩
  · rw [hb.cell (p := ⟨w.heap.size, 0, none⟩) (by simp)]; simp
  · rw [hb.cell (p := ⟨w.heap.size, 1, none⟩) (by simp)]; simp
  · rw [hb.cell (p := ⟨w.heap.size, 2, none⟩) (by simp)]; simp
  · rw [hb.cell (p := ⟨w.heap.size, 3, none⟩) (by simp)]; simp
  · rw [hb.cell (p := ⟨w.heap.size, 4, none⟩) (by simp)]; simp
  · rw [hb.cell (p := ⟨w.heap.size, 5, none⟩) (by simp)]; simp
  · rw [hb.cell (p := ⟨w.heap.size, 6, none⟩) (by simp)]; simp

set_option maxRecDepth 100000 in
set_option maxHeartbeats 2000000 in
theorem isOfOneKind_any (M : Mem) (v : Value) (w : World) (h : MemAt 0 none w M v) (hl : M.it.ps.length ≤ 100000) :
    Calls Tryz.prog 61 #[v] w fun e w' => e = .returned (.bool (kindL M)) ∧ Below w.heap.size w w' := by
  obtain ⟨u, vi, vp, rfl, hu, hvi, hvp⟩ := h
  obtain ⟨ao1, cap1, rfl⟩ := hu.form
  obtain ⟨ao2, cap2, rfl⟩ := hvi.form
  obtain ⟨ao3, cap3, rfl⟩ := hvp.form
  obtain ⟨b, ⟨k, n, s, ps⟩, its, qs⟩ := M
  simp only at *
  have hb0 : Below w.heap.size w (w.alloc (memO b k n (strB s) (.slice ao1 ps.length cap1) (.slice ao2 its.length cap2) (.slice ao3 qs.length cap3))) := (Below.refl _ _).alloc (Nat.le_refl _) _
  cases b with
  | true =>
    have cS := isame_any k n 0 0 s [] (.slice ao1 ps.length cap1) (.slice none 0 0) ps [] (w.alloc (memO true k n (strB s) (.slice ao1 ps.length cap1) (.slice ao2 its.length cap2) (.slice ao3 qs.length cap3))) (hu.prms.below hb0) ⟨none, 0, rfl, .inl rfl⟩ hl (by simp)
    have HS : Hid (kindL ⟨true, ⟨k, n, s, ps⟩, its, qs⟩ = sameI k n s ps 0 0 [] []) := Lib.hid rfl
    rw [show strB [] = ⟨#[]⟩ from rfl] at cS
    clear hu hvi hvp
    generalize strB s = S at *
    go_enter Tryz.func61, Tryz.ntmps61
    go_wp2_with fail
    refine cS.mono ?_
    rintro e w1 ⟨rfl, hb1⟩
    go_wp2_with fail
    go_ret
    exact ⟨ret_eq (bool_eq HS.out.symm), hb0.trans (hb1.mono hb0.size)⟩
  | false =>
    have HS : Hid (kindL ⟨false, ⟨k, n, s, ps⟩, its, qs⟩ = (((its.length : Int) == 0) && ((qs.length : Int) == 0))) := Lib.hid (by
      show (its.isEmpty && qs.isEmpty) = _
      cases its <;> cases qs <;> simp <;> omega)
    clear hu hvi hvp
    generalize strB s = S at *
    cases h1 : ((its.length : Int) == 0)
    · go_enter Tryz.func61, Tryz.ntmps61
      go_wp2_with fail
      go_ret
      exact ⟨ret_eq (bool_eq (by rw [HS.out, h1]; simp)), hb0⟩
    · go_enter Tryz.func61, Tryz.ntmps61
      go_wp2_with fail
      go_ret
      exact ⟨ret_eq (bool_eq (by rw [HS.out, h1]; simp)), hb0⟩

end Go.Proofs.YtjbipplaacgnkaaGreatDoor

namespace Go.Proofs.YtjbipplaacgnkaaGreatDoor
open Go.RowKit Go.Maps

/-- The texts of parts, one behind the other, with a separator between. -/
def jnGo {α : Type} (f : α → Option (List UInt8)) (sep : List UInt8) : Bool → List α → Option (List UInt8)
  | _, [] => some []
  | first, x :: xs => match f x with
    | none => none
    | some t => (jnGo f sep false xs).map ((if first then t else sep ++ t) ++ ·)
theorem jnGo_none {α : Type} (f : α → Option (List UInt8)) (sep : List UInt8) (b : Bool) (x : α) (xs : List α) (h : f x = none) : jnGo f sep b (x :: xs) = none := by rw [jnGo, h]
theorem jnGo_some {α : Type} (f : α → Option (List UInt8)) (sep : List UInt8) (b : Bool) (x : α) (xs : List α) (t : List UInt8) (h : f x = some t) : jnGo f sep b (x :: xs) = (jnGo f sep false xs).map ((if b then t else sep ++ t) ++ ·) := by rw [jnGo, h]

def itT (x : Itm) : Option (List UInt8) := prT x.k x.n x.s x.ps
/-- What bounds an item's text. -/
def ItmOk (x : Itm) : Prop := x.ps.length ≤ 100000 ∧ (∀ p ∈ x.ps, Small p) ∧ x.s.length ≤ 100000 ∧ -9223372036854775808 ≤ x.n ∧ x.n ≤ 9223372036854775807

theorem itT_len (x : Itm) (t : List UInt8) (h : ItmOk x) (ht : itT x = some t) : t.length ≤ 50000000000 := by
  obtain ⟨h1, h2, h3, _⟩ := h
  obtain ⟨hr, _, v, hv, rfl⟩ := prT_some _ _ _ _ _ ht
  have a := textL_len _ _ _ hr
  have b := ppGo_len x.ps v h2 hv
  rw [List.length_append]
  omega

theorem drop_at {α : Type} (xs : List α) (j : Nat) (x : α) (h : xs[j]? = some x) : xs.drop j = x :: xs.drop (j + 1) := by
  obtain ⟨hlt, e⟩ := List.getElem?_eq_some_iff.1 h
  rw [List.drop_eq_getElem_cons hlt, e]

set_option maxRecDepth 100000 in
set_option maxHeartbeats 4000000 in
theorem joinedI_any (v : Value) (xs : List Itm) (sep : List UInt8) (w : World) (h : ItmsOff 0 none w v xs) (hl : xs.length ≤ 2000) (hk : ∀ x ∈ xs, ItmOk x) (hs : sep.length ≤ 10) (hA : Alph w) (hP : Pow w) :
    Calls Tryz.prog 63 #[v, .string (strB sep), .func (.func 62) #[] #[]] w (printPost (textV (jnGo itT sep true xs)) w) := by
  have hv := h
  obtain ⟨ao, cap, rfl, hc⟩ := hv
  have HI := Lib.hid hc
  have HA := Lib.hid hA
  have HP := Lib.hid hP
  have HK := Lib.hid hk
  have hsz := strB_size sep
  have hs3 : (strB sep).size ≤ 10 := by omega
  clear hA hP hk hc h
  have hfr : Lib.IsBuilder 120 5 w.heap.size w.heap.size (Lib.byteCells []) (w.alloc (.cells #[.pointer none, .slice none 0 0] 120)) :=
    .inl ⟨Nat.le_refl _, .slice none 0 0, heap_alloc_new w _, World.ownsRow_nil _ _ _ _, by simp [Value.ownBlock]⟩
  have Hfr := Lib.hid hfr
  have HB1 := Lib.hid ((Below.refl w.heap.size w).alloc (Nat.le_refl _) (.cells #[.pointer none, .slice none 0 0] 120))
  clear hfr
  have HSep := Lib.hid (show Lib.strCells (strB sep) = Lib.byteCells sep from rfl)
  clear hsz
  go_enter Tryz.func63, Tryz.ntmps63
  go_wp2_with fail
  go_loopw [15] (fun i wr => ∃ (j : Nat) (acc : List UInt8), i = .int .i64 j ∧ j ≤ xs.length ∧ acc.length ≤ j * 60000000000 ∧ Hid (jnGo itT sep true xs = (jnGo itT sep (j == 0) (xs.drop j)).map (acc ++ ·)) ∧ Lib.IsBuilder 120 5 w.heap.size w.heap.size (Lib.byteCells acc) wr ∧ Below w.heap.size w wr) (fun i _ => xs.length - (intOf i).toNat)
  case atStart => exact ⟨0, [], rfl, Nat.zero_le _, by simp, Lib.hid (by simp), Hfr.out, HB1.out⟩
  case round =>
    obtain ⟨j, acc, rfl, hj, hal, H, hbd, hb⟩ := hrel
    clear Hfr HB1
    have hbl := IsBuilder_lt hbd
    have HB := Lib.hid hb
    by_cases hlt : j < xs.length
    · obtain ⟨x, hx⟩ : ∃ x, xs[j]? = some x := ⟨_, List.getElem?_eq_getElem hlt⟩
      rcases HI.out with hnil | ⟨c, off, rfl, _, _, hcw, hcell⟩
      · rw [hnil] at hx; cases hx
      obtain ⟨u, ⟨q0, q1, q2, q3⟩, hpu⟩ := hcell j x hx
      obtain ⟨au, cu, rfl⟩ := hpu.form
      have hck : ∀ i, wr.cell? ⟨c, i, none⟩ = w.cell? ⟨c, i, none⟩ := fun i => hb.cell (p := ⟨c, i, none⟩) hcw
      have a0 := (hck _).trans q0
      have a1 := (hck _).trans q1
      have a2 := (hck _).trans q2
      have a3 := (hck _).trans q3
      have jI : (j : Int) < (xs.length : Int) := by omega
      have j0 : (0 : Int) ≤ (j : Int) := by omega
      obtain ⟨k1, k2, k3, k4, k5⟩ := HK.out x (List.mem_of_getElem? hx)
      have hb' := hb.alloc hb.size (.cells #[.int .i64 x.k, .int .i64 x.n, .string (strB x.s), .slice au x.ps.length cu] 46)
      have cT := iprint_any x.k x.n x.s (.slice au x.ps.length cu) x.ps (wr.alloc (.cells #[.int .i64 x.k, .int .i64 x.n, .string (strB x.s), .slice au x.ps.length cu] 46)) (hpu.prms.below hb') k1 k2 k3 ⟨k4, k5⟩ (HA.out.below hb') (HP.out.below hb')
      have HBD' := Lib.hid (IsBuilder_below hbd ((Below.refl wr.heap.size wr).alloc (Nat.le_refl _) (.cells #[.int .i64 x.k, .int .i64 x.n, .string (strB x.s), .slice au x.ps.length cu] 46)))
      have HB' := Lib.hid hb'
      rw [drop_at xs j x hx] at H
      have HX := Lib.hid hx
      clear hcell q0 q1 q2 q3 hx hb' hbd hb hck hpu
      cases hpt : itT x with
      | none =>
        have HN : Hid (jnGo itT sep true xs = none) := Lib.hid (by rw [H.out, jnGo_none _ _ _ _ _ hpt] <;> rfl)
        rw [show prT x.k x.n x.s x.ps = none from hpt, show textV none = .tuple #[.string ⟨#[]⟩, .int .i64 2] from rfl] at cT
        clear hpt H
        generalize strB x.s = XS at *
        go_wp2_with fail
        refine cT.mono ?_
        rintro e w2 ⟨rfl, hb2⟩
        go_wp2_with fail
        refine bodyPost_ret (v := textV none) (by rw [show textV none = .tuple #[.string ⟨#[]⟩, .int .i64 2] from rfl]; simp [results, Tryz.results63, go_sem]) rfl ⟨by rw [HN.out], HB'.out.trans (hb2.mono HB'.out.size)⟩
      | some t =>
        have htl := itT_len x t (HK.out x (List.mem_of_getElem? HX.out)) hpt
        rw [jnGo_some _ _ _ _ _ t hpt] at H
        rw [show prT x.k x.n x.s x.ps = some t from hpt, show textV (some t) = .tuple #[.string (strB t), .int .i64 0] from rfl] at cT
        have htz := strB_size t
        have HTC := Lib.hid (show Lib.strCells (strB t) = Lib.byteCells t from rfl)
        have HTz := Lib.hid htz
        clear hpt htz
        generalize strB t = T at *
        generalize strB x.s = XS at *
        by_cases hj0 : j = 0
        · have hjy : (j == 0) = true := by simpa using hj0
          rw [hjy] at H
          have hjp : ¬ (0 : Int) < (j : Int) := by omega
          have HJ0 := Lib.hid hj0
          clear hj0
          go_wp2_with fail
          refine cT.mono ?_
          rintro e w2 ⟨rfl, hb2⟩
          have hbd2 := IsBuilder_below HBD'.out hb2
          have HB2 := Lib.hid (HB'.out.trans (hb2.mono HB'.out.size))
          have hsz2 : w.heap.size < w2.heap.size := IsBuilder_lt hbd2
          have cW := writeString_any w.heap.size w.heap.size (Lib.byteCells acc) T w2 hbd2 (by rw [Lib.byteCells_length, HTz.out]; omega) (by omega)
          clear cT hb2 hbd2
          go_wp2_with fail
          refine cW.mono ?_
          rintro e w3 ⟨rfl, hbd3, hb3⟩
          rw [HTC.out, show Lib.byteCells acc ++ Lib.byteCells t = Lib.byteCells (acc ++ t) by simp [Lib.byteCells]] at hbd3
          have HB3 := Lib.hid (HB2.out.trans (hb3.mono (by omega)))
          clear cW hb3
          go_wp2_with fail
          go_roundw
          case rel =>
            refine ⟨j + 1, acc ++ t, by go_num, by omega, by rw [List.length_append]; omega, Lib.hid ?_, .inr hbd3, HB3.out⟩
            rw [H.out, Option.map_map, show (j + 1 == 0) = false from rfl]
            congr 1
            funext y
            simp
          case measure => simp [intOf]; omega
        · have hjn : (j == 0) = false := by simpa using hj0
          rw [hjn] at H
          have hjp : (0 : Int) < (j : Int) := by omega
          go_wp2_with fail
          refine cT.mono ?_
          rintro e w2 ⟨rfl, hb2⟩
          have hbd2 := IsBuilder_below HBD'.out hb2
          have HB2 := Lib.hid (HB'.out.trans (hb2.mono HB'.out.size))
          have hsz2 : w.heap.size < w2.heap.size := IsBuilder_lt hbd2
          have cW := writeString_any w.heap.size w.heap.size (Lib.byteCells acc) (strB sep) w2 hbd2 (by rw [Lib.byteCells_length]; omega) (by omega)
          clear cT hb2 hbd2
          go_wp2_with fail
          refine cW.mono ?_
          rintro e w3 ⟨rfl, hbd3, hb3⟩
          rw [HSep.out, show Lib.byteCells acc ++ Lib.byteCells sep = Lib.byteCells (acc ++ sep) by simp [Lib.byteCells]] at hbd3
          have HB3 := Lib.hid (HB2.out.trans (hb3.mono (by omega)))
          have hsz3 : w.heap.size < w3.heap.size := IsBuilder_lt (.inr hbd3)
          have cW2 := writeString_any w.heap.size w.heap.size (Lib.byteCells (acc ++ sep)) T w3 (.inr hbd3) (by rw [Lib.byteCells_length, List.length_append, HTz.out]; omega) (by omega)
          clear cW hb3 hbd3
          go_wp2_with fail
          refine cW2.mono ?_
          rintro e w4 ⟨rfl, hbd4, hb4⟩
          rw [HTC.out, show Lib.byteCells (acc ++ sep) ++ Lib.byteCells t = Lib.byteCells (acc ++ sep ++ t) by simp [Lib.byteCells]] at hbd4
          have HB4 := Lib.hid (HB3.out.trans (hb4.mono (by omega)))
          clear cW2 hb4
          go_wp2_with fail
          go_roundw
          case rel =>
            refine ⟨j + 1, acc ++ sep ++ t, by go_num, by omega, by rw [List.length_append, List.length_append]; omega, Lib.hid ?_, .inr hbd4, HB4.out⟩
            rw [H.out, Option.map_map, show (j + 1 == 0) = false from rfl]
            congr 1
            funext y
            simp
          case measure => simp [intOf]; omega
    · obtain rfl : j = xs.length := by omega
      have HT2 : Hid (textV (jnGo itT sep true xs) = .tuple #[.string ⟨acc.toArray⟩, .int .i64 0]) := Lib.hid (by
        rw [H.out, List.drop_length, jnGo]
        simp [textV, strB])
      have cS := Tryz.Builder_String_any w.heap.size w.heap.size acc wr hbd (by omega)
      clear hbd hb H
      go_wp2_with fail
      refine cS.mono ?_
      rintro e w2 ⟨rfl, hb2⟩
      go_wp2_with fail
      refine bodyPost_ret (v := .tuple #[.string ⟨acc.toArray⟩, .int .i64 0]) (by simp [results, Tryz.results63, go_sem]) rfl ⟨by rw [HT2.out], HB.out.trans hb2⟩

end Go.Proofs.YtjbipplaacgnkaaGreatDoor

namespace Go.Proofs.YtjbipplaacgnkaaGreatDoor
open Go.RowKit Go.Maps

/-- The text of a member, if it may be. -/
def memT (M : Mem) : Option (List UInt8) := if kindL M = false then none else if M.inner = false then itT M.it else match jnGo itT [32] true M.its with
  | none => none
  | some a => match ppT M.ps with
    | none => none
    | some b => some (40 :: (a ++ 41 :: b))

/-- What bounds a member's text. -/
def MemOk (M : Mem) : Prop := ItmOk M.it ∧ M.its.length ≤ 2000 ∧ (∀ x ∈ M.its, ItmOk x) ∧ M.ps.length ≤ 100000 ∧ ∀ p ∈ M.ps, Small p

theorem MemAt.below {lo : Nat} {blk : Option Nat} {w W : World} {M : Mem} {v : Value} (h : MemAt lo blk w M v) (hb : Below w.heap.size w W) : MemAt lo blk W M v := by
  obtain ⟨u, vi, vp, hv, h1, h2, h3⟩ := h
  exact ⟨u, vi, vp, hv, h1.below hb, h2.below hb, h3.below hb⟩

theorem jnGo_len (sep : List UInt8) (hs : sep.length ≤ 10) : ∀ (xs : List Itm) (b : Bool) (u : List UInt8), (∀ x ∈ xs, ItmOk x) → jnGo itT sep b xs = some u → u.length ≤ xs.length * 60000000000
  | [], _, u, _, h => by
    obtain rfl := Option.some.inj h
    simp
  | x :: xs, b, u, hk, h => by
    cases ht : itT x with
    | none => rw [jnGo_none _ _ _ _ _ ht] at h; cases h
    | some t =>
      have hl := itT_len x t (hk x (List.mem_cons_self ..)) ht
      rw [jnGo_some _ _ _ _ _ t ht] at h
      cases hr : jnGo itT sep false xs with
      | none => rw [hr] at h; cases h
      | some y =>
        have := jnGo_len sep hs xs false y (fun q hq => hk q (List.mem_cons_of_mem _ hq)) hr
        rw [hr] at h
        obtain rfl := Option.some.inj h
        rw [List.length_append, List.length_cons]
        split
        · omega
        · rw [List.length_append]; omega

theorem eqB (A : ByteArray) (l : List UInt8) (h : A.data.toList = l) : A = strB l := by
  subst h; rfl

set_option maxRecDepth 100000 in
set_option maxHeartbeats 4000000 in
theorem memberText_any (M : Mem) (v : Value) (w : World) (h : MemAt 0 none w M v) (hk : MemOk M) (hA : Alph w) (hP : Pow w) :
    Calls Tryz.prog 37 #[v] w (printPost (textV (memT M)) w) := by
  have HM := Lib.hid h
  obtain ⟨u, vi, vp, rfl, hu, hvi, hvp⟩ := h
  obtain ⟨ao1, cap1, rfl⟩ := hu.form
  obtain ⟨ao2, cap2, rfl⟩ := hvi.form
  obtain ⟨ao3, cap3, rfl⟩ := hvp.form
  obtain ⟨⟨k1, k2, k3, k4⟩, k5, k6, k7, k8⟩ := hk
  have HU := Lib.hid hu
  have HVI := Lib.hid hvi
  have HVP := Lib.hid hvp
  have HA := Lib.hid hA
  have HP := Lib.hid hP
  have cK := fun W hW => isOfOneKind_any M _ W (HM.out.below hW) k1
  have cI := fun W hW hWA hWP => iprint_any M.it.k M.it.n M.it.s (.slice ao1 M.it.ps.length cap1) M.it.ps W (HU.out.prms.below hW) k1 k2 k3 k4 hWA hWP
  have cJ := fun W hW hWA hWP => joinedI_any (.slice ao2 M.its.length cap2) M.its [32] W (HVI.out.below hW) k5 k6 (by decide) hWA hWP
  have cQ := fun W hW hWA hWP => printParams_any (.slice ao3 M.ps.length cap3) M.ps W (HVP.out.prms.below hW) k7 k8 hWA hWP
  have hjl := fun u hu => jnGo_len [32] (by decide) M.its true u k6 hu
  have hql := fun u hu => ppGo_len M.ps u k8 (ppT_some _ _ hu).2
  rw [show strB [32] = ⟨#[32]⟩ from rfl] at cJ
  have hb0 : Below w.heap.size w (w.alloc (memO M.inner M.it.k M.it.n (strB M.it.s) (.slice ao1 M.it.ps.length cap1) (.slice ao2 M.its.length cap2) (.slice ao3 M.ps.length cap3))) := (Below.refl _ _).alloc (Nat.le_refl _) _
  clear hA hP hu hvi hvp k1 k2 k3 k4
  cases hkd : kindL M with
  | false =>
    have HV : Hid (memT M = none) := Lib.hid (by rw [memT, if_pos hkd])
    rw [hkd] at cK
    clear hkd cI cJ cQ
    generalize strB M.it.s = S at *
    go_enter Tryz.func37, Tryz.ntmps37
    go_wp2_with fail
    refine (cK _ hb0).mono ?_
    rintro e w1 ⟨rfl, hb1⟩
    go_wp2_with fail
    refine bodyPost_ret (v := textV none) (by rw [show textV none = .tuple #[.string ⟨#[]⟩, .int .i64 2] from rfl]; simp [results, Tryz.results37, go_sem]) rfl ⟨by rw [HV.out], hb0.trans (hb1.mono hb0.size)⟩
  | true =>
    rw [hkd] at cK
    cases hin : M.inner with
    | false =>
      have HV : Hid (memT M = itT M.it) := Lib.hid (by rw [memT, if_neg (by rw [hkd]; simp), if_pos hin])
      obtain ⟨X, E, hX, _⟩ : ∃ (X : ByteArray) (E : Int), textV (prT M.it.k M.it.n M.it.s M.it.ps) = .tuple #[.string X, .int .i64 E] ∧ True := by
        cases prT M.it.k M.it.n M.it.s M.it.ps with
        | none => exact ⟨_, _, rfl, trivial⟩
        | some t => exact ⟨_, _, rfl, trivial⟩
      have HX : Hid (textV (memT M) = .tuple #[.string X, .int .i64 E]) := Lib.hid (by rw [HV.out]; exact hX)
      rw [hX] at cI
      rw [hin] at cK hb0
      clear hkd cJ cQ hX
      generalize strB M.it.s = S at *
      clear hin
      go_enter Tryz.func37, Tryz.ntmps37
      go_wp2_with fail
      refine (cK _ hb0).mono ?_
      rintro e w1 ⟨rfl, hb1⟩
      have c0 := box_next (Below.refl _ _) hb1
      obtain ⟨p0, p1, p2, p3, p4, p5, p6⟩ := box7 c0
      have hB1 := hb0.trans (hb1.mono hb0.size)
      clear hb1
      go_wp2_with fail
      refine (cI _ hB1 (HA.out.below hB1) (HP.out.below hB1)).mono ?_
      rintro e w2 ⟨rfl, hb2⟩
      go_wp2_with fail
      refine bodyPost_ret (v := .tuple #[.string X, .int .i64 E]) (by simp [results, Tryz.results37, go_sem]) rfl ⟨by rw [HX.out], hB1.trans (hb2.mono hB1.size)⟩
    | true =>
      have hM : memT M = (match jnGo itT [32] true M.its with
        | none => none
        | some a => match ppT M.ps with
          | none => none
          | some b => some (40 :: (a ++ 41 :: b))) := by rw [memT, if_neg (by rw [hkd]; simp), if_neg (by rw [hin]; simp)]
      rw [hin] at cK hb0
      clear hkd cI hin
      cases hj : jnGo itT [32] true M.its with
      | none =>
        have HV : Hid (memT M = none) := Lib.hid (by rw [hM, hj])
        rw [hj, show textV none = .tuple #[.string ⟨#[]⟩, .int .i64 2] from rfl] at cJ
        clear hj hM cQ hjl hql
        generalize strB M.it.s = S at *
        go_enter Tryz.func37, Tryz.ntmps37
        go_wp2_with fail
        refine (cK _ hb0).mono ?_
        rintro e w1 ⟨rfl, hb1⟩
        have c0 := box_next (Below.refl _ _) hb1
        obtain ⟨p0, p1, p2, p3, p4, p5, p6⟩ := box7 c0
        have hB1 := hb0.trans (hb1.mono hb0.size)
        clear hb1
        go_wp2_with fail
        refine (cJ _ hB1 (HA.out.below hB1) (HP.out.below hB1)).mono ?_
        rintro e w2 ⟨rfl, hb2⟩
        replace c0 := box_next c0 hb2
        have hB2 := hB1.trans (hb2.mono hB1.size)
        clear hb2 p0 p1 p2 p3 p4 p5 p6
        obtain ⟨p0, p1, p2, p3, p4, p5, p6⟩ := box7 c0
        go_wp2_with fail
        refine bodyPost_ret (v := textV none) (by rw [show textV none = .tuple #[.string ⟨#[]⟩, .int .i64 2] from rfl]; simp [results, Tryz.results37, go_sem]) rfl ⟨by rw [HV.out], hB2⟩
      | some a =>
        have ha := hjl a hj
        have has := strB_size a
        rw [hj, show textV (some a) = .tuple #[.string (strB a), .int .i64 0] from rfl] at cJ
        cases hq : ppT M.ps with
        | none =>
          have HV : Hid (memT M = none) := Lib.hid (by rw [hM, hj, hq])
          rw [hq, show textV none = .tuple #[.string ⟨#[]⟩, .int .i64 2] from rfl] at cQ
          clear hj hM hq hjl hql
          generalize strB M.it.s = S at *
          generalize strB a = TA at *
          go_enter Tryz.func37, Tryz.ntmps37
          go_wp2_with fail
          refine (cK _ hb0).mono ?_
          rintro e w1 ⟨rfl, hb1⟩
          have c0 := box_next (Below.refl _ _) hb1
          obtain ⟨p0, p1, p2, p3, p4, p5, p6⟩ := box7 c0
          have hB1 := hb0.trans (hb1.mono hb0.size)
          clear hb1
          go_wp2_with fail
          refine (cJ _ hB1 (HA.out.below hB1) (HP.out.below hB1)).mono ?_
          rintro e w2 ⟨rfl, hb2⟩
          replace c0 := box_next c0 hb2
          have hB2 := hB1.trans (hb2.mono hB1.size)
          clear hb2 p0 p1 p2 p3 p4 p5 p6
          obtain ⟨p0, p1, p2, p3, p4, p5, p6⟩ := box7 c0
          go_wp2_with fail
          refine (cQ _ hB2 (HA.out.below hB2) (HP.out.below hB2)).mono ?_
          rintro e w3 ⟨rfl, hb3⟩
          go_wp2_with fail
          refine bodyPost_ret (v := textV none) (by rw [show textV none = .tuple #[.string ⟨#[]⟩, .int .i64 2] from rfl]; simp [results, Tryz.results37, go_sem]) rfl ⟨by rw [HV.out], hB2.trans (hb3.mono hB2.size)⟩
        | some b =>
          have hb' := hql b hq
          have hbs := strB_size b
          have HV : Hid (memT M = some (40 :: (a ++ 41 :: b))) := Lib.hid (by rw [hM, hj, hq])
          rw [hq, show textV (some b) = .tuple #[.string (strB b), .int .i64 0] from rfl] at cQ
          have HE : Hid ((⟨#[40]⟩ : ByteArray) ++ strB a ++ (⟨#[41]⟩ : ByteArray) ++ strB b = strB (40 :: (a ++ 41 :: b))) := Lib.hid (eqB _ _ (by simp only [append_data, strB_data]; simp))
          have ha3 : (strB a).size ≤ 200000000000000 := by omega
          have hb3' : (strB b).size ≤ 200000000000000 := by omega
          clear hj hM hq hjl hql has hbs ha hb'
          generalize strB M.it.s = S at *
          generalize strB a = TA at *
          generalize strB b = TB at *
          go_enter Tryz.func37, Tryz.ntmps37
          go_wp2_with fail
          refine (cK _ hb0).mono ?_
          rintro e w1 ⟨rfl, hb1⟩
          have c0 := box_next (Below.refl _ _) hb1
          obtain ⟨p0, p1, p2, p3, p4, p5, p6⟩ := box7 c0
          have hB1 := hb0.trans (hb1.mono hb0.size)
          clear hb1
          go_wp2_with fail
          refine (cJ _ hB1 (HA.out.below hB1) (HP.out.below hB1)).mono ?_
          rintro e w2 ⟨rfl, hb2⟩
          replace c0 := box_next c0 hb2
          have hB2 := hB1.trans (hb2.mono hB1.size)
          clear hb2 p0 p1 p2 p3 p4 p5 p6
          obtain ⟨p0, p1, p2, p3, p4, p5, p6⟩ := box7 c0
          go_wp2_with fail
          refine (cQ _ hB2 (HA.out.below hB2) (HP.out.below hB2)).mono ?_
          rintro e w3 ⟨rfl, hb3⟩
          go_wp2_with fail
          refine bodyPost_ret (v := textV (some (40 :: (a ++ 41 :: b)))) (by rw [show textV (some (40 :: (a ++ 41 :: b))) = .tuple #[.string (strB (40 :: (a ++ 41 :: b))), .int .i64 0] from rfl]; simp [results, Tryz.results37, go_sem, HE.out]) rfl ⟨by rw [HV.out], hB2.trans (hb3.mono hB2.size)⟩

end Go.Proofs.YtjbipplaacgnkaaGreatDoor
