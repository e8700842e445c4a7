/- What stays of cells and rows where a row grows: for walks that own items. · The contract of the document's Put (sculleryref03): a parameter more, or another value of one. -/
import Derived.Test.YtpifbgefkbhopaaGreatDoorZMItmR
import Derived.Test.YtpifbgefkbhopaaGreatDoorZMItmC
import Derived.Test.YtpifbgefkbhopaaGreatDoorZMBarG
import Derived.Deep.RegionLaw
import Derived.Deep.AppendLies

namespace Go.Proofs.YtpifbgefkbhopaaGreatDoor
open Go.RowKit Go.Maps

theorem info_rparam : (Tryz.prog.info? 195).map (fun i => (i.zero, i.size, i.bytes)) = some (some (.agg #[.string ⟨#[]⟩, .int .i64 0, .int .i64 0, .string ⟨#[]⟩]), 4, 48) := by kernel_rfl

theorem cell_later {w : World} {b i : Nat} {v : Value} (o : Obj) (h : w.cell? ⟨b, i, none⟩ = some v) : (w.alloc o).cell? ⟨b, i, none⟩ = some v :=
  (((Below.refl w.heap.size w).alloc (Nat.le_refl _) o).cell (p := ⟨b, i, none⟩) (lt_of_cell h)).trans h
theorem frozen_later {w : World} {b i : Nat} (o : Obj) (hb : b < w.heap.size) (h : w.frozen? ⟨b, i, none⟩ = false) : (w.alloc o).frozen? ⟨b, i, none⟩ = false :=
  (((Below.refl w.heap.size w).alloc (Nat.le_refl _) o).frozen (p := ⟨b, i, none⟩) hb).trans h
theorem ResI.later {w : World} {c : Nat} (o : Obj) (h : ResI w c) : ResI (w.alloc o) c :=
  ⟨cell_later o h.r0, cell_later o h.r1, cell_later o h.r2, cell_later o h.r3, frozen_later o h.lt h.g0, frozen_later o h.lt h.g1, frozen_later o h.lt h.g2, frozen_later o h.lt h.g3⟩
theorem made4 (w : World) (a b c d : Value) (T : TypeId) (z : Nat) (h : w.heap.size = z) : ((w.alloc (.cells #[a, b, c, d] T)).cell? ⟨z, 0, none⟩ = some a ∧ (w.alloc (.cells #[a, b, c, d] T)).cell? ⟨z, 1, none⟩ = some b ∧ (w.alloc (.cells #[a, b, c, d] T)).cell? ⟨z, 2, none⟩ = some c ∧ (w.alloc (.cells #[a, b, c, d] T)).cell? ⟨z, 3, none⟩ = some d) ∧ (w.alloc (.cells #[a, b, c, d] T)).frozen? ⟨z, 0, none⟩ = false ∧ (w.alloc (.cells #[a, b, c, d] T)).frozen? ⟨z, 1, none⟩ = false ∧ (w.alloc (.cells #[a, b, c, d] T)).frozen? ⟨z, 2, none⟩ = false ∧ (w.alloc (.cells #[a, b, c, d] T)).frozen? ⟨z, 3, none⟩ = false := by
  subst h
  exact ⟨⟨by simp, by simp, by simp, by simp⟩, by simp, by simp, by simp, by simp⟩

theorem kept_cell {wr w5 : World} {o : Obj} {base j size c i : Nat} {e : TypeId} {v u : Value} {xs : List Value} (HO : wr.ownsRow base e size v j xs) (hg : (wr.drew.alloc o).grownBy w5 v.ownBlock) (hc : c < base) (h : wr.cell? ⟨c, i, none⟩ = some u) : w5.cell? ⟨c, i, none⟩ = some u := by
  have hb := ((Below.refl wr.heap.size wr).drew).alloc (Nat.le_refl _) o
  have h2 := (hb.cell (p := ⟨c, i, none⟩) (lt_of_cell h)).trans h
  exact (grown_cell hg (lt_of_cell h2) (own_ne HO hc) i).trans h2
theorem kept_frozen {wr w5 : World} {o : Obj} {base j size c i : Nat} {e : TypeId} {v : Value} {xs : List Value} (HO : wr.ownsRow base e size v j xs) (hg : (wr.drew.alloc o).grownBy w5 v.ownBlock) (hc : c < base) (hl : c < wr.heap.size) (h : wr.frozen? ⟨c, i, none⟩ = false) : w5.frozen? ⟨c, i, none⟩ = false := by
  have hb := ((Below.refl wr.heap.size wr).drew).alloc (Nat.le_refl _) o
  have h2 := (hb.frozen (p := ⟨c, i, none⟩) hl).trans h
  exact (hg.frozen_far ⟨c, i, none⟩ (Nat.lt_of_lt_of_le hl hb.size) (own_ne HO hc)).trans h2

end Go.Proofs.YtpifbgefkbhopaaGreatDoor

namespace Go.Proofs.YtpifbgefkbhopaaGreatDoor
open Go.RowKit Go.Maps

abbrev rparamObj (p : Prm) : Obj := .cells #[.string (strB p.key), .int .i64 p.k, .int .i64 p.n, .string (strB p.s)] 195

def rputPost (acc : List Prm) (p : Prm) (base : Nat) (w : World) (e : Ending) (w' : World) : Prop :=
  Below base w w' ∧ ∃ v, e = .returned v ∧ w'.ownsRow base 195 4 v (putL acc p).length (rowP (putL acc p))

theorem box4 {w W : World} {a b c d : Value} {T : TypeId} (hb : Below (w.heap.size + 1) (w.alloc (.cells #[a, b, c, d] T)) W) :
    W.cell? ⟨w.heap.size, 0, none⟩ = some a ∧ W.cell? ⟨w.heap.size, 1, none⟩ = some b ∧ W.cell? ⟨w.heap.size, 2, none⟩ = some c ∧ W.cell? ⟨w.heap.size, 3, none⟩ = some d := by
  refine ⟨?_, ?_, ?_, ?_⟩
  · rw [hb.cell (p := ⟨w.heap.size, 0, none⟩) (by simp)]; simp
  · rw [hb.cell (p := ⟨w.heap.size, 1, none⟩) (by simp)]; simp
  · rw [hb.cell (p := ⟨w.heap.size, 2, none⟩) (by simp)]; simp
  · rw [hb.cell (p := ⟨w.heap.size, 3, none⟩) (by simp)]; simp
theorem box_next {w W W1 : World} {o : Obj} (c : Below (w.heap.size + 1) (w.alloc o) W) (hb : Below W.heap.size W W1) : Below (w.heap.size + 1) (w.alloc o) W1 :=
  c.trans (hb.mono (by simpa using c.size))
theorem box_later {w W : World} {o : Obj} (c : Below (w.heap.size + 1) (w.alloc o) W) : Below w.heap.size w W :=
  ((Below.refl w.heap.size w).alloc (Nat.le_refl _) o).trans (c.mono (Nat.le_succ _))

/-- The cells of one row of an owned slice of parameters. -/
theorem owns_at {w : World} {base : Nat} {e : TypeId} {ao : Option Addr} {m cap : Nat} {ps : List Prm} (h : w.ownsRow base e 4 (.slice ao m cap) ps.length (rowP ps)) (j : Nat) (p : Prm) (hp : ps[j]? = some p) :
    ∃ g, ao = some ⟨g, 0, none⟩ ∧ base ≤ g ∧ g < w.heap.size ∧ (w.cell? ⟨g, j * 4, none⟩ = some (.string (strB p.key)) ∧ w.cell? ⟨g, j * 4 + 1, none⟩ = some (.int .i64 p.k) ∧ w.cell? ⟨g, j * 4 + 2, none⟩ = some (.int .i64 p.n) ∧ w.cell? ⟨g, j * 4 + 3, none⟩ = some (.string (strB p.s))) ∧
      w.frozen? ⟨g, j * 4 + 1, none⟩ = false ∧ w.frozen? ⟨g, j * 4 + 2, none⟩ = false ∧ w.frozen? ⟨g, j * 4 + 3, none⟩ = false := by
  have hj : j < ps.length := (List.getElem?_eq_some_iff.1 hp).1
  obtain ⟨g, cap1, hv, hg, hg2, _⟩ := owns_slice h (by omega)
  obtain ⟨rfl, _, rfl⟩ := Value.slice.inj hv
  obtain ⟨ao2, cap2, hv2, hc⟩ := Prms.of_own h
  obtain ⟨rfl, rfl, rfl⟩ := Value.slice.inj hv2
  rcases hc with hnil | ⟨c, off, hao, hcell⟩
  · rw [hnil] at hp; cases hp
  · obtain ⟨rfl, rfl, _⟩ := Addr.mk.inj (Option.some.inj hao)
    obtain ⟨x0, x1, x2, x3⟩ := rowP_at ps j p hp
    have c0 := hcell _ _ x0
    have c1 := hcell _ _ x1
    have c2 := hcell _ _ x2
    have c3 := hcell _ _ x3
    simp only [Nat.zero_add] at c0 c1 c2 c3
    obtain ⟨_, _, f1⟩ := owns_cell h (j * 4 + 1) (by omega)
    obtain ⟨_, _, f2⟩ := owns_cell h (j * 4 + 2) (by omega)
    obtain ⟨_, _, f3⟩ := owns_cell h (j * 4 + 3) (by omega)
    exact ⟨g, rfl, hg, hg2, ⟨c0, c1, c2, c3⟩, f1, f2, f3⟩

theorem idx_first (acc : List Prm) (p r : Prm) (j : Nat) (hr : acc[j]? = some r) (hk : r.key = p.key) (hb : ∀ (m : Nat) (q : Prm), m < j → acc[m]? = some q → q.key ≠ p.key) : idxL (acc.map Prm.key) p.key = j := by
  have hj : j < acc.length := (List.getElem?_eq_some_iff.1 hr).1
  have hjm : j < (acc.map Prm.key).length := by rw [List.length_map]; exact hj
  unfold idxL
  rw [List.findIdx_eq hjm]
  constructor
  · have : (acc.map Prm.key)[j]? = some r.key := by rw [List.getElem?_map, hr] <;> rfl
    rw [List.getElem?_eq_getElem hjm, Option.some.injEq] at this
    rw [this, hk]; simp
  · intro m hm
    have hml : m < acc.length := by omega
    have := hb m _ hm (List.getElem?_eq_getElem hml)
    simpa using this

theorem idx_none (acc : List Prm) (p : Prm) (hb : ∀ (m : Nat) (q : Prm), m < acc.length → acc[m]? = some q → q.key ≠ p.key) : ¬ idxL (acc.map Prm.key) p.key < acc.length := by
  intro h
  have hm : p.key ∈ acc.map Prm.key := (idxL_lt _ _).1 (by rw [List.length_map]; exact h)
  obtain ⟨q, hq, hk⟩ := List.mem_map.1 hm
  obtain ⟨m, hm⟩ := List.getElem?_of_mem hq
  exact hb m q (List.getElem?_eq_some_iff.1 hm).1 hm hk

theorem set_same {α : Type} (l : List α) (i : Nat) (a : α) (h : l[i]? = some a) : l.set i a = l := by
  obtain ⟨hi, rfl⟩ := List.getElem?_eq_some_iff.1 h
  exact List.set_getElem_self hi

set_option maxRecDepth 100000 in
set_option maxHeartbeats 2000000 in
theorem rput_any (v : Value) (acc : List Prm) (p : Prm) (base : Nat) (w : World) (h : w.ownsRow base 195 4 v acc.length (rowP acc)) (hb : base ≤ w.heap.size) (hl : acc.length ≤ 100000) :
    Calls Tryz.prog 122 #[v, .agg #[.string (strB p.key), .int .i64 p.k, .int .i64 p.n, .string (strB p.s)]] w (rputPost acc p base w) := by
  obtain ⟨i0, hi, hz0, hz1, hz2⟩ := info_parts info_rparam
  obtain ⟨ao, cap, rfl⟩ := owns_form h
  have HO := Lib.hid (ownsRow_later h ((Below.refl w.heap.size w).alloc (Nat.le_refl _) (rparamObj p)))
  have HB := Lib.hid hb
  clear h hb
  go_enter Tryz.func122, Tryz.ntmps122
  go_wp2_with fail
  obtain ⟨W0, hW0⟩ : ∃ W0, w.alloc (rparamObj p) = W0 := ⟨_, rfl⟩
  have c0 : Below (w.heap.size + 1) (w.alloc (rparamObj p)) W0 := by rw [← hW0]; exact Below.refl _ _
  rw [hW0] at HO
  rw [show w.alloc (.cells #[.string (strB p.key), .int .i64 p.k, .int .i64 p.n, .string (strB p.s)] 195) = W0 from hW0]
  clear hW0
  go_loopw [5] (fun i wr => ∃ j : Nat, i = .int .i64 j ∧ j ≤ acc.length ∧ Hid (∀ (m : Nat) (q : Prm), m < j → acc[m]? = some q → q.key ≠ p.key) ∧ Below W0.heap.size W0 wr) (fun i _ => acc.length - (intOf i).toNat)
  case atStart => exact ⟨0, rfl, Nat.zero_le _, Lib.hid (fun m q hm => absurd hm (Nat.not_lt_zero _)), Below.refl _ _⟩
  case round =>
    obtain ⟨j, rfl, hj, H, hb⟩ := hrel
    obtain ⟨p0, p1, p2, p3⟩ := box4 (box_next c0 hb)
    have HB2 := Lib.hid hb
    have HOw := Lib.hid (ownsRow_later HO.out hb)
    have HBw : Hid (Below base w wr) := Lib.hid ((box_later (box_next c0 hb)).mono HB.out)
    have hbs : base ≤ wr.heap.size := Nat.le_trans HB.out HBw.out.size
    clear hb
    by_cases hlt : j < acc.length
    · obtain ⟨r, hr⟩ : ∃ r, acc[j]? = some r := ⟨_, List.getElem?_eq_getElem hlt⟩
      obtain ⟨g, rfl, hg, hg2, ⟨a0, a1, a2, a3⟩, f1, f2, f3⟩ := owns_at HOw.out j r hr
      have jI : (j : Int) < (acc.length : Int) := by omega
      have j0 : (0 : Int) ≤ (j : Int) := by omega
      have HR := Lib.hid hr
      by_cases hkk : r.key = p.key
      · have HI := Lib.hid (idx_first acc p r j hr hkk H.out)
        rw [hkk] at a0
        have hx0 := Lib.hid (rowP_at acc j r hr).1
        rw [hkk] at hx0
        clear hr
        go_wp2_with fail
        go_quiet (fail)
        go_wp2_with fail
        refine bodyPost_ret (v := .slice (some ⟨g, 0, none⟩) acc.length cap) (by simp [results, Tryz.results122, go_sem]) rfl ⟨?_, _, rfl, ?_⟩
        · exact (((HBw.out.trans ((below_drewN _ _).mono hbs)).setCell hg _).setCell hg _).setCell hg _
        · have s0 := (ownsRow_later HOw.out (below_drewN wr nq)).stored (j * 4 + 1) (.int .i64 p.k)
          have s1 := s0.1.stored (j * 4 + 1 + 1) (.int .i64 p.n)
          have s2 := s1.1.stored (j * 4 + 1 + 2) (.string (strB p.s))
          rw [putL, HI.out, if_pos hlt, List.length_set, rowP_set acc j p hlt, set_same (rowP acc) (j * 4) (.string (strB p.key)) hx0.out]
          exact s2.1
      · have hT : ((strB r.key).toList == (strB p.key).toList) = false := by
          rw [beq_eq_false_iff_ne]
          intro h
          exact hkk (by simpa only [Lib.toList_data, strB_data] using h)
        have HN : Hid (∀ (m : Nat) (q : Prm), m < j + 1 → acc[m]? = some q → q.key ≠ p.key) := Lib.hid (fun m q hm hq => by
          by_cases e : m = j
          · subst e
            rw [HR.out] at hq
            obtain rfl := Option.some.inj hq
            exact hkk
          · exact H.out m q (by omega) hq)
        clear hr hkk
        generalize strB r.key = RK at *
        go_wp2_with fail
        go_quiet (fail)
        go_wp2_with fail
        go_roundw
        case rel => exact ⟨j + 1, by go_num, by omega, HN, HB2.out.trans ((below_drewN _ _).mono HB2.out.size)⟩
        case measure => simp [intOf]; omega
    · obtain rfl : j = acc.length := by omega
      have HI := Lib.hid (idx_none acc p H.out)
      go_wp2_with (at_builtin; refine wpList_append_own _ rfl _ _ 121 rfl base 195 i0 (.agg #[.string ⟨#[]⟩, .int .i64 0, .int .i64 0, .string ⟨#[]⟩]) 4 48 Tryz.underlying121 hi hz0 hz1 hz2 rfl (by decide) _ _ _ rfl (HOw.out.alloc _) ⟨_, 0, none⟩ 1 1 (cellsP p) rfl rfl (cells_new _ _ _) (by simp [Value.oneCell', cellsP]) (by unfold maxLen; omega) (by omega) (by simp; omega) ?_; intro v' w5 hown5 hgrow5 _)
      refine bodyPost_ret (v := v') (by simp [results, Tryz.results122, go_sem]) rfl ⟨?_, _, rfl, ?_⟩
      · have h1 := HBw.out.alloc hbs (.cells #[.string (strB p.key), .int .i64 p.k, .int .i64 p.n, .string (strB p.s)] 195)
        exact ⟨hgrow5.os.trans h1.os, hgrow5.tape.trans h1.tape, hgrow5.output.trans h1.output, Nat.le_trans h1.size hgrow5.size, fun i hi => (hgrow5.block i (Nat.lt_of_lt_of_le hi (by simp; omega)) (own_ne HOw.out hi)).trans (h1.block i hi)⟩
      · rw [putL, if_neg HI.out, List.length_append, rowP_snoc]
        exact hown5

end Go.Proofs.YtpifbgefkbhopaaGreatDoor
