/- The contract of the law's own (scullerylaw03): an item for the document. -/
import Derived.Test.YtcjnigmklijjiaaDoorItmT
import Derived.Test.YtcjnigmklijjiaaDoorItmF
import Derived.Test.YtcjnigmklijjiaaDoorItmM
import Derived.Test.YtcjnigmklijjiaaDoorItmG
import Derived.Deep.RegionLaw
import Derived.Deep.AppendLies
namespace Go.Proofs.YtcjnigmklijjiaaDoor
open Go.RowKit Go.Maps

theorem info_rparam : (Tryd.prog.info? 47).map (fun i => (i.zero, i.size, i.bytes)) = some (some (.agg #[.string ⟨#[]⟩, .int .i64 0, .int .i64 0, .string ⟨#[]⟩]), 4, 48) := by kernel_rfl

theorem cell_later {w : World} {b i : Nat} {v : Value} (o : Obj) (h : w.cell? ⟨b, i, none⟩ = some v) : (w.alloc o).cell? ⟨b, i, none⟩ = some v :=
  (((Below.refl w.heap.size w).alloc (Nat.le_refl _) o).cell (p := ⟨b, i, none⟩) (lt_of_cell h)).trans h
theorem frozen_later {w : World} {b i : Nat} (o : Obj) (hb : b < w.heap.size) (h : w.frozen? ⟨b, i, none⟩ = false) : (w.alloc o).frozen? ⟨b, i, none⟩ = false :=
  (((Below.refl w.heap.size w).alloc (Nat.le_refl _) o).frozen (p := ⟨b, i, none⟩) hb).trans h
theorem ResI.later {w : World} {c : Nat} (o : Obj) (h : ResI w c) : ResI (w.alloc o) c :=
  ⟨cell_later o h.r0, cell_later o h.r1, cell_later o h.r2, cell_later o h.r3, frozen_later o h.lt h.g0, frozen_later o h.lt h.g1, frozen_later o h.lt h.g2, frozen_later o h.lt h.g3⟩
theorem made4 (w : World) (a b c d : Value) (T : TypeId) (z : Nat) (h : w.heap.size = z) : ((w.alloc (.cells #[a, b, c, d] T)).cell? ⟨z, 0, none⟩ = some a ∧ (w.alloc (.cells #[a, b, c, d] T)).cell? ⟨z, 1, none⟩ = some b ∧ (w.alloc (.cells #[a, b, c, d] T)).cell? ⟨z, 2, none⟩ = some c ∧ (w.alloc (.cells #[a, b, c, d] T)).cell? ⟨z, 3, none⟩ = some d) ∧ (w.alloc (.cells #[a, b, c, d] T)).frozen? ⟨z, 0, none⟩ = false ∧ (w.alloc (.cells #[a, b, c, d] T)).frozen? ⟨z, 1, none⟩ = false ∧ (w.alloc (.cells #[a, b, c, d] T)).frozen? ⟨z, 2, none⟩ = false ∧ (w.alloc (.cells #[a, b, c, d] T)).frozen? ⟨z, 3, none⟩ = false := by
  subst h
  exact ⟨⟨by simp, by simp, by simp, by simp⟩, by simp, by simp, by simp, by simp⟩

theorem kept_cell {wr w5 : World} {o : Obj} {base j size c i : Nat} {e : TypeId} {v u : Value} {xs : List Value} (HO : wr.ownsRow base e size v j xs) (hg : (wr.drew.alloc o).grownBy w5 v.ownBlock) (hc : c < base) (h : wr.cell? ⟨c, i, none⟩ = some u) : w5.cell? ⟨c, i, none⟩ = some u := by
  have hb := ((Below.refl wr.heap.size wr).drew).alloc (Nat.le_refl _) o
  have h2 := (hb.cell (p := ⟨c, i, none⟩) (lt_of_cell h)).trans h
  exact (grown_cell hg (lt_of_cell h2) (own_ne HO hc) i).trans h2
theorem kept_frozen {wr w5 : World} {o : Obj} {base j size c i : Nat} {e : TypeId} {v : Value} {xs : List Value} (HO : wr.ownsRow base e size v j xs) (hg : (wr.drew.alloc o).grownBy w5 v.ownBlock) (hc : c < base) (hl : c < wr.heap.size) (h : wr.frozen? ⟨c, i, none⟩ = false) : w5.frozen? ⟨c, i, none⟩ = false := by
  have hb := ((Below.refl wr.heap.size wr).drew).alloc (Nat.le_refl _) o
  have h2 := (hb.frozen (p := ⟨c, i, none⟩) hl).trans h
  exact (hg.frozen_far ⟨c, i, none⟩ (Nat.lt_of_lt_of_le hl hb.size) (own_ne HO hc)).trans h2

theorem own_next {w wr w5 : World} {o : Obj} {j m : Nat} {k n : Int} {s : ByteArray} {q v v' : Value} {xs ys : List Value} (HO : wr.ownsRow (w.heap.size + 3) 47 4 v j xs) (hg : (wr.drew.alloc o).grownBy w5 v.ownBlock)
    (hown5 : w5.ownsRow (w.heap.size + 3) 47 4 v' m ys) (b3 : wr.cell? ⟨w.heap.size, 3, none⟩ = some q) (o0 : wr.cell? ⟨w.heap.size + 2, 0, none⟩ = some (.int .i64 k)) (o1 : wr.cell? ⟨w.heap.size + 2, 1, none⟩ = some (.int .i64 n)) (o2 : wr.cell? ⟨w.heap.size + 2, 2, none⟩ = some (.string s)) (o3 : wr.cell? ⟨w.heap.size + 2, 3, none⟩ = some v) (of3 : wr.frozen? ⟨w.heap.size + 2, 3, none⟩ = false) (hr : ResI wr (w.heap.size + 1)) (hb : Below w.heap.size w wr) :
    let W := w5.setCell ⟨w.heap.size + 2, 3, none⟩ v'
    W.cell? ⟨w.heap.size, 3, none⟩ = some q ∧ W.cell? ⟨w.heap.size + 2, 0, none⟩ = some (.int .i64 k) ∧ W.cell? ⟨w.heap.size + 2, 1, none⟩ = some (.int .i64 n) ∧ W.cell? ⟨w.heap.size + 2, 2, none⟩ = some (.string s) ∧ W.cell? ⟨w.heap.size + 2, 3, none⟩ = some v' ∧ W.frozen? ⟨w.heap.size + 2, 3, none⟩ = false ∧ ResI W (w.heap.size + 1) ∧ W.ownsRow (w.heap.size + 3) 47 4 v' m ys ∧ Below w.heap.size w W := by
  intro W
  have hm : Moved (w.heap.size + 2) w5 W := (Moved.refl _ _).setCell v'
  have hz : w.heap.size + 2 < wr.heap.size := lt_of_cell o0
  have hzb := hb.size
  have k3 := kept_cell HO hg (by omega) b3
  have c0 := kept_cell HO hg (by omega) o0
  have c1 := kept_cell HO hg (by omega) o1
  have c2 := kept_cell HO hg (by omega) o2
  have c3 := kept_cell HO hg (by omega) o3
  have f3 := kept_frozen HO hg (by omega) hz of3
  have hr5 : ResI w5 (w.heap.size + 1) := ⟨kept_cell HO hg (by omega) hr.r0, kept_cell HO hg (by omega) hr.r1, kept_cell HO hg (by omega) hr.r2, kept_cell HO hg (by omega) hr.r3, kept_frozen HO hg (by omega) hr.lt hr.g0, kept_frozen HO hg (by omega) hr.lt hr.g1, kept_frozen HO hg (by omega) hr.lt hr.g2, kept_frozen HO hg (by omega) hr.lt hr.g3⟩
  have hbw : Below w.heap.size w w5 := by
    have h1 := hb.drew.alloc hb.size o
    exact ⟨hg.os.trans h1.os, hg.tape.trans h1.tape, hg.output.trans h1.output, Nat.le_trans h1.size hg.size, fun i hi => (hg.block i (Nat.lt_of_lt_of_le hi h1.size) (own_ne HO (by omega))).trans (h1.block i hi)⟩
  refine ⟨(hm.cell (p := ⟨w.heap.size, 3, none⟩) (lt_of_cell k3) (by show w.heap.size ≠ _; omega)).trans k3, ?_, ?_, ?_, ?_, ?_, hr5.moved hm (by omega), ownsRow_moved hown5 hm (by omega), hbw.setCell (by show w.heap.size ≤ w.heap.size + 2; omega) _⟩
  · exact (World.cell?_setCell_other w5 ⟨w.heap.size + 2, 3, none⟩ ⟨w.heap.size + 2, 0, none⟩ _ (by simp)).trans c0
  · exact (World.cell?_setCell_other w5 ⟨w.heap.size + 2, 3, none⟩ ⟨w.heap.size + 2, 1, none⟩ _ (by simp)).trans c1
  · exact (World.cell?_setCell_other w5 ⟨w.heap.size + 2, 3, none⟩ ⟨w.heap.size + 2, 2, none⟩ _ (by simp)).trans c2
  · exact World.cell?_setCell_same w5 ⟨w.heap.size + 2, 3, none⟩ _ c3
  · show (w5.setCell _ _).frozen? _ = false
    rw [World.frozen?_setCell]; exact f3

set_option maxRecDepth 100000 in
set_option maxHeartbeats 2000000 in
theorem own_any (k n : Int) (s : ByteArray) (v : Value) (ps : List Prm) (w : World) (h : Prms w v ps) (hl : ps.length * 48 ≤ 140737488355328) :
    Calls Tryd.prog 7 #[.agg #[.int .i64 k, .int .i64 n, .string s, v]] w fun e w' => ∃ u, e = .returned (.agg #[.int .i64 k, .int .i64 n, .string s, u]) ∧ w'.ownsRow (w.heap.size + 3) 47 4 u ps.length (rowP ps) ∧ Below w.heap.size w w' := by
  obtain ⟨i0, hi, hz0, hz1, hz2⟩ := info_parts info_rparam
  obtain ⟨ao, cap, rfl, hc⟩ := h
  have HC := Lib.hid hc
  clear hc
  go_enter Tryd.func7, Tryd.ntmps7
  go_wp2_with fail
  go_loopw [4] (fun i wr => ∃ (j : Nat) (u : Value), i = .int .i64 j ∧ j ≤ ps.length ∧ wr.cell? ⟨w.heap.size, 3, none⟩ = some (.slice ao ps.length cap) ∧ wr.cell? ⟨w.heap.size + 2, 0, none⟩ = some (.int .i64 k) ∧ wr.cell? ⟨w.heap.size + 2, 1, none⟩ = some (.int .i64 n) ∧ wr.cell? ⟨w.heap.size + 2, 2, none⟩ = some (.string s) ∧ wr.cell? ⟨w.heap.size + 2, 3, none⟩ = some u ∧ wr.frozen? ⟨w.heap.size + 2, 3, none⟩ = false ∧ ResI wr (w.heap.size + 1) ∧ wr.ownsRow (w.heap.size + 3) 47 4 u j (rowP (ps.take j)) ∧ Below w.heap.size w wr) (fun i _ => ps.length - (intOf i).toNat)
  case atStart =>
    obtain ⟨⟨_, _, _, e3⟩, _⟩ := made4 w (.int .i64 k) (.int .i64 n) (.string s) (.slice ao ps.length cap) 26 w.heap.size rfl
    obtain ⟨⟨z0, z1, z2, z3⟩, y0, y1, y2, y3⟩ := made4 (w.alloc (.cells #[.int .i64 k, .int .i64 n, .string s, .slice ao ps.length cap] 26)) (.int .i64 0) (.int .i64 0) (.string ⟨#[]⟩) (.slice none 0 0) 31 (w.heap.size + 1) (by simp)
    obtain ⟨⟨q0, q1, q2, q3⟩, _, _, _, t3⟩ := made4 ((w.alloc (.cells #[.int .i64 k, .int .i64 n, .string s, .slice ao ps.length cap] 26)).alloc (.cells #[.int .i64 0, .int .i64 0, .string ⟨#[]⟩, .slice none 0 0] 31)) (.int .i64 k) (.int .i64 n) (.string s) (.slice none 0 0) 31 (w.heap.size + 2) (by simp)
    exact ⟨0, .slice none 0 0, rfl, Nat.zero_le _, cell_later _ (cell_later _ e3), q0, q1, q2, q3, t3, ResI.later _ ⟨z0, z1, z2, z3, y0, y1, y2, y3⟩, World.ownsRow_nil _ _ _ _, (((Below.refl _ _).alloc (Nat.le_refl _) _).alloc (by simp) _).alloc (by simp; omega) _⟩
  case round =>
    obtain ⟨j, u, rfl, hj, b3, o0, o1, o2, o3, of3, hres, hown, hb⟩ := hrel
    have HR := Lib.hid hres
    obtain ⟨r0, r1, r2, r3, g0, g1, g2, g3⟩ := hres
    have HB := Lib.hid hb
    have HO := Lib.hid hown
    by_cases hlt : j < ps.length
    · rcases HC.out with hnil | ⟨c, off, rfl, hcell⟩
      · exfalso
        rw [hnil] at hlt
        simp at hlt
      · obtain ⟨p, hp⟩ : ∃ p, ps[j]? = some p := ⟨_, List.getElem?_eq_getElem hlt⟩
        obtain ⟨x0, x1, x2, x3⟩ := rowP_at ps j p hp
        have hcl : c < w.heap.size := lt_of_cell (hcell _ _ x0)
        have a0 := (hb.cell (p := ⟨c, off + j * 4, none⟩) hcl).trans (hcell _ _ x0)
        have a1 := (hb.cell (p := ⟨c, off + (j * 4 + 1), none⟩) hcl).trans (hcell _ _ x1)
        have a2 := (hb.cell (p := ⟨c, off + (j * 4 + 2), none⟩) hcl).trans (hcell _ _ x2)
        have a3 := (hb.cell (p := ⟨c, off + (j * 4 + 3), none⟩) hcl).trans (hcell _ _ x3)
        simp only [← Nat.add_assoc] at a1 a2 a3
        have jI : (j : Int) < (ps.length : Int) := by omega
        have j0 : (0 : Int) ≤ (j : Int) := by omega
        have htk : ps.take j ++ [p] = ps.take (j + 1) := by rw [List.take_add_one, hp]; rfl
        clear hcell x0 x1 x2 x3 hb hown hp
        obtain ⟨ao2, cap2, rfl⟩ := owns_form HO.out
        have hz := lt_of_cell o0
        have hO1 := HO.out.drew.alloc (.cells #[.string (strB p.key), .int .i64 p.k, .int .i64 p.n, .string (strB p.s)] 47)
        have HO1 := Lib.hid hO1
        have HN1 := Lib.hid (cells_new wr.drew (cellsP p) 47)
        have HC1 : Hid (∀ u ∈ cellsP p, u.oneCell' = true) := Lib.hid (by simp [Value.oneCell', cellsP])
        have hz3 : w.heap.size + 3 ≤ (wr.drew.alloc (.cells #[.string (strB p.key), .int .i64 p.k, .int .i64 p.n, .string (strB p.s)] 47)).heap.size := Nat.le_trans hz (((Below.refl wr.heap.size wr).drew).alloc (Nat.le_refl _) _).size
        clear hO1
        go_wp2_with fail
        go_region_law (refine step_append_lies _ rfl (.tmp 16) (.tmp 22) 29 rfl (w.heap.size + 3) 47 i0 (.agg #[.string ⟨#[]⟩, .int .i64 0, .int .i64 0, .string ⟨#[]⟩]) 4 48 Tryd.underlying29 hi hz0 hz1 hz2 rfl (by decide) (.slice ao2 j cap2) j (rowP (ps.take j)) (by simp [Act.eval, Act.put]) HO1.out ⟨wr.heap.size, 0, none⟩ 1 1 (cellsP p) (by simp [Act.eval, Act.put]) rfl HN1.out HC1.out (by decide) (by unfold maxLen; omega) (by omega) hz3 _ rfl ?_; intro g cap3 w5 hown5 hgrow5 hor5 hlt5; have e3 := kept_cell HO.out hgrow5 (Nat.lt_succ_self _) o3; have ef3 := kept_frozen HO.out hgrow5 (Nat.lt_succ_self _) hz of3)
        all_goals
          go_wp2_with fail
          go_roundw
          case rel =>
            have hN := own_next HO.out hgrow5 hown5 b3 o0 o1 o2 o3 of3 HR.out HB.out
            rw [← rowP_snoc, htk] at hN
            obtain ⟨n0, n1, n2, n3, n4, n5, n6, n7, n8⟩ := hN
            exact ⟨j + 1, _, by go_num, by omega, n0, n1, n2, n3, n4, n5, n6, n7, n8⟩
          case measure => simp [intOf]; omega
    · obtain rfl : j = ps.length := by omega
      clear hb hown
      obtain ⟨ao2, cap2, rfl⟩ := owns_form HO.out
      go_wp2_with fail
      have hown := HO.out
      rw [List.take_length] at hown
      have hm := ((((Moved.refl (w.heap.size + 1) wr).setCell (o := 0) (.int .i64 k)).setCell (o := 1) (.int .i64 n)).setCell (o := 2) (.string s)).setCell (o := 3) (.slice ao2 ps.length cap2)
      refine bodyPost_ret (v := .agg #[.int .i64 k, .int .i64 n, .string s, .slice ao2 ps.length cap2]) (by simp [results, Tryd.results7, go_sem, r0, r1, r2, r3]) rfl ⟨_, rfl, ownsRow_moved hown hm (by omega), HB.out.trans (hm.below (by omega) HB.out.size)⟩

end Go.Proofs.YtcjnigmklijjiaaDoor
