/- The contracts of the law's own and same (scullerylaw12). · The document's own List (sculleryref12). -/
import Derived.Test.YtclgdmcbbphbcaaDoorZMFldP
import Derived.Test.YtclgdmcbbphbcaaDoorZMBasP
import Derived.Test.YtclgdmcbbphbcaaDoorRows
import Derived.Test.YtclgdmcbbphbcaaDoorZMEuA
import Derived.Laws.AppendOwn
import Derived.Deep.QuietTactic
import Derived.BigQuiet
import Derived.WalkKit
import Derived.WalkSpells
import Derived.WalkLawsBesides

namespace Go.Proofs.YtclgdmcbbphbcaaDoor
open Go.RowKit Go.Lib

theorem info_rtag : (Tryd.prog.info? 51).map (fun i => (i.zero, i.size, i.bytes)) = some (some (.agg #[.bool false, .string ⟨#[]⟩]), 2, 24) := by kernel_rfl

set_option maxRecDepth 100000 in
set_option maxHeartbeats 4000000 in
theorem eown_any (lo : Nat) (v : Value) (ts : List Tg) (w : World) (hv : Tags lo w v ts) (hl : ts.length ≤ 5864062014805) :
    Calls Tryd.prog 11 #[v] w fun e w' => (∃ u, e = .returned u ∧ Tags w.heap.size w' u ts) ∧ Below w.heap.size w w' := by
  obtain ⟨i0, hi, hz0, hz1, hz2⟩ := info_parts info_rtag
  obtain ⟨ao, cap, rfl, hc⟩ := hv
  have HC := Lib.hid hc
  clear hc
  go_enter Tryd.func11, Tryd.ntmps11
  go_wp2_with fail
  go_loopw [3, 4] (fun r i wr => ∃ (j : Nat) (av : Option Addr) (cv : Nat), r = .slice av j cv ∧ i = .int .i64 j ∧ j ≤ ts.length ∧ Hid (wr.ownsRow w.heap.size 51 2 (.slice av j cv) j (rowT (ts.take j))) ∧ Hid (Below w.heap.size w wr)) (fun _ i _ => ts.length - (intOf i).toNat)
  case atStart => exact ⟨0, none, 0, rfl, rfl, Nat.zero_le _, Lib.hid (World.ownsRow_nil _ _ _ _), Lib.hid (Below.refl _ _)⟩
  case round =>
    obtain ⟨j, av, cv, rfl, rfl, hj, HO, HB⟩ := hrel
    by_cases hlt : j < ts.length
    · rcases HC.out with hnil | ⟨c, off, rfl, _, hcl, hcell⟩
      · exfalso
        rw [hnil] at hlt
        simp at hlt
      · obtain ⟨p, hp⟩ : ∃ p, ts[j]? = some p := ⟨_, List.getElem?_eq_getElem hlt⟩
        obtain ⟨x0, x1⟩ := hcell j p hp
        have a0 := (HB.out.cell (p := ⟨c, off + j * 2, none⟩) hcl).trans x0
        have a1 := (HB.out.cell (p := ⟨c, off + j * 2 + 1, none⟩) hcl).trans x1
        have jI : (j : Int) < (ts.length : Int) := by omega
        have j0 : (0 : Int) ≤ (j : Int) := by omega
        have Htk : Hid (rowT (ts.take (j + 1)) = rowT (ts.take j) ++ [.bool p.1, .string (strB p.2)]) := Lib.hid (by rw [List.take_add_one, hp]; exact rowT_snoc _ _)
        have hz := HB.out.size
        clear hp hcell x0 x1
        obtain ⟨PW, PT⟩ := p
        dsimp only at *
        generalize strB PT = K at *
        go_wp2_with (at_builtin; refine wpList_append_own _ rfl _ _ 35 rfl w.heap.size 51 i0 (.agg #[.bool false, .string ⟨#[]⟩]) 2 24 Tryd.underlying35 hi hz0 hz1 hz2 rfl (by decide) (.slice av j cv) j (rowT (ts.take j)) rfl (HO.out.alloc _) ⟨_, 0, none⟩ 1 1 [.bool PW, .string K] rfl rfl (cells_newF wr [.bool PW, .string K] 51) (by simp [Value.oneCell']) (by unfold maxLen; omega) (by omega) (by simp; omega) ?_; intro v' w5 hown5 hgrow5 _; obtain ⟨a5, c5, rfl⟩ := owns_formF hown5; have HB5 := Lib.hid ((HB.out.alloc hz (.cells #[.bool PW, .string K] 51)).grown hgrow5 (by simp; omega) (fun k e => (World.ownsRow.lt HO.out k e).1)))
        go_roundw
        case rel => exact ⟨j + 1, a5, c5, rfl, by go_num, by omega, Lib.hid (by rw [Htk.out]; exact hown5), HB5⟩
        case measure => simp [intOf]; omega
    · obtain rfl : j = ts.length := by omega
      have g0 : ¬ (ts.length : Int) < (ts.length : Int) := by omega
      have HF := Lib.hid (Tags.of_own (lo := w.heap.size) (ds := ts) (by have := HO.out; rw [List.take_length] at this; exact this) (Nat.le_refl _))
      go_wp2_with fail
      go_ret
      exact ⟨⟨_, rfl, HF.out⟩, HB.out⟩

set_option maxRecDepth 100000 in
set_option maxHeartbeats 4000000 in
theorem esame_any (lo : Nat) (v1 v2 : Value) (xs ys : List Tg) (w : World) (h1 : Tags lo w v1 xs) (h2 : Tags lo w v2 ys) (hl : xs.length ≤ 5864062014805) :
    Calls Tryd.prog 10 #[v1, v2] w fun e w' => e = .returned (.bool (decide (xs = ys))) ∧ Below w.heap.size w w' := by
  obtain ⟨ao, cap, rfl, hc⟩ := h1
  obtain ⟨bo, bcap, rfl, hc2⟩ := h2
  have HC := Lib.hid hc
  have HC2 := Lib.hid hc2
  clear hc hc2
  by_cases hll : xs.length = ys.length
  · have k0 : ((xs.length : Int) != (ys.length : Int)) = false := by rw [hll]; exact bne_self_eq_false _
    go_enter Tryd.func10, Tryd.ntmps10
    go_wp2_with fail
    go_loopw [5] (fun i wr => ∃ j : Nat, i = .int .i64 j ∧ j ≤ xs.length ∧ Hid (∀ k, k < j → xs[k]? = ys[k]?) ∧ Hid (Below w.heap.size w wr)) (fun i _ => xs.length - (intOf i).toNat)
    case atStart => exact ⟨0, rfl, Nat.zero_le _, Lib.hid (fun k hk => absurd hk (Nat.not_lt_zero _)), Lib.hid (Below.refl _ _)⟩
    case round =>
      obtain ⟨j, rfl, hj, HA, HB⟩ := hrel
      by_cases hlt : j < xs.length
      · rcases HC.out with hnil | ⟨c, off, rfl, _, hcl, hcell⟩
        · exfalso
          rw [hnil] at hlt
          simp at hlt
        rcases HC2.out with hnil | ⟨c2, off2, rfl, _, hcl2, hcell2⟩
        · exfalso
          rw [hnil] at hll
          simp at hll
          rw [hll] at hlt
          simp at hlt
        obtain ⟨p, hp⟩ : ∃ p, xs[j]? = some p := ⟨_, List.getElem?_eq_getElem hlt⟩
        obtain ⟨q, hq⟩ : ∃ q, ys[j]? = some q := ⟨_, List.getElem?_eq_getElem (by omega)⟩
        obtain ⟨x0, x1⟩ := hcell j p hp
        obtain ⟨y0, y1⟩ := hcell2 j q hq
        have a0 := (HB.out.cell (p := ⟨c, off + j * 2, none⟩) hcl).trans x0
        have a1 := (HB.out.cell (p := ⟨c, off + j * 2 + 1, none⟩) hcl).trans x1
        have b0 := (HB.out.cell (p := ⟨c2, off2 + j * 2, none⟩) hcl2).trans y0
        have b1 := (HB.out.cell (p := ⟨c2, off2 + j * 2 + 1, none⟩) hcl2).trans y1
        have jI : (j : Int) < (xs.length : Int) := by omega
        have jI2 : (j : Int) < (ys.length : Int) := by omega
        have j0 : (0 : Int) ≤ (j : Int) := by omega
        have hqe := name_eq p.2 q.2
        have HP := Lib.hid hp
        have HQ := Lib.hid hq
        clear hcell hcell2 x0 x1 y0 y1 hp hq
        by_cases he : p = q
        · have HA2 : Hid (∀ k, k < j + 1 → xs[k]? = ys[k]?) := Lib.hid (fun k hk => by
            by_cases hkj : k = j
            · rw [hkj, HP.out, HQ.out, he]
            · exact HA.out k (by omega))
          subst he
          rw [decide_eq_true rfl] at hqe
          obtain ⟨PW, PT⟩ := p
          dsimp only at *
          generalize strB PT = K at *
          go_wp2_with fail
          go_quiet (fail)
          go_wp2_with fail
          go_roundw
          case rel => exact ⟨j + 1, by go_num, by omega, HA2, Lib.hid (HB.out.trans ((below_drewN _ _).mono HB.out.size))⟩
          case measure => simp [intOf]; omega
        · have hne : decide (xs = ys) = false := decide_eq_false (fun e => he (by
            have h3 := HP.out
            rw [e, HQ.out] at h3
            exact (Option.some.inj h3).symm))
          obtain ⟨PW, PT⟩ := p
          obtain ⟨QW, QT⟩ := q
          have HN := Lib.hid hne
          dsimp only at *
          by_cases hw : PW = QW
          · have ht : ¬ QT = PT := fun e => he (by rw [hw, e])
            rw [decide_eq_false ht] at hqe
            subst hw
            clear he ht hne
            generalize strB PT = K at *
            generalize strB QT = K2 at *
            go_wp2_with fail
            go_quiet (fail)
            go_wp2_with fail
            go_ret
            exact ⟨by rw [HN.out] <;> rfl, HB.out.trans ((below_drewN _ _).mono HB.out.size)⟩
          · have kw : (PW == QW) = false := beq_false_of_ne hw
            clear he hne hqe
            generalize strB PT = K at *
            generalize strB QT = K2 at *
            cases PW <;> cases QW
            · exact absurd rfl hw
            · clear hw kw
              go_wp2_with fail
              go_quiet (fail)
              go_wp2_with fail
              go_ret
              exact ⟨by rw [HN.out] <;> rfl, HB.out.trans ((below_drewN _ _).mono HB.out.size)⟩
            · clear hw kw
              go_wp2_with fail
              go_quiet (fail)
              go_wp2_with fail
              go_ret
              exact ⟨by rw [HN.out] <;> rfl, HB.out.trans ((below_drewN _ _).mono HB.out.size)⟩
            · exact absurd rfl hw
      · obtain rfl : j = xs.length := by omega
        have g0 : ¬ (xs.length : Int) < (xs.length : Int) := by omega
        have he : decide (xs = ys) = true := decide_eq_true (by
          apply List.ext_getElem?
          intro k
          by_cases hk : k < xs.length
          · exact HA.out k hk
          · rw [List.getElem?_eq_none (by omega), List.getElem?_eq_none (by omega)])
        have HN := Lib.hid he
        clear he
        go_wp2_with fail
        go_ret
        exact ⟨by rw [HN.out] <;> rfl, HB.out⟩
  · have k0 : ((xs.length : Int) != (ys.length : Int)) = true := by rw [bne_iff_ne]; omega
    have HN := Lib.hid (show decide (xs = ys) = false from decide_eq_false (fun e => hll (by rw [e])))
    go_enter Tryd.func10, Tryd.ntmps10
    go_wp2_with fail
    go_ret
    exact ⟨by rw [HN.out] <;> rfl, Below.refl _ _⟩

end Go.Proofs.YtclgdmcbbphbcaaDoor

namespace Go.Proofs.YtclgdmcbbphbcaaDoor
open Go.RowKit Go.Lib

/-- What List answers. -/
def lsPost (o : Option (List Tg × Bool)) (w : World) (e : Ending) (w' : World) : Prop := Below w.heap.size w w' ∧ match o with
  | none => e = .returned (.tuple #[.slice none 0 0, .bool false, .int .i64 2])
  | some (xs, st) => ∃ u, e = .returned (.tuple #[u, .bool st, .int .i64 0]) ∧ Tags w.heap.size w' u xs
theorem blk_form (c : UInt8) : blkE c = (c == 32 || c == 9) := rfl

end Go.Proofs.YtclgdmcbbphbcaaDoor
