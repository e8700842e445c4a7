/- The contract of the law's own (scullerylaw10): directives for the document, while they are small. -/
import Derived.Test.YtjnagifolheloaaDoorDirP
import Derived.Test.YtjnagifolheloaaDoorRows
import Derived.Laws.AppendOwn
import Derived.Deep.QuietTactic
import Derived.BigQuiet
import Derived.WalkKit
import Derived.WalkSpells
import Derived.WalkLawsBesides
namespace Go.Proofs.YtjnagifolheloaaDoor
open Go.RowKit Go.Lib

/-- What bounds directives that are handed over. -/
def DirsIn (ds : List Dir) : Prop := ds.length ≤ 3518437208883 ∧ ∀ d ∈ ds, d.1.length ≤ 140737488355328 ∧ d.2.1.length ≤ 140737488355328
/-- How many of the directives are taken, and how many bytes they have, about: as counted in 64 bits, and as it is. -/
def dsStep (n : Int) (d : Dir) : Int := wrap64 (wrap64 (wrap64 (n + (d.1.length : Int)) + (d.2.1.length : Int)) + 1)
def owI : Int → List Dir → Nat × Int
  | n, [] => (0, n)
  | n, d :: ds => if n < 10000 then ((owI (dsStep n d) ds).1 + 1, (owI (dsStep n d) ds).2) else (0, n)
def owN : Nat → List Dir → Nat × Nat
  | n, [] => (0, n)
  | n, d :: ds => if n < 10000 then ((owN (n + d.1.length + d.2.1.length + 1) ds).1 + 1, (owN (n + d.1.length + d.2.1.length + 1) ds).2) else (0, n)
theorem owI_eq : ∀ (ds : List Dir) (n : Nat), (∀ d ∈ ds, d.1.length ≤ 140737488355328 ∧ d.2.1.length ≤ 140737488355328) → owI (n : Int) ds = ((owN n ds).1, ((owN n ds).2 : Int))
  | [], _, _ => rfl
  | d :: ds, n, h => by
    obtain ⟨h1, h2⟩ := h d (List.mem_cons_self ..)
    by_cases hn : n < 10000
    · have e : dsStep (n : Int) d = ((n + d.1.length + d.2.1.length + 1 : Nat) : Int) := by
        unfold dsStep wrap64
        omega
      have ih := owI_eq ds (n + d.1.length + d.2.1.length + 1) (fun q hq => h q (List.mem_cons_of_mem _ hq))
      rw [owI, owN, if_pos hn, if_pos (by omega), e, ih]
    · rw [owI, owN, if_neg hn, if_neg (by omega)]
theorem owN_ge : ∀ (ds : List Dir) (n : Nat), n ≤ (owN n ds).2
  | [], _ => Nat.le_refl _
  | d :: ds, n => by
    rw [owN]
    split
    · have := owN_ge ds (n + d.1.length + d.2.1.length + 1)
      dsimp only
      omega
    · exact Nat.le_refl _
theorem owN_small : ∀ (ds : List Dir) (n : Nat), (owN n ds).2 ≤ 1000 → (owN n ds).1 = ds.length ∧ n + ds.length ≤ 1000 ∧ ∀ d ∈ ds, d.1.length ≤ 1000 ∧ d.2.1.length ≤ 1000
  | [], n, h => ⟨rfl, by simpa [owN] using h, fun d hd => by cases hd⟩
  | d :: ds, n, h => by
    rw [owN] at h ⊢
    split
    · rename_i hn
      rw [if_pos hn] at h
      dsimp only at h
      have hg := owN_ge ds (n + d.1.length + d.2.1.length + 1)
      obtain ⟨h1, h2, h3⟩ := owN_small ds _ h
      refine ⟨by rw [h1, List.length_cons], by rw [List.length_cons]; omega, fun e he => ?_⟩
      rcases List.mem_cons.1 he with rfl | he
      · omega
      · exact h3 e he
    · rename_i hn
      rw [if_neg hn] at h
      dsimp only at h
      omega
theorem owN_ok (ds : List Dir) (h : (owN 0 ds).2 ≤ 1000) : DirsOk ds ∧ ds.length ≤ 1000 ∧ ds.take (owN 0 ds).1 = ds := by
  obtain ⟨h1, h2, h3⟩ := owN_small ds 0 h
  refine ⟨⟨by omega, fun d hd => ?_⟩, by omega, by rw [h1]; exact List.take_length⟩
  have := h3 d hd
  omega

theorem info_rdirO : (Tryd.prog.info? 48).map (fun i => (i.zero, i.size, i.bytes)) = some (some (.agg #[.string ⟨#[]⟩, .string ⟨#[]⟩, .bool false]), 3, 40) := by kernel_rfl

set_option maxRecDepth 100000 in
set_option maxHeartbeats 4000000 in
theorem ownI_any (lo : Nat) (v : Value) (ds : List Dir) (w : World) (hv : Dirs lo w v ds) (hl : ds.length ≤ 3518437208883) :
    Calls Tryd.prog 7 #[v] w fun e w' => (∃ u, e = .returned (.tuple #[u, .int .i64 (owI 0 ds).2]) ∧ Dirs w.heap.size w' u (ds.take (owI 0 ds).1)) ∧ Below w.heap.size w w' := by
  obtain ⟨i0, hi, hz0, hz1, hz2⟩ := info_parts info_rdirO
  obtain ⟨ao, cap, rfl, hc⟩ := hv
  have HC := Lib.hid hc
  clear hc
  go_enter Tryd.func7, Tryd.ntmps7
  go_wp2_with fail
  go_loopw [4, 5, 6] (fun r n i wr => ∃ (j : Nat) (N : Int) (av : Option Addr) (cv : Nat), r = .slice av j cv ∧ n = .int .i64 N ∧ i = .int .i64 j ∧ j ≤ ds.length ∧ Hid (owI 0 ds = ((owI N (ds.drop j)).1 + j, (owI N (ds.drop j)).2)) ∧ Hid (wr.ownsRow w.heap.size 48 3 (.slice av j cv) j (rowD (ds.take j))) ∧ Hid (Below w.heap.size w wr)) (fun _ _ i _ => ds.length - (intOf i).toNat)
  case atStart => exact ⟨0, 0, none, 0, rfl, rfl, rfl, Nat.zero_le _, Lib.hid rfl, Lib.hid (World.ownsRow_nil _ _ _ _), Lib.hid (Below.refl _ _)⟩
  case round =>
    obtain ⟨j, N, av, cv, rfl, rfl, rfl, hj, H, HO, HB⟩ := hrel
    by_cases hlt : j < ds.length
    · rcases HC.out with hnil | ⟨c, off, rfl, _, hcl, hcell⟩
      · exfalso
        rw [hnil] at hlt
        simp at hlt
      · obtain ⟨p, hp⟩ : ∃ p, ds[j]? = some p := ⟨_, List.getElem?_eq_getElem hlt⟩
        obtain ⟨x0, x1, x2⟩ := hcell j p hp
        have a0 := (HB.out.cell (p := ⟨c, off + j * 3, none⟩) hcl).trans x0
        have a1 := (HB.out.cell (p := ⟨c, off + j * 3 + 1, none⟩) hcl).trans x1
        have a2 := (HB.out.cell (p := ⟨c, off + j * 3 + 2, none⟩) hcl).trans x2
        have jI : (j : Int) < (ds.length : Int) := by omega
        have j0 : (0 : Int) ≤ (j : Int) := by omega
        have hd : ds.drop j = p :: ds.drop (j + 1) := by
          obtain ⟨h1, h2⟩ := List.getElem?_eq_some_iff.1 hp
          rw [← h2]
          exact List.drop_eq_getElem_cons h1
        rw [hd] at H
        have HD : Hid (dsStep N p = wrap64 (wrap64 (wrap64 (N + ((strB p.1).size : Int)) + ((strB p.2.1).size : Int)) + 1)) := Lib.hid (by rw [strB_size, strB_size, dsStep])
        have Htk : Hid (rowD (ds.take (j + 1)) = rowD (ds.take j) ++ cellsD p) := Lib.hid (by rw [List.take_add_one, hp]; exact rowD_snoc _ _)
        have hz := HB.out.size
        clear hd hp
        cases hN : decide (N < 10000)
        · have HE : Hid (owI 0 ds = (j, N)) := Lib.hid (by rw [H.out, owI, if_neg (by simpa using hN), Nat.zero_add])
          have HF := Lib.hid (Dirs.of_own (lo := w.heap.size) (ds := ds.take j) (by rw [List.length_take, Nat.min_eq_left hj]; exact HO.out) (Nat.le_refl _))
          clear H HD hcell x0 x1 x2
          go_wp2_with fail
          refine bodyPost_ret (v := .tuple #[.slice av j cv, .int .i64 N]) (by simp [results, Tryd.results7, go_sem]) rfl ⟨⟨_, by rw [HE.out], by rw [HE.out]; exact HF.out⟩, HB.out⟩
        · have HE : Hid (owI 0 ds = ((owI (dsStep N p) (ds.drop (j + 1))).1 + (j + 1), (owI (dsStep N p) (ds.drop (j + 1))).2)) := Lib.hid (by rw [H.out, owI, if_pos (by simpa using hN)]; congr 1; omega)
          have HLT := Lib.hid hcl
          have HX := Lib.hid (show ∀ W, Below w.heap.size w W → W.cell? ⟨c, off + j * 3, none⟩ = some (.string (strB p.1)) ∧ W.cell? ⟨c, off + j * 3 + 1, none⟩ = some (.string (strB p.2.1)) from fun W hb => ⟨(hb.cell (p := ⟨c, off + j * 3, none⟩) hcl).trans x0, (hb.cell (p := ⟨c, off + j * 3 + 1, none⟩) hcl).trans x1⟩)
          have hcl2 : c < wr.heap.size := by omega
          have HC2 := Lib.hid (show cellsD p = [.string (strB p.1), .string (strB p.2.1), .bool p.2.2] from rfl)
          clear H hcell x0 x1 x2 hcl
          rw [HC2.out] at Htk
          obtain ⟨PN, PV, PH⟩ := p
          dsimp only at *
          generalize strB PN = K at *
          generalize strB PV = S at *
          go_wp2_with (at_builtin; refine wpList_append_own _ rfl _ _ 25 rfl w.heap.size 48 i0 (.agg #[.string ⟨#[]⟩, .string ⟨#[]⟩, .bool false]) 3 40 Tryd.underlying25 hi hz0 hz1 hz2 rfl (by decide) (.slice av j cv) j (rowD (ds.take j)) rfl (HO.out.alloc _) ⟨_, 0, none⟩ 1 1 [.string K, .string S, .bool PH] rfl rfl (cells_newF wr [.string K, .string S, .bool PH] 48) (by simp [Value.oneCell']) (by unfold maxLen; omega) (by omega) (by simp; omega) ?_; intro v' w5 hown5 hgrow5 _; obtain ⟨a5, c5, rfl⟩ := owns_formF hown5; have HB5 := Lib.hid ((HB.out.alloc hz (.cells #[.string K, .string S, .bool PH] 48)).grown hgrow5 (by simp; omega) (fun k e => (World.ownsRow.lt HO.out k e).1)); obtain ⟨b0, b1⟩ := HX.out w5 HB5.out)
          go_quiet (fail)
          go_wp2_with fail
          go_roundw
          case rel => exact ⟨j + 1, dsStep N (PN, PV, PH), a5, c5, rfl, by rw [HD.out], by go_num, by omega, Lib.hid HE.out, Lib.hid (by rw [Htk.out]; exact ownsRow_later hown5 (below_drewN _ _)), Lib.hid (HB5.out.trans ((below_drewN _ _).mono HB5.out.size))⟩
          case measure => simp [intOf]; omega
    · obtain rfl : j = ds.length := by omega
      have HE : Hid (owI 0 ds = (ds.length, N)) := Lib.hid (by rw [H.out, List.drop_length, owI, Nat.zero_add])
      have HF := Lib.hid (Dirs.of_own (lo := w.heap.size) (ds := ds.take ds.length) (by rw [List.take_length]; rw [List.take_length] at HO; exact HO.out) (Nat.le_refl _))
      rw [List.take_length] at HF
      clear H
      go_wp2_with fail
      refine bodyPost_ret (v := .tuple #[.slice av ds.length cv, .int .i64 N]) (by simp [results, Tryd.results7, go_sem]) rfl ⟨⟨_, by rw [HE.out], by rw [HE.out, List.take_length]; exact HF.out⟩, HB.out⟩

theorem own_any (lo : Nat) (v : Value) (ds : List Dir) (w : World) (hv : Dirs lo w v ds) (hk : DirsIn ds) :
    Calls Tryd.prog 7 #[v] w fun e w' => (∃ u, e = .returned (.tuple #[u, .int .i64 (((owN 0 ds).2 : Nat) : Int)]) ∧ Dirs w.heap.size w' u (ds.take (owN 0 ds).1)) ∧ Below w.heap.size w w' := by
  have := ownI_any lo v ds w hv hk.1
  rwa [show owI 0 ds = ((owN 0 ds).1, ((owN 0 ds).2 : Int)) from owI_eq ds 0 hk.2] at this

end Go.Proofs.YtjnagifolheloaaDoor
