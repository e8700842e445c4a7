/- The contract of the law's own (scullerylaw10): directives for the document, while they are small. · The document's own Size and Same of fields (sculleryref06). · Plain: how many bytes the directives of a text have; how long the values of fields are, joined. -/
import Derived.Test.YtjnagifolheloaaDoorMDirP
import Derived.Test.YtjnagifolheloaaDoorRows
import Derived.Test.YtjnagifolheloaaDoorMPrnP
import Derived.Test.YtjnagifolheloaaDoorMDirQ
import Derived.Test.YtjnagifolheloaaDoorMHdS
import Derived.Laws.AppendOwn
import Derived.Deep.QuietTactic
import Derived.BigQuiet
import Derived.WalkKit
import Derived.WalkSpells
import Derived.WalkLawsBesides

namespace Go.Proofs.YtjnagifolheloaaDoor
open Go.RowKit Go.Lib

/-- What bounds directives that are handed over. -/
def DirsIn (ds : List Dir) : Prop := ds.length ≤ 3518437208883 ∧ ∀ d ∈ ds, d.1.length ≤ 140737488355328 ∧ d.2.1.length ≤ 140737488355328
/-- How many of the directives are taken, and how many bytes they have, about: as counted in 64 bits, and as it is. -/
def dsStep (n : Int) (d : Dir) : Int := wrap64 (wrap64 (wrap64 (n + (d.1.length : Int)) + (d.2.1.length : Int)) + 1)
def owI : Int → List Dir → Nat × Int
  | n, [] => (0, n)
  | n, d :: ds => if n < 10000 then ((owI (dsStep n d) ds).1 + 1, (owI (dsStep n d) ds).2) else (0, n)
def owN : Nat → List Dir → Nat × Nat
  | n, [] => (0, n)
  | n, d :: ds => if n < 10000 then ((owN (n + d.1.length + d.2.1.length + 1) ds).1 + 1, (owN (n + d.1.length + d.2.1.length + 1) ds).2) else (0, n)
theorem owI_eq : ∀ (ds : List Dir) (n : Nat), (∀ d ∈ ds, d.1.length ≤ 140737488355328 ∧ d.2.1.length ≤ 140737488355328) → owI (n : Int) ds = ((owN n ds).1, ((owN n ds).2 : Int))
  | [], _, _ => rfl
  | d :: ds, n, h => by
    obtain ⟨h1, h2⟩ := h d (List.mem_cons_self ..)
    by_cases hn : n < 10000
    · have e : dsStep (n : Int) d = ((n + d.1.length + d.2.1.length + 1 : Nat) : Int) := by
        unfold dsStep wrap64
        omega
      have ih := owI_eq ds (n + d.1.length + d.2.1.length + 1) (fun q hq => h q (List.mem_cons_of_mem _ hq))
      rw [owI, owN, if_pos hn, if_pos (by omega), e, ih]
    · rw [owI, owN, if_neg hn, if_neg (by omega)]
theorem owN_ge : ∀ (ds : List Dir) (n : Nat), n ≤ (owN n ds).2
  | [], _ => Nat.le_refl _
  | d :: ds, n => by
    rewrite [owN]
    split
    · have := owN_ge ds (n + d.1.length + d.2.1.length + 1)
      dsimp only
      omega
    · exact Nat.le_refl _
theorem owN_small : ∀ (ds : List Dir) (n : Nat), (owN n ds).2 ≤ 1000 → (owN n ds).1 = ds.length ∧ n + ds.length ≤ 1000 ∧ ∀ d ∈ ds, d.1.length ≤ 1000 ∧ d.2.1.length ≤ 1000
  | [], n, h => ⟨rfl, by simpa [owN] using h, fun d hd => by cases hd⟩
  | d :: ds, n, h => by
    rw [owN] at h ⊢
    split
    · rename_i hn
      rw [if_pos hn] at h
      dsimp only at h
      have hg := owN_ge ds (n + d.1.length + d.2.1.length + 1)
      obtain ⟨h1, h2, h3⟩ := owN_small ds _ h
      refine ⟨by rw [h1, List.length_cons], by rewrite [List.length_cons]; omega, fun e he => ?_⟩
      rcases List.mem_cons.1 he with rfl | he
      · omega
      · exact h3 e he
    · rename_i hn
      rw [if_neg hn] at h
      dsimp only at h
      omega
theorem owN_ok (ds : List Dir) (h : (owN 0 ds).2 ≤ 1000) : DirsOk ds ∧ ds.length ≤ 1000 ∧ ds.take (owN 0 ds).1 = ds := by
  obtain ⟨h1, h2, h3⟩ := owN_small ds 0 h
  refine ⟨⟨by omega, fun d hd => ?_⟩, by omega, by rewrite [h1]; exact List.take_length⟩
  have := h3 d hd
  omega

theorem info_rdirO : (Tryd.prog.info? 48).map (fun i => (i.zero, i.size, i.bytes)) = some (some (.agg #[.string ⟨#[]⟩, .string ⟨#[]⟩, .bool false]), 3, 40) := by kernel_rfl

set_option maxRecDepth 100000 in
set_option maxHeartbeats 4000000 in
theorem ownI_any (lo : Nat) (v : Value) (ds : List Dir) (w : World) (hv : Dirs lo w v ds) (hl : ds.length ≤ 3518437208883) :
    Calls Tryd.prog 7 #[v] w fun e w' => (∃ u, e = .returned (.tuple #[u, .int .i64 (owI 0 ds).2]) ∧ Dirs w.heap.size w' u (ds.take (owI 0 ds).1)) ∧ Below w.heap.size w w' := by
  obtain ⟨i0, hi, hz0, hz1, hz2⟩ := info_parts info_rdirO
  obtain ⟨ao, cap, rfl, hc⟩ := hv
  have HC := Lib.hid hc
  clear hc
  go_enter Tryd.func7, Tryd.ntmps7
  go_wp2_with fail
  go_loopw [4, 5, 6] (fun r n i wr => ∃ (j : Nat) (N : Int) (av : Option Addr) (cv : Nat), r = .slice av j cv ∧ n = .int .i64 N ∧ i = .int .i64 j ∧ j ≤ ds.length ∧ Hid (owI 0 ds = ((owI N (ds.drop j)).1 + j, (owI N (ds.drop j)).2)) ∧ Hid (wr.ownsRow w.heap.size 48 3 (.slice av j cv) j (rowD (ds.take j))) ∧ Hid (Below w.heap.size w wr)) (fun _ _ i _ => ds.length - (intOf i).toNat)
  case atStart => exact ⟨0, 0, none, 0, rfl, rfl, rfl, Nat.zero_le _, Lib.hid rfl, Lib.hid (World.ownsRow_nil _ _ _ _), Lib.hid (Below.refl _ _)⟩
  case round =>
    obtain ⟨j, N, av, cv, rfl, rfl, rfl, hj, H, HO, HB⟩ := hrel
    by_cases hlt : j < ds.length
    · rcases HC.out with hnil | ⟨c, off, rfl, _, hcl, hcell⟩
      · exfalso
        rw [hnil] at hlt
        simp at hlt
      · obtain ⟨p, hp⟩ : ∃ p, ds[j]? = some p := ⟨_, List.getElem?_eq_getElem hlt⟩
        obtain ⟨x0, x1, x2⟩ := hcell j p hp
        have a0 := (HB.out.cell (p := ⟨c, off + j * 3, none⟩) hcl).trans x0
        have a1 := (HB.out.cell (p := ⟨c, off + j * 3 + 1, none⟩) hcl).trans x1
        have a2 := (HB.out.cell (p := ⟨c, off + j * 3 + 2, none⟩) hcl).trans x2
        have jI : (j : Int) < (ds.length : Int) := by omega
        have j0 : (0 : Int) ≤ (j : Int) := by omega
        have hd : ds.drop j = p :: ds.drop (j + 1) := by
          obtain ⟨h1, h2⟩ := List.getElem?_eq_some_iff.1 hp
          rewrite [← h2]
          exact List.drop_eq_getElem_cons h1
        rw [hd] at H
        have HD : Hid (dsStep N p = wrap64 (wrap64 (wrap64 (N + ((strB p.1).size : Int)) + ((strB p.2.1).size : Int)) + 1)) := Lib.hid (by rw [strB_size, strB_size, dsStep])
        have Htk : Hid (rowD (ds.take (j + 1)) = rowD (ds.take j) ++ cellsD p) := Lib.hid (by rewrite [List.take_add_one, hp]; exact rowD_snoc _ _)
        have hz := HB.out.size
        clear hd hp
        cases hN : decide (N < 10000)
        · have HE : Hid (owI 0 ds = (j, N)) := Lib.hid (by rw [H.out, owI, if_neg (by simpa using hN), Nat.zero_add])
          have HF := Lib.hid (Dirs.of_own (lo := w.heap.size) (ds := ds.take j) (by rewrite [List.length_take, Nat.min_eq_left hj]; exact HO.out) (Nat.le_refl _))
          clear H HD hcell x0 x1 x2
          go_wp2_with fail
          refine bodyPost_ret (v := .tuple #[.slice av j cv, .int .i64 N]) (by simp [results, Tryd.results7, go_sem]) rfl ⟨⟨_, by rw [HE.out], by rewrite [HE.out]; exact HF.out⟩, HB.out⟩
        · have HE : Hid (owI 0 ds = ((owI (dsStep N p) (ds.drop (j + 1))).1 + (j + 1), (owI (dsStep N p) (ds.drop (j + 1))).2)) := Lib.hid (by rewrite [H.out, owI, if_pos (by simpa using hN)]; congr 1; omega)
          have HLT := Lib.hid hcl
          have HX := Lib.hid (show ∀ W, Below w.heap.size w W → W.cell? ⟨c, off + j * 3, none⟩ = some (.string (strB p.1)) ∧ W.cell? ⟨c, off + j * 3 + 1, none⟩ = some (.string (strB p.2.1)) from fun W hb => ⟨(hb.cell (p := ⟨c, off + j * 3, none⟩) hcl).trans x0, (hb.cell (p := ⟨c, off + j * 3 + 1, none⟩) hcl).trans x1⟩)
          have hcl2 : c < wr.heap.size := by omega
          have HC2 := Lib.hid (show cellsD p = [.string (strB p.1), .string (strB p.2.1), .bool p.2.2] from rfl)
          clear H hcell x0 x1 x2 hcl
          rw [HC2.out] at Htk
          obtain ⟨PN, PV, PH⟩ := p
          dsimp only at *
          generalize strB PN = K at *
          generalize strB PV = S at *
          go_wp2_with (at_builtin; refine wpList_append_own _ rfl _ _ 25 rfl w.heap.size 48 i0 (.agg #[.string ⟨#[]⟩, .string ⟨#[]⟩, .bool false]) 3 40 Tryd.underlying25 hi hz0 hz1 hz2 rfl (by decide) (.slice av j cv) j (rowD (ds.take j)) rfl (HO.out.alloc _) ⟨_, 0, none⟩ 1 1 [.string K, .string S, .bool PH] rfl rfl (cells_newF wr [.string K, .string S, .bool PH] 48) (by simp [Value.oneCell']) (by unfold maxLen; omega) (by omega) (by simp; omega) ?_; intro v' w5 hown5 hgrow5 _; obtain ⟨a5, c5, rfl⟩ := owns_formF hown5; have HB5 := Lib.hid ((HB.out.alloc hz (.cells #[.string K, .string S, .bool PH] 48)).grown hgrow5 (by simp; omega) (fun k e => (World.ownsRow.lt HO.out k e).1)); obtain ⟨b0, b1⟩ := HX.out w5 HB5.out)
          go_quiet (fail)
          go_wp2_with fail
          go_roundw
          case rel => exact ⟨j + 1, dsStep N (PN, PV, PH), a5, c5, rfl, by rw [HD.out], by go_num, by omega, Lib.hid HE.out, Lib.hid (by rewrite [Htk.out]; exact ownsRow_later hown5 (below_drewN _ _)), Lib.hid (HB5.out.trans ((below_drewN _ _).mono HB5.out.size))⟩
          case measure => simp [intOf]; omega
    · obtain rfl : j = ds.length := by omega
      have HE : Hid (owI 0 ds = (ds.length, N)) := Lib.hid (by rw [H.out, List.drop_length, owI, Nat.zero_add])
      have HF := Lib.hid (Dirs.of_own (lo := w.heap.size) (ds := ds.take ds.length) (by rewrite [List.take_length]; rw [List.take_length] at HO; exact HO.out) (Nat.le_refl _))
      rw [List.take_length] at HF
      clear H
      go_wp2_with fail
      refine bodyPost_ret (v := .tuple #[.slice av ds.length cv, .int .i64 N]) (by simp [results, Tryd.results7, go_sem]) rfl ⟨⟨_, by rw [HE.out], by rewrite [HE.out, List.take_length]; exact HF.out⟩, HB.out⟩

theorem own_any (lo : Nat) (v : Value) (ds : List Dir) (w : World) (hv : Dirs lo w v ds) (hk : DirsIn ds) :
    Calls Tryd.prog 7 #[v] w fun e w' => (∃ u, e = .returned (.tuple #[u, .int .i64 (((owN 0 ds).2 : Nat) : Int)]) ∧ Dirs w.heap.size w' u (ds.take (owN 0 ds).1)) ∧ Below w.heap.size w w' := by
  have := ownI_any lo v ds w hv hk.1
  rwa [show owI 0 ds = ((owN 0 ds).1, ((owN 0 ds).2 : Int)) from owI_eq ds 0 hk.2] at this

end Go.Proofs.YtjnagifolheloaaDoor

namespace Go.Proofs.YtjnagifolheloaaDoor
open Go.RowKit

/-- What any fields in memory have: strings and slices are no longer than Go lets them be. -/
def FldsIn (fs : List Fld) : Prop := fs.length ≤ 140737488355328 ∧ ∀ p ∈ fs, p.1.length ≤ 140737488355328 ∧ p.2.length ≤ 140737488355328

/-- The size, as it is told. -/
def szH : Nat → List Fld → Nat
  | n, [] => n
  | n, p :: fs => if n < 100000 then szH (n + p.1.length + p.2.length + 4) fs else n
theorem szH_ge : ∀ (fs : List Fld) (n : Nat), n ≤ szH n fs
  | [], n => Nat.le_refl n
  | p :: fs, n => by
    rewrite [szH]
    split
    · exact Nat.le_trans (by omega) (szH_ge fs _)
    · exact Nat.le_refl n
theorem szH_small : ∀ (fs : List Fld) (n : Nat), szH n fs ≤ 10000 → n + (prF fs).length = szH n fs
  | [], n, _ => rfl
  | p :: fs, n, h => by
    rw [szH] at h ⊢
    split at h
    · rename_i hn
      rewrite [if_pos hn, prF, List.length_append, lineF_len]
      have := szH_small fs _ h
      omega
    · omega
theorem prF_ge : ∀ fs : List Fld, 4 * fs.length ≤ (prF fs).length
  | [] => Nat.le_refl _
  | p :: fs => by
    have := prF_ge fs
    rewrite [prF, List.length_append, lineF_len, List.length_cons]
    omega
theorem prF_mem : ∀ (fs : List Fld) (p : Fld), p ∈ fs → p.1.length + p.2.length ≤ (prF fs).length
  | [], _, h => by cases h
  | q :: fs, p, h => by
    rewrite [prF, List.length_append, lineF_len]
    rcases List.mem_cons.1 h with rfl | h
    · omega
    · have := prF_mem fs p h
      omega
/-- Fields of a small size are few, and short. -/
theorem szH_ok (fs : List Fld) (h : szH 0 fs ≤ 10000) : FldsOk fs ∧ (prF fs).length ≤ 10000 := by
  have h1 := szH_small fs 0 h
  have h2 := prF_ge fs
  refine ⟨⟨by omega, fun p hp => ?_⟩, by omega⟩
  have := prF_mem fs p hp
  omega

/-- As it is counted, in 64 bits. -/
def szStep (n : Int) (p : Fld) : Int := wrap64 (wrap64 (wrap64 (n + (p.1.length : Int)) + (p.2.length : Int)) + 4)
def szI (n : Int) : List Fld → Int
  | [] => n
  | p :: fs => if n < 100000 then szI (szStep n p) fs else n
theorem szI_eq : ∀ (fs : List Fld) (n : Nat), (∀ p ∈ fs, p.1.length ≤ 140737488355328 ∧ p.2.length ≤ 140737488355328) → szI (n : Int) fs = ((szH n fs : Nat) : Int)
  | [], _, _ => rfl
  | p :: fs, n, h => by
    obtain ⟨h1, h2⟩ := h p (List.mem_cons_self ..)
    by_cases hn : n < 100000
    · have e : szStep (n : Int) p = ((n + p.1.length + p.2.length + 4 : Nat) : Int) := by
        unfold szStep wrap64
        omega
      rewrite [szI, szH, if_pos hn, if_pos (by omega), e]
      exact szI_eq fs _ (fun q hq => h q (List.mem_cons_of_mem _ hq))
    · rw [szI, szH, if_neg hn, if_neg (by omega)]

set_option maxRecDepth 100000 in
set_option maxHeartbeats 2000000 in
theorem rsizeI_any (lo : Nat) (v : Value) (fs : List Fld) (w : World) (h : Flds lo w v fs) (hl : fs.length ≤ maxLen) :
    Calls Tryd.prog 8 #[v] w fun e w' => e = .returned (.int .i64 (szI 0 fs)) ∧ Below w.heap.size w w' := by
  unfold maxLen at hl
  obtain ⟨ao, cap, rfl, hc⟩ := h
  have HC := Lib.hid hc
  clear hc
  go_enter Tryd.func8, Tryd.ntmps8
  go_wp2_with fail
  go_loopw [3, 4] (fun n i wr => ∃ (j : Nat) (N : Int), n = .int .i64 N ∧ i = .int .i64 j ∧ j ≤ fs.length ∧ Hid (szI 0 fs = szI N (fs.drop j)) ∧ Below w.heap.size w wr) (fun _ i _ => fs.length - (intOf i).toNat)
  case atStart => exact ⟨0, 0, rfl, rfl, Nat.zero_le _, Lib.hid rfl, Below.refl _ _⟩
  case round =>
    obtain ⟨j, N, rfl, rfl, hj, H, hb⟩ := hrel
    have HB := Lib.hid hb
    by_cases hlt : j < fs.length
    · rcases HC.out with hnil | ⟨c, off, rfl, _, hcl, hcell⟩
      · exfalso
        rw [hnil] at hlt
        simp at hlt
      · obtain ⟨p, hp⟩ : ∃ p, fs[j]? = some p := ⟨_, List.getElem?_eq_getElem hlt⟩
        obtain ⟨x0, x1⟩ := hcell j p hp
        have a0 := (hb.cell (p := ⟨c, off + j * 2, none⟩) hcl).trans x0
        have a1 := (hb.cell (p := ⟨c, off + j * 2 + 1, none⟩) hcl).trans x1
        have jI : (j : Int) < (fs.length : Int) := by omega
        have j0 : (0 : Int) ≤ (j : Int) := by omega
        have hd : fs.drop j = p :: fs.drop (j + 1) := by
          obtain ⟨h1, h2⟩ := List.getElem?_eq_some_iff.1 hp
          rewrite [← h2]
          exact List.drop_eq_getElem_cons h1
        rw [hd] at H
        have HD : Hid (szStep N p = wrap64 (wrap64 (wrap64 (N + ((strB p.1).size : Int)) + ((strB p.2).size : Int)) + 4)) := Lib.hid (by rw [strB_size, strB_size, szStep])
        clear hcell x0 x1 hb hd hp
        cases hN : decide (N < 100000)
        · have HE : Hid (szI 0 fs = N) := Lib.hid (by rw [H.out, szI, if_neg (by simpa using hN)])
          clear H HD
          go_wp2_with fail
          go_ret
          exact ⟨by rw [HE.out] <;> rfl, HB.out⟩
        · have HE : Hid (szI 0 fs = szI (szStep N p) (fs.drop (j + 1))) := Lib.hid (by rw [H.out, szI, if_pos (by simpa using hN)])
          clear H
          generalize strB p.1 = K at *
          generalize strB p.2 = S at *
          go_wp2_with fail
          go_quiet (fail)
          go_wp2_with fail
          go_roundw
          case rel => exact ⟨j + 1, szStep N p, by rw [HD.out], by go_num, by omega, Lib.hid HE.out, HB.out.trans ((below_drewN _ _).mono HB.out.size)⟩
          case measure => simp [intOf]; omega
    · obtain rfl : j = fs.length := by omega
      have HE : Hid (szI 0 fs = N) := Lib.hid (by rw [H.out, List.drop_length, szI])
      clear H hb
      go_wp2_with fail
      go_ret
      exact ⟨by rw [HE.out] <;> rfl, HB.out⟩

theorem rsize_any (lo : Nat) (v : Value) (fs : List Fld) (w : World) (h : Flds lo w v fs) (hk : FldsIn fs) :
    Calls Tryd.prog 8 #[v] w fun e w' => e = .returned (.int .i64 ((szH 0 fs : Nat) : Int)) ∧ Below w.heap.size w w' := by
  have := rsizeI_any lo v fs w h (by have := hk.1; unfold maxLen; omega)
  rwa [show szI 0 fs = ((szH 0 fs : Nat) : Int) from szI_eq fs 0 hk.2] at this

end Go.Proofs.YtjnagifolheloaaDoor

namespace Go.Proofs.YtjnagifolheloaaDoor
open Go.RowKit Go.Lib

theorem oneL_sum (s : List UInt8) (d : Dir) (h : oneL s = some d) : d.1.length + d.2.1.length ≤ s.length := by
  unfold oneL at h
  split at h
  · split at h
    · cases h
      dsimp only
      rewrite [lowL_size]
      simp
    · cases h
  · split at h
    · rename_i h0 _
      have hi : (Lib.indexByte s 61).toNat < s.length := by
        have h1 := Lib.indexByte_ge s 61
        obtain ⟨o, ho⟩ := Int.eq_ofNat_of_zero_le (show 0 ≤ Lib.indexByte s 61 by omega)
        have h2 := (Lib.indexByte_some (l := s) (c := 61) (o := o) ho).1
        rewrite [ho]
        exact (List.getElem?_eq_some_iff.1 h2).1
      split at h
      · cases h
        dsimp only
        rewrite [lowL_size, List.length_take, List.length_drop]
        omega
      · cases hq : unqL (s.drop ((Lib.indexByte s 61).toNat + 1)) with
        | none => rw [hq] at h; cases h
        | some t =>
          rw [hq] at h
          cases h
          have := unqL_len _ _ hq
          rw [List.length_drop] at this
          dsimp only
          rewrite [lowL_size, List.length_take]
          omega
    · cases h
/-- All bytes of directives, and one each. -/
def sumD : List Dir → Nat
  | [] => 0
  | d :: ds => d.1.length + d.2.1.length + 1 + sumD ds
def sumS : List (List UInt8) → Nat
  | [] => 0
  | p :: ps => p.length + 1 + sumS ps
theorem sumS_app : ∀ ps qs : List (List UInt8), sumS (ps ++ qs) = sumS ps + sumS qs
  | [], qs => by simp [sumS]
  | p :: ps, qs => by rewrite [List.cons_append, sumS, sumS, sumS_app ps qs]; omega
theorem splitL_sum : ∀ (n : Nat) (l : List UInt8), l.length ≤ n → sumS (splitL l) ≤ l.length + 1
  | 0, l, h => by
    obtain rfl : l = [] := List.eq_nil_of_length_eq_zero (by omega)
    rewrite [splitL_nil]
    exact Nat.zero_le _
  | n + 1, l, h => by
    by_cases hl : l = []
    · subst hl
      rewrite [splitL_nil]
      exact Nat.zero_le _
    · have hp := List.length_pos_iff.2 hl
      have hd : (l.drop (peL l + 1)).length = l.length - (peL l + 1) := List.length_drop
      have h1 := splitL_sum n (l.drop (peL l + 1)) (by omega)
      have h2 := peL_le l
      have ht : (trimL (l.take (peL l))).length ≤ peL l := Nat.le_trans (trimL_le _) (by rewrite [List.length_take]; omega)
      rewrite [splitL_step l hl, sumS_app]
      have h3 : sumS (if trimL (l.take (peL l)) = [] then [] else [trimL (l.take (peL l))]) ≤ peL l + 1 := by
        split
        · exact Nat.zero_le _
        · simp only [sumS]; omega
      by_cases he : peL l < l.length
      · omega
      · have h0 : l.drop (peL l + 1) = [] := List.drop_of_length_le (by omega)
        rewrite [h0, splitL_nil]
        simp only [sumS]
        omega
theorem dirs_sum : ∀ ps : List (List UInt8), sumD (ps.filterMap oneL) ≤ sumS ps
  | [] => Nat.le_refl _
  | p :: ps => by
    have ih := dirs_sum ps
    rewrite [List.filterMap_cons]
    split
    · rewrite [sumS]; omega
    · rename_i d hd
      have := oneL_sum p d hd
      rewrite [sumD, sumS]
      omega
theorem owN_all : ∀ (ds : List Dir) (n : Nat), n + sumD ds ≤ 10000 → owN n ds = (ds.length, n + sumD ds)
  | [], n, _ => rfl
  | d :: ds, n, h => by
    rw [sumD] at h
    rewrite [owN, if_pos (by omega), owN_all ds _ (by omega), sumD, List.length_cons]
    exact Prod.ext rfl (by dsimp only; omega)
theorem dirsL_all (s : List UInt8) (hs : s.length ≤ 1000) : (dirsL s).take (owN 0 (dirsL s)).1 = dirsL s := by
  have h1 := splitL_sum _ s (Nat.le_refl _)
  have h2 := dirs_sum (splitL s)
  rewrite [owN_all (dirsL s) 0 (by rewrite [Nat.zero_add]; exact Nat.le_trans h2 (by omega))]
  exact List.take_length
theorem dirsOk_in {ds : List Dir} (h : DirsOk ds) : DirsIn ds := ⟨Nat.le_trans h.1 (by decide), fun d hd => ⟨Nat.le_trans (h.2 d hd).1 (by decide), Nat.le_trans (h.2 d hd).2 (by decide)⟩⟩
theorem lens_pr (n : List UInt8) : ∀ fs : List Fld, 2 * (allH fs n).length + lensH (allH fs n) ≤ (prF fs).length
  | [] => Nat.zero_le _
  | p :: fs => by
    have ih := lens_pr n fs
    have hl := lineF_len p
    rewrite [prF, List.length_append, hl]
    unfold allH at ih ⊢
    rewrite [List.filter_cons]
    split
    · rewrite [List.map_cons, List.length_cons, lensH]; omega
    · omega
theorem join_small (fs : List Fld) (n : List UInt8) : (joinH (allH fs n)).length ≤ (prF fs).length := by
  have h := lens_pr n fs
  cases hp : allH fs n with
  | nil => exact Nat.zero_le _
  | cons p ps =>
    rw [hp, List.length_cons, lensH] at h
    rewrite [joinH, List.length_append, tailH_len]
    omega

end Go.Proofs.YtjnagifolheloaaDoor
