/- The document's own Size and Same of fields (sculleryref06). · The contract of the law's own (scullerylaw10): directives for the document, while they are small. -/
import Derived.Test.YtgffnjdmhpfneaaDoorZMPrnP
import Derived.Test.YtgffnjdmhpfneaaDoorRows
import Derived.WalkSpells
import Derived.WalkLawsBesides
import Derived.BigQuiet
import Derived.Deep.QuietTactic
import Derived.Laws.AppendOwn
import Derived.WalkKit

namespace Go.Proofs.YtgffnjdmhpfneaaDoor
open Go.RowKit

/-- What any fields in memory have: strings and slices are no longer than Go lets them be. -/
def FldsIn (fs : List Fld) : Prop := fs.length ≤ 140737488355328 ∧ ∀ p ∈ fs, p.1.length ≤ 140737488355328 ∧ p.2.length ≤ 140737488355328

/-- The size, as it is told. -/
def szH : Nat → List Fld → Nat
  | n, [] => n
  | n, p :: fs => if n < 100000 then szH (n + p.1.length + p.2.length + 4) fs else n
theorem szH_ge : ∀ (fs : List Fld) (n : Nat), n ≤ szH n fs
  | [], n => Nat.le_refl n
  | p :: fs, n => by
    rw [szH]
    split
    · exact Nat.le_trans (by omega) (szH_ge fs _)
    · exact Nat.le_refl n
theorem szH_small : ∀ (fs : List Fld) (n : Nat), szH n fs ≤ 10000 → n + (prF fs).length = szH n fs
  | [], n, _ => rfl
  | p :: fs, n, h => by
    rw [szH] at h ⊢
    split at h
    · rename_i hn
      rw [if_pos hn, prF, List.length_append, lineF_len]
      have := szH_small fs _ h
      omega
    · omega
theorem prF_ge : ∀ fs : List Fld, 4 * fs.length ≤ (prF fs).length
  | [] => Nat.le_refl _
  | p :: fs => by
    have := prF_ge fs
    rw [prF, List.length_append, lineF_len, List.length_cons]
    omega
theorem prF_mem : ∀ (fs : List Fld) (p : Fld), p ∈ fs → p.1.length + p.2.length ≤ (prF fs).length
  | [], _, h => by cases h
  | q :: fs, p, h => by
    rw [prF, List.length_append, lineF_len]
    rcases List.mem_cons.1 h with rfl | h
    · omega
    · have := prF_mem fs p h
      omega
/-- Fields of a small size are few, and short. -/
theorem szH_ok (fs : List Fld) (h : szH 0 fs ≤ 10000) : FldsOk fs ∧ (prF fs).length ≤ 10000 := by
  have h1 := szH_small fs 0 h
  have h2 := prF_ge fs
  refine ⟨⟨by omega, fun p hp => ?_⟩, by omega⟩
  have := prF_mem fs p hp
  omega

/-- As it is counted, in 64 bits. -/
def szStep (n : Int) (p : Fld) : Int := wrap64 (wrap64 (wrap64 (n + (p.1.length : Int)) + (p.2.length : Int)) + 4)
def szI (n : Int) : List Fld → Int
  | [] => n
  | p :: fs => if n < 100000 then szI (szStep n p) fs else n
theorem szI_eq : ∀ (fs : List Fld) (n : Nat), (∀ p ∈ fs, p.1.length ≤ 140737488355328 ∧ p.2.length ≤ 140737488355328) → szI (n : Int) fs = ((szH n fs : Nat) : Int)
  | [], _, _ => rfl
  | p :: fs, n, h => by
    obtain ⟨h1, h2⟩ := h p (List.mem_cons_self ..)
    by_cases hn : n < 100000
    · have e : szStep (n : Int) p = ((n + p.1.length + p.2.length + 4 : Nat) : Int) := by
        unfold szStep wrap64
        omega
      rw [szI, szH, if_pos hn, if_pos (by omega), e]
      exact szI_eq fs _ (fun q hq => h q (List.mem_cons_of_mem _ hq))
    · rw [szI, szH, if_neg hn, if_neg (by omega)]

set_option maxRecDepth 100000 in
set_option maxHeartbeats 2000000 in
theorem rsizeI_any (lo : Nat) (v : Value) (fs : List Fld) (w : World) (h : Flds lo w v fs) (hl : fs.length ≤ maxLen) :
    Calls Tryd.prog 7 #[v] w fun e w' => e = .returned (.int .i64 (szI 0 fs)) ∧ Below w.heap.size w w' := by
  unfold maxLen at hl
  obtain ⟨ao, cap, rfl, hc⟩ := h
  have HC := Lib.hid hc
  clear hc
  go_enter Tryd.func7, Tryd.ntmps7
  go_wp2_with fail
  go_loopw [3, 4] (fun n i wr => ∃ (j : Nat) (N : Int), n = .int .i64 N ∧ i = .int .i64 j ∧ j ≤ fs.length ∧ Hid (szI 0 fs = szI N (fs.drop j)) ∧ Below w.heap.size w wr) (fun _ i _ => fs.length - (intOf i).toNat)
  case atStart => exact ⟨0, 0, rfl, rfl, Nat.zero_le _, Lib.hid rfl, Below.refl _ _⟩
  case round =>
    obtain ⟨j, N, rfl, rfl, hj, H, hb⟩ := hrel
    have HB := Lib.hid hb
    by_cases hlt : j < fs.length
    · rcases HC.out with hnil | ⟨c, off, rfl, _, hcl, hcell⟩
      · exfalso
        rw [hnil] at hlt
        simp at hlt
      · obtain ⟨p, hp⟩ : ∃ p, fs[j]? = some p := ⟨_, List.getElem?_eq_getElem hlt⟩
        obtain ⟨x0, x1⟩ := hcell j p hp
        have a0 := (hb.cell (p := ⟨c, off + j * 2, none⟩) hcl).trans x0
        have a1 := (hb.cell (p := ⟨c, off + j * 2 + 1, none⟩) hcl).trans x1
        have jI : (j : Int) < (fs.length : Int) := by omega
        have j0 : (0 : Int) ≤ (j : Int) := by omega
        have hd : fs.drop j = p :: fs.drop (j + 1) := by
          obtain ⟨h1, h2⟩ := List.getElem?_eq_some_iff.1 hp
          rw [← h2]
          exact List.drop_eq_getElem_cons h1
        rw [hd] at H
        have HD : Hid (szStep N p = wrap64 (wrap64 (wrap64 (N + ((strB p.1).size : Int)) + ((strB p.2).size : Int)) + 4)) := Lib.hid (by rw [strB_size, strB_size, szStep])
        clear hcell x0 x1 hb hd hp
        cases hN : decide (N < 100000)
        · have HE : Hid (szI 0 fs = N) := Lib.hid (by rw [H.out, szI, if_neg (by simpa using hN)])
          clear H HD
          go_wp2_with fail
          go_ret
          exact ⟨by rw [HE.out] <;> rfl, HB.out⟩
        · have HE : Hid (szI 0 fs = szI (szStep N p) (fs.drop (j + 1))) := Lib.hid (by rw [H.out, szI, if_pos (by simpa using hN)])
          clear H
          generalize strB p.1 = K at *
          generalize strB p.2 = S at *
          go_wp2_with fail
          go_quiet (fail)
          go_wp2_with fail
          go_roundw
          case rel => exact ⟨j + 1, szStep N p, by rw [HD.out], by go_num, by omega, Lib.hid HE.out, HB.out.trans ((below_drewN _ _).mono HB.out.size)⟩
          case measure => simp [intOf]; omega
    · obtain rfl : j = fs.length := by omega
      have HE : Hid (szI 0 fs = N) := Lib.hid (by rw [H.out, List.drop_length, szI])
      clear H hb
      go_wp2_with fail
      go_ret
      exact ⟨by rw [HE.out] <;> rfl, HB.out⟩

theorem rsize_any (lo : Nat) (v : Value) (fs : List Fld) (w : World) (h : Flds lo w v fs) (hk : FldsIn fs) :
    Calls Tryd.prog 7 #[v] w fun e w' => e = .returned (.int .i64 ((szH 0 fs : Nat) : Int)) ∧ Below w.heap.size w w' := by
  have := rsizeI_any lo v fs w h (by have := hk.1; unfold maxLen; omega)
  rwa [show szI 0 fs = ((szH 0 fs : Nat) : Int) from szI_eq fs 0 hk.2] at this

end Go.Proofs.YtgffnjdmhpfneaaDoor

namespace Go.Proofs.YtgffnjdmhpfneaaDoor
open Go.RowKit Go.Lib

/-- What bounds directives that are handed over. -/
def DirsIn (ds : List Dir) : Prop := ds.length ≤ 3518437208883 ∧ ∀ d ∈ ds, d.1.length ≤ 140737488355328 ∧ d.2.1.length ≤ 140737488355328
/-- How many of the directives are taken, and how many bytes they have, about: as counted in 64 bits, and as it is. -/
def dsStep (n : Int) (d : Dir) : Int := wrap64 (wrap64 (wrap64 (n + (d.1.length : Int)) + (d.2.1.length : Int)) + 1)
def owI : Int → List Dir → Nat × Int
  | n, [] => (0, n)
  | n, d :: ds => if n < 10000 then ((owI (dsStep n d) ds).1 + 1, (owI (dsStep n d) ds).2) else (0, n)
def owN : Nat → List Dir → Nat × Nat
  | n, [] => (0, n)
  | n, d :: ds => if n < 10000 then ((owN (n + d.1.length + d.2.1.length + 1) ds).1 + 1, (owN (n + d.1.length + d.2.1.length + 1) ds).2) else (0, n)
theorem owI_eq : ∀ (ds : List Dir) (n : Nat), (∀ d ∈ ds, d.1.length ≤ 140737488355328 ∧ d.2.1.length ≤ 140737488355328) → owI (n : Int) ds = ((owN n ds).1, ((owN n ds).2 : Int))
  | [], _, _ => rfl
  | d :: ds, n, h => by
    obtain ⟨h1, h2⟩ := h d (List.mem_cons_self ..)
    by_cases hn : n < 10000
    · have e : dsStep (n : Int) d = ((n + d.1.length + d.2.1.length + 1 : Nat) : Int) := by
        unfold dsStep wrap64
        omega
      have ih := owI_eq ds (n + d.1.length + d.2.1.length + 1) (fun q hq => h q (List.mem_cons_of_mem _ hq))
      rw [owI, owN, if_pos hn, if_pos (by omega), e, ih]
    · rw [owI, owN, if_neg hn, if_neg (by omega)]
theorem owN_ge : ∀ (ds : List Dir) (n : Nat), n ≤ (owN n ds).2
  | [], _ => Nat.le_refl _
  | d :: ds, n => by
    rw [owN]
    split
    · have := owN_ge ds (n + d.1.length + d.2.1.length + 1)
      dsimp only
      omega
    · exact Nat.le_refl _
theorem owN_small : ∀ (ds : List Dir) (n : Nat), (owN n ds).2 ≤ 1000 → (owN n ds).1 = ds.length ∧ n + ds.length ≤ 1000 ∧ ∀ d ∈ ds, d.1.length ≤ 1000 ∧ d.2.1.length ≤ 1000
  | [], n, h => ⟨rfl, by simpa [owN] using h, fun d hd => by cases hd⟩
  | d :: ds, n, h => by
    rw [owN] at h ⊢
    split
    · rename_i hn
      rw [if_pos hn] at h
      dsimp only at h
      have hg := owN_ge ds (n + d.1.length + d.2.1.length + 1)
      obtain ⟨h1, h2, h3⟩ := owN_small ds _ h
      refine ⟨by rw [h1, List.length_cons], by rw [List.length_cons]; omega, fun e he => ?_⟩
      rcases List.mem_cons.1 he with rfl | he
      · omega
      · exact h3 e he
    · rename_i hn
      rw [if_neg hn] at h
      dsimp only at h
      omega
theorem owN_ok (ds : List Dir) (h : (owN 0 ds).2 ≤ 1000) : DirsOk ds ∧ ds.length ≤ 1000 ∧ ds.take (owN 0 ds).1 = ds := by
  obtain ⟨h1, h2, h3⟩ := owN_small ds 0 h
  refine ⟨⟨by omega, fun d hd => ?_⟩, by omega, by rw [h1]; exact List.take_length⟩
  have := h3 d hd
  omega

end Go.Proofs.YtgffnjdmhpfneaaDoor
