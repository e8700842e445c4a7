/- Plain: how many bytes the directives of a text have; how long the values of fields are, joined. -/
import Derived.Test.YtgffnjdmhpfneaaDoorZMPrnP
import Derived.Test.YtgffnjdmhpfneaaDoorZMSizA
import Derived.Test.YtgffnjdmhpfneaaDoorZMHdS

namespace Go.Proofs.YtgffnjdmhpfneaaDoor
open Go.RowKit Go.Lib

theorem oneL_sum (s : List UInt8) (d : Dir) (h : oneL s = some d) : d.1.length + d.2.1.length ≤ s.length := by
  unfold oneL at h
  split at h
  · split at h
    · cases h
      dsimp only
      rw [lowL_size]
      simp
    · cases h
  · split at h
    · rename_i h0 _
      have hi : (Lib.indexByte s 61).toNat < s.length := by
        have h1 := Lib.indexByte_ge s 61
        obtain ⟨o, ho⟩ := Int.eq_ofNat_of_zero_le (show 0 ≤ Lib.indexByte s 61 by omega)
        have h2 := (Lib.indexByte_some (l := s) (c := 61) (o := o) ho).1
        rw [ho]
        exact (List.getElem?_eq_some_iff.1 h2).1
      split at h
      · cases h
        dsimp only
        rw [lowL_size, List.length_take, List.length_drop]
        omega
      · cases hq : unqL (s.drop ((Lib.indexByte s 61).toNat + 1)) with
        | none => rw [hq] at h; cases h
        | some t =>
          rw [hq] at h
          cases h
          have := unqL_len _ _ hq
          rw [List.length_drop] at this
          dsimp only
          rw [lowL_size, List.length_take]
          omega
    · cases h
/-- All bytes of directives, and one each. -/
def sumD : List Dir → Nat
  | [] => 0
  | d :: ds => d.1.length + d.2.1.length + 1 + sumD ds
def sumS : List (List UInt8) → Nat
  | [] => 0
  | p :: ps => p.length + 1 + sumS ps
theorem sumS_app : ∀ ps qs : List (List UInt8), sumS (ps ++ qs) = sumS ps + sumS qs
  | [], qs => by simp [sumS]
  | p :: ps, qs => by rw [List.cons_append, sumS, sumS, sumS_app ps qs]; omega
theorem splitL_sum : ∀ (n : Nat) (l : List UInt8), l.length ≤ n → sumS (splitL l) ≤ l.length + 1
  | 0, l, h => by
    obtain rfl : l = [] := List.eq_nil_of_length_eq_zero (by omega)
    rw [splitL_nil]
    exact Nat.zero_le _
  | n + 1, l, h => by
    by_cases hl : l = []
    · subst hl
      rw [splitL_nil]
      exact Nat.zero_le _
    · have hp := List.length_pos_iff.2 hl
      have hd : (l.drop (peL l + 1)).length = l.length - (peL l + 1) := List.length_drop
      have h1 := splitL_sum n (l.drop (peL l + 1)) (by omega)
      have h2 := peL_le l
      have ht : (trimL (l.take (peL l))).length ≤ peL l := Nat.le_trans (trimL_le _) (by rw [List.length_take]; omega)
      rw [splitL_step l hl, sumS_app]
      have h3 : sumS (if trimL (l.take (peL l)) = [] then [] else [trimL (l.take (peL l))]) ≤ peL l + 1 := by
        split
        · exact Nat.zero_le _
        · simp only [sumS]; omega
      by_cases he : peL l < l.length
      · omega
      · have h0 : l.drop (peL l + 1) = [] := List.drop_of_length_le (by omega)
        rw [h0, splitL_nil]
        simp only [sumS]
        omega
theorem dirs_sum : ∀ ps : List (List UInt8), sumD (ps.filterMap oneL) ≤ sumS ps
  | [] => Nat.le_refl _
  | p :: ps => by
    have ih := dirs_sum ps
    rw [List.filterMap_cons]
    split
    · rw [sumS]; omega
    · rename_i d hd
      have := oneL_sum p d hd
      rw [sumD, sumS]
      omega
theorem owN_all : ∀ (ds : List Dir) (n : Nat), n + sumD ds ≤ 10000 → owN n ds = (ds.length, n + sumD ds)
  | [], n, _ => rfl
  | d :: ds, n, h => by
    rw [sumD] at h
    rw [owN, if_pos (by omega), owN_all ds _ (by omega), sumD, List.length_cons]
    exact Prod.ext rfl (by dsimp only; omega)
theorem dirsL_all (s : List UInt8) (hs : s.length ≤ 1000) : (dirsL s).take (owN 0 (dirsL s)).1 = dirsL s := by
  have h1 := splitL_sum _ s (Nat.le_refl _)
  have h2 := dirs_sum (splitL s)
  rw [owN_all (dirsL s) 0 (by rw [Nat.zero_add]; exact Nat.le_trans h2 (by omega))]
  exact List.take_length
theorem dirsOk_in {ds : List Dir} (h : DirsOk ds) : DirsIn ds := ⟨Nat.le_trans h.1 (by decide), fun d hd => ⟨Nat.le_trans (h.2 d hd).1 (by decide), Nat.le_trans (h.2 d hd).2 (by decide)⟩⟩
theorem lens_pr (n : List UInt8) : ∀ fs : List Fld, 2 * (allH fs n).length + lensH (allH fs n) ≤ (prF fs).length
  | [] => Nat.zero_le _
  | p :: fs => by
    have ih := lens_pr n fs
    have hl := lineF_len p
    rw [prF, List.length_append, hl]
    unfold allH at ih ⊢
    rw [List.filter_cons]
    split
    · rw [List.map_cons, List.length_cons, lensH]; omega
    · omega
theorem join_small (fs : List Fld) (n : List UInt8) : (joinH (allH fs n)).length ≤ (prF fs).length := by
  have h := lens_pr n fs
  cases hp : allH fs n with
  | nil => exact Nat.zero_le _
  | cons p ps =>
    rw [hp, List.length_cons, lensH] at h
    rw [joinH, List.length_append, tailH_len]
    omega

end Go.Proofs.YtgffnjdmhpfneaaDoor
