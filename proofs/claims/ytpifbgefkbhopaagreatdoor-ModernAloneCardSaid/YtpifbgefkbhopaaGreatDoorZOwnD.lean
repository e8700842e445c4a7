/- The contract of the law's own (scullerylaw10): directives for the document, while they are small. -/
import Derived.Test.YtpifbgefkbhopaaGreatDoorZMDirP
import Derived.Test.YtpifbgefkbhopaaGreatDoorRows
import Derived.Laws.AppendOwn
import Derived.Deep.QuietTactic
import Derived.BigQuiet
import Derived.WalkKit
import Derived.WalkSpells
import Derived.WalkLawsBesides

namespace Go.Proofs.YtpifbgefkbhopaaGreatDoor
open Go.RowKit Go.Lib

/-- What bounds directives that are handed over. -/
def DirsIn (ds : List Dir) : Prop := ds.length ≤ 3518437208883 ∧ ∀ d ∈ ds, d.1.length ≤ 140737488355328 ∧ d.2.1.length ≤ 140737488355328
/-- How many of the directives are taken, and how many bytes they have, about: as counted in 64 bits, and as it is. -/
def dsStep (n : Int) (d : Dir) : Int := wrap64 (wrap64 (wrap64 (n + (d.1.length : Int)) + (d.2.1.length : Int)) + 1)
def owI : Int → List Dir → Nat × Int
  | n, [] => (0, n)
  | n, d :: ds => if n < 10000 then ((owI (dsStep n d) ds).1 + 1, (owI (dsStep n d) ds).2) else (0, n)
def owN : Nat → List Dir → Nat × Nat
  | n, [] => (0, n)
  | n, d :: ds => if n < 10000 then ((owN (n + d.1.length + d.2.1.length + 1) ds).1 + 1, (owN (n + d.1.length + d.2.1.length + 1) ds).2) else (0, n)
theorem owI_eq : ∀ (ds : List Dir) (n : Nat), (∀ d ∈ ds, d.1.length ≤ 140737488355328 ∧ d.2.1.length ≤ 140737488355328) → owI (n : Int) ds = ((owN n ds).1, ((owN n ds).2 : Int))
  | [], _, _ => rfl
  | d :: ds, n, h => by
    obtain ⟨h1, h2⟩ := h d (List.mem_cons_self ..)
    by_cases hn : n < 10000
    · have e : dsStep (n : Int) d = ((n + d.1.length + d.2.1.length + 1 : Nat) : Int) := by
        unfold dsStep wrap64
        omega
      have ih := owI_eq ds (n + d.1.length + d.2.1.length + 1) (fun q hq => h q (List.mem_cons_of_mem _ hq))
      rw [owI, owN, if_pos hn, if_pos (by omega), e, ih]
    · rw [owI, owN, if_neg hn, if_neg (by omega)]
theorem owN_ge : ∀ (ds : List Dir) (n : Nat), n ≤ (owN n ds).2
  | [], _ => Nat.le_refl _
  | d :: ds, n => by
    rw [owN]
    split
    · have := owN_ge ds (n + d.1.length + d.2.1.length + 1)
      dsimp only
      omega
    · exact Nat.le_refl _
theorem owN_small : ∀ (ds : List Dir) (n : Nat), (owN n ds).2 ≤ 1000 → (owN n ds).1 = ds.length ∧ n + ds.length ≤ 1000 ∧ ∀ d ∈ ds, d.1.length ≤ 1000 ∧ d.2.1.length ≤ 1000
  | [], n, h => ⟨rfl, by simpa [owN] using h, fun d hd => by cases hd⟩
  | d :: ds, n, h => by
    rw [owN] at h ⊢
    split
    · rename_i hn
      rw [if_pos hn] at h
      dsimp only at h
      have hg := owN_ge ds (n + d.1.length + d.2.1.length + 1)
      obtain ⟨h1, h2, h3⟩ := owN_small ds _ h
      refine ⟨by rw [h1, List.length_cons], by rw [List.length_cons]; omega, fun e he => ?_⟩
      rcases List.mem_cons.1 he with rfl | he
      · omega
      · exact h3 e he
    · rename_i hn
      rw [if_neg hn] at h
      dsimp only at h
      omega
theorem owN_ok (ds : List Dir) (h : (owN 0 ds).2 ≤ 1000) : DirsOk ds ∧ ds.length ≤ 1000 ∧ ds.take (owN 0 ds).1 = ds := by
  obtain ⟨h1, h2, h3⟩ := owN_small ds 0 h
  refine ⟨⟨by omega, fun d hd => ?_⟩, by omega, by rw [h1]; exact List.take_length⟩
  have := h3 d hd
  omega

theorem info_rdirO : (Tryz.prog.info? 147).map (fun i => (i.zero, i.size, i.bytes)) = some (some (.agg #[.string ⟨#[]⟩, .string ⟨#[]⟩, .bool false]), 3, 40) := by kernel_rfl

end Go.Proofs.YtpifbgefkbhopaaGreatDoor
