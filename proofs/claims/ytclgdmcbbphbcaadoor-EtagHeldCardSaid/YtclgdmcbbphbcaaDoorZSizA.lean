/- The document's own Size and Same of fields (sculleryref06). -/
import Derived.Test.YtclgdmcbbphbcaaDoorZPrnP
import Derived.WalkSpells
import Derived.WalkLawsBesides
import Derived.BigQuiet
import Derived.Deep.QuietTactic

namespace Go.Proofs.YtclgdmcbbphbcaaDoor
open Go.RowKit

/-- What any fields in memory have: strings and slices are no longer than Go lets them be. -/
def FldsIn (fs : List Fld) : Prop := fs.length ≤ 140737488355328 ∧ ∀ p ∈ fs, p.1.length ≤ 140737488355328 ∧ p.2.length ≤ 140737488355328

/-- The size, as it is told. -/
def szH : Nat → List Fld → Nat
  | n, [] => n
  | n, p :: fs => if n < 100000 then szH (n + p.1.length + p.2.length + 4) fs else n
theorem szH_ge : ∀ (fs : List Fld) (n : Nat), n ≤ szH n fs
  | [], n => Nat.le_refl n
  | p :: fs, n => by
    rw [szH]
    split
    · exact Nat.le_trans (by omega) (szH_ge fs _)
    · exact Nat.le_refl n
theorem szH_small : ∀ (fs : List Fld) (n : Nat), szH n fs ≤ 10000 → n + (prF fs).length = szH n fs
  | [], n, _ => rfl
  | p :: fs, n, h => by
    rw [szH] at h ⊢
    split at h
    · rename_i hn
      rw [if_pos hn, prF, List.length_append, lineF_len]
      have := szH_small fs _ h
      omega
    · omega
theorem prF_ge : ∀ fs : List Fld, 4 * fs.length ≤ (prF fs).length
  | [] => Nat.le_refl _
  | p :: fs => by
    have := prF_ge fs
    rw [prF, List.length_append, lineF_len, List.length_cons]
    omega
theorem prF_mem : ∀ (fs : List Fld) (p : Fld), p ∈ fs → p.1.length + p.2.length ≤ (prF fs).length
  | [], _, h => by cases h
  | q :: fs, p, h => by
    rw [prF, List.length_append, lineF_len]
    rcases List.mem_cons.1 h with rfl | h
    · omega
    · have := prF_mem fs p h
      omega
/-- Fields of a small size are few, and short. -/
theorem szH_ok (fs : List Fld) (h : szH 0 fs ≤ 10000) : FldsOk fs ∧ (prF fs).length ≤ 10000 := by
  have h1 := szH_small fs 0 h
  have h2 := prF_ge fs
  refine ⟨⟨by omega, fun p hp => ?_⟩, by omega⟩
  have := prF_mem fs p hp
  omega

/-- As it is counted, in 64 bits. -/
def szStep (n : Int) (p : Fld) : Int := wrap64 (wrap64 (wrap64 (n + (p.1.length : Int)) + (p.2.length : Int)) + 4)
def szI (n : Int) : List Fld → Int
  | [] => n
  | p :: fs => if n < 100000 then szI (szStep n p) fs else n
theorem szI_eq : ∀ (fs : List Fld) (n : Nat), (∀ p ∈ fs, p.1.length ≤ 140737488355328 ∧ p.2.length ≤ 140737488355328) → szI (n : Int) fs = ((szH n fs : Nat) : Int)
  | [], _, _ => rfl
  | p :: fs, n, h => by
    obtain ⟨h1, h2⟩ := h p (List.mem_cons_self ..)
    by_cases hn : n < 100000
    · have e : szStep (n : Int) p = ((n + p.1.length + p.2.length + 4 : Nat) : Int) := by
        unfold szStep wrap64
        omega
      rw [szI, szH, if_pos hn, if_pos (by omega), e]
      exact szI_eq fs _ (fun q hq => h q (List.mem_cons_of_mem _ hq))
    · rw [szI, szH, if_neg hn, if_neg (by omega)]

end Go.Proofs.YtclgdmcbbphbcaaDoor
