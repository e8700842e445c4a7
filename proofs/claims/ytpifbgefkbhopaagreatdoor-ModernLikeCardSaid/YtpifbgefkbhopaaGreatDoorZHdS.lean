/- The contract of strings.Join at a comma and a space. -/
import Derived.Test.YtpifbgefkbhopaaGreatDoorShelf
import Derived.Test.YtpifbgefkbhopaaGreatDoorZMFldP
import Derived.Lib.Join

namespace Go.Proofs.YtpifbgefkbhopaaGreatDoor
open Go.RowKit Go.Shelf Go.Lib

/-- Texts joined by a comma and a space. -/
def tailH : List (List UInt8) → List UInt8
  | [] => []
  | p :: ps => [44, 32] ++ p ++ tailH ps
def joinH : List (List UInt8) → List UInt8
  | [] => []
  | p :: ps => p ++ tailH ps
def lensH : List (List UInt8) → Nat
  | [] => 0
  | p :: ps => p.length + lensH ps
theorem tailH_snoc : ∀ (ps : List (List UInt8)) (p : List UInt8), tailH (ps ++ [p]) = tailH ps ++ ([44, 32] ++ p)
  | [], p => by simp [tailH]
  | q :: ps, p => by rw [List.cons_append, tailH, tailH, tailH_snoc ps p]; simp
theorem lensH_snoc : ∀ (ps : List (List UInt8)) (p : List UInt8), lensH (ps ++ [p]) = lensH ps + p.length
  | [], p => by simp [lensH]
  | q :: ps, p => by rw [List.cons_append, lensH, lensH, lensH_snoc ps p]; omega
theorem tailH_len : ∀ ps : List (List UInt8), (tailH ps).length = 2 * ps.length + lensH ps
  | [] => rfl
  | p :: ps => by rw [tailH, List.length_append, tailH_len ps, List.length_append, lensH, List.length_cons, List.length_cons, List.length_cons, List.length_nil]; omega
theorem lensH_le : ∀ (ps : List (List UInt8)) (B : Nat), (∀ p ∈ ps, p.length ≤ B) → lensH ps ≤ ps.length * B
  | [], _, _ => Nat.zero_le _
  | p :: ps, B, h => by
    have h1 := h p (List.mem_cons_self ..)
    have h2 := lensH_le ps B (fun q hq => h q (List.mem_cons_of_mem _ hq))
    rw [lensH, List.length_cons, Nat.add_mul]
    omega

theorem joinTail_eq : ∀ ps : List (List UInt8), Lib.joinTail [44, 32] ps = tailH ps
  | [] => rfl
  | p :: ps => by
    have := joinTail_eq ps
    unfold Lib.joinTail at this ⊢
    rw [List.map_cons, List.flatten_cons, this, tailH]
theorem join_eq (ps : List (List UInt8)) : Lib.join ps [44, 32] = joinH ps := by
  cases ps with
  | nil => rfl
  | cons p r => rw [Lib.join_cons, joinTail_eq, joinH]
theorem joinH_len (ps : List (List UInt8)) (hn : ps.length ≤ 100000) (hl : ∀ p ∈ ps, p.length ≤ 100000) : (joinH ps).length ≤ 100000000000 := by
  have h1 := lensH_le ps 100000 hl
  cases ps with
  | nil => simp [joinH]
  | cons p r =>
    rw [lensH, List.length_cons] at h1
    rw [List.length_cons] at hn
    rw [joinH, List.length_append, tailH_len]
    omega

theorem join_any (base : Nat) (v : Value) (ps : List (List UInt8)) (w : World) (h : w.ownsRow base 9 1 v ps.length (rowS ps)) (hn : ps.length ≤ 100000) (hl : ∀ p ∈ ps, p.length ≤ 100000) :
    Calls Tryz.prog 44 #[v, .string ⟨#[44, 32]⟩] w fun e w' => e = .returned (.string (strB (joinH ps))) ∧ Below w.heap.size w w' := by
  by_cases hx : ps = []
  · subst hx
    obtain ⟨ao, cap, rfl⟩ := owns_formF h
    refine (Tryz.strings_Join_none ao cap ⟨#[44, 32]⟩ w).mono ?_
    rintro e w' ⟨rfl, rfl⟩
    exact ⟨rfl, Below.refl _ _⟩
  · obtain ⟨g, cap, rfl, _, hlt, hcap⟩ := owns_sliceF h (List.length_pos_iff.2 hx)
    have hm : (ps.map strB).map (·.data.toList) = ps := by
      rw [List.map_map]
      exact List.map_id' ps
    have hj : Lib.join ((ps.map strB).map (·.data.toList)) (⟨#[44, 32]⟩ : ByteArray).data.toList = joinH ps := by
      rw [hm]
      exact join_eq ps
    have cJ := Tryz.strings_Join g 0 cap (ps.map strB) ⟨#[44, 32]⟩ w (fun j x hx => by
      rw [Nat.zero_add]
      rw [List.getElem?_map, Option.map_eq_some_iff] at hx
      obtain ⟨q, hq, rfl⟩ := hx
      exact owns_cellsF h j _ (by rw [rowS, List.getElem?_map, hq]; rfl)) hlt (by rw [List.length_map]; omega) (by rw [List.length_map]; exact hcap) (by rw [hj]; have := joinH_len ps hn hl; omega)
    rw [hj, List.length_map] at cJ
    exact cJ

end Go.Proofs.YtpifbgefkbhopaaGreatDoor
