/- The contract of strings.Join at a comma and a space. · Plain: whether a request holds a response; what the law of its own tag and dates asks. -/
import Derived.Test.YtclgdmcbbphbcaaGreatDoorShelf
import Derived.Test.YtclgdmcbbphbcaaGreatDoorZMFldP
import Derived.Test.YtclgdmcbbphbcaaGreatDoorZMBasP
import Derived.Lib.Join

namespace Go.Proofs.YtclgdmcbbphbcaaGreatDoor
open Go.RowKit Go.Shelf Go.Lib

/-- Texts joined by a comma and a space. -/
def tailH : List (List UInt8) → List UInt8
  | [] => []
  | p :: ps => [44, 32] ++ p ++ tailH ps
def joinH : List (List UInt8) → List UInt8
  | [] => []
  | p :: ps => p ++ tailH ps
def lensH : List (List UInt8) → Nat
  | [] => 0
  | p :: ps => p.length + lensH ps
theorem tailH_snoc : ∀ (ps : List (List UInt8)) (p : List UInt8), tailH (ps ++ [p]) = tailH ps ++ ([44, 32] ++ p)
  | [], p => by simp [tailH]
  | q :: ps, p => by rw [List.cons_append, tailH, tailH, tailH_snoc ps p]; simp
theorem lensH_snoc : ∀ (ps : List (List UInt8)) (p : List UInt8), lensH (ps ++ [p]) = lensH ps + p.length
  | [], p => by simp [lensH]
  | q :: ps, p => by rw [List.cons_append, lensH, lensH, lensH_snoc ps p]; omega
theorem tailH_len : ∀ ps : List (List UInt8), (tailH ps).length = 2 * ps.length + lensH ps
  | [] => rfl
  | p :: ps => by rw [tailH, List.length_append, tailH_len ps, List.length_append, lensH, List.length_cons, List.length_cons, List.length_cons, List.length_nil]; omega
theorem lensH_le : ∀ (ps : List (List UInt8)) (B : Nat), (∀ p ∈ ps, p.length ≤ B) → lensH ps ≤ ps.length * B
  | [], _, _ => Nat.zero_le _
  | p :: ps, B, h => by
    have h1 := h p (List.mem_cons_self ..)
    have h2 := lensH_le ps B (fun q hq => h q (List.mem_cons_of_mem _ hq))
    rw [lensH, List.length_cons, Nat.add_mul]
    omega

theorem joinTail_eq : ∀ ps : List (List UInt8), Lib.joinTail [44, 32] ps = tailH ps
  | [] => rfl
  | p :: ps => by
    have := joinTail_eq ps
    unfold Lib.joinTail at this ⊢
    rw [List.map_cons, List.flatten_cons, this, tailH]
theorem join_eq (ps : List (List UInt8)) : Lib.join ps [44, 32] = joinH ps := by
  cases ps with
  | nil => rfl
  | cons p r => rw [Lib.join_cons, joinTail_eq, joinH]
theorem joinH_len (ps : List (List UInt8)) (hn : ps.length ≤ 100000) (hl : ∀ p ∈ ps, p.length ≤ 100000) : (joinH ps).length ≤ 100000000000 := by
  have h1 := lensH_le ps 100000 hl
  cases ps with
  | nil => simp [joinH]
  | cons p r =>
    rw [lensH, List.length_cons] at h1
    rw [List.length_cons] at hn
    rw [joinH, List.length_append, tailH_len]
    omega

theorem join_any (base : Nat) (v : Value) (ps : List (List UInt8)) (w : World) (h : w.ownsRow base 9 1 v ps.length (rowS ps)) (hn : ps.length ≤ 100000) (hl : ∀ p ∈ ps, p.length ≤ 100000) :
    Calls Tryz.prog 43 #[v, .string ⟨#[44, 32]⟩] w fun e w' => e = .returned (.string (strB (joinH ps))) ∧ Below w.heap.size w w' := by
  by_cases hx : ps = []
  · subst hx
    obtain ⟨ao, cap, rfl⟩ := owns_formF h
    refine (Tryz.strings_Join_none ao cap ⟨#[44, 32]⟩ w).mono ?_
    rintro e w' ⟨rfl, rfl⟩
    exact ⟨rfl, Below.refl _ _⟩
  · obtain ⟨g, cap, rfl, _, hlt, hcap⟩ := owns_sliceF h (List.length_pos_iff.2 hx)
    have hm : (ps.map strB).map (·.data.toList) = ps := by
      rw [List.map_map]
      exact List.map_id' ps
    have hj : Lib.join ((ps.map strB).map (·.data.toList)) (⟨#[44, 32]⟩ : ByteArray).data.toList = joinH ps := by
      rw [hm]
      exact join_eq ps
    have cJ := Tryz.strings_Join g 0 cap (ps.map strB) ⟨#[44, 32]⟩ w (fun j x hx => by
      rw [Nat.zero_add]
      rw [List.getElem?_map, Option.map_eq_some_iff] at hx
      obtain ⟨q, hq, rfl⟩ := hx
      exact owns_cellsF h j _ (by rw [rowS, List.getElem?_map, hq] <;> rfl)) hlt (by rw [List.length_map]; omega) (by rw [List.length_map]; exact hcap) (by rw [hj]; have := joinH_len ps hn hl; omega)
    rw [hj, List.length_map] at cJ
    exact cJ

end Go.Proofs.YtclgdmcbbphbcaaGreatDoor

namespace Go.Proofs.YtclgdmcbbphbcaaGreatDoor
open Go.RowKit

def nInm : List UInt8 := [105, 102, 45, 110, 111, 110, 101, 45, 109, 97, 116, 99, 104]
def nIms : List UInt8 := [105, 102, 45, 109, 111, 100, 105, 102, 105, 101, 100, 45, 115, 105, 110, 99, 101]
def nEtg : List UInt8 := [101, 116, 97, 103]
def nLmd : List UInt8 := [108, 97, 115, 116, 45, 109, 111, 100, 105, 102, 105, 101, 100]
/-- Does one of the tags of a text match that of another? -/
def hldE (l v : List UInt8) : Bool := match lstE l with
  | none => false
  | some (xs, star) => star || (match prsE v with | none => false | some t => xs.any fun x => likE x t false)
/-- Is the second date not later than the first? -/
def datE (a b : List UInt8) : Bool := match parL a with
  | none => false
  | some n => match parL b with
    | none => false
    | some m => decide (m ≤ n)
/-- Does a request hold a response? -/
def heldE (q p : List Fld) : Bool :=
  if 0 < (allH q nInm).length then hldE (joinH (allH q nInm)) (joinH (allH p nEtg))
  else if 0 < (allH q nIms).length ∧ 0 < (allH p nLmd).length then datE (joinH (allH q nIms)) (joinH (allH p nLmd))
  else false

theorem join_1E (s : List UInt8) : joinH [s] = s := by simp [joinH, tailH]
theorem lstE_own (t : Tg) (h : vldE t = true) : lstE (txtE t) = some ([t], false) := by
  obtain ⟨c, q, e, h1, _, h3⟩ := txtE_head t []
  rw [List.append_nil] at e
  have hd : ((txtE t).dropWhile blkE).head? ≠ some 42 := by
    rw [e, List.dropWhile_cons, if_neg (by rw [h1]; decide)]
    exact fun x => h3 (Option.some.inj x)
  have hl : lsgE ((txtE t).length + 1) (txtE t) true [] = some [t] := by
    have := lsgE_take (txtE t).length t [] [] h
    rw [List.append_nil] at this
    rw [this, show (txtE t).length = ((txtE t).length - 1) + 1 by have : 0 < (txtE t).length := (by rw [e]; simp); omega]
    rfl
  rw [lstE, if_neg hd, hl]
  rfl
/-- The fields of the law's response. -/
def etgF (s a : List UInt8) : List Fld := [(nEtg, s), (nLmd, a)]
theorem held_own (t : Tg) (a : List UInt8) (h : vldE t = true) : heldE [(nInm, txtE t)] (etgF (txtE t) a) = true := by
  have e1 : allH [(nInm, txtE t)] nInm = [txtE t] := rfl
  have e2 : allH (etgF (txtE t) a) nEtg = [txtE t] := rfl
  rw [heldE, e1, e2, if_pos (by simp), join_1E, hldE, lstE_own t h, prsE_txt t h]
  simp [likE]
theorem held_not (t u : Tg) (s a : List UInt8) (h : vldE t = true) (hu : vldE u = true) (hne : t.2 ≠ u.2) : heldE [(nInm, txtE u), (nIms, s)] (etgF (txtE t) a) = false := by
  have e1 : allH [(nInm, txtE u), (nIms, s)] nInm = [txtE u] := rfl
  have e2 : allH (etgF (txtE t) a) nEtg = [txtE t] := rfl
  rw [heldE, e1, e2, if_pos (by simp), join_1E, join_1E, hldE, lstE_own u hu, prsE_txt t h]
  have : ¬ u.2 = t.2 := fun e => hne e.symm
  simp [likE, this]
theorem held_date (s a b : List UInt8) : heldE [(nIms, b)] (etgF s a) = datE b a := by
  have e1 : allH [(nIms, b)] nInm = [] := rfl
  have e2 : allH [(nIms, b)] nIms = [b] := rfl
  have e3 : allH (etgF s a) nLmd = [a] := rfl
  rw [heldE, e1, e2, e3, if_neg (by simp), if_pos (by simp), join_1E, join_1E]
theorem held_none (s a : List UInt8) : heldE [] (etgF s a) = false := by
  rw [heldE, if_neg (by simp [allH]), if_neg (by simp [allH])]

end Go.Proofs.YtclgdmcbbphbcaaGreatDoor
