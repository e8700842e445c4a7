/- The contract of strings.Join at a comma and a space. · Plain: whether a request holds a response; what the law of its own tag and dates asks. · Plain: the age of responses: times, sums, what fields tell; what later moments, greater ages and longer ways do to it. · Plain: a sum by halves: the upper and the lower bits of each number are added by themselves. -/
import Derived.Test.YtgffnjdmhpfneaaDoorShelf
import Derived.Test.YtgffnjdmhpfneaaDoorZMFldP
import Derived.Test.YtgffnjdmhpfneaaDoorZMBasP
import Derived.Test.YtgffnjdmhpfneaaDoorZAscPlain
import Derived.Lib.Join
import Derived.Laws.BitsLemmas

namespace Go.Proofs.YtgffnjdmhpfneaaDoor
open Go.RowKit Go.Shelf Go.Lib

/-- Texts joined by a comma and a space. -/
def tailH : List (List UInt8) → List UInt8
  | [] => []
  | p :: ps => [44, 32] ++ p ++ tailH ps
def joinH : List (List UInt8) → List UInt8
  | [] => []
  | p :: ps => p ++ tailH ps
def lensH : List (List UInt8) → Nat
  | [] => 0
  | p :: ps => p.length + lensH ps
theorem tailH_snoc : ∀ (ps : List (List UInt8)) (p : List UInt8), tailH (ps ++ [p]) = tailH ps ++ ([44, 32] ++ p)
  | [], p => by simp [tailH]
  | q :: ps, p => by rw [List.cons_append, tailH, tailH, tailH_snoc ps p]; simp
theorem lensH_snoc : ∀ (ps : List (List UInt8)) (p : List UInt8), lensH (ps ++ [p]) = lensH ps + p.length
  | [], p => by simp [lensH]
  | q :: ps, p => by rw [List.cons_append, lensH, lensH, lensH_snoc ps p]; omega
theorem tailH_len : ∀ ps : List (List UInt8), (tailH ps).length = 2 * ps.length + lensH ps
  | [] => rfl
  | p :: ps => by rw [tailH, List.length_append, tailH_len ps, List.length_append, lensH, List.length_cons, List.length_cons, List.length_cons, List.length_nil]; omega
theorem lensH_le : ∀ (ps : List (List UInt8)) (B : Nat), (∀ p ∈ ps, p.length ≤ B) → lensH ps ≤ ps.length * B
  | [], _, _ => Nat.zero_le _
  | p :: ps, B, h => by
    have h1 := h p (List.mem_cons_self ..)
    have h2 := lensH_le ps B (fun q hq => h q (List.mem_cons_of_mem _ hq))
    rw [lensH, List.length_cons, Nat.add_mul]
    omega

theorem joinTail_eq : ∀ ps : List (List UInt8), Lib.joinTail [44, 32] ps = tailH ps
  | [] => rfl
  | p :: ps => by
    have := joinTail_eq ps
    unfold Lib.joinTail at this ⊢
    rw [List.map_cons, List.flatten_cons, this, tailH]
theorem join_eq (ps : List (List UInt8)) : Lib.join ps [44, 32] = joinH ps := by
  cases ps with
  | nil => rfl
  | cons p r => rw [Lib.join_cons, joinTail_eq, joinH]
theorem joinH_len (ps : List (List UInt8)) (hn : ps.length ≤ 100000) (hl : ∀ p ∈ ps, p.length ≤ 100000) : (joinH ps).length ≤ 100000000000 := by
  have h1 := lensH_le ps 100000 hl
  cases ps with
  | nil => simp [joinH]
  | cons p r =>
    rw [lensH, List.length_cons] at h1
    rw [List.length_cons] at hn
    rw [joinH, List.length_append, tailH_len]
    omega

theorem join_any (base : Nat) (v : Value) (ps : List (List UInt8)) (w : World) (h : w.ownsRow base 9 1 v ps.length (rowS ps)) (hn : ps.length ≤ 100000) (hl : ∀ p ∈ ps, p.length ≤ 100000) :
    Calls Tryd.prog 31 #[v, .string ⟨#[44, 32]⟩] w fun e w' => e = .returned (.string (strB (joinH ps))) ∧ Below w.heap.size w w' := by
  by_cases hx : ps = []
  · subst hx
    obtain ⟨ao, cap, rfl⟩ := owns_formF h
    refine (Tryd.strings_Join_none ao cap ⟨#[44, 32]⟩ w).mono ?_
    rintro e w' ⟨rfl, rfl⟩
    exact ⟨rfl, Below.refl _ _⟩
  · obtain ⟨g, cap, rfl, _, hlt, hcap⟩ := owns_sliceF h (List.length_pos_iff.2 hx)
    have hm : (ps.map strB).map (·.data.toList) = ps := by
      rw [List.map_map]
      exact List.map_id' ps
    have hj : Lib.join ((ps.map strB).map (·.data.toList)) (⟨#[44, 32]⟩ : ByteArray).data.toList = joinH ps := by
      rw [hm]
      exact join_eq ps
    have cJ := Tryd.strings_Join g 0 cap (ps.map strB) ⟨#[44, 32]⟩ w (fun j x hx => by
      rw [Nat.zero_add]
      rw [List.getElem?_map, Option.map_eq_some_iff] at hx
      obtain ⟨q, hq, rfl⟩ := hx
      exact owns_cellsF h j _ (by rw [rowS, List.getElem?_map, hq] <;> rfl)) hlt (by rw [List.length_map]; omega) (by rw [List.length_map]; exact hcap) (by rw [hj]; have := joinH_len ps hn hl; omega)
    rw [hj, List.length_map] at cJ
    exact cJ

end Go.Proofs.YtgffnjdmhpfneaaDoor

namespace Go.Proofs.YtgffnjdmhpfneaaDoor
open Go.RowKit

def nInm : List UInt8 := [105, 102, 45, 110, 111, 110, 101, 45, 109, 97, 116, 99, 104]
def nIms : List UInt8 := [105, 102, 45, 109, 111, 100, 105, 102, 105, 101, 100, 45, 115, 105, 110, 99, 101]
def nEtg : List UInt8 := [101, 116, 97, 103]
def nLmd : List UInt8 := [108, 97, 115, 116, 45, 109, 111, 100, 105, 102, 105, 101, 100]
/-- Does one of the tags of a text match that of another? -/
def hldE (l v : List UInt8) : Bool := match lstE l with
  | none => false
  | some (xs, star) => star || (match prsE v with | none => false | some t => xs.any fun x => likE x t false)
/-- Is the second date not later than the first? -/
def datE (a b : List UInt8) : Bool := match parL a with
  | none => false
  | some n => match parL b with
    | none => false
    | some m => decide (m ≤ n)
/-- Does a request hold a response? -/
def heldE (q p : List Fld) : Bool :=
  if 0 < (allH q nInm).length then hldE (joinH (allH q nInm)) (joinH (allH p nEtg))
  else if 0 < (allH q nIms).length ∧ 0 < (allH p nLmd).length then datE (joinH (allH q nIms)) (joinH (allH p nLmd))
  else false

theorem join_1E (s : List UInt8) : joinH [s] = s := by simp [joinH, tailH]
theorem lstE_own (t : Tg) (h : vldE t = true) : lstE (txtE t) = some ([t], false) := by
  obtain ⟨c, q, e, h1, _, h3⟩ := txtE_head t []
  rw [List.append_nil] at e
  have hd : ((txtE t).dropWhile blkE).head? ≠ some 42 := by
    rw [e, List.dropWhile_cons, if_neg (by rw [h1]; decide)]
    exact fun x => h3 (Option.some.inj x)
  have hl : lsgE ((txtE t).length + 1) (txtE t) true [] = some [t] := by
    have := lsgE_take (txtE t).length t [] [] h
    rw [List.append_nil] at this
    rw [this, show (txtE t).length = ((txtE t).length - 1) + 1 by have : 0 < (txtE t).length := (by rw [e]; simp); omega]
    rfl
  rw [lstE, if_neg hd, hl]
  rfl
/-- The fields of the law's response. -/
def etgF (s a : List UInt8) : List Fld := [(nEtg, s), (nLmd, a)]
theorem held_own (t : Tg) (a : List UInt8) (h : vldE t = true) : heldE [(nInm, txtE t)] (etgF (txtE t) a) = true := by
  have e1 : allH [(nInm, txtE t)] nInm = [txtE t] := rfl
  have e2 : allH (etgF (txtE t) a) nEtg = [txtE t] := rfl
  rw [heldE, e1, e2, if_pos (by simp), join_1E, hldE, lstE_own t h, prsE_txt t h]
  simp [likE]
theorem held_not (t u : Tg) (s a : List UInt8) (h : vldE t = true) (hu : vldE u = true) (hne : t.2 ≠ u.2) : heldE [(nInm, txtE u), (nIms, s)] (etgF (txtE t) a) = false := by
  have e1 : allH [(nInm, txtE u), (nIms, s)] nInm = [txtE u] := rfl
  have e2 : allH (etgF (txtE t) a) nEtg = [txtE t] := rfl
  rw [heldE, e1, e2, if_pos (by simp), join_1E, join_1E, hldE, lstE_own u hu, prsE_txt t h]
  have : ¬ u.2 = t.2 := fun e => hne e.symm
  simp [likE, this]
theorem held_date (s a b : List UInt8) : heldE [(nIms, b)] (etgF s a) = datE b a := by
  have e1 : allH [(nIms, b)] nInm = [] := rfl
  have e2 : allH [(nIms, b)] nIms = [b] := rfl
  have e3 : allH (etgF s a) nLmd = [a] := rfl
  rw [heldE, e1, e2, e3, if_neg (by simp), if_pos (by simp), join_1E, join_1E]
theorem held_none (s a : List UInt8) : heldE [] (etgF s a) = false := by
  rw [heldE, if_neg (by simp [allH]), if_neg (by simp [allH])]

end Go.Proofs.YtgffnjdmhpfneaaDoor

namespace Go.Proofs.YtgffnjdmhpfneaaDoor
open Go.RowKit

def nAgeA : List UInt8 := [97, 103, 101]
def nDateA : List UInt8 := [100, 97, 116, 101]
/-- A time; what counts in a sum; a sum. -/
def clA (n : Int) : Int := min (max n 0) 1099511627776
def ctA (n : Int) : Int := min (max n (-1099511627776)) 1099511627776
def suA : List Int → Int
  | [] => 0
  | n :: l => ctA n + suA l
def sumA (l : List Int) : Int := min (max (suA l) 0) 2147483648
/-- The age that fields tell; when they were made. -/
def toldA (fs : List Fld) : Int := digitsN (joinH (allH fs nAgeA))
def dateA (fs : List Fld) (other : Int) : Int := match parL (joinH (allH fs nDateA)) with
  | none => clA other
  | some n => clA n
/-- How much one time is behind another; how old fields are. -/
def behA (a b : Int) : Int := max (clA a - clA b) 0
def curA (fs : List Fld) (asked got now : Int) : Int := sumA [max (behA got (dateA fs got)) (toldA fs + behA got asked), behA now got]

theorem clA_in (n : Int) : 0 ≤ clA n ∧ clA n ≤ 1099511627776 := by unfold clA; omega
theorem ctA_in (n : Int) : -1099511627776 ≤ ctA n ∧ ctA n ≤ 1099511627776 := by unfold ctA; omega
theorem clA_mono {m n : Int} (h : m ≤ n) : clA m ≤ clA n := by unfold clA; omega
theorem behA_in (a b : Int) : 0 ≤ behA a b ∧ behA a b ≤ 1099511627776 := by
  have h1 := clA_in a
  have h2 := clA_in b
  unfold behA
  omega
theorem sumA_two (a b : Int) : sumA [a, b] = min (max (ctA a + ctA b) 0) 2147483648 := by simp only [sumA, suA, Int.add_zero]
theorem sumA_in (l : List Int) : 0 ≤ sumA l ∧ sumA l ≤ 2147483648 := by unfold sumA; omega
theorem digitsN_in (l : List UInt8) : 0 ≤ digitsN l ∧ digitsN l ≤ 2147483648 := by
  unfold digitsN
  split
  · rename_i h
    exact digN_bd l 0 (by omega) (by omega) h
  · omega
theorem toldA_in (fs : List Fld) : 0 ≤ toldA fs ∧ toldA fs ≤ 2147483648 := digitsN_in _
theorem dateA_in (fs : List Fld) (n : Int) : 0 ≤ dateA fs n ∧ dateA fs n ≤ 1099511627776 := by
  unfold dateA
  split
  · exact clA_in _
  · exact clA_in _
theorem dateA_none {fs : List Fld} (n : Int) (h : parL (joinH (allH fs nDateA)) = none) : dateA fs n = clA n := by unfold dateA; rw [h]
theorem dateA_some {fs : List Fld} {m : Nat} (n : Int) (h : parL (joinH (allH fs nDateA)) = some m) : dateA fs n = clA m := by unfold dateA; rw [h]

theorem suA_bd : ∀ l : List Int, -(1099511627776 * (l.length : Int)) ≤ suA l ∧ suA l ≤ 1099511627776 * (l.length : Int)
  | [] => by simp [suA]
  | n :: l => by
    have h1 := suA_bd l
    have h2 := ctA_in n
    rw [suA, List.length_cons]
    omega
theorem suA_snoc : ∀ (l : List Int) (n : Int), suA (l ++ [n]) = suA l + ctA n
  | [], n => by simp [suA]
  | m :: l, n => by rw [List.cons_append, suA, suA_snoc l n, suA]; omega
/-- Later it is no younger, and by no more than passed. -/
theorem cur_grows (fs : List Fld) (t0 t1 t2 t3 : Int) (h : t2 ≤ t3) (ht : 0 ≤ toldA fs) :
    0 ≤ curA fs t0 t1 t2 ∧ curA fs t0 t1 t2 ≤ curA fs t0 t1 t3 ∧ curA fs t0 t1 t3 ≤ 2147483648 ∧ curA fs t0 t1 t3 ≤ curA fs t0 t1 t2 + (clA t3 - clA t2) := by
  have h1 := clA_mono h
  have h2 := clA_in t2
  have h3 := clA_in t3
  have h4 := clA_in t1
  have h5 := behA_in t1 t0
  unfold curA
  rw [sumA_two, sumA_two]
  generalize toldA fs = T at *
  generalize behA t1 (dateA fs t1) = D
  generalize behA t1 t0 = E at *
  have e2 : ctA (behA t2 t1) = max (clA t2 - clA t1) 0 := by unfold ctA behA; omega
  have e3 : ctA (behA t3 t1) = max (clA t3 - clA t1) 0 := by unfold ctA behA; omega
  have e4 : 0 ≤ ctA (max D (T + E)) := by unfold ctA; omega
  rw [e2, e3]
  generalize ctA (max D (T + E)) = M at *
  omega
theorem all_without (fs : List Fld) (n : List UInt8) : allH (withoutH fs [n]) n = [] := by
  unfold allH withoutH
  rw [List.filter_filter, List.map_eq_nil_iff, List.filter_eq_nil_iff]
  intro p _ h
  simp at h
theorem all_with (fs : List Fld) (a b n : List UInt8) (h : a ≠ n) : allH (fs ++ [(a, b)]) n = allH fs n := by
  rw [allH_snoc, if_neg h]
theorem told_without (fs : List Fld) : toldA (withoutH fs [nAgeA]) = 0 := by
  unfold toldA
  rw [all_without]
  rfl
/-- What is told lets it be no younger. -/
theorem cur_told (fs : List Fld) (d : List UInt8) (t0 t1 t2 : Int) (h0 : toldA fs = 0) (h1 : 0 ≤ toldA (fs ++ [(nAgeA, d)])) : curA fs t0 t1 t2 ≤ curA (fs ++ [(nAgeA, d)]) t0 t1 t2 := by
  have hd : dateA (fs ++ [(nAgeA, d)]) t1 = dateA fs t1 := by
    unfold dateA
    rw [all_with fs nAgeA d nDateA (by decide)]
  unfold curA
  rw [sumA_two, sumA_two, hd, h0]
  generalize toldA (fs ++ [(nAgeA, d)]) = T at *
  generalize behA t1 (dateA fs t1) = D
  generalize behA t1 t0 = E
  generalize behA t2 t1 = F
  have : ctA (max D (0 + E)) ≤ ctA (max D (T + E)) := by unfold ctA; omega
  omega
/-- A longer way lets it be no younger. -/
theorem cur_longer (fs : List Fld) (t0 t1 t2 t3 : Int) : curA fs t0 t1 t2 ≤ curA fs (min t0 t3) t1 t2 := by
  have h1 : clA (min t0 t3) ≤ clA t0 := clA_mono (by omega)
  have h2 : behA t1 t0 ≤ behA t1 (min t0 t3) := by unfold behA; omega
  unfold curA
  rw [sumA_two, sumA_two]
  generalize toldA fs = T at *
  generalize behA t1 (dateA fs t1) = D
  generalize behA t1 t0 = E at *
  generalize behA t1 (min t0 t3) = G at *
  generalize behA t2 t1 = F
  have : ctA (max D (T + E)) ≤ ctA (max D (T + G)) := by unfold ctA; omega
  omega

end Go.Proofs.YtgffnjdmhpfneaaDoor

namespace Go.Proofs.YtgffnjdmhpfneaaDoor
open Go.RowKit

/-- The upper bits' sum, the lower bits' sum. -/
def upA : List Int → Int
  | [] => 0
  | n :: l => ctA n / 4294967296 + upA l
def loA : List Int → Int
  | [] => 0
  | n :: l => ctA n % 4294967296 + loA l

theorem upA_snoc : ∀ (l : List Int) (n : Int), upA (l ++ [n]) = upA l + ctA n / 4294967296
  | [], n => by simp [upA]
  | m :: l, n => by rw [List.cons_append, upA, upA_snoc l n, upA]; omega
theorem loA_snoc : ∀ (l : List Int) (n : Int), loA (l ++ [n]) = loA l + ctA n % 4294967296
  | [], n => by simp [loA]
  | m :: l, n => by rw [List.cons_append, loA, loA_snoc l n, loA]; omega
theorem upA_bd : ∀ l : List Int, -(256 * (l.length : Int)) ≤ upA l ∧ upA l ≤ 256 * (l.length : Int)
  | [] => by simp [upA]
  | n :: l => by
    have h1 := upA_bd l
    have h2 := ctA_in n
    rw [upA, List.length_cons]
    omega
theorem loA_bd : ∀ l : List Int, 0 ≤ loA l ∧ loA l ≤ 4294967296 * (l.length : Int)
  | [] => by simp [loA]
  | n :: l => by
    have h1 := loA_bd l
    rw [loA, List.length_cons]
    omega
theorem su_halves : ∀ l : List Int, suA l = upA l * 4294967296 + loA l
  | [] => by simp [suA, upA, loA]
  | n :: l => by
    have h1 := su_halves l
    rw [suA, upA, loA]
    omega
/-- What the halves come to. -/
theorem sum_halves (l : List Int) : sumA l = if upA l + loA l / 4294967296 < 0 then 0 else if 0 < upA l + loA l / 4294967296 then 2147483648 else min (loA l % 4294967296) 2147483648 := by
  have h := su_halves l
  unfold sumA
  generalize suA l = s at *
  generalize upA l = u at *
  generalize loA l = d at *
  subst h
  by_cases h1 : u + d / 4294967296 < 0
  · rw [if_pos h1]; omega
  rw [if_neg h1]
  by_cases h2 : 0 < u + d / 4294967296
  · rw [if_pos h2]; omega
  rw [if_neg h2]
  omega
theorem i64_low (n : Int) : bits .and .i64 n 4294967295 = n % 4294967296 := by
  have hm : (BitVec.ofInt 64 4294967295).toNat = 2 ^ 32 - 1 := by decide
  have key : (BitVec.ofInt 64 n &&& BitVec.ofInt 64 4294967295).toNat = (n % ((2 ^ 64 : Nat) : Int)).toNat % 2 ^ 32 := by
    rw [BitVec.toNat_and, BitVec.toNat_ofInt, hm, Nat.and_two_pow_sub_one_eq_mod]
  show IntKind.i64.wrap ((BitVec.ofInt 64 n &&& BitVec.ofInt 64 4294967295).toNat : Nat) = n % 4294967296
  rw [key, IntKind.wrap_i64]
  omega

end Go.Proofs.YtgffnjdmhpfneaaDoor
