/- Plain: texts cut at their commas outside of quoted parts (as in the texts of package ascii, for a seat on BasP). -/
import Derived.Test.YtjnagifolheloaaDoorMBasP
import Derived.Test.YtjnagifolheloaaDoorMTrimP
import Derived.Lib.IndexBytes

namespace Go.Proofs.YtjnagifolheloaaDoor
open Go.RowKit

/-- How long a quoted part is behind its first sign, by whether an odd number of backslashes stands ahead. -/
def qgo : Bool → List UInt8 → Nat
  | _, [] => 0
  | odd, c :: r => if c == 92 then 1 + qgo (!odd) r else if c == 34 && !odd then 1 else 1 + qgo false r
theorem qgo_le : ∀ (o : Bool) (l : List UInt8), qgo o l ≤ l.length
  | _, [] => Nat.le_refl _
  | o, c :: r => by
    unfold qgo
    have h1 := qgo_le (!o) r
    have h2 := qgo_le false r
    simp only [List.length_cons]
    split
    · omega
    · split <;> omega
def quoL (l : List UInt8) : Nat := 1 + qgo false (l.drop 1)

/-- How far it is to the first comma outside of quoted parts: 'none' outside, 'some odd' inside of one. -/
def peS : Option Bool → List UInt8 → Nat
  | _, [] => 0
  | none, c :: r => if c == 44 then 0 else if c == 34 then 1 + peS (some false) r else 1 + peS none r
  | some o, c :: r => if c == 92 then 1 + peS (some (!o)) r else if c == 34 && !o then 1 + peS none r else 1 + peS (some false) r
def peL (l : List UInt8) : Nat := peS none l

theorem peS_le : ∀ (o : Option Bool) (l : List UInt8), peS o l ≤ l.length
  | none, [] => Nat.le_refl _
  | some _, [] => Nat.le_refl _
  | none, c :: r => by
    unfold peS
    have h1 := peS_le (some false) r
    have h2 := peS_le none r
    simp only [List.length_cons]
    split
    · omega
    · split <;> omega
  | some o, c :: r => by
    unfold peS
    have h1 := peS_le (some false) r
    have h2 := peS_le none r
    have h3 := peS_le (some (!o)) r
    simp only [List.length_cons]
    split
    · omega
    · split <;> omega

theorem peS_in : ∀ (o : Bool) (l : List UInt8), peS (some o) l = qgo o l + peS none (l.drop (qgo o l))
  | _, [] => rfl
  | o, c :: r => by
    have h1 := peS_in (!o) r
    have h2 := peS_in false r
    rw [peS, qgo]
    by_cases a : (c == 92) = true
    · rw [if_pos a, if_pos a, h1, Nat.add_comm 1 (qgo (!o) r), List.drop_succ_cons]; omega
    · rw [if_neg a, if_neg a]
      by_cases b : (c == 34 && !o) = true
      · rw [if_pos b, if_pos b, List.drop_one, List.tail_cons]
      · rw [if_neg b, if_neg b, h2, Nat.add_comm 1 (qgo false r), List.drop_succ_cons]; omega

theorem peS_quoted (r : List UInt8) : peS none (34 :: r) = quoL (34 :: r) + peS none ((34 :: r).drop (quoL (34 :: r))) := by
  have e : peS none (34 :: r) = 1 + peS (some false) r := by rw [peS]; simp
  rw [e, peS_in, quoL, List.drop_one, List.tail_cons, Nat.add_comm 1 (qgo false r), List.drop_succ_cons]
  omega

theorem quoL_le (l : List UInt8) (h : 0 < l.length) : quoL l ≤ l.length := by
  have := qgo_le false (l.drop 1)
  rw [List.length_drop] at this
  unfold quoL
  omega

/-- The parts between the commas outside of quoted parts, trimmed, without the empty ones; by at most so many parts. -/
def splF : Nat → List UInt8 → List (List UInt8)
  | 0, _ => []
  | f + 1, l => if l = [] then [] else (if trimL (l.take (peL l)) = [] then [] else [trimL (l.take (peL l))]) ++ splF f (l.drop (peL l + 1))
def splitL (l : List UInt8) : List (List UInt8) := splF l.length l

theorem splF_nil : ∀ f, splF f [] = []
  | 0 => rfl
  | f + 1 => by simp [splF]

theorem splF_fuel : ∀ (f g : Nat) (l : List UInt8), l.length ≤ f → l.length ≤ g → splF f l = splF g l
  | 0, g, l, hf, _ => by
    have : l = [] := List.eq_nil_of_length_eq_zero (by omega)
    rw [this, splF_nil, splF_nil]
  | f + 1, 0, l, _, hg => by
    have : l = [] := List.eq_nil_of_length_eq_zero (by omega)
    rw [this, splF_nil, splF_nil]
  | f + 1, g + 1, l, hf, hg => by
    by_cases hne : l = []
    · rw [hne, splF_nil, splF_nil]
    · have hp : 0 < l.length := List.length_pos_iff.2 hne
      simp only [splF, if_neg hne]
      rw [splF_fuel f g (l.drop (peL l + 1)) (by rw [List.length_drop]; omega) (by rw [List.length_drop]; omega)]

theorem splitL_step (l : List UInt8) (h : l ≠ []) : splitL l = (if trimL (l.take (peL l)) = [] then [] else [trimL (l.take (peL l))]) ++ splitL (l.drop (peL l + 1)) := by
  have hp : 0 < l.length := List.length_pos_iff.2 h
  obtain ⟨k, hk⟩ : ∃ k, l.length = k + 1 := ⟨l.length - 1, by omega⟩
  unfold splitL
  rw [hk, splF, if_neg h, splF_fuel k _ _ (by rw [List.length_drop]; omega) (Nat.le_refl _)]

theorem splitL_nil : splitL [] = [] := rfl
theorem peL_le (l : List UInt8) : peL l ≤ l.length := peS_le none l

/-- Where the reader stands: outside (none), or inside of a quoted part. -/
def stOf (q sl : Bool) : Option Bool := if q then some sl else none

/-- Behind k bytes, with a part that began at f, and what has been told so far. -/
structure SplInv (l : List UInt8) (k f : Nat) (q sl : Bool) (acc : List (List UInt8)) : Prop where
  split : splitL l = acc ++ splitL (l.drop f)
  fk : f ≤ k
  quiet : q = false → sl = false
  here : k ≤ l.length → peL (l.drop f) = (k - f) + peS (stOf q sl) (l.drop k)
  last : k = l.length + 1 → f = l.length + 1
  few : acc.length ≤ k

theorem SplInv.start (l : List UInt8) : SplInv l 0 0 false false [] :=
  ⟨by simp, Nat.le_refl _, fun _ => rfl, fun _ => by simp [stOf, peL], fun h => by omega, by simp⟩

theorem SplInv.plain {l : List UInt8} {k f : Nat} {q sl : Bool} {acc : List (List UInt8)} (h : SplInv l k f q sl acc) (hk : k < l.length) (q' sl' : Bool) (hq : q' = false → sl' = false)
    (hstep : peS (stOf q sl) (l.drop k) = 1 + peS (stOf q' sl') (l.drop (k + 1))) : SplInv l (k + 1) f q' sl' acc :=
  ⟨h.split, by have := h.fk; omega, hq, fun _ => by have := h.here (by omega); have := h.fk; rw [h.here (by omega), hstep]; omega, fun e => by omega, by have := h.few; omega⟩

theorem drop_at (l : List UInt8) (k : Nat) (h : k < l.length) : l.drop k = l[k] :: l.drop (k + 1) := List.drop_eq_getElem_cons h

theorem SplInv.cut {l : List UInt8} {k f : Nat} {q sl : Bool} {acc : List (List UInt8)} (h : SplInv l k f q sl acc) (hk : k ≤ l.length) (_ : k < l.length → q = false)
    (hz : peS (stOf q sl) (l.drop k) = 0) : splitL l = acc ++ (if trimL ((l.drop f).take (k - f)) = [] then [] else [trimL ((l.drop f).take (k - f))]) ++ splitL (l.drop (k + 1)) := by
  have hp := h.here hk
  have hf := h.fk
  rw [hz] at hp
  by_cases hne : l.drop f = []
  · have hfl : l.length ≤ f := by
      have := congrArg List.length hne
      rw [List.length_drop, List.length_nil] at this
      omega
    rw [h.split, hne, splitL_nil, List.take_nil, show trimL [] = [] from rfl, if_pos rfl, List.drop_of_length_le (by omega), splitL_nil, List.append_nil, List.append_nil]
  · rw [h.split, splitL_step _ hne, hp, Nat.add_zero, List.drop_drop, show f + (k - f + 1) = k + 1 by omega, List.append_assoc]

theorem SplInv.next {l : List UInt8} {k f : Nat} {q sl : Bool} {acc : List (List UInt8)} (h : SplInv l k f q sl acc) (hk : k ≤ l.length) (hq : k < l.length → q = false)
    (hz : peS (stOf q sl) (l.drop k) = 0) (q' sl' : Bool) (hq0 : k < l.length → q' = false) (hq' : q' = false → sl' = false) (t : List (List UInt8)) (ht : t = if trimL ((l.drop f).take (k - f)) = [] then [] else [trimL ((l.drop f).take (k - f))]) : SplInv l (k + 1) (k + 1) q' sl' (acc ++ t) := by
  refine ⟨by rw [ht]; exact h.cut hk hq hz, Nat.le_refl _, hq', fun h1 => ?_, fun e => by omega, ?_⟩
  · rw [hq0 (by omega), stOf, if_neg (by decide), Nat.sub_self, Nat.zero_add]; rfl
  · have := h.few
    rw [ht, List.length_append]
    split <;> simp <;> omega

end Go.Proofs.YtjnagifolheloaaDoor
