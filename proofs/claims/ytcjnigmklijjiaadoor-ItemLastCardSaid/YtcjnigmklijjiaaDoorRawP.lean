/- Plain facts about the bytes that groups of four characters stand for. -/
import Derived.Test.YtcjnigmklijjiaaDoorBarD
import Derived.Laws.CopyOwn
import Derived.Lib.TrimByte
namespace Go.Proofs.YtcjnigmklijjiaaDoor

def by3 (v : Nat) : List UInt8 := [b0 v, b1 v, b2 v]

/-- The bytes of all groups of at most four characters. -/
def rawG : List UInt8 → List UInt8
  | a :: b :: c :: d :: r => by3 (gN [a, b, c, d] 4) ++ rawG r
  | [] => []
  | l => by3 (gN l 4)

theorem rawG_step (l : List UInt8) (h : l ≠ []) : rawG l = by3 (gN (l.take 4) 4) ++ rawG (l.drop 4) := by
  match l, h with
  | [a], _ => simp [rawG]
  | [a, b], _ => simp [rawG]
  | [a, b, c], _ => simp [rawG]
  | a :: b :: c :: d :: r, _ => simp [rawG]

theorem rawG_len : ∀ (n : Nat) (l : List UInt8), l.length ≤ n → (rawG l).length = (l.length + 3) / 4 * 3
  | 0, l, h => by
    have : l = [] := List.eq_nil_of_length_eq_zero (by omega)
    subst this; rfl
  | n + 1, l, h => by
    by_cases hl : l = []
    · subst hl; rfl
    · have hp : 0 < l.length := List.length_pos_iff.2 hl
      rw [rawG_step l hl, List.length_append, rawG_len n (l.drop 4) (by rw [List.length_drop]; omega), List.length_drop]
      simp only [by3, List.length_cons, List.length_nil]
      omega

/-- Whole groups ahead of others. -/
theorem rawG_app : ∀ (k : Nat) (l : List UInt8), 4 * k ≤ l.length → rawG l = rawG (l.take (4 * k)) ++ rawG (l.drop (4 * k))
  | 0, l, _ => by simp [rawG]
  | k + 1, l, h => by
    have hl : l ≠ [] := by intro e; subst e; simp at h
    have hl2 : l.take (4 * (k + 1)) ≠ [] := by
      intro e
      have := congrArg List.length e
      rw [List.length_take, List.length_nil] at this
      omega
    rw [rawG_step l hl, rawG_step (l.take (4 * (k + 1))) hl2, rawG_app k (l.drop 4) (by rw [List.length_drop]; omega)]
    rw [List.take_take, List.drop_take, List.drop_drop, List.append_assoc]
    rw [show min 4 (4 * (k + 1)) = 4 by omega, show 4 * (k + 1) - 4 = 4 * k by omega, show 4 + 4 * k = 4 * (k + 1) by omega]

/-- The bytes that a text without its end stands for, as many as it tells. -/
def rawL (l : List UInt8) : List UInt8 := (rawG l).take (l.length * 3 / 4)

/-- A row that holds the bytes of so many groups. -/
def Filled (l : List UInt8) (k : Nat) (cur : List UInt8) : Prop := cur.length = l.length * 3 / 4 ∧ ∃ tail, cur = (rawG (l.take (4 * k))).take (l.length * 3 / 4) ++ tail

theorem filled_zero (l : List UInt8) : Filled l 0 (List.replicate (l.length * 3 / 4) 0) := ⟨by simp, _, by simp [rawG]; rfl⟩

theorem filled_step {l cur : List UInt8} {k : Nat} (h : Filled l k cur) (hk : 4 * k < l.length) :
    Filled l (k + 1) (splice cur (3 * k) ((by3 (gN ((l.drop (4 * k)).take 4) 4)).take (l.length * 3 / 4 - 3 * k))) := by
  obtain ⟨h1, tail, h2⟩ := h
  have hlen : (rawG (l.take (4 * k))).length = 3 * k := by
    rw [rawG_len _ _ (Nat.le_refl _), List.length_take]; omega
  have hfull : rawG (l.take (4 * (k + 1))) = rawG (l.take (4 * k)) ++ by3 (gN ((l.drop (4 * k)).take 4) 4) := by
    rw [rawG_app k (l.take (4 * (k + 1))) (by rw [List.length_take]; omega), List.take_take, List.drop_take]
    rw [show min (4 * k) (4 * (k + 1)) = 4 * k by omega, show 4 * (k + 1) - 4 * k = 4 by omega]
    congr 1
    have hne : (l.drop (4 * k)).take 4 ≠ [] := by
      intro e
      have := congrArg List.length e
      rw [List.length_take, List.length_drop, List.length_nil] at this
      omega
    rw [rawG_step _ hne, List.take_take, List.drop_take]
    simp [rawG]
  have h3 : ((by3 (gN ((l.drop (4 * k)).take 4) 4)).take (l.length * 3 / 4 - 3 * k)).length = min (l.length * 3 / 4 - 3 * k) 3 := by
    rw [List.length_take]; rfl
  refine ⟨?_, ?_⟩
  · rw [length_splice _ _ _ (by omega)]; exact h1
  · refine ⟨tail.drop (min (l.length * 3 / 4 - 3 * k) 3), ?_⟩
    rw [hfull, splice, h2, List.take_of_length_le (show (rawG (l.take (4 * k))).length ≤ l.length * 3 / 4 by omega), h3]
    rw [List.take_append, List.take_append, List.drop_append, hlen]
    rw [List.take_of_length_le (show (rawG (l.take (4 * k))).length ≤ 3 * k by omega), List.take_of_length_le (show (rawG (l.take (4 * k))).length ≤ l.length * 3 / 4 by omega)]
    rw [List.drop_of_length_le (show (rawG (l.take (4 * k))).length ≤ 3 * k + min (l.length * 3 / 4 - 3 * k) 3 by omega)]
    simp

theorem filled_end {l cur : List UInt8} {k : Nat} (h : Filled l k cur) (hk : l.length ≤ 4 * k) : cur = rawL l := by
  obtain ⟨h1, tail, h2⟩ := h
  rw [List.take_of_length_le hk] at h2
  have h3 : ((rawG l).take (l.length * 3 / 4)).length = l.length * 3 / 4 := by
    rw [List.length_take, rawG_len _ _ (Nat.le_refl _)]; omega
  have h4 : tail = [] := by
    have := congrArg List.length h2
    rw [List.length_append, h3] at this
    exact List.eq_nil_of_length_eq_zero (by omega)
  rw [h2, h4, List.append_nil]
  rfl

/-- What Decode does. -/
def decL (s : List UInt8) : Option (List UInt8) := if encL (rawL (Lib.trimRightB s 61)) = s then some (rawL (Lib.trimRightB s 61)) else none

theorem trimRightB_le (l : List UInt8) (c : UInt8) : (Lib.trimRightB l c).length ≤ l.length := by
  unfold Lib.trimRightB
  rw [List.length_reverse]
  have : (l.reverse.dropWhile (· == c)).length ≤ l.reverse.length := (List.dropWhile_sublist _).length_le
  simpa using this

theorem rawL_le (l : List UInt8) : (rawL l).length ≤ l.length := by
  unfold rawL
  rw [List.length_take]
  omega

end Go.Proofs.YtcjnigmklijjiaaDoor
