/- Plain: tokens that are joined by commas, with blanks about them, are split to these. -/
import Derived.Test.YtflicgnonmooaaaDoorAscLaws
namespace Go.Proofs.YtflicgnonmooaaaDoor

/-- The tokens behind the first: each with a comma and blanks ahead, and tabs behind. -/
def restJ (a b : Nat) : List (List UInt8) → List UInt8
  | [] => []
  | q :: r => 44 :: (List.replicate b 32 ++ q ++ List.replicate a 9 ++ restJ a b r)
def fullJ (a b : Nat) : List (List UInt8) → List UInt8
  | [] => []
  | p :: r => p ++ List.replicate a 9 ++ restJ a b r

theorem restJ_snoc (a b : Nat) (q : List UInt8) : ∀ l : List (List UInt8), restJ a b (l ++ [q]) = restJ a b l ++ (44 :: (List.replicate b 32 ++ q ++ List.replicate a 9))
  | [] => by simp [restJ]
  | p :: r => by
    have := restJ_snoc a b q r
    rw [List.cons_append, restJ, restJ, this]
    simp
theorem fullJ_snoc (a b : Nat) (l : List (List UInt8)) (q : List UInt8) : fullJ a b (l ++ [q]) = fullJ a b l ++ (if l = [] then [] else 44 :: List.replicate b 32) ++ q ++ List.replicate a 9 := by
  cases l with
  | nil => simp [fullJ, restJ]
  | cons p r =>
    rw [List.cons_append, fullJ, fullJ, restJ_snoc, if_neg (by simp)]
    simp

theorem peS_plain_append : ∀ (x y : List UInt8), (∀ c ∈ x, (c == 44) = false ∧ (c == 34) = false) → peS none (x ++ y) = x.length + peS none y
  | [], y, _ => by simp
  | c :: r, y, h => by
    obtain ⟨h1, h2⟩ := h c (List.mem_cons_self ..)
    rw [List.cons_append, peS, h1, h2, if_neg (by decide), if_neg (by decide), peS_plain_append r y (fun d hd => h d (List.mem_cons_of_mem _ hd)), List.length_cons]
    omega

theorem tlL_pad (x p : List UInt8) (hx : ∀ c ∈ x, blkB c = true) : tlL (x ++ p) = tlL p := by
  induction x with
  | nil => rfl
  | cons c r ih =>
    rw [List.cons_append, tlL, List.dropWhile_cons_of_pos (hx c (List.mem_cons_self ..))]
    exact ih (fun d hd => hx d (List.mem_cons_of_mem _ hd))

theorem trimL_pad (x p y : List UInt8) (hx : ∀ c ∈ x, blkB c = true) (hy : ∀ c ∈ y, blkB c = true) (hp : ∀ c ∈ p, blkB c = false) (hne : p ≠ []) : trimL (x ++ p ++ y) = p := by
  have e1 : tlL (x ++ p ++ y) = p ++ y := by
    rw [List.append_assoc, tlL_pad x (p ++ y) hx]
    cases p with
    | nil => exact absurd rfl hne
    | cons c r => rw [List.cons_append, tlL, List.dropWhile_cons_of_neg (by rw [hp c (List.mem_cons_self ..)]; decide)]
  rw [trimL, e1, trL_eq, List.reverse_append, tlL_pad _ _ (fun c hc => hy c (List.mem_reverse.1 hc)), tlL_of p.reverse (fun c hc => hp c (List.mem_reverse.1 hc)), List.reverse_reverse]

theorem split_one (a b c0 : Nat) (r : List (List UInt8)) (p : List UInt8) (hp : tokL p = true) : splitL (List.replicate c0 32 ++ p ++ List.replicate a 9 ++ restJ a b r) = p :: splitL ((restJ a b r).drop 1) := by
  have hpt := (tokL_iff p).1 hp
  have hX : ∀ c ∈ List.replicate c0 32 ++ p ++ List.replicate a 9, (c == (44 : UInt8)) = false ∧ (c == (34 : UInt8)) = false := by
    intro c hc
    simp only [List.mem_append] at hc
    rcases hc with (hc | hc) | hc
    · rw [(List.mem_replicate.1 hc).2]; decide
    · exact ⟨(tch_not c (hpt.1 c hc)).2.1, (tch_not c (hpt.1 c hc)).2.2.1⟩
    · rw [(List.mem_replicate.1 hc).2]; decide
  have htr : trimL (List.replicate c0 32 ++ p ++ List.replicate a 9) = p :=
    trimL_pad _ p _ (fun c hc => by rw [(List.mem_replicate.1 hc).2]; decide) (fun c hc => by rw [(List.mem_replicate.1 hc).2]; decide) (fun c hc => (tch_not c (hpt.1 c hc)).1) hpt.2
  have hz : peS none (restJ a b r) = 0 := by cases r <;> rfl
  have hpe : peL (List.replicate c0 32 ++ p ++ List.replicate a 9 ++ restJ a b r) = (List.replicate c0 32 ++ p ++ List.replicate a 9).length := by
    rw [peL, peS_plain_append _ _ hX, hz, Nat.add_zero]
  have hne : List.replicate c0 32 ++ p ++ List.replicate a 9 ++ restJ a b r ≠ [] := by
    intro e
    have := congrArg List.length e
    have h2 : 0 < p.length := List.length_pos_iff.2 hpt.2
    simp only [List.length_append, List.length_nil] at this
    omega
  rw [splitL_step _ hne, hpe, List.take_left, htr, if_neg hpt.2]
  rw [← List.drop_drop, List.drop_left]
  rfl

theorem split_pad (a b : Nat) (r : List (List UInt8)) : ∀ (c0 : Nat) (p : List UInt8), tokL p = true → (∀ q ∈ r, tokL q = true) → splitL (List.replicate c0 32 ++ p ++ List.replicate a 9 ++ restJ a b r) = p :: r := by
  induction r with
  | nil =>
    intro c0 p hp _
    rw [split_one a b c0 [] p hp]
    rfl
  | cons q r ih =>
    intro c0 p hp hr
    rw [split_one a b c0 (q :: r) p hp, restJ, List.drop_one, List.tail_cons, ih b q (hr q (List.mem_cons_self ..)) (fun x hx => hr x (List.mem_cons_of_mem _ hx))]

theorem split_full (a b : Nat) (l : List (List UInt8)) (h : ∀ q ∈ l, tokL q = true) : splitL (fullJ a b l) = l := by
  cases l with
  | nil => rfl
  | cons p r => exact split_pad a b r 0 p (h p (List.mem_cons_self ..)) (fun q hq => h q (List.mem_cons_of_mem _ hq))

end Go.Proofs.YtflicgnonmooaaaDoor
