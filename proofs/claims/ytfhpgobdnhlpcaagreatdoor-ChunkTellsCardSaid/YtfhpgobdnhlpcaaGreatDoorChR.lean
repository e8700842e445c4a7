/- Plain: the size of a chunk's line, told from the digits with which it begins. -/
import Derived.Test.YtfhpgobdnhlpcaaGreatDoorChE
import Derived.Test.YtfhpgobdnhlpcaaGreatDoorHdQ
namespace Go.Proofs.YtfhpgobdnhlpcaaGreatDoor
open Go.RowKit Go.Shelf Go.Lib

def hexB (c : UInt8) : Bool := (hexD c).isSome
/-- The number of signs by sixteen, behind one. -/
def hv : Nat → List UInt8 → Nat
  | a, [] => a
  | a, c :: r => hv (a * 16 + (hexD c).getD 0) r
theorem hv_snoc : ∀ (l : List UInt8) (a : Nat) (c : UInt8), hv a (l ++ [c]) = hv a l * 16 + (hexD c).getD 0
  | [], a, c => rfl
  | x :: l, a, c => by rw [List.cons_append, hv, hv_snoc l, hv]
theorem hv_lt : ∀ (l : List UInt8) (a j : Nat), a < 16 ^ j → hv a l < 16 ^ (j + l.length)
  | [], a, j, h => h
  | c :: l, a, j, h => by
    have hd : (hexD c).getD 0 < 16 := by
      cases hc : hexD c with
      | none => simp
      | some d => exact hexD_lt c d hc
    have := hv_lt l (a * 16 + (hexD c).getD 0) (j + 1) (by rw [Nat.pow_succ]; omega)
    rw [hv, List.length_cons, show j + (l.length + 1) = j + 1 + l.length by omega]
    exact this
theorem par16_all : ∀ (l : List UInt8) (a j : Nat), (∀ c ∈ l, hexB c = true) → a < 16 ^ j → j + l.length ≤ 15 → par16 a l = .ok (hv a l)
  | [], a, j, _, _, _ => rfl
  | c :: l, a, j, h, ha, hj => by
    have hc := h c (List.mem_cons_self ..)
    rw [List.length_cons] at hj
    have h15 : (16 : Nat) ^ j ≤ 16 ^ 14 := Nat.pow_le_pow_right (by omega) (by omega)
    cases hd : hexD c with
    | none => rw [hexB, hd] at hc; cases hc
    | some d =>
      have hlt := hexD_lt c d hd
      rw [par16, hd, hv, hd]
      dsimp only
      rw [if_neg (by have : (16 : Nat) ^ 14 = 72057594037927936 := by decide
                     omega)]
      exact par16_all l (a * 16 + d) (j + 1) (fun x hx => h x (List.mem_cons_of_mem _ hx)) (by rw [Nat.pow_succ]; omega) (by omega)
theorem par16_bad : ∀ (l : List UInt8) (a : Nat), (∃ c ∈ l, hexB c = false) → ∀ n, par16 a l ≠ .ok n
  | [], _, h, _ => by obtain ⟨c, hc, _⟩ := h; cases hc
  | c :: l, a, h, n => by
    rw [par16]
    cases hd : hexD c with
    | none => simp
    | some d =>
      dsimp only
      split
      · simp
      · refine par16_bad l _ ?_ n
        obtain ⟨x, hx, hb⟩ := h
        rcases List.mem_cons.1 hx with rfl | hx
        · rw [hexB, hd] at hb; cases hb
        · exact ⟨x, hx, hb⟩

theorem sep_not_hex (c : UInt8) (h : sepL.contains c = true) : hexB c = false := by
  have H : ∀ i : Fin 256, sepL.contains (UInt8.ofNat i.val) = true → hexB (UInt8.ofNat i.val) = false := by decide +kernel
  have := H ⟨c.toNat, c.toNat_lt⟩
  simp only [UInt8.ofNat_toNat] at this
  exact this h
theorem sep_cases (c : UInt8) : sepL.contains c = (blkB c || c == 59) := by
  have H : ∀ i : Fin 256, sepL.contains (UInt8.ofNat i.val) = (blkB (UInt8.ofNat i.val) || UInt8.ofNat i.val == 59) := by decide +kernel
  have := H ⟨c.toNat, c.toNat_lt⟩
  simpa using this

/-- Where the first of these bytes stands: it is one, and none stands ahead of it. -/
theorem sep_split (l : List UInt8) : (Lib.indexAny l sepL < 0 ∧ ∀ c ∈ l, sepL.contains c = false) ∨ ∃ D x R, l = D ++ x :: R ∧ Lib.indexAny l sepL = (D.length : Int) ∧ (∀ c ∈ D, sepL.contains c = false) ∧ sepL.contains x = true := by
  induction l with
  | nil => exact .inl ⟨by decide, by simp⟩
  | cons c r ih =>
    by_cases hc : sepL.contains c = true
    · exact .inr ⟨[], c, r, rfl, by rw [Lib.indexAny, if_pos hc]; rfl, by simp, hc⟩
    · have hcf : sepL.contains c = false := by simpa using hc
      rcases ih with ⟨h1, h2⟩ | ⟨D, x, R, h1, h2, h3, h4⟩
      · refine .inl ⟨?_, fun y hy => ?_⟩
        · have h3 := Lib.indexAny_ge sepL r
          have h4 : Lib.indexAny r sepL = -1 := by omega
          rw [Lib.indexAny, if_neg hc, h4]
          decide
        · rcases List.mem_cons.1 hy with rfl | hy
          · exact hcf
          · exact h2 y hy
      · refine .inr ⟨c :: D, x, R, by rw [h1]; rfl, ?_, fun y hy => ?_, h4⟩
        · rw [Lib.indexAny, if_neg hc, h2, if_neg (by first | (simp; done) | (simp; omega))]
          simp
        · rcases List.mem_cons.1 hy with rfl | hy
          · exact hcf
          · exact h3 y hy

theorem trL_cons_no (c : UInt8) (r : List UInt8) (h : blkB c = false) : trL (c :: r) = c :: trL r := by
  rw [trL, trL, List.reverse_cons, List.dropWhile_append]
  split
  · rename_i he
    rw [List.dropWhile_cons_of_neg (by rw [h]; decide)]
    have : r.reverse.dropWhile blkB = [] := by simpa using he
    rw [this]
    rfl
  · rw [List.reverse_append]
    rfl
theorem trL_cons_yes (c : UInt8) (r : List UInt8) (h : blkB c = true) : trL (c :: r) = if trL r = [] then [] else c :: trL r := by
  rw [trL, trL, List.reverse_cons, List.dropWhile_append]
  by_cases he : r.reverse.dropWhile blkB = []
  · rw [he]
    simp [h]
  · have h1 : ¬ (r.reverse.dropWhile blkB).isEmpty = true := by simpa using he
    rw [if_neg h1, if_neg (by simpa using he), List.reverse_append]
    rfl
theorem tl_tr_comm : ∀ l : List UInt8, tlL (trL l) = trL (tlL l)
  | [] => rfl
  | c :: r => by
    cases hc : blkB c
    · rw [trL_cons_no c r hc, tlL, List.dropWhile_cons_of_neg (by rw [hc]; decide), tlL, List.dropWhile_cons_of_neg (by rw [hc]; decide), trL_cons_no c r hc]
    · have ih := tl_tr_comm r
      rw [trL_cons_yes c r hc]
      rw [show tlL (c :: r) = tlL r by rw [tlL, List.dropWhile_cons_of_pos hc]; rfl]
      split
      · rename_i he
        rw [← ih, he]
      · rw [show tlL (c :: trL r) = tlL (trL r) by rw [tlL, List.dropWhile_cons_of_pos hc]; rfl]
        exact ih
theorem trimL_tr (l : List UInt8) : trimL (trL l) = trimL l := by
  rw [trimL, trimL, tl_tr_comm, trL_idem]

/-- What may stand behind the digits, told from the front. -/
def extR (r : List UInt8) : Bool := match tlL r with
  | [] => r.isEmpty
  | c :: t => c == 59 && txtL (trimL t)
theorem tlL_cases (r : List UInt8) : tlL r = [] ∨ ∃ c t, tlL r = c :: t ∧ blkB c = false := by
  induction r with
  | nil => exact .inl rfl
  | cons c r ih =>
    cases hc : blkB c
    · exact .inr ⟨c, r, by rw [tlL, List.dropWhile_cons_of_neg (by rw [hc]; decide)], hc⟩
    · rw [show tlL (c :: r) = tlL r by rw [tlL, List.dropWhile_cons_of_pos hc]; rfl]
      exact ih
theorem pre_semi (c : UInt8) (t : List UInt8) : Lib.hasPrefix (c :: t) [59] = (c == 59) := by
  unfold Lib.hasPrefix
  simp [List.isPrefixOf]
  exact Bool.beq_comm
theorem extL_eq (r : List UInt8) : extL r = extR r := by
  rw [extL, extR]
  rcases tlL_cases r with h | ⟨c, t, h, hc⟩
  · rw [trimL, h]
    cases r <;> rfl
  · rw [trimL, h, trL_cons_no c t hc, pre_semi]
    have hr : r.isEmpty = false := by
      cases r with
      | nil => cases h
      | cons _ _ => rfl
    rw [hr, Bool.false_or]
    cases h59 : c == 59
    · show (false && _) = (c == 59 && txtL (trimL t))
      rw [h59]
      rfl
    · have : c = 59 := by simpa using h59
      subst this
      have hp : Lib.trimPrefix (59 :: trL t) [59] = trL t := by
        unfold Lib.trimPrefix
        rw [pre_semi]
        rfl
      rw [hp, trimL_tr]
      rfl

/-- The size that a line tells: so many digits, and what stands behind them. -/
def sizR (l : List UInt8) (k : Nat) : Option Nat := if k < 1 ∨ 8 < k then none else if extR (l.drop k) then some (hv 0 (l.take k)) else none

theorem sizeL_eq (l : List UInt8) (k : Nat) (hk : k ≤ l.length) (h1 : ∀ c ∈ l.take k, hexB c = true) (h2 : ∀ c, l[k]? = some c → hexB c = false) : sizeL l = sizR l k := by
  -- the digits are what stands ahead of the first separator, or end ahead of it
  obtain ⟨D, R, hD, hR, hl, hs⟩ : ∃ D R, digsL l = D ∧ restL l = R ∧ l = D ++ R ∧ ((∀ c ∈ D, sepL.contains c = false) ∧ (R = [] ∨ ∃ x t, R = x :: t ∧ sepL.contains x = true)) := by
    rcases sep_split l with ⟨a, b⟩ | ⟨D, x, R, a, b, c, d⟩
    · exact ⟨l, [], by rw [digsL, if_pos a], by rw [restL, if_pos a], by simp, b, .inl rfl⟩
    · refine ⟨D, x :: R, ?_, ?_, a, c, .inr ⟨x, R, rfl, d⟩⟩
      · rw [digsL, if_neg (by omega), b, Int.toNat_natCast]
        conv => lhs; rw [a]
        exact List.take_left
      · rw [restL, if_neg (by omega), b, Int.toNat_natCast]
        conv => lhs; rw [a]
        exact List.drop_left
  obtain ⟨hsD, hsR⟩ := hs
  rw [sizeL, hD, hR]
  by_cases hall : ∀ c ∈ D, hexB c = true
  · -- all are digits: then there are k of them
    have hkD : k = D.length := by
      rcases Nat.lt_trichotomy k D.length with h | h | h
      · exfalso
        have h3 : l[k]? = some D[k] := by rw [hl, List.getElem?_append_left h]; exact List.getElem?_eq_getElem h
        have := h2 _ h3
        rw [hall _ (List.getElem_mem h)] at this
        cases this
      · exact h
      · exfalso
        rcases hsR with hr | ⟨x, t, hr, hx⟩
        · rw [hl, hr, List.append_nil] at hk; omega
        · have hm : x ∈ l.take k := by
            rw [hl, hr]
            have : (D ++ x :: t).take k = D ++ (x :: t).take (k - D.length) := by rw [List.take_append, List.take_of_length_le (by omega)]
            rw [this]
            refine List.mem_append_right _ ?_
            obtain ⟨m, hm⟩ : ∃ m, k - D.length = m + 1 := ⟨k - D.length - 1, by omega⟩
            rw [hm]
            simp
          have := h1 x hm
          rw [sep_not_hex x hx] at this
          cases this
    have htk : l.take k = D := by rw [hl, hkD]; exact List.take_left
    have hdk : l.drop k = R := by rw [hl, hkD]; exact List.drop_left
    rw [sizR, htk, hdk, hkD]
    by_cases h8 : 8 < D.length
    · rw [if_pos h8, if_pos (.inr h8)]
    · rw [if_neg h8]
      by_cases h0 : D = []
      · rw [h0, if_pos (.inl (by simp))]
        rfl
      · have hpos : 0 < D.length := List.length_pos_iff.2 h0
        rw [if_neg (by omega), num16, if_neg h0, par16_all D 0 0 hall (by decide) (by omega)]
        dsimp only
        rw [extL_eq]
  · -- one is none: then the number ends ahead of it, at no separator
    have hex : ∃ c ∈ D, hexB c = false := by
      simpa using hall
    have hbad : ∀ n, num16 D ≠ .ok n := fun n => by
      rw [num16]
      split
      · intro h; cases h
      · exact par16_bad D 0 hex n
    have hkD : k < D.length := by
      rcases Nat.lt_or_ge k D.length with h | h
      · exact h
      · exfalso
        obtain ⟨c, hc, hb⟩ := hex
        have hm : c ∈ l.take k := by
          rw [hl, List.take_append, List.take_of_length_le h]
          exact List.mem_append_left _ hc
        rw [h1 c hm] at hb
        cases hb
    have hlk : l[k]? = some D[k] := by rw [hl, List.getElem?_append_left hkD]; exact List.getElem?_eq_getElem hkD
    have hns := hsD D[k] (List.getElem_mem hkD)
    rw [sep_cases] at hns
    have hb : blkB D[k] = false := by
      cases hh : blkB D[k]
      · rfl
      · rw [hh] at hns; cases hns
    have h59 : (D[k] == 59) = false := by
      cases hh : (D[k] == 59)
      · rfl
      · rw [hh, Bool.or_true] at hns; cases hns
    have hdr : ∃ t, l.drop k = D[k] :: t := by
      have hkl : k < l.length := by rw [hl, List.length_append]; omega
      refine ⟨l.drop (k + 1), ?_⟩
      rw [List.drop_eq_getElem_cons hkl]
      congr 1
      have := List.getElem?_eq_getElem hkl
      rw [hlk] at this
      exact (Option.some.inj this).symm
    obtain ⟨t, ht⟩ := hdr
    have hno : sizR l k = none := by
      rw [sizR]
      split
      · rfl
      · have : extR (l.drop k) = false := by
          rw [extR, ht, show tlL (D[k] :: t) = D[k] :: t by rw [tlL, List.dropWhile_cons_of_neg (by rw [hb]; decide)]]
          dsimp only
          rw [h59]
          rfl
        rw [this]
        rfl
    rw [hno]
    by_cases h8 : 8 < D.length
    · rw [if_pos h8]
    · rw [if_neg h8]
      cases hn : num16 D with
      | ok n => exact absurd hn (hbad n)
      | error b => rfl

end Go.Proofs.YtfhpgobdnhlpcaaGreatDoor
