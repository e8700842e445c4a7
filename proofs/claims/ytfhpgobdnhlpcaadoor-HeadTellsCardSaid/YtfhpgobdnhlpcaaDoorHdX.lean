/- Plain: what is printed of fields is parsed, whatever stands behind it; what is parsed is small, and lies within the text. -/
import Derived.Test.YtfhpgobdnhlpcaaDoorHdN
import Derived.Test.YtfhpgobdnhlpcaaDoorHdQ
namespace Go.Proofs.YtfhpgobdnhlpcaaDoor
open Go.RowKit

theorem index_mid : ∀ (t : List UInt8) (c : UInt8) (r : List UInt8), (∀ x ∈ t, x ≠ c) → Lib.indexByte (t ++ c :: r) c = (t.length : Int)
  | [], c, r, _ => by rw [List.nil_append, Lib.indexByte]; simp
  | x :: t, c, r, h => by
    have ih := index_mid t c r (fun y hy => h y (List.mem_cons_of_mem _ hy))
    have hx : (x == c) = false := by simpa using h x (List.mem_cons_self ..)
    have h1 : ((t.length : Int) == -1) = false := by
      rw [beq_eq_false_iff_ne]
      omega
    rw [List.cons_append, Lib.indexByte, hx, ih, h1, List.length_cons]
    simp

theorem suffix_snoc (t : List UInt8) : Lib.hasSuffix (t ++ [13]) [13] = true := by
  unfold Lib.hasSuffix
  rw [List.isSuffixOf_iff_suffix]
  exact ⟨t, rfl⟩

/-- A line, with its end and whatever is behind it. -/
theorem lineL_text (t r : List UInt8) (h : ∀ x ∈ t, x ≠ 10) (hl : t.length ≤ 2000) : lineL (t ++ 13 :: 10 :: r) = (t, 0) := by
  have hi : Lib.indexByte (t ++ 13 :: 10 :: r) 10 = ((t ++ [13]).length : Int) := by
    rw [show t ++ 13 :: 10 :: r = (t ++ [13]) ++ 10 :: r by simp]
    refine index_mid _ _ _ fun x hx => ?_
    rcases List.mem_append.1 hx with hx | hx
    · exact h x hx
    · simp only [List.mem_singleton] at hx
      subst hx
      decide
  have hn : ¬ (((t ++ [13]).length : Int) = -1) := by omega
  have ht : (t ++ 13 :: 10 :: r).take ((t ++ [13]).length : Int).toNat = t ++ [13] := by
    rw [Int.toNat_natCast, show t ++ 13 :: 10 :: r = (t ++ [13]) ++ 10 :: r by simp, List.take_left']
    rfl
  unfold lineL
  rw [hi, if_neg hn, ht, suffix_snoc, if_neg (by decide)]
  have hs : Lib.trimSuffix (t ++ [13]) [13] = t := by
    unfold Lib.trimSuffix
    rw [suffix_snoc, if_pos rfl]
    simp
  rw [hs, if_neg (by omega)]

theorem tch_line (c : UInt8) (h : tchI c.toNat = true) : c ≠ 10 ∧ c ≠ 58 := by
  have := all_bytes (fun c => !tchI c.toNat || (!(c == 10) && !(c == 58))) (by decide +kernel) c
  simpa [h] using this
theorem txt_line (c : UInt8) (h : txtI c.toNat = true) : c ≠ 10 := by
  have := all_bytes (fun c => !txtI c.toNat || !(c == 10)) (by decide +kernel) c
  simpa [h] using this
theorem txt_all {l : List UInt8} (h : txtL l = true) : (∀ c ∈ l, txtI c.toNat = true) ∧ trimL l = l := by
  unfold txtL at h
  rw [Bool.and_eq_true, List.all_eq_true, beq_iff_eq] at h
  exact h
theorem trimL_space (l : List UInt8) : trimL (32 :: l) = trimL l := by
  have : tlL (32 :: l) = tlL l := by rw [tlL, List.dropWhile_cons_of_pos (by decide)]; rfl
  rw [trimL, trimL, this]

/-- What a field that is valid has. -/
theorem rightF {p : Fld} (h : wrongL p = false) : p.1.length + p.2.length ≤ 1998 ∧ tokL p.1 = true ∧ lowL p.1 = p.1 ∧ txtL p.2 = true := by
  unfold wrongL at h
  simp only [Bool.or_eq_false_iff, decide_eq_false_iff_not, Bool.not_eq_false', beq_iff_eq] at h
  obtain ⟨⟨⟨h1, h2⟩, h3⟩, h4⟩ := h
  exact ⟨by omega, h2, h3.symm, h4⟩

theorem fldL_text {p : Fld} (h : wrongL p = false) : fldL (p.1 ++ [58, 32] ++ p.2) = some p := by
  obtain ⟨_, h2, h3, h4⟩ := rightF h
  have e : p.1 ++ [58, 32] ++ p.2 = p.1 ++ 58 :: (32 :: p.2) := by simp
  have hi : Lib.indexByte (p.1 ++ 58 :: (32 :: p.2)) 58 = (p.1.length : Int) := index_mid _ _ _ fun x hx => (tch_line x (((tokL_iff _).1 h2).1 x hx)).2
  have hn : ¬ ((p.1.length : Int) = -1) := by omega
  have h1 : (p.1 ++ 58 :: (32 :: p.2)).take p.1.length = p.1 := by rw [List.take_left']; rfl
  have hd : (p.1 ++ 58 :: (32 :: p.2)).drop (p.1.length + 1) = 32 :: p.2 := by
    rw [show p.1 ++ 58 :: (32 :: p.2) = (p.1 ++ [58]) ++ (32 :: p.2) by simp, List.drop_left']
    simp
  unfold fldL
  rw [e, hi, if_neg hn, Int.toNat_natCast, h1, hd, trimL_space, (txt_all h4).2, if_pos ⟨h2, h4⟩, h3]

theorem line_text {p : Fld} (h : wrongL p = false) (r : List UInt8) : lineL (lineF p ++ r) = (p.1 ++ [58, 32] ++ p.2, 0) := by
  obtain ⟨h1, h2, h3, h4⟩ := rightF h
  have e : lineF p ++ r = (p.1 ++ [58, 32] ++ p.2) ++ 13 :: 10 :: r := by simp [lineF]
  rw [e]
  refine lineL_text _ _ (fun x hx => ?_) (by simp; omega)
  rcases List.mem_append.1 hx with hx | hx
  · rcases List.mem_append.1 hx with hx | hx
    · exact (tch_line x (((tokL_iff _).1 h2).1 x hx)).1
    · simp only [List.mem_cons, List.not_mem_nil, or_false] at hx
      rcases hx with rfl | rfl <;> decide
  · exact txt_line x ((txt_all h4).1 x hx)

theorem parH_print (l r : List UInt8) : ∀ (fs : List Fld) (f K : Nat) (acc : List Fld), (∀ p ∈ fs, wrongL p = false) → fs.length < f → acc.length + fs.length ≤ 64 → l.drop K = prF fs ++ 13 :: 10 :: r →
    parH f l K acc = .ok (acc ++ fs, K + (prF fs).length + 2)
  | fs, 0, _, _, _, hf, _, _ => by omega
  | [], f + 1, K, acc, _, _, _, hd => by
    have hL : lineL (l.drop K) = ([], 0) := by
      rw [hd]
      exact lineL_text [] r (fun x hx => by cases hx) (by simp)
    rw [parH, hL]
    simp [prF]
  | p :: fs, f + 1, K, acc, hw, hf, ha, hd => by
    have hp := hw p (List.mem_cons_self ..)
    have hL : lineL (l.drop K) = (p.1 ++ [58, 32] ++ p.2, 0) := by
      rw [hd, prF, List.append_assoc]
      exact line_text hp _
    have hne : p.1 ++ [58, 32] ++ p.2 ≠ [] := by simp
    have hlen : (lineF p).length = (p.1 ++ [58, 32] ++ p.2).length + 2 := by rw [lineF, List.length_append]; rfl
    have hd2 : l.drop (K + (p.1 ++ [58, 32] ++ p.2).length + 2) = prF fs ++ 13 :: 10 :: r := by
      rw [Nat.add_assoc, ← hlen, ← List.drop_drop, hd, prF, List.append_assoc, List.drop_left']
      rfl
    have ih := parH_print l r fs f (K + (p.1 ++ [58, 32] ++ p.2).length + 2) (acc ++ [p]) (fun q hq => hw q (List.mem_cons_of_mem _ hq)) (by simp only [List.length_cons] at hf; omega) (by simp only [List.length_cons, List.length_append, List.length_nil] at ha ⊢; omega) hd2
    have ha' : acc.length ≠ 64 := by simp only [List.length_cons] at ha; omega
    rw [parH, hL]
    dsimp only
    rw [if_neg (by simp), if_neg hne, if_neg ha', fldL_text hp]
    dsimp only
    have hpl : (prF (p :: fs)).length = (p.1 ++ [58, 32] ++ p.2).length + 2 + (prF fs).length := by rw [prF, List.length_append, hlen]
    rw [ih, hpl]
    simp only [List.append_assoc, List.singleton_append, Except.ok.injEq, Prod.mk.injEq, true_and]
    omega

/-- What is printed is parsed, to its end, whatever stands behind it. -/
theorem parse_print (fs : List Fld) (more : List UInt8) (h : rightH fs = true) : parseH (prF fs ++ [13, 10] ++ more) = .ok (fs, (prF fs ++ [13, 10]).length) := by
  unfold rightH at h
  simp only [Bool.and_eq_true, decide_eq_true_eq, Bool.not_eq_true', List.any_eq_false, Bool.not_eq_true] at h
  have := parH_print (prF fs ++ [13, 10] ++ more) more fs 65 0 [] h.2 (by omega) (by simpa using h.1) (by simp)
  rw [parseH, this]
  simp

/-- A line is short; so are a field's name and value. -/
theorem lineL_short (l : List UInt8) : (lineL l).1.length ≤ 2000 := by
  unfold lineL
  split
  · simp
  · split
    · simp
    · split
      · simp
      · dsimp only; omega
theorem fldL_short (l : List UInt8) (p : Fld) (h : fldL l = some p) : p.1.length ≤ l.length ∧ p.2.length ≤ l.length := by
  unfold fldL at h
  split at h
  · cases h
  · split at h
    · obtain rfl := Option.some.inj h
      dsimp only
      have := trimL_le (l.drop ((Lib.indexByte l 58).toNat + 1))
      simp only [List.length_drop] at this
      rw [lowL_length, List.length_take]
      omega
    · cases h

theorem parH_out (l : List UInt8) : ∀ (f K : Nat) (acc fs : List Fld) (n : Nat), parH f l K acc = .ok (fs, n) → K ≤ l.length → acc.length ≤ 64 → (∀ p ∈ acc, p.1.length ≤ 2000 ∧ p.2.length ≤ 2000) →
    n ≤ l.length ∧ fs.length ≤ 64 ∧ ∀ p ∈ fs, p.1.length ≤ 2000 ∧ p.2.length ≤ 2000
  | 0, _, _, _, _, h, _, _, _ => by cases h
  | f + 1, K, acc, fs, n, h, hK, ha, hp => by
    have hle := lineL_le (l.drop K)
    have hsh := lineL_short (l.drop K)
    rw [List.length_drop] at hle
    rw [parH] at h
    by_cases he : (lineL (l.drop K)).2 ≠ 0
    · rw [if_pos he] at h; cases h
    · rw [if_neg he] at h
      have h0 := hle (by simpa using he)
      by_cases hn : (lineL (l.drop K)).1 = []
      · rw [if_pos hn] at h
        simp only [Except.ok.injEq, Prod.mk.injEq] at h
        obtain ⟨rfl, rfl⟩ := h
        exact ⟨by omega, ha, hp⟩
      · rw [if_neg hn] at h
        by_cases h64 : acc.length = 64
        · rw [if_pos h64] at h; cases h
        · rw [if_neg h64] at h
          cases hf : fldL (lineL (l.drop K)).1 with
          | none => rw [hf] at h; cases h
          | some p =>
            rw [hf] at h
            have hps := fldL_short _ p hf
            refine parH_out l f _ _ fs n h (by omega) (by simp; omega) (fun q hq => ?_)
            rcases List.mem_append.1 hq with hq | hq
            · exact hp q hq
            · simp only [List.mem_singleton] at hq
              subst hq
              omega
theorem parse_out (l : List UInt8) (fs : List Fld) (n : Nat) (h : parseH l = .ok (fs, n)) : n ≤ l.length ∧ fs.length ≤ 64 ∧ ∀ p ∈ fs, p.1.length ≤ 2000 ∧ p.2.length ≤ 2000 :=
  parH_out l 65 0 [] fs n h (Nat.zero_le _) (by simp) (fun p hp => by cases hp)
theorem parse_ok (l : List UInt8) (fs : List Fld) (n : Nat) (h : parseH l = .ok (fs, n)) : FldsOk fs := by
  obtain ⟨_, h2, h3⟩ := parse_out l fs n h
  exact ⟨by omega, fun p hp => by have := h3 p hp; omega⟩

end Go.Proofs.YtfhpgobdnhlpcaaDoor
