/- Plain facts about bare items: what is printed is read, and what is read may be. No program is walked. -/
import Derived.Test.YtcjnigmklijjiaaDoorBarP
namespace Go.Proofs.YtcjnigmklijjiaaDoor

theorem readL_num (c : UInt8) (r : List UInt8) (h : c = 45 ∨ digI c.toNat = true) : readL (c :: r) = readNumL (c :: r) := by
  unfold readL
  rcases h with rfl | h
  · rfl
  · simp only [h, Bool.or_true, if_true]

theorem decDigits_cons (m : Nat) : ∃ c r, Lib.decDigits m = c :: r ∧ digI c.toNat = true := by
  have h1 := decDigits_1 m
  have h2 := decDigits_all m
  match h : Lib.decDigits m with
  | [] => rw [h] at h1; simp at h1
  | c :: r =>
    rw [h, List.all_cons, Bool.and_eq_true] at h2
    exact ⟨c, r, rfl, h2.1⟩

theorem digit_not45 (c : UInt8) (h : digI c.toNat = true) : c ≠ 45 := by
  intro e; subst e; exact absurd h (by decide)

/-- A number behind its sign, where digits come first. -/
theorem readL_plus (c : UInt8) (r : List UInt8) (h : digI c.toNat = true) : readL (c :: r) = numTail 0 1 (c :: r) := by
  rw [readL_num c r (.inr h), readNumL, if_neg]
  simpa using digit_not45 c h
theorem readL_minus (r : List UInt8) : readL (45 :: r) = numTail 1 (-1) (45 :: r) := by
  rw [readL_num 45 r (.inl rfl), readNumL, if_pos (by simp)]

theorem read_int (m : Nat) (h : m < 1000000000000000) (t : List UInt8) (ht : ends t = true) :
    readL (Lib.decDigits m ++ t) = some ⟨1, (m : Int), [], (Lib.decDigits m).length⟩ ∧ readL (45 :: (Lib.decDigits m ++ t)) = some ⟨1, -(m : Int), [], (Lib.decDigits m).length + 1⟩ := by
  refine ⟨?_, ?_⟩
  · obtain ⟨c, r, e, hc⟩ := decDigits_cons m
    have := numTail_of 0 1 (Lib.decDigits m ++ t) (Lib.decDigits m) t (List.drop_zero ..) (decDigits_all m) (decDigits_1 m) (decDigits_15 m h) ht
    rw [decDigits_num] at this
    rw [← Int.one_mul (m : Int), ← Nat.zero_add (Lib.decDigits m).length, ← this, e]
    exact readL_plus c (r ++ t) hc
  · rw [readL_minus, numTail_of 1 (-1) (45 :: (Lib.decDigits m ++ t)) (Lib.decDigits m) t rfl (decDigits_all m) (decDigits_1 m) (decDigits_15 m h) ht, decDigits_num, Nat.add_comm, Int.neg_one_mul]

theorem trim_two (a b : UInt8) : ∃ q, Lib.trimRightB [a, b] 48 = q ∧ q.length ≤ 2 ∧ (∀ x, x ∈ q → x = a ∨ x = b) ∧ (q ++ [48, 48]).take 2 = [a, b] := by
  by_cases hb : b = 48
  · subst hb
    by_cases ha : a = 48
    · subst ha
      exact ⟨[], by decide, by simp, by simp, rfl⟩
    · refine ⟨[a], ?_, by simp, by simp, rfl⟩
      have : (a == 48) = false := by simpa using ha
      simp [Lib.trimRightB, this]
  · refine ⟨[a, b], ?_, by simp, by simp, rfl⟩
    have : (b == 48) = false := by simpa using hb
    simp [Lib.trimRightB, this]

theorem decN_is (m : Nat) : ∃ p, decN m = Lib.decDigits (m / 1000) ++ 46 :: p ∧ 1 ≤ p.length ∧ p.length ≤ 3 ∧ p.all (fun c => digI c.toNat) = true ∧ numL (Lib.decDigits (m / 1000) ++ (p ++ [48, 48]).take 3) = (m : Int) := by
  obtain ⟨q, h1, h2, h3, h4⟩ := trim_two (UInt8.ofNat (48 + m % 1000 / 10 % 10)) (UInt8.ofNat (48 + m % 1000 % 10))
  refine ⟨UInt8.ofNat (48 + m % 1000 / 100) :: q, by rw [decN, h1], by simp, by simp; omega, ?_, ?_⟩
  · rw [List.all_cons, digit_digI _ (by omega), Bool.true_and, List.all_eq_true]
    intro x hx
    rcases h3 x hx with rfl | rfl
    · exact digit_digI _ (by omega)
    · exact digit_digI _ (by omega)
  · rw [List.cons_append, List.take_succ_cons, h4, numL_three, decDigits_num, digit_nat _ (by omega), digit_nat _ (by omega), digit_nat _ (by omega)]
    omega

theorem read_dec (m : Nat) (h : m < 1000000000000000) (t : List UInt8) (ht : ends t = true) :
    readL (decN m ++ t) = some ⟨2, (m : Int), [], (decN m).length⟩ ∧ readL (45 :: (decN m ++ t)) = some ⟨2, -(m : Int), [], (decN m).length + 1⟩ := by
  obtain ⟨p, e, p1, p3, pa, pn⟩ := decN_is m
  obtain ⟨c, r, ec, hc⟩ := decDigits_cons (m / 1000)
  rw [e]
  refine ⟨?_, ?_⟩
  · have := numTail_dec_of 0 1 (Lib.decDigits (m / 1000) ++ 46 :: p ++ t) (Lib.decDigits (m / 1000)) p t (by simp) (decDigits_all _) (decDigits_1 _) (decDigits_12 _ (by omega)) pa p1 p3 ht
    rw [pn] at this
    have h2 : readL (Lib.decDigits (m / 1000) ++ 46 :: p ++ t) = numTail 0 1 (Lib.decDigits (m / 1000) ++ 46 :: p ++ t) := by
      rw [ec]; exact readL_plus c _ hc
    rw [h2, this, Int.one_mul, List.length_append, List.length_cons]
    congr 2; omega
  · rw [readL_minus, numTail_dec_of 1 (-1) (45 :: (Lib.decDigits (m / 1000) ++ 46 :: p ++ t)) (Lib.decDigits (m / 1000)) p t (by simp) (decDigits_all _) (decDigits_1 _) (decDigits_12 _ (by omega)) pa p1 p3 ht, pn, Int.neg_one_mul, List.length_append, List.length_cons]
    congr 2; omega

theorem escI_cases (c : UInt8) (h : escI c.toNat = true) : c = 34 ∨ c = 92 := by
  have := all_bytes (fun c => !escI c.toNat || (c == 34 || c == 92)) (by decide +kernel) c
  rw [h] at this
  simpa using this
theorem escI_none (c : UInt8) (h : escI c.toNat = false) : c ≠ 34 ∧ c ≠ 92 := by
  refine ⟨?_, ?_⟩ <;> (intro e; subst e; exact absurd h (by decide))

theorem rsL_print (t : List UInt8) : ∀ (s acc : List UInt8) (m : Nat), prL s = true → rsL (escL s ++ 34 :: t) acc m = some ⟨3, 0, acc ++ s, m + (escL s).length + 1⟩
  | [], acc, m, _ => by rw [escL, List.nil_append, rsL_quote, List.append_nil]; rfl
  | c :: s, acc, m, h => by
    rw [prL, List.all_cons, Bool.and_eq_true] at h
    have ih := fun a b => rsL_print t s a b h.2
    unfold escL
    cases he : escI c.toNat
    · obtain ⟨n1, n2⟩ := escI_none c he
      rw [if_neg (by simp), List.cons_append, rsL_other _ _ _ _ n1 n2, if_pos h.1, ih]
      simp only [List.append_assoc, List.length_cons, List.cons_append, List.nil_append]
      congr 2; omega
    · rw [if_pos rfl, List.cons_append, List.cons_append, rsL_esc, if_pos he, ih]
      simp only [List.append_assoc, List.length_cons, List.cons_append, List.nil_append]
      congr 2; omega

theorem read_str (s t : List UInt8) (h : prL s = true) : readL (strT s ++ t) = some ⟨3, 0, s, (strT s).length⟩ := by
  have h1 : strT s ++ t = 34 :: (escL s ++ 34 :: t) := by simp [strT]
  have h2 : readL (34 :: (escL s ++ 34 :: t)) = readStrL (34 :: (escL s ++ 34 :: t)) := rfl
  rw [h1, h2, readStrL, List.drop_one, List.tail_cons, rsL_print t s [] 1 h, strT]
  simp only [List.length_cons, List.length_append, List.length_nil, List.nil_append]
  congr 2; omega

theorem btI_facts (c : UInt8) (h : btI c.toNat = true) : (c == 45 || digI c.toNat) = false ∧ (c == 34) = false := by
  have := all_bytes (fun c => !btI c.toNat || (!(c == 45 || digI c.toNat) && !(c == 34))) (by decide +kernel) c
  rw [h, Bool.not_true, Bool.false_or, Bool.and_eq_true, Bool.not_eq_true', Bool.not_eq_true'] at this
  exact this

theorem readL_tok (c : UInt8) (r : List UInt8) (h : btI c.toNat = true) : readL (c :: r) = some ⟨4, 0, (c :: r).take (tlen (c :: r)), tlen (c :: r)⟩ := by
  obtain ⟨h1, h2⟩ := btI_facts c h
  unfold readL
  simp only [h1, h2, h, if_true, if_false, Bool.false_eq_true]

theorem takeWhile_len (p : UInt8 → Bool) : ∀ l : List UInt8, (l.takeWhile p).length = l.length → l.all p = true
  | [], _ => rfl
  | c :: l, h => by
    rw [List.takeWhile_cons] at h
    split at h
    · rename_i hc
      simp only [List.length_cons, Nat.add_right_cancel_iff] at h
      rw [List.all_cons, hc, takeWhile_len p l h]; rfl
    · simp at h

theorem tlen_app (s t : List UInt8) (h0 : s ≠ []) (h : tlen s = s.length) (ht : ends t = true) : ∃ c r, s = c :: r ∧ btI c.toNat = true ∧ tlen (s ++ t) = s.length := by
  match s, h0 with
  | c :: r, _ =>
    rw [tlen] at h
    split at h
    · rename_i hc
      simp only [List.length_cons] at h
      have hr := takeWhile_len (fun c => ttI c.toNat) r (by omega)
      refine ⟨c, r, rfl, hc, ?_⟩
      rw [List.cons_append, tlen, if_pos hc, takeWhile_all _ r t hr]
      have : t.takeWhile (fun c => ttI c.toNat) = [] := by
        cases t with
        | nil => rfl
        | cons d t =>
          simp only [ends, Bool.not_eq_true'] at ht
          rw [List.takeWhile_cons, ht]; rfl
      rw [this, List.append_nil, List.length_cons]; omega
    · simp at h

theorem read_tok (s t : List UInt8) (h0 : s ≠ []) (h : tlen s = s.length) (ht : ends t = true) : readL (s ++ t) = some ⟨4, 0, s, s.length⟩ := by
  obtain ⟨c, r, rfl, hc, hl⟩ := tlen_app s t h0 h ht
  have := readL_tok c (r ++ t) hc
  rw [List.cons_append] at hl ⊢
  rw [this, hl, ← List.cons_append, List.take_left]

theorem read_bytes (s t : List UInt8) : readL (58 :: (encL s ++ [58]) ++ t) = some ⟨5, 0, s, (58 :: (encL s ++ [58])).length⟩ := by
  have h1 : 58 :: (encL s ++ [58]) ++ t = 58 :: (encL s ++ 58 :: t) := by simp
  have h2 : readL (58 :: (encL s ++ 58 :: t)) = readBytesL (58 :: (encL s ++ 58 :: t)) := rfl
  have h3 := indexByte_at 58 t (encL s) (fun x hx => encL_58 s x hx)
  rw [h1, h2, readBytesL, List.drop_one, List.tail_cons, h3, if_neg (by omega), Int.toNat_natCast, List.take_left, decL_encL]
  simp only [List.length_cons, List.length_append, List.length_nil]

theorem read_bool (n : Int) (h : n = 0 ∨ n = 1) (t : List UInt8) : readL (63 :: Lib.itoa n ++ t) = some ⟨6, n, [], (63 :: Lib.itoa n).length⟩ := by
  rcases h with rfl | rfl
  · have : Lib.itoa 0 = [48] := by simp [Lib.itoa, Lib.decDigits_one]
    rw [this]; rfl
  · have : Lib.itoa 1 = [49] := by simp [Lib.itoa, Lib.decDigits_one]
    rw [this]; rfl

/-- What was printed is read, whatever stands behind it that ends it. -/
theorem readL_text (k n : Int) (s t : List UInt8) (h : rightL k n s = true) (ht : ends t = true) : readL (textL k n s ++ t) = some ⟨k, n, s, (textL k n s).length⟩ := by
  rcases right_kind k n s h with ⟨rfl | rfl, rfl, g0, g1⟩ | ⟨rfl, rfl, g0⟩ | ⟨rfl, rfl, g0⟩ | ⟨rfl, rfl, g0, g1⟩ | ⟨rfl, rfl⟩
  · show readL (Lib.itoa n ++ t) = some ⟨1, n, [], (Lib.itoa n).length⟩
    obtain ⟨m, hm⟩ : ∃ m : Nat, n.natAbs = m := ⟨_, rfl⟩
    obtain ⟨r1, r2⟩ := read_int m (by omega) t ht
    by_cases hn : n < 0
    · have e1 : Lib.itoa n = 45 :: Lib.decDigits m := by rw [Lib.itoa, if_pos hn, hm]
      rw [e1, List.cons_append, r2, List.length_cons]
      congr 2; omega
    · have e1 : Lib.itoa n = Lib.decDigits m := by rw [Lib.itoa, if_neg hn, show n.toNat = m by omega]
      rw [e1, r1]
      congr 2; omega
  · show readL (decT n ++ t) = some ⟨2, n, [], (decT n).length⟩
    obtain ⟨m, hm⟩ : ∃ m : Nat, n.natAbs = m := ⟨_, rfl⟩
    obtain ⟨r1, r2⟩ := read_dec m (by omega) t ht
    by_cases hn : n < 0
    · have e1 : decT n = 45 :: decN m := by rw [decT, if_pos hn, hm]
      rw [e1, List.cons_append, r2, List.length_cons]
      congr 2; omega
    · have e1 : decT n = decN m := by rw [decT, if_neg hn, hm]
      rw [e1, r1]
      congr 2; omega
  · exact read_bool n g0 t
  · exact read_str s t g0
  · exact read_tok s t g0 g1 ht
  · exact read_bytes s t

end Go.Proofs.YtcjnigmklijjiaaDoor
