/- Plain facts about bare items: digits, base64 there and back. No program is walked. -/
import Derived.Test.YtcjnigmklijjiaaDoorBarN
import Derived.Test.YtcjnigmklijjiaaDoorBarH
namespace Go.Proofs.YtcjnigmklijjiaaDoor

theorem digit_nat (i : Nat) (h : i < 10) : (UInt8.ofNat (48 + i)).toNat = 48 + i := by
  rw [UInt8.toNat_ofNat']; omega

theorem digit_digI (i : Nat) (h : i < 10) : digI ((UInt8.ofNat (48 + i)).toNat : Int) = true := by
  rw [digit_nat i h]
  exact (digI_iff _).2 (by omega)

theorem decDigits_all (u : Nat) : (Lib.decDigits u).all (fun c => digI c.toNat) = true := by
  induction u using Nat.strongRecOn with
  | _ u ih =>
    by_cases h : u < 10
    · rw [Lib.decDigits, dif_pos h]
      simp only [List.all_cons, List.all_nil, Bool.and_true]
      exact digit_digI u h
    · rw [Lib.decDigits, dif_neg h, List.all_append, ih _ (by omega)]
      simp only [List.all_cons, List.all_nil, Bool.and_true, Bool.true_and]
      exact digit_digI _ (by omega)

theorem decDigits_num (u : Nat) : numL (Lib.decDigits u) = (u : Int) := by
  induction u using Nat.strongRecOn with
  | _ u ih =>
    by_cases h : u < 10
    · rw [Lib.decDigits, dif_pos h]
      simp only [numL, List.foldl_cons, List.foldl_nil]
      rw [digit_nat u h]; omega
    · rw [Lib.decDigits, dif_neg h, numL_snoc, ih _ (by omega), digit_nat _ (by omega)]
      omega

theorem nDigits_lt : ∀ (k u : Nat), 1 ≤ k → u < 10 ^ k → Lib.nDigits u ≤ k
  | 0, _, h, _ => absurd h (by omega)
  | k + 1, u, _, h => by
    by_cases h1 : u < 10
    · rw [Lib.nDigits_small h1]; omega
    · rw [Lib.nDigits_big h1]
      rcases Nat.eq_zero_or_pos k with rfl | hk
      · exact absurd h (by omega)
      · have := nDigits_lt k (u / 10) hk (by rw [Nat.pow_succ] at h; omega)
        omega

theorem decDigits_15 (u : Nat) (h : u < 1000000000000000) : (Lib.decDigits u).length ≤ 15 := by
  rw [Lib.decDigits_length]; exact nDigits_lt 15 u (by omega) h
theorem decDigits_12 (u : Nat) (h : u < 1000000000000) : (Lib.decDigits u).length ≤ 12 := by
  rw [Lib.decDigits_length]; exact nDigits_lt 12 u (by omega) h
theorem decDigits_1 (u : Nat) : 1 ≤ (Lib.decDigits u).length := by
  rw [Lib.decDigits_length]; exact Lib.nDigits_pos u

theorem numL_zeros (z : Nat) (l : List UInt8) : numL (List.replicate z 48 ++ l) = numL l := by
  induction z with
  | zero => rfl
  | succ z ih =>
    rw [List.replicate_succ, List.cons_append]
    unfold numL at ih ⊢
    rw [List.foldl_cons]
    exact ih

theorem numL_three (z : List UInt8) (a b c : UInt8) : numL (z ++ [a, b, c]) = 1000 * numL z + 100 * ((a.toNat : Int) - 48) + 10 * ((b.toNat : Int) - 48) + ((c.toNat : Int) - 48) := by
  simp only [numL, List.foldl_append, List.foldl_cons, List.foldl_nil]
  omega

/-- What may stand behind a value: nothing, or a byte that no token has. -/
def ends : List UInt8 → Bool
  | [] => true
  | c :: _ => !ttI c.toNat

theorem digit_tt (c : UInt8) : (!digI c.toNat || ttI c.toNat) = true := all_bytes (fun c => !digI c.toNat || ttI c.toNat) (by decide +kernel) c

theorem ldig_ends (t : List UInt8) (h : ends t = true) : ldig t = [] := by
  cases t with
  | nil => rfl
  | cons c t =>
    have := digit_tt c
    simp only [ends, Bool.not_eq_true'] at h
    rw [h, Bool.or_false, Bool.not_eq_true'] at this
    rw [ldig, List.takeWhile_cons, this]; rfl

theorem takeWhile_all (p : UInt8 → Bool) : ∀ (z t : List UInt8), z.all p = true → (z ++ t).takeWhile p = z ++ t.takeWhile p
  | [], _, _ => rfl
  | c :: z, t, h => by
    rw [List.all_cons, Bool.and_eq_true] at h
    rw [List.cons_append, List.takeWhile_cons, h.1, takeWhile_all p z t h.2]; rfl

theorem ldig_app (z t : List UInt8) (h : z.all (fun c => digI c.toNat) = true) (ht : ldig t = []) : ldig (z ++ t) = z := by
  rw [ldig, takeWhile_all _ _ _ h]
  rw [ldig] at ht
  rw [ht, List.append_nil]

theorem ends_not46 (t : List UInt8) (h : ends t = true) : t.head? ≠ some 46 := by
  cases t with
  | nil => simp
  | cons c t =>
    intro e
    simp only [List.head?_cons, Option.some.injEq] at e
    subst e
    exact absurd h (by rw [ends]; decide)

theorem numTail_of (b : Nat) (sg : Int) (l z t : List UInt8) (hd : l.drop b = z ++ t) (hz : z.all (fun c => digI c.toNat) = true) (h1 : 1 ≤ z.length) (h2 : z.length ≤ 15) (ht : ends t = true) :
    numTail b sg l = some ⟨1, sg * numL z, [], b + z.length⟩ := by
  refine numTail_int ?_ h1 h2 ?_
  · rw [hd, ldig_app z t hz (ldig_ends t ht)]
  · rw [← List.drop_drop, hd, List.drop_left]
    exact ends_not46 t ht

theorem numTail_dec_of (b : Nat) (sg : Int) (l z p t : List UInt8) (hd : l.drop b = z ++ 46 :: (p ++ t)) (hz : z.all (fun c => digI c.toNat) = true) (h1 : 1 ≤ z.length) (h2 : z.length ≤ 12)
    (hp : p.all (fun c => digI c.toNat) = true) (h3 : 1 ≤ p.length) (h4 : p.length ≤ 3) (ht : ends t = true) :
    numTail b sg l = some ⟨2, sg * numL (z ++ (p ++ [48, 48]).take 3), [], b + z.length + 1 + p.length⟩ := by
  refine numTail_dec ?_ h1 h2 ?_ ?_ h3 h4
  · rw [hd, ldig_app z _ hz]
    rw [ldig, List.takeWhile_cons]; rfl
  · rw [← List.drop_drop, hd, List.drop_left]; rfl
  · rw [Nat.add_assoc, ← List.drop_drop, hd, ← List.drop_drop, List.drop_left, List.drop_one, List.tail_cons, ldig_app p t hp (ldig_ends t ht)]

/-! ### base64 -/

/-- The characters ahead of what fills the last group up. -/
def encU : List UInt8 → List UInt8
  | x :: y :: z :: r => c0 x y z :: c1 x y z :: c2 x y z :: c3 x y z :: encU r
  | [x, y] => [c0 x y 0, c1 x y 0, c2 x y 0]
  | [x] => [c0 x 0 0, c1 x 0 0]
  | [] => []

theorem encL_pad : ∀ l : List UInt8, encL l = encU l ∨ encL l = encU l ++ [61] ∨ encL l = encU l ++ [61, 61]
  | [] => .inl rfl
  | [_] => .inr (.inr rfl)
  | [_, _] => .inr (.inl rfl)
  | x :: y :: z :: r => by
    rcases encL_pad r with h | h | h
    · exact .inl (by rw [encL, encU, h])
    · exact .inr (.inl (by rw [encL, encU, h]; rfl))
    · exact .inr (.inr (by rw [encL, encU, h]; rfl))

theorem alp_fin : ∀ i : Fin 64, alp i.val ≠ 61 ∧ alp i.val ≠ 58 ∧ valB (alp i.val) = i.val := by decide +kernel
theorem alp_none (n : Nat) (h : ¬ n < 64) : alp n = 0 := by
  rw [alp, List.getD_eq_getElem?_getD, List.getElem?_eq_none (by simpa [alphL] using h)]; rfl
theorem alp_61 (n : Nat) : alp n ≠ 61 ∧ alp n ≠ 58 := by
  by_cases h : n < 64
  · exact ⟨(alp_fin ⟨n, h⟩).1, (alp_fin ⟨n, h⟩).2.1⟩
  · rw [alp_none n h]; decide
theorem valB_alp (n : Nat) (h : n < 64) : valB (alp n) = n := (alp_fin ⟨n, h⟩).2.2

theorem encU_mem : ∀ (l : List UInt8) (c : UInt8), c ∈ encU l → c ≠ 61 ∧ c ≠ 58
  | [], _, h => by simp [encU] at h
  | [x], c, h => by
    simp only [encU, List.mem_cons, List.not_mem_nil, or_false] at h
    rcases h with rfl | rfl <;> exact alp_61 _
  | [x, y], c, h => by
    simp only [encU, List.mem_cons, List.not_mem_nil, or_false] at h
    rcases h with rfl | rfl | rfl <;> exact alp_61 _
  | x :: y :: z :: r, c, h => by
    simp only [encU, List.mem_cons] at h
    rcases h with rfl | rfl | rfl | rfl | h
    · exact alp_61 _
    · exact alp_61 _
    · exact alp_61 _
    · exact alp_61 _
    · exact encU_mem r c h

theorem trim_snoc (u : List UInt8) (c : UInt8) : Lib.trimRightB (u ++ [c]) c = Lib.trimRightB u c := by
  simp [Lib.trimRightB]
theorem trim_none (u : List UInt8) (c : UInt8) (h : ∀ x ∈ u, x ≠ c) : Lib.trimRightB u c = u := by
  rw [Lib.trimRightB_take u c u.length (Nat.le_refl _)]
  · simp
  · intro j b hj hb
    rw [List.getElem?_eq_none hj] at hb; cases hb
  · intro b _ hb
    exact h b (List.mem_of_getElem? hb)
theorem trim_enc (l : List UInt8) : Lib.trimRightB (encL l) 61 = encU l := by
  have h := trim_none (encU l) 61 (fun x hx => (encU_mem l x hx).1)
  rcases encL_pad l with e | e | e
  · rw [e, h]
  · rw [e, trim_snoc, h]
  · rw [e, show encU l ++ [61, 61] = (encU l ++ [61]) ++ [61] by simp, trim_snoc, trim_snoc, h]

theorem gN_four (a b c d : UInt8) : gN [a, b, c, d] 4 = ((valB a * 64 + valB b) * 64 + valB c) * 64 + valB d := by
  simp [gN, vAt]
theorem gN_three (a b c : UInt8) : gN [a, b, c] 4 = ((valB a * 64 + valB b) * 64 + valB c) * 64 := by
  simp [gN, vAt]
theorem gN_two (a b : UInt8) : gN [a, b] 4 = (valB a * 64 + valB b) * 64 * 64 := by
  simp [gN, vAt]

theorem val_c0 (x y z : UInt8) : valB (c0 x y z) = (65536 * x.toNat + 256 * y.toNat + z.toNat) / 262144 := by
  have h1 := x.toNat_lt
  have h2 := y.toNat_lt
  have h3 := z.toNat_lt
  exact valB_alp _ (by omega)
theorem val_c1 (x y z : UInt8) : valB (c1 x y z) = (65536 * x.toNat + 256 * y.toNat + z.toNat) / 4096 % 64 := valB_alp _ (by omega)
theorem val_c2 (x y z : UInt8) : valB (c2 x y z) = (65536 * x.toNat + 256 * y.toNat + z.toNat) / 64 % 64 := valB_alp _ (by omega)
theorem val_c3 (x y z : UInt8) : valB (c3 x y z) = (65536 * x.toNat + 256 * y.toNat + z.toNat) % 64 := valB_alp _ (by omega)

theorem by3_of (x y z : UInt8) (n : Nat) (h : n = 65536 * x.toNat + 256 * y.toNat + z.toNat) : by3 n = [x, y, z] := by
  have h1 := x.toNat_lt
  have h2 := y.toNat_lt
  have h3 := z.toNat_lt
  have e0 : UInt8.ofNat (n / 65536) = x := by
    apply UInt8.toNat_inj.1
    rw [UInt8.toNat_ofNat']; omega
  have e1 : UInt8.ofNat (n / 256) = y := by
    apply UInt8.toNat_inj.1
    rw [UInt8.toNat_ofNat']; omega
  have e2 : UInt8.ofNat n = z := by
    apply UInt8.toNat_inj.1
    rw [UInt8.toNat_ofNat']; omega
  rw [by3, b0, b1, b2, e0, e1, e2]

theorem z0 : (0 : UInt8).toNat = 0 := rfl

theorem rawG_encU : ∀ l : List UInt8, (∃ t, rawG (encU l) = l ++ t) ∧ (encU l).length * 3 / 4 = l.length
  | [] => ⟨⟨[], rfl⟩, rfl⟩
  | [x] => by
    have h1 := x.toNat_lt
    refine ⟨⟨[0, 0], ?_⟩, by simp [encU]⟩
    rw [encU, rawG_step _ (by simp)]
    simp only [List.take_succ_cons, List.take_nil, List.drop_succ_cons, List.drop_nil]
    rw [gN_two, by3_of x 0 0 _ (by rw [val_c0, val_c1, z0]; omega)]
    rfl
  | [x, y] => by
    have h1 := x.toNat_lt
    have h2 := y.toNat_lt
    refine ⟨⟨[0], ?_⟩, by simp [encU]⟩
    rw [encU, rawG_step _ (by simp)]
    simp only [List.take_succ_cons, List.take_nil, List.drop_succ_cons, List.drop_nil]
    rw [gN_three, by3_of x y 0 _ (by rw [val_c0, val_c1, val_c2, z0]; omega)]
    rfl
  | x :: y :: z :: r => by
    have h1 := x.toNat_lt
    have h2 := y.toNat_lt
    have h3 := z.toNat_lt
    obtain ⟨⟨t, ht⟩, hl⟩ := rawG_encU r
    refine ⟨⟨t, ?_⟩, ?_⟩
    · rw [encU, rawG_step _ (by simp)]
      simp only [List.take_succ_cons, List.take_zero, List.drop_succ_cons, List.drop_zero]
      rw [gN_four, by3_of x y z _ (by rw [val_c0, val_c1, val_c2, val_c3]; omega), ht]
      rfl
    · rw [encU]
      simp only [List.length_cons]
      omega

theorem rawL_encU (l : List UInt8) : rawL (encU l) = l := by
  obtain ⟨⟨t, ht⟩, hl⟩ := rawG_encU l
  rw [rawL, ht, hl, List.take_left]

/-- What was encoded is decoded. -/
theorem decL_encL (l : List UInt8) : decL (encL l) = some l := by
  rw [decL, trim_enc, rawL_encU, if_pos rfl]
theorem decL_some (s d : List UInt8) (h : decL s = some d) : encL d = s := by
  unfold decL at h
  split at h
  · rename_i e
    rw [← Option.some.inj h]; exact e
  · cases h

theorem encL_58 (l : List UInt8) (c : UInt8) (h : c ∈ encL l) : c ≠ 58 := by
  rcases encL_pad l with e | e | e
  all_goals
    rw [e] at h
    first
    | exact (encU_mem l c h).2
    | (rw [List.mem_append] at h
       rcases h with h | h
       · exact (encU_mem l c h).2
       · simp only [List.mem_cons, List.not_mem_nil, or_false, or_self] at h
         subst h
         decide)

theorem indexByte_at (c : UInt8) (t : List UInt8) : ∀ u : List UInt8, (∀ x ∈ u, x ≠ c) → Lib.indexByte (u ++ c :: t) c = (u.length : Int)
  | [], _ => by simp [Lib.indexByte]
  | x :: u, h => by
    have hx : (x == c) = false := by simpa using h x (List.mem_cons_self ..)
    have ih := indexByte_at c t u (fun y hy => h y (List.mem_cons_of_mem _ hy))
    have hn : ((u.length : Int) == -1) = false := by simp
    rw [List.cons_append, Lib.indexByte, hx, ih, hn]
    simp

end Go.Proofs.YtcjnigmklijjiaaDoor
