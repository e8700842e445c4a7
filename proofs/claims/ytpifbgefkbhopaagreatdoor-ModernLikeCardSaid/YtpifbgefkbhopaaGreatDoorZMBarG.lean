/- The contracts of bare.decimalText and bare.stringText. · The contract of bare.Print. · Plain facts about bare items: digits, base64 there and back. No program is walked. · Plain facts about bare items: what is printed is read, and what is read may be. No program is walked. · Plain facts about bare items: what is read may be, and lies within the text. No program is walked. · The contracts of item's functions on one byte and on keys: beginsKey, inKey, keyLength, Key, ReadKey, unspoken. · The parser's place in memory, and the contract of its take. · The contracts of the document's own functions (sculleryref03): first, later. · The contracts of the document's ReadKey and Key (sculleryref03). · The contracts of the document's own answers for one byte, and of its small functions (sculleryref01, sculleryref02). · The contract of the document's own Encode (sculleryref02). · The contract of the document's own answer to Right (sculleryref02). · The contract of the document's own readString (sculleryref02). · The cells of a boxed api.Bare, behind whatever was made later. · The contract of the document's own Print (sculleryref02). -/
import Derived.Test.YtpifbgefkbhopaaGreatDoorZMRawP
import Derived.Test.YtpifbgefkbhopaaGreatDoorZPowP
import Derived.Test.YtpifbgefkbhopaaGreatDoorZMBarC
import Derived.Lib.AppendIntMem
import Derived.Lib.ItoaNum
import Derived.Lib.TrimByte
import Derived.Laws.OwnMore
import Derived.Deep.QuietTactic
import Derived.BigQuiet
import Derived.IntWalk

namespace Go.Proofs.YtpifbgefkbhopaaGreatDoor
open Go.RowKit

theorem itoa_neg (n : Nat) (h : 0 < n) : Lib.itoa (-(n : Int)) = 45 :: Lib.decDigits n := by
  rw [Lib.itoa, if_pos (by omega)]; simp

theorem dec_thousand (m : Nat) (h : m < 1000) : Lib.decDigits (1000 + m) = [49, UInt8.ofNat (48 + m / 100), UInt8.ofNat (48 + m / 10 % 10), UInt8.ofNat (48 + m % 10)] := by
  rw [Lib.decDigits, dif_neg (by omega), Lib.decDigits, dif_neg (by omega), Lib.decDigits_two (by omega) (by omega)]
  rw [show (1000 + m) / 10 / 10 / 10 = 1 by omega, show (1000 + m) / 10 / 10 % 10 = m / 100 by omega, show (1000 + m) / 10 % 10 = m / 10 % 10 by omega, show (1000 + m) % 10 = m % 10 by omega]
  rfl

theorem nDigits_le (u : Nat) : Lib.nDigits u ≤ u + 1 := by
  induction u using Nat.strongRecOn with
  | _ u ih =>
    by_cases h : u < 10
    · rw [Lib.nDigits_small h]; omega
    · rw [Lib.nDigits_big h]
      have := ih (u / 10) (by omega)
      omega
theorem decDigits_le (u : Nat) : (Lib.decDigits u).length ≤ u + 1 := by rw [Lib.decDigits_length]; exact nDigits_le u

/-- The text of a decimal that is not below 0, in thousandths. -/
def decN (n : Nat) : List UInt8 := Lib.decDigits (n / 1000) ++ (46 :: UInt8.ofNat (48 + n % 1000 / 100) :: Lib.trimRightB [UInt8.ofNat (48 + n % 1000 / 10 % 10), UInt8.ofNat (48 + n % 1000 % 10)] 48)
def decT (n : Int) : List UInt8 := if n < 0 then 45 :: decN n.natAbs else decN n.natAbs

theorem encL_len : ∀ l : List UInt8, (encL l).length = (l.length + 2) / 3 * 4
  | [] => rfl
  | [_] => by simp [encL]
  | [_, _] => by simp [encL]
  | x :: y :: z :: r => by
    have := encL_len r
    simp only [encL, List.length_cons, this]
    omega

/-- A text with its quotes and backslashes escaped. -/
def escL : List UInt8 → List UInt8
  | [] => []
  | c :: r => if escI c.toNat then 92 :: c :: escL r else c :: escL r
def strT (l : List UInt8) : List UInt8 := 34 :: (escL l ++ [34])

theorem escL_len : ∀ l : List UInt8, (escL l).length ≤ 2 * l.length
  | [] => Nat.le_refl _
  | c :: r => by
    have := escL_len r
    unfold escL
    split <;> simp only [List.length_cons] <;> omega

end Go.Proofs.YtpifbgefkbhopaaGreatDoor

namespace Go.Proofs.YtpifbgefkbhopaaGreatDoor
open Go.RowKit

/-- The text of a bare item that is valid. -/
def textL (k n : Int) (s : List UInt8) : List UInt8 :=
  if k = 1 then Lib.itoa n else if k = 2 then decT n else if k = 3 then strT s else if k = 4 then s else if k = 5 then 58 :: (encL s ++ [58]) else 63 :: Lib.itoa n

def printL (k n : Int) (s : List UInt8) : Option (List UInt8) := if rightL k n s then some (textL k n s) else none

/-- A text and OK, or none and ErrForm. -/
def textV (o : Option (List UInt8)) : Value := match o with
  | some b => .tuple #[.string (strB b), .int .i64 0]
  | none => .tuple #[.string (strB []), .int .i64 2]

def printPost (v : Value) (w : World) (e : Ending) (w' : World) : Prop := e = .returned v ∧ Below w.heap.size w w'

theorem right_kind (k n : Int) (s : List UInt8) (h : rightL k n s = true) : ((k = 1 ∨ k = 2) ∧ s = [] ∧ -1000000000000000 < n ∧ n < 1000000000000000) ∨ (k = 6 ∧ s = [] ∧ (n = 0 ∨ n = 1)) ∨ (k = 3 ∧ n = 0 ∧ prL s = true) ∨ (k = 4 ∧ n = 0 ∧ s ≠ [] ∧ tlen s = s.length) ∨ (k = 5 ∧ n = 0) := by
  unfold rightL inNum at h
  split at h
  · rename_i hk
    simp at h
    exact .inl ⟨hk, h.1, h.2.1, h.2.2⟩
  · split at h
    · rename_i hk
      simp at h
      exact .inr (.inl ⟨hk, h.1, h.2⟩)
    · split at h
      · rename_i hk
        simp at h
        exact .inr (.inr (.inl ⟨hk, h.1, h.2⟩))
      · split at h
        · rename_i hk
          simp at h
          exact .inr (.inr (.inr (.inl ⟨hk, h.1, h.2.1, h.2.2⟩)))
        · split at h
          · rename_i hk
            simp at h
            exact .inr (.inr (.inr (.inr ⟨hk, h⟩)))
          · cases h

end Go.Proofs.YtpifbgefkbhopaaGreatDoor

namespace Go.Proofs.YtpifbgefkbhopaaGreatDoor

theorem digit_nat (i : Nat) (h : i < 10) : (UInt8.ofNat (48 + i)).toNat = 48 + i := by
  rw [UInt8.toNat_ofNat']; omega

theorem digit_digI (i : Nat) (h : i < 10) : digI ((UInt8.ofNat (48 + i)).toNat : Int) = true := by
  rw [digit_nat i h]
  exact (digI_iff _).2 (by omega)

theorem decDigits_all (u : Nat) : (Lib.decDigits u).all (fun c => digI c.toNat) = true := by
  induction u using Nat.strongRecOn with
  | _ u ih =>
    by_cases h : u < 10
    · rw [Lib.decDigits, dif_pos h]
      simp only [List.all_cons, List.all_nil, Bool.and_true]
      exact digit_digI u h
    · rw [Lib.decDigits, dif_neg h, List.all_append, ih _ (by omega)]
      simp only [List.all_cons, List.all_nil, Bool.and_true, Bool.true_and]
      exact digit_digI _ (by omega)

theorem decDigits_num (u : Nat) : numL (Lib.decDigits u) = (u : Int) := by
  induction u using Nat.strongRecOn with
  | _ u ih =>
    by_cases h : u < 10
    · rw [Lib.decDigits, dif_pos h]
      simp only [numL, List.foldl_cons, List.foldl_nil]
      rw [digit_nat u h]; omega
    · rw [Lib.decDigits, dif_neg h, numL_snoc, ih _ (by omega), digit_nat _ (by omega)]
      omega

theorem nDigits_lt : ∀ (k u : Nat), 1 ≤ k → u < 10 ^ k → Lib.nDigits u ≤ k
  | 0, _, h, _ => absurd h (by omega)
  | k + 1, u, _, h => by
    by_cases h1 : u < 10
    · rw [Lib.nDigits_small h1]; omega
    · rw [Lib.nDigits_big h1]
      rcases Nat.eq_zero_or_pos k with rfl | hk
      · exact absurd h (by omega)
      · have := nDigits_lt k (u / 10) hk (by rw [Nat.pow_succ] at h; omega)
        omega

theorem decDigits_15 (u : Nat) (h : u < 1000000000000000) : (Lib.decDigits u).length ≤ 15 := by
  rw [Lib.decDigits_length]; exact nDigits_lt 15 u (by omega) h
theorem decDigits_12 (u : Nat) (h : u < 1000000000000) : (Lib.decDigits u).length ≤ 12 := by
  rw [Lib.decDigits_length]; exact nDigits_lt 12 u (by omega) h
theorem decDigits_1 (u : Nat) : 1 ≤ (Lib.decDigits u).length := by
  rw [Lib.decDigits_length]; exact Lib.nDigits_pos u

theorem numL_zeros (z : Nat) (l : List UInt8) : numL (List.replicate z 48 ++ l) = numL l := by
  induction z with
  | zero => rfl
  | succ z ih =>
    rw [List.replicate_succ, List.cons_append]
    unfold numL at ih ⊢
    rw [List.foldl_cons]
    exact ih

theorem numL_three (z : List UInt8) (a b c : UInt8) : numL (z ++ [a, b, c]) = 1000 * numL z + 100 * ((a.toNat : Int) - 48) + 10 * ((b.toNat : Int) - 48) + ((c.toNat : Int) - 48) := by
  simp only [numL, List.foldl_append, List.foldl_cons, List.foldl_nil]
  omega

/-- What may stand behind a value: nothing, or a byte that no token has. -/
def ends : List UInt8 → Bool
  | [] => true
  | c :: _ => !ttI c.toNat

theorem digit_tt (c : UInt8) : (!digI c.toNat || ttI c.toNat) = true := all_bytes (fun c => !digI c.toNat || ttI c.toNat) (by decide +kernel) c

theorem ldig_ends (t : List UInt8) (h : ends t = true) : ldig t = [] := by
  cases t with
  | nil => rfl
  | cons c t =>
    have := digit_tt c
    simp only [ends, Bool.not_eq_true'] at h
    rw [h, Bool.or_false, Bool.not_eq_true'] at this
    rw [ldig, List.takeWhile_cons, this] <;> rfl

theorem takeWhile_all (p : UInt8 → Bool) : ∀ (z t : List UInt8), z.all p = true → (z ++ t).takeWhile p = z ++ t.takeWhile p
  | [], _, _ => rfl
  | c :: z, t, h => by
    rw [List.all_cons, Bool.and_eq_true] at h
    rw [List.cons_append, List.takeWhile_cons, h.1, takeWhile_all p z t h.2] <;> rfl

theorem ldig_app (z t : List UInt8) (h : z.all (fun c => digI c.toNat) = true) (ht : ldig t = []) : ldig (z ++ t) = z := by
  rw [ldig, takeWhile_all _ _ _ h]
  rw [ldig] at ht
  rw [ht, List.append_nil]

theorem ends_not46 (t : List UInt8) (h : ends t = true) : t.head? ≠ some 46 := by
  cases t with
  | nil => simp
  | cons c t =>
    intro e
    simp only [List.head?_cons, Option.some.injEq] at e
    subst e
    exact absurd h (by rw [ends]; decide)

theorem numTail_of (b : Nat) (sg : Int) (l z t : List UInt8) (hd : l.drop b = z ++ t) (hz : z.all (fun c => digI c.toNat) = true) (h1 : 1 ≤ z.length) (h2 : z.length ≤ 15) (ht : ends t = true) :
    numTail b sg l = some ⟨1, sg * numL z, [], b + z.length⟩ := by
  refine numTail_int ?_ h1 h2 ?_
  · rw [hd, ldig_app z t hz (ldig_ends t ht)]
  · rw [← List.drop_drop, hd, List.drop_left]
    exact ends_not46 t ht

theorem numTail_dec_of (b : Nat) (sg : Int) (l z p t : List UInt8) (hd : l.drop b = z ++ 46 :: (p ++ t)) (hz : z.all (fun c => digI c.toNat) = true) (h1 : 1 ≤ z.length) (h2 : z.length ≤ 12)
    (hp : p.all (fun c => digI c.toNat) = true) (h3 : 1 ≤ p.length) (h4 : p.length ≤ 3) (ht : ends t = true) :
    numTail b sg l = some ⟨2, sg * numL (z ++ (p ++ [48, 48]).take 3), [], b + z.length + 1 + p.length⟩ := by
  refine numTail_dec ?_ h1 h2 ?_ ?_ h3 h4
  · rw [hd, ldig_app z _ hz]
    rw [ldig, List.takeWhile_cons] <;> rfl
  · rw [← List.drop_drop, hd, List.drop_left] <;> rfl
  · rw [Nat.add_assoc, ← List.drop_drop, hd, ← List.drop_drop, List.drop_left, List.drop_one, List.tail_cons, ldig_app p t hp (ldig_ends t ht)]

/-! ### base64 -/

/-- The characters ahead of what fills the last group up. -/
def encU : List UInt8 → List UInt8
  | x :: y :: z :: r => c0 x y z :: c1 x y z :: c2 x y z :: c3 x y z :: encU r
  | [x, y] => [c0 x y 0, c1 x y 0, c2 x y 0]
  | [x] => [c0 x 0 0, c1 x 0 0]
  | [] => []

theorem encL_pad : ∀ l : List UInt8, encL l = encU l ∨ encL l = encU l ++ [61] ∨ encL l = encU l ++ [61, 61]
  | [] => .inl rfl
  | [_] => .inr (.inr rfl)
  | [_, _] => .inr (.inl rfl)
  | x :: y :: z :: r => by
    rcases encL_pad r with h | h | h
    · exact .inl (by rw [encL, encU, h])
    · exact .inr (.inl (by rw [encL, encU, h] <;> rfl))
    · exact .inr (.inr (by rw [encL, encU, h] <;> rfl))

theorem alp_fin : ∀ i : Fin 64, alp i.val ≠ 61 ∧ alp i.val ≠ 58 ∧ valB (alp i.val) = i.val := by decide +kernel
theorem alp_none (n : Nat) (h : ¬ n < 64) : alp n = 0 := by
  rw [alp, List.getD_eq_getElem?_getD, List.getElem?_eq_none (by simpa [alphL] using h)] <;> rfl
theorem alp_61 (n : Nat) : alp n ≠ 61 ∧ alp n ≠ 58 := by
  by_cases h : n < 64
  · exact ⟨(alp_fin ⟨n, h⟩).1, (alp_fin ⟨n, h⟩).2.1⟩
  · rw [alp_none n h]; decide
theorem valB_alp (n : Nat) (h : n < 64) : valB (alp n) = n := (alp_fin ⟨n, h⟩).2.2

theorem encU_mem : ∀ (l : List UInt8) (c : UInt8), c ∈ encU l → c ≠ 61 ∧ c ≠ 58
  | [], _, h => by simp [encU] at h
  | [x], c, h => by
    simp only [encU, List.mem_cons, List.not_mem_nil, or_false] at h
    rcases h with rfl | rfl <;> exact alp_61 _
  | [x, y], c, h => by
    simp only [encU, List.mem_cons, List.not_mem_nil, or_false] at h
    rcases h with rfl | rfl | rfl <;> exact alp_61 _
  | x :: y :: z :: r, c, h => by
    simp only [encU, List.mem_cons] at h
    rcases h with rfl | rfl | rfl | rfl | h
    · exact alp_61 _
    · exact alp_61 _
    · exact alp_61 _
    · exact alp_61 _
    · exact encU_mem r c h

theorem trim_snoc (u : List UInt8) (c : UInt8) : Lib.trimRightB (u ++ [c]) c = Lib.trimRightB u c := by
  simp [Lib.trimRightB]
theorem trim_none (u : List UInt8) (c : UInt8) (h : ∀ x ∈ u, x ≠ c) : Lib.trimRightB u c = u := by
  rw [Lib.trimRightB_take u c u.length (Nat.le_refl _)]
  · simp
  · intro j b hj hb
    rw [List.getElem?_eq_none hj] at hb; cases hb
  · intro b _ hb
    exact h b (List.mem_of_getElem? hb)
theorem trim_enc (l : List UInt8) : Lib.trimRightB (encL l) 61 = encU l := by
  have h := trim_none (encU l) 61 (fun x hx => (encU_mem l x hx).1)
  rcases encL_pad l with e | e | e
  · rw [e, h]
  · rw [e, trim_snoc, h]
  · rw [e, show encU l ++ [61, 61] = (encU l ++ [61]) ++ [61] by simp, trim_snoc, trim_snoc, h]

theorem gN_four (a b c d : UInt8) : gN [a, b, c, d] 4 = ((valB a * 64 + valB b) * 64 + valB c) * 64 + valB d := by
  simp [gN, vAt]
theorem gN_three (a b c : UInt8) : gN [a, b, c] 4 = ((valB a * 64 + valB b) * 64 + valB c) * 64 := by
  simp [gN, vAt]
theorem gN_two (a b : UInt8) : gN [a, b] 4 = (valB a * 64 + valB b) * 64 * 64 := by
  simp [gN, vAt]

theorem val_c0 (x y z : UInt8) : valB (c0 x y z) = (65536 * x.toNat + 256 * y.toNat + z.toNat) / 262144 := by
  have h1 := x.toNat_lt
  have h2 := y.toNat_lt
  have h3 := z.toNat_lt
  exact valB_alp _ (by omega)
theorem val_c1 (x y z : UInt8) : valB (c1 x y z) = (65536 * x.toNat + 256 * y.toNat + z.toNat) / 4096 % 64 := valB_alp _ (by omega)
theorem val_c2 (x y z : UInt8) : valB (c2 x y z) = (65536 * x.toNat + 256 * y.toNat + z.toNat) / 64 % 64 := valB_alp _ (by omega)
theorem val_c3 (x y z : UInt8) : valB (c3 x y z) = (65536 * x.toNat + 256 * y.toNat + z.toNat) % 64 := valB_alp _ (by omega)

theorem by3_of (x y z : UInt8) (n : Nat) (h : n = 65536 * x.toNat + 256 * y.toNat + z.toNat) : by3 n = [x, y, z] := by
  have h1 := x.toNat_lt
  have h2 := y.toNat_lt
  have h3 := z.toNat_lt
  have e0 : UInt8.ofNat (n / 65536) = x := by
    apply UInt8.toNat_inj.1
    rw [UInt8.toNat_ofNat']; omega
  have e1 : UInt8.ofNat (n / 256) = y := by
    apply UInt8.toNat_inj.1
    rw [UInt8.toNat_ofNat']; omega
  have e2 : UInt8.ofNat n = z := by
    apply UInt8.toNat_inj.1
    rw [UInt8.toNat_ofNat']; omega
  rw [by3, b0, b1, b2, e0, e1, e2]

theorem z0 : (0 : UInt8).toNat = 0 := rfl

theorem rawG_encU : ∀ l : List UInt8, (∃ t, rawG (encU l) = l ++ t) ∧ (encU l).length * 3 / 4 = l.length
  | [] => ⟨⟨[], rfl⟩, rfl⟩
  | [x] => by
    have h1 := x.toNat_lt
    refine ⟨⟨[0, 0], ?_⟩, by simp [encU]⟩
    rw [encU, rawG_step _ (by simp)]
    simp only [List.take_succ_cons, List.take_nil, List.drop_succ_cons, List.drop_nil]
    rw [gN_two, by3_of x 0 0 _ (by rw [val_c0, val_c1, z0]; omega)]
    rfl
  | [x, y] => by
    have h1 := x.toNat_lt
    have h2 := y.toNat_lt
    refine ⟨⟨[0], ?_⟩, by simp [encU]⟩
    rw [encU, rawG_step _ (by simp)]
    simp only [List.take_succ_cons, List.take_nil, List.drop_succ_cons, List.drop_nil]
    rw [gN_three, by3_of x y 0 _ (by rw [val_c0, val_c1, val_c2, z0]; omega)]
    rfl
  | x :: y :: z :: r => by
    have h1 := x.toNat_lt
    have h2 := y.toNat_lt
    have h3 := z.toNat_lt
    obtain ⟨⟨t, ht⟩, hl⟩ := rawG_encU r
    refine ⟨⟨t, ?_⟩, ?_⟩
    · rw [encU, rawG_step _ (by simp)]
      simp only [List.take_succ_cons, List.take_zero, List.drop_succ_cons, List.drop_zero]
      rw [gN_four, by3_of x y z _ (by rw [val_c0, val_c1, val_c2, val_c3]; omega), ht]
      rfl
    · rw [encU]
      simp only [List.length_cons]
      omega

theorem rawL_encU (l : List UInt8) : rawL (encU l) = l := by
  obtain ⟨⟨t, ht⟩, hl⟩ := rawG_encU l
  rw [rawL, ht, hl, List.take_left]

/-- What was encoded is decoded. -/
theorem decL_encL (l : List UInt8) : decL (encL l) = some l := by
  rw [decL, trim_enc, rawL_encU, if_pos rfl]
theorem decL_some (s d : List UInt8) (h : decL s = some d) : encL d = s := by
  unfold decL at h
  split at h
  · rename_i e
    rw [← Option.some.inj h]; exact e
  · cases h

theorem encL_58 (l : List UInt8) (c : UInt8) (h : c ∈ encL l) : c ≠ 58 := by
  rcases encL_pad l with e | e | e
  all_goals
    rw [e] at h
    first
    | exact (encU_mem l c h).2
    | (rw [List.mem_append] at h
       rcases h with h | h
       · exact (encU_mem l c h).2
       · simp only [List.mem_cons, List.not_mem_nil, or_false, or_self] at h
         subst h
         decide)

theorem indexByte_at (c : UInt8) (t : List UInt8) : ∀ u : List UInt8, (∀ x ∈ u, x ≠ c) → Lib.indexByte (u ++ c :: t) c = (u.length : Int)
  | [], _ => by simp [Lib.indexByte]
  | x :: u, h => by
    have hx : (x == c) = false := by simpa using h x (List.mem_cons_self ..)
    have ih := indexByte_at c t u (fun y hy => h y (List.mem_cons_of_mem _ hy))
    have hn : ((u.length : Int) == -1) = false := by simp
    rw [List.cons_append, Lib.indexByte, hx, ih, hn]
    simp

end Go.Proofs.YtpifbgefkbhopaaGreatDoor

namespace Go.Proofs.YtpifbgefkbhopaaGreatDoor

theorem readL_num (c : UInt8) (r : List UInt8) (h : c = 45 ∨ digI c.toNat = true) : readL (c :: r) = readNumL (c :: r) := by
  unfold readL
  rcases h with rfl | h
  · rfl
  · simp only [h, Bool.or_true, if_true]

theorem decDigits_cons (m : Nat) : ∃ c r, Lib.decDigits m = c :: r ∧ digI c.toNat = true := by
  have h1 := decDigits_1 m
  have h2 := decDigits_all m
  match h : Lib.decDigits m with
  | [] => rw [h] at h1; simp at h1
  | c :: r =>
    rw [h, List.all_cons, Bool.and_eq_true] at h2
    exact ⟨c, r, rfl, h2.1⟩

theorem digit_not45 (c : UInt8) (h : digI c.toNat = true) : c ≠ 45 := by
  intro e; subst e; exact absurd h (by decide)

/-- A number behind its sign, where digits come first. -/
theorem readL_plus (c : UInt8) (r : List UInt8) (h : digI c.toNat = true) : readL (c :: r) = numTail 0 1 (c :: r) := by
  rw [readL_num c r (.inr h), readNumL, if_neg]
  simpa using digit_not45 c h
theorem readL_minus (r : List UInt8) : readL (45 :: r) = numTail 1 (-1) (45 :: r) := by
  rw [readL_num 45 r (.inl rfl), readNumL, if_pos (by simp)]

theorem read_int (m : Nat) (h : m < 1000000000000000) (t : List UInt8) (ht : ends t = true) :
    readL (Lib.decDigits m ++ t) = some ⟨1, (m : Int), [], (Lib.decDigits m).length⟩ ∧ readL (45 :: (Lib.decDigits m ++ t)) = some ⟨1, -(m : Int), [], (Lib.decDigits m).length + 1⟩ := by
  refine ⟨?_, ?_⟩
  · obtain ⟨c, r, e, hc⟩ := decDigits_cons m
    have := numTail_of 0 1 (Lib.decDigits m ++ t) (Lib.decDigits m) t (List.drop_zero ..) (decDigits_all m) (decDigits_1 m) (decDigits_15 m h) ht
    rw [decDigits_num] at this
    rw [← Int.one_mul (m : Int), ← Nat.zero_add (Lib.decDigits m).length, ← this, e]
    exact readL_plus c (r ++ t) hc
  · rw [readL_minus, numTail_of 1 (-1) (45 :: (Lib.decDigits m ++ t)) (Lib.decDigits m) t rfl (decDigits_all m) (decDigits_1 m) (decDigits_15 m h) ht, decDigits_num, Nat.add_comm, Int.neg_one_mul]

theorem trim_two (a b : UInt8) : ∃ q, Lib.trimRightB [a, b] 48 = q ∧ q.length ≤ 2 ∧ (∀ x, x ∈ q → x = a ∨ x = b) ∧ (q ++ [48, 48]).take 2 = [a, b] := by
  by_cases hb : b = 48
  · subst hb
    by_cases ha : a = 48
    · subst ha
      exact ⟨[], by decide, by simp, by simp, rfl⟩
    · refine ⟨[a], ?_, by simp, by simp, rfl⟩
      have : (a == 48) = false := by simpa using ha
      simp [Lib.trimRightB, this]
  · refine ⟨[a, b], ?_, by simp, by simp, rfl⟩
    have : (b == 48) = false := by simpa using hb
    simp [Lib.trimRightB, this]

theorem decN_is (m : Nat) : ∃ p, decN m = Lib.decDigits (m / 1000) ++ 46 :: p ∧ 1 ≤ p.length ∧ p.length ≤ 3 ∧ p.all (fun c => digI c.toNat) = true ∧ numL (Lib.decDigits (m / 1000) ++ (p ++ [48, 48]).take 3) = (m : Int) := by
  obtain ⟨q, h1, h2, h3, h4⟩ := trim_two (UInt8.ofNat (48 + m % 1000 / 10 % 10)) (UInt8.ofNat (48 + m % 1000 % 10))
  refine ⟨UInt8.ofNat (48 + m % 1000 / 100) :: q, by rw [decN, h1], by simp, by simp; omega, ?_, ?_⟩
  · rw [List.all_cons, digit_digI _ (by omega), Bool.true_and, List.all_eq_true]
    intro x hx
    rcases h3 x hx with rfl | rfl
    · exact digit_digI _ (by omega)
    · exact digit_digI _ (by omega)
  · rw [List.cons_append, List.take_succ_cons, h4, numL_three, decDigits_num, digit_nat _ (by omega), digit_nat _ (by omega), digit_nat _ (by omega)]
    omega

theorem read_dec (m : Nat) (h : m < 1000000000000000) (t : List UInt8) (ht : ends t = true) :
    readL (decN m ++ t) = some ⟨2, (m : Int), [], (decN m).length⟩ ∧ readL (45 :: (decN m ++ t)) = some ⟨2, -(m : Int), [], (decN m).length + 1⟩ := by
  obtain ⟨p, e, p1, p3, pa, pn⟩ := decN_is m
  obtain ⟨c, r, ec, hc⟩ := decDigits_cons (m / 1000)
  rw [e]
  refine ⟨?_, ?_⟩
  · have := numTail_dec_of 0 1 (Lib.decDigits (m / 1000) ++ 46 :: p ++ t) (Lib.decDigits (m / 1000)) p t (by simp) (decDigits_all _) (decDigits_1 _) (decDigits_12 _ (by omega)) pa p1 p3 ht
    rw [pn] at this
    have h2 : readL (Lib.decDigits (m / 1000) ++ 46 :: p ++ t) = numTail 0 1 (Lib.decDigits (m / 1000) ++ 46 :: p ++ t) := by
      rw [ec]; exact readL_plus c _ hc
    rw [h2, this, Int.one_mul, List.length_append, List.length_cons]
    congr 2; omega
  · rw [readL_minus, numTail_dec_of 1 (-1) (45 :: (Lib.decDigits (m / 1000) ++ 46 :: p ++ t)) (Lib.decDigits (m / 1000)) p t (by simp) (decDigits_all _) (decDigits_1 _) (decDigits_12 _ (by omega)) pa p1 p3 ht, pn, Int.neg_one_mul, List.length_append, List.length_cons]
    congr 2; omega

theorem escI_cases (c : UInt8) (h : escI c.toNat = true) : c = 34 ∨ c = 92 := by
  have := all_bytes (fun c => !escI c.toNat || (c == 34 || c == 92)) (by decide +kernel) c
  rw [h] at this
  simpa using this
theorem escI_none (c : UInt8) (h : escI c.toNat = false) : c ≠ 34 ∧ c ≠ 92 := by
  refine ⟨?_, ?_⟩ <;> (intro e; subst e; exact absurd h (by decide))

theorem rsL_print (t : List UInt8) : ∀ (s acc : List UInt8) (m : Nat), prL s = true → rsL (escL s ++ 34 :: t) acc m = some ⟨3, 0, acc ++ s, m + (escL s).length + 1⟩
  | [], acc, m, _ => by rw [escL, List.nil_append, rsL_quote, List.append_nil] <;> rfl
  | c :: s, acc, m, h => by
    rw [prL, List.all_cons, Bool.and_eq_true] at h
    have ih := fun a b => rsL_print t s a b h.2
    unfold escL
    cases he : escI c.toNat
    · obtain ⟨n1, n2⟩ := escI_none c he
      rw [if_neg (by simp), List.cons_append, rsL_other _ _ _ _ n1 n2, if_pos h.1, ih]
      simp only [List.append_assoc, List.length_cons, List.cons_append, List.nil_append]
      congr 2; omega
    · rw [if_pos rfl, List.cons_append, List.cons_append, rsL_esc, if_pos he, ih]
      simp only [List.append_assoc, List.length_cons, List.cons_append, List.nil_append]
      congr 2; omega

theorem read_str (s t : List UInt8) (h : prL s = true) : readL (strT s ++ t) = some ⟨3, 0, s, (strT s).length⟩ := by
  have h1 : strT s ++ t = 34 :: (escL s ++ 34 :: t) := by simp [strT]
  have h2 : readL (34 :: (escL s ++ 34 :: t)) = readStrL (34 :: (escL s ++ 34 :: t)) := rfl
  rw [h1, h2, readStrL, List.drop_one, List.tail_cons, rsL_print t s [] 1 h, strT]
  simp only [List.length_cons, List.length_append, List.length_nil, List.nil_append]
  congr 2; omega

theorem btI_facts (c : UInt8) (h : btI c.toNat = true) : (c == 45 || digI c.toNat) = false ∧ (c == 34) = false := by
  have := all_bytes (fun c => !btI c.toNat || (!(c == 45 || digI c.toNat) && !(c == 34))) (by decide +kernel) c
  rw [h, Bool.not_true, Bool.false_or, Bool.and_eq_true, Bool.not_eq_true', Bool.not_eq_true'] at this
  exact this

theorem readL_tok (c : UInt8) (r : List UInt8) (h : btI c.toNat = true) : readL (c :: r) = some ⟨4, 0, (c :: r).take (tlen (c :: r)), tlen (c :: r)⟩ := by
  obtain ⟨h1, h2⟩ := btI_facts c h
  unfold readL
  simp only [h1, h2, h, if_true, if_false, Bool.false_eq_true]

theorem takeWhile_len (p : UInt8 → Bool) : ∀ l : List UInt8, (l.takeWhile p).length = l.length → l.all p = true
  | [], _ => rfl
  | c :: l, h => by
    rw [List.takeWhile_cons] at h
    split at h
    · rename_i hc
      simp only [List.length_cons, Nat.add_right_cancel_iff] at h
      rw [List.all_cons, hc, takeWhile_len p l h] <;> rfl
    · simp at h

theorem tlen_app (s t : List UInt8) (h0 : s ≠ []) (h : tlen s = s.length) (ht : ends t = true) : ∃ c r, s = c :: r ∧ btI c.toNat = true ∧ tlen (s ++ t) = s.length := by
  match s, h0 with
  | c :: r, _ =>
    rw [tlen] at h
    split at h
    · rename_i hc
      simp only [List.length_cons] at h
      have hr := takeWhile_len (fun c => ttI c.toNat) r (by omega)
      refine ⟨c, r, rfl, hc, ?_⟩
      rw [List.cons_append, tlen, if_pos hc, takeWhile_all _ r t hr]
      have : t.takeWhile (fun c => ttI c.toNat) = [] := by
        cases t with
        | nil => rfl
        | cons d t =>
          simp only [ends, Bool.not_eq_true'] at ht
          rw [List.takeWhile_cons, ht] <;> rfl
      rw [this, List.append_nil, List.length_cons]; omega
    · simp at h

theorem read_tok (s t : List UInt8) (h0 : s ≠ []) (h : tlen s = s.length) (ht : ends t = true) : readL (s ++ t) = some ⟨4, 0, s, s.length⟩ := by
  obtain ⟨c, r, rfl, hc, hl⟩ := tlen_app s t h0 h ht
  have := readL_tok c (r ++ t) hc
  rw [List.cons_append] at hl ⊢
  rw [this, hl, ← List.cons_append, List.take_left]

theorem read_bytes (s t : List UInt8) : readL (58 :: (encL s ++ [58]) ++ t) = some ⟨5, 0, s, (58 :: (encL s ++ [58])).length⟩ := by
  have h1 : 58 :: (encL s ++ [58]) ++ t = 58 :: (encL s ++ 58 :: t) := by simp
  have h2 : readL (58 :: (encL s ++ 58 :: t)) = readBytesL (58 :: (encL s ++ 58 :: t)) := rfl
  have h3 := indexByte_at 58 t (encL s) (fun x hx => encL_58 s x hx)
  rw [h1, h2, readBytesL, List.drop_one, List.tail_cons, h3, if_neg (by omega), Int.toNat_natCast, List.take_left, decL_encL]
  simp only [List.length_cons, List.length_append, List.length_nil]

theorem read_bool (n : Int) (h : n = 0 ∨ n = 1) (t : List UInt8) : readL (63 :: Lib.itoa n ++ t) = some ⟨6, n, [], (63 :: Lib.itoa n).length⟩ := by
  rcases h with rfl | rfl
  · have : Lib.itoa 0 = [48] := by simp [Lib.itoa, Lib.decDigits_one]
    rw [this] <;> rfl
  · have : Lib.itoa 1 = [49] := by simp [Lib.itoa, Lib.decDigits_one]
    rw [this] <;> rfl

/-- What was printed is read, whatever stands behind it that ends it. -/
theorem readL_text (k n : Int) (s t : List UInt8) (h : rightL k n s = true) (ht : ends t = true) : readL (textL k n s ++ t) = some ⟨k, n, s, (textL k n s).length⟩ := by
  rcases right_kind k n s h with ⟨rfl | rfl, rfl, g0, g1⟩ | ⟨rfl, rfl, g0⟩ | ⟨rfl, rfl, g0⟩ | ⟨rfl, rfl, g0, g1⟩ | ⟨rfl, rfl⟩
  · show readL (Lib.itoa n ++ t) = some ⟨1, n, [], (Lib.itoa n).length⟩
    obtain ⟨m, hm⟩ : ∃ m : Nat, n.natAbs = m := ⟨_, rfl⟩
    obtain ⟨r1, r2⟩ := read_int m (by omega) t ht
    by_cases hn : n < 0
    · have e1 : Lib.itoa n = 45 :: Lib.decDigits m := by rw [Lib.itoa, if_pos hn, hm]
      rw [e1, List.cons_append, r2, List.length_cons]
      congr 2; omega
    · have e1 : Lib.itoa n = Lib.decDigits m := by rw [Lib.itoa, if_neg hn, show n.toNat = m by omega]
      rw [e1, r1]
      congr 2; omega
  · show readL (decT n ++ t) = some ⟨2, n, [], (decT n).length⟩
    obtain ⟨m, hm⟩ : ∃ m : Nat, n.natAbs = m := ⟨_, rfl⟩
    obtain ⟨r1, r2⟩ := read_dec m (by omega) t ht
    by_cases hn : n < 0
    · have e1 : decT n = 45 :: decN m := by rw [decT, if_pos hn, hm]
      rw [e1, List.cons_append, r2, List.length_cons]
      congr 2; omega
    · have e1 : decT n = decN m := by rw [decT, if_neg hn, hm]
      rw [e1, r1]
      congr 2; omega
  · exact read_bool n g0 t
  · exact read_str s t g0
  · exact read_tok s t g0 g1 ht
  · exact read_bytes s t

end Go.Proofs.YtpifbgefkbhopaaGreatDoor

namespace Go.Proofs.YtpifbgefkbhopaaGreatDoor

theorem numTail_right (b : Nat) (sg : Int) (l : List UInt8) (g : Got) (hb : (b = 0 ∧ sg = 1) ∨ (b = 1 ∧ sg = -1)) (hl : b ≤ l.length) (h : numTail b sg l = some g) :
    rightL g.k g.n g.s = true ∧ 1 ≤ g.m ∧ g.m ≤ l.length ∧ g.s = [] := by
  have za := ldig_all (l.drop b)
  have zl := ldig_len_le (l.drop b)
  rw [List.length_drop] at zl
  unfold numTail at h
  generalize ldig (l.drop b) = z at *
  split at h
  · cases h
  · rename_i hz
    split at h
    · have pa := ldig_all (l.drop (b + z.length + 1))
      have pl := ldig_len_le (l.drop (b + z.length + 1))
      rw [List.length_drop] at pl
      generalize ldig (l.drop (b + z.length + 1)) = p at *
      split at h
      · cases h
      · rename_i hp
        obtain rfl := Option.some.inj h
        obtain ⟨n0, n1⟩ := numL_in (z ++ (p ++ [48, 48]).take 3) (by rw [List.all_append, za, pad_all p pa] <;> rfl) (by rw [List.length_append, List.length_take]; omega)
        obtain ⟨s0, s1⟩ := i64_mul_sign b sg _ hb n0 n1
        refine ⟨?_, ?_, ?_, rfl⟩
        · rw [right_num _ _ _ (.inr rfl), inNum]
          simp [s0, s1]
        · show 1 ≤ _ + 1 + p.length
          omega
        · show _ + 1 + p.length ≤ l.length
          omega
    · obtain rfl := Option.some.inj h
      obtain ⟨n0, n1⟩ := numL_in z za (by omega)
      obtain ⟨s0, s1⟩ := i64_mul_sign b sg _ hb n0 n1
      refine ⟨?_, ?_, ?_, rfl⟩
      · rw [right_num _ _ _ (.inl rfl), inNum]
        simp [s0, s1]
      · show 1 ≤ b + z.length
        omega
      · show b + z.length ≤ l.length
        omega

theorem readNumL_right (l : List UInt8) (g : Got) (h : readNumL l = some g) : rightL g.k g.n g.s = true ∧ 1 ≤ g.m ∧ g.m ≤ l.length ∧ g.s = [] := by
  unfold readNumL at h
  split at h
  · rename_i hh
    exact numTail_right 1 (-1) l g (.inr ⟨rfl, rfl⟩) (by cases l with | nil => simp at hh | cons c r => simp) h
  · exact numTail_right 0 1 l g (.inl ⟨rfl, rfl⟩) (Nat.zero_le _) h

theorem esc_pr (c : UInt8) (h : escI c.toNat = true) : prI c.toNat = true := by
  have := all_bytes (fun c => !escI c.toNat || prI c.toNat) (by decide +kernel) c
  rw [h] at this
  exact this

theorem prL_snoc (acc : List UInt8) (c : UInt8) (h1 : prL acc = true) (h2 : prI c.toNat = true) : prL (acc ++ [c]) = true := by
  rw [prL] at *
  rw [List.all_append, h1, Bool.true_and, List.all_cons, h2] <;> rfl

theorem rsL_right : ∀ (l acc : List UInt8) (m : Nat) (g : Got), prL acc = true → rsL l acc m = some g → g.k = 3 ∧ g.n = 0 ∧ prL g.s = true ∧ m + 1 ≤ g.m ∧ g.m ≤ m + l.length ∧ g.s.length ≤ acc.length + l.length
  | [], _, _, _, _, h => by rw [rsL.eq_def] at h; cases h
  | [c], acc, m, g, ha, h => by
    by_cases h1 : c = 34
    · subst h1
      rw [rsL_quote] at h
      obtain rfl := Option.some.inj h
      exact ⟨rfl, rfl, ha, Nat.le_refl _, by simp, by simp⟩
    · by_cases h2 : c = 92
      · subst h2
        rw [rsL_esc_end] at h; cases h
      · rw [rsL_other _ _ _ _ h1 h2] at h
        split at h
        · rw [rsL.eq_def] at h; cases h
        · cases h
  | c :: d :: q, acc, m, g, ha, h => by
    by_cases h1 : c = 34
    · subst h1
      rw [rsL_quote] at h
      obtain rfl := Option.some.inj h
      exact ⟨rfl, rfl, ha, Nat.le_refl _, by simp, by simp⟩
    · by_cases h2 : c = 92
      · subst h2
        rw [rsL_esc] at h
        split at h
        · rename_i he
          obtain ⟨r1, r2, r3, r4, r5, r6⟩ := rsL_right q (acc ++ [d]) (m + 2) g (prL_snoc acc d ha (esc_pr d he)) h
          simp only [List.length_append, List.length_cons, List.length_nil] at r6 ⊢
          exact ⟨r1, r2, r3, by omega, by omega, by omega⟩
        · cases h
      · rw [rsL_other _ _ _ _ h1 h2] at h
        split at h
        · rename_i he
          obtain ⟨r1, r2, r3, r4, r5, r6⟩ := rsL_right (d :: q) (acc ++ [c]) (m + 1) g (prL_snoc acc c ha he) h
          simp only [List.length_append, List.length_cons, List.length_nil] at r5 r6 ⊢
          exact ⟨r1, r2, r3, by omega, by omega, by omega⟩
        · cases h

theorem takeWhile_again (p : UInt8 → Bool) : ∀ l : List UInt8, (l.takeWhile p).takeWhile p = l.takeWhile p
  | [] => rfl
  | c :: l => by
    rw [List.takeWhile_cons]
    split
    · rename_i h
      rw [List.takeWhile_cons, h, takeWhile_again p l] <;> rfl
    · rfl

theorem tok_right (c : UInt8) (r : List UInt8) (h : btI c.toNat = true) : rightL 4 0 ((c :: r).take (tlen (c :: r))) = true ∧ 1 ≤ tlen (c :: r) := by
  have e : tlen (c :: r) = (r.takeWhile (fun c => ttI c.toNat)).length + 1 := by rw [tlen, if_pos h]; omega
  rw [e, List.take_succ_cons, take_takeWhile, right_tok]
  have e2 : tlen (c :: r.takeWhile (fun c => ttI c.toNat)) = (r.takeWhile (fun c => ttI c.toNat)).length + 1 := by rw [tlen, if_pos h, takeWhile_again]; omega
  rw [e2]
  simp

/-- What is read may be, and lies within the text. -/
theorem readL_right (l : List UInt8) (g : Got) (h : readL l = some g) : rightL g.k g.n g.s = true ∧ 1 ≤ g.m ∧ g.m ≤ l.length ∧ g.s.length ≤ l.length := by
  cases l with
  | nil => cases h
  | cons c r =>
    unfold readL at h
    dsimp only at h
    split at h
    · obtain ⟨h1, h2, h3, h4⟩ := readNumL_right _ g h
      exact ⟨h1, h2, h3, by rw [h4]; simp⟩
    · split at h
      · rw [readStrL, List.drop_one, List.tail_cons] at h
        obtain ⟨r1, r2, r3, r4, r5, r6⟩ := rsL_right r [] 1 g rfl h
        simp only [List.length_cons, List.length_nil] at r6 ⊢
        exact ⟨by rw [r1, r2, right_str, r3] <;> rfl, by omega, by omega, by omega⟩
      · split at h
        · rename_i hb
          obtain rfl := Option.some.inj h
          obtain ⟨h1, h2⟩ := tok_right c r hb
          have h3 := tlen_le (c :: r)
          refine ⟨h1, h2, h3, ?_⟩
          show ((c :: r).take _).length ≤ _
          rw [List.length_take]; omega
        · split at h
          · unfold readBytesL at h
            rw [List.drop_one, List.tail_cons] at h
            split at h
            · cases h
            · rename_i hi
              obtain ⟨i0, i1⟩ := index_le _ _ hi
              split at h
              · cases h
              · rename_i b hb
                obtain rfl := Option.some.inj h
                have e := congrArg List.length (decL_some _ _ hb)
                rw [encL_len, List.length_take] at e
                refine ⟨by rw [right_bytes] <;> rfl, ?_, ?_, ?_⟩
                · show 1 ≤ _ + 2
                  omega
                · show _ + 2 ≤ _
                  simp only [List.length_cons]; omega
                · show b.length ≤ _
                  simp only [List.length_cons]; omega
          · split at h
            · unfold readBoolL at h
              split at h
              · rename_i c d q he
                split at h
                · rename_i hd
                  obtain rfl := Option.some.inj h
                  rw [List.cons.injEq] at he
                  obtain ⟨_, rfl⟩ := he
                  simp only [Bool.or_eq_true, beq_iff_eq] at hd
                  refine ⟨?_, by simp, by simp, by simp⟩
                  rw [right_bool]
                  rcases hd with rfl | rfl <;> decide
                · cases h
              · cases h
            · cases h

theorem right_n (k n : Int) (s : List UInt8) (h : rightL k n s = true) : -1000000000000000 < n ∧ n < 1000000000000000 := by
  rcases right_kind k n s h with ⟨_, _, g0, g1⟩ | ⟨_, _, g0⟩ | ⟨_, rfl, _⟩ | ⟨_, rfl, _, _⟩ | ⟨_, rfl⟩
  · exact ⟨g0, g1⟩
  · omega
  · decide
  · decide
  · decide

/-- How long a text is at most. -/
theorem textL_len (k n : Int) (s : List UInt8) (h : rightL k n s = true) : (textL k n s).length ≤ 2 * s.length + 20 := by
  rcases right_kind k n s h with ⟨rfl | rfl, rfl, g0, g1⟩ | ⟨rfl, rfl, g0⟩ | ⟨rfl, rfl, g0⟩ | ⟨rfl, rfl, g0, g1⟩ | ⟨rfl, rfl⟩
  · show (Lib.itoa n).length ≤ _
    unfold Lib.itoa
    split
    · have := decDigits_15 n.natAbs (by omega)
      simp only [List.length_cons]; omega
    · have := decDigits_15 n.toNat (by omega)
      omega
  · show (decT n).length ≤ _
    obtain ⟨p, e, _, p3, _, _⟩ := decN_is n.natAbs
    have := decDigits_12 (n.natAbs / 1000) (by omega)
    have hl : (decN n.natAbs).length ≤ 16 := by
      rw [e, List.length_append, List.length_cons]; omega
    unfold decT
    split
    · simp only [List.length_cons]; omega
    · omega
  · show (63 :: Lib.itoa n).length ≤ _
    rcases g0 with rfl | rfl
    · simp [Lib.itoa, Lib.decDigits_one]
    · simp [Lib.itoa, Lib.decDigits_one]
  · show (strT s).length ≤ _
    have := escL_len s
    simp only [strT, List.length_cons, List.length_append, List.length_nil]; omega
  · show s.length ≤ _
    omega
  · show (58 :: (encL s ++ [58])).length ≤ _
    have := encL_len s
    simp only [List.length_cons, List.length_append, List.length_nil]; omega

end Go.Proofs.YtpifbgefkbhopaaGreatDoor

namespace Go.Proofs.YtpifbgefkbhopaaGreatDoor
open Go.RowKit

def bkI (c : Int) : Bool := (decide (97 ≤ c) && decide (c ≤ 122)) || c == 42
def ikI (c : Int) : Bool := bkI c || digI c || c == 95 || c == 45 || c == 46

set_option maxHeartbeats 400000 in
theorem beginsKey_any (c : Int) (w : World) :
    Calls Tryz.prog 112 #[.int .u8 c] w fun e w' => e = .returned (.bool (bkI c)) ∧ w = w' := by
  have hd : bkI c = ((decide (97 ≤ c) && decide (c ≤ 122)) || c == 42) := rfl
  cases h1 : decide (97 ≤ c) <;> cases h2 : decide (c ≤ 122) <;> cases h3 : (c == 42)
  all_goals
    first
    | (exfalso; simp only [decide_eq_true_eq, decide_eq_false_iff_not, beq_iff_eq] at h1 h2 h3; omega)
    | (rw [h1, h2, h3] at hd
       simp only [Bool.and_true, Bool.and_false, Bool.or_true, Bool.or_false] at hd
       rw [hd]
       clear hd
       go_enter Tryz.func112, Tryz.ntmps112
       go_wp2
       go_ret
       exact ⟨rfl, rfl⟩)

set_option maxHeartbeats 1000000 in
theorem inKey_any (c : Int) (w : World) :
    Calls Tryz.prog 113 #[.int .u8 c] w fun e w' => e = .returned (.bool (ikI c)) ∧ w = w' := by
  have cB := beginsKey_any c w
  have hd : ikI c = (bkI c || (decide (48 ≤ c) && decide (c ≤ 57)) || c == 95 || c == 45 || c == 46) := rfl
  rw [hd]
  clear hd
  generalize bkI c = b at *
  cases b
  · cases h1 : decide (48 ≤ c) <;> cases h2 : decide (c ≤ 57) <;> cases h3 : (c == 95) <;> cases h4 : (c == 45) <;> cases h5 : (c == 46)
    all_goals
      first
      | (exfalso; simp only [decide_eq_true_eq, decide_eq_false_iff_not, beq_iff_eq] at h1 h2 h3 h4 h5; omega)
      | (go_enter Tryz.func113, Tryz.ntmps113
         go_wp2_with (go_at_call 112; refine cB.mono ?_; rintro e w' ⟨rfl, rfl⟩)
         go_ret
         exact ⟨rfl, rfl⟩)
  · go_enter Tryz.func113, Tryz.ntmps113
    go_wp2_with (go_at_call 112; refine cB.mono ?_; rintro e w' ⟨rfl, rfl⟩)
    go_ret
    exact ⟨by simp, rfl⟩

/-- How long the key is with which a text begins. -/
def klen : List UInt8 → Nat
  | [] => 0
  | c :: r => if bkI c.toNat then 1 + (r.takeWhile (fun c => ikI c.toNat)).length else 0

theorem klen_le (l : List UInt8) : klen l ≤ l.length := by
  cases l with
  | nil => exact Nat.le_refl _
  | cons c r =>
    unfold klen
    have := takeWhile_len_le (fun c => ikI c.toNat) r
    simp only [List.length_cons]
    split <;> omega

set_option maxHeartbeats 1000000 in
theorem keyLength_any (s : ByteArray) (w : World) (hs : s.size ≤ maxLen) :
    Calls Tryz.prog 85 #[.string s] w fun e w' => e = .returned (.int .i64 (klen s.data.toList : Int)) ∧ w = w' := by
  unfold maxLen at hs
  by_cases h0 : 0 < s.size
  · have hemp : s.toList.isEmpty = false := by rw [Lib.toList_data]; exact isEmpty_false_of s h0
    have cB := beginsKey_any ((s[0]'h0).toNat : Int) w
    have Hdr := Lib.hid (drop_cons_at s 0 h0)
    cases hb : bkI ((s[0]'h0).toNat : Int)
    · have Hz : Hid (klen s.data.toList = 0) := Lib.hid (by
        have := Hdr.out
        rw [List.drop_zero] at this
        rw [this, klen, hb] <;> rfl)
      rw [hb] at cB
      clear hb
      go_enter Tryz.func85, Tryz.ntmps85
      go_wp2_with (go_at_call 112; refine cB.mono ?_; rintro e w' ⟨rfl, rfl⟩)
      go_ret
      exact ⟨ret_eq (int_eq (by rw [Hz.out] <;> rfl)), rfl⟩
    · have Hz : Hid (klen s.data.toList = 1 + ((s.data.toList.drop 1).takeWhile (fun c => ikI c.toNat)).length) := Lib.hid (by
        have := Hdr.out
        rw [List.drop_zero] at this
        rw [this, klen, hb] <;> rfl)
      rw [hb] at cB
      clear hb Hdr
      go_enter Tryz.func85, Tryz.ntmps85
      go_wp2_with (go_at_call 112; refine cB.mono ?_; rintro e w' ⟨rfl, rfl⟩)
      go_loop [3] (fun i => ∃ k : Nat, 1 ≤ k ∧ k ≤ s.size ∧ i = .int .i64 k ∧ Hid (klen s.data.toList = k + ((s.data.toList.drop k).takeWhile (fun c => ikI c.toNat)).length)) (fun i => s.size - (intOf i).toNat)
      case atStart => exact ⟨1, by omega, by omega, rfl, Hz⟩
      case round =>
        clear Hz cB
        obtain ⟨k, hk1, hk, rfl, H⟩ := hrel
        by_cases hlt : k < s.size
        · have Hdr := Lib.hid (drop_cons_at s k hlt)
          have cT := inKey_any ((s[k]'hlt).toNat : Int) w
          cases hd : ikI (s[k].toNat : Int)
          · have Hf := Lib.hid hd
            rw [hd] at cT
            clear hd
            go_wp2_with (go_at_call 113; refine cT.mono ?_; rintro e w' ⟨rfl, rfl⟩)
            go_ret
            exact ⟨ret_eq (int_eq (by rw [H.out, Hdr.out, List.takeWhile_cons, Hf.out]; simp)), rfl⟩
          · have Hf := Lib.hid hd
            rw [hd] at cT
            clear hd
            go_wp2_with (go_at_call 113; refine cT.mono ?_; rintro e w' ⟨rfl, rfl⟩)
            go_round
            case rel => exact ⟨k + 1, by omega, by omega, by go_num, Lib.hid (by rw [H.out, Hdr.out, List.takeWhile_cons, Hf.out]; simp; omega)⟩
            case measure => simp [intOf]; omega
        · have Hd : Hid (s.data.toList.drop k = []) := Lib.hid (List.drop_of_length_le (by rw [← Lib.size_eq]; omega))
          go_wp2
          go_ret
          exact ⟨ret_eq (int_eq (by rw [H.out, Hd.out]; simp)), rfl⟩
  · have he : s.data.toList = [] := List.eq_nil_of_length_eq_zero (by rw [← Lib.size_eq]; omega)
    have hemp : s.toList.isEmpty = true := by rw [Lib.toList_data, he] <;> rfl
    have Hz : Hid (klen s.data.toList = 0) := Lib.hid (by rw [he] <;> rfl)
    clear he
    go_enter Tryz.func85, Tryz.ntmps85
    go_wp2
    go_ret
    exact ⟨ret_eq (int_eq (by rw [Hz.out] <;> rfl)), rfl⟩

/-- Whether a text is a key. -/
def keyL (l : List UInt8) : Bool := !l.isEmpty && klen l == l.length

/-- What ReadKey answers. -/
def rkV (l : List UInt8) : Value := if klen l = 0 then .tuple #[.string ⟨#[]⟩, .int .i64 0, .int .i64 2] else .tuple #[.string (strB (l.take (klen l))), .int .i64 (klen l : Int), .int .i64 0]

def rkPost (v : Value) (w : World) (e : Ending) (w' : World) : Prop := e = .returned v ∧ w = w'

set_option maxHeartbeats 1000000 in
theorem readKey_any (s : ByteArray) (w : World) (hs : s.size ≤ maxLen) :
    Calls Tryz.prog 58 #[.string s] w (rkPost (rkV s.data.toList) w) := by
  have cK := fun W => keyLength_any s W hs
  unfold maxLen at hs
  have hn := klen_le s.data.toList
  rw [← Lib.size_eq] at hn
  by_cases h0 : klen s.data.toList = 0
  · rw [rkV, if_pos h0]
    rw [h0] at cK
    clear h0 hn
    go_enter Tryz.func58, Tryz.ntmps58
    go_wp2_with (go_at_call 85; refine (cK _).mono ?_; rintro e w' ⟨rfl, rfl⟩)
    exact bodyPost_ret (v := .tuple #[.string ⟨#[]⟩, .int .i64 0, .int .i64 2]) (by simp [results, Tryz.results58, go_sem]) rfl ⟨rfl, rfl⟩
  · have hx : strB (s.data.toList.take (klen s.data.toList)) = s.extract 0 (klen s.data.toList) := by rw [← extract_take, strB_of]
    rw [rkV, if_neg h0, hx]
    clear hx
    generalize klen s.data.toList = n at *
    have hne : ((n : Int) == 0) = false := by simpa using h0
    go_enter Tryz.func58, Tryz.ntmps58
    go_wp2_with (go_at_call 85; refine (cK _).mono ?_; rintro e w' ⟨rfl, rfl⟩)
    exact bodyPost_ret (v := .tuple #[.string (s.extract 0 n), .int .i64 (n : Int), .int .i64 0]) (by simp [results, Tryz.results58, go_sem]) rfl ⟨rfl, rfl⟩

set_option maxHeartbeats 1000000 in
theorem unspoken_any (w : World) :
    Calls Tryz.prog 153 #[] w fun e w' => e = .returned (.agg #[.int .i64 6, .int .i64 1, .string ⟨#[]⟩]) ∧ Below w.heap.size w w' := by
  go_enter Tryz.func153, Tryz.ntmps153
  go_wp2
  exact bodyPost_ret (v := .agg #[.int .i64 6, .int .i64 1, .string ⟨#[]⟩]) (by simp [results, Tryz.results153, go_sem]) rfl ⟨rfl, (Below.refl _ _).alloc (Nat.le_refl _) _⟩

end Go.Proofs.YtpifbgefkbhopaaGreatDoor

namespace Go.Proofs.YtpifbgefkbhopaaGreatDoor
open Go.RowKit

/-- The world is as it was but for block b, and for new blocks. -/
structure Moved (b : Nat) (w w' : World) : Prop where
  os : w'.os = w.os
  tape : w'.tape = w.tape
  output : w'.output = w.output
  size : w.heap.size ≤ w'.heap.size
  block : ∀ k, k < w.heap.size → k ≠ b → w'.heap[k]? = w.heap[k]?

theorem Moved.refl (b : Nat) (w : World) : Moved b w w := ⟨rfl, rfl, rfl, Nat.le_refl _, fun _ _ _ => rfl⟩
theorem Moved.of_below {b : Nat} {w w' : World} (h : Below w.heap.size w w') : Moved b w w' := ⟨h.os, h.tape, h.output, h.size, fun k hk _ => h.block k hk⟩
theorem Moved.trans {b : Nat} {u v w : World} (h : Moved b u v) (k : Moved b v w) : Moved b u w :=
  ⟨k.os.trans h.os, k.tape.trans h.tape, k.output.trans h.output, Nat.le_trans h.size k.size, fun i hi hb => (k.block i (Nat.lt_of_lt_of_le hi h.size) hb).trans (h.block i hi hb)⟩
theorem Moved.below {b B : Nat} {w w' : World} (h : Moved b w w') (h1 : B ≤ b) (h2 : B ≤ w.heap.size) : Below B w w' :=
  ⟨h.os, h.tape, h.output, h.size, fun k hk => h.block k (Nat.lt_of_lt_of_le hk h2) (by omega)⟩
theorem Moved.cell {b : Nat} {w w' : World} (h : Moved b w w') {p : Addr} (h1 : p.block < w.heap.size) (h2 : p.block ≠ b) : w'.cell? p = w.cell? p := World.cell?_of_block (w := w) (h.block p.block h1 h2)
theorem Moved.frozen {b : Nat} {w w' : World} (h : Moved b w w') {p : Addr} (h1 : p.block < w.heap.size) (h2 : p.block ≠ b) : w'.frozen? p = w.frozen? p := World.frozen?_of_block (w := w) (h.block p.block h1 h2)

theorem Moved.setCell {b o : Nat} {w W : World} (h : Moved b w W) (v : Value) : Moved b w (W.setCell ⟨b, o, none⟩ v) := by
  exact ⟨h.os, h.tape, h.output, by simpa using h.size, fun k hk1 hb => (Below.heap_setCell W ⟨b, o, none⟩ v k hb).trans (h.block k hk1 hb)⟩
theorem Moved.drew {b : Nat} {w W : World} (h : Moved b w W) (n : Nat) : Moved b w (W.drewN n) := ⟨h.os, h.tape, h.output, h.size, h.block⟩

/-- A parser of text t at place k lies at block b. -/
structure Par (w : World) (b : Nat) (t : ByteArray) (k : Nat) : Prop where
  text : w.cell? ⟨b, 0, none⟩ = some (.string t)
  at_ : w.cell? ⟨b, 1, none⟩ = some (.int .i64 (k : Int))
  f0 : w.frozen? ⟨b, 0, none⟩ = false
  f1 : w.frozen? ⟨b, 1, none⟩ = false

theorem Par.lt {w : World} {b : Nat} {t : ByteArray} {k : Nat} (h : Par w b t k) : b < w.heap.size := lt_of_cell h.text
theorem Par.below {w W : World} {b : Nat} {t : ByteArray} {k : Nat} (h : Par w b t k) (hb : Below w.heap.size w W) : Par W b t k :=
  ⟨(hb.cell (p := ⟨b, 0, none⟩) h.lt).trans h.text, (hb.cell (p := ⟨b, 1, none⟩) h.lt).trans h.at_, (hb.frozen (p := ⟨b, 0, none⟩) h.lt).trans h.f0, (hb.frozen (p := ⟨b, 1, none⟩) h.lt).trans h.f1⟩
theorem Par.drew {w : World} {b : Nat} {t : ByteArray} {k : Nat} (h : Par w b t k) (n : Nat) : Par (w.drewN n) b t k := ⟨h.text, h.at_, h.f0, h.f1⟩
theorem Par.set {w : World} {b : Nat} {t : ByteArray} {k : Nat} (h : Par w b t k) (m : Nat) : Par (w.setCell ⟨b, 1, none⟩ (.int .i64 (m : Int))) b t m :=
  ⟨(World.cell?_setCell_other w ⟨b, 1, none⟩ ⟨b, 0, none⟩ _ (by simp)).trans h.text, World.cell?_setCell_same w ⟨b, 1, none⟩ _ h.at_, by rw [World.frozen?_setCell]; exact h.f0, by rw [World.frozen?_setCell]; exact h.f1⟩

/-- What a method of the parser leaves: its value, the parser at another place, the world as it was but for that. -/
def movePost (v : Value) (b : Nat) (t : ByteArray) (k : Nat) (w : World) (e : Ending) (w' : World) : Prop := e = .returned v ∧ Par w' b t k ∧ Moved b w w'

set_option maxRecDepth 100000 in
set_option maxHeartbeats 1000000 in
theorem take_no (b : Nat) (t : ByteArray) (k : Nat) (c : UInt8) (w : World) (h : Par w b t k) (_ : t.size ≤ 100000) (hk : k ≤ t.size) (hc : (t.data.toList.drop k).head? ≠ some c) :
    Calls Tryz.prog 137 #[.pointer (some ⟨b, 0, none⟩), .int .u8 c.toNat] w (movePost (.bool false) b t k w) := by
  have HP := Lib.hid h
  have c0 := h.text
  have c1 := h.at_
  clear h
  by_cases hlt : k < t.size
  · have hne : (((t[k]'hlt).toNat : Int) == (c.toNat : Int)) = false := by
      rw [byte_beq]
      rw [drop_cons_at t k hlt] at hc
      simpa using hc
    have n1 : (((t[k]'hlt).toNat : Int) != (c.toNat : Int)) = true := by rw [bne, hne] <;> rfl
    have q0 : ((k : Int) == (t.size : Int)) = false := by simp; omega
    have q1 : (0 : Int) ≤ (k : Int) := by omega
    have q2 : (k : Int) < (t.size : Int) := by omega
    clear hc hne
    go_enter Tryz.func137, Tryz.ntmps137
    go_wp2_with fail
    go_quiet (fail)
    go_wp2_with fail
    go_ret
    exact ⟨rfl, HP.out.drew _, (Moved.refl b w).drew _⟩
  · have q0 : ((k : Int) == (t.size : Int)) = true := by simp; omega
    clear hc
    go_enter Tryz.func137, Tryz.ntmps137
    go_wp2_with fail
    go_quiet (fail)
    go_wp2_with fail
    go_ret
    exact ⟨rfl, HP.out.drew _, (Moved.refl b w).drew _⟩

set_option maxRecDepth 100000 in
set_option maxHeartbeats 1000000 in
theorem take_yes (b : Nat) (t : ByteArray) (k : Nat) (c : UInt8) (w : World) (h : Par w b t k) (ht : t.size ≤ 100000) (hc : (t.data.toList.drop k).head? = some c) :
    Calls Tryz.prog 137 #[.pointer (some ⟨b, 0, none⟩), .int .u8 c.toNat] w (movePost (.bool true) b t (k + 1) w) := by
  have hlt : k < t.size := by
    by_cases hlt : k < t.size
    · exact hlt
    · rw [List.drop_of_length_le (by rw [← Lib.size_eq]; omega)] at hc
      cases hc
  have HP := Lib.hid h
  have c0 := h.text
  have c1 := h.at_
  have f1 := h.f1
  clear h
  have hne : (((t[k]'hlt).toNat : Int) == (c.toNat : Int)) = true := by
    rw [byte_beq]
    rw [drop_cons_at t k hlt] at hc
    simpa using hc
  have n1 : (((t[k]'hlt).toNat : Int) != (c.toNat : Int)) = false := by rw [bne, hne] <;> rfl
  have q0 : ((k : Int) == (t.size : Int)) = false := by simp; omega
  have q1 : (0 : Int) ≤ (k : Int) := by omega
  have q2 : (k : Int) < (t.size : Int) := by omega
  clear hc hne
  go_enter Tryz.func137, Tryz.ntmps137
  go_wp2_with fail
  go_quiet (fail)
  go_wp2_with fail
  go_ret
  refine ⟨rfl, ?_, ?_⟩
  · exact (HP.out.drew _).set (k + 1)
  · exact ((Moved.refl b w).drew _).setCell _

end Go.Proofs.YtpifbgefkbhopaaGreatDoor

namespace Go.Proofs.YtpifbgefkbhopaaGreatDoor
open Go.RowKit

set_option maxHeartbeats 400000 in
theorem rfirst_any (c : Int) (w : World) :
    Calls Tryz.prog 119 #[.int .u8 c] w fun e w' => e = .returned (.bool (bkI c)) ∧ w = w' := by
  have hd : bkI c = ((decide (97 ≤ c) && decide (c ≤ 122)) || c == 42) := rfl
  cases h1 : decide (97 ≤ c) <;> cases h2 : decide (c ≤ 122) <;> cases h3 : (c == 42)
  all_goals
    first
    | (exfalso; simp only [decide_eq_true_eq, decide_eq_false_iff_not, beq_iff_eq] at h1 h2 h3; omega)
    | (rw [h1, h2, h3] at hd
       simp only [Bool.and_true, Bool.and_false, Bool.or_true, Bool.or_false] at hd
       rw [hd]
       clear hd
       go_enter Tryz.func119, Tryz.ntmps119
       go_wp2
       go_ret
       exact ⟨rfl, rfl⟩)

set_option maxHeartbeats 1000000 in
theorem rlater_any (c : Int) (w : World) :
    Calls Tryz.prog 120 #[.int .u8 c] w fun e w' => e = .returned (.bool (ikI c)) ∧ w = w' := by
  have cB := rfirst_any c w
  have hd : ikI c = (bkI c || (decide (48 ≤ c) && decide (c ≤ 57)) || c == 95 || c == 45 || c == 46) := rfl
  rw [hd]
  clear hd
  generalize bkI c = b at *
  cases b
  · cases h1 : decide (48 ≤ c) <;> cases h2 : decide (c ≤ 57) <;> cases h3 : (c == 95) <;> cases h4 : (c == 45) <;> cases h5 : (c == 46)
    all_goals
      first
      | (exfalso; simp only [decide_eq_true_eq, decide_eq_false_iff_not, beq_iff_eq] at h1 h2 h3 h4 h5; omega)
      | (go_enter Tryz.func120, Tryz.ntmps120
         go_wp2_with (go_at_call 119; refine cB.mono ?_; rintro e w' ⟨rfl, rfl⟩)
         go_ret
         exact ⟨rfl, rfl⟩)
  · go_enter Tryz.func120, Tryz.ntmps120
    go_wp2_with (go_at_call 119; refine cB.mono ?_; rintro e w' ⟨rfl, rfl⟩)
    go_ret
    exact ⟨by simp, rfl⟩

end Go.Proofs.YtpifbgefkbhopaaGreatDoor

namespace Go.Proofs.YtpifbgefkbhopaaGreatDoor
open Go.RowKit

theorem rkV_at (s : ByteArray) (k : Nat) (h : klen s.data.toList = k) (hk : 1 ≤ k) : rkV s.data.toList = .tuple #[.string (s.extract 0 k), .int .i64 (k : Int), .int .i64 0] := by
  rw [rkV, if_neg (by omega), h, ← extract_take, strB_of]
theorem rkV_zero (l : List UInt8) (h : klen l = 0) : rkV l = .tuple #[.string ⟨#[]⟩, .int .i64 0, .int .i64 2] := by rw [rkV, if_pos h]

set_option maxHeartbeats 1000000 in
theorem rreadKey_any (s : ByteArray) (w : World) (hs : s.size ≤ maxLen) :
    Calls Tryz.prog 92 #[.string s] w (rkPost (rkV s.data.toList) w) := by
  unfold maxLen at hs
  by_cases h0 : 0 < s.size
  · have hemp : s.toList.isEmpty = false := by rw [Lib.toList_data]; exact isEmpty_false_of s h0
    have cB := rfirst_any ((s[0]'h0).toNat : Int) w
    have Hdr := Lib.hid (drop_cons_at s 0 h0)
    cases hb : bkI ((s[0]'h0).toNat : Int)
    · have Hz : Hid (klen s.data.toList = 0) := Lib.hid (by
        have := Hdr.out
        rw [List.drop_zero] at this
        rw [this, klen, hb] <;> rfl)
      rw [hb] at cB
      clear hb
      rw [rkV_zero _ Hz.out]
      go_enter Tryz.func92, Tryz.ntmps92
      go_wp2_with (go_at_call 119; refine cB.mono ?_; rintro e w' ⟨rfl, rfl⟩)
      exact bodyPost_ret (v := .tuple #[.string ⟨#[]⟩, .int .i64 0, .int .i64 2]) (by simp [results, Tryz.results92, go_sem]) rfl ⟨rfl, rfl⟩
    · have Hz : Hid (klen s.data.toList = 1 + ((s.data.toList.drop 1).takeWhile (fun c => ikI c.toNat)).length) := Lib.hid (by
        have := Hdr.out
        rw [List.drop_zero] at this
        rw [this, klen, hb] <;> rfl)
      rw [hb] at cB
      have HV := Lib.hid (fun k => rkV_at s k)
      generalize rkV s.data.toList = V at *
      clear hb Hdr
      go_enter Tryz.func92, Tryz.ntmps92
      go_wp2_with (go_at_call 119; refine cB.mono ?_; rintro e w' ⟨rfl, rfl⟩)
      go_loop [5] (fun i => ∃ k : Nat, 1 ≤ k ∧ k ≤ s.size ∧ i = .int .i64 k ∧ Hid (klen s.data.toList = k + ((s.data.toList.drop k).takeWhile (fun c => ikI c.toNat)).length)) (fun i => s.size - (intOf i).toNat)
      case atStart => exact ⟨1, by omega, by omega, rfl, Hz⟩
      case round =>
        clear Hz cB
        obtain ⟨k, hk1, hk, rfl, H⟩ := hrel
        by_cases hlt : k < s.size
        · have Hdr := Lib.hid (drop_cons_at s k hlt)
          have cT := rlater_any ((s[k]'hlt).toNat : Int) w
          cases hd : ikI (s[k].toNat : Int)
          · have Hf := Lib.hid hd
            rw [hd] at cT
            clear hd
            go_wp2_with (go_at_call 120; refine cT.mono ?_; rintro e w' ⟨rfl, rfl⟩)
            refine bodyPost_ret (v := .tuple #[.string (s.extract 0 k), .int .i64 (k : Int), .int .i64 0]) (by simp [results, Tryz.results92, go_sem]) rfl ⟨?_, rfl⟩
            rw [HV.out k (by rw [H.out, Hdr.out, List.takeWhile_cons, Hf.out]; simp) hk1]
          · have Hf := Lib.hid hd
            rw [hd] at cT
            clear hd
            go_wp2_with (go_at_call 120; refine cT.mono ?_; rintro e w' ⟨rfl, rfl⟩)
            go_round
            case rel => exact ⟨k + 1, by omega, by omega, by go_num, Lib.hid (by rw [H.out, Hdr.out, List.takeWhile_cons, Hf.out]; simp; omega)⟩
            case measure => simp [intOf]; omega
        · obtain rfl : k = s.size := by omega
          have Hd : Hid (s.data.toList.drop s.size = []) := Lib.hid (List.drop_of_length_le (by rw [← Lib.size_eq]; omega))
          go_wp2
          refine bodyPost_ret (v := .tuple #[.string (s.extract 0 s.size), .int .i64 (s.size : Int), .int .i64 0]) (by simp [results, Tryz.results92, go_sem]) rfl ⟨?_, rfl⟩
          rw [HV.out _ (by rw [H.out, Hd.out]; simp) hk1]
  · have he : s.data.toList = [] := List.eq_nil_of_length_eq_zero (by rw [← Lib.size_eq]; omega)
    have hemp : s.toList.isEmpty = true := by rw [Lib.toList_data, he] <;> rfl
    rw [rkV_zero _ (by rw [he] <;> rfl)]
    clear he
    go_enter Tryz.func92, Tryz.ntmps92
    go_wp2
    exact bodyPost_ret (v := .tuple #[.string ⟨#[]⟩, .int .i64 0, .int .i64 2]) (by simp [results, Tryz.results92, go_sem]) rfl ⟨rfl, rfl⟩

end Go.Proofs.YtpifbgefkbhopaaGreatDoor

namespace Go.Proofs.YtpifbgefkbhopaaGreatDoor
open Go.RowKit

set_option maxHeartbeats 1000000 in
theorem rletter_any (c : Int) (w : World) :
    Calls Tryz.prog 145 #[.int .u8 c] w fun e w' => e = .returned (.bool (ltrI c || digI c)) ∧ w = w' := by
  have hd : (ltrI c || digI c) = ((decide (97 ≤ c) && decide (c ≤ 122)) || (decide (65 ≤ c) && decide (c ≤ 90)) || (decide (48 ≤ c) && decide (c ≤ 57))) := by
    simp only [ltrI, upI, lowI, digI]
    rw [Bool.or_comm (decide (65 ≤ c) && decide (c ≤ 90))]
  rw [hd]
  clear hd
  rcases (show c < 48 ∨ (48 ≤ c ∧ c ≤ 57) ∨ (57 < c ∧ c < 65) ∨ (65 ≤ c ∧ c ≤ 90) ∨ (90 < c ∧ c < 97) ∨ (97 ≤ c ∧ c ≤ 122) ∨ 122 < c by omega) with h | h | h | h | h | h | h
  all_goals
    have a1 : ∃ b, decide (97 ≤ c) = b := ⟨_, rfl⟩
    have a2 : ∃ b, decide (c ≤ 122) = b := ⟨_, rfl⟩
    have a3 : ∃ b, decide (65 ≤ c) = b := ⟨_, rfl⟩
    have a4 : ∃ b, decide (c ≤ 90) = b := ⟨_, rfl⟩
    have a5 : ∃ b, decide (48 ≤ c) = b := ⟨_, rfl⟩
    have a6 : ∃ b, decide (c ≤ 57) = b := ⟨_, rfl⟩
    obtain ⟨b1, h1⟩ := a1
    obtain ⟨b2, h2⟩ := a2
    obtain ⟨b3, h3⟩ := a3
    obtain ⟨b4, h4⟩ := a4
    obtain ⟨b5, h5⟩ := a5
    obtain ⟨b6, h6⟩ := a6
    cases b1 <;> cases b2 <;> cases b3 <;> cases b4 <;> cases b5 <;> cases b6 <;> first | (exfalso; simp only [decide_eq_true_eq, decide_eq_false_iff_not] at h1 h2 h3 h4 h5 h6; omega) | skip
    all_goals
      clear h
      go_enter Tryz.func145, Tryz.ntmps145
      go_wp2
      go_ret
      exact ⟨by rw [h1, h2, h3, h4, h5, h6] <;> rfl, rfl⟩

theorem mark_at (c : UInt8) (k : Nat) (h : k < 15) (e : marksL[k]'h = c) : markI c.toNat = true := by
  subst e
  have : ∀ j : Fin 15, markI (marksL[j.val]'j.isLt).toNat = true := by decide +kernel
  exact this ⟨k, h⟩

theorem mark_none (c : UInt8) (h : ∀ j (hj : j < 15), (marksL[j]'hj == c) = false) : markI c.toNat = false := by
  have hn : ∀ l : List UInt8, (∀ j (hj : j < l.length), (l[j] == c) = false) → Lib.indexByte l c = -1 := by
    intro l
    induction l with
    | nil => intro _; rfl
    | cons a r ih =>
      intro h
      have h0 := h 0 (by simp)
      have hr := ih (fun j hj => h (j + 1) (by simpa using hj))
      simp only [List.getElem_cons_zero] at h0
      rw [Lib.indexByte, h0, hr]
      rfl
  have e : (c.toNat : Int).toNat.toUInt8 = c := by simp
  unfold markI
  rw [e, hn marksL h]
  rfl

set_option maxHeartbeats 1000000 in
theorem rtchar_any (c : UInt8) (w : World) :
    Calls Tryz.prog 126 #[.int .u8 c.toNat] w fun e w' => e = .returned (.bool (tchI c.toNat)) ∧ w = w' := by
  have cL := rletter_any (c.toNat : Int) w
  go_enter Tryz.func126, Tryz.ntmps126
  go_wp2
  go_loop [4] (fun i => ∃ k : Nat, k ≤ 15 ∧ i = .int .i64 k ∧ Hid (∀ j (hj : j < 15), j < k → (marksL[j]'hj == c) = false)) (fun i => 15 - (intOf i).toNat)
  case atStart => exact ⟨0, by omega, rfl, Lib.hid (fun j _ h => by omega)⟩
  case round =>
    obtain ⟨k, hk, rfl, H⟩ := hrel
    by_cases hlt : k < 15
    · have hls : k < (⟨#[33, 35, 36, 37, 38, 39, 42, 43, 45, 46, 94, 95, 96, 124, 126]⟩ : ByteArray).size := hlt
      have hg : (⟨#[33, 35, 36, 37, 38, 39, 42, 43, 45, 46, 94, 95, 96, 124, 126]⟩ : ByteArray)[k]'hls = marksL[k]'hlt := rfl
      have B := byte_beq (marksL[k]'hlt) c
      cases he : (marksL[k]'hlt == c)
      · have hb : ((((⟨#[33, 35, 36, 37, 38, 39, 42, 43, 45, 46, 94, 95, 96, 124, 126]⟩ : ByteArray)[k]'hls).toNat : Int) == (c.toNat : Int)) = false := by rw [hg, B, he]
        have He := Lib.hid he
        clear hg B he
        go_wp2
        go_round
        case rel =>
          refine ⟨k + 1, by omega, by go_num, Lib.hid (fun j hj h => ?_)⟩
          by_cases e : j = k
          · subst e; exact He.out
          · exact H.out j hj (by omega)
        case measure => simp [intOf]; omega
      · have hb : ((((⟨#[33, 35, 36, 37, 38, 39, 42, 43, 45, 46, 94, 95, 96, 124, 126]⟩ : ByteArray)[k]'hls).toNat : Int) == (c.toNat : Int)) = true := by rw [hg, B, he]
        have Hm := Lib.hid (mark_at c k hlt (by simpa using he))
        clear hg B he
        go_wp2
        go_ret
        exact ⟨ret_eq (bool_eq (by rw [tchI, Hm.out, Bool.or_true])), rfl⟩
    · have Hm := Lib.hid (mark_none c (fun j hj => H.out j hj (by omega)))
      go_wp2_with (go_at_call 145; refine cL.mono ?_; rintro e w' ⟨rfl, rfl⟩)
      go_ret
      exact ⟨ret_eq (bool_eq (by rw [tchI, Hm.out, Bool.or_false])), rfl⟩


set_option maxHeartbeats 1000000 in
theorem falpha_any (c : Int) (w : World) :
    Calls Tryz.prog 142 #[.int .u8 c] w fun e w' => e = .returned (.bool (ltrI c)) ∧ w = w' := by
  have hd : ltrI c = ((decide (97 ≤ c) && decide (c ≤ 122)) || (decide (65 ≤ c) && decide (c ≤ 90))) := by
    simp only [ltrI, upI, lowI]
    rw [Bool.or_comm]
  rw [hd]
  clear hd
  rcases (show c < 65 ∨ (65 ≤ c ∧ c ≤ 90) ∨ (90 < c ∧ c < 97) ∨ (97 ≤ c ∧ c ≤ 122) ∨ 122 < c by omega) with h | h | h | h | h
  all_goals
    have a1 : ∃ b, decide (97 ≤ c) = b := ⟨_, rfl⟩
    have a2 : ∃ b, decide (c ≤ 122) = b := ⟨_, rfl⟩
    have a3 : ∃ b, decide (65 ≤ c) = b := ⟨_, rfl⟩
    have a4 : ∃ b, decide (c ≤ 90) = b := ⟨_, rfl⟩
    obtain ⟨b1, h1⟩ := a1
    obtain ⟨b2, h2⟩ := a2
    obtain ⟨b3, h3⟩ := a3
    obtain ⟨b4, h4⟩ := a4
    cases b1 <;> cases b2 <;> cases b3 <;> cases b4 <;> first | (exfalso; simp only [decide_eq_true_eq, decide_eq_false_iff_not] at h1 h2 h3 h4; omega) | skip
    all_goals
      clear h
      go_enter Tryz.func142, Tryz.ntmps142
      go_wp2
      go_ret
      exact ⟨by rw [h1, h2, h3, h4] <;> rfl, rfl⟩

set_option maxHeartbeats 400000 in
theorem fdigit_any (c : Int) (w : World) :
    Calls Tryz.prog 139 #[.int .u8 c] w fun e w' => e = .returned (.bool (digI c)) ∧ w = w' := by
  cases h1 : decide (48 ≤ c) <;> cases h2 : decide (c ≤ 57)
  all_goals
    have hd : digI c = (decide (48 ≤ c) && decide (c ≤ 57)) := rfl
    simp only [h1, h2, Bool.and_true, Bool.and_false] at hd
    rw [hd]
    clear hd
    go_enter Tryz.func139, Tryz.ntmps139
    go_wp2
    go_ret
    exact ⟨rfl, rfl⟩

set_option maxHeartbeats 1000000 in
theorem ftoken_any (c : UInt8) (w : World) :
    Calls Tryz.prog 143 #[.int .u8 c.toNat] w fun e w' => e = .returned (.bool (ttI c.toNat)) ∧ w = w' := by
  have cT := rtchar_any c w
  have hd : ttI c.toNat = (tchI c.toNat || ((c.toNat : Int) == 58) || ((c.toNat : Int) == 47)) := rfl
  generalize (c.toNat : Int) = x at *
  generalize tchI x = a at cT hd
  generalize ttI x = r at hd
  cases h1 : (x == 58) <;> cases h2 : (x == 47)
  all_goals
    rw [h1, h2] at hd
    subst hd
    cases a
    all_goals
      go_enter Tryz.func143, Tryz.ntmps143
      go_wp2_with (go_at_call 126; refine cT.mono ?_; rintro e w' ⟨rfl, rfl⟩)
      go_ret
      exact ⟨rfl, rfl⟩

/-- The alphabet as the document's own answer has it. -/
def alphB : ByteArray := ⟨alphL.toArray⟩
theorem alphB_at (n : Nat) (h : n < 64) : alphB.extract n (n + 1) = strB [alp n] := by
  have : ∀ i : Fin 64, alphB.extract i.val (i.val + 1) = strB [alp i.val] := by
    intro i
    have hi : i.val < alphB.size := i.isLt
    rw [one_at alphB i.val hi]
    congr 2
    rw [alp, List.getD_eq_getElem?_getD, List.getElem?_eq_getElem (by exact hi)]
    rfl
  exact this ⟨n, h⟩

set_option maxRecDepth 10000 in
set_option maxHeartbeats 400000 in
theorem fsign_any (n : Nat) (w : World) (h : n < 64) :
    Calls Tryz.prog 160 #[.int .i64 (n : Int)] w fun e w' => e = .returned (.string (strB [alp n])) ∧ w = w' := by
  have H := Lib.hid (alphB_at n h)
  go_enter Tryz.func160, Tryz.ntmps160
  go_wp2
  go_ret
  exact ⟨by rw [← H.out] <;> rfl, rfl⟩

/-- The place of a character in the alphabet; none: -1. -/
def pgo : List UInt8 → Nat → UInt8 → Int
  | [], _, _ => -1
  | x :: r, k, c => if x == c then (k : Int) else pgo r (k + 1) c
def placeI (c : UInt8) : Int := pgo alphL 0 c

set_option maxHeartbeats 1000000 in
theorem fplace_any (c : UInt8) (w : World) :
    Calls Tryz.prog 156 #[.int .u8 c.toNat] w fun e w' => e = .returned (.int .i64 (placeI c)) ∧ w = w' := by
  go_enter Tryz.func156, Tryz.ntmps156
  go_wp2
  go_loop [3] (fun i => ∃ k : Nat, k ≤ 64 ∧ i = .int .i64 k ∧ Hid (placeI c = pgo (alphL.drop k) k c)) (fun i => 64 - (intOf i).toNat)
  case atStart => exact ⟨0, by omega, rfl, Lib.hid rfl⟩
  case round =>
    obtain ⟨k, hk, rfl, H⟩ := hrel
    by_cases hlt : k < 64
    · have cS := fsign_any k w hlt
      have Hd := Lib.hid (alp_drop k hlt)
      have B : Hid ((((alp k).toNat : Int) == (c.toNat : Int)) = (alp k == c)) := Lib.hid (byte_beq _ _)
      have hone : (strB [alp k]).size = 1 := rfl
      have h0 : 0 < (strB [alp k]).size := by rw [hone]; decide
      have hat : (strB [alp k])[0]'h0 = alp k := rfl
      generalize strB [alp k] = S at *
      cases he : (((alp k).toNat : Int) == (c.toNat : Int))
      · have He := Lib.hid (B.out.symm.trans he)
        rw [← hat] at he
        clear hat
        go_wp2_with (go_at_call 160; refine cS.mono ?_; rintro e w' ⟨rfl, rfl⟩)
        go_round
        case rel => exact ⟨k + 1, by omega, by go_num, Lib.hid (by rw [H.out, Hd.out, pgo, He.out] <;> rfl)⟩
        case measure => simp [intOf]; omega
      · have He := Lib.hid (B.out.symm.trans he)
        rw [← hat] at he
        clear hat
        go_wp2_with (go_at_call 160; refine cS.mono ?_; rintro e w' ⟨rfl, rfl⟩)
        go_ret
        exact ⟨ret_eq (int_eq (by rw [H.out, Hd.out, pgo, He.out] <;> rfl)), rfl⟩
    · obtain rfl : k = 64 := by omega
      go_wp2
      go_ret
      exact ⟨ret_eq (int_eq (by rw [H.out] <;> rfl)), rfl⟩

set_option maxHeartbeats 1000000 in
theorem fdigits_any (s : ByteArray) (a : Nat) (w : World) (hs : s.size ≤ 100000) (ha : a ≤ s.size) :
    Calls Tryz.prog 154 #[.string s, .int .i64 (a : Int)] w fun e w' => e = .returned (.int .i64 ((ldig (s.data.toList.drop a)).length : Int)) ∧ w = w' := by
  go_enter Tryz.func154, Tryz.ntmps154
  go_wp2
  go_loop [5] (fun i => ∃ k : Nat, a + k ≤ s.size ∧ i = .int .i64 k ∧ Hid ((ldig (s.data.toList.drop a)).length = k + (ldig (s.data.toList.drop (a + k))).length)) (fun i => s.size - (intOf i).toNat)
  case atStart => exact ⟨0, by omega, rfl, Lib.hid (by simp)⟩
  case round =>
    obtain ⟨k, hk, rfl, H⟩ := hrel
    by_cases hlt : a + k < s.size
    · have Hdr := Lib.hid (drop_cons_at s (a + k) hlt)
      have cT := fdigit_any (s[a + k].toNat : Int) w
      cases hd : digI (s[a + k].toNat : Int)
      · have Hf : Hid ((ldig (s.data.toList.drop a)).length = k) := Lib.hid (by rw [H.out, Hdr.out, ldig, List.takeWhile_cons, hd]; simp)
        rw [hd] at cT
        clear hd H Hdr
        go_wp2_with (go_at_call 139; refine cT.mono ?_; rintro e w' ⟨rfl, rfl⟩)
        go_ret
        exact ⟨ret_eq (int_eq (by rw [Hf.out])), rfl⟩
      · have Hf := Lib.hid hd
        rw [hd] at cT
        clear hd
        go_wp2_with (go_at_call 139; refine cT.mono ?_; rintro e w' ⟨rfl, rfl⟩)
        go_round
        case rel => exact ⟨k + 1, by omega, by go_num, Lib.hid (by rw [show a + (k + 1) = a + k + 1 by omega, H.out, Hdr.out, ldig, List.takeWhile_cons, Hf.out, ldig]; simp; omega)⟩
        case measure => simp [intOf]; omega
    · have Hd : Hid (s.data.toList.drop (a + k) = []) := Lib.hid (List.drop_of_length_le (by rw [← Lib.size_eq]; omega))
      go_wp2
      go_ret
      exact ⟨ret_eq (int_eq (by rw [H.out, Hd.out]; simp [ldig])), rfl⟩

set_option maxHeartbeats 1000000 in
theorem fvalue_any (s : ByteArray) (w : World) (hs : s.size ≤ 15) (hall : s.data.toList.all (fun c => digI c.toNat) = true) :
    Calls Tryz.prog 155 #[.string s] w fun e w' => e = .returned (.int .i64 (numL s.data.toList)) ∧ w = w' := by
  have Hall := Lib.hid hall
  clear hall
  go_enter Tryz.func155, Tryz.ntmps155
  go_wp2
  go_loop [3, 4] (fun n i => ∃ k : Nat, k ≤ s.size ∧ i = .int .i64 k ∧ n = .int .i64 (numL (s.data.toList.take k))) (fun _ i => s.size - (intOf i).toNat)
  case atStart => exact ⟨0, by omega, rfl, rfl⟩
  case round =>
    obtain ⟨k, hk, rfl, rfl⟩ := hrel
    by_cases hlt : k < s.size
    · obtain ⟨n0, n1⟩ := numL_in (s.data.toList.take k) (by
        rw [List.all_eq_true]
        intro x hx
        exact List.all_eq_true.1 Hall.out x (List.mem_of_mem_take hx)) (by rw [List.length_take]; omega)
      have Hs : Hid (numL (s.data.toList.take (k + 1)) = 10 * numL (s.data.toList.take k) + ((s[k].toNat : Int)) - 48) := Lib.hid (by rw [take_snoc s k hlt, numL_snoc]; omega)
      have hd : digI (s[k].toNat : Int) = true := List.all_eq_true.1 Hall.out s[k] (Array.getElem_mem_toList hlt)
      obtain ⟨h48, h57⟩ := (digI_iff _).1 hd
      clear hd
      generalize numL (s.data.toList.take k) = m at n0 n1 Hs
      go_wp2
      go_round
      case rel => exact ⟨k + 1, by omega, by go_num, by rw [Hs.out]⟩
      case measure => simp [intOf]; omega
    · have Hk : Hid (s.data.toList.take k = s.data.toList) := Lib.hid (take_all s k (by omega))
      go_wp2
      go_ret
      exact ⟨ret_eq (int_eq (by rw [Hk.out])), rfl⟩

theorem digB_at (n : Nat) (h : n < 10) : (⟨#[48, 49, 50, 51, 52, 53, 54, 55, 56, 57]⟩ : ByteArray).extract n (n + 1) = strB (Lib.decDigits n) := by
  have : ∀ i : Fin 10, (⟨#[48, 49, 50, 51, 52, 53, 54, 55, 56, 57]⟩ : ByteArray).extract i.val (i.val + 1) = strB [UInt8.ofNat (48 + i.val)] := by decide +kernel
  rw [Lib.decDigits_one h]
  exact this ⟨n, h⟩

end Go.Proofs.YtpifbgefkbhopaaGreatDoor

namespace Go.Proofs.YtpifbgefkbhopaaGreatDoor
open Go.RowKit

def groupN (x y z : UInt8) : Nat := 65536 * x.toNat + 256 * y.toNat + z.toNat
theorem groupN_lt (x y z : UInt8) : groupN x y z < 16777216 := by
  have h1 := x.toNat_lt
  have h2 := y.toNat_lt
  have h3 := z.toNat_lt
  unfold groupN; omega

theorem list3 (t : ByteArray) (h : 3 ≤ t.size) : t.data.toList = t[0] :: t[1] :: t[2] :: t.data.toList.drop 3 := by
  have e0 := drop_cons_at t 0 (by omega)
  have e1 := drop_cons_at t 1 (by omega)
  have e2 := drop_cons_at t 2 (by omega)
  rw [List.drop_zero] at e0
  rw [← e2, ← e1]; exact e0

theorem cat4 (acc : List UInt8) (a b c d : UInt8) : strB acc ++ strB [a] ++ strB [b] ++ strB [c] ++ strB [d] = strB (acc ++ [a, b, c, d]) := by
  simp only [strB_append, List.append_assoc, List.cons_append, List.nil_append]

theorem wrap_sum2 (x y : UInt8) : wrap64 (wrap64 ((65536 : Int) * wrap64 (x.toNat : Int)) + wrap64 ((256 : Int) * wrap64 (y.toNat : Int))) = (65536 : Int) * (x.toNat : Int) + 256 * (y.toNat : Int) := by
  have b0 := x.toNat_lt
  have b1 := y.toNat_lt
  rw [IntWalk.wrap64_in (x.toNat : Int) (by omega), IntWalk.wrap64_in (y.toNat : Int) (by omega), IntWalk.wrap64_in ((65536 : Int) * (x.toNat : Int)) (by omega), IntWalk.wrap64_in ((256 : Int) * (y.toNat : Int)) (by omega)]
  exact IntWalk.wrap64_in _ (by omega)
theorem wrap_sum3 (x y z : UInt8) : wrap64 (wrap64 (wrap64 ((65536 : Int) * wrap64 (x.toNat : Int)) + wrap64 ((256 : Int) * wrap64 (y.toNat : Int))) + wrap64 (z.toNat : Int)) = (65536 : Int) * (x.toNat : Int) + 256 * (y.toNat : Int) + (z.toNat : Int) := by
  have b0 := x.toNat_lt
  have b1 := y.toNat_lt
  have b2 := z.toNat_lt
  rw [wrap_sum2, IntWalk.wrap64_in (z.toNat : Int) (by omega)]
  exact IntWalk.wrap64_in _ (by omega)

set_option maxRecDepth 100000 in
set_option maxHeartbeats 1000000 in
theorem fencode_any (s : ByteArray) (w : World) (hs : s.size ≤ 1000000) :
    Calls Tryz.prog 157 #[.string s] w fun e w' => e = .returned (.string (strB (encL s.data.toList))) ∧ Below w.heap.size w w' := by
  go_enter Tryz.func157, Tryz.ntmps157
  go_wp2
  go_loopw [0, 3] (fun x v wr => ∃ (t : ByteArray) (acc : List UInt8), x = .string t ∧ v = .string (strB acc) ∧ 3 * acc.length + 4 * t.size ≤ 4 * s.size ∧ t.size ≤ s.size ∧ Hid (encL s.data.toList = acc ++ encL t.data.toList) ∧ Below w.heap.size w wr) (fun x _ _ => strLen x)
  case atStart => exact ⟨s, [], rfl, rfl, by simp, by omega, Lib.hid rfl, Below.refl _ _⟩
  case round =>
    obtain ⟨t, acc, rfl, rfl, hle, hts, H, hb⟩ := hrel
    have haz : (strB acc).size ≤ 2000000 := by rw [strB_size]; omega
    by_cases h3 : 3 ≤ t.size
    · have Hl := Lib.hid (list3 t h3)
      have k0 : 0 < t.size := by omega
      have k1 : 1 < t.size := by omega
      have k2 : 2 < t.size := by omega
      have j0 : (0 : Int) < (t.size : Int) := by omega
      have j1 : (1 : Int) < (t.size : Int) := by omega
      have j2 : (2 : Int) < (t.size : Int) := by omega
      obtain ⟨N, hN⟩ : ∃ N : Nat, groupN t[0] t[1] t[2] = N := ⟨_, rfl⟩
      have hN2 : N < 16777216 := by rw [← hN]; exact groupN_lt _ _ _
      have Hsum : Hid ((65536 : Int) * (t[0].toNat : Int) + (256 : Int) * (t[1].toNat : Int) + (t[2].toNat : Int) = (N : Int)) := Lib.hid (by rw [← hN, groupN]; omega)
      have b0 := t[0].toNat_lt
      have b1 := t[1].toNat_lt
      have b2 := t[2].toNat_lt
      have W := Lib.hid (wrap_sum3 t[0] t[1] t[2])
      rw [Hsum.out] at W
      clear b0 b1 b2
      have HN := Lib.hid hN
      clear hN
      go_wp2_with fail
      go_quiet (fail)
      rw [W.out]
      obtain ⟨a, ha⟩ : ∃ a, N / 262144 = a := ⟨_, rfl⟩
      obtain ⟨b, hbb⟩ : ∃ b, N / 4096 % 64 = b := ⟨_, rfl⟩
      obtain ⟨c, hc⟩ : ∃ c, N / 64 % 64 = c := ⟨_, rfl⟩
      obtain ⟨d, hd⟩ : ∃ d, N % 64 = d := ⟨_, rfl⟩
      have He : Hid (encL s.data.toList = (acc ++ [alp a, alp b, alp c, alp d]) ++ encL (t.data.toList.drop 3)) := Lib.hid (by
        rw [H.out, Hl.out, encL, c0, c1, c2, c3]
        simp only [groupN] at HN
        rw [HN.out, ha, hbb, hc, hd, List.append_assoc]
        rfl)
      have Hx : Hid ((t.extract 3 t.size).data.toList = t.data.toList.drop 3) := Lib.hid (Lib.extract_to_end t 3)
      have Hxs : Hid ((t.extract 3 t.size).size + 3 = t.size) := Lib.hid (by rw [Lib.size_eq, Hx.out, List.length_drop, ← Lib.size_eq]; omega)
      have qa : (N : Int) / 262144 = (a : Int) := by omega
      have qb : (N : Int) / 4096 % 64 = (b : Int) := by omega
      have qc : (N : Int) / 64 % 64 = (c : Int) := by omega
      have qd : (N : Int) % 64 = (d : Int) := by omega
      have cA := fun W => fsign_any a W (by omega)
      have cB := fun W => fsign_any b W (by omega)
      have cC := fun W => fsign_any c W (by omega)
      have cD := fun W => fsign_any d W (by omega)
      have HS := Lib.hid (cat4 acc (alp a) (alp b) (alp c) (alp d))
      have z1 : (strB [alp a]).size = 1 := rfl
      have z2 : (strB [alp b]).size = 1 := rfl
      have z3 : (strB [alp c]).size = 1 := rfl
      have z4 : (strB [alp d]).size = 1 := rfl
      generalize strB [alp a] = A at *
      generalize strB [alp b] = B at *
      generalize strB [alp c] = C at *
      generalize strB [alp d] = D at *
      generalize hSe : strB acc = S at *
      have HSe := Lib.hid hSe
      clear ha hbb hc hd hSe H Hl Hsum HN
      go_wp2_with fail
      refine (cA _).mono ?_
      rintro e w' ⟨rfl, rfl⟩
      go_wp2_with fail
      refine (cB _).mono ?_
      rintro e w' ⟨rfl, rfl⟩
      go_wp2_with fail
      refine (cC _).mono ?_
      rintro e w' ⟨rfl, rfl⟩
      go_wp2_with fail
      refine (cD _).mono ?_
      rintro e w' ⟨rfl, rfl⟩
      go_wp2_with fail
      go_roundw
      case rel =>
        refine ⟨_, acc ++ [alp a, alp b, alp c, alp d], rfl, by rw [← HS.out], ?_, ?_, Lib.hid (by rw [Hx.out]; exact He.out), hb.trans ((below_drewN _ _).mono hb.size)⟩
        · have := Hxs.out; simp only [List.length_append, List.length_cons, List.length_nil]; omega
        · have := Hxs.out; omega
      case measure => have := Hxs.out; simp only [strLen]; omega
    · by_cases hz2 : t.size = 2
      · have k0 : 0 < t.size := by omega
        have k1 : 1 < t.size := by omega
        have Hl : Hid (t.data.toList = [t[0], t[1]]) := Lib.hid (by
          have e0 := drop_cons_at t 0 k0
          have e1 := drop_cons_at t 1 k1
          rw [List.drop_zero] at e0
          have e2 : t.data.toList.drop (1 + 1) = [] := List.drop_of_length_le (by rw [← Lib.size_eq]; omega)
          rw [e0, e1, e2])
        have j0 : (0 : Int) < (t.size : Int) := by omega
        have j1 : (1 : Int) < (t.size : Int) := by omega
        obtain ⟨N, hN⟩ : ∃ N : Nat, groupN t[0] t[1] 0 = N := ⟨_, rfl⟩
        have hN2 : N < 16777216 := by rw [← hN]; exact groupN_lt _ _ _
        have Hsum : Hid ((65536 : Int) * (t[0].toNat : Int) + (256 : Int) * (t[1].toNat : Int) = (N : Int)) := Lib.hid (by rw [← hN, groupN, z0]; omega)
        have b0 := t[0].toNat_lt
        have b1 := t[1].toNat_lt
        have W := Lib.hid (wrap_sum2 t[0] t[1])
        rw [Hsum.out] at W
        have g2 : ((t.size : Int) == 2) = true := by simp; omega
        have g1 : ((t.size : Int) == 1) = false := by simp; omega
        clear b0 b1
        have HN := Lib.hid hN
        have Hz2 := Lib.hid hz2
        clear hN hz2
        go_wp2_with fail
        go_quiet (fail)
        rw [W.out]
        obtain ⟨a, ha⟩ : ∃ a, N / 262144 = a := ⟨_, rfl⟩
        obtain ⟨b, hbb⟩ : ∃ b, N / 4096 % 64 = b := ⟨_, rfl⟩
        obtain ⟨c, hc⟩ : ∃ c, N / 64 % 64 = c := ⟨_, rfl⟩
        have He : Hid (encL s.data.toList = acc ++ [alp a, alp b, alp c, 61]) := Lib.hid (by
          rw [H.out, Hl.out, encL, c0, c1, c2]
          simp only [groupN] at HN
          rw [HN.out, ha, hbb, hc])
        have qa : (N : Int) / 262144 = (a : Int) := by omega
        have qb : (N : Int) / 4096 % 64 = (b : Int) := by omega
        have qc : (N : Int) / 64 % 64 = (c : Int) := by omega
        have cA := fun W => fsign_any a W (by omega)
        have cB := fun W => fsign_any b W (by omega)
        have cC := fun W => fsign_any c W (by omega)
        have HS := Lib.hid (cat4 acc (alp a) (alp b) (alp c) 61)
        rw [show strB [61] = (⟨#[61]⟩ : ByteArray) from rfl, ← He.out] at HS
        have z1 : (strB [alp a]).size = 1 := rfl
        have z2 : (strB [alp b]).size = 1 := rfl
        have z3 : (strB [alp c]).size = 1 := rfl
        generalize strB [alp a] = A at *
        generalize strB [alp b] = B at *
        generalize strB [alp c] = C at *
        generalize strB acc = S at *
        clear ha hbb hc H Hl Hsum HN He
        go_wp2_with fail
        refine (cA _).mono ?_
        rintro e w' ⟨rfl, rfl⟩
        go_wp2_with fail
        refine (cB _).mono ?_
        rintro e w' ⟨rfl, rfl⟩
        go_wp2_with fail
        refine (cC _).mono ?_
        rintro e w' ⟨rfl, rfl⟩
        go_wp2_with fail
        go_ret
        exact ⟨by rw [← HS.out] <;> rfl, hb.trans ((below_drewN _ _).mono hb.size)⟩
      · by_cases hz1 : t.size = 1
        · have k0 : 0 < t.size := by omega
          have Hl : Hid (t.data.toList = [t[0]]) := Lib.hid (by
            have e0 := drop_cons_at t 0 k0
            rw [List.drop_zero] at e0
            have e2 : t.data.toList.drop (0 + 1) = [] := List.drop_of_length_le (by rw [← Lib.size_eq]; omega)
            rw [e0, e2])
          obtain ⟨N, hN⟩ : ∃ N : Nat, groupN t[0] 0 0 = N := ⟨_, rfl⟩
          have hN2 : N < 16777216 := by rw [← hN]; exact groupN_lt _ _ _
          have hsum : (65536 : Int) * (t[0].toNat : Int) = (N : Int) := by rw [← hN, groupN, z0]; omega
          have b0 := t[0].toNat_lt
          have g2 : ((t.size : Int) == 2) = false := by simp; omega
          have g1 : ((t.size : Int) == 1) = true := by simp; omega
          have HN := Lib.hid hN
          have Hz1 := Lib.hid hz1
          clear hN hz1
          obtain ⟨a, ha⟩ : ∃ a, N / 262144 = a := ⟨_, rfl⟩
          obtain ⟨b, hbb⟩ : ∃ b, N / 4096 % 64 = b := ⟨_, rfl⟩
          have He : Hid (encL s.data.toList = acc ++ [alp a, alp b, 61, 61]) := Lib.hid (by
            rw [H.out, Hl.out, encL, c0, c1]
            simp only [groupN] at HN
            rw [HN.out, ha, hbb])
          have qa : (N : Int) / 262144 = (a : Int) := by omega
          have qb : (N : Int) / 4096 % 64 = (b : Int) := by omega
          have cA := fun W => fsign_any a W (by omega)
          have cB := fun W => fsign_any b W (by omega)
          have HS : Hid (strB acc ++ strB [alp a] ++ strB [alp b] ++ (⟨#[61, 61]⟩ : ByteArray) = strB (encL s.data.toList)) := Lib.hid (by
            rw [show (⟨#[61, 61]⟩ : ByteArray) = strB [61, 61] from rfl, He.out]
            simp only [strB_append, List.append_assoc, List.cons_append, List.nil_append])
          have z1 : (strB [alp a]).size = 1 := rfl
          have z2 : (strB [alp b]).size = 1 := rfl
          generalize strB [alp a] = A at *
          generalize strB [alp b] = B at *
          generalize strB acc = S at *
          clear ha hbb H Hl HN He
          go_wp2_with fail
          refine (cA _).mono ?_
          rintro e w' ⟨rfl, rfl⟩
          go_wp2_with fail
          refine (cB _).mono ?_
          rintro e w' ⟨rfl, rfl⟩
          go_wp2_with fail
          go_ret
          exact ⟨by rw [← HS.out] <;> rfl, hb⟩
        · have hz0 : t.size = 0 := by omega
          have He : Hid (strB acc = strB (encL s.data.toList)) := Lib.hid (by
            have e0 : t.data.toList = [] := List.eq_nil_of_length_eq_zero (by rw [← Lib.size_eq]; exact hz0)
            rw [H.out, e0, encL, List.append_nil])
          have g2 : ((t.size : Int) == 2) = false := by simp; omega
          have g1 : ((t.size : Int) == 1) = false := by simp; omega
          clear hz0 H
          go_wp2_with fail
          go_ret
          exact ⟨by rw [← He.out] <;> rfl, hb⟩

end Go.Proofs.YtpifbgefkbhopaaGreatDoor

namespace Go.Proofs.YtpifbgefkbhopaaGreatDoor
open Go.RowKit

theorem bt_tt (c : UInt8) (h : btI c.toNat = true) : ttI c.toNat = true := by
  have := all_bytes (fun c => !btI c.toNat || ttI c.toNat) (by decide +kernel) c
  rw [h] at this
  exact this

theorem btI_is (x : Int) : btI x = (ltrI x || x == 42) := rfl

theorem takeWhile_full (p : UInt8 → Bool) : ∀ l : List UInt8, l.all p = true → l.takeWhile p = l
  | [], _ => rfl
  | c :: l, h => by
    rw [List.all_cons, Bool.and_eq_true] at h
    rw [List.takeWhile_cons, h.1, takeWhile_full p l h.2] <;> rfl

/-- A text is a token just if it begins as one and all of it may stand in one. -/
theorem tlen_all (c : UInt8) (r : List UInt8) : (tlen (c :: r) == (c :: r).length) = ((c :: r).all (fun c => ttI c.toNat) && btI c.toNat) := by
  cases hb : btI c.toNat
  · rw [tlen, hb]; simp
  · have hc := bt_tt c hb
    rw [tlen, if_pos hb, List.all_cons, hc, Bool.true_and, Bool.and_true, List.length_cons]
    cases ha : r.all (fun c => ttI c.toNat)
    · have : (r.takeWhile (fun c => ttI c.toNat)).length ≠ r.length := by
        intro e
        rw [takeWhile_len _ r e] at ha; cases ha
      simp; omega
    · rw [takeWhile_full _ r ha]
      simp; omega

end Go.Proofs.YtpifbgefkbhopaaGreatDoor

namespace Go.Proofs.YtpifbgefkbhopaaGreatDoor
open Go.RowKit

theorem quote_pr (c : UInt8) (h : prI c.toNat = false) : c ≠ 34 ∧ c ≠ 92 := by
  refine ⟨?_, ?_⟩ <;> (intro e; subst e; exact absurd h (by decide))
theorem prI_nat (c : UInt8) : prI c.toNat = (!decide (c.toNat < 32) && !decide (126 < c.toNat)) := by
  rw [Bool.eq_iff_iff]
  simp [prI]
  omega

set_option maxRecDepth 100000 in
set_option maxHeartbeats 1000000 in
theorem freadString_any (s : ByteArray) (w : World) (h0 : 0 < s.size) (hs : s.size ≤ 100000) :
    Calls Tryz.prog 141 #[.string s] w (gotPost (gotV (readStrL s.data.toList)) w) := by
  have hb0 : Below w.heap.size w (w.alloc zeroBare) := (Below.refl _ _).alloc (Nat.le_refl _) _
  have Hb0 := Lib.hid hb0
  clear hb0
  go_enter Tryz.func141, Tryz.ntmps141
  go_wp2
  go_loop [5, 6] (fun v i => ∃ (k : Nat) (acc : List UInt8), i = .int .i64 k ∧ v = .string (strB acc) ∧ 1 ≤ k ∧ k ≤ s.size ∧ acc.length ≤ k ∧ Hid (readStrL s.data.toList = rsL (s.data.toList.drop k) acc k)) (fun _ i => s.size - (intOf i).toNat)
  case atStart => exact ⟨1, [], rfl, rfl, by omega, by omega, by simp, Lib.hid rfl⟩
  case round =>
    obtain ⟨k, acc, rfl, rfl, hk1, hk, hal, H⟩ := hrel
    have haz : (strB acc).size ≤ 100000 := by rw [strB_size]; omega
    by_cases hlt : k < s.size
    · have hdr := drop_cons_at s k hlt
      have hone := one_at s k hlt
      cases h1 : (((s[k]'hlt).toNat : Int) == 34)
      · have n1 : s[k]'hlt ≠ 34 := by
          intro e; rw [e] at h1; exact absurd h1 (by decide)
        cases h2 : (((s[k]'hlt).toNat : Int) == 92)
        · have n2 : s[k]'hlt ≠ 92 := by
            intro e; rw [e] at h2; exact absurd h2 (by decide)
          rw [hdr, rsL_other _ _ _ _ n1 n2, prI_nat] at H
          by_cases g1 : (s[k]'hlt).toNat < 32
          · have HR : Hid (readStrL s.data.toList = none) := Lib.hid (by rw [H.out]; simp [g1])
            clear hdr hone n1 n2 H
            go_wp2
            exact bodyPost_ret (v := gotV none) (by simp [results, Tryz.results141, go_sem, gotV]) rfl ⟨by rw [HR.out], Hb0.out⟩
          · by_cases g2 : 126 < (s[k]'hlt).toNat
            · have HR : Hid (readStrL s.data.toList = none) := Lib.hid (by rw [H.out]; simp [g2])
              clear hdr hone n1 n2 H
              go_wp2
              exact bodyPost_ret (v := gotV none) (by simp [results, Tryz.results141, go_sem, gotV]) rfl ⟨by rw [HR.out], Hb0.out⟩
            · have HR : Hid (readStrL s.data.toList = rsL (s.data.toList.drop (k + 1)) (acc ++ [s[k]'hlt]) (k + 1)) := Lib.hid (by rw [H.out]; simp [g1, g2])
              have HS : Hid (strB acc ++ s.extract k (k + 1) = strB (acc ++ [s[k]'hlt])) := Lib.hid (by rw [hone, strB_append])
              have hz : (s.extract k (k + 1)).size = 1 := by rw [hone] <;> rfl
              clear hdr hone n1 n2 H
              generalize strB acc = S at *
              go_wp2
              go_round
              case rel => exact ⟨k + 1, acc ++ [s[k]], by go_num, by rw [← HS.out], by omega, by omega, by simp; omega, Lib.hid HR.out⟩
              case measure => simp [intOf]; omega
        · have e2 : s[k]'hlt = 92 := by
            have := byte_beq (s[k]'hlt) 92
            rw [show ((92 : UInt8).toNat : Int) = 92 from rfl, h2] at this
            simpa using this.symm
          have g1 : ¬ (s[k]'hlt).toNat < 32 := by rw [e2]; decide
          have g2 : ¬ 126 < (s[k]'hlt).toNat := by rw [e2]; decide
          by_cases hlt2 : k + 1 < s.size
          · rw [hdr, e2, drop_cons_at s (k + 1) hlt2, rsL_esc] at H
            have hone2 := one_at s (k + 1) hlt2
            have hesc : escI ((s[k + 1]'hlt2).toNat : Int) = (((s[k + 1]'hlt2).toNat : Int) == 34 || ((s[k + 1]'hlt2).toNat : Int) == 92) := rfl
            rw [hesc] at H
            clear hesc
            have HS : Hid (strB acc ++ s.extract (k + 1) (k + 1 + 1) = strB (acc ++ [s[k + 1]'hlt2])) := Lib.hid (by rw [hone2, strB_append])
            have hz : (s.extract (k + 1) (k + 1 + 1)).size = 1 := by rw [hone2] <;> rfl
            clear hdr hone hone2 n1 e2
            cases p1 : (((s[k + 1]'hlt2).toNat : Int) == 34) <;> cases p2 : (((s[k + 1]'hlt2).toNat : Int) == 92)
            · have HR : Hid (readStrL s.data.toList = none) := Lib.hid (by rw [H.out, p1, p2] <;> rfl)
              have b1 : (((s[k + 1]'hlt2).toNat : Int) != 34) = true := by rw [bne, p1] <;> rfl
              have b2 : (((s[k + 1]'hlt2).toNat : Int) != 92) = true := by rw [bne, p2] <;> rfl
              clear H p1 p2
              go_wp2
              exact bodyPost_ret (v := gotV none) (by simp [results, Tryz.results141, go_sem, gotV]) rfl ⟨by rw [HR.out], Hb0.out⟩
            all_goals
              have HR : Hid (readStrL s.data.toList = rsL (s.data.toList.drop (k + 1 + 1)) (acc ++ [s[k + 1]'hlt2]) (k + 2)) := Lib.hid (by rw [H.out, p1, p2] <;> rfl)
              have b1 : (((s[k + 1]'hlt2).toNat : Int) != 34) = !(((s[k + 1]'hlt2).toNat : Int) == 34) := rfl
              have b2 : (((s[k + 1]'hlt2).toNat : Int) != 92) = !(((s[k + 1]'hlt2).toNat : Int) == 92) := rfl
              rw [p1] at b1
              rw [p2] at b2
              simp only [Bool.not_true, Bool.not_false] at b1 b2
              clear H p1 p2
              generalize strB acc = S at *
              go_wp2
              go_round
              case rel => exact ⟨k + 2, acc ++ [s[k + 1]], by go_num, by rw [← HS.out], by omega, by omega, by simp; omega, Lib.hid HR.out⟩
              case measure => simp [intOf]; omega
          · have hd1 : s.data.toList.drop (k + 1) = [] := List.drop_of_length_le (by rw [← Lib.size_eq]; omega)
            rw [hdr, e2, hd1, rsL_esc_end] at H
            clear hdr n1 e2 hd1 hone
            go_wp2
            exact bodyPost_ret (v := gotV none) (by simp [results, Tryz.results141, go_sem, gotV]) rfl ⟨by rw [H.out], Hb0.out⟩
      · have e1 : s[k]'hlt = 34 := by
          have := byte_beq (s[k]'hlt) 34
          rw [show ((34 : UInt8).toNat : Int) = 34 from rfl, h1] at this
          simpa using this.symm
        rw [hdr, e1, rsL_quote] at H
        clear hdr e1 hone
        go_wp2
        exact bodyPost_ret (v := gotV (some ⟨3, 0, acc, k + 1⟩)) (by simp [results, Tryz.results141, go_sem, gotV]) rfl ⟨by rw [H.out], (Below.refl _ _).alloc (Nat.le_refl _) _⟩
    · have hd1 : s.data.toList.drop k = [] := List.drop_of_length_le (by rw [← Lib.size_eq]; omega)
      rw [hd1, rsL.eq_def] at H
      clear hd1
      go_wp2
      exact bodyPost_ret (v := gotV none) (by simp [results, Tryz.results141, go_sem, gotV]) rfl ⟨by rw [H.out], Hb0.out⟩

end Go.Proofs.YtpifbgefkbhopaaGreatDoor

namespace Go.Proofs.YtpifbgefkbhopaaGreatDoor
open Go.RowKit

theorem bare_cells (w : World) (a b : Int) (t : ByteArray) (W : World) (hb : Below (w.heap.size + 1) (w.alloc (.cells #[.int .i64 a, .int .i64 b, .string t] 80)) W) :
    (W.cell? ⟨w.heap.size, 0, none⟩ = some (.int .i64 a) ∧ W.cell? ⟨w.heap.size, 1, none⟩ = some (.int .i64 b) ∧ W.cell? ⟨w.heap.size, 2, none⟩ = some (.string t)) := by
  refine ⟨?_, ?_, ?_⟩
  · rw [hb.cell (p := ⟨w.heap.size, 0, none⟩) (by simp)]; simp
  · rw [hb.cell (p := ⟨w.heap.size, 1, none⟩) (by simp)]; simp
  · rw [hb.cell (p := ⟨w.heap.size, 2, none⟩) (by simp)]; simp

end Go.Proofs.YtpifbgefkbhopaaGreatDoor

namespace Go.Proofs.YtpifbgefkbhopaaGreatDoor
open Go.RowKit

theorem dig48 (d : Nat) (h : d < 10) (h0 : 0 < d) : (UInt8.ofNat (48 + d) == 48) = false := by
  have : UInt8.ofNat (48 + d) ≠ 48 := by
    intro e
    have := congrArg UInt8.toNat e
    rw [digit_nat d h] at this
    have h48 : (48 : UInt8).toNat = 48 := rfl
    omega
  simpa using this

theorem trim2 (x y : UInt8) (h : (y == 48) = false) : Lib.trimRightB [x, y] 48 = [x, y] := by simp [Lib.trimRightB, h]
theorem trim1 (x : UInt8) (h : (x == 48) = false) : Lib.trimRightB [x, 48] 48 = [x] := by simp [Lib.trimRightB, h]
theorem decN_a (m a b c d : Nat) (ha : m / 1000 = a) (hb : m / 100 % 10 = b) (hc : m / 10 % 10 = c) (hd : m % 10 = d) (h : 0 < d) : decN m = Lib.decDigits a ++ [46, UInt8.ofNat (48 + b), UInt8.ofNat (48 + c), UInt8.ofNat (48 + d)] := by
  rw [decN, ha, show m % 1000 / 100 = b by omega, show m % 1000 / 10 % 10 = c by omega, show m % 1000 % 10 = d by omega, trim2 _ _ (dig48 d (by omega) h)]
theorem decN_b (m a b c d : Nat) (ha : m / 1000 = a) (hb : m / 100 % 10 = b) (hc : m / 10 % 10 = c) (hd : m % 10 = d) (h : d = 0) (h2 : 0 < c) : decN m = Lib.decDigits a ++ [46, UInt8.ofNat (48 + b), UInt8.ofNat (48 + c)] := by
  rw [decN, ha, show m % 1000 / 100 = b by omega, show m % 1000 / 10 % 10 = c by omega, show m % 1000 % 10 = d by omega, h, show UInt8.ofNat (48 + 0) = 48 from rfl, trim1 _ (dig48 c (by omega) h2)]
theorem decN_c (m a b c d : Nat) (ha : m / 1000 = a) (hb : m / 100 % 10 = b) (hc : m / 10 % 10 = c) (hd : m % 10 = d) (h : d = 0) (h2 : c = 0) : decN m = Lib.decDigits a ++ [46, UInt8.ofNat (48 + b)] := by
  rw [decN, ha, show m % 1000 / 100 = b by omega, show m % 1000 / 10 % 10 = c by omega, show m % 1000 % 10 = d by omega, h, h2]
  rfl

def txtPost (v : Value) (w : World) (e : Ending) (w' : World) : Prop := e = .returned v ∧ Below w.heap.size w w'

theorem bare_below (w : World) (o : Obj) : Below w.heap.size w (w.alloc o) := (Below.refl _ _).alloc (Nat.le_refl _) _

end Go.Proofs.YtpifbgefkbhopaaGreatDoor
