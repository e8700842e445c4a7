/- Plain facts about bare items: what is read may be, and lies within the text. No program is walked. · The contracts of item's functions on one byte and on keys: beginsKey, inKey, keyLength, Key, ReadKey, unspoken. · The parser's place in memory, and the contract of its take. · The contract of the parser's value. · The contract of the parser's param. -/
import Derived.Test.YtjbipplaacgnkaaGreatDoorGD
import Derived.Deep.QuietTactic
import Derived.BigQuiet
import Derived.IntWalk
import Derived.Deep.RegionHeld3

namespace Go.Proofs.YtjbipplaacgnkaaGreatDoor

theorem numTail_right (b : Nat) (sg : Int) (l : List UInt8) (g : Got) (hb : (b = 0 ∧ sg = 1) ∨ (b = 1 ∧ sg = -1)) (hl : b ≤ l.length) (h : numTail b sg l = some g) :
    rightL g.k g.n g.s = true ∧ 1 ≤ g.m ∧ g.m ≤ l.length ∧ g.s = [] := by
  have za := ldig_all (l.drop b)
  have zl := ldig_len_le (l.drop b)
  rw [List.length_drop] at zl
  unfold numTail at h
  generalize ldig (l.drop b) = z at *
  split at h
  · cases h
  · rename_i hz
    split at h
    · have pa := ldig_all (l.drop (b + z.length + 1))
      have pl := ldig_len_le (l.drop (b + z.length + 1))
      rw [List.length_drop] at pl
      generalize ldig (l.drop (b + z.length + 1)) = p at *
      split at h
      · cases h
      · rename_i hp
        obtain rfl := Option.some.inj h
        obtain ⟨n0, n1⟩ := numL_in (z ++ (p ++ [48, 48]).take 3) (by rw [List.all_append, za, pad_all p pa]; rfl) (by rw [List.length_append, List.length_take]; omega)
        obtain ⟨s0, s1⟩ := i64_mul_sign b sg _ hb n0 n1
        refine ⟨?_, ?_, ?_, rfl⟩
        · rw [right_num _ _ _ (.inr rfl), inNum]
          simp [s0, s1]
        · show 1 ≤ _ + 1 + p.length
          omega
        · show _ + 1 + p.length ≤ l.length
          omega
    · obtain rfl := Option.some.inj h
      obtain ⟨n0, n1⟩ := numL_in z za (by omega)
      obtain ⟨s0, s1⟩ := i64_mul_sign b sg _ hb n0 n1
      refine ⟨?_, ?_, ?_, rfl⟩
      · rw [right_num _ _ _ (.inl rfl), inNum]
        simp [s0, s1]
      · show 1 ≤ b + z.length
        omega
      · show b + z.length ≤ l.length
        omega

theorem readNumL_right (l : List UInt8) (g : Got) (h : readNumL l = some g) : rightL g.k g.n g.s = true ∧ 1 ≤ g.m ∧ g.m ≤ l.length ∧ g.s = [] := by
  unfold readNumL at h
  split at h
  · rename_i hh
    exact numTail_right 1 (-1) l g (.inr ⟨rfl, rfl⟩) (by cases l with | nil => simp at hh | cons c r => simp) h
  · exact numTail_right 0 1 l g (.inl ⟨rfl, rfl⟩) (Nat.zero_le _) h

theorem esc_pr (c : UInt8) (h : escI c.toNat = true) : prI c.toNat = true := by
  have := all_bytes (fun c => !escI c.toNat || prI c.toNat) (by decide +kernel) c
  rw [h] at this
  exact this

theorem prL_snoc (acc : List UInt8) (c : UInt8) (h1 : prL acc = true) (h2 : prI c.toNat = true) : prL (acc ++ [c]) = true := by
  rw [prL] at *
  rw [List.all_append, h1, Bool.true_and, List.all_cons, h2]; rfl

theorem rsL_right : ∀ (l acc : List UInt8) (m : Nat) (g : Got), prL acc = true → rsL l acc m = some g → g.k = 3 ∧ g.n = 0 ∧ prL g.s = true ∧ m + 1 ≤ g.m ∧ g.m ≤ m + l.length ∧ g.s.length ≤ acc.length + l.length
  | [], _, _, _, _, h => by rw [rsL.eq_def] at h; cases h
  | [c], acc, m, g, ha, h => by
    by_cases h1 : c = 34
    · subst h1
      rw [rsL_quote] at h
      obtain rfl := Option.some.inj h
      exact ⟨rfl, rfl, ha, Nat.le_refl _, by simp, by simp⟩
    · by_cases h2 : c = 92
      · subst h2
        rw [rsL_esc_end] at h; cases h
      · rw [rsL_other _ _ _ _ h1 h2] at h
        split at h
        · rw [rsL.eq_def] at h; cases h
        · cases h
  | c :: d :: q, acc, m, g, ha, h => by
    by_cases h1 : c = 34
    · subst h1
      rw [rsL_quote] at h
      obtain rfl := Option.some.inj h
      exact ⟨rfl, rfl, ha, Nat.le_refl _, by simp, by simp⟩
    · by_cases h2 : c = 92
      · subst h2
        rw [rsL_esc] at h
        split at h
        · rename_i he
          obtain ⟨r1, r2, r3, r4, r5, r6⟩ := rsL_right q (acc ++ [d]) (m + 2) g (prL_snoc acc d ha (esc_pr d he)) h
          simp only [List.length_append, List.length_cons, List.length_nil] at r6 ⊢
          exact ⟨r1, r2, r3, by omega, by omega, by omega⟩
        · cases h
      · rw [rsL_other _ _ _ _ h1 h2] at h
        split at h
        · rename_i he
          obtain ⟨r1, r2, r3, r4, r5, r6⟩ := rsL_right (d :: q) (acc ++ [c]) (m + 1) g (prL_snoc acc c ha he) h
          simp only [List.length_append, List.length_cons, List.length_nil] at r5 r6 ⊢
          exact ⟨r1, r2, r3, by omega, by omega, by omega⟩
        · cases h

theorem takeWhile_again (p : UInt8 → Bool) : ∀ l : List UInt8, (l.takeWhile p).takeWhile p = l.takeWhile p
  | [] => rfl
  | c :: l => by
    rw [List.takeWhile_cons]
    split
    · rename_i h
      rw [List.takeWhile_cons, h, takeWhile_again p l]; rfl
    · rfl

theorem tok_right (c : UInt8) (r : List UInt8) (h : btI c.toNat = true) : rightL 4 0 ((c :: r).take (tlen (c :: r))) = true ∧ 1 ≤ tlen (c :: r) := by
  have e : tlen (c :: r) = (r.takeWhile (fun c => ttI c.toNat)).length + 1 := by rw [tlen, if_pos h]; omega
  rw [e, List.take_succ_cons, take_takeWhile, right_tok]
  have e2 : tlen (c :: r.takeWhile (fun c => ttI c.toNat)) = (r.takeWhile (fun c => ttI c.toNat)).length + 1 := by rw [tlen, if_pos h, takeWhile_again]; omega
  rw [e2]
  simp

/-- What is read may be, and lies within the text. -/
theorem readL_right (l : List UInt8) (g : Got) (h : readL l = some g) : rightL g.k g.n g.s = true ∧ 1 ≤ g.m ∧ g.m ≤ l.length ∧ g.s.length ≤ l.length := by
  cases l with
  | nil => cases h
  | cons c r =>
    unfold readL at h
    dsimp only at h
    split at h
    · obtain ⟨h1, h2, h3, h4⟩ := readNumL_right _ g h
      exact ⟨h1, h2, h3, by rw [h4]; simp⟩
    · split at h
      · rw [readStrL, List.drop_one, List.tail_cons] at h
        obtain ⟨r1, r2, r3, r4, r5, r6⟩ := rsL_right r [] 1 g rfl h
        simp only [List.length_cons, List.length_nil] at r6 ⊢
        exact ⟨by rw [r1, r2, right_str, r3]; rfl, by omega, by omega, by omega⟩
      · split at h
        · rename_i hb
          obtain rfl := Option.some.inj h
          obtain ⟨h1, h2⟩ := tok_right c r hb
          have h3 := tlen_le (c :: r)
          refine ⟨h1, h2, h3, ?_⟩
          show ((c :: r).take _).length ≤ _
          rw [List.length_take]; omega
        · split at h
          · unfold readBytesL at h
            rw [List.drop_one, List.tail_cons] at h
            split at h
            · cases h
            · rename_i hi
              obtain ⟨i0, i1⟩ := index_le _ _ hi
              split at h
              · cases h
              · rename_i b hb
                obtain rfl := Option.some.inj h
                have e := congrArg List.length (decL_some _ _ hb)
                rw [encL_len, List.length_take] at e
                refine ⟨by rw [right_bytes]; rfl, ?_, ?_, ?_⟩
                · show 1 ≤ _ + 2
                  omega
                · show _ + 2 ≤ _
                  simp only [List.length_cons]; omega
                · show b.length ≤ _
                  simp only [List.length_cons]; omega
          · split at h
            · unfold readBoolL at h
              split at h
              · rename_i c d q he
                split at h
                · rename_i hd
                  obtain rfl := Option.some.inj h
                  rw [List.cons.injEq] at he
                  obtain ⟨_, rfl⟩ := he
                  simp only [Bool.or_eq_true, beq_iff_eq] at hd
                  refine ⟨?_, by simp, by simp, by simp⟩
                  rw [right_bool]
                  rcases hd with rfl | rfl <;> decide
                · cases h
              · cases h
            · cases h

theorem right_n (k n : Int) (s : List UInt8) (h : rightL k n s = true) : -1000000000000000 < n ∧ n < 1000000000000000 := by
  rcases right_kind k n s h with ⟨_, _, g0, g1⟩ | ⟨_, _, g0⟩ | ⟨_, rfl, _⟩ | ⟨_, rfl, _, _⟩ | ⟨_, rfl⟩
  · exact ⟨g0, g1⟩
  · omega
  · decide
  · decide
  · decide

/-- How long a text is at most. -/
theorem textL_len (k n : Int) (s : List UInt8) (h : rightL k n s = true) : (textL k n s).length ≤ 2 * s.length + 20 := by
  rcases right_kind k n s h with ⟨rfl | rfl, rfl, g0, g1⟩ | ⟨rfl, rfl, g0⟩ | ⟨rfl, rfl, g0⟩ | ⟨rfl, rfl, g0, g1⟩ | ⟨rfl, rfl⟩
  · show (Lib.itoa n).length ≤ _
    unfold Lib.itoa
    split
    · have := decDigits_15 n.natAbs (by omega)
      simp only [List.length_cons]; omega
    · have := decDigits_15 n.toNat (by omega)
      omega
  · show (decT n).length ≤ _
    obtain ⟨p, e, _, p3, _, _⟩ := decN_is n.natAbs
    have := decDigits_12 (n.natAbs / 1000) (by omega)
    have hl : (decN n.natAbs).length ≤ 16 := by
      rw [e, List.length_append, List.length_cons]; omega
    unfold decT
    split
    · simp only [List.length_cons]; omega
    · omega
  · show (63 :: Lib.itoa n).length ≤ _
    rcases g0 with rfl | rfl
    · simp [Lib.itoa, Lib.decDigits_one]
    · simp [Lib.itoa, Lib.decDigits_one]
  · show (strT s).length ≤ _
    have := escL_len s
    simp only [strT, List.length_cons, List.length_append, List.length_nil]; omega
  · show s.length ≤ _
    omega
  · show (58 :: (encL s ++ [58])).length ≤ _
    have := encL_len s
    simp only [List.length_cons, List.length_append, List.length_nil]; omega

end Go.Proofs.YtjbipplaacgnkaaGreatDoor

namespace Go.Proofs.YtjbipplaacgnkaaGreatDoor
open Go.RowKit

def bkI (c : Int) : Bool := (decide (97 ≤ c) && decide (c ≤ 122)) || c == 42
def ikI (c : Int) : Bool := bkI c || digI c || c == 95 || c == 45 || c == 46

set_option maxHeartbeats 400000 in
theorem beginsKey_any (c : Int) (w : World) :
    Calls Tryz.prog 101 #[.int .u8 c] w fun e w' => e = .returned (.bool (bkI c)) ∧ w = w' := by
  have hd : bkI c = ((decide (97 ≤ c) && decide (c ≤ 122)) || c == 42) := rfl
  cases h1 : decide (97 ≤ c) <;> cases h2 : decide (c ≤ 122) <;> cases h3 : (c == 42)
  all_goals
    first
    | (exfalso; simp only [decide_eq_true_eq, decide_eq_false_iff_not, beq_iff_eq] at h1 h2 h3; omega)
    | (rw [h1, h2, h3] at hd
       simp only [Bool.and_true, Bool.and_false, Bool.or_true, Bool.or_false] at hd
       rw [hd]
       clear hd
       go_enter Tryz.func101, Tryz.ntmps101
       go_wp2
       go_ret
       exact ⟨rfl, rfl⟩)

set_option maxHeartbeats 1000000 in
theorem inKey_any (c : Int) (w : World) :
    Calls Tryz.prog 102 #[.int .u8 c] w fun e w' => e = .returned (.bool (ikI c)) ∧ w = w' := by
  have cB := beginsKey_any c w
  have hd : ikI c = (bkI c || (decide (48 ≤ c) && decide (c ≤ 57)) || c == 95 || c == 45 || c == 46) := rfl
  rw [hd]
  clear hd
  generalize bkI c = b at *
  cases b
  · cases h1 : decide (48 ≤ c) <;> cases h2 : decide (c ≤ 57) <;> cases h3 : (c == 95) <;> cases h4 : (c == 45) <;> cases h5 : (c == 46)
    all_goals
      first
      | (exfalso; simp only [decide_eq_true_eq, decide_eq_false_iff_not, beq_iff_eq] at h1 h2 h3 h4 h5; omega)
      | (go_enter Tryz.func102, Tryz.ntmps102
         go_wp2_with (go_at_call 101; refine cB.mono ?_; rintro e w' ⟨rfl, rfl⟩)
         go_ret
         exact ⟨rfl, rfl⟩)
  · go_enter Tryz.func102, Tryz.ntmps102
    go_wp2_with (go_at_call 101; refine cB.mono ?_; rintro e w' ⟨rfl, rfl⟩)
    go_ret
    exact ⟨by simp, rfl⟩

/-- How long the key is with which a text begins. -/
def klen : List UInt8 → Nat
  | [] => 0
  | c :: r => if bkI c.toNat then 1 + (r.takeWhile (fun c => ikI c.toNat)).length else 0

theorem klen_le (l : List UInt8) : klen l ≤ l.length := by
  cases l with
  | nil => exact Nat.le_refl _
  | cons c r =>
    unfold klen
    have := takeWhile_len_le (fun c => ikI c.toNat) r
    simp only [List.length_cons]
    split <;> omega

set_option maxHeartbeats 1000000 in
theorem keyLength_any (s : ByteArray) (w : World) (hs : s.size ≤ maxLen) :
    Calls Tryz.prog 80 #[.string s] w fun e w' => e = .returned (.int .i64 (klen s.data.toList : Int)) ∧ w = w' := by
  unfold maxLen at hs
  by_cases h0 : 0 < s.size
  · have hemp : s.toList.isEmpty = false := by rw [Lib.toList_data]; exact isEmpty_false_of s h0
    have cB := beginsKey_any ((s[0]'h0).toNat : Int) w
    have Hdr := Lib.hid (drop_cons_at s 0 h0)
    cases hb : bkI ((s[0]'h0).toNat : Int)
    · have Hz : Hid (klen s.data.toList = 0) := Lib.hid (by
        have := Hdr.out
        rw [List.drop_zero] at this
        rw [this, klen, hb]; rfl)
      rw [hb] at cB
      clear hb
      go_enter Tryz.func80, Tryz.ntmps80
      go_wp2_with (go_at_call 101; refine cB.mono ?_; rintro e w' ⟨rfl, rfl⟩)
      go_ret
      exact ⟨ret_eq (int_eq (by rw [Hz.out]; rfl)), rfl⟩
    · have Hz : Hid (klen s.data.toList = 1 + ((s.data.toList.drop 1).takeWhile (fun c => ikI c.toNat)).length) := Lib.hid (by
        have := Hdr.out
        rw [List.drop_zero] at this
        rw [this, klen, hb]; rfl)
      rw [hb] at cB
      clear hb Hdr
      go_enter Tryz.func80, Tryz.ntmps80
      go_wp2_with (go_at_call 101; refine cB.mono ?_; rintro e w' ⟨rfl, rfl⟩)
      go_loop [3] (fun i => ∃ k : Nat, 1 ≤ k ∧ k ≤ s.size ∧ i = .int .i64 k ∧ Hid (klen s.data.toList = k + ((s.data.toList.drop k).takeWhile (fun c => ikI c.toNat)).length)) (fun i => s.size - (intOf i).toNat)
      case atStart => exact ⟨1, by omega, by omega, rfl, Hz⟩
      case round =>
        clear Hz cB
        obtain ⟨k, hk1, hk, rfl, H⟩ := hrel
        by_cases hlt : k < s.size
        · have Hdr := Lib.hid (drop_cons_at s k hlt)
          have cT := inKey_any ((s[k]'hlt).toNat : Int) w
          cases hd : ikI (s[k].toNat : Int)
          · have Hf := Lib.hid hd
            rw [hd] at cT
            clear hd
            go_wp2_with (go_at_call 102; refine cT.mono ?_; rintro e w' ⟨rfl, rfl⟩)
            go_ret
            exact ⟨ret_eq (int_eq (by rw [H.out, Hdr.out, List.takeWhile_cons, Hf.out]; simp)), rfl⟩
          · have Hf := Lib.hid hd
            rw [hd] at cT
            clear hd
            go_wp2_with (go_at_call 102; refine cT.mono ?_; rintro e w' ⟨rfl, rfl⟩)
            go_round
            case rel => exact ⟨k + 1, by omega, by omega, by go_num, Lib.hid (by rw [H.out, Hdr.out, List.takeWhile_cons, Hf.out]; simp; omega)⟩
            case measure => simp [intOf]; omega
        · have Hd : Hid (s.data.toList.drop k = []) := Lib.hid (List.drop_of_length_le (by rw [← Lib.size_eq]; omega))
          go_wp2
          go_ret
          exact ⟨ret_eq (int_eq (by rw [H.out, Hd.out]; simp)), rfl⟩
  · have he : s.data.toList = [] := List.eq_nil_of_length_eq_zero (by rw [← Lib.size_eq]; omega)
    have hemp : s.toList.isEmpty = true := by rw [Lib.toList_data, he]; rfl
    have Hz : Hid (klen s.data.toList = 0) := Lib.hid (by rw [he]; rfl)
    clear he
    go_enter Tryz.func80, Tryz.ntmps80
    go_wp2
    go_ret
    exact ⟨ret_eq (int_eq (by rw [Hz.out]; rfl)), rfl⟩

/-- Whether a text is a key. -/
def keyL (l : List UInt8) : Bool := !l.isEmpty && klen l == l.length

set_option maxHeartbeats 1000000 in
theorem key_any (s : ByteArray) (w : World) (hs : s.size ≤ maxLen) :
    Calls Tryz.prog 66 #[.string s] w fun e w' => e = .returned (.bool (keyL s.data.toList)) ∧ w = w' := by
  have cK := fun W => keyLength_any s W hs
  have hd : keyL s.data.toList = (!s.toList.isEmpty && ((klen s.data.toList : Int) == (s.size : Int))) := by
    rw [keyL, Lib.toList_data, ← Lib.size_eq]
    congr 1
    rw [Bool.eq_iff_iff]
    simp
    omega
  have Hd := Lib.hid hd
  clear hd
  cases h1 : s.toList.isEmpty
  · rw [h1] at Hd
    have n1 : (s.toList != []) = true := by rw [List.isEmpty_eq_false_iff] at h1; simpa using h1
    have n2 : (!s.toList.isEmpty) = true := by rw [h1]; rfl
    go_enter Tryz.func66, Tryz.ntmps66
    go_wp2_with (go_at_call 80; refine (cK _).mono ?_; rintro e w' ⟨rfl, rfl⟩)
    go_ret
    exact ⟨ret_eq (bool_eq (by rw [Hd.out]; simp)), rfl⟩
  · rw [h1] at Hd
    have n2 : (!s.toList.isEmpty) = false := by rw [h1]; rfl
    clear cK
    go_enter Tryz.func66, Tryz.ntmps66
    go_wp2
    go_ret
    exact ⟨ret_eq (bool_eq (by rw [Hd.out]; simp)), rfl⟩

/-- What ReadKey answers. -/
def rkV (l : List UInt8) : Value := if klen l = 0 then .tuple #[.string ⟨#[]⟩, .int .i64 0, .int .i64 2] else .tuple #[.string (strB (l.take (klen l))), .int .i64 (klen l : Int), .int .i64 0]

def rkPost (v : Value) (w : World) (e : Ending) (w' : World) : Prop := e = .returned v ∧ w = w'

set_option maxHeartbeats 1000000 in
theorem readKey_any (s : ByteArray) (w : World) (hs : s.size ≤ maxLen) :
    Calls Tryz.prog 53 #[.string s] w (rkPost (rkV s.data.toList) w) := by
  have cK := fun W => keyLength_any s W hs
  unfold maxLen at hs
  have hn := klen_le s.data.toList
  rw [← Lib.size_eq] at hn
  by_cases h0 : klen s.data.toList = 0
  · rw [rkV, if_pos h0]
    rw [h0] at cK
    clear h0 hn
    go_enter Tryz.func53, Tryz.ntmps53
    go_wp2_with (go_at_call 80; refine (cK _).mono ?_; rintro e w' ⟨rfl, rfl⟩)
    exact bodyPost_ret (v := .tuple #[.string ⟨#[]⟩, .int .i64 0, .int .i64 2]) (by simp [results, Tryz.results53, go_sem]) rfl ⟨rfl, rfl⟩
  · have hx : strB (s.data.toList.take (klen s.data.toList)) = s.extract 0 (klen s.data.toList) := by rw [← extract_take, strB_of]
    rw [rkV, if_neg h0, hx]
    clear hx
    generalize klen s.data.toList = n at *
    have hne : ((n : Int) == 0) = false := by simpa using h0
    go_enter Tryz.func53, Tryz.ntmps53
    go_wp2_with (go_at_call 80; refine (cK _).mono ?_; rintro e w' ⟨rfl, rfl⟩)
    exact bodyPost_ret (v := .tuple #[.string (s.extract 0 n), .int .i64 (n : Int), .int .i64 0]) (by simp [results, Tryz.results53, go_sem]) rfl ⟨rfl, rfl⟩

set_option maxHeartbeats 1000000 in
theorem unspoken_any (w : World) :
    Calls Tryz.prog 109 #[] w fun e w' => e = .returned (.agg #[.int .i64 6, .int .i64 1, .string ⟨#[]⟩]) ∧ Below w.heap.size w w' := by
  go_enter Tryz.func109, Tryz.ntmps109
  go_wp2
  exact bodyPost_ret (v := .agg #[.int .i64 6, .int .i64 1, .string ⟨#[]⟩]) (by simp [results, Tryz.results109, go_sem]) rfl ⟨rfl, (Below.refl _ _).alloc (Nat.le_refl _) _⟩

end Go.Proofs.YtjbipplaacgnkaaGreatDoor

namespace Go.Proofs.YtjbipplaacgnkaaGreatDoor
open Go.RowKit

/-- The world is as it was but for block b, and for new blocks. -/
structure Moved (b : Nat) (w w' : World) : Prop where
  os : w'.os = w.os
  tape : w'.tape = w.tape
  output : w'.output = w.output
  size : w.heap.size ≤ w'.heap.size
  block : ∀ k, k < w.heap.size → k ≠ b → w'.heap[k]? = w.heap[k]?

theorem Moved.refl (b : Nat) (w : World) : Moved b w w := ⟨rfl, rfl, rfl, Nat.le_refl _, fun _ _ _ => rfl⟩
theorem Moved.of_below {b : Nat} {w w' : World} (h : Below w.heap.size w w') : Moved b w w' := ⟨h.os, h.tape, h.output, h.size, fun k hk _ => h.block k hk⟩
theorem Moved.trans {b : Nat} {u v w : World} (h : Moved b u v) (k : Moved b v w) : Moved b u w :=
  ⟨k.os.trans h.os, k.tape.trans h.tape, k.output.trans h.output, Nat.le_trans h.size k.size, fun i hi hb => (k.block i (Nat.lt_of_lt_of_le hi h.size) hb).trans (h.block i hi hb)⟩
theorem Moved.below {b B : Nat} {w w' : World} (h : Moved b w w') (h1 : B ≤ b) (h2 : B ≤ w.heap.size) : Below B w w' :=
  ⟨h.os, h.tape, h.output, h.size, fun k hk => h.block k (Nat.lt_of_lt_of_le hk h2) (by omega)⟩
theorem Moved.cell {b : Nat} {w w' : World} (h : Moved b w w') {p : Addr} (h1 : p.block < w.heap.size) (h2 : p.block ≠ b) : w'.cell? p = w.cell? p := World.cell?_of_block (w := w) (h.block p.block h1 h2)
theorem Moved.frozen {b : Nat} {w w' : World} (h : Moved b w w') {p : Addr} (h1 : p.block < w.heap.size) (h2 : p.block ≠ b) : w'.frozen? p = w.frozen? p := World.frozen?_of_block (w := w) (h.block p.block h1 h2)

theorem Moved.setCell {b o : Nat} {w W : World} (h : Moved b w W) (v : Value) : Moved b w (W.setCell ⟨b, o, none⟩ v) := by
  exact ⟨h.os, h.tape, h.output, by simpa using h.size, fun k hk1 hb => (Below.heap_setCell W ⟨b, o, none⟩ v k hb).trans (h.block k hk1 hb)⟩
theorem Moved.drew {b : Nat} {w W : World} (h : Moved b w W) (n : Nat) : Moved b w (W.drewN n) := ⟨h.os, h.tape, h.output, h.size, h.block⟩

/-- A parser of text t at place k lies at block b. -/
structure Par (w : World) (b : Nat) (t : ByteArray) (k : Nat) : Prop where
  text : w.cell? ⟨b, 0, none⟩ = some (.string t)
  at_ : w.cell? ⟨b, 1, none⟩ = some (.int .i64 (k : Int))
  f0 : w.frozen? ⟨b, 0, none⟩ = false
  f1 : w.frozen? ⟨b, 1, none⟩ = false

theorem Par.lt {w : World} {b : Nat} {t : ByteArray} {k : Nat} (h : Par w b t k) : b < w.heap.size := lt_of_cell h.text
theorem Par.below {w W : World} {b : Nat} {t : ByteArray} {k : Nat} (h : Par w b t k) (hb : Below w.heap.size w W) : Par W b t k :=
  ⟨(hb.cell (p := ⟨b, 0, none⟩) h.lt).trans h.text, (hb.cell (p := ⟨b, 1, none⟩) h.lt).trans h.at_, (hb.frozen (p := ⟨b, 0, none⟩) h.lt).trans h.f0, (hb.frozen (p := ⟨b, 1, none⟩) h.lt).trans h.f1⟩
theorem Par.drew {w : World} {b : Nat} {t : ByteArray} {k : Nat} (h : Par w b t k) (n : Nat) : Par (w.drewN n) b t k := ⟨h.text, h.at_, h.f0, h.f1⟩
theorem Par.set {w : World} {b : Nat} {t : ByteArray} {k : Nat} (h : Par w b t k) (m : Nat) : Par (w.setCell ⟨b, 1, none⟩ (.int .i64 (m : Int))) b t m :=
  ⟨(World.cell?_setCell_other w ⟨b, 1, none⟩ ⟨b, 0, none⟩ _ (by simp)).trans h.text, World.cell?_setCell_same w ⟨b, 1, none⟩ _ h.at_, by rw [World.frozen?_setCell]; exact h.f0, by rw [World.frozen?_setCell]; exact h.f1⟩

/-- What a method of the parser leaves: its value, the parser at another place, the world as it was but for that. -/
def movePost (v : Value) (b : Nat) (t : ByteArray) (k : Nat) (w : World) (e : Ending) (w' : World) : Prop := e = .returned v ∧ Par w' b t k ∧ Moved b w w'

set_option maxRecDepth 100000 in
set_option maxHeartbeats 1000000 in
theorem take_no (b : Nat) (t : ByteArray) (k : Nat) (c : UInt8) (w : World) (h : Par w b t k) (_ : t.size ≤ 100000) (hk : k ≤ t.size) (hc : (t.data.toList.drop k).head? ≠ some c) :
    Calls Tryz.prog 115 #[.pointer (some ⟨b, 0, none⟩), .int .u8 c.toNat] w (movePost (.bool false) b t k w) := by
  have HP := Lib.hid h
  have c0 := h.text
  have c1 := h.at_
  clear h
  by_cases hlt : k < t.size
  · have hne : (((t[k]'hlt).toNat : Int) == (c.toNat : Int)) = false := by
      rw [byte_beq]
      rw [drop_cons_at t k hlt] at hc
      simpa using hc
    have n1 : (((t[k]'hlt).toNat : Int) != (c.toNat : Int)) = true := by rw [bne, hne]; rfl
    have q0 : ((k : Int) == (t.size : Int)) = false := by simp; omega
    have q1 : (0 : Int) ≤ (k : Int) := by omega
    have q2 : (k : Int) < (t.size : Int) := by omega
    clear hc hne
    go_enter Tryz.func115, Tryz.ntmps115
    go_wp2_with fail
    go_quiet (fail)
    go_wp2_with fail
    go_ret
    exact ⟨rfl, HP.out.drew _, (Moved.refl b w).drew _⟩
  · have q0 : ((k : Int) == (t.size : Int)) = true := by simp; omega
    clear hc
    go_enter Tryz.func115, Tryz.ntmps115
    go_wp2_with fail
    go_quiet (fail)
    go_wp2_with fail
    go_ret
    exact ⟨rfl, HP.out.drew _, (Moved.refl b w).drew _⟩

set_option maxRecDepth 100000 in
set_option maxHeartbeats 1000000 in
theorem take_yes (b : Nat) (t : ByteArray) (k : Nat) (c : UInt8) (w : World) (h : Par w b t k) (ht : t.size ≤ 100000) (hc : (t.data.toList.drop k).head? = some c) :
    Calls Tryz.prog 115 #[.pointer (some ⟨b, 0, none⟩), .int .u8 c.toNat] w (movePost (.bool true) b t (k + 1) w) := by
  have hlt : k < t.size := by
    by_cases hlt : k < t.size
    · exact hlt
    · rw [List.drop_of_length_le (by rw [← Lib.size_eq]; omega)] at hc
      cases hc
  have HP := Lib.hid h
  have c0 := h.text
  have c1 := h.at_
  have f1 := h.f1
  clear h
  have hne : (((t[k]'hlt).toNat : Int) == (c.toNat : Int)) = true := by
    rw [byte_beq]
    rw [drop_cons_at t k hlt] at hc
    simpa using hc
  have n1 : (((t[k]'hlt).toNat : Int) != (c.toNat : Int)) = false := by rw [bne, hne]; rfl
  have q0 : ((k : Int) == (t.size : Int)) = false := by simp; omega
  have q1 : (0 : Int) ≤ (k : Int) := by omega
  have q2 : (k : Int) < (t.size : Int) := by omega
  clear hc hne
  go_enter Tryz.func115, Tryz.ntmps115
  go_wp2_with fail
  go_quiet (fail)
  go_wp2_with fail
  go_ret
  refine ⟨rfl, ?_, ?_⟩
  · exact (HP.out.drew _).set (k + 1)
  · exact ((Moved.refl b w).drew _).setCell _

end Go.Proofs.YtjbipplaacgnkaaGreatDoor

namespace Go.Proofs.YtjbipplaacgnkaaGreatDoor
open Go.RowKit

theorem Par.other {w : World} {b : Nat} {t : ByteArray} {k : Nat} (h : Par w b t k) {c o : Nat} (hc : c ≠ b) (v : Value) : Par (w.setCell ⟨c, o, none⟩ v) b t k :=
  ⟨(World.cell?_setCell_other w ⟨c, o, none⟩ ⟨b, 0, none⟩ _ (by simp)).trans h.text, (World.cell?_setCell_other w ⟨c, o, none⟩ ⟨b, 1, none⟩ _ (by simp)).trans h.at_, by rw [World.frozen?_setCell]; exact h.f0, by rw [World.frozen?_setCell]; exact h.f1⟩
theorem Par.alloc {w : World} {b : Nat} {t : ByteArray} {k : Nat} (h : Par w b t k) (o : Obj) : Par (w.alloc o) b t k := h.below ((Below.refl _ _).alloc (Nat.le_refl _) o)
theorem Moved.alloc {b : Nat} {w W : World} (h : Moved b w W) (o : Obj) : Moved b w (W.alloc o) := h.trans (Moved.of_below ((Below.refl _ _).alloc (Nat.le_refl _) o))
theorem Moved.setNew {b : Nat} {w W : World} (h : Moved b w W) {c o : Nat} (hc : w.heap.size ≤ c) (v : Value) : Moved b w (W.setCell ⟨c, o, none⟩ v) :=
  ⟨h.os, h.tape, h.output, by simpa using h.size, fun k hk1 hb => (Below.heap_setCell W ⟨c, o, none⟩ v k (by show k ≠ c; omega)).trans (h.block k hk1 hb)⟩
theorem Moved.low {b : Nat} {w W V : World} (h : Moved b w W) (hb : Below W.heap.size W V) : Moved b w V := h.trans (Moved.of_below hb)

/-- A value and OK, or none and ErrForm; how far the parser goes. -/
def valV (o : Option Got) : Value := match o with
  | some g => .tuple #[.agg #[.int .i64 g.k, .int .i64 g.n, .string (strB g.s)], .int .i64 0]
  | none => .tuple #[.agg #[.int .i64 0, .int .i64 0, .string ⟨#[]⟩], .int .i64 2]
def advL (o : Option Got) : Nat := match o with
  | some g => g.m
  | none => 0

theorem value_cells (w w1 : World) (k n : Int) (s : ByteArray) (hb : Below (w.heap.size + 1) (w.alloc (.cells #[.int .i64 k, .int .i64 n, .string s] 43)) w1) : (w1.cell? ⟨w.heap.size, 0, none⟩ = some (.int .i64 k) ∧ w1.cell? ⟨w.heap.size, 1, none⟩ = some (.int .i64 n) ∧ w1.cell? ⟨w.heap.size, 2, none⟩ = some (.string s)) ∧ (w1.frozen? ⟨w.heap.size, 0, none⟩ = false ∧ w1.frozen? ⟨w.heap.size, 1, none⟩ = false ∧ w1.frozen? ⟨w.heap.size, 2, none⟩ = false) := by
  refine ⟨⟨?_, ?_, ?_⟩, ?_, ?_, ?_⟩
  · rw [hb.cell (p := ⟨w.heap.size, 0, none⟩) (by simp)]; simp
  · rw [hb.cell (p := ⟨w.heap.size, 1, none⟩) (by simp)]; simp
  · rw [hb.cell (p := ⟨w.heap.size, 2, none⟩) (by simp)]; simp
  · rw [hb.frozen (p := ⟨w.heap.size, 0, none⟩) (by simp)]; simp
  · rw [hb.frozen (p := ⟨w.heap.size, 1, none⟩) (by simp)]; simp
  · rw [hb.frozen (p := ⟨w.heap.size, 2, none⟩) (by simp)]; simp

theorem Par.setI {w : World} {b : Nat} {t : ByteArray} {k : Nat} (h : Par w b t k) (m : Nat) (z : Int) (hz : z = (m : Int)) : Par (w.setCell ⟨b, 1, none⟩ (.int .i64 z)) b t m := hz ▸ h.set m

theorem gotV_parts (o : Option Got) : ∃ (x y : Int) (z : ByteArray) (r : Int), gotV o = .tuple #[.agg #[.int .i64 x, .int .i64 y, .string z], .int .i64 (advL o : Int), .int .i64 r] ∧ valV o = .tuple #[.agg #[.int .i64 x, .int .i64 y, .string z], .int .i64 r] := by
  cases o with
  | none => exact ⟨_, _, _, _, rfl, rfl⟩
  | some g => exact ⟨_, _, _, _, rfl, rfl⟩

/-- The result's cells, as they were made. -/
structure Res (W : World) (c : Nat) : Prop where
  r0 : W.cell? ⟨c, 0, none⟩ = some (.int .i64 0)
  r1 : W.cell? ⟨c, 1, none⟩ = some (.int .i64 0)
  r2 : W.cell? ⟨c, 2, none⟩ = some (.string ⟨#[]⟩)
  g0 : W.frozen? ⟨c, 0, none⟩ = false
  g1 : W.frozen? ⟨c, 1, none⟩ = false
  g2 : W.frozen? ⟨c, 2, none⟩ = false

abbrev heldV (w W : World) (b : Nat) (t : ByteArray) (k : Nat) : Prop :=
  W.cell? ⟨b, 0, none⟩ = some (.string t) ∧ W.cell? ⟨b, 1, none⟩ = some (.int .i64 (k : Int)) ∧ Par W b t k ∧ Below w.heap.size w W ∧ Alph W ∧ Res W w.heap.size

theorem Res.lt {W : World} {c : Nat} (h : Res W c) : c < W.heap.size := lt_of_cell h.r0
theorem Res.below {W W1 : World} {c : Nat} (h : Res W c) (hb : Below W.heap.size W W1) : Res W1 c :=
  ⟨(hb.cell (p := ⟨c, 0, none⟩) h.lt).trans h.r0, (hb.cell (p := ⟨c, 1, none⟩) h.lt).trans h.r1, (hb.cell (p := ⟨c, 2, none⟩) h.lt).trans h.r2, (hb.frozen (p := ⟨c, 0, none⟩) h.lt).trans h.g0, (hb.frozen (p := ⟨c, 1, none⟩) h.lt).trans h.g1, (hb.frozen (p := ⟨c, 2, none⟩) h.lt).trans h.g2⟩
theorem Res.other {W : World} {c : Nat} (h : Res W c) {d o : Nat} (hd : d ≠ c) (v : Value) : Res (W.setCell ⟨d, o, none⟩ v) c :=
  ⟨(World.cell?_setCell_other W ⟨d, o, none⟩ ⟨c, 0, none⟩ _ (by simp)).trans h.r0, (World.cell?_setCell_other W ⟨d, o, none⟩ ⟨c, 1, none⟩ _ (by simp)).trans h.r1, (World.cell?_setCell_other W ⟨d, o, none⟩ ⟨c, 2, none⟩ _ (by simp)).trans h.r2, by rw [World.frozen?_setCell]; exact h.g0, by rw [World.frozen?_setCell]; exact h.g1, by rw [World.frozen?_setCell]; exact h.g2⟩
theorem Res.made (w : World) : Res (w.alloc zeroBare) w.heap.size := ⟨by simp, by simp, by simp, by simp, by simp, by simp⟩

theorem held_below2 {w W W1 : World} {b : Nat} {t : ByteArray} {k : Nat} (hb : Below W.heap.size W W1) (h : heldV w W b t k) : heldV w W1 b t k := by
  obtain ⟨_, _, h2, h3, h4, h5⟩ := h
  have hP := h2.below hb
  exact ⟨hP.text, hP.at_, hP, h3.trans (hb.mono h3.size), h4.below hb, h5.below hb⟩
theorem held_alloc {w W : World} {b : Nat} {t : ByteArray} {k : Nat} (h : heldV w W b t k) (o : Obj) : heldV w (W.alloc o) b t k := held_below2 ((Below.refl _ _).alloc (Nat.le_refl _) o) h
theorem held_set3 {w W : World} {b : Nat} {t : ByteArray} {k : Nat} (hA : Alph w) (hbl : b < w.heap.size) (h : heldV w W b t k) (c : Nat) (hc : w.heap.size < c) (v0 v1 v2 : Value) :
    heldV w (((W.setCell ⟨c, 0, none⟩ v0).setCell ⟨c, 1, none⟩ v1).setCell ⟨c, 2, none⟩ v2) b t k := by
  obtain ⟨_, _, h2, h3, _, h5⟩ := h
  have hne : c ≠ b := by omega
  have hne2 : c ≠ w.heap.size := by omega
  have hle : w.heap.size ≤ c := by omega
  have hP := ((h2.other hne v0 (o := 0)).other hne v1 (o := 1)).other hne v2 (o := 2)
  have hB : Below w.heap.size w (((W.setCell ⟨c, 0, none⟩ v0).setCell ⟨c, 1, none⟩ v1).setCell ⟨c, 2, none⟩ v2) := ((h3.setCell hle _).setCell hle _).setCell hle _
  exact ⟨hP.text, hP.at_, hP, hB, hA.below hB, ((h5.other hne2 v0 (o := 0)).other hne2 v1 (o := 1)).other hne2 v2 (o := 2)⟩

set_option maxRecDepth 100000 in
set_option maxHeartbeats 2000000 in
theorem value_any (b : Nat) (t : ByteArray) (k : Nat) (w : World) (h : Par w b t k) (ht : t.size ≤ 100000) (hk : k ≤ t.size) (hA : Alph w) :
    Calls Tryz.prog 97 #[.pointer (some ⟨b, 0, none⟩)] w (movePost (valV (readL (t.data.toList.drop k))) b t (k + advL (readL (t.data.toList.drop k))) w) := by
  have hb0 : Below w.heap.size w (w.alloc zeroBare) := (Below.refl _ _).alloc (Nat.le_refl _) _
  have HA := Lib.hid hA
  have hxd : (t.extract k t.size).data.toList = t.data.toList.drop k := Lib.extract_to_end t k
  have hxs : (t.extract k t.size).size ≤ 100000 := by rw [Lib.size_eq, hxd, List.length_drop, ← Lib.size_eq]; omega
  have cQ := fun W hW => read_any (t.extract k t.size) W hxs hW
  rw [hxd] at cQ
  clear hA hxd hxs
  have hbl := h.lt
  have HP := Lib.hid h
  clear h
  have ho : k + advL (readL (t.data.toList.drop k)) ≤ t.size := by
    cases hg : readL (t.data.toList.drop k) with
    | none => exact hk
    | some g =>
      have := (readL_right _ g hg).2.2.1
      rw [List.length_drop, ← Lib.size_eq] at this
      show k + g.m ≤ t.size
      omega
  generalize readL (t.data.toList.drop k) = o at *
  obtain ⟨x, y, z, r, hv, hv2⟩ := gotV_parts o
  rw [hv] at cQ
  rw [hv2]
  generalize advL o = m at *
  clear hv hv2
  have hS0 : heldV w (w.alloc zeroBare).drew b t k := ⟨(HP.out.alloc zeroBare).text, (HP.out.alloc zeroBare).at_, HP.out.below hb0.drew, hb0.drew, HA.out.below hb0.drew, (Res.made w).below (Below.refl _ _).drew⟩
  have cQ2 : ∀ W, heldV w W b t k → Calls Tryz.prog 117 #[.string (t.extract k t.size)] W fun e w' => e = .returned (.tuple #[.agg #[.int .i64 x, .int .i64 y, .string z], .int .i64 (m : Int), .int .i64 r]) ∧ heldV w w' b t k ∧ Below W.heap.size W w' :=
    fun W h => (cQ W h.2.2.2.2.1).mono fun e w' hh => ⟨hh.1, held_below2 hh.2 h, hh.2⟩
  have j1 : (0 : Int) ≤ (k : Int) := by omega
  have j2 : (k : Int) ≤ (t.size : Int) := by omega
  clear cQ
  go_enter Tryz.func97, Tryz.ntmps97
  go_wp2_with fail
  go_region_held3 (fun W => W.cell? ⟨b, 0, none⟩ = some (.string t) ∧ W.cell? ⟨b, 1, none⟩ = some (.int .i64 (k : Int)) ∧ Par W b t k ∧ Below w.heap.size w W ∧ Alph W ∧ Res W w.heap.size) (first | assumption | exact held_alloc (by assumption) _ | exact held_set3 HA.out hbl (by assumption) _ (by omega) _ _ _ | go_keep)
    (first | (go_at_call 117; refine (cQ2 _ (by assumption)).mono ?_; rintro e w' ⟨rfl, hh, hlow⟩; obtain ⟨hce, hfr⟩ := bcell hlow; have hsz := hlow.size; have hbl2 : b < w'.heap.size := hh.2.2.1.lt; have hrl2 : w.heap.size < w'.heap.size := hh.2.2.2.2.2.lt; have s0 := hh.2.2.2.2.2.r0; have s1 := hh.2.2.2.2.2.r1; have s2 := hh.2.2.2.2.2.r2))
  all_goals
    obtain ⟨e0, e1, eP, eB, _, eR⟩ := (by assumption : heldV w _ b t k)
    have e2 := eP.f1
    have r0 := eR.r0
    have r1 := eR.r1
    have r2 := eR.r2
    have g0 := eR.g0
    have g1 := eR.g1
    have g2 := eR.g2
  all_goals go_wp2_with fail
  all_goals
    have n1 : ¬ b = w.heap.size := by omega
    have n2 : ¬ w.heap.size = b := by omega
    refine bodyPost_ret (v := .tuple #[.agg #[.int .i64 x, .int .i64 y, .string z], .int .i64 r]) (by simp [results, Tryz.results97, go_sem, s0, s1, s2, hrl2]) rfl ⟨rfl, ?_, ?_⟩
    · repeat (first | with_reducible refine Par.alloc ?_ _ | with_reducible refine Par.other ?_ (by omega) _ | with_reducible refine Par.setI (k := k) ?_ _ _ (Int.natCast_add k m).symm)
      exact hh.2.2.1
    · repeat (first | with_reducible refine Moved.alloc ?_ _ | with_reducible refine Moved.setNew ?_ (by omega) _ | with_reducible refine Moved.setCell ?_ _)
      exact Moved.of_below hh.2.2.2.1

end Go.Proofs.YtjbipplaacgnkaaGreatDoor

namespace Go.Proofs.YtjbipplaacgnkaaGreatDoor
open Go.RowKit

theorem Par.moved {w W : World} {b c : Nat} {t : ByteArray} {k : Nat} (h : Par w b t k) (hm : Moved c w W) (hc : b ≠ c) : Par W b t k :=
  ⟨(hm.cell (p := ⟨b, 0, none⟩) h.lt hc).trans h.text, (hm.cell (p := ⟨b, 1, none⟩) h.lt hc).trans h.at_, (hm.frozen (p := ⟨b, 0, none⟩) h.lt hc).trans h.f0, (hm.frozen (p := ⟨b, 1, none⟩) h.lt hc).trans h.f1⟩

/-- The cells of a parameter that is none yet. -/
structure Res4 (W : World) (c : Nat) : Prop where
  r0 : W.cell? ⟨c, 0, none⟩ = some (.string ⟨#[]⟩)
  r1 : W.cell? ⟨c, 1, none⟩ = some (.int .i64 0)
  r2 : W.cell? ⟨c, 2, none⟩ = some (.int .i64 0)
  r3 : W.cell? ⟨c, 3, none⟩ = some (.string ⟨#[]⟩)
  g0 : W.frozen? ⟨c, 0, none⟩ = false
  g1 : W.frozen? ⟨c, 1, none⟩ = false
  g2 : W.frozen? ⟨c, 2, none⟩ = false
  g3 : W.frozen? ⟨c, 3, none⟩ = false
abbrev zeroParam : Obj := .cells #[.string ⟨#[]⟩, .int .i64 0, .int .i64 0, .string ⟨#[]⟩] 97
theorem Res4.made (w : World) : Res4 (w.alloc zeroParam) w.heap.size := ⟨by simp, by simp, by simp, by simp, by simp, by simp, by simp, by simp⟩
theorem Res4.lt {W : World} {c : Nat} (h : Res4 W c) : c < W.heap.size := lt_of_cell h.r0
theorem Res4.moved {W W1 : World} {b c : Nat} (h : Res4 W c) (hm : Moved b W W1) (hc : c ≠ b) : Res4 W1 c :=
  ⟨(hm.cell (p := ⟨c, 0, none⟩) h.lt hc).trans h.r0, (hm.cell (p := ⟨c, 1, none⟩) h.lt hc).trans h.r1, (hm.cell (p := ⟨c, 2, none⟩) h.lt hc).trans h.r2, (hm.cell (p := ⟨c, 3, none⟩) h.lt hc).trans h.r3, (hm.frozen (p := ⟨c, 0, none⟩) h.lt hc).trans h.g0, (hm.frozen (p := ⟨c, 1, none⟩) h.lt hc).trans h.g1, (hm.frozen (p := ⟨c, 2, none⟩) h.lt hc).trans h.g2, (hm.frozen (p := ⟨c, 3, none⟩) h.lt hc).trans h.g3⟩

/-- A parameter. -/
structure Prm where
  key : List UInt8
  k : Int
  n : Int
  s : List UInt8

def spcL (l : List UInt8) : Nat := (l.takeWhile (· == 32)).length

/-- A parameter from behind its semicolon on, and how long it is. -/
def parL (l : List UInt8) : Option (Prm × Nat) :=
  if klen (l.drop (spcL l)) = 0 then none
  else if (l.drop (spcL l + klen (l.drop (spcL l)))).head? = some 61 then
    match readL (l.drop (spcL l + klen (l.drop (spcL l)) + 1)) with
    | none => none
    | some g => some (⟨(l.drop (spcL l)).take (klen (l.drop (spcL l))), g.k, g.n, g.s⟩, spcL l + klen (l.drop (spcL l)) + 1 + g.m)
  else some (⟨(l.drop (spcL l)).take (klen (l.drop (spcL l))), 6, 1, []⟩, spcL l + klen (l.drop (spcL l)))

def prmV (o : Option (Prm × Nat)) : Value := match o with
  | some p => .tuple #[.agg #[.string (strB p.1.key), .int .i64 p.1.k, .int .i64 p.1.n, .string (strB p.1.s)], .int .i64 0]
  | none => .tuple #[.agg #[.string ⟨#[]⟩, .int .i64 0, .int .i64 0, .string ⟨#[]⟩], .int .i64 2]

/-- What param leaves: where it answers none, the parser stands anywhere. -/
def prmPost (o : Option (Prm × Nat)) (b : Nat) (t : ByteArray) (k : Nat) (w : World) (e : Ending) (w' : World) : Prop :=
  e = .returned (prmV o) ∧ Moved b w w' ∧ ∃ k', k' ≤ t.size ∧ Par w' b t k' ∧ ∀ p, o = some p → k' = k + p.2

theorem spc_at : ∀ (l : List UInt8) (j : Nat), j ≤ spcL l → ((l.drop j).head? = some 32 ↔ j < spcL l)
  | [], j, h => by
    simp [spcL] at h ⊢
  | c :: l, 0, _ => by
    rw [List.drop_zero, List.head?_cons, spcL, List.takeWhile_cons]
    by_cases hc : c = 32
    · subst hc; simp
    · have : (c == 32) = false := by simpa using hc
      rw [this]; simp [hc]
  | c :: l, j + 1, h => by
    rw [List.drop_succ_cons]
    rw [spcL, List.takeWhile_cons] at h ⊢
    by_cases hc : (c == 32) = true
    · rw [hc] at h ⊢
      simp only [if_true, List.length_cons] at h ⊢
      have := spc_at l j (by unfold spcL; omega)
      rw [this]
      unfold spcL
      omega
    · rw [Bool.not_eq_true] at hc
      rw [hc] at h
      simp at h
theorem spc_le (l : List UInt8) : spcL l ≤ l.length := takeWhile_len_le _ l

def atOf (w : World) (b : Nat) : Nat := match w.cell? ⟨b, 1, none⟩ with
  | some (.int _ z) => z.toNat
  | _ => 0
theorem Par.atOf {w : World} {b : Nat} {t : ByteArray} {k : Nat} (h : Par w b t k) : atOf w b = k := by
  unfold Proofs.YtjbipplaacgnkaaGreatDoor.atOf
  rw [h.at_]; simp

theorem Alph.moved {w W : World} {b : Nat} (h : Alph w) (hm : Moved b w W) (hb : 2 ≠ b) : Alph W := fun j hj => by
  have := h j hj
  rw [hm.cell (p := ⟨_, j, none⟩) (lt_of_cell this) hb]
  exact this

theorem parL_at (l : List UInt8) (k ns K1 n : Nat) (h1 : spcL (l.drop k) = ns) (h2 : k + ns = K1) (h3 : klen (l.drop K1) = n) :
    parL (l.drop k) = if n = 0 then none else if (l.drop (K1 + n)).head? = some 61 then
      match readL (l.drop (K1 + n + 1)) with
      | none => none
      | some g => some (⟨(l.drop K1).take n, g.k, g.n, g.s⟩, ns + n + 1 + g.m)
    else some (⟨(l.drop K1).take n, 6, 1, []⟩, ns + n) := by
  rw [parL, h1]
  simp only [List.drop_drop]
  rw [h2, h3, show k + (ns + n) = K1 + n by omega, show k + (ns + n + 1) = K1 + n + 1 by omega]

set_option maxRecDepth 100000 in
set_option maxHeartbeats 2000000 in
theorem param_any (b : Nat) (t : ByteArray) (k : Nat) (w : World) (h : Par w b t k) (ht : t.size ≤ 100000) (hk : k ≤ t.size) (hA : Alph w) (hAb : 2 ≠ b) :
    Calls Tryz.prog 116 #[.pointer (some ⟨b, 0, none⟩)] w (prmPost (parL (t.data.toList.drop k)) b t k w) := by
  have hbl := h.lt
  have HA := Lib.hid hA
  have hbn : b ≠ w.heap.size := by omega
  have hm0 : Moved b w (w.alloc zeroParam) := (Moved.refl b w).alloc _
  have HP0 := Lib.hid (h.alloc zeroParam)
  have HR0 := Lib.hid (Res4.made w)
  clear hA h
  obtain ⟨ns, hns⟩ : ∃ ns, spcL (t.data.toList.drop k) = ns := ⟨_, rfl⟩
  have hspc := spc_at (t.data.toList.drop k)
  have hnl := spc_le (t.data.toList.drop k)
  rw [List.length_drop, ← Lib.size_eq] at hnl
  rw [hns] at hspc hnl
  simp only [List.drop_drop] at hspc
  have Hspc := Lib.hid hspc
  clear hspc
  have hM0 := Lib.hid hm0
  clear hm0
  go_enter Tryz.func116, Tryz.ntmps116
  go_wp2_with fail
  go_loopw [] (fun wr => ∃ j : Nat, j ≤ ns ∧ Par wr b t (k + j) ∧ Moved b w wr ∧ Res4 wr w.heap.size) (fun wr => t.size - atOf wr b)
  case atStart => exact ⟨0, by omega, HP0.out, hM0.out, HR0.out⟩
  case round =>
    obtain ⟨j, hj, hP, hM, hR⟩ := hrel
    clear HP0 hM0 HR0
    by_cases hlt : j < ns
    · have cT := take_yes b t (k + j) 32 wr hP ht ((Hspc.out j hj).2 hlt)
      have hR1 := Lib.hid hR
      have hM1 := Lib.hid hM
      have hP1 := Lib.hid hP
      clear hP hM hR
      go_wp2_with fail
      refine cT.mono ?_
      rintro e w1 ⟨rfl, hP2, hM2⟩
      go_wp2_with fail
      go_roundw
      case rel => exact ⟨j + 1, by omega, hP2, hM1.out.trans hM2, hR1.out.moved hM2 (Ne.symm hbn)⟩
      case measure => rw [hP2.atOf, hP1.out.atOf]; omega
    · obtain rfl : j = ns := by omega
      have cT := take_no b t (k + j) 32 wr hP ht (by omega) (by
        intro e
        exact hlt ((Hspc.out j hj).1 e))
      have hk1 : k + j ≤ t.size := by omega
      obtain ⟨K1, hK1⟩ : ∃ K1, k + j = K1 := ⟨_, rfl⟩
      obtain ⟨n, hn⟩ : ∃ n, klen (t.data.toList.drop K1) = n := ⟨_, rfl⟩
      have HL := Lib.hid (parL_at t.data.toList k j K1 n hns hK1 hn)
      have HK := Lib.hid hK1
      rw [hK1] at cT hP hk1
      have hxd : (t.extract K1 t.size).data.toList = t.data.toList.drop K1 := Lib.extract_to_end t K1
      have hxs : (t.extract K1 t.size).size ≤ maxLen := by rw [Lib.size_eq, hxd, List.length_drop, ← Lib.size_eq]; unfold maxLen; omega
      have hn2 : K1 + n ≤ t.size := by
        have := klen_le (t.data.toList.drop K1)
        rw [hn, List.length_drop, ← Lib.size_eq] at this; omega
      have cK : ∀ W, Calls Tryz.prog 53 #[.string (t.extract K1 t.size)] W fun e w' => e = .returned (rkV (t.data.toList.drop K1)) ∧ w' = W := fun W => by
        have := readKey_any (t.extract K1 t.size) W hxs
        rw [hxd] at this
        exact this.mono (fun _ _ h => ⟨h.1, h.2.symm⟩)
      rw [rkV, hn] at cK
      have hM1 := Lib.hid hM
      have hR1 := Lib.hid hR
      clear hP hM hR hlt hj hns hnl Hspc hxd hxs hK1 hn
      go_wp2_with fail
      refine cT.mono ?_
      rintro e w1 ⟨rfl, hP1, hM2⟩
      have hMw := hM1.out.trans hM2
      have hRw := hR1.out.moved hM2 (Ne.symm hbn)
      have HP1 := Lib.hid hP1
      have c0 := hP1.text
      have c1 := hP1.at_
      have f1 := hP1.f1
      have j1 : (0 : Int) ≤ (K1 : Int) := by omega
      have j2 : (K1 : Int) ≤ (t.size : Int) := by omega
      clear cT hM2 hM1 hR1 hP1
      have HM := Lib.hid hMw
      have HR := Lib.hid hRw
      clear hMw hRw
      by_cases hn0 : n = 0
      · rw [if_pos hn0] at cK HL
        have r0 := HR.out.r0
        have r1 := HR.out.r1
        have r2 := HR.out.r2
        have r3 := HR.out.r3
        have g0 := HR.out.g0
        have g1 := HR.out.g1
        have g2 := HR.out.g2
        have g3 := HR.out.g3
        clear hn0
        go_wp2_with fail
        go_quiet ((go_at_call 53; exact Calls.quiet_of_same (cK _)))
        go_wp2_with fail
        have n1 : ¬ b = w.heap.size := hbn
        refine bodyPost_ret (v := prmV none) (by simp [results, Tryz.results116, go_sem, prmV, r0, r1, r2, r3]) rfl ⟨by rw [HL.out], ?_, K1, hk1, ?_, fun p h => by rw [HL.out] at h; cases h⟩
        · repeat (first | with_reducible refine Moved.alloc ?_ _ | (with_reducible refine Moved.setNew ?_ (by omega) _) | with_reducible refine Moved.setCell ?_ _)
          exact HM.out.drew _
        · repeat (first | with_reducible refine Par.alloc ?_ _ | with_reducible refine Par.other ?_ (by omega) _)
          exact HP1.out.drew _
      · rw [if_neg hn0] at cK HL
        obtain ⟨K2, hK2⟩ : ∃ K2, K1 + n = K2 := ⟨_, rfl⟩
        rw [hK2] at HL hn2
        have q1 : (K1 : Int) + (n : Int) = (K2 : Int) := by omega
        have HK2 := Lib.hid hK2
        obtain ⟨X, hX⟩ : ∃ X, strB ((t.data.toList.drop K1).take n) = X := ⟨_, rfl⟩
        rw [hX] at cK
        have HX := Lib.hid hX
        clear hK2 hX
        go_wp2_with fail
        go_quiet ((go_at_call 53; exact Calls.quiet_of_same (cK _)))
        clear cK c0
        by_cases h61 : (t.data.toList.drop K2).head? = some 61
        · rw [if_pos h61] at HL
          have hK2s : K2 + 1 ≤ t.size := by
            by_cases hlt : K2 < t.size
            · omega
            · rw [List.drop_of_length_le (by rw [← Lib.size_eq]; omega)] at h61; cases h61
          go_wp2_with fail
          refine (take_yes b t K2 61 _ ?_ ht h61).mono ?_
          · exact (HP1.out.drew _).setI K2 _ rfl
          rintro e w2 ⟨rfl, hP2, hM2⟩
          have hMw2 := ((HM.out.drew _).setCell _).trans hM2
          have hRw2 := (HR.out.moved (((Moved.refl b w1).drew _).setCell _) (Ne.symm hbn)).moved hM2 (Ne.symm hbn)
          clear hM2 c1 f1 q1
          have cV := value_any b t (K2 + 1) w2 hP2 ht hK2s (HA.out.moved hMw2 hAb)
          have HM2 := Lib.hid hMw2
          have HR2 := Lib.hid hRw2
          clear hMw2 hRw2 hP2
          cases ho : readL (t.data.toList.drop (K2 + 1)) with
          | none =>
            rw [ho] at HL cV
            simp only [advL, Nat.add_zero] at cV
            simp only [valV] at cV
            clear ho
            go_wp2_with fail
            refine cV.mono ?_
            rintro e w3 ⟨rfl, hP3, hM3⟩
            have hR3 := HR2.out.moved hM3 (Ne.symm hbn)
            have hMw3 := HM2.out.trans hM3
            have hlt3 : w.heap.size < w3.heap.size := hR3.lt
            obtain ⟨r0, r1, r2, r3, g0, g1, g2, g3⟩ := hR3
            clear hM3 cV
            go_wp2_with fail
            refine bodyPost_ret (v := prmV none) (by simp [results, Tryz.results116, go_sem, prmV, r0, r1, r2, r3, hlt3]) rfl ⟨by rw [HL.out], ?_, K2 + 1, hK2s, ?_, fun p h => by rw [HL.out] at h; cases h⟩
            · repeat (first | with_reducible refine Moved.alloc ?_ _ | (with_reducible refine Moved.setNew ?_ (by omega) _) | with_reducible refine Moved.setCell ?_ _)
              exact hMw3
            · repeat (first | with_reducible refine Par.alloc ?_ _ | with_reducible refine Par.other ?_ (by omega) _)
              exact hP3
          | some g =>
            have hgm := (readL_right _ g ho).2.2.1
            rw [List.length_drop, ← Lib.size_eq] at hgm
            rw [ho] at HL cV
            simp only [advL] at cV
            simp only [valV] at cV
            clear ho
            obtain ⟨gk, gn, gs, gm⟩ := g
            simp only at cV hgm
            have HV : Hid (prmV (some (⟨(t.data.toList.drop K1).take n, gk, gn, gs⟩, j + n + 1 + gm)) = .tuple #[.agg #[.string X, .int .i64 gk, .int .i64 gn, .string (strB gs)], .int .i64 0]) := Lib.hid (by rw [prmV, HX.out])
            generalize strB gs = S at cV HV
            go_wp2_with fail
            refine cV.mono ?_
            rintro e w3 ⟨rfl, hP3, hM3⟩
            have hR3 := HR2.out.moved hM3 (Ne.symm hbn)
            have hMw3 := HM2.out.trans hM3
            have hlt3 : w.heap.size < w3.heap.size := hR3.lt
            obtain ⟨r0, r1, r2, r3, g0, g1, g2, g3⟩ := hR3
            clear hM3 cV
            go_wp2_with fail
            refine bodyPost_ret (v := .tuple #[.agg #[.string X, .int .i64 gk, .int .i64 gn, .string S], .int .i64 0]) (by simp [results, Tryz.results116, go_sem, r0, r1, r2, r3, hlt3]) rfl ⟨by rw [HL.out, HV.out], ?_, K2 + 1 + gm, by omega, ?_, fun p h => by rw [HL.out] at h; obtain rfl := Option.some.inj h; have := HK.out; have := HK2.out; show _ = k + (j + n + 1 + gm); omega⟩
            · repeat (first | with_reducible refine Moved.alloc ?_ _ | (with_reducible refine Moved.setNew ?_ (by omega) _) | with_reducible refine Moved.setCell ?_ _)
              exact hMw3
            · repeat (first | with_reducible refine Par.alloc ?_ _ | with_reducible refine Par.other ?_ (by omega) _)
              exact hP3
        · rw [if_neg h61] at HL
          have HV : Hid (prmV (some (⟨(t.data.toList.drop K1).take n, 6, 1, []⟩, j + n)) = .tuple #[.agg #[.string X, .int .i64 6, .int .i64 1, .string ⟨#[]⟩], .int .i64 0]) := Lib.hid (by rw [prmV, HX.out]; rfl)
          go_wp2_with fail
          refine (take_no b t K2 61 _ ?_ ht hn2 h61).mono ?_
          · exact (HP1.out.drew _).setI K2 _ rfl
          rintro e w2 ⟨rfl, hP2, hM2⟩
          have hMw2 := ((HM.out.drew _).setCell _).trans hM2
          have hRw2 := (HR.out.moved (((Moved.refl b w1).drew _).setCell _) (Ne.symm hbn)).moved hM2 (Ne.symm hbn)
          clear hM2 c1 f1 q1
          have HM2 := Lib.hid hMw2
          have HR2 := Lib.hid hRw2
          clear hMw2 hRw2
          have cU := unspoken_any w2
          go_wp2_with fail
          refine cU.mono ?_
          rintro e w3 ⟨rfl, hb3⟩
          have hM3 : Moved b w2 w3 := Moved.of_below hb3
          have hP3 := hP2.below hb3
          have hR3 := HR2.out.moved hM3 (Ne.symm hbn)
          have hMw3 := HM2.out.trans hM3
          have hlt3 : w.heap.size < w3.heap.size := hR3.lt
          obtain ⟨r0, r1, r2, r3, g0, g1, g2, g3⟩ := hR3
          clear hM3 cU hb3 hP2
          go_wp2_with fail
          refine bodyPost_ret (v := .tuple #[.agg #[.string X, .int .i64 6, .int .i64 1, .string ⟨#[]⟩], .int .i64 0]) (by simp [results, Tryz.results116, go_sem, r0, r1, r2, r3]) rfl ⟨by rw [HL.out, HV.out], ?_, K2, hn2, ?_, fun p h => by rw [HL.out] at h; obtain rfl := Option.some.inj h; have := HK.out; have := HK2.out; show _ = k + (j + n); omega⟩
          · repeat (first | with_reducible refine Moved.alloc ?_ _ | (with_reducible refine Moved.setNew ?_ (by omega) _) | with_reducible refine Moved.setCell ?_ _)
            exact hMw3
          · repeat (first | with_reducible refine Par.alloc ?_ _ | with_reducible refine Par.other ?_ (by omega) _)
            exact hP3

end Go.Proofs.YtjbipplaacgnkaaGreatDoor
