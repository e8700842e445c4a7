/- The contracts of item's functions on one byte and on keys: beginsKey, inKey, keyLength, Key, ReadKey, unspoken. -/
import Derived.Test.YtcjnigmklijjiaaDoorBarR
namespace Go.Proofs.YtcjnigmklijjiaaDoor
open Go.RowKit

def bkI (c : Int) : Bool := (decide (97 ≤ c) && decide (c ≤ 122)) || c == 42
def ikI (c : Int) : Bool := bkI c || digI c || c == 95 || c == 45 || c == 46

set_option maxHeartbeats 400000 in
theorem beginsKey_any (c : Int) (w : World) :
    Calls Tryd.prog 40 #[.int .u8 c] w fun e w' => e = .returned (.bool (bkI c)) ∧ w = w' := by
  have hd : bkI c = ((decide (97 ≤ c) && decide (c ≤ 122)) || c == 42) := rfl
  cases h1 : decide (97 ≤ c) <;> cases h2 : decide (c ≤ 122) <;> cases h3 : (c == 42)
  all_goals
    first
    | (exfalso; simp only [decide_eq_true_eq, decide_eq_false_iff_not, beq_iff_eq] at h1 h2 h3; omega)
    | (rw [h1, h2, h3] at hd
       simp only [Bool.and_true, Bool.and_false, Bool.or_true, Bool.or_false] at hd
       rw [hd]
       clear hd
       go_enter Tryd.func40, Tryd.ntmps40
       go_wp2
       go_ret
       exact ⟨rfl, rfl⟩)

set_option maxHeartbeats 1000000 in
theorem inKey_any (c : Int) (w : World) :
    Calls Tryd.prog 41 #[.int .u8 c] w fun e w' => e = .returned (.bool (ikI c)) ∧ w = w' := by
  have cB := beginsKey_any c w
  have hd : ikI c = (bkI c || (decide (48 ≤ c) && decide (c ≤ 57)) || c == 95 || c == 45 || c == 46) := rfl
  rw [hd]
  clear hd
  generalize bkI c = b at *
  cases b
  · cases h1 : decide (48 ≤ c) <;> cases h2 : decide (c ≤ 57) <;> cases h3 : (c == 95) <;> cases h4 : (c == 45) <;> cases h5 : (c == 46)
    all_goals
      first
      | (exfalso; simp only [decide_eq_true_eq, decide_eq_false_iff_not, beq_iff_eq] at h1 h2 h3 h4 h5; omega)
      | (go_enter Tryd.func41, Tryd.ntmps41
         go_wp2_with (go_at_call 40; refine cB.mono ?_; rintro e w' ⟨rfl, rfl⟩)
         go_ret
         exact ⟨rfl, rfl⟩)
  · go_enter Tryd.func41, Tryd.ntmps41
    go_wp2_with (go_at_call 40; refine cB.mono ?_; rintro e w' ⟨rfl, rfl⟩)
    go_ret
    exact ⟨by simp, rfl⟩

/-- How long the key is with which a text begins. -/
def klen : List UInt8 → Nat
  | [] => 0
  | c :: r => if bkI c.toNat then 1 + (r.takeWhile (fun c => ikI c.toNat)).length else 0

theorem klen_le (l : List UInt8) : klen l ≤ l.length := by
  cases l with
  | nil => exact Nat.le_refl _
  | cons c r =>
    unfold klen
    have := takeWhile_len_le (fun c => ikI c.toNat) r
    simp only [List.length_cons]
    split <;> omega

set_option maxHeartbeats 1000000 in
theorem keyLength_any (s : ByteArray) (w : World) (hs : s.size ≤ maxLen) :
    Calls Tryd.prog 23 #[.string s] w fun e w' => e = .returned (.int .i64 (klen s.data.toList : Int)) ∧ w = w' := by
  unfold maxLen at hs
  by_cases h0 : 0 < s.size
  · have hemp : s.toList.isEmpty = false := by rw [Lib.toList_data]; exact isEmpty_false_of s h0
    have cB := beginsKey_any ((s[0]'h0).toNat : Int) w
    have Hdr := Lib.hid (drop_cons_at s 0 h0)
    cases hb : bkI ((s[0]'h0).toNat : Int)
    · have Hz : Hid (klen s.data.toList = 0) := Lib.hid (by
        have := Hdr.out
        rw [List.drop_zero] at this
        rw [this, klen, hb]; rfl)
      rw [hb] at cB
      clear hb
      go_enter Tryd.func23, Tryd.ntmps23
      go_wp2_with (go_at_call 40; refine cB.mono ?_; rintro e w' ⟨rfl, rfl⟩)
      go_ret
      exact ⟨ret_eq (int_eq (by rw [Hz.out]; rfl)), rfl⟩
    · have Hz : Hid (klen s.data.toList = 1 + ((s.data.toList.drop 1).takeWhile (fun c => ikI c.toNat)).length) := Lib.hid (by
        have := Hdr.out
        rw [List.drop_zero] at this
        rw [this, klen, hb]; rfl)
      rw [hb] at cB
      clear hb Hdr
      go_enter Tryd.func23, Tryd.ntmps23
      go_wp2_with (go_at_call 40; refine cB.mono ?_; rintro e w' ⟨rfl, rfl⟩)
      go_loop [3] (fun i => ∃ k : Nat, 1 ≤ k ∧ k ≤ s.size ∧ i = .int .i64 k ∧ Hid (klen s.data.toList = k + ((s.data.toList.drop k).takeWhile (fun c => ikI c.toNat)).length)) (fun i => s.size - (intOf i).toNat)
      case atStart => exact ⟨1, by omega, by omega, rfl, Hz⟩
      case round =>
        clear Hz cB
        obtain ⟨k, hk1, hk, rfl, H⟩ := hrel
        by_cases hlt : k < s.size
        · have Hdr := Lib.hid (drop_cons_at s k hlt)
          have cT := inKey_any ((s[k]'hlt).toNat : Int) w
          cases hd : ikI (s[k].toNat : Int)
          · have Hf := Lib.hid hd
            rw [hd] at cT
            clear hd
            go_wp2_with (go_at_call 41; refine cT.mono ?_; rintro e w' ⟨rfl, rfl⟩)
            go_ret
            exact ⟨ret_eq (int_eq (by rw [H.out, Hdr.out, List.takeWhile_cons, Hf.out]; simp)), rfl⟩
          · have Hf := Lib.hid hd
            rw [hd] at cT
            clear hd
            go_wp2_with (go_at_call 41; refine cT.mono ?_; rintro e w' ⟨rfl, rfl⟩)
            go_round
            case rel => exact ⟨k + 1, by omega, by omega, by go_num, Lib.hid (by rw [H.out, Hdr.out, List.takeWhile_cons, Hf.out]; simp; omega)⟩
            case measure => simp [intOf]; omega
        · have Hd : Hid (s.data.toList.drop k = []) := Lib.hid (List.drop_of_length_le (by rw [← Lib.size_eq]; omega))
          go_wp2
          go_ret
          exact ⟨ret_eq (int_eq (by rw [H.out, Hd.out]; simp)), rfl⟩
  · have he : s.data.toList = [] := List.eq_nil_of_length_eq_zero (by rw [← Lib.size_eq]; omega)
    have hemp : s.toList.isEmpty = true := by rw [Lib.toList_data, he]; rfl
    have Hz : Hid (klen s.data.toList = 0) := Lib.hid (by rw [he]; rfl)
    clear he
    go_enter Tryd.func23, Tryd.ntmps23
    go_wp2
    go_ret
    exact ⟨ret_eq (int_eq (by rw [Hz.out]; rfl)), rfl⟩

/-- Whether a text is a key. -/
def keyL (l : List UInt8) : Bool := !l.isEmpty && klen l == l.length

set_option maxHeartbeats 1000000 in
theorem key_any (s : ByteArray) (w : World) (hs : s.size ≤ maxLen) :
    Calls Tryd.prog 13 #[.string s] w fun e w' => e = .returned (.bool (keyL s.data.toList)) ∧ w = w' := by
  have cK := fun W => keyLength_any s W hs
  have hd : keyL s.data.toList = (!s.toList.isEmpty && ((klen s.data.toList : Int) == (s.size : Int))) := by
    rw [keyL, Lib.toList_data, ← Lib.size_eq]
    congr 1
    rw [Bool.eq_iff_iff]
    simp
    omega
  have Hd := Lib.hid hd
  clear hd
  cases h1 : s.toList.isEmpty
  · rw [h1] at Hd
    have n1 : (s.toList != []) = true := by rw [List.isEmpty_eq_false_iff] at h1; simpa using h1
    have n2 : (!s.toList.isEmpty) = true := by rw [h1]; rfl
    go_enter Tryd.func13, Tryd.ntmps13
    go_wp2_with (go_at_call 23; refine (cK _).mono ?_; rintro e w' ⟨rfl, rfl⟩)
    go_ret
    exact ⟨ret_eq (bool_eq (by rw [Hd.out]; simp)), rfl⟩
  · rw [h1] at Hd
    have n2 : (!s.toList.isEmpty) = false := by rw [h1]; rfl
    clear cK
    go_enter Tryd.func13, Tryd.ntmps13
    go_wp2
    go_ret
    exact ⟨ret_eq (bool_eq (by rw [Hd.out]; simp)), rfl⟩

/-- What ReadKey answers. -/
def rkV (l : List UInt8) : Value := if klen l = 0 then .tuple #[.string ⟨#[]⟩, .int .i64 0, .int .i64 2] else .tuple #[.string (strB (l.take (klen l))), .int .i64 (klen l : Int), .int .i64 0]

def rkPost (v : Value) (w : World) (e : Ending) (w' : World) : Prop := e = .returned v ∧ w = w'

set_option maxHeartbeats 1000000 in
theorem readKey_any (s : ByteArray) (w : World) (hs : s.size ≤ maxLen) :
    Calls Tryd.prog 12 #[.string s] w (rkPost (rkV s.data.toList) w) := by
  have cK := fun W => keyLength_any s W hs
  unfold maxLen at hs
  have hn := klen_le s.data.toList
  rw [← Lib.size_eq] at hn
  by_cases h0 : klen s.data.toList = 0
  · rw [rkV, if_pos h0]
    rw [h0] at cK
    clear h0 hn
    go_enter Tryd.func12, Tryd.ntmps12
    go_wp2_with (go_at_call 23; refine (cK _).mono ?_; rintro e w' ⟨rfl, rfl⟩)
    exact bodyPost_ret (v := .tuple #[.string ⟨#[]⟩, .int .i64 0, .int .i64 2]) (by simp [results, Tryd.results12, go_sem]) rfl ⟨rfl, rfl⟩
  · have hx : strB (s.data.toList.take (klen s.data.toList)) = s.extract 0 (klen s.data.toList) := by rw [← extract_take, strB_of]
    rw [rkV, if_neg h0, hx]
    clear hx
    generalize klen s.data.toList = n at *
    have hne : ((n : Int) == 0) = false := by simpa using h0
    go_enter Tryd.func12, Tryd.ntmps12
    go_wp2_with (go_at_call 23; refine (cK _).mono ?_; rintro e w' ⟨rfl, rfl⟩)
    exact bodyPost_ret (v := .tuple #[.string (s.extract 0 n), .int .i64 (n : Int), .int .i64 0]) (by simp [results, Tryd.results12, go_sem]) rfl ⟨rfl, rfl⟩

set_option maxHeartbeats 1000000 in
theorem unspoken_any (w : World) :
    Calls Tryd.prog 38 #[] w fun e w' => e = .returned (.agg #[.int .i64 6, .int .i64 1, .string ⟨#[]⟩]) ∧ Below w.heap.size w w' := by
  go_enter Tryd.func38, Tryd.ntmps38
  go_wp2
  exact bodyPost_ret (v := .agg #[.int .i64 6, .int .i64 1, .string ⟨#[]⟩]) (by simp [results, Tryd.results38, go_sem]) rfl ⟨rfl, (Below.refl _ _).alloc (Nat.le_refl _) _⟩

end Go.Proofs.YtcjnigmklijjiaaDoor
