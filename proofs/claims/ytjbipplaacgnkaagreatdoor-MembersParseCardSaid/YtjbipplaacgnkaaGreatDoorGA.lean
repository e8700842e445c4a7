/- Plain facts about bytes: which are letters, digits, marks and blanks; no program is named. · Plain facts about texts and rows of memory; no program is named. · The contracts of what package bare calls of package ascii, and of bare's functions on one byte. · The contracts of bare's functions on texts: inToken, isPrintable, tokenLength, leadingDigits, number, noItem. · Laws that no program is named in: a copy out of a string into a block that was made last; an owned row of bytes turned to a string; what text an owned row holds. -/
import Derived.Test.YtjbipplaacgnkaaGreatDoorRows
import Derived.Test.YtjbipplaacgnkaaGreatDoorShelf
import Derived.Lib.Strings
import Derived.Lib.Bytealg
import Derived.Below
import Derived.Lib.IndexBytes
import Derived.Lib.Hide
import Derived.Laws.IdiomStrings
import Derived.Deep.Draws
import Derived.WalkKit
import Derived.WalkSpells
import Derived.WalkLawsBesides
import Derived.Laws.CopyRow
import Derived.Laws.BytesArg
import Derived.Laws.AppendOwn
import Derived.Tactics

namespace Go.Proofs.YtjbipplaacgnkaaGreatDoor

def digI (c : Int) : Bool := decide (48 ≤ c) && decide (c ≤ 57)
def upI (c : Int) : Bool := decide (65 ≤ c) && decide (c ≤ 90)
def lowI (c : Int) : Bool := decide (97 ≤ c) && decide (c ≤ 122)
def ltrI (c : Int) : Bool := upI c || lowI c
def marksL : List UInt8 := [33, 35, 36, 37, 38, 39, 42, 43, 45, 46, 94, 95, 96, 124, 126]
def markI (c : Int) : Bool := decide (0 ≤ Lib.indexByte marksL c.toNat.toUInt8)
def tchI (c : Int) : Bool := ltrI c || digI c || markI c
def txtI (c : Int) : Bool := c == 9 || (decide (32 ≤ c) && c != 127)

/-- A token: at least one byte, each of which may stand in one. -/
def tokL (l : List UInt8) : Bool := l.all (fun c => tchI c.toNat) && !l.isEmpty

theorem take_snoc (s : ByteArray) (k : Nat) (h : k < s.size) : s.data.toList.take (k + 1) = s.data.toList.take k ++ [s[k]] := by
  rw [List.take_succ_eq_append_getElem (by simpa using h)]; rfl

theorem take_all (s : ByteArray) (k : Nat) (h : s.size ≤ k) : s.data.toList.take k = s.data.toList :=
  List.take_of_length_le (by simpa using h)

theorem all_snoc (p : UInt8 → Bool) (s : ByteArray) (k : Nat) (h : k < s.size) : (s.data.toList.take (k + 1)).all p = ((s.data.toList.take k).all p && p s[k]) := by
  rw [take_snoc s k h]; simp

theorem all_false_of (p : UInt8 → Bool) (s : ByteArray) (k : Nat) (h : k < s.size) (hp : p s[k] = false) : s.data.toList.all p = false := by
  rw [List.all_eq_false]
  exact ⟨s[k], Array.getElem_mem_toList h, by simp [hp]⟩

theorem int_eq {k : IntKind} {a b : Int} (h : a = b) : Value.int k a = Value.int k b := by rw [h]
theorem ret_eq {a b : Value} (h : a = b) : Ending.returned a = .returned b := by rw [h]
theorem bool_eq {a b : Bool} (h : a = b) : Value.bool a = Value.bool b := by rw [h]
theorem two_eq {a b c d : Value} (h : a = c) (h' : b = d) : Ending.returned (.tuple #[a, b]) = .returned (.tuple #[c, d]) := by rw [h, h']

/-- The number that digits tell, at most 2147483648. -/
def digStep (n : Int) (c : UInt8) : Int := min (10 * n + ((c.toNat : Int) - 48)) 2147483648
def digN (l : List UInt8) : Int := l.foldl digStep 0
def digAll (l : List UInt8) : Bool := l.all (fun c => digI c.toNat)
def digitsN (l : List UInt8) : Int := if digAll l then digN l else 0
def digitsB (l : List UInt8) : Bool := digAll l && !l.isEmpty

theorem digN_snoc (s : ByteArray) (k : Nat) (h : k < s.size) : digN (s.data.toList.take (k + 1)) = digStep (digN (s.data.toList.take k)) s[k] := by
  rw [take_snoc s k h]; simp [digN]

theorem digI_iff (c : Int) : digI c = true ↔ 48 ≤ c ∧ c ≤ 57 := by simp [digI]

theorem digN_bd : ∀ (l : List UInt8) (n : Int), 0 ≤ n → n ≤ 2147483648 → l.all (fun c => digI c.toNat) = true → 0 ≤ l.foldl digStep n ∧ l.foldl digStep n ≤ 2147483648
  | [], _, h0, h1, _ => ⟨h0, h1⟩
  | c :: l, n, h0, h1, h => by
    simp only [List.all_cons, Bool.and_eq_true] at h
    obtain ⟨a, b⟩ := (digI_iff _).1 h.1
    exact digN_bd l (digStep n c) (by unfold digStep; omega) (by unfold digStep; omega) h.2

theorem digN_in (s : ByteArray) (k : Nat) (h : digAll (s.data.toList.take k) = true) : 0 ≤ digN (s.data.toList.take k) ∧ digN (s.data.toList.take k) ≤ 2147483648 :=
  digN_bd _ 0 (by omega) (by omega) h

theorem isEmpty_false_of (s : ByteArray) (h : 0 < s.size) : s.data.toList.isEmpty = false := by
  rw [List.isEmpty_eq_false_iff]
  intro e
  have h1 : s.data.toList.length = s.size := by rw [Lib.size_eq]
  rw [e] at h1
  simp at h1
  omega

end Go.Proofs.YtjbipplaacgnkaaGreatDoor

namespace Go.Proofs.YtjbipplaacgnkaaGreatDoor
open Go.RowKit

/-- A text as Go's string. -/
def strB (p : List UInt8) : ByteArray := ⟨p.toArray⟩
theorem strB_data (p : List UInt8) : (strB p).data.toList = p := rfl
theorem strB_size (p : List UInt8) : (strB p).size = p.length := by rw [Lib.size_eq, strB_data]
theorem strB_of (s : ByteArray) : strB s.data.toList = s := Lib.mk_data s

theorem append_data (a b : ByteArray) : (a ++ b).data.toList = a.data.toList ++ b.data.toList := by
  simp
theorem strB_append (a b : List UInt8) : strB a ++ strB b = strB (a ++ b) := by
  rw [← strB_of (strB a ++ strB b), append_data]; rfl

theorem all_bytes (p : UInt8 → Bool) (h : ∀ x : Fin 256, p (UInt8.ofNat x.val) = true) (c : UInt8) : p c = true := by
  have := h ⟨c.toNat, c.toNat_lt⟩
  simpa using this

theorem drop_cons_at (s : ByteArray) (k : Nat) (h : k < s.size) : s.data.toList.drop k = s[k] :: s.data.toList.drop (k + 1) := by
  rw [List.drop_eq_getElem_cons (by rw [← Lib.size_eq]; exact h)]; rfl

theorem byte_beq (c d : UInt8) : ((c.toNat : Int) == (d.toNat : Int)) = (c == d) := by
  rw [Bool.eq_iff_iff]
  simp only [beq_iff_eq]
  constructor
  · intro e
    exact UInt8.toNat_inj.1 (by omega)
  · intro e
    rw [e]

theorem add_none (b j : Nat) : (⟨b, 0, none⟩ : Addr).add j = ⟨b, j, none⟩ := by unfold Addr.add; split <;> simp_all

theorem extract_take (t : ByteArray) (k : Nat) : (t.extract 0 k).data.toList = t.data.toList.take k := by rw [Lib.extract_data]; simp
theorem strB_take (p : List UInt8) (k : Nat) : (strB p).extract 0 k = strB (p.take k) := by
  rw [← strB_of ((strB p).extract 0 k), extract_take]; rfl
theorem strB_drop (p : List UInt8) (k n : Nat) (h : n = p.length) : (strB p).extract k n = strB (p.drop k) := by
  subst h
  rw [← strB_of ((strB p).extract k p.length), ← strB_size, Lib.extract_to_end]; rfl
theorem one_at (s : ByteArray) (k : Nat) (h : k < s.size) : s.extract k (k + 1) = strB [s[k]] := by
  have hl : k < s.data.toList.length := by rw [← Lib.size_eq]; exact h
  rw [← strB_of (s.extract k (k + 1)), Lib.extract_data]
  congr 1
  rw [show k + 1 - k = 1 by omega, List.drop_eq_getElem_cons hl]
  rfl

theorem takeWhile_len_le (p : UInt8 → Bool) : ∀ l : List UInt8, (l.takeWhile p).length ≤ l.length
  | [] => Nat.le_refl _
  | c :: l => by
    have := takeWhile_len_le p l
    rw [List.takeWhile_cons]
    split
    · simp only [List.length_cons]; omega
    · simp

theorem ownsRow_later {w w' : World} {base : Nat} {e : TypeId} {size : Nat} {v : Value} {n : Nat} {xs : List Value} (h : w.ownsRow base e size v n xs) (hb : Below w.heap.size w w') : w'.ownsRow base e size v n xs := by
  obtain ⟨h1, h2⟩ := h
  refine ⟨h1, ?_⟩
  rcases h2 with h2 | ⟨g, cap, cur, hv, hg, hh, r⟩
  · exact Or.inl h2
  · exact Or.inr ⟨g, cap, cur, hv, hg, by rw [hb.block g (Array.getElem?_eq_some_iff.1 hh).1]; exact hh, r⟩

theorem bcell {W w1 : World} (hb : Below W.heap.size W w1) : (∀ b o, b < W.heap.size → w1.cell? ⟨b, o, none⟩ = W.cell? ⟨b, o, none⟩) ∧ (∀ b o, b < W.heap.size → w1.frozen? ⟨b, o, none⟩ = W.frozen? ⟨b, o, none⟩) :=
  ⟨fun b o h => hb.cell (p := ⟨b, o, none⟩) h, fun b o h => hb.frozen (p := ⟨b, o, none⟩) h⟩

theorem below_drewN (w : World) (n : Nat) : Below w.heap.size w (w.drewN n) := ⟨rfl, rfl, rfl, Nat.le_refl _, fun _ _ => rfl⟩

theorem lt_of_cell {w : World} {a : Addr} {v : Value} (h : w.cell? a = some v) : a.block < w.heap.size := by
  rcases Nat.lt_or_ge a.block w.heap.size with h1 | h1
  · exact h1
  · exfalso
    unfold World.cell? at h
    rw [Array.getElem?_eq_none h1] at h
    simp at h

end Go.Proofs.YtjbipplaacgnkaaGreatDoor

namespace Go.Proofs.YtjbipplaacgnkaaGreatDoor
open Go.RowKit

def prI (c : Int) : Bool := decide (32 ≤ c) && decide (c ≤ 126)
def escI (c : Int) : Bool := c == 34 || c == 92
def btI (c : Int) : Bool := upI c || lowI c || c == 42
def ttI (c : Int) : Bool := tchI c || c == 58 || c == 47

set_option maxHeartbeats 400000 in
theorem aIsDigit_any (c : Int) (w : World) :
    Calls Tryz.prog 175 #[.int .u8 c] w fun e w' => e = .returned (.bool (digI c)) ∧ w = w' := by
  cases h1 : decide (48 ≤ c) <;> cases h2 : decide (c ≤ 57)
  all_goals
    have hd : digI c = (decide (48 ≤ c) && decide (c ≤ 57)) := rfl
    simp only [h1, h2, Bool.and_true, Bool.and_false] at hd
    rw [hd]
    clear hd
    go_enter Tryz.func175, Tryz.ntmps175
    go_wp2
    go_ret
    exact ⟨rfl, rfl⟩

set_option maxHeartbeats 400000 in
theorem isDigit_any (c : Int) (w : World) :
    Calls Tryz.prog 134 #[.int .u8 c] w fun e w' => e = .returned (.bool (digI c)) ∧ w = w' := by
  cases h1 : decide (48 ≤ c) <;> cases h2 : decide (c ≤ 57)
  all_goals
    have hd : digI c = (decide (48 ≤ c) && decide (c ≤ 57)) := rfl
    simp only [h1, h2, Bool.and_true, Bool.and_false] at hd
    rw [hd]
    clear hd
    go_enter Tryz.func134, Tryz.ntmps134
    go_wp2
    go_ret
    exact ⟨rfl, rfl⟩

set_option maxHeartbeats 400000 in
theorem inString_any (c : Int) (w : World) :
    Calls Tryz.prog 143 #[.int .u8 c] w fun e w' => e = .returned (.bool (prI c)) ∧ w = w' := by
  cases h1 : decide (32 ≤ c) <;> cases h2 : decide (c ≤ 126)
  all_goals
    have hd : prI c = (decide (32 ≤ c) && decide (c ≤ 126)) := rfl
    simp only [h1, h2, Bool.and_true, Bool.and_false] at hd
    rw [hd]
    clear hd
    go_enter Tryz.func143, Tryz.ntmps143
    go_wp2
    go_ret
    exact ⟨rfl, rfl⟩

set_option maxHeartbeats 400000 in
theorem isEscaped_any (c : Int) (w : World) :
    Calls Tryz.prog 126 #[.int .u8 c] w fun e w' => e = .returned (.bool (escI c)) ∧ w = w' := by
  cases h1 : (c == 34) <;> cases h2 : (c == 92)
  all_goals
    have hd : escI c = (c == 34 || c == 92) := rfl
    simp only [h1, h2, Bool.or_true, Bool.or_false] at hd
    rw [hd]
    clear hd
    go_enter Tryz.func126, Tryz.ntmps126
    go_wp2
    go_ret
    exact ⟨rfl, rfl⟩

set_option maxHeartbeats 400000 in
theorem isUpper_any (c : Int) (w : World) :
    Calls Tryz.prog 177 #[.int .u8 c] w fun e w' => e = .returned (.bool (upI c)) ∧ w = w' := by
  cases h1 : decide (65 ≤ c) <;> cases h2 : decide (c ≤ 90)
  all_goals
    have hd : upI c = (decide (65 ≤ c) && decide (c ≤ 90)) := rfl
    simp only [h1, h2, Bool.and_true, Bool.and_false] at hd
    rw [hd]
    clear hd
    go_enter Tryz.func177, Tryz.ntmps177
    go_wp2
    go_ret
    exact ⟨rfl, rfl⟩

set_option maxHeartbeats 400000 in
theorem isLetter_any (c : Int) (w : World) :
    Calls Tryz.prog 174 #[.int .u8 c] w fun e w' => e = .returned (.bool (ltrI c)) ∧ w = w' := by
  have cU := isUpper_any c w
  have hd : ltrI c = (upI c || (decide (97 ≤ c) && decide (c ≤ 122))) := rfl
  generalize upI c = u at cU hd
  cases u
  · cases h1 : decide (97 ≤ c) <;> cases h2 : decide (c ≤ 122)
    all_goals
      simp only [h1, h2, Bool.and_true, Bool.and_false, Bool.false_or] at hd
      rw [hd]
      clear hd
      go_enter Tryz.func174, Tryz.ntmps174
      go_wp2_with (go_at_call 177; refine cU.mono ?_; rintro e w' ⟨rfl, rfl⟩)
      go_ret
      exact ⟨rfl, rfl⟩
  · rw [hd]
    clear hd
    go_enter Tryz.func174, Tryz.ntmps174
    go_wp2_with (go_at_call 177; refine cU.mono ?_; rintro e w' ⟨rfl, rfl⟩)
    go_ret
    exact ⟨rfl, rfl⟩

set_option maxHeartbeats 1000000 in
theorem aInToken_any (c : Int) (w : World) :
    Calls Tryz.prog 168 #[.int .u8 c] w fun e w' => e = .returned (.bool (tchI c)) ∧ w = w' := by
  have cL := isLetter_any c w
  have cD := aIsDigit_any c w
  have cI := Tryz.strings_IndexByte ⟨#[33, 35, 36, 37, 38, 39, 42, 43, 45, 46, 94, 95, 96, 124, 126]⟩ c w
  have hd : tchI c = (ltrI c || digI c || decide (0 ≤ Lib.indexByte marksL c.toNat.toUInt8)) := rfl
  have hm : (⟨#[33, 35, 36, 37, 38, 39, 42, 43, 45, 46, 94, 95, 96, 124, 126]⟩ : ByteArray).data.toList = marksL := rfl
  rw [hm] at cI
  clear hm
  generalize Lib.indexByte marksL c.toNat.toUInt8 = n at cI hd
  generalize ltrI c = l at cL hd
  generalize digI c = d at cD hd
  rw [hd]
  clear hd
  cases l <;> cases d
  all_goals
    go_enter Tryz.func168, Tryz.ntmps168
    go_wp2_with (first | (go_at_call 174; refine cL.mono ?_; rintro e w' ⟨rfl, rfl⟩) | (go_at_call 175; refine cD.mono ?_; rintro e w' ⟨rfl, rfl⟩) | (go_at_call 129; refine cI.mono ?_; rintro e w' ⟨rfl, rfl⟩))
    go_ret
    exact ⟨rfl, rfl⟩

set_option maxHeartbeats 1000000 in
theorem token_any (s : ByteArray) (w : World) (hs : s.size ≤ maxLen) :
    Calls Tryz.prog 158 #[.string s] w fun e w' => e = .returned (.bool (tokL s.data.toList)) ∧ w = w' := by
  unfold maxLen at hs
  go_enter Tryz.func158, Tryz.ntmps158
  go_wp2
  go_loop [6] (fun i => ∃ k : Nat, k ≤ s.size ∧ i = .int .i64 k ∧ Hid ((s.data.toList.take k).all (fun c => tchI c.toNat) = true)) (fun i => s.size - (intOf i).toNat)
  case atStart => exact ⟨0, Nat.zero_le _, rfl, Lib.hid rfl⟩
  case round =>
    obtain ⟨k, hk, rfl, Hall⟩ := hrel
    by_cases hlt : k < s.size
    · have cT := aInToken_any (s[k].toNat : Int) w
      cases hd : tchI (s[k].toNat : Int)
      · have Hf := Lib.hid (all_false_of (fun c => tchI c.toNat) s k hlt hd)
        rw [hd] at cT
        clear hd
        go_wp2_with (go_at_call 168; refine cT.mono ?_; rintro e w' ⟨rfl, rfl⟩)
        go_ret
        exact ⟨by simp [tokL, Hf.out], rfl⟩
      · have Ha := Lib.hid (all_snoc (fun c => tchI c.toNat) s k hlt)
        rw [hd] at cT
        have Hd := Lib.hid hd
        clear hd
        go_wp2_with (go_at_call 168; refine cT.mono ?_; rintro e w' ⟨rfl, rfl⟩)
        go_round
        case rel => exact ⟨k + 1, by omega, by go_num, Lib.hid (by rw [Ha.out, Hd.out, Bool.and_true]; exact Hall.out)⟩
        case measure => simp [intOf]; omega
    · have hk' : s.size ≤ k := by omega
      go_wp2
      go_ret
      refine ⟨ret_eq (bool_eq ?_), rfl⟩
      rw [take_all s k hk'] at Hall
      rw [tokL, Hall.out, Lib.toList_data, Bool.true_and]

set_option maxHeartbeats 400000 in
theorem beginsToken_any (c : Int) (w : World) :
    Calls Tryz.prog 137 #[.int .u8 c] w fun e w' => e = .returned (.bool (btI c)) ∧ w = w' := by
  have hd : btI c = ((decide (65 ≤ c) && decide (c ≤ 90)) || (decide (97 ≤ c) && decide (c ≤ 122)) || c == 42) := rfl
  cases h1 : decide (65 ≤ c) <;> cases h2 : decide (c ≤ 90) <;> cases h3 : decide (97 ≤ c) <;> cases h4 : decide (c ≤ 122) <;> cases h5 : (c == 42)
  all_goals
    first
    | (exfalso; simp only [decide_eq_true_eq, decide_eq_false_iff_not, beq_iff_eq] at h1 h2 h3 h4 h5; omega)
    | (simp only [h1, h2, h3, h4, h5, Bool.and_true, Bool.and_false, Bool.or_true, Bool.or_false] at hd
       rw [hd]
       clear hd
       go_enter Tryz.func137, Tryz.ntmps137
       go_wp2
       go_ret
       exact ⟨rfl, rfl⟩)

end Go.Proofs.YtjbipplaacgnkaaGreatDoor

namespace Go.Proofs.YtjbipplaacgnkaaGreatDoor
open Go.RowKit

theorem tokL_one (c : UInt8) : tokL [c] = tchI c.toNat := by simp [tokL]

theorem one_eq (c d : UInt8) : ((strB [c]).toList == [d]) = (c == d) := by
  rw [Lib.toList_data, strB_data, Bool.eq_iff_iff]
  simp

set_option maxHeartbeats 1000000 in
theorem inToken_any (c : UInt8) (w : World) :
    Calls Tryz.prog 144 #[.string (strB [c])] w fun e w' => e = .returned (.bool (ttI c.toNat)) ∧ w = w' := by
  have cT := token_any (strB [c]) w (by rw [strB_size]; unfold maxLen; simp)
  rw [strB_data, tokL_one] at cT
  have hd : ttI c.toNat = (tchI c.toNat || ((c.toNat : Int) == 58) || ((c.toNat : Int) == 47)) := rfl
  have b58 : ((c.toNat : Int) == 58) = (c == 58) := byte_beq c 58
  have b47 : ((c.toNat : Int) == 47) = (c == 47) := byte_beq c 47
  have e58 := one_eq c 58
  have e47 := one_eq c 47
  rw [b58, b47] at hd
  clear b58 b47
  generalize tchI (c.toNat : Int) = a at cT hd
  generalize (c == 58) = b at hd e58
  generalize (c == 47) = d at hd e47
  generalize ttI (c.toNat : Int) = r at hd
  generalize strB [c] = t at cT e58 e47
  subst hd
  cases a <;> cases b <;> cases d
  all_goals
    go_enter Tryz.func144, Tryz.ntmps144
    go_wp2_with (go_at_call 158; refine cT.mono ?_; rintro e w' ⟨rfl, rfl⟩)
    go_ret
    exact ⟨rfl, rfl⟩

def prL (l : List UInt8) : Bool := l.all (fun c => prI c.toNat)

set_option maxHeartbeats 1000000 in
theorem isPrintable_any (s : ByteArray) (w : World) (hs : s.size ≤ maxLen) :
    Calls Tryz.prog 122 #[.string s] w fun e w' => e = .returned (.bool (prL s.data.toList)) ∧ w = w' := by
  unfold maxLen at hs
  go_enter Tryz.func122, Tryz.ntmps122
  go_wp2
  go_loop [6] (fun i => ∃ k : Nat, k ≤ s.size ∧ i = .int .i64 k ∧ Hid ((s.data.toList.take k).all (fun c => prI c.toNat) = true)) (fun i => s.size - (intOf i).toNat)
  case atStart => exact ⟨0, Nat.zero_le _, rfl, Lib.hid rfl⟩
  case round =>
    obtain ⟨k, hk, rfl, Hall⟩ := hrel
    by_cases hlt : k < s.size
    · have cT := inString_any (s[k].toNat : Int) w
      cases hd : prI (s[k].toNat : Int)
      · have Hf := Lib.hid (all_false_of (fun c => prI c.toNat) s k hlt hd)
        rw [hd] at cT
        clear hd
        go_wp2_with (go_at_call 143; refine cT.mono ?_; rintro e w' ⟨rfl, rfl⟩)
        go_ret
        exact ⟨by simp [prL, Hf.out], rfl⟩
      · have Ha := Lib.hid (all_snoc (fun c => prI c.toNat) s k hlt)
        rw [hd] at cT
        have Hd := Lib.hid hd
        clear hd
        go_wp2_with (go_at_call 143; refine cT.mono ?_; rintro e w' ⟨rfl, rfl⟩)
        go_round
        case rel => exact ⟨k + 1, by omega, by go_num, Lib.hid (by rw [Ha.out, Hd.out, Bool.and_true]; exact Hall.out)⟩
        case measure => simp [intOf]; omega
    · have hk' : s.size ≤ k := by omega
      go_wp2
      go_ret
      refine ⟨ret_eq (bool_eq ?_), rfl⟩
      rw [take_all s k hk'] at Hall
      rw [prL, Hall.out]

/-- How long the token is with which a text begins. -/
def tlen : List UInt8 → Nat
  | [] => 0
  | c :: r => if btI c.toNat then 1 + (r.takeWhile (fun c => ttI c.toNat)).length else 0

theorem tlen_le (l : List UInt8) : tlen l ≤ l.length := by
  cases l with
  | nil => exact Nat.le_refl _
  | cons c r =>
    unfold tlen
    have := takeWhile_len_le (fun c => ttI c.toNat) r
    simp only [List.length_cons]
    split <;> omega

set_option maxHeartbeats 1000000 in
theorem tokenLength_any (s : ByteArray) (w : World) (hs : s.size ≤ maxLen) :
    Calls Tryz.prog 123 #[.string s] w fun e w' => e = .returned (.int .i64 (tlen s.data.toList : Int)) ∧ w = w' := by
  unfold maxLen at hs
  by_cases h0 : 0 < s.size
  · have hemp : s.toList.isEmpty = false := by rw [Lib.toList_data]; exact isEmpty_false_of s h0
    have cB := beginsToken_any ((s[0]'h0).toNat : Int) w
    have Hdr := Lib.hid (drop_cons_at s 0 h0)
    cases hb : btI ((s[0]'h0).toNat : Int)
    · have Hz : Hid (tlen s.data.toList = 0) := Lib.hid (by
        have := Hdr.out
        rw [List.drop_zero] at this
        rw [this, tlen, hb]; rfl)
      rw [hb] at cB
      clear hb
      go_enter Tryz.func123, Tryz.ntmps123
      go_wp2_with (go_at_call 137; refine cB.mono ?_; rintro e w' ⟨rfl, rfl⟩)
      go_ret
      exact ⟨ret_eq (int_eq (by rw [Hz.out]; rfl)), rfl⟩
    · have Hz : Hid (tlen s.data.toList = 1 + ((s.data.toList.drop 1).takeWhile (fun c => ttI c.toNat)).length) := Lib.hid (by
        have := Hdr.out
        rw [List.drop_zero] at this
        rw [this, tlen, hb]; rfl)
      rw [hb] at cB
      clear hb Hdr
      go_enter Tryz.func123, Tryz.ntmps123
      go_wp2_with (go_at_call 137; refine cB.mono ?_; rintro e w' ⟨rfl, rfl⟩)
      go_loop [3] (fun i => ∃ k : Nat, 1 ≤ k ∧ k ≤ s.size ∧ i = .int .i64 k ∧ Hid (tlen s.data.toList = k + ((s.data.toList.drop k).takeWhile (fun c => ttI c.toNat)).length)) (fun i => s.size - (intOf i).toNat)
      case atStart => exact ⟨1, by omega, by omega, rfl, Hz⟩
      case round =>
        clear Hz cB
        obtain ⟨k, hk1, hk, rfl, H⟩ := hrel
        by_cases hlt : k < s.size
        · have Hdr := Lib.hid (drop_cons_at s k hlt)
          have cT := inToken_any s[k] w
          rw [← one_at s k hlt] at cT
          cases hd : ttI (s[k].toNat : Int)
          · have Hf := Lib.hid hd
            rw [hd] at cT
            clear hd
            go_wp2_with (go_at_call 144; refine cT.mono ?_; rintro e w' ⟨rfl, rfl⟩)
            go_ret
            exact ⟨ret_eq (int_eq (by rw [H.out, Hdr.out, List.takeWhile_cons, Hf.out]; simp)), rfl⟩
          · have Hf := Lib.hid hd
            rw [hd] at cT
            clear hd
            go_wp2_with (go_at_call 144; refine cT.mono ?_; rintro e w' ⟨rfl, rfl⟩)
            go_round
            case rel => exact ⟨k + 1, by omega, by omega, by go_num, Lib.hid (by rw [H.out, Hdr.out, List.takeWhile_cons, Hf.out]; simp; omega)⟩
            case measure => simp [intOf]; omega
        · have Hd : Hid (s.data.toList.drop k = []) := Lib.hid (List.drop_of_length_le (by rw [← Lib.size_eq]; omega))
          go_wp2
          go_ret
          exact ⟨ret_eq (int_eq (by rw [H.out, Hd.out]; simp)), rfl⟩
  · have he : s.data.toList = [] := List.eq_nil_of_length_eq_zero (by rw [← Lib.size_eq]; omega)
    have hemp : s.toList.isEmpty = true := by rw [Lib.toList_data, he]; rfl
    have Hz : Hid (tlen s.data.toList = 0) := Lib.hid (by rw [he]; rfl)
    clear he
    go_enter Tryz.func123, Tryz.ntmps123
    go_wp2
    go_ret
    exact ⟨ret_eq (int_eq (by rw [Hz.out]; rfl)), rfl⟩

/-- The digits with which a text begins. -/
def ldig (l : List UInt8) : List UInt8 := l.takeWhile (fun c => digI c.toNat)

theorem take_takeWhile (p : UInt8 → Bool) : ∀ l : List UInt8, l.take (l.takeWhile p).length = l.takeWhile p
  | [] => rfl
  | c :: l => by
    rw [List.takeWhile_cons]
    split
    · simp [take_takeWhile p l]
    · rfl

set_option maxHeartbeats 1000000 in
theorem leadingDigits_any (s : ByteArray) (w : World) (hs : s.size ≤ maxLen) :
    Calls Tryz.prog 154 #[.string s] w fun e w' => e = .returned (.string (strB (ldig s.data.toList))) ∧ w = w' := by
  unfold maxLen at hs
  go_enter Tryz.func154, Tryz.ntmps154
  go_wp2
  go_loop [3] (fun i => ∃ k : Nat, k ≤ s.size ∧ i = .int .i64 k ∧ Hid ((ldig s.data.toList).length = k + (ldig (s.data.toList.drop k)).length)) (fun i => s.size - (intOf i).toNat)
  case atStart => exact ⟨0, by omega, rfl, Lib.hid (by simp)⟩
  case round =>
    obtain ⟨k, hk, rfl, H⟩ := hrel
    have Hend : Hid ((ldig s.data.toList).length = k → s.extract 0 k = strB (ldig s.data.toList)) := Lib.hid (by
      intro h
      rw [← strB_of (s.extract 0 k), extract_take, ← h, ldig, take_takeWhile])
    by_cases hlt : k < s.size
    · have Hdr := Lib.hid (drop_cons_at s k hlt)
      have cT := isDigit_any (s[k].toNat : Int) w
      cases hd : digI (s[k].toNat : Int)
      · have Hf : Hid (s.extract 0 k = strB (ldig s.data.toList)) := Lib.hid (Hend.out (by rw [H.out, Hdr.out, ldig, List.takeWhile_cons, hd]; simp))
        rw [hd] at cT
        clear hd Hend H Hdr
        go_wp2_with (go_at_call 134; refine cT.mono ?_; rintro e w' ⟨rfl, rfl⟩)
        go_ret
        exact ⟨by rw [← Hf.out]; rfl, rfl⟩
      · have Hf := Lib.hid hd
        rw [hd] at cT
        clear hd Hend
        go_wp2_with (go_at_call 134; refine cT.mono ?_; rintro e w' ⟨rfl, rfl⟩)
        go_round
        case rel => exact ⟨k + 1, by omega, by go_num, Lib.hid (by rw [H.out, Hdr.out, ldig, List.takeWhile_cons, Hf.out, ldig]; simp; omega)⟩
        case measure => simp [intOf]; omega
    · have Hd : Hid (s.data.toList.drop k = []) := Lib.hid (List.drop_of_length_le (by rw [← Lib.size_eq]; omega))
      have Hf : Hid (s.extract 0 k = strB (ldig s.data.toList)) := Lib.hid (Hend.out (by rw [H.out, Hd.out]; simp [ldig]))
      clear Hend H Hd
      go_wp2
      go_ret
      exact ⟨by rw [← Hf.out]; rfl, rfl⟩

/-- The number that digits tell. -/
def numL (l : List UInt8) : Int := l.foldl (fun n c => 10 * n + ((c.toNat : Int) - 48)) 0

theorem numL_snoc (l : List UInt8) (c : UInt8) : numL (l ++ [c]) = 10 * numL l + ((c.toNat : Int) - 48) := by simp [numL]

theorem numL_bd : ∀ (l : List UInt8) (n : Int) (b : Nat), 0 ≤ n → n < 10 ^ b → l.all (fun c => digI c.toNat) = true → 0 ≤ l.foldl (fun n c => 10 * n + ((c.toNat : Int) - 48)) n ∧ l.foldl (fun n c => 10 * n + ((c.toNat : Int) - 48)) n < 10 ^ (b + l.length)
  | [], _, _, h0, h1, _ => ⟨h0, h1⟩
  | c :: l, n, b, h0, h1, h => by
    simp only [List.all_cons, Bool.and_eq_true] at h
    obtain ⟨x, y⟩ := (digI_iff _).1 h.1
    have := numL_bd l (10 * n + ((c.toNat : Int) - 48)) (b + 1) (by omega) (by rw [Int.pow_succ]; omega) h.2
    simp only [List.foldl_cons, List.length_cons]
    rw [show b + (l.length + 1) = b + 1 + l.length by omega]
    exact this

theorem pow_mono (a b : Nat) (h : a ≤ b) : (10 : Int) ^ a ≤ 10 ^ b := by
  have := Nat.pow_le_pow_right (n := 10) (by decide) h
  exact_mod_cast this

theorem numL_in (l : List UInt8) (h : l.all (fun c => digI c.toNat) = true) (hl : l.length ≤ 15) : 0 ≤ numL l ∧ numL l < 1000000000000000 := by
  obtain ⟨a, b⟩ := numL_bd l 0 0 (by omega) (by decide) h
  refine ⟨a, Int.lt_of_lt_of_le b ?_⟩
  have := pow_mono (0 + l.length) 15 (by omega)
  exact this

set_option maxHeartbeats 1000000 in
theorem number_any (s : ByteArray) (w : World) (hs : s.size ≤ 15) (hall : s.data.toList.all (fun c => digI c.toNat) = true) :
    Calls Tryz.prog 155 #[.string s] w fun e w' => e = .returned (.int .i64 (numL s.data.toList)) ∧ w = w' := by
  have Hall := Lib.hid hall
  clear hall
  go_enter Tryz.func155, Tryz.ntmps155
  go_wp2
  go_loop [3, 7] (fun n i => ∃ k : Nat, k ≤ s.size ∧ i = .int .i64 k ∧ n = .int .i64 (numL (s.data.toList.take k))) (fun _ i => s.size - (intOf i).toNat)
  case atStart => exact ⟨0, by omega, rfl, rfl⟩
  case round =>
    obtain ⟨k, hk, rfl, rfl⟩ := hrel
    by_cases hlt : k < s.size
    · obtain ⟨n0, n1⟩ := numL_in (s.data.toList.take k) (by
        rw [List.all_eq_true]
        intro x hx
        exact List.all_eq_true.1 Hall.out x (List.mem_of_mem_take hx)) (by rw [List.length_take]; omega)
      have Hs : Hid (numL (s.data.toList.take (k + 1)) = 10 * numL (s.data.toList.take k) + ((s[k].toNat : Int) - 48)) := Lib.hid (by rw [take_snoc s k hlt, numL_snoc])
      have hd : digI (s[k].toNat : Int) = true := List.all_eq_true.1 Hall.out s[k] (Array.getElem_mem_toList hlt)
      obtain ⟨h48, h57⟩ := (digI_iff _).1 hd
      clear hd
      generalize numL (s.data.toList.take k) = m at n0 n1 Hs
      go_wp2
      go_round
      case rel => exact ⟨k + 1, by omega, by go_num, by rw [Hs.out]⟩
      case measure => simp [intOf]; omega
    · have Hk : Hid (s.data.toList.take k = s.data.toList) := Lib.hid (take_all s k (by omega))
      go_wp2
      go_ret
      exact ⟨ret_eq (int_eq (by rw [Hk.out])), rfl⟩

end Go.Proofs.YtjbipplaacgnkaaGreatDoor

namespace Go.Proofs.YtjbipplaacgnkaaGreatDoor
open Go.RowKit

/-- A byte as a value. -/
def u8V (c : UInt8) : Value := .int .u8 (c.toNat : Int)

theorem push_set (h : Array Obj) (x y : Obj) : (h.push x).set h.size y (by simp) = h.push y := by
  apply Array.ext
  · simp
  · intro i h1 h2
    simp only [Array.getElem_set, Array.getElem_push]
    split
    · subst_vars; simp
    · have h3 : i < h.size := by simp at h2; omega
      simp [h3]

theorem setRow_new (W : World) (cur new : Array Value) (t : TypeId) : (W.alloc (.cells cur t)).setRow W.heap.size new = W.alloc (.cells new t) := by
  unfold World.setRow World.alloc
  simp [Array.modify, Array.modifyM]
  rw [push_set]
  rfl

theorem run_copy_str {P : Program} (W : World) (dT sT ty elem : TypeId) (off dLen dCap : Nat) (s : ByteArray) (cur new : Array Value) (t : TypeId)
    (hu : P.underlying dT = some (.slice elem)) (hs : (P.info? elem).map (·.size) = some 1) (m : Nat) (hm : Nat.min s.size dLen = m) (hfit : off + m ≤ cur.size)
    (hnew : new = (cur.toList.take off ++ ((s.data.toList.take m).map u8V ++ cur.toList.drop (off + m))).toArray) :
    (Builtin.copy_ #[dT, sT] ty #[.slice (some ⟨W.heap.size, off, none⟩) dLen dCap, .string s]).run P (W.alloc (.cells cur t)) =
      .ok (goInt m) (W.alloc (.cells new t)) := by
  have hlen : ((s.data.toList.take m).map u8V).length = m := by rw [List.length_map, List.length_take, ← Lib.size_eq]; have : m ≤ s.size := by rw [← hm]; exact Nat.min_le_left _ _
                                                                omega
  have hst := run_storeCells_at P W.heap.size off t ((s.data.toList.take m).map u8V) 0 cur (W.alloc (.cells cur t)) (heap_alloc_new W _) (by rw [hlen]; simpa using hfit) (by
    intro v hv
    obtain ⟨x, _, rfl⟩ := List.mem_map.1 hv
    rfl)
  rw [hlen] at hst
  simp only [Nat.add_zero] at hst
  cases hq : P.info? elem with
  | none => simp [hq] at hs
  | some i =>
    have h1 : List.take m (List.map (fun b : UInt8 => Value.int IntKind.u8 (b.toNat : Int)) s.data.toList) = (s.data.toList.take m).map u8V := by
      rw [← List.map_take]; rfl
    simp [Builtin.copy_, run_underlying hu, Builtin.lenOf, Builtin.firstCells, sizeOf, typeInfo, hq, hm]
    rw [← List.map_take, show (fun b : UInt8 => Value.int IntKind.u8 (b.toNat : Int)) = u8V from rfl, hst, setRow_new, hnew]
    simp [Result.andThen]

theorem wpList_copy_str {P : Program} {W : World} {ops : Array Oper} {rest : List Oper} {o : Oper} {a : Act} {Q : Exit → Act → World → Prop} (hgd : o.guard = none) (d s : Operand) (dT sT : TypeId)
    (ho : o.op = .call { callee := .builtin .copy, args := #[d, s], argTypes := #[dT, sT] }) (elem : TypeId) (hu : P.underlying dT = some (.slice elem)) (hsz : (P.info? elem).map (·.size) = some 1)
    (off dLen dCap : Nat) (str : ByteArray) (cur new : Array Value) (t : TypeId) (hd : a.eval d = .slice (some ⟨W.heap.size, off, none⟩) dLen dCap) (hs : a.eval s = .string str) (m : Nat) (hm : Nat.min str.size dLen = m) (hfit : off + m ≤ cur.size)
    (hnew : new = (cur.toList.take off ++ ((str.data.toList.take m).map u8V ++ cur.toList.drop (off + m))).toArray)
    (h : wpList P ops Q rest (a.put o.dst (goInt m)) (W.alloc (.cells new t))) : wpList P ops Q (o :: rest) a (W.alloc (.cells cur t)) := by
  refine wpList_plain hgd fun K hK => ?_
  have hrun := run_copy_str (P := P) W dT sT o.type elem off dLen dCap str cur new t hu hsz m hm hfit hnew
  unfold Oper.wp
  simp [execOp, ho, resolve, invoke, builtin, hd, hs, hrun, Result.andThen]
  exact hK _ _ h

/-- An owned row of bytes as a string. -/
theorem run_owned_str {P : Program} {w : World} {src dst e : TypeId} {B : Nat} {v : Value} {l : List UInt8} (hs : P.underlying src = some (.slice e)) (he : P.underlying e = some (.int .u8)) (hd : P.underlying dst = some .string)
    (h : w.ownsRow B e 1 v l.length (l.map u8V)) : (convert src dst v).run P w = .ok (.string (strB l)) w := by
  obtain ⟨h1, h2⟩ := h
  rcases h2 with ⟨rfl, h2⟩ | ⟨g, cap, cur, rfl, hg, hh, r⟩
  · have : l = [] := List.eq_nil_of_length_eq_zero h2
    subst this
    exact run_convert_bytes_nil w src e hs he 0 0 dst hd
  · refine run_convert_bytes_back w src dst e _ cap l hs he hd fun j hj => ?_
    exact World.ownsRow.cells (w := w) (base := B) (e := e) (size := 1) ⟨h1, .inr ⟨g, cap, cur, rfl, hg, hh, r⟩⟩ (g := g) rfl j _ (by rw [List.getElem?_map, List.getElem?_eq_getElem hj]; rfl)

end Go.Proofs.YtjbipplaacgnkaaGreatDoor
