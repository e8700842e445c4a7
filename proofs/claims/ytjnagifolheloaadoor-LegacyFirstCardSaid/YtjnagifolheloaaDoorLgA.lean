/- The contract of strings.Builder's WriteByte, and of legacy.valueOf. -/
import Derived.Test.YtjnagifolheloaaDoorHdK
import Derived.Test.YtjnagifolheloaaDoorPrnP
import Derived.Test.YtjnagifolheloaaDoorTokA
import Derived.Test.YtjnagifolheloaaDoorLeP
import Derived.Shelf.Strings.Prefix
namespace Go.Proofs.YtjnagifolheloaaDoor
open Go.RowKit Go.Lib

set_option maxHeartbeats 2000000 in
set_option maxRecDepth 100000 in
theorem writeByte_any (B b : Nat) (bs : List Value) (c : Int) (w : World) (h : Lib.IsBuilder 81 5 B b bs w) (hlen : bs.length + 1 ≤ 140737488355328) (hBw : B ≤ w.heap.size) :
    Calls Tryd.prog 54 #[.pointer (some ⟨b, 0, none⟩), .int .u8 c] w fun e w' => e = .returned .nilIface ∧ (Lib.BuilderAt 81 5 B b (.pointer (some ⟨b, 0, none⟩)) (bs ++ [.int .u8 c]) w' ∧ Below B w w') := by
  obtain ⟨i0, hi, hz0, hz1, hz2⟩ := info_parts info_u8
  go_enter Tryd.func54, Tryd.ntmps54
  go_wp2_with fail
  refine (copyCheck_any B b bs _ h).mono ?_
  rintro e w1 ⟨rfl, h1, hb1⟩
  obtain ⟨hB, v, hbk, hown, hne⟩ := h1
  have c0 : w1.cell? ⟨b, 0, none⟩ = some (.pointer (some ⟨b, 0, none⟩)) := by rw [Lib.cell_of_heap hbk]; rfl
  have c1 : w1.cell? ⟨b, 1, none⟩ = some v := by rw [Lib.cell_of_heap hbk]; rfl
  go_wp2_with (at_builtin; refine wpList_append_own _ rfl _ _ 77 rfl B 5 i0 (.int .u8 0) 1 1 Tryd.underlying77 hi hz0 hz1 hz2 rfl (by decide) _ _ _ rfl (hown.alloc _) ⟨w1.heap.size, 0, none⟩ 1 1 [.int .u8 c] rfl rfl ?c1 ?c2 ?c3 ?c4 ?c5 ?_)
  case c1 =>
    intro j u hj
    match j, hj with
    | 0, hj => simp at hj; subst hj; simp [Addr.add]
  case c2 => intro u hu; simp at hu; subst hu; rfl
  case c3 => unfold maxLen; omega
  case c4 => omega
  case c5 => have := hb1.size; simp; omega
  intro v' w2 hown' hgrow _
  have hlt : b < w1.heap.size := by
    rcases Nat.lt_or_ge b w1.heap.size with h' | h'
    · exact h'
    · simp [Array.getElem?_eq_none h'] at hbk
  have hb2 : w2.heap[b]? = some (.cells #[.pointer (some ⟨b, 0, none⟩), v] 81 (0, 0)) := by
    rw [hgrow.block b (by simp; omega) (fun e => hne e.symm), Lib.alloc_old w1 _ b hlt]
    exact hbk
  have d0 : w2.cell? ⟨b, 0, none⟩ = some (.pointer (some ⟨b, 0, none⟩)) := by rw [Lib.cell_of_heap hb2]; rfl
  have d1 : w2.cell? ⟨b, 1, none⟩ = some v := by rw [Lib.cell_of_heap hb2]; rfl
  have f1 : w2.frozen? ⟨b, 1, none⟩ = false := Lib.frozen_of_heap hb2 1
  obtain ⟨g, cap, rfl⟩ : ∃ g cap, v' = .slice (some ⟨g, 0, none⟩) (bs.length + 1) cap := by
    rcases hown'.2 with ⟨_, h0⟩ | ⟨g, cap, cur, hv, _⟩
    · omega
    · exact ⟨g, cap, hv⟩
  go_wp2
  go_ret
  refine ⟨rfl, ?_, ?_⟩
  · exact Lib.BuilderAt.put (T := 81) (e := 5) hB hb2 (bs' := bs ++ [.int .u8 c]) (by simpa using hown') (by decide)
  · exact ((hb1.alloc (by have := hb1.size; omega) _).grown hgrow (by have := hb1.size; simp; omega) (fun k hk => (hown.lt k hk).1)).setCell (p := ⟨b, 1, none⟩) hB _

/-- What a text tells as a value. -/
def valL (t : List UInt8) : Option (List UInt8) := if tokL t = true then some t else unqL t
/-- What valueOf answers. -/
def valPost (o : Option (List UInt8)) (w : World) (e : Ending) (w' : World) : Prop := (∃ X, e = .returned (.tuple #[.string X, .bool o.isSome]) ∧ ∀ t, o = some t → X = strB t) ∧ Below w.heap.size w w'
/-- What is left of a quoted text, behind an escaping sign or not. -/
def unqE (b : Bool) (l : List UInt8) : Option (List UInt8) :=
  if b = true then (match l with | [] => none | c :: r => (unqG r).map (c :: ·)) else unqG l
def vqI (l : List UInt8) (k : Nat) (esc : Bool) (acc : List UInt8) : Prop := acc.length ≤ k ∧ unqG l = (unqE esc (l.drop k)).map (acc ++ ·)
theorem vqI_start (l : List UInt8) : vqI l 0 false [] := ⟨Nat.le_refl _, by
  rw [List.drop_zero]
  show unqG l = (unqG l).map _
  cases unqG l <;> rfl⟩
theorem vqI_none {l acc : List UInt8} {k : Nat} {b : Bool} (h : vqI l k b acc) (hd : l.drop k = []) : unqG l = none := by
  rw [h.2, hd]
  cases b <;> rfl
theorem vqI_end {l acc : List UInt8} {k : Nat} (h : vqI l k false acc) (hd : l.drop k = 34 :: l.drop (k + 1)) : unqG l = if l.drop (k + 1) = [] then some acc else none := by
  rw [h.2, hd]
  show (unqG _).map _ = _
  rw [unqG_end]
  split
  · rw [Option.map_some, List.append_nil]
  · rfl
theorem vqI_esc {l acc : List UInt8} {k : Nat} (h : vqI l k false acc) (hd : l.drop k = 92 :: l.drop (k + 1)) : vqI l (k + 1) true acc := by
  refine ⟨Nat.le_succ_of_le h.1, ?_⟩
  rw [h.2, hd]
  show (unqG _).map _ = _
  cases hr : l.drop (k + 1) with
  | nil => rfl
  | cons d t => rw [unqG_esc]; rfl
theorem vqI_any {l acc : List UInt8} {k : Nat} {c : UInt8} (h : vqI l k true acc) (hd : l.drop k = c :: l.drop (k + 1)) : vqI l (k + 1) false (acc ++ [c]) := by
  refine ⟨by rw [List.length_append, List.length_singleton]; have := h.1; omega, ?_⟩
  rw [h.2, hd]
  show ((unqG _).map _).map _ = (unqG _).map _
  cases unqG (l.drop (k + 1)) <;> simp
theorem vqI_other {l acc : List UInt8} {k : Nat} {c : UInt8} (h : vqI l k false acc) (hd : l.drop k = c :: l.drop (k + 1)) (h1 : c ≠ 34) (h2 : c ≠ 92) : vqI l (k + 1) false (acc ++ [c]) := by
  refine ⟨by rw [List.length_append, List.length_singleton]; have := h.1; omega, ?_⟩
  rw [h.2, hd]
  show (unqG _).map _ = (unqG _).map _
  rw [unqG_other c _ h1 h2]
  cases unqG (l.drop (k + 1)) <;> simp
theorem cut_yesV (s : ByteArray) (w : World) (h : s.data.toList.head? = some 34) :
    Calls Tryd.prog 52 #[.string s, .string ⟨#[34]⟩] w fun e w' => e = .returned (.tuple #[.string (strB (s.data.toList.drop 1)), .bool true]) ∧ w = w' := by
  refine (Tryd.strings_CutPrefix s ⟨#[34]⟩ w).mono ?_
  rintro e w' ⟨rfl, rfl⟩
  have hp : Lib.hasPrefix s.data.toList [34] = true := by
    cases hl : s.data.toList with
    | nil => rw [hl] at h; cases h
    | cons d r =>
      rw [hl] at h
      obtain rfl := Option.some.inj h
      simp [Lib.hasPrefix]
  rw [show (⟨#[34]⟩ : ByteArray).data.toList = [34] from rfl, Lib.trimPrefix, hp]
  exact ⟨rfl, rfl⟩
theorem cut_noV (s : ByteArray) (w : World) (h : s.data.toList.head? ≠ some 34) :
    Calls Tryd.prog 52 #[.string s, .string ⟨#[34]⟩] w fun e w' => e = .returned (.tuple #[.string s, .bool false]) ∧ w = w' := by
  refine (Tryd.strings_CutPrefix s ⟨#[34]⟩ w).mono ?_
  rintro e w' ⟨rfl, rfl⟩
  have hp : Lib.hasPrefix s.data.toList [34] = false := by
    cases hl : s.data.toList with
    | nil => rfl
    | cons d r =>
      rw [hl] at h
      simp only [List.head?_cons, ne_eq, Option.some.injEq] at h
      unfold Lib.hasPrefix
      simp only [List.isPrefixOf, Bool.and_true, beq_eq_false_iff_ne, ne_eq]
      exact fun e => h e.symm
  rw [show (⟨#[34]⟩ : ByteArray).data.toList = [34] from rfl, Lib.trimPrefix, hp]
  exact ⟨rfl, rfl⟩

end Go.Proofs.YtjnagifolheloaaDoor
