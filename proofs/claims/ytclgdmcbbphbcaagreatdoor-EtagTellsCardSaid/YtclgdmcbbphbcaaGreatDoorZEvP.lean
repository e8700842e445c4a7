/- Plain: package etag's own ways: a tag cut at its quote, lists taken tag by tag, a star with blanks about it. -/
import Derived.Test.YtclgdmcbbphbcaaGreatDoorZMBasP
import Derived.Lib.IndexLaws
import Derived.Lib.SlTrimSet

namespace Go.Proofs.YtclgdmcbbphbcaaGreatDoor
open Go.RowKit

theorem quoE_nomem : ∀ (l : List UInt8), (∀ k : Nat, l[k]? ≠ some 34) → quoE l = none
  | [], _ => rfl
  | c :: r, h => by
    have hc : c ≠ 34 := fun e => h 0 (by rw [e]; rfl)
    rw [quoE, if_neg hc, quoE_nomem r (fun k => by have := h (k + 1); rwa [List.getElem?_cons_succ] at this)]
    split <;> rfl
theorem quoE_first : ∀ (t r : List UInt8), (∀ k : Nat, t[k]? ≠ some 34) → quoE (t ++ 34 :: r) = if t.all insE = true then some (t, r) else none
  | [], r, _ => by simp [quoE]
  | c :: t, r, h => by
    have hc : c ≠ 34 := fun e => h 0 (by rw [e]; rfl)
    rw [List.cons_append, quoE, if_neg hc, quoE_first t r (fun k => by have := h (k + 1); rwa [List.getElem?_cons_succ] at this), List.all_cons]
    cases insE c
    · rfl
    · cases t.all insE <;> rfl
/-- A quoted text is what stands ahead of the first quote, if all of it may stand there. -/
theorem quoE_cut (l : List UInt8) : quoE l = if Lib.indexByte l 34 = -1 then none else if (l.take (Lib.indexByte l 34).toNat).all insE = true then some (l.take (Lib.indexByte l 34).toNat, l.drop ((Lib.indexByte l 34).toNat + 1)) else none := by
  by_cases h : Lib.indexByte l 34 = -1
  · rw [if_pos h, quoE_nomem l (Lib.indexByte_none h)]
  · have h1 := Lib.indexByte_ge l 34
    obtain ⟨o, ho⟩ := Int.eq_ofNat_of_zero_le (show 0 ≤ Lib.indexByte l 34 by omega)
    obtain ⟨h2, h3⟩ := Lib.indexByte_some (l := l) (c := 34) (o := o) ho
    obtain ⟨hlt, he⟩ := List.getElem?_eq_some_iff.1 h2
    rw [if_neg h, ho, Int.toNat_natCast]
    have hl : l = l.take o ++ 34 :: l.drop (o + 1) := by
      rw [← he, ← List.drop_eq_getElem_cons hlt, List.take_append_drop]
    have hn : ∀ k : Nat, (l.take o)[k]? ≠ some 34 := fun k hk => by
      rw [List.getElem?_take] at hk
      split at hk
      · exact h3 k (by assumption) hk
      · cases hk
    have := quoE_first (l.take o) (l.drop (o + 1)) hn
    rw [← hl] at this
    exact this

/-- Blanks and commas; what is behind those that a text begins with. -/
def sepE (c : UInt8) : Bool := blkE c || c == 44
def skpE (l : List UInt8) : List UInt8 := l.dropWhile sepE
/-- Is a text as may stand behind a tag of a list? -/
def endE (l : List UInt8) : Bool := match l.dropWhile blkE with
  | [] => true
  | c :: _ => c == 44
/-- The tags of a text, those taken so far ahead of them. -/
def lsW (l : List UInt8) (ts : List Tg) : Option (List Tg) := lsgE (l.length + 1) l true ts
theorem skpE_le (l : List UInt8) : (skpE l).length ≤ l.length := (List.dropWhile_sublist _).length_le
theorem skpE_head : ∀ (l : List UInt8) (c : UInt8) (r : List UInt8), skpE l = c :: r → sepE c = false
  | [], _, _, h => by cases h
  | d :: l, c, r, h => by
    unfold skpE at h
    rw [List.dropWhile_cons] at h
    split at h
    · exact skpE_head l c r h
    · rename_i hd
      obtain ⟨rfl, _⟩ := List.cons.inj h
      simpa using hd
theorem lsW_blank (c : UInt8) (l : List UInt8) (ts : List Tg) (h : blkE c = true) : lsW (c :: l) ts = lsW l ts := by
  unfold lsW
  rw [List.length_cons, lsgE, if_pos h]
theorem lsW_comma (l : List UInt8) (ts : List Tg) : lsW (44 :: l) ts = lsW l ts := by
  unfold lsW
  rw [List.length_cons, lsgE_comma]
theorem lsW_skip : ∀ (l : List UInt8) (ts : List Tg), lsW l ts = lsW (skpE l) ts
  | [], _ => rfl
  | c :: l, ts => by
    unfold skpE
    rw [List.dropWhile_cons]
    by_cases h : sepE c = true
    · rw [if_pos h]
      have ih := lsW_skip l ts
      unfold skpE at ih
      rw [← ih]
      unfold sepE at h
      rcases Bool.or_eq_true_iff.1 h with h | h
      · exact lsW_blank c l ts h
      · obtain rfl := eq_of_beq h
        exact lsW_comma l ts
    · rw [if_neg h]
theorem lsW_nil (ts : List Tg) : lsW [] ts = some ts := rfl
/-- Behind a tag. -/
theorem lsF_end : ∀ (q : List UInt8) (ts : List Tg), lsgE (q.length + 1) q false ts = if endE q = true then lsW (skpE q) ts else none
  | [], ts => rfl
  | c :: q, ts => by
    by_cases hb : blkE c = true
    · have ih := lsF_end q ts
      have e1 : endE (c :: q) = endE q := by
        unfold endE
        rw [List.dropWhile_cons, if_pos hb]
      have e2 : skpE (c :: q) = skpE q := by
        unfold skpE
        rw [List.dropWhile_cons, if_pos (by unfold sepE; rw [hb]; rfl)]
      rw [List.length_cons, lsgE, if_pos hb, ih, e1, e2]
    · rw [List.length_cons, lsgE, if_neg hb]
      have he : endE (c :: q) = (c == 44) := by
        unfold endE
        rw [List.dropWhile_cons, if_neg hb]
      rw [he]
      by_cases hc : c = 44
      · subst hc
        rw [if_pos rfl, if_pos (by decide), ← lsW_skip, lsW_comma]
        rfl
      · rw [if_neg hc, if_pos rfl, if_neg (by simpa using hc)]
/-- One tag, and what may stand behind it. -/
theorem lsW_take (l : List UInt8) (ts : List Tg) (hh : ∀ c r, l = c :: r → sepE c = false) (h0 : l ≠ []) : lsW l ts = match takE l with
  | none => none
  | some (t, q) => if endE q = true then lsW (skpE q) (ts ++ [t]) else none := by
  cases l with
  | nil => exact absurd rfl h0
  | cons c r =>
    have hs := hh c r rfl
    unfold sepE at hs
    rw [Bool.or_eq_false_iff] at hs
    have hc : c ≠ 44 := fun e => by rw [e] at hs; exact absurd hs.2 (by decide)
    unfold lsW
    rw [lsgE, if_neg (by rw [hs.1]; decide), if_neg hc, if_neg (by decide)]
    cases ht : takE (c :: r) with
    | none => rfl
    | some p =>
      obtain ⟨t, q⟩ := p
      have hle := takE_len _ _ _ ht
      rw [List.length_cons] at hle
      dsimp only
      show lsgE (r.length + 1) q false (ts ++ [t]) = _
      rw [lsgE_fuel q.length (r.length + 1) (q.length + 1) q false _ (Nat.le_refl _) (by omega) (Nat.lt_succ_self _), lsF_end]
      rfl

theorem dw_all : ∀ (a m : List UInt8), a.all blkE = true → (a ++ m).dropWhile blkE = m.dropWhile blkE
  | [], _, _ => rfl
  | c :: a, m, h => by
    rw [List.all_cons, Bool.and_eq_true] at h
    rw [List.cons_append, List.dropWhile_cons, if_pos h.1]
    exact dw_all a m h.2
theorem dw_split : ∀ (l : List UInt8), ∃ a, a.all blkE = true ∧ l = a ++ l.dropWhile blkE
  | [] => ⟨[], rfl, rfl⟩
  | c :: l => by
    rw [List.dropWhile_cons]
    split
    · rename_i h
      obtain ⟨a, h1, h2⟩ := dw_split l
      exact ⟨c :: a, by rw [List.all_cons, h, h1]; rfl, by rw [List.cons_append, ← h2]⟩
    · exact ⟨[], rfl, rfl⟩
theorem trim_form (l : List UInt8) : Lib.trimS l [32, 9] = ((l.reverse.dropWhile blkE).reverse).dropWhile blkE := by
  have hf : (fun c => [32, 9].contains c) = blkE := by
    funext c
    simp only [List.contains, List.elem, blkE]
    cases c == 32 <;> cases c == 9 <;> rfl
  unfold Lib.trimS Lib.trimLeftS Lib.trimRightS
  rw [hf]
/-- A star with blanks about it. -/
theorem star_iff (l : List UInt8) : Lib.trimS l [32, 9] = [42] ↔ (l.dropWhile blkE).head? = some 42 ∧ ((l.dropWhile blkE).drop 1).all blkE = true := by
  rw [trim_form]
  constructor
  · intro h
    obtain ⟨b, hb1, hb2⟩ := dw_split l.reverse
    obtain ⟨a, ha1, ha2⟩ := dw_split (l.reverse.dropWhile blkE).reverse
    rw [h] at ha2
    have hl : l = a ++ ([42] ++ b.reverse) := by
      have := congrArg List.reverse hb2
      rw [List.reverse_reverse, List.reverse_append, ha2] at this
      rw [this, List.append_assoc]
    rw [hl, dw_all a _ ha1]
    refine ⟨rfl, ?_⟩
    show (b.reverse).all blkE = true
    rw [List.all_reverse]
    exact hb1
  · rintro ⟨h1, h2⟩
    obtain ⟨a, ha1, ha2⟩ := dw_split l
    obtain ⟨m, hm⟩ : ∃ m, l.dropWhile blkE = 42 :: m := by
      cases hd : l.dropWhile blkE with
      | nil => rw [hd] at h1; cases h1
      | cons c m =>
        rw [hd] at h1
        obtain rfl := Option.some.inj h1
        exact ⟨m, rfl⟩
    rw [hm] at h2 ha2
    have h3 : m.reverse.all blkE = true := by rw [List.all_reverse]; exact h2
    have hr : l.reverse = m.reverse ++ (42 :: a.reverse) := by rw [ha2]; simp
    rw [hr, dw_all _ _ h3, List.dropWhile_cons, if_neg (by decide), List.reverse_cons, List.reverse_reverse, dw_all _ _ ha1]
    rfl
/-- A list as the package takes it. -/
theorem lstE_code (l : List UInt8) : lstE l = if Lib.trimS l [32, 9] = [42] then some ([], true) else match lsW (skpE l) [] with
  | none => none
  | some xs => if xs = [] then none else some (xs, false) := by
  by_cases hs : (l.dropWhile blkE).head? = some 42
  · by_cases ha : ((l.dropWhile blkE).drop 1).all blkE = true
    · rw [if_pos ((star_iff l).2 ⟨hs, ha⟩), lstE, if_pos hs, if_pos ha]
    · rw [if_neg (fun e => ha ((star_iff l).1 e).2), lstE, if_pos hs, if_neg ha]
      obtain ⟨m, hm⟩ : ∃ m, l.dropWhile blkE = 42 :: m := by
        cases hd : l.dropWhile blkE with
        | nil => rw [hd] at hs; cases hs
        | cons c m =>
          rw [hd] at hs
          obtain rfl := Option.some.inj hs
          exact ⟨m, rfl⟩
      have hk : lsW (skpE l) [] = none := by
        rw [← lsW_skip]
        have e : lsW l [] = lsW (42 :: m) [] := by
          obtain ⟨a, ha1, ha2⟩ := dw_split l
          rw [hm] at ha2
          have key : ∀ a : List UInt8, a.all blkE = true → lsW (a ++ 42 :: m) [] = lsW (42 :: m) [] := by
            intro a
            induction a with
            | nil => intro _; rfl
            | cons c a ih =>
              intro h
              rw [List.all_cons, Bool.and_eq_true] at h
              rw [List.cons_append, lsW_blank _ _ _ h.1, ih h.2]
          rw [ha2]
          exact key a ha1
        rw [e, lsW_take (42 :: m) [] (fun c r h => by obtain ⟨rfl, _⟩ := List.cons.inj h; rfl) (by simp)]
        have ht : takE (42 :: m) = none := takE_no (by simp) (by simp)
        rw [ht]
      rw [hk]
  · rw [if_neg (fun e => hs ((star_iff l).1 e).1), lstE, if_neg hs, ← lsW_skip]
    rfl

/-- How package etag takes a tag: is it weak; what is behind that; does it begin with a quote; what is behind that; its text; what is behind the next quote. -/
def wkE (l : List UInt8) : Bool := decide (l.take 2 = [87, 47])
def quE (l : List UInt8) : List UInt8 := if l.take 2 = [87, 47] then l.drop 2 else l
def bgE (l : List UInt8) : Bool := decide ((quE l).head? = some 34)
def inE (l : List UInt8) : List UInt8 := if (quE l).head? = some 34 then (quE l).drop 1 else quE l
def enE (l : List UInt8) : Bool := decide (¬ Lib.indexByte l 34 = -1)
def fsE (l : List UInt8) : List UInt8 := if Lib.indexByte l 34 = -1 then l else l.take (Lib.indexByte l 34).toNat
def snE (l : List UInt8) : List UInt8 := if Lib.indexByte l 34 = -1 then [] else l.drop ((Lib.indexByte l 34).toNat + 1)
theorem quE_le (l : List UInt8) : (quE l).length ≤ l.length := by
  unfold quE
  split
  · rw [List.length_drop]; omega
  · exact Nat.le_refl _
theorem inE_le (l : List UInt8) : (inE l).length ≤ l.length := by
  have := quE_le l
  unfold inE
  split
  · rw [List.length_drop]; omega
  · exact this
theorem fsE_le (l : List UInt8) : (fsE l).length ≤ l.length := by
  unfold fsE
  split
  · exact Nat.le_refl _
  · rw [List.length_take]; omega
theorem takE_read (l : List UInt8) : takE l = if (bgE l && (enE (inE l) && (fsE (inE l)).all insE)) = true then some ((wkE l, fsE (inE l)), snE (inE l)) else none := by
  by_cases hw : l.take 2 = [87, 47]
  · have e1 : wkE l = true := decide_eq_true hw
    have e2 : quE l = l.drop 2 := if_pos hw
    by_cases hh : (l.drop 2).head? = some 34
    · have e3 : bgE l = true := by unfold bgE; rw [e2, decide_eq_true hh]
      have e4 : inE l = l.drop 3 := by unfold inE; rw [e2, if_pos hh, List.drop_drop]
      rw [takE_weak hw hh, quoE_cut, e1, e3, e4, Bool.true_and]
      unfold enE fsE snE
      by_cases hi : Lib.indexByte (l.drop 3) 34 = -1
      · rw [if_pos hi, decide_eq_false (fun e => e hi)]
        rfl
      · rw [if_neg hi, decide_eq_true hi, Bool.true_and, if_neg hi, if_neg hi]
        split <;> rfl
    · have e3 : bgE l = false := by unfold bgE; rw [e2, decide_eq_false hh]
      rw [takE_weakno hw hh, e3]
      rfl
  · have e1 : wkE l = false := decide_eq_false hw
    have e2 : quE l = l := if_neg hw
    by_cases hh : l.head? = some 34
    · have e3 : bgE l = true := by unfold bgE; rw [e2, decide_eq_true hh]
      have e4 : inE l = l.drop 1 := by unfold inE; rw [e2, if_pos hh]
      rw [takE_strong hw hh, quoE_cut, e1, e3, e4, Bool.true_and]
      unfold enE fsE snE
      by_cases hi : Lib.indexByte (l.drop 1) 34 = -1
      · rw [if_pos hi, decide_eq_false (fun e => e hi)]
        rfl
      · rw [if_neg hi, decide_eq_true hi, Bool.true_and, if_neg hi, if_neg hi]
        split <;> rfl
    · have e3 : bgE l = false := by unfold bgE; rw [e2, decide_eq_false hh]
      rw [takE_no hw hh, e3]
      rfl
/-- What read answers. -/
def rdV (o : Option (Tg × List UInt8)) : Value := match o with
  | none => .tuple #[tgV (false, []), .string ⟨#[]⟩, .int .i64 2]
  | some (t, r) => .tuple #[tgV t, .string (strB r), .int .i64 0]

/-- Tags in a list, one more. -/
theorem jnE_snoc (b : List UInt8) : ∀ (ts : List Tg) (t : Tg), jnE b (ts ++ [t]) = jnE b ts ++ (b ++ (txtE t ++ (b ++ [44])))
  | [], t => by simp [jnE]
  | x :: ts, t => by rw [List.cons_append, jnE, jnE_snoc b ts t, jnE]; simp
theorem jnE_len (b : List UInt8) (n : Nat) (hb : b.length ≤ 3) : ∀ (ts : List Tg), (∀ t ∈ ts, t.2.length ≤ n) → (jnE b ts).length ≤ ts.length * (n + 12)
  | [], _ => Nat.zero_le _
  | t :: ts, h => by
    have ih := jnE_len b n hb ts (fun x hx => h x (List.mem_cons_of_mem _ hx))
    have ht := h t (List.mem_cons_self ..)
    have hx : (txtE t).length ≤ n + 4 := by
      unfold txtE
      cases t.1 <;> simp <;> omega
    rw [jnE, List.length_cons, Nat.add_mul]
    simp only [List.length_append, List.length_cons]
    omega

end Go.Proofs.YtclgdmcbbphbcaaGreatDoor
