/- Plain: a request that is printed is read, whatever stands behind it. · Plain: a request that was printed, cut off, is too short. · Plain: what is read is small. -/
import Derived.Test.YthbfcamfapgodaaGreatDoorGL
import Derived.Test.YthbfcamfapgodaaGreatDoorGA
import Derived.Test.YthbfcamfapgodaaGreatDoorGB

namespace Go.Proofs.YthbfcamfapgodaaGreatDoor
open Go.RowKit

/-- May fields be those of a message that is printed? -/
def fairL (fs : List Fld) : Bool := rightH fs && decide ((allH fs clN).length + (allH fs teN).length = 0)
/-- The field that tells a length, behind fields. -/
def withCl (fs : List Fld) (n : Nat) : List Fld := fs ++ [(clN, Lib.decDigits n)]
def fieldsQ (q : Rq) : List Fld := if q.b = [] then q.fs else withCl q.fs q.b.length
/-- A request as text. -/
def prQ (q : Rq) : Option (List UInt8) :=
  if tokL q.m && tgtL q.t && fairL q.fs && decide ((allH q.fs hoN).length = 1) && decide (q.b.length ≤ 100000) && decide (q.m.length + q.t.length + 10 ≤ 2000) && (decide (q.b = []) || decide (q.fs.length < 64)) then
    some (q.m ++ [32] ++ q.t ++ [32] ++ h11 ++ [13, 10] ++ (prF (fieldsQ q) ++ [13, 10]) ++ q.b)
  else none

theorem cut_mid (t r : List UInt8) (h : ∀ x ∈ t, x ≠ 32) : cut32 (t ++ 32 :: r) = (t, r, true) := by
  have hi := index_mid t 32 r h
  have hn : ¬ ((t.length : Int) = -1) := by omega
  rewrite [cut32, hi, if_neg hn, Int.toNat_natCast]
  simp
theorem tok_no {c : UInt8} (h : tchI c.toNat = true) : c ≠ 32 ∧ c ≠ 10 := by
  constructor <;> intro hc <;> rw [hc] at h <;> exact absurd h (by decide)
theorem tgt_no32 {c : UInt8} (h : tgtB c = true) : c ≠ 32 ∧ c ≠ 10 := by
  constructor <;> intro hc <;> rw [hc] at h <;> exact absurd h (by decide)
theorem wrong_cl (n : Nat) (h : n ≤ 100000) : wrongL (clN, Lib.decDigits n) = false := by
  have hl := dec_len 5 n (by omega)
  have ht : txtL (Lib.decDigits n) = true := by
    have ha := dec_all n
    rw [digAll, List.all_eq_true] at ha
    rw [txtL, trimL_of _ fun c hc => ?_]
    · rewrite [Bool.and_eq_true, List.all_eq_true]
      refine ⟨fun c hc => ?_, by simp⟩
      have := (digI_iff _).1 (ha c hc)
      unfold txtI
      simp
      omega
    · have := (digI_iff _).1 (ha c hc)
      unfold blkB
      have h1 : c ≠ 32 := fun hx => by rw [hx] at this; exact absurd this (by decide)
      have h2 : c ≠ 9 := fun hx => by rw [hx] at this; exact absurd this (by decide)
      simp [h1, h2]
  have h1 : tokL clN = true := by decide
  have h2 : (clN == lowL clN) = true := by decide
  have h3 : ¬ 2000 < clN.length + 2 + (Lib.decDigits n).length := by have : clN.length = 14 := rfl; omega
  rewrite [wrongL, ht, h1, h2, decide_eq_false h3]
  rfl
theorem right_with {fs : List Fld} {n : Nat} (h : rightH fs = true) (hl : fs.length < 64) (hn : n ≤ 100000) : rightH (withCl fs n) = true := by
  rw [rightH, Bool.and_eq_true, decide_eq_true_eq] at h ⊢
  refine ⟨by simp [withCl]; omega, ?_⟩
  rewrite [withCl, List.any_append, List.any_cons, List.any_nil, wrong_cl n hn]
  simpa using h.2
theorem all_with (fs : List Fld) (n : Nat) (name : List UInt8) : allH (withCl fs n) name = if clN = name then allH fs name ++ [Lib.decDigits n] else allH fs name := by
  rw [withCl, allH_snoc]
theorem les_of {fs : List Fld} (h1 : allH fs clN = []) (h2 : allH fs teN = []) : lesL fs = fs := by
  rewrite [lesL, withoutH, List.filter_eq_self]
  intro p hp
  have a : p.1 ≠ clN := fun he => by
    have : p.2 ∈ allH fs clN := List.mem_map.2 ⟨p, List.mem_filter.2 ⟨hp, by simpa using he⟩, rfl⟩
    rw [h1] at this
    cases this
  have b : p.1 ≠ teN := fun he => by
    have : p.2 ∈ allH fs teN := List.mem_map.2 ⟨p, List.mem_filter.2 ⟨hp, by simpa using he⟩, rfl⟩
    rw [h2] at this
    cases this
  simp [a, b]
theorem les_with {fs : List Fld} (n : Nat) (h1 : allH fs clN = []) (h2 : allH fs teN = []) : lesL (withCl fs n) = fs := by
  have := les_of h1 h2
  rw [lesL, withoutH] at this ⊢
  rewrite [withCl, List.filter_append, this]
  simp
theorem fair_parts {fs : List Fld} (h : fairL fs = true) : rightH fs = true ∧ allH fs clN = [] ∧ allH fs teN = [] := by
  rw [fairL, Bool.and_eq_true, decide_eq_true_eq] at h
  exact ⟨h.1, List.eq_nil_of_length_eq_zero (by omega), List.eq_nil_of_length_eq_zero (by omega)⟩
theorem cl_te : ¬ clN = teN := by decide
theorem cl_ho : ¬ clN = hoN := by decide
theorem lng_none {fs : List Fld} (h1 : allH fs clN = []) (h2 : allH fs teN = []) : lngL fs = .ok (-1) := by
  rw [lngL, h1, h2] <;> rfl
theorem lng_with {fs : List Fld} (n : Nat) (hn : n < 2147483648) (h1 : allH fs clN = []) (h2 : allH fs teN = []) : lngL (withCl fs n) = .ok (n : Int) := by
  rewrite [lngL, all_with, all_with, if_pos rfl, if_neg cl_te, h1, h2]
  simp [dec_digitsB, dec_digitsN n hn]

/-- The first line of a request. -/
def linQ (q : Rq) : List UInt8 := q.m ++ [32] ++ q.t ++ [32] ++ h11
theorem prQ_parts {q : Rq} {t : List UInt8} (h : prQ q = some t) : tokL q.m = true ∧ tgtL q.t = true ∧ rightH q.fs = true ∧ allH q.fs clN = [] ∧ allH q.fs teN = [] ∧ (allH q.fs hoN).length = 1 ∧ q.b.length ≤ 100000 ∧ q.m.length + q.t.length + 10 ≤ 2000 ∧ (q.b = [] ∨ q.fs.length < 64) ∧ t = linQ q ++ [13, 10] ++ (prF (fieldsQ q) ++ [13, 10]) ++ q.b := by
  unfold prQ at h
  split at h
  · rename_i hh
    simp only [Bool.and_eq_true, decide_eq_true_eq, Bool.or_eq_true] at hh
    obtain ⟨⟨⟨⟨⟨⟨h1, h2⟩, h3⟩, h4⟩, h5⟩, h6⟩, h7⟩ := hh
    obtain ⟨a, b, c⟩ := fair_parts h3
    simp only [Option.some.injEq] at h
    exact ⟨h1, h2, a, b, c, h4, h5, h6, h7, h.symm⟩
  · cases h
theorem linQ_fr {q : Rq} (h1 : tokL q.m = true) (h2 : tgtL q.t = true) : frL (linQ q) = some (q.m, q.t) := by
  have a := ((tokL_iff _).1 h1).1
  have b : ∀ x ∈ q.t, tgtB x = true := by
    have h := h2
    rw [tgtL, Bool.and_eq_true, List.all_eq_true] at h
    exact h.1
  have e1 : cut32 (linQ q) = (q.m, q.t ++ 32 :: h11, true) := by
    rewrite [show linQ q = q.m ++ 32 :: (q.t ++ 32 :: h11) by simp [linQ]]
    exact cut_mid _ _ fun x hx => (tok_no (a x hx)).1
  have e2 : cut32 (q.t ++ 32 :: h11) = (q.t, h11, true) := cut_mid _ _ fun x hx => (tgt_no32 (b x hx)).1
  rewrite [frL, e1]
  dsimp only
  rewrite [e2]
  dsimp only
  rewrite [h1, h2]
  rfl
theorem linQ_line {q : Rq} (h1 : tokL q.m = true) (h2 : tgtL q.t = true) (x : UInt8) (hx : x ∈ linQ q) : x ≠ 10 := by
  have a := ((tokL_iff _).1 h1).1
  have b : ∀ x ∈ q.t, tgtB x = true := by
    have h := h2
    rw [tgtL, Bool.and_eq_true, List.all_eq_true] at h
    exact h.1
  simp only [linQ, List.mem_append, List.mem_singleton] at hx
  rcases hx with (((hx | hx) | hx) | hx) | hx
  · exact (tok_no (a x hx)).2
  · rewrite [hx]; decide
  · exact (tgt_no32 (b x hx)).2
  · rewrite [hx]; decide
  · intro he
    rw [he] at hx
    exact absurd hx (by decide)
theorem linQ_len (q : Rq) : (linQ q).length = q.m.length + q.t.length + 10 := by
  simp [linQ, h11]
  omega
theorem fieldsQ_right {q : Rq} (h : rightH q.fs = true) (hb : q.b.length ≤ 100000) (hl : q.b = [] ∨ q.fs.length < 64) : rightH (fieldsQ q) = true := by
  unfold fieldsQ
  split
  · exact h
  · rename_i hn
    exact right_with h (by rcases hl with hl | hl; exact absurd hl hn; exact hl) hb

/-- What is printed is read, whatever stands behind it. -/
theorem backQ {q : Rq} {t : List UInt8} (h : prQ q = some t) (more : List UInt8) : rdQ (t ++ more) = .ok (q, t.length) := by
  obtain ⟨h1, h2, h3, h4, h5, h6, h7, h8, h9, rfl⟩ := prQ_parts h
  clear h
  have hR := fieldsQ_right h3 h7 h9
  obtain ⟨F, hF⟩ : ∃ F, prF (fieldsQ q) ++ [13, 10] = F := ⟨_, rfl⟩
  have hL : lineL (linQ q ++ [13, 10] ++ F ++ q.b ++ more) = (linQ q, 0) := by
    rewrite [show linQ q ++ [13, 10] ++ F ++ q.b ++ more = linQ q ++ 13 :: 10 :: (F ++ q.b ++ more) by simp]
    exact lineL_text _ _ (linQ_line h1 h2) (by rewrite [linQ_len]; exact h8)
  have hd : (linQ q ++ [13, 10] ++ F ++ q.b ++ more).drop ((linQ q).length + 2) = F ++ (q.b ++ more) := by
    rw [show linQ q ++ [13, 10] ++ F ++ q.b ++ more = (linQ q ++ [13, 10]) ++ (F ++ (q.b ++ more)) by simp, List.drop_left']
    simp
  have hd2 : (linQ q ++ [13, 10] ++ F ++ q.b ++ more).drop ((linQ q).length + 2 + F.length) = q.b ++ more := by
    rw [show linQ q ++ [13, 10] ++ F ++ q.b ++ more = (linQ q ++ [13, 10] ++ F) ++ (q.b ++ more) by simp, List.drop_left']
    simp
    omega
  have hP : parseH (F ++ (q.b ++ more)) = .ok (fieldsQ q, F.length) := by
    rewrite [← hF]
    exact parse_print _ _ hR
  have hho : (allH (fieldsQ q) hoN).length = 1 := by
    unfold fieldsQ
    split
    · exact h6
    · rewrite [all_with, if_neg cl_ho]; exact h6
  rewrite [hF, rdQ, hL]
  dsimp only
  rewrite [if_neg (by simp), linQ_fr h1 h2]
  dsimp only
  rewrite [hd, hP]
  dsimp only
  rewrite [if_neg (by rewrite [hho]; simp), hd2]
  by_cases hb : q.b = []
  · have e : fieldsQ q = q.fs := by rw [fieldsQ, if_pos hb]
    rewrite [e, lng_none h4 h5, les_of h4 h5]
    obtain ⟨m, t, fs, b⟩ := q
    simp only at hb
    subst hb
    have : ¬ ((more.length : Int) < -1) := by omega
    simp [bodL, this]
    omega
  · have e : fieldsQ q = withCl q.fs q.b.length := by rw [fieldsQ, if_neg hb]
    rewrite [e, lng_with _ (by omega) h4 h5, les_with _ h4 h5]
    dsimp only
    have hbo : bodL (q.b ++ more) (q.b.length : Int) = .ok (q.b, q.b.length) := by
      rw [bodL, if_neg (by omega), if_neg (by omega), if_neg (by rewrite [List.length_append]; omega), Int.toNat_natCast, List.take_left']
      rfl
    rewrite [hbo]
    dsimp only
    simp
    omega

/-- A response as text, to a method. -/
def fieldsP (p : Rp) (me : ByteArray) : List Fld := if bareB p.n me then p.fs else withCl p.fs p.b.length
def prP (p : Rp) (me : ByteArray) : Option (List UInt8) :=
  if decide (100 ≤ p.n) && decide (p.n ≤ 599) && fairL p.fs && decide (p.fs.length < 64) && decide (p.b.length ≤ 100000) && (!bareB p.n me || decide (p.b = [])) then
    some (h11 ++ [32] ++ Lib.decDigits p.n.toNat ++ [32] ++ [13, 10] ++ (prF (fieldsP p me) ++ [13, 10]) ++ p.b)
  else none
def linP (p : Rp) : List UInt8 := h11 ++ [32] ++ Lib.decDigits p.n.toNat ++ [32]
theorem prP_parts {p : Rp} {me : ByteArray} {t : List UInt8} (h : prP p me = some t) : 100 ≤ p.n ∧ p.n ≤ 599 ∧ rightH p.fs = true ∧ allH p.fs clN = [] ∧ allH p.fs teN = [] ∧ p.fs.length < 64 ∧ p.b.length ≤ 100000 ∧ (bareB p.n me = false ∨ p.b = []) ∧ t = linP p ++ [13, 10] ++ (prF (fieldsP p me) ++ [13, 10]) ++ p.b := by
  unfold prP at h
  split at h
  · rename_i hh
    simp only [Bool.and_eq_true, decide_eq_true_eq, Bool.or_eq_true, Bool.not_eq_true'] at hh
    obtain ⟨⟨⟨⟨⟨h1, h2⟩, h3⟩, h4⟩, h5⟩, h6⟩ := hh
    obtain ⟨a, b, c⟩ := fair_parts h3
    simp only [Option.some.injEq] at h
    exact ⟨h1, h2, a, b, c, h4, h5, h6, h.symm⟩
  · cases h
theorem dec_no (n : Nat) (x : UInt8) (hx : x ∈ Lib.decDigits n) : x ≠ 32 ∧ x ≠ 10 := by
  have ha := dec_all n
  rw [digAll, List.all_eq_true] at ha
  have := ha x hx
  constructor <;> intro hc <;> rw [hc] at this <;> exact absurd this (by decide)
theorem dec_three (n : Nat) (h1 : 100 ≤ n) (h2 : n ≤ 599) : (Lib.decDigits n).length = 3 := by
  rewrite [dec_big n (by omega), dec_big (n / 10) (by omega), dec_small _ (by omega : n / 10 / 10 < 10), dec_small _ (by omega : n / 10 % 10 < 10), dec_small _ (by omega : n % 10 < 10)]
  rfl
theorem linP_fr {p : Rp} (h1 : 100 ≤ p.n) (h2 : p.n ≤ 599) : frP (linP p) = some p.n := by
  have e1 : cut32 (linP p) = (h11, Lib.decDigits p.n.toNat ++ 32 :: [], true) := by
    rewrite [show linP p = h11 ++ 32 :: (Lib.decDigits p.n.toNat ++ 32 :: []) by simp [linP]]
    exact cut_mid _ _ (by decide)
  have e2 : cut32 (Lib.decDigits p.n.toNat ++ 32 :: []) = (Lib.decDigits p.n.toNat, [], true) := cut_mid _ _ fun x hx => (dec_no _ x hx).1
  have hn : digitsN (Lib.decDigits p.n.toNat) = p.n := by rewrite [dec_digitsN _ (by omega)]; omega
  have hs : stB (Lib.decDigits p.n.toNat) = true := by
    rewrite [stB, dec_digitsB, dec_three _ (by omega) (by omega), hn]
    simp
    omega
  rewrite [frP, e1]
  dsimp only
  rewrite [e2]
  dsimp only
  rewrite [hs, hn]
  rfl
theorem linP_line (p : Rp) (x : UInt8) (hx : x ∈ linP p) : x ≠ 10 := by
  simp only [linP, List.mem_append, List.mem_singleton] at hx
  rcases hx with ((hx | hx) | hx) | hx
  · intro he
    rw [he] at hx
    exact absurd hx (by decide)
  · rewrite [hx]; decide
  · exact (dec_no _ x hx).2
  · rewrite [hx]; decide
theorem linP_len {p : Rp} (h1 : 100 ≤ p.n) (h2 : p.n ≤ 599) : (linP p).length = 13 := by
  simp [linP, h11, dec_three p.n.toNat (by omega) (by omega)]
theorem fieldsP_right {p : Rp} (me : ByteArray) (h : rightH p.fs = true) (hl : p.fs.length < 64) (hb : p.b.length ≤ 100000) : rightH (fieldsP p me) = true := by
  unfold fieldsP
  split
  · exact h
  · exact right_with h hl hb

/-- A response that is printed is read. -/
theorem backP {p : Rp} {me : ByteArray} {t : List UInt8} (h : prP p me = some t) : rdP t me = .ok p := by
  obtain ⟨h1, h2, h3, h4, h5, h6, h7, h8, rfl⟩ := prP_parts h
  clear h
  have hR := fieldsP_right me h3 h6 h7
  obtain ⟨F, hF⟩ : ∃ F, prF (fieldsP p me) ++ [13, 10] = F := ⟨_, rfl⟩
  have hL : lineL (linP p ++ [13, 10] ++ F ++ p.b) = (linP p, 0) := by
    rewrite [show linP p ++ [13, 10] ++ F ++ p.b = linP p ++ 13 :: 10 :: (F ++ p.b) by simp]
    exact lineL_text _ _ (linP_line p) (by rewrite [linP_len h1 h2]; decide)
  have hd : (linP p ++ [13, 10] ++ F ++ p.b).drop ((linP p).length + 2) = F ++ p.b := by
    rw [show linP p ++ [13, 10] ++ F ++ p.b = (linP p ++ [13, 10]) ++ (F ++ p.b) by simp, List.drop_left']
    simp
  have hd2 : (linP p ++ [13, 10] ++ F ++ p.b).drop ((linP p).length + 2 + F.length) = p.b := by
    rw [show linP p ++ [13, 10] ++ F ++ p.b = (linP p ++ [13, 10] ++ F) ++ p.b by simp, List.drop_left']
    simp
    omega
  have hP : parseH (F ++ p.b) = .ok (fieldsP p me, F.length) := by
    rewrite [← hF]
    exact parse_print _ _ hR
  rewrite [hF, rdP, hL]
  dsimp only
  rewrite [if_neg (by simp), linP_fr h1 h2]
  dsimp only
  rewrite [hd, hP]
  dsimp only
  rewrite [hd2]
  by_cases hb : bareB p.n me = true
  · have e : fieldsP p me = p.fs := by rw [fieldsP, if_pos hb]
    have e0 : p.b = [] := by
      rcases h8 with h8 | h8
      · rw [hb] at h8; cases h8
      · exact h8
    rewrite [e, lng_none h4 h5, les_of h4 h5]
    dsimp only
    rewrite [if_pos hb, if_pos e0]
    obtain ⟨n, fs, b⟩ := p
    simp only at e0
    rw [e0]
  · have e : fieldsP p me = withCl p.fs p.b.length := by rw [fieldsP, if_neg hb]
    have hk : ¬ ((p.b.length : Int) = -1) := by omega
    have hbo : bodL p.b (p.b.length : Int) = .ok (p.b, p.b.length) := by
      rw [bodL, if_neg (by omega), if_neg (by omega), if_neg (by omega), Int.toNat_natCast, List.take_length]
    rewrite [e, lng_with _ (by omega) h4 h5, les_with _ h4 h5]
    dsimp only
    rewrite [if_neg hb, if_neg hk, hbo]
    dsimp only
    rw [if_pos rfl]

end Go.Proofs.YthbfcamfapgodaaGreatDoor

namespace Go.Proofs.YthbfcamfapgodaaGreatDoor
open Go.RowKit

theorem take_past (a b : List UInt8) (j : Nat) (h : a.length ≤ j) : (a ++ b).take j = a ++ b.take (j - a.length) := by
  rw [List.take_append, List.take_of_length_le h]
theorem lineL_off (t r : List UInt8) (h : ∀ x ∈ t, x ≠ 10) (hl : t.length ≤ 2000) (j : Nat) (hj : j ≤ t.length + 1) : lineL ((t ++ 13 :: 10 :: r).take j) = ([], 3) := by
  have e : (t ++ 13 :: 10 :: r).take j = (t ++ [13]).take j := by
    rw [show t ++ 13 :: 10 :: r = (t ++ [13]) ++ 10 :: r by simp, List.take_append_of_le_length (by simp; omega)]
  have hi : Lib.indexByte ((t ++ [13]).take j) 10 = -1 := index_not _ _ fun x hx => by
    rcases List.mem_append.1 (List.mem_of_mem_take hx) with hx | hx
    · exact h x hx
    · simp only [List.mem_singleton] at hx
      subst hx
      decide
  have hlen : ¬ 2002 < ((t ++ [13]).take j).length := by
    have := List.length_take_le j (t ++ [13])
    omega
  rw [e, lineL, if_pos hi, if_neg hlen]

theorem parH_off (l : List UInt8) : ∀ (fs : List Fld) (f K j : Nat) (acc : List Fld), (∀ p ∈ fs, wrongL p = false) → fs.length < f → acc.length + fs.length ≤ 64 → l.drop K = (prF fs ++ [13, 10]).take j → j < (prF fs ++ [13, 10]).length →
    parH f l K acc = .error 3
  | fs, 0, _, _, _, _, hf, _, _, _ => by omega
  | [], f + 1, K, j, acc, _, _, _, hd, hj => by
    have hj : j < 2 := hj
    have hL : lineL (l.drop K) = ([], 3) := by
      rewrite [hd]
      exact lineL_off [] [] (fun x hx => by cases hx) (by simp) j (by simp; omega)
    rewrite [parH, hL]
    simp
  | p :: fs, f + 1, K, j, acc, hw, hf, ha, hd, hj => by
    have hp := hw p (List.mem_cons_self ..)
    obtain ⟨r1, r2, r3, r4⟩ := rightF hp
    have hlen : (lineF p).length = (p.1 ++ [58, 32] ++ p.2).length + 2 := by rw [lineF, List.length_append] <;> rfl
    have hxl : ∀ x ∈ p.1 ++ [58, 32] ++ p.2, x ≠ 10 := fun x hx => by
      rcases List.mem_append.1 hx with hx | hx
      · rcases List.mem_append.1 hx with hx | hx
        · exact (tch_line x (((tokL_iff _).1 r2).1 x hx)).1
        · simp only [List.mem_cons, List.not_mem_nil, or_false] at hx
          rcases hx with rfl | rfl <;> decide
      · exact txt_line x ((txt_all r4).1 x hx)
    by_cases hs : j ≤ (p.1 ++ [58, 32] ++ p.2).length + 1
    · have hL : lineL (l.drop K) = ([], 3) := by
        rewrite [hd, prF, show lineF p ++ prF fs ++ [13, 10] = (p.1 ++ [58, 32] ++ p.2) ++ 13 :: 10 :: (prF fs ++ [13, 10]) by simp [lineF]]
        exact lineL_off _ _ hxl (by simp; omega) j hs
      rewrite [parH, hL]
      simp
    · have hcut : (prF (p :: fs) ++ [13, 10]).take j = lineF p ++ (prF fs ++ [13, 10]).take (j - (lineF p).length) := by
        rw [prF, List.append_assoc, take_past _ _ _ (by omega)]
      rw [hcut] at hd
      have hL : lineL (l.drop K) = (p.1 ++ [58, 32] ++ p.2, 0) := by
        rewrite [hd]
        exact line_text hp _
      have hne : p.1 ++ [58, 32] ++ p.2 ≠ [] := by simp
      have hd2 : l.drop (K + (p.1 ++ [58, 32] ++ p.2).length + 2) = (prF fs ++ [13, 10]).take (j - (lineF p).length) := by
        rw [Nat.add_assoc, ← hlen, ← List.drop_drop, hd, List.drop_left']
        rfl
      have hj2 : j - (lineF p).length < (prF fs ++ [13, 10]).length := by
        rw [prF, List.append_assoc, List.length_append] at hj
        omega
      have ih := parH_off l fs f (K + (p.1 ++ [58, 32] ++ p.2).length + 2) (j - (lineF p).length) (acc ++ [p]) (fun q hq => hw q (List.mem_cons_of_mem _ hq)) (by simp only [List.length_cons] at hf; omega) (by simp only [List.length_cons, List.length_append, List.length_nil] at ha ⊢; omega) hd2 hj2
      have ha' : acc.length ≠ 64 := by simp only [List.length_cons] at ha; omega
      rewrite [parH, hL]
      dsimp only
      rewrite [if_neg (by simp), if_neg hne, if_neg ha', fldL_text hp]
      exact ih

/-- Fields that were printed, cut off, are too short. -/
theorem parse_off (fs : List Fld) (j : Nat) (h : rightH fs = true) (hj : j < (prF fs ++ [13, 10]).length) : parseH ((prF fs ++ [13, 10]).take j) = .error 3 := by
  unfold rightH at h
  simp only [Bool.and_eq_true, decide_eq_true_eq, Bool.not_eq_true', List.any_eq_false, Bool.not_eq_true] at h
  exact parH_off _ fs 65 0 j [] h.2 (by omega) (by simpa using h.1) rfl hj

/-- A request that was printed, cut off, is too short. -/
theorem offQ {q : Rq} {t : List UInt8} (h : prQ q = some t) (j : Nat) (hj : j < t.length) : rdQ (t.take j) = .error 3 := by
  obtain ⟨h1, h2, h3, h4, h5, h6, h7, h8, h9, rfl⟩ := prQ_parts h
  clear h
  have hR := fieldsQ_right h3 h7 h9
  by_cases hs : j ≤ (linQ q).length + 1
  · have hL : lineL ((linQ q ++ [13, 10] ++ (prF (fieldsQ q) ++ [13, 10]) ++ q.b).take j) = ([], 3) := by
      rewrite [show linQ q ++ [13, 10] ++ (prF (fieldsQ q) ++ [13, 10]) ++ q.b = linQ q ++ 13 :: 10 :: (prF (fieldsQ q) ++ [13, 10] ++ q.b) by simp]
      exact lineL_off _ _ (linQ_line h1 h2) (by rewrite [linQ_len]; exact h8) j hs
    rewrite [rdQ, hL]
    simp
  · obtain ⟨k, rfl⟩ : ∃ k, j = (linQ q ++ [13, 10]).length + k := ⟨j - (linQ q ++ [13, 10]).length, by simp; omega⟩
    have e1 : (linQ q ++ [13, 10] ++ (prF (fieldsQ q) ++ [13, 10]) ++ q.b).take ((linQ q ++ [13, 10]).length + k) = linQ q ++ 13 :: 10 :: ((prF (fieldsQ q) ++ [13, 10]) ++ q.b).take k := by
      rewrite [show linQ q ++ [13, 10] ++ (prF (fieldsQ q) ++ [13, 10]) ++ q.b = (linQ q ++ [13, 10]) ++ ((prF (fieldsQ q) ++ [13, 10]) ++ q.b) by simp, take_past _ _ _ (by omega), Nat.add_sub_cancel_left]
      simp
    have hj2 : k < ((prF (fieldsQ q) ++ [13, 10]) ++ q.b).length := by
      rw [show linQ q ++ [13, 10] ++ (prF (fieldsQ q) ++ [13, 10]) ++ q.b = (linQ q ++ [13, 10]) ++ ((prF (fieldsQ q) ++ [13, 10]) ++ q.b) by simp] at hj
      have hh : ((linQ q ++ [13, 10]) ++ ((prF (fieldsQ q) ++ [13, 10]) ++ q.b)).length = (linQ q ++ [13, 10]).length + ((prF (fieldsQ q) ++ [13, 10]) ++ q.b).length := List.length_append
      omega
    obtain ⟨F, hF⟩ : ∃ F, prF (fieldsQ q) ++ [13, 10] = F := ⟨_, rfl⟩
    rw [hF] at e1 hj2 ⊢
    rewrite [e1]
    clear e1 hj hs
    have hL : lineL (linQ q ++ 13 :: 10 :: (F ++ q.b).take k) = (linQ q, 0) := lineL_text _ _ (linQ_line h1 h2) (by rewrite [linQ_len]; exact h8)
    have hd : (linQ q ++ 13 :: 10 :: (F ++ q.b).take k).drop ((linQ q).length + 2) = (F ++ q.b).take k := by
      rw [show linQ q ++ 13 :: 10 :: (F ++ q.b).take k = (linQ q ++ [13, 10]) ++ (F ++ q.b).take k by simp, List.drop_left']
      simp
    rewrite [rdQ, hL]
    dsimp only
    rewrite [if_neg (by simp), linQ_fr h1 h2]
    dsimp only
    rewrite [hd]
    by_cases hk : k < F.length
    · have hP : parseH ((F ++ q.b).take k) = .error 3 := by
        rewrite [List.take_append_of_le_length (by omega)]
        subst hF
        exact parse_off _ k hR hk
      rw [hP]
    · have e2 : (F ++ q.b).take k = F ++ q.b.take (k - F.length) := take_past _ _ _ (by omega)
      have hP : parseH ((F ++ q.b).take k) = .ok (fieldsQ q, F.length) := by
        rewrite [e2]
        subst hF
        exact parse_print _ _ hR
      have hd2 : (linQ q ++ 13 :: 10 :: (F ++ q.b).take k).drop ((linQ q).length + 2 + F.length) = q.b.take (k - F.length) := by
        rw [← List.drop_drop, hd, e2, List.drop_left']
        rfl
      have hbk : k - F.length < q.b.length := by
        rw [List.length_append] at hj2
        omega
      have hb : ¬ q.b = [] := fun hb => by rw [hb] at hbk; simp at hbk
      have e : fieldsQ q = withCl q.fs q.b.length := by rw [fieldsQ, if_neg hb]
      have hho : (allH (fieldsQ q) hoN).length = 1 := by rewrite [e, all_with, if_neg cl_ho]; exact h6
      have hbo : bodL (q.b.take (k - F.length)) (q.b.length : Int) = .error 3 := by
        have := List.length_take_le (k - F.length) q.b
        rw [bodL, if_neg (by omega), if_neg (by omega), if_pos (by omega)]
      rewrite [hP]
      dsimp only
      rewrite [if_neg (by rewrite [hho]; simp), hd2, e, lng_with _ (by omega) h4 h5]
      dsimp only
      rw [hbo]

end Go.Proofs.YthbfcamfapgodaaGreatDoor

namespace Go.Proofs.YthbfcamfapgodaaGreatDoor
open Go.RowKit

theorem prF_filter (f : Fld → Bool) : ∀ fs : List Fld, (prF (fs.filter f)).length ≤ (prF fs).length
  | [] => Nat.le_refl _
  | p :: fs => by
    have ih := prF_filter f fs
    rewrite [List.filter_cons]
    split
    · rewrite [prF, prF, List.length_append, List.length_append]; omega
    · rewrite [prF, List.length_append]; omega
/-- Are the fields those of a text of so many bytes? -/
def smallF (fs : List Fld) (n : Nat) : Prop := (prF fs).length ≤ n + 64 ∧ fs.length ≤ 64 ∧ ∀ p ∈ fs, p.1.length ≤ 2000 ∧ p.2.length ≤ 2000
theorem les_small {l : List UInt8} {fs : List Fld} {n : Nat} (h : parseH l = .ok (fs, n)) : smallF (lesL fs) l.length := by
  have a := parseH_ok h
  have b := parse_sum _ _ _ h
  refine ⟨Nat.le_trans (prF_filter _ _) (by omega), Nat.le_trans (List.length_filter_le _ _) a.2.1, fun p hp => a.2.2 p (List.mem_filter.1 hp).1⟩
theorem frL_len {l m t : List UInt8} (h : frL l = some (m, t)) : m.length ≤ l.length ∧ t.length ≤ l.length := by
  unfold frL at h
  split at h
  · simp only [Option.some.injEq, Prod.mk.injEq] at h
    obtain ⟨rfl, rfl⟩ := h
    exact ⟨(cut32_len l).1, Nat.le_trans (cut32_len _).1 (cut32_len l).2⟩
  · cases h

theorem rdQ_small {l : List UInt8} {q : Rq} {n : Nat} (h : rdQ l = .ok (q, n)) :
    1 ≤ n ∧ n ≤ l.length ∧ q.m.length ≤ 2000 ∧ q.t.length ≤ 2000 ∧ smallF q.fs l.length ∧ q.b.length ≤ l.length := by
  unfold rdQ at h
  split at h
  · cases h
  · rename_i h0
    have hle := lineL_le l (by simpa using h0)
    have hsh := lineL_short l
    cases h2 : frL (lineL l).1 with
    | none => rw [h2] at h; cases h
    | some p =>
      obtain ⟨m, t⟩ := p
      have hf := frL_len h2
      rw [h2] at h
      dsimp only at h
      cases h3 : parseH (l.drop ((lineL l).1.length + 2)) with
      | error x => rw [h3] at h; cases h
      | ok p =>
        obtain ⟨fs, k⟩ := p
        have hk := (parseH_ok h3).1
        have hs := les_small h3
        rw [List.length_drop] at hk hs
        rw [h3] at h
        dsimp only at h
        split at h
        · cases h
        · cases h5 : lngL fs with
          | error x => rw [h5] at h; cases h
          | ok z =>
            rw [h5] at h
            dsimp only at h
            cases h6 : bodL (l.drop ((lineL l).1.length + 2 + k)) z with
            | error x => rw [h6] at h; cases h
            | ok p =>
              obtain ⟨b, u⟩ := p
              have hb := bodL_ok h6
              rw [List.length_drop] at hb
              rw [h6] at h
              simp only [Except.ok.injEq, Prod.mk.injEq] at h
              obtain ⟨rfl, rfl⟩ := h
              obtain ⟨s1, s2, s3⟩ := hs
              refine ⟨by omega, by omega, ?_, ?_, ⟨?_, s2, s3⟩, ?_⟩
              · show m.length ≤ 2000
                omega
              · show t.length ≤ 2000
                omega
              · show (prF (lesL fs)).length ≤ l.length + 64
                omega
              · show b.length ≤ l.length
                omega

theorem rdP_small {l : List UInt8} {me : ByteArray} {p : Rp} (h : rdP l me = .ok p) : smallF p.fs l.length ∧ p.b.length ≤ l.length := by
  unfold rdP at h
  split at h
  · cases h
  · cases h2 : frP (lineL l).1 with
    | none => rw [h2] at h; cases h
    | some n =>
      rw [h2] at h
      dsimp only at h
      cases h3 : parseH (l.drop ((lineL l).1.length + 2)) with
      | error x => rw [h3] at h; cases h
      | ok x =>
        obtain ⟨fs, k⟩ := x
        obtain ⟨s1, s2, s3⟩ := les_small h3
        rw [List.length_drop] at s1
        rw [h3] at h
        dsimp only at h
        cases h5 : lngL fs with
        | error x => rw [h5] at h; cases h
        | ok z =>
          rw [h5] at h
          dsimp only at h
          split at h
          · split at h
            · simp only [Except.ok.injEq] at h
              subst h
              exact ⟨⟨(by show (prF (lesL fs)).length ≤ l.length + 64; omega), s2, s3⟩, Nat.zero_le _⟩
            · cases h
          · cases h6 : bodL (l.drop ((lineL l).1.length + 2 + k)) (if z = -1 then ((l.drop ((lineL l).1.length + 2 + k)).length : Int) else z) with
            | error x => rw [h6] at h; cases h
            | ok x =>
              obtain ⟨b, u⟩ := x
              have hb := bodL_ok h6
              rw [List.length_drop] at hb
              rw [h6] at h
              dsimp only at h
              split at h
              · simp only [Except.ok.injEq] at h
                subst h
                exact ⟨⟨(by show (prF (lesL fs)).length ≤ l.length + 64; omega), s2, s3⟩, (by show b.length ≤ l.length; omega)⟩
              · cases h

/-- How long what is printed is. -/
theorem prQ_len {q : Rq} {t : List UInt8} (h : prQ q = some t) : t.length ≤ q.m.length + q.t.length + (prF q.fs).length + q.b.length + 50 := by
  obtain ⟨_, _, _, _, _, _, h7, _, _, rfl⟩ := prQ_parts h
  have hf : (prF (fieldsQ q)).length ≤ (prF q.fs).length + 30 := by
    unfold fieldsQ
    split
    · omega
    · have hd := dec_len 5 q.b.length (by omega)
      have he : ∀ fs : List Fld, ∀ p : Fld, (prF (fs ++ [p])).length = (prF fs).length + (lineF p).length := fun fs p => by
        induction fs with
        | nil => simp [prF]
        | cons x r ih => rewrite [List.cons_append, prF, prF, List.length_append, List.length_append, ih]; omega
      rewrite [withCl, he, lineF_len]
      have : clN.length = 14 := rfl
      simp only
      omega
  have hl := linQ_len q
  simp only [List.length_append, List.length_cons, List.length_nil]
  omega

end Go.Proofs.YthbfcamfapgodaaGreatDoor
