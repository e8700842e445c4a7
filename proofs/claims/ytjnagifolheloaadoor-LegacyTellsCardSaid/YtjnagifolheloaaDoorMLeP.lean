/- Plain: directives, and what they tell. -/
import Derived.Test.YtjnagifolheloaaDoorMSpP
import Derived.Test.YtjnagifolheloaaDoorMLowP

namespace Go.Proofs.YtjnagifolheloaaDoor
open Go.RowKit

/-- A directive: its name, its value, whether it has one. -/
abbrev Dir := List UInt8 × List UInt8 × Bool
/-- What stands in a quoted text, behind its first sign. By so many rounds. -/
def unqF : Nat → List UInt8 → Option (List UInt8)
  | 0, _ => none
  | _ + 1, [] => none
  | f + 1, c :: r =>
    if c = 34 then (if r = [] then some [] else none)
    else if c = 92 then (if r = [] then none else (unqF f (r.drop 1)).map (r.getD 0 0 :: ·))
    else (unqF f r).map (c :: ·)
def unqG (l : List UInt8) : Option (List UInt8) := unqF (l.length + 1) l
theorem unqF_more : ∀ (f g : Nat) (l : List UInt8), l.length < f → l.length < g → unqF f l = unqF g l
  | 0, _, _, h, _ => by omega
  | _ + 1, 0, _, _, h => by omega
  | f + 1, g + 1, [], _, _ => rfl
  | f + 1, g + 1, c :: r, hf, hg => by
    simp only [List.length_cons] at hf hg
    rw [unqF, unqF, unqF_more f g r (by omega) (by omega), unqF_more f g (r.drop 1) (by rw [List.length_drop]; omega) (by rw [List.length_drop]; omega)]
theorem unqG_nil : unqG [] = none := rfl
theorem unqG_end (r : List UInt8) : unqG (34 :: r) = if r = [] then some [] else none := by
  rw [unqG, unqF, if_pos rfl]
theorem unqG_esc_nil : unqG [92] = none := rfl
theorem unqG_esc (d : UInt8) (t : List UInt8) : unqG (92 :: d :: t) = (unqG t).map (d :: ·) := by
  rw [unqG, unqF, if_neg (by decide), if_pos rfl, if_neg (by simp), show (d :: t).drop 1 = t from rfl, unqF_more _ (t.length + 1) t (by simp only [List.length_cons]; omega) (by omega)]
  rfl
theorem unqG_other (c : UInt8) (r : List UInt8) (h1 : c ≠ 34) (h2 : c ≠ 92) : unqG (c :: r) = (unqG r).map (c :: ·) := by
  rw [unqG, unqF, if_neg h1, if_neg h2, unqF_more _ (r.length + 1) r (by simp) (by omega)]
  rfl
def unqL : List UInt8 → Option (List UInt8)
  | c :: r => if c = 34 then unqG r else none
  | [] => none
/-- The directive of a text. -/
def oneL (s : List UInt8) : Option Dir :=
  if Lib.indexByte s 61 = -1 then (if tokL s = true then some (lowL s, [], false) else none)
  else if tokL (s.take (Lib.indexByte s 61).toNat) = true then
    (if tokL (s.drop ((Lib.indexByte s 61).toNat + 1)) = true then some (lowL (s.take (Lib.indexByte s 61).toNat), s.drop ((Lib.indexByte s 61).toNat + 1), true)
     else (unqL (s.drop ((Lib.indexByte s 61).toNat + 1))).map fun t => (lowL (s.take (Lib.indexByte s 61).toNat), t, true))
  else none
def dirsL (s : List UInt8) : List Dir := (splitL s).filterMap oneL
/-- The first directive of a name; whether there is one; the number that it tells. -/
def fstN (l : List Dir) (n : List UInt8) : Option Dir := l.find? fun d => d.1 == n
def hasN (l : List Dir) (n : List UInt8) : Bool := (fstN l n).isSome
def numN (l : List Dir) (n : List UInt8) : Int := match fstN l n with | none => -1 | some d => digitsN d.2.1
def stlN (l : List Dir) (n : List UInt8) : Int := match fstN l n with | none => -1 | some d => if d.2.2 = true then digitsN d.2.1 else 2147483648
/-- The names that are told of. -/
def nNoStore : List UInt8 := [110, 111, 45, 115, 116, 111, 114, 101]
def nNoCache : List UInt8 := [110, 111, 45, 99, 97, 99, 104, 101]
def nPrivate : List UInt8 := [112, 114, 105, 118, 97, 116, 101]
def nPublic : List UInt8 := [112, 117, 98, 108, 105, 99]
def nMust : List UInt8 := [109, 117, 115, 116, 45, 114, 101, 118, 97, 108, 105, 100, 97, 116, 101]
def nProxy : List UInt8 := [112, 114, 111, 120, 121, 45, 114, 101, 118, 97, 108, 105, 100, 97, 116, 101]
def nImmut : List UInt8 := [105, 109, 109, 117, 116, 97, 98, 108, 101]
def nOnly : List UInt8 := [111, 110, 108, 121, 45, 105, 102, 45, 99, 97, 99, 104, 101, 100]
def nMaxAge : List UInt8 := [109, 97, 120, 45, 97, 103, 101]
def nSMax : List UInt8 := [115, 45, 109, 97, 120, 97, 103, 101]
def nStale : List UInt8 := [109, 97, 120, 45, 115, 116, 97, 108, 101]
def nFresh : List UInt8 := [109, 105, 110, 45, 102, 114, 101, 115, 104]
def nIfErr : List UInt8 := [115, 116, 97, 108, 101, 45, 105, 102, 45, 101, 114, 114, 111, 114]
/-- What directives tell. -/
def rulV (l : List Dir) : Value := .agg #[.bool (hasN l nNoStore), .bool (hasN l nNoCache), .bool (hasN l nPrivate), .bool (hasN l nPublic), .bool (hasN l nMust), .bool (hasN l nProxy), .bool (hasN l nImmut), .bool (hasN l nOnly),
  .int .i64 (numN l nMaxAge), .int .i64 (numN l nSMax), .int .i64 (stlN l nStale), .int .i64 (numN l nFresh), .int .i64 (numN l nIfErr)]
theorem rulV_same {l m : List Dir} (h : ∀ n, fstN l n = fstN m n) : rulV l = rulV m := by
  simp only [rulV, hasN, numN, stlN, h]
/-- What is behind directives, of the names that they have, changes nothing. -/
theorem fst_more (l more : List Dir) (h : ∀ d ∈ more, ∃ e ∈ l, e.1 = d.1) (n : List UInt8) : fstN (l ++ more) n = fstN l n := by
  unfold fstN
  rw [List.find?_append]
  cases hl : l.find? fun d => d.1 == n with
  | some d => rfl
  | none =>
    rw [Option.none_or, List.find?_eq_none]
    intro d hd hn
    obtain ⟨e, he, hen⟩ := h d hd
    rw [List.find?_eq_none] at hl
    exact hl e he (by rw [hen]; exact hn)
/-- Directives of unlike names, turned about, tell the same. -/
theorem fst_back : ∀ (l : List Dir), (l.map (·.1)).Nodup → ∀ n, fstN l.reverse n = fstN l n
  | [], _, _ => rfl
  | d :: l, h, n => by
    rw [List.map_cons, List.nodup_cons] at h
    have ih := fst_back l h.2 n
    unfold fstN at ih ⊢
    rw [List.reverse_cons, List.find?_append, ih]
    cases hd : (d.1 == n)
    · have e1 : List.find? (fun d : Dir => d.1 == n) (d :: l) = List.find? (fun d => d.1 == n) l := by rw [List.find?_cons, hd]
      have e2 : List.find? (fun d : Dir => d.1 == n) [d] = none := by rw [List.find?_cons, hd]; rfl
      rw [e1, e2]
      cases List.find? (fun d : Dir => d.1 == n) l <;> rfl
    · have e1 : List.find? (fun d : Dir => d.1 == n) (d :: l) = some d := by rw [List.find?_cons, hd]
      have e2 : List.find? (fun d : Dir => d.1 == n) [d] = some d := by rw [List.find?_cons, hd]
      have hn : l.find? (fun d => d.1 == n) = none := by
        rw [List.find?_eq_none]
        intro e he hen
        refine h.1 (List.mem_map.2 ⟨e, he, ?_⟩)
        rw [beq_iff_eq.1 hd]
        exact beq_iff_eq.1 hen
      rw [hn, e1, e2]
      rfl
theorem rulV_nil : rulV [] = .agg #[.bool false, .bool false, .bool false, .bool false, .bool false, .bool false, .bool false, .bool false, .int .i64 (-1), .int .i64 (-1), .int .i64 (-1), .int .i64 (-1), .int .i64 (-1)] := rfl

end Go.Proofs.YtjnagifolheloaaDoor
