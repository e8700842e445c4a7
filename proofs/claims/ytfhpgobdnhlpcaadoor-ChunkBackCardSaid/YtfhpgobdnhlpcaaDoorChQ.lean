/- Plain: what is encoded in chunks is decoded; chunks ahead of others are both; what is cut off is too short. -/
import Derived.Test.YtfhpgobdnhlpcaaDoorChG
import Derived.Test.YtfhpgobdnhlpcaaDoorHdW
namespace Go.Proofs.YtfhpgobdnhlpcaaDoor
open Go.RowKit Go.Shelf Go.Lib

theorem hex_sign (c : UInt8) (h : (48 ≤ c.toNat ∧ c.toNat ≤ 57) ∨ (97 ≤ c.toNat ∧ c.toNat ≤ 102)) : c ≠ 10 ∧ sepL.contains c = false := by
  have H : ∀ i : Fin 256, ((48 ≤ i.val ∧ i.val ≤ 57) ∨ (97 ≤ i.val ∧ i.val ≤ 102)) → UInt8.ofNat i.val ≠ 10 ∧ sepL.contains (UInt8.ofNat i.val) = false := by decide +kernel
  have := H ⟨c.toNat, c.toNat_lt⟩ h
  simpa using this
theorem sizeL_hex (m : Nat) (h : m < 1048576) : sizeL (hexL m) = some m := by
  have hi : Lib.indexAny (hexL m) sepL = -1 := Lib.indexAny_none fun j b _ hb => (hex_sign b (hexL_mem m b (List.mem_of_getElem? hb))).2
  have hl := hexL_len 5 m (by omega) (by omega)
  have hn : num16 (hexL m) = .ok m := by rw [num16, if_neg (hexL_ne m), par16_hexL m (by omega)]
  have hd : digsL (hexL m) = hexL m := by rw [digsL, hi]; rfl
  have hr : restL (hexL m) = [] := by rw [restL, hi]; rfl
  rw [sizeL, hd, hr, hn, if_neg (by omega)]
  rfl
theorem rdL_hex (m : Nat) (r : List UInt8) (h : m < 1048576) : rdL (hexL m ++ 13 :: 10 :: r) = .ok (m, (hexL m).length + 2) := by
  have hl := hexL_len 5 m (by omega) (by omega)
  have := lineL_text (hexL m) r (fun c hc => (hex_sign c (hexL_mem m c hc)).1) (by omega)
  rw [rdL, this]
  dsimp only
  rw [if_pos rfl, sizeL_hex m h]
theorem datL_ok (p r : List UInt8) : datL (p ++ 13 :: 10 :: r) p.length = (p, 0) := by
  have h1 : (p ++ 13 :: 10 :: r).drop p.length = 13 :: 10 :: r := List.drop_left
  rw [datL, h1, if_neg (by simp), List.take_left]
  rfl
theorem oneC_eq (p tl : List UInt8) : oneC p ++ tl = hexL p.length ++ 13 :: 10 :: (p ++ 13 :: 10 :: tl) := by simp [oneC]
theorem oneC_length (p : List UInt8) : (oneC p).length = (hexL p.length).length + 2 + p.length + 2 := by simp [oneC]; omega

theorem chunksL_nil (g n : Nat) : chunksL g n [] = [] := by cases g <;> rfl
theorem chunksL_cons (g n : Nat) (b : List UInt8) (h : b ≠ []) : chunksL (g + 1) n b = oneC (b.take (min n b.length)) ++ chunksL g n (b.drop (min n b.length)) := by
  rw [chunksL, if_neg h]
theorem chunksL_ge (n : Nat) (hn : 0 < n) : ∀ (g : Nat) (b : List UInt8), b.length ≤ g → b.length ≤ (chunksL g n b).length
  | 0, b, h => by omega
  | g + 1, b, h => by
    by_cases hb : b = []
    · subst hb; simp
    · have hp : 0 < b.length := List.length_pos_iff.2 hb
      have := chunksL_ge n hn g (b.drop (min n b.length)) (by rw [List.length_drop]; omega)
      rw [chunksL_cons g n b hb, List.length_append, oneC_length, List.length_take]
      rw [List.length_drop] at this
      omega

theorem drop_add {l a : List UInt8} {K : Nat} {b : List UInt8} (h : l.drop K = a ++ b) : l.drop (K + a.length) = b := by
  rw [← List.drop_drop, h, List.drop_left]

/-- One whole chunk. -/
theorem decG_one (l : List UInt8) (f K : Nat) (acc p tl : List UInt8) (hd : l.drop K = oneC p ++ tl) (hp : 0 < p.length) (hp2 : p.length < 1048576) (ha : acc.length + p.length ≤ 100000) :
    decG (f + 1) l K acc = decG f l (K + (oneC p).length) (acc ++ p) ∧ l.drop (K + (oneC p).length) = tl := by
  refine ⟨?_, drop_add hd⟩
  have hd1 := hd
  rw [oneC_eq] at hd1
  have hd2 : l.drop (K + ((hexL p.length).length + 2)) = p ++ 13 :: 10 :: tl := by
    have := drop_add (a := hexL p.length ++ [13, 10]) (b := p ++ 13 :: 10 :: tl) (l := l) (K := K) (by rw [hd1]; simp)
    simpa using this
  rw [decG, hd1, rdL_hex _ _ hp2]
  dsimp only
  rw [if_neg (by omega), if_neg (by omega), hd2, datL_ok]
  dsimp only
  rw [if_pos rfl, oneC_length]
  congr 1
  omega

theorem decG_chunks (l : List UInt8) (n : Nat) (hn : 0 < n) : ∀ (g : Nat) (b : List UInt8) (f K : Nat) (acc tl : List UInt8), b.length ≤ g → l.drop K = chunksL g n b ++ tl → acc.length + b.length ≤ 100000 → b.length < f →
    ∃ f', f ≤ f' + b.length ∧ decG f l K acc = decG f' l (K + (chunksL g n b).length) (acc ++ b) ∧ l.drop (K + (chunksL g n b).length) = tl
  | 0, b, f, K, acc, tl, hg, hd, _, _ => by
    obtain rfl : b = [] := List.eq_nil_of_length_eq_zero (by omega)
    exact ⟨f, by omega, by simp [chunksL], by simpa [chunksL] using hd⟩
  | g + 1, b, f, K, acc, tl, hg, hd, ha, hf => by
    by_cases hb : b = []
    · subst hb
      rw [chunksL_nil] at hd ⊢
      exact ⟨f, by omega, by simp, by simpa using hd⟩
    · have hp : 0 < b.length := List.length_pos_iff.2 hb
      rw [chunksL_cons g n b hb] at hd ⊢
      rw [List.append_assoc] at hd
      have hm : (b.take (min n b.length)).length = min n b.length := by rw [List.length_take]; omega
      obtain ⟨f, rfl⟩ : ∃ f0, f = f0 + 1 := ⟨f - 1, by omega⟩
      obtain ⟨h1, h2⟩ := decG_one l f K acc _ _ hd (by omega) (by omega) (by omega)
      have hl : (b.drop (min n b.length)).length = b.length - min n b.length := List.length_drop
      obtain ⟨f', h3, h4, h5⟩ := decG_chunks l n hn g (b.drop (min n b.length)) f _ (acc ++ b.take (min n b.length)) tl (by omega) h2 (by rw [List.length_append]; omega) (by omega)
      refine ⟨f', by omega, ?_, ?_⟩
      · rw [h1, h4, List.append_assoc, List.take_append_drop, List.length_append]
        congr 1
        omega
      · rw [← h5, List.length_append]
        congr 1
        omega

theorem decG_end (l : List UInt8) (f K : Nat) (acc more : List UInt8) (hd : l.drop K = endC ++ more) (ha : acc.length ≤ 100000) : decG (f + 1) l K acc = .ok (acc, K + 5) := by
  have hx : hexL 0 = [48] := hexL_small 0 (by omega)
  have hd1 : l.drop K = hexL 0 ++ 13 :: 10 :: (13 :: 10 :: more) := by rw [hd, hx]; rfl
  have hd2 : l.drop (K + ((hexL 0).length + 2)) = 13 :: 10 :: more := by
    have := drop_add (a := hexL 0 ++ [13, 10]) (b := 13 :: 10 :: more) (l := l) (K := K) (by rw [hd1]; simp)
    simpa using this
  have hp := parse_print [] more (by rfl)
  have hp2 : parseH (13 :: 10 :: more) = .ok ([], 2) := hp
  rw [decG, hd1, rdL_hex 0 _ (by omega)]
  dsimp only
  rw [if_neg (by omega), if_pos rfl, hd2, hp2, hx]
  rfl

theorem encC_len (n : Nat) (b : List UInt8) : (encC n b).length = (chunksL b.length n b).length + 5 := by rw [encC, List.length_append]; rfl

theorem decL_join (n m : Nat) (a b more : List UInt8) (hn : 0 < n) (hm : 0 < m) (h : a.length + b.length ≤ 100000) :
    decL (chunksL a.length n a ++ (encC m b ++ more)) = .ok (a ++ b, (chunksL a.length n a).length + (encC m b).length) := by
  have hga := chunksL_ge n hn a.length a (Nat.le_refl _)
  have hgb := chunksL_ge m hm b.length b (Nat.le_refl _)
  obtain ⟨l, hl⟩ : ∃ l, chunksL a.length n a ++ (encC m b ++ more) = l := ⟨_, rfl⟩
  have hll : l.length = (chunksL a.length n a).length + ((encC m b).length + more.length) := by rw [← hl, List.length_append, List.length_append]
  rw [encC_len] at hll
  rw [hl, decL]
  obtain ⟨f1, h1, h2, h3⟩ := decG_chunks l n hn a.length a (l.length + 1) 0 [] (encC m b ++ more) (Nat.le_refl _) (by rw [List.drop_zero, ← hl]) (by simp; omega) (by omega)
  rw [h2, List.nil_append]
  rw [encC, List.append_assoc] at h3
  obtain ⟨f2, h4, h5, h6⟩ := decG_chunks l m hm b.length b f1 _ a (endC ++ more) (Nat.le_refl _) h3 h (by omega)
  rw [h5]
  obtain ⟨f2, rfl⟩ : ∃ f0, f2 = f0 + 1 := ⟨f2 - 1, by omega⟩
  rw [decG_end l f2 _ _ more h6 (by rw [List.length_append]; omega), encC_len]
  congr 2
  omega
theorem decL_enc (n : Nat) (b more : List UInt8) (hn : 0 < n) (h : b.length ≤ 100000) : decL (encC n b ++ more) = .ok (b, (encC n b).length) := by
  have := decL_join n n [] b more hn hn (by simpa using h)
  simpa [chunksL] using this

theorem lineL_cut (m j : Nat) (r : List UInt8) (h : m < 1048576) (hj : j ≤ (hexL m).length + 1) : lineL ((hexL m ++ 13 :: 10 :: r).take j) = ([], 3) := by
  have hl := hexL_len 5 m (by omega) (by omega)
  have e : (hexL m ++ 13 :: 10 :: r).take j = (hexL m ++ [13]).take j := by
    rw [show hexL m ++ 13 :: 10 :: r = (hexL m ++ [13]) ++ 10 :: r by simp, List.take_append_of_le_length (by rw [List.length_append]; exact hj)]
  have hn : ∀ c ∈ (hexL m ++ [13]).take j, c ≠ 10 := fun c hc => by
    rcases List.mem_append.1 (List.mem_of_mem_take hc) with h1 | h1
    · exact (hex_sign c (hexL_mem m c h1)).1
    · rw [List.mem_singleton] at h1; rw [h1]; decide
  rw [e, lineL, index_not _ _ hn, if_pos rfl, if_neg (by rw [List.length_take, List.length_append, List.length_singleton]; omega)]
theorem rdL_cut (m j : Nat) (r : List UInt8) (h : m < 1048576) (hj : j ≤ (hexL m).length + 1) : rdL ((hexL m ++ 13 :: 10 :: r).take j) = .error 3 := by
  rw [rdL, lineL_cut m j r h hj]
  rfl
theorem take_more (a b : List UInt8) (j : Nat) (h : a.length ≤ j) : (a ++ b).take j = a ++ b.take (j - a.length) := by
  rw [List.take_append, List.take_of_length_le h]

theorem decG_cut (l : List UInt8) (n : Nat) (hn : 0 < n) : ∀ (g : Nat) (b : List UInt8) (f K : Nat) (acc : List UInt8) (j : Nat), b.length ≤ g → l.drop K = (chunksL g n b ++ endC).take j → j < (chunksL g n b ++ endC).length → acc.length + b.length ≤ 100000 → (l.drop K).length < f →
    decG f l K acc = .error 3 := by
  intro g
  induction g with
  | zero =>
    intro b f K acc j hg hd hj ha hf
    obtain rfl : b = [] := List.eq_nil_of_length_eq_zero (by omega)
    obtain ⟨f, rfl⟩ : ∃ f0, f = f0 + 1 := ⟨f - 1, by omega⟩
    rw [chunksL, List.nil_append] at hd hj
    exact decG_cut_end l f K acc j hd hj ha
  | succ g ih =>
    intro b f K acc j hg hd hj ha hf
    obtain ⟨f, rfl⟩ : ∃ f0, f = f0 + 1 := ⟨f - 1, by omega⟩
    by_cases hb : b = []
    · subst hb
      rw [chunksL_nil, List.nil_append] at hd hj
      exact decG_cut_end l f K acc j hd hj ha
    · have hp : 0 < b.length := List.length_pos_iff.2 hb
      have hm : (b.take (min n b.length)).length = min n b.length := by rw [List.length_take]; omega
      have hl : (b.drop (min n b.length)).length = b.length - min n b.length := List.length_drop
      have hab : b.take (min n b.length) ++ b.drop (min n b.length) = b := List.take_append_drop _ _
      rw [chunksL_cons g n b hb, List.append_assoc] at hd hj
      generalize b.take (min n b.length) = p at *
      generalize b.drop (min n b.length) = b2 at *
      by_cases h1 : j ≤ (hexL p.length).length + 1
      · rw [decG, hd, oneC_eq, rdL_cut _ _ _ (by omega) h1]
      · by_cases h2 : j < (oneC p).length
        · have e : (oneC p ++ (chunksL g n b2 ++ endC)).take j = hexL p.length ++ 13 :: 10 :: (p ++ 13 :: 10 :: (chunksL g n b2 ++ endC)).take (j - ((hexL p.length).length + 2)) := by
            rw [oneC_eq, show hexL p.length ++ 13 :: 10 :: (p ++ 13 :: 10 :: (chunksL g n b2 ++ endC)) = (hexL p.length ++ [13, 10]) ++ (p ++ 13 :: 10 :: (chunksL g n b2 ++ endC)) by simp, take_more _ _ _ (by rw [List.length_append, List.length_cons, List.length_cons, List.length_nil]; omega), List.length_append]
            simp
          rw [e] at hd
          have hd2 : l.drop (K + ((hexL p.length).length + 2)) = (p ++ 13 :: 10 :: (chunksL g n b2 ++ endC)).take (j - ((hexL p.length).length + 2)) := by
            have := drop_add (a := hexL p.length ++ [13, 10]) (b := (p ++ 13 :: 10 :: (chunksL g n b2 ++ endC)).take (j - ((hexL p.length).length + 2))) (l := l) (K := K) (by rw [hd]; simp)
            simpa using this
          rw [oneC_length] at h2
          have hdat : datL ((p ++ 13 :: 10 :: (chunksL g n b2 ++ endC)).take (j - ((hexL p.length).length + 2))) p.length = ([], 3) := by
            rw [datL, if_pos (by rw [List.length_take]; omega)]
          rw [decG, hd, rdL_hex _ _ (by omega)]
          dsimp only
          rw [if_neg (by omega), if_neg (by omega), hd2, hdat]
          rfl
        · rw [take_more _ _ _ (by omega)] at hd
          obtain ⟨h3, h4⟩ := decG_one l f K acc p _ hd (by omega) (by omega) (by omega)
          rw [h3]
          rw [List.length_append] at hj
          have hlen := congrArg List.length hd
          rw [List.length_append] at hlen
          have h0 := oneC_length p
          exact ih b2 f _ (acc ++ p) (j - (oneC p).length) (by omega) h4 (by omega) (by rw [List.length_append]; omega) (by rw [h4]; omega)
where
  decG_cut_end (l : List UInt8) (f K : Nat) (acc : List UInt8) (j : Nat) (hd : l.drop K = endC.take j) (hj : j < endC.length) (ha : acc.length + ([] : List UInt8).length ≤ 100000) : decG (f + 1) l K acc = .error 3 := by
    have hx : hexL 0 = [48] := hexL_small 0 (by omega)
    have hj5 : j < 5 := hj
    by_cases h1 : j ≤ 2
    · have e : endC.take j = (hexL 0 ++ 13 :: 10 :: [13, 10]).take j := by rw [hx]; rfl
      rw [decG, hd, e, rdL_cut 0 j _ (by omega) (by rw [hx, List.length_singleton]; omega)]
    · have e : endC.take j = hexL 0 ++ 13 :: 10 :: ([13, 10] : List UInt8).take (j - 3) := by
        rw [hx]
        match j, hj5, h1 with
        | 3, _, _ => rfl
        | 4, _, _ => rfl
      rw [e] at hd
      have hd2 : l.drop (K + ((hexL 0).length + 2)) = ([13, 10] : List UInt8).take (j - 3) := by
        have := drop_add (a := hexL 0 ++ [13, 10]) (b := ([13, 10] : List UInt8).take (j - 3)) (l := l) (K := K) (by rw [hd]; simp)
        simpa using this
      have hp : parseH (([13, 10] : List UInt8).take (j - 3)) = .error 3 := by
        match j, hj5, h1 with
        | 3, _, _ => rfl
        | 4, _, _ => rfl
      rw [decG, hd, rdL_hex 0 _ (by omega)]
      dsimp only
      have : ¬ 100000 < acc.length + 0 := by simp at ha; omega
      rw [if_neg this, if_pos rfl, hd2, hp]

theorem decL_cut (n : Nat) (b : List UInt8) (j : Nat) (hn : 0 < n) (h : b.length ≤ 100000) (hj : j < (encC n b).length) : decL ((encC n b).take j) = .error 3 := by
  exact decG_cut _ n hn b.length b _ 0 [] j (Nat.le_refl _) (by rw [List.drop_zero]; rfl) hj (by simpa using h) (by rw [List.drop_zero]; omega)

end Go.Proofs.YtfhpgobdnhlpcaaDoor
