/- Plain: what is printed of members and of entries is read as these, whatever stops it behind. · Size of small members is the plain sum (plain). · Plain: what is read of members and entries may be printed; how long that is. -/
import Derived.Test.YtjbipplaacgnkaaGreatDoorGR
import Derived.Test.YtjbipplaacgnkaaGreatDoorGO
import Derived.Test.YtjbipplaacgnkaaGreatDoorGH
import Derived.Test.YtjbipplaacgnkaaGreatDoorGI

namespace Go.Proofs.YtjbipplaacgnkaaGreatDoor

/-- What may stand behind parameters: nothing, a semicolon, a comma, a space, a closing bracket. -/
def stp : List UInt8 → Bool
  | [] => true
  | c :: _ => c == 59 || c == 44 || c == 41 || c == 32
theorem stp_all {P : UInt8 → Bool} (h59 : P 59 = true) (h44 : P 44 = true) (h41 : P 41 = true) (h32 : P 32 = true) (c : UInt8) (r : List UInt8) (h : stp (c :: r) = true) : P c = true := by
  simp only [stp, Bool.or_eq_true, beq_iff_eq] at h
  rcases h with ((rfl | rfl) | rfl) | rfl <;> assumption
theorem stp_ends (t : List UInt8) (h : stp t = true) : ends t = true := by
  cases t with
  | nil => rfl
  | cons c r => exact stp_all (P := fun c => !ttI c.toNat) rfl rfl rfl rfl c r h
theorem stp_key (t : List UInt8) (h : stp t = true) : ∀ c, t.head? = some c → ikI c.toNat = false := by
  cases t with
  | nil => intro c hc; cases hc
  | cons c r =>
    intro d hd
    obtain rfl := Option.some.inj hd
    have := stp_all (P := fun c => !ikI c.toNat) rfl rfl rfl rfl c r h
    simpa using this
theorem stp_not_eq (t : List UInt8) (h : stp t = true) : t.head? ≠ some 61 := by
  cases t with
  | nil => simp
  | cons c r =>
    have := stp_all (P := fun c => !(c == 61)) rfl rfl rfl rfl c r h
    simpa using this
theorem semi_stp (u z : List UInt8) (h : semi u = true) (hz : stp z = true) : stp (u ++ z) = true := by
  cases u with
  | nil => exact hz
  | cons c r =>
    have : c = 59 := by simpa [semi] using h
    subst this
    rfl

theorem parL_stp (p : Prm) (u t : List UInt8) (h : pmT p = some u) (ht : stp t = true) : ∃ v, u = 59 :: v ∧ parL (v ++ t) = some (p, v.length) := by
  cases h1 : rightL p.k p.n p.s with
  | false => rw [pmT_none p (.inl h1)] at h; cases h
  | true =>
    cases h2 : keyL p.key with
    | false => rw [pmT_none p (.inr h2)] at h; cases h
    | true =>
      obtain ⟨c, r, hK, hb, hr⟩ := key_cons p.key h2
      have hsp : ∀ z : List UInt8, spcL (p.key ++ z) = 0 := fun z => spc_zero _ (by
        rw [hK]
        intro d hd
        obtain rfl := Option.some.inj hd
        exact bk_not_space _ hb)
      have hne : ¬ p.key.length = 0 := by rw [hK]; simp
      by_cases h3 : p.k = 6 ∧ p.n = 1
      · rw [pmT_one p h1 h2 h3] at h
        obtain rfl := Option.some.inj h
        refine ⟨p.key, rfl, ?_⟩
        have hs : p.s = [] := by
          rcases right_kind _ _ _ h1 with ⟨_, g, _⟩ | ⟨_, g, _⟩ | ⟨g, _⟩ | ⟨g, _⟩ | ⟨g, _⟩
          · exact g
          · exact g
          all_goals exfalso; have := h3.1; omega
        rw [parL, hsp, List.drop_zero, klen_app _ _ h2 (stp_key t ht), if_neg hne, Nat.zero_add, List.drop_left, if_neg (stp_not_eq t ht), List.take_left]
        obtain ⟨a, b, c, d⟩ := p
        obtain ⟨g1, g2⟩ := h3
        subst g1 g2 hs
        rfl
      · rw [pmT_all p h1 h2 h3] at h
        obtain rfl := Option.some.inj h
        refine ⟨p.key ++ 61 :: textL p.k p.n p.s, rfl, ?_⟩
        rw [List.append_assoc, List.cons_append]
        have hk : klen (p.key ++ 61 :: (textL p.k p.n p.s ++ t)) = p.key.length := klen_app _ _ h2 (by
          intro d hd
          obtain rfl := Option.some.inj hd
          rfl)
        rw [parL, hsp, List.drop_zero, hk, if_neg hne, Nat.zero_add, List.drop_left, if_pos List.head?_cons, ← List.drop_drop, List.drop_left, List.drop_one, List.tail_cons, readL_text _ _ _ _ h1 (stp_ends t ht), List.take_left]
        show some (_, _) = some (_, _)
        rw [List.length_append, List.length_cons]
        congr 2
        show p.key.length + 1 + (textL p.k p.n p.s).length = p.key.length + ((textL p.k p.n p.s).length + 1)
        omega
theorem psL_stp (z : List UInt8) (hz : stp z = true) (h59 : z.head? ≠ some 59) : ∀ (ps : List Prm) (u : List UInt8) (acc : List Prm) (m : Nat), ppGo ps = some u → psL (u ++ z) acc m = some (ps.foldl putL acc, m + u.length)
  | [], u, acc, m, h => by
    obtain rfl := Option.some.inj h
    rw [psL_end _ _ _ (by simpa using h59)] <;> rfl
  | p :: ps, u, acc, m, h => by
    cases hp : pmT p with
    | none => rw [ppGo_none _ _ hp] at h; cases h
    | some w =>
      rw [ppGo_some _ _ _ hp] at h
      cases hq : ppGo ps with
      | none => rw [hq] at h; cases h
      | some y =>
        rw [hq] at h
        obtain rfl := Option.some.inj h
        obtain ⟨v, rfl, hv⟩ := parL_stp p w (y ++ z) hp (semi_stp _ _ (ppGo_semi ps y hq) hz)
        have hd : (59 :: v ++ y ++ z).drop (1 + v.length) = y ++ z := by
          rw [Nat.add_comm, List.append_assoc, List.cons_append, List.drop_succ_cons, List.drop_left]
        rw [psL_some (59 :: v ++ y ++ z) acc m p v.length rfl (by rw [List.append_assoc]; exact hv), hd, psL_stp z hz h59 ps y _ _ hq, List.foldl_cons]
        congr 2
        simp only [List.length_append, List.length_cons]
        omega
theorem ppT_stp (z : List UInt8) (hz : stp z = true) (h59 : z.head? ≠ some 59) (ps : List Prm) (u : List UInt8) (h : ppT ps = some u) : psL (u ++ z) [] 0 = some (ps, u.length) := by
  obtain ⟨hn, hg⟩ := ppT_some ps u h
  rw [psL_stp z hz h59 ps u [] 0 hg, fold_new ps [] (by simpa using hn), List.nil_append, Nat.zero_add]

/-- What is printed of an item is read. -/
theorem itm_stp (z : List UInt8) (hz : stp z = true) (h59 : z.head? ≠ some 59) (x : Itm) (t : List UInt8) (h : itT x = some t) : ∃ g : Got, itmL (t ++ z) = some (g, x.ps, t.length) ∧ (⟨g.k, g.n, g.s, x.ps⟩ : Itm) = x := by
  obtain ⟨hr, hn, v, hv, rfl⟩ := prT_some _ _ _ _ _ h
  refine ⟨⟨x.k, x.n, x.s, (textL x.k x.n x.s).length⟩, ?_, rfl⟩
  rw [List.append_assoc, itmL, readL_text _ _ _ _ hr (stp_ends _ (semi_stp _ _ (ppGo_semi _ v hv) hz))]
  dsimp only
  rw [List.drop_left, psL_stp z hz h59 _ v [] 0 hv, fold_new x.ps [] (by simpa using hn)]
  dsimp only
  rw [List.length_append, Nat.zero_add, List.nil_append]
/-- The first byte of an item's text. -/
theorem itm_first (x : Itm) (t : List UInt8) (h : itT x = some t) : ∃ c r, t = c :: r ∧ c ≠ 32 ∧ c ≠ 9 ∧ c ≠ 40 ∧ c ≠ 41 := by
  obtain ⟨g, hg, _⟩ := itm_stp [] rfl (by simp) x t h
  rw [List.append_nil] at hg
  cases t with
  | nil => cases hg
  | cons c r =>
    refine ⟨c, r, rfl, ?_, ?_, ?_, ?_⟩
    all_goals
      rintro rfl
      cases hg

theorem spD_first (c : UInt8) (r : List UInt8) (h : c ≠ 32) : spD (c :: r) = c :: r := by
  unfold spD
  rw [List.dropWhile_cons_of_neg (by simpa using h)]
theorem blD_first (c : UInt8) (r : List UInt8) (h : c ≠ 32) (h9 : c ≠ 9) : blD (c :: r) = c :: r := by
  unfold blD
  rw [List.dropWhile_cons_of_neg (by simp [h, h9])]
theorem jn_cons {α : Type} {f : α → Option (List UInt8)} {sep : List UInt8} {x : α} {xs : List α} {a : List UInt8} (h : jnGo f sep true (x :: xs) = some a) : ∃ t b, f x = some t ∧ jnGo f sep false xs = some b ∧ a = t ++ b := by
  cases hx : f x with
  | none => rw [jnGo_none f sep true x xs hx] at h; cases h
  | some t =>
    rw [jnGo_some f sep true x xs t hx] at h
    cases hb : jnGo f sep false xs with
    | none => rw [hb] at h; cases h
    | some b =>
      rw [hb] at h
      exact ⟨t, b, rfl, rfl, (Option.some.inj h).symm⟩
theorem jn_false {α : Type} {f : α → Option (List UInt8)} {sep : List UInt8} {x : α} {xs : List α} {b : List UInt8} (h : jnGo f sep false (x :: xs) = some b) : ∃ a, jnGo f sep true (x :: xs) = some a ∧ b = sep ++ a := by
  cases hx : f x with
  | none => rw [jnGo_none f sep false x xs hx] at h; cases h
  | some t =>
    rw [jnGo_some f sep false x xs t hx] at h
    rw [jnGo_some f sep true x xs t hx]
    cases hb : jnGo f sep false xs with
    | none => rw [hb] at h; cases h
    | some c =>
      rw [hb] at h
      exact ⟨_, rfl, by rw [← Option.some.inj h]; simp⟩

/-- Items' texts, with a space between, in front of a bracket. -/
theorem itsF_text (z : List UInt8) : ∀ (xs : List Itm) (x : Itm) (a : List UInt8) (acc : List Itm) (f : Nat), xs.length + 2 ≤ f → jnGo itT [32] true (x :: xs) = some a → itsF f (a ++ 41 :: z) acc = some (acc ++ x :: xs, z)
  | [], x, a, acc, f, hf, h => by
    obtain ⟨f, rfl⟩ : ∃ g, f = g + 2 := ⟨f - 2, by simp at hf; omega⟩
    obtain ⟨t, b, hx, hb, rfl⟩ := jn_cons h
    obtain rfl := Option.some.inj hb
    obtain ⟨g, hg, hgx⟩ := itm_stp (41 :: z) rfl (by simp) x t hx
    obtain ⟨c, r, hc, _, _, _, h41⟩ := itm_first x t hx
    rw [List.append_nil, itsF_some (f + 1) _ acc g x.ps _ (by rw [hc]; simpa using h41) hg (by rw [List.drop_left] <;> rfl), List.drop_left, spD_first _ _ (by decide), itsF_end _ _ _ rfl, hgx]
    rfl
  | y :: ys, x, a, acc, f, hf, h => by
    obtain ⟨f, rfl⟩ : ∃ g, f = g + 1 := ⟨f - 1, by simp at hf; omega⟩
    obtain ⟨t, b, hx, hb, rfl⟩ := jn_cons h
    obtain ⟨d, hd, rfl⟩ := jn_false hb
    obtain ⟨g, hg, hgx⟩ := itm_stp (32 :: (d ++ 41 :: z)) rfl (by simp) x t hx
    obtain ⟨c, r, hc, _, _, _, h41⟩ := itm_first x t hx
    obtain ⟨t2, b2, hy, _, hd2⟩ := jn_cons hd
    obtain ⟨c2, r2, hc2, h32, _⟩ := itm_first y t2 hy
    have hs : spD (32 :: (d ++ 41 :: z)) = d ++ 41 :: z := by
      show spD (d ++ 41 :: z) = _
      rw [hd2, hc2]
      exact spD_first _ _ h32
    have e : t ++ ([32] ++ d) ++ 41 :: z = t ++ 32 :: (d ++ 41 :: z) := by simp
    rw [e, itsF_some f _ acc g x.ps _ (by rw [hc]; simpa using h41) hg (by rw [List.drop_left] <;> rfl), List.drop_left, hs, itsF_text z ys y d _ f (by simp at hf ⊢; omega) hd, hgx]
    simp
theorem jn_len {α : Type} {f : α → Option (List UInt8)} {sep : List UInt8} (hf : ∀ x t, f x = some t → 1 ≤ t.length) : ∀ (xs : List α) (b : Bool) (a : List UInt8), jnGo f sep b xs = some a → xs.length ≤ a.length
  | [], _, _, _ => Nat.zero_le _
  | x :: xs, b, a, h => by
    cases hx : f x with
    | none => rw [jnGo_none f sep b x xs hx] at h; cases h
    | some t =>
      rw [jnGo_some f sep b x xs t hx] at h
      cases hb : jnGo f sep false xs with
      | none => rw [hb] at h; cases h
      | some c =>
        rw [hb] at h
        have := jn_len hf xs false c hb
        have ht := hf x t hx
        obtain rfl := Option.some.inj h
        rw [List.length_cons, List.length_append]
        have : t.length ≤ (if b = true then t else sep ++ t).length := by
          split
          · exact Nat.le_refl _
          · rw [List.length_append]; omega
        omega
theorem itT_pos (x : Itm) (t : List UInt8) (h : itT x = some t) : 1 ≤ t.length := by
  obtain ⟨c, r, rfl, _⟩ := itm_first x t h
  simp
theorem itsL_text (z : List UInt8) (xs : List Itm) (a : List UInt8) (h : jnGo itT [32] true xs = some a) : itsL (a ++ 41 :: z) = some (xs, z) := by
  unfold itsL
  cases xs with
  | nil =>
    obtain rfl := Option.some.inj h
    rw [List.nil_append, spD_first _ _ (by decide), itsF_end _ _ _ rfl]
    rfl
  | cons x xs =>
    obtain ⟨t, b, hx, _, ha⟩ := jn_cons h
    obtain ⟨c, r, hc, h32, _⟩ := itm_first x t hx
    have hs : spD (a ++ 41 :: z) = a ++ 41 :: z := by
      rw [ha, hc]
      exact spD_first _ _ h32
    have hl := jn_len itT_pos _ _ _ h
    rw [hs, itsF_text z xs x a [] _ (by simp at hl ⊢; omega) h, List.nil_append]

theorem kind_in (M : Mem) (h : kindL M = true) (hi : M.inner = true) : M.it = noItm := by
  unfold kindL at h
  rw [if_pos hi] at h
  simp only [sameI, Bool.and_eq_true, beq_iff_eq] at h
  obtain ⟨⟨h1, h2, h3⟩, h4⟩ := h
  have h5 := (samePs_iff _ _).1 h4
  rw [Lib.toList_data, Lib.toList_data, strB_data, strB_data] at h3
  obtain ⟨b, ⟨k, n, s, ps⟩, its, qs⟩ := M
  simp only at h1 h2 h3 h5
  subst h1 h2 h3 h5
  rfl
theorem kind_out (M : Mem) (h : kindL M = true) (hi : M.inner = false) : M.its = [] ∧ M.ps = [] := by
  unfold kindL at h
  rw [if_neg (by rw [hi]; decide)] at h
  simpa using h

/-- What is printed of a member is read. -/
theorem mem_stp (z : List UInt8) (hz : stp z = true) (h59 : z.head? ≠ some 59) (M : Mem) (t : List UInt8) (h : memT M = some t) : memL (t ++ z) = some (M, z) := by
  unfold memT at h
  cases hk : kindL M with
  | false => rw [hk, if_pos rfl] at h; cases h
  | true =>
    rw [hk, if_neg (by decide)] at h
    cases hi : M.inner with
    | false =>
      rw [hi, if_pos rfl] at h
      obtain ⟨g, hg, hgx⟩ := itm_stp z hz h59 M.it t h
      obtain ⟨c, r, hc, _, _, h40, _⟩ := itm_first M.it t h
      obtain ⟨e1, e2⟩ := kind_out M hk hi
      unfold memL
      rw [if_neg (by rw [hc]; simpa using h40), hg]
      dsimp only
      rw [hgx, List.drop_left]
      obtain ⟨b, it, its, qs⟩ := M
      simp only at e1 e2 hi
      subst e1 e2 hi
      rfl
    | true =>
      rw [hi, if_neg (by decide)] at h
      cases ha : jnGo itT [32] true M.its with
      | none => rw [ha] at h; cases h
      | some a =>
        rw [ha] at h
        cases hb : ppT M.ps with
        | none => rw [hb] at h; cases h
        | some b =>
          rw [hb] at h
          obtain rfl := Option.some.inj h
          have e1 := kind_in M hk hi
          unfold memL
          rw [if_pos (by rfl)]
          have e : ((40 : UInt8) :: (a ++ 41 :: b) ++ z).drop 1 = a ++ 41 :: (b ++ z) := by simp
          unfold innL
          rw [e, itsL_text (b ++ z) M.its a ha]
          dsimp only
          rw [ppT_stp z hz h59 M.ps b hb]
          dsimp only
          rw [List.drop_left]
          obtain ⟨i, it, its, qs⟩ := M
          simp only at e1 hi
          subst e1 hi
          rfl
theorem mem_first (M : Mem) (t : List UInt8) (h : memT M = some t) : ∃ c r, t = c :: r ∧ c ≠ 32 ∧ c ≠ 9 := by
  unfold memT at h
  split at h
  · cases h
  · split at h
    · obtain ⟨c, r, hc, h1, h2, _⟩ := itm_first M.it t h
      exact ⟨c, r, hc, h1, h2⟩
    · split at h
      · cases h
      · split at h
        · cases h
        · exact ⟨40, _, (Option.some.inj h).symm, by decide, by decide⟩

variable {α : Type}
/-- What is printed with commas between is read part by part. -/
theorem sepF_text {f : α → Option (List UInt8)} {read : List UInt8 → Option (α × List UInt8)} (hread : ∀ x t z, f x = some t → stp z = true → z.head? ≠ some 59 → read (t ++ z) = some (x, z)) (hfirst : ∀ x t, f x = some t → ∃ c r, t = c :: r ∧ c ≠ 32 ∧ c ≠ 9) :
    ∀ (xs : List α) (x : α) (a : List UInt8) (acc : List α) (n : Nat), xs.length + 1 ≤ n → jnGo f [44, 32] true (x :: xs) = some a → sepF read n a acc = some (acc ++ x :: xs)
  | [], x, a, acc, n, hn, h => by
    obtain ⟨n, rfl⟩ : ∃ m, n = m + 1 := ⟨n - 1, by simp at hn; omega⟩
    obtain ⟨t, b, hx, hb, rfl⟩ := jn_cons h
    obtain rfl := Option.some.inj hb
    rw [sepF_end read n _ [] acc x (hread x t [] hx rfl (by simp)) rfl]
  | y :: ys, x, a, acc, n, hn, h => by
    obtain ⟨n, rfl⟩ : ∃ m, n = m + 1 := ⟨n - 1, by simp at hn; omega⟩
    obtain ⟨t, b, hx, hb, rfl⟩ := jn_cons h
    obtain ⟨d, hd, rfl⟩ := jn_false hb
    obtain ⟨t2, b2, hy, _, hd2⟩ := jn_cons hd
    obtain ⟨c2, r2, hc2, h32, h9⟩ := hfirst y t2 hy
    have hs : blD (32 :: d) = d := by
      show blD d = _
      rw [hd2, hc2]
      exact blD_first _ _ h32 h9
    show sepF read (n + 1) (t ++ 44 :: 32 :: d) acc = _
    rw [sepF_more read n _ (44 :: 32 :: d) acc x (hread x t _ hx rfl (by simp)) (by rw [blD_first _ _ (by decide) (by decide)]; simp) (by rw [blD_first _ _ (by decide) (by decide)] <;> rfl), blD_first _ _ (by decide) (by decide)]
    show sepF read n (blD (32 :: d)) _ = _
    rw [hs, sepF_text hread hfirst ys y d _ n (by simp at hn ⊢; omega) hd]
    simp
theorem sepL_text {f : α → Option (List UInt8)} {read : List UInt8 → Option (α × List UInt8)} (hread : ∀ x t z, f x = some t → stp z = true → z.head? ≠ some 59 → read (t ++ z) = some (x, z)) (hfirst : ∀ x t, f x = some t → ∃ c r, t = c :: r ∧ c ≠ 32 ∧ c ≠ 9)
    (xs : List α) (a : List UInt8) (h : jnGo f [44, 32] true xs = some a) : sepL read a = some xs := by
  unfold sepL
  cases xs with
  | nil =>
    obtain rfl := Option.some.inj h
    exact if_pos (show spD [] = [] from rfl)
  | cons x xs =>
    obtain ⟨t, b, hx, _, ha⟩ := jn_cons h
    obtain ⟨c, r, hc, h32, _⟩ := hfirst x t hx
    have hs : spD a = a := by
      rw [ha, hc]
      exact spD_first _ _ h32
    have hl := jn_len (fun x t hx => by obtain ⟨c, r, rfl, _⟩ := hfirst x t hx; simp) _ _ _ h
    rw [hs, if_neg (by rw [ha, hc]; simp), sepF_text hread hfirst xs x a [] _ (by simp at hl ⊢; omega) h, List.nil_append]
/-- A printed list is read as it. -/
theorem list_back (xs : List Mem) (a : List UInt8) (h : lsT xs = some a) : sepL memL a = some xs :=
  sepL_text (fun x t z hx hz h59 => mem_stp z hz h59 x t hx) mem_first xs a h

theorem readL_one (r : List UInt8) : readL (63 :: 49 :: r) = some ⟨6, 1, [], 2⟩ := rfl
/-- Only the Boolean 1 alone begins as it. -/
theorem bool_text (M : Mem) (t : List UInt8) (h : memT M = some t) (hp : Lib.hasPrefix t [63, 49] = true) : ∃ u, t = 63 :: 49 :: u ∧ M = ⟨false, ⟨6, 1, [], M.it.ps⟩, [], []⟩ ∧ ppT M.it.ps = some u := by
  obtain ⟨u, hu⟩ := List.isPrefixOf_iff_prefix.1 hp
  have hu : t = 63 :: 49 :: u := hu.symm
  unfold memT at h
  cases hk : kindL M with
  | false => rw [hk, if_pos rfl] at h; cases h
  | true =>
    rw [hk, if_neg (by decide)] at h
    cases hi : M.inner with
    | false =>
      rw [hi, if_pos rfl] at h
      obtain ⟨e1, e2⟩ := kind_out M hk hi
      obtain ⟨hr, hn, v, hv, e⟩ := prT_some _ _ _ _ _ h
      have h1 := readL_text _ _ _ _ hr (stp_ends v (by have := semi_stp v [] (ppGo_semi _ v hv) rfl; rwa [List.append_nil] at this))
      rw [← e, hu, readL_one] at h1
      obtain ⟨g1, g2, g3, g4⟩ := Got.mk.inj (Option.some.inj h1)
      have h5 : textL M.it.k M.it.n M.it.s = [63, 49] := by
        have := congrArg (List.take 2) (e.symm.trans hu)
        rw [g4, List.take_left] at this
        exact this.trans (by rw [← g4] <;> rfl)
      have h6 : v = u := by
        have := congrArg (List.drop 2) (e.symm.trans hu)
        rw [g4, List.drop_left] at this
        exact this.trans (by rw [← g4] <;> rfl)
      refine ⟨u, hu, ?_, ?_⟩
      · obtain ⟨b, ⟨k, n, s, ps⟩, its, qs⟩ := M
        simp only at e1 e2 hi g1 g2 g3
        subst e1 e2 hi g1 g2 g3
        rfl
      · rw [← h6]
        unfold ppT
        rw [if_neg (by simpa [eqK] using hn)]
        exact hv
    | true =>
      rw [hi, if_neg (by decide)] at h
      split at h
      · cases h
      · split at h
        · cases h
        · rw [hu] at h
          cases h
/-- What is printed of an entry is read. -/
theorem ent_stp (z : List UInt8) (hz : stp z = true) (h59 : z.head? ≠ some 59) (E : Ent) (t : List UInt8) (h : enT E = some t) : entL (t ++ z) = some (E, z) := by
  unfold enT at h
  cases hm : memT E.val with
  | none => rw [hm] at h; cases h
  | some u =>
    rw [hm] at h
    dsimp only at h
    cases hK : keyL E.key with
    | false => rw [hK, if_pos rfl] at h; cases h
    | true =>
      rw [hK, if_neg (by decide)] at h
      obtain ⟨c, r, hKc, _, _⟩ := key_cons E.key hK
      have hne : ¬ E.key.length = 0 := by rw [hKc]; simp
      split at h
      · rename_i hp
        obtain ⟨v, rfl, hM, hv⟩ := bool_text E.val u hm hp
        obtain rfl := Option.some.inj h
        have hs := semi_stp v z (ppGo_semi _ v (ppT_some _ _ hv).2) hz
        unfold entL
        rw [List.drop_succ_cons, List.drop_succ_cons, List.drop_zero, List.append_assoc, klen_app _ _ hK (stp_key _ hs), if_neg hne, List.drop_left, List.take_left]
        unfold valM
        rw [if_neg (stp_not_eq _ hs), ppT_stp z hz h59 _ v hv]
        dsimp only
        rw [List.drop_left, ← hM]
      · obtain rfl := Option.some.inj h
        unfold entL
        rw [List.append_assoc, klen_app _ _ hK (by
          intro d hd
          obtain rfl := Option.some.inj hd
          rfl), if_neg hne, List.drop_left, List.take_left]
        unfold valM
        rw [if_pos (show (61 :: u ++ z).head? = some 61 from rfl), List.cons_append, List.drop_one, List.tail_cons, mem_stp z hz h59 E.val u hm]
theorem ent_first (E : Ent) (t : List UInt8) (h : enT E = some t) : ∃ c r, t = c :: r ∧ c ≠ 32 ∧ c ≠ 9 := by
  unfold enT at h
  cases hm : memT E.val with
  | none => rw [hm] at h; cases h
  | some u =>
    rw [hm] at h
    dsimp only at h
    cases hK : keyL E.key with
    | false => rw [hK, if_pos rfl] at h; cases h
    | true =>
      rw [hK, if_neg (by decide)] at h
      obtain ⟨c, r, hKc, hb, _⟩ := key_cons E.key hK
      have h9 : c ≠ 9 := by
        rintro rfl
        revert hb
        decide
      rw [hKc] at h
      split at h
      all_goals
        obtain rfl := Option.some.inj h
        exact ⟨c, _, rfl, bk_not_space c hb, h9⟩

/-- Entries of unlike keys stay as they are. -/
theorem putE_new (acc : List Ent) (e : Ent) (h : e.key ∉ acc.map Ent.key) : putE acc e = acc ++ [e] := by
  unfold putE
  rw [if_neg]
  intro hlt
  exact h ((idxL_lt _ _).1 (by rw [List.length_map]; exact hlt))
theorem foldE_new : ∀ (es acc : List Ent), ((acc ++ es).map Ent.key).Nodup → es.foldl putE acc = acc ++ es
  | [], acc, _ => by simp
  | e :: es, acc, h => by
    have h1 : e.key ∉ acc.map Ent.key := by
      intro hm
      rw [List.map_append, List.nodup_append] at h
      exact h.2.2 _ hm _ (by simp) rfl
    rw [List.foldl_cons, putE_new acc e h1, foldE_new es (acc ++ [e]) (by simpa using h)]
    simp
/-- A printed dictionary is read as it. -/
theorem dict_back (es : List Ent) (a : List UInt8) (h : dcT es = some a) : dicL a = some es := by
  unfold dcT at h
  split at h
  · cases h
  · rename_i hk
    have hn : (es.map Ent.key).Nodup := by simpa [eqKE] using hk
    unfold dicL
    rw [sepL_text (fun x t z hx hz h59 => ent_stp z hz h59 x t hx) ent_first es a h, Option.map_some, oeK, foldE_new es [] (by simpa using hn), List.nil_append]

end Go.Proofs.YtjbipplaacgnkaaGreatDoor

namespace Go.Proofs.YtjbipplaacgnkaaGreatDoor
open Go.RowKit Go.Maps

theorem szIts_small : ∀ (xs : List Itm) (n : Nat), n + itmsz xs ≤ 90000 → szIts (n : Int) xs = ((n + itmsz xs : Nat) : Int)
  | [], n, _ => by simp [szIts, itmsz]
  | x :: xs, n, h => by
    have hs : itmsz (x :: xs) = szN x.ps + x.s.length + 1 + itmsz xs := rfl
    rw [hs] at h
    have h0 : szGo 0 x.ps = (szN x.ps : Int) := by
      have := szGo_small x.ps 0 (by omega)
      simpa using this
    have hi : szItem (n : Int) x = ((n + (szN x.ps + x.s.length + 1) : Nat) : Int) := by
      unfold szItem
      rw [h0, IntWalk.wrap64_in ((n : Int) + (szN x.ps : Int)) (by omega), IntWalk.wrap64_in ((n : Int) + (szN x.ps : Int) + (x.s.length : Int)) (by omega), IntWalk.wrap64_in ((n : Int) + (szN x.ps : Int) + (x.s.length : Int) + 1) (by omega)]
      omega
    rw [szIts, if_pos (by omega), hi, szIts_small xs (n + (szN x.ps + x.s.length + 1)) (by omega), hs]
    congr 1
    omega
theorem szMem_small (M : Mem) (h : memsz M ≤ 90000) : szMem M = (memsz M : Int) := by
  unfold memsz at h ⊢
  have h1 : szGo 0 M.ps = (szN M.ps : Int) := by simpa using szGo_small M.ps 0 (by omega)
  have h2 : szGo 0 M.it.ps = (szN M.it.ps : Int) := by simpa using szGo_small M.it.ps 0 (by omega)
  have hh : szHead M = ((szN M.ps + szN M.it.ps + M.it.s.length + 1 : Nat) : Int) := by
    unfold szHead
    rw [h1, h2, IntWalk.wrap64_in ((szN M.ps : Int) + (szN M.it.ps : Int)) (by omega), IntWalk.wrap64_in ((szN M.ps : Int) + (szN M.it.ps : Int) + (M.it.s.length : Int)) (by omega), IntWalk.wrap64_in ((szN M.ps : Int) + (szN M.it.ps : Int) + (M.it.s.length : Int) + 1) (by omega)]
    omega
  unfold szMem
  rw [hh, szIts_small M.its _ (by omega)]

end Go.Proofs.YtjbipplaacgnkaaGreatDoor

namespace Go.Proofs.YtjbipplaacgnkaaGreatDoor

theorem jn_all {α : Type} {f : α → Option (List UInt8)} {sep : List UInt8} : ∀ (xs : List α) (b : Bool), (∀ x ∈ xs, ∃ t, f x = some t) → ∃ a, jnGo f sep b xs = some a
  | [], _, _ => ⟨[], rfl⟩
  | x :: xs, b, h => by
    obtain ⟨t, ht⟩ := h x (by simp)
    obtain ⟨a, ha⟩ := jn_all (f := f) (sep := sep) xs false (fun y hy => h y (by simp [hy]))
    exact ⟨_, by rw [jnGo_some f sep b x xs t ht, ha] <;> rfl⟩
theorem ps_right (l : List UInt8) (ps : List Prm) (k : Nat) (h : psL l [] 0 = some (ps, k)) : ∃ u, ppT ps = some u := by
  obtain ⟨h1, h2, _⟩ := psL_right l.length l.length l [] 0 ps k (Nat.le_refl _) (Nat.le_refl _) (by simp) (fun p hp => by cases hp) h
  obtain ⟨u, hu⟩ := ppGo_right l.length ps h2
  refine ⟨u, ?_⟩
  unfold ppT
  rw [if_neg (by simpa [eqK] using h1)]
  exact hu
theorem itm_right (l : List UInt8) (g : Got) (ps : List Prm) (m : Nat) (h : itmL l = some (g, ps, m)) : 1 ≤ m ∧ ∃ u, itT ⟨g.k, g.n, g.s, ps⟩ = some u := by
  unfold itmL at h
  cases hr : readL l with
  | none => rw [hr] at h; cases h
  | some q =>
    rw [hr] at h
    dsimp only at h
    obtain ⟨r1, r2, _⟩ := readL_right l q hr
    cases hp : psL (l.drop q.m) [] 0 with
    | none => rw [hp] at h; cases h
    | some y =>
      obtain ⟨ps', k⟩ := y
      rw [hp] at h
      obtain ⟨u, hu⟩ := ps_right _ _ _ hp
      dsimp only at h
      obtain ⟨rfl, h2⟩ := Prod.mk.inj (Option.some.inj h)
      obtain ⟨rfl, rfl⟩ := Prod.mk.inj h2
      refine ⟨by omega, textL q.k q.n q.s ++ u, ?_⟩
      unfold itT prT
      dsimp only
      rw [if_pos r1, hu]
      rfl
theorem itmsz_app : ∀ (xs ys : List Itm), itmsz (xs ++ ys) = itmsz xs + itmsz ys
  | [], ys => by simp [itmsz]
  | x :: xs, ys => by rw [List.cons_append, itmsz, itmsz, itmsz_app xs ys]; omega
theorem itsF_right : ∀ (f : Nat) (l : List UInt8) (acc xs : List Itm) (r : List UInt8), (∀ x ∈ acc, ∃ u, itT x = some u) → itsF f l acc = some (xs, r) → (∀ x ∈ xs, ∃ u, itT x = some u) ∧ itmsz xs + 2 * r.length ≤ itmsz acc + 2 * l.length
  | 0, l, acc, xs, r, _, h => by cases h
  | f + 1, l, acc, xs, r, ha, h => by
    by_cases h41 : l.head? = some 41
    · rw [itsF_end f l acc h41] at h
      obtain ⟨rfl, rfl⟩ := Prod.mk.inj (Option.some.inj h)
      exact ⟨ha, by rw [List.length_drop]; omega⟩
    · cases hi : itmL l with
      | none => rw [itsF_none f l acc h41 hi] at h; cases h
      | some x =>
        obtain ⟨g, ps, m⟩ := x
        cases he : endI (l.drop m) with
        | false => rw [itsF_bad f l acc g ps m h41 hi he] at h; cases h
        | true =>
          rw [itsF_some f l acc g ps m h41 hi he] at h
          obtain ⟨i1, i2⟩ := itm_right l g ps m hi
          have i3 := itmL_used l g ps m hi
          have i4 := itmL_le l g ps m hi
          have i5 := spD_le (l.drop m)
          rw [List.length_drop] at i5
          obtain ⟨q1, q2⟩ := itsF_right f _ _ _ _ (by
            intro y hy
            rcases List.mem_append.1 hy with hy | hy
            · exact ha y hy
            · obtain rfl := List.mem_singleton.1 hy
              exact i2) h
          refine ⟨q1, ?_⟩
          have e : itmsz [(⟨g.k, g.n, g.s, ps⟩ : Itm)] = szN ps + g.s.length + 1 := by simp [itmsz]
          rw [itmsz_app, e] at q2
          omega
theorem inn_right (l : List UInt8) (M : Mem) (r : List UInt8) (h : innL l = some (M, r)) : (∃ t, memT M = some t) ∧ memsz M + 2 * r.length ≤ 2 * l.length + 2 := by
  unfold innL itsL at h
  cases hi : itsF (l.length + 1) (spD l) [] with
  | none => rw [hi] at h; cases h
  | some x =>
    obtain ⟨xs, q⟩ := x
    rw [hi] at h
    dsimp only at h
    obtain ⟨q1, q2⟩ := itsF_right _ _ _ _ _ (fun x hx => by cases hx) hi
    have q3 := spD_le l
    cases hp : psL q [] 0 with
    | none => rw [hp] at h; cases h
    | some y =>
      obtain ⟨ps, m⟩ := y
      rw [hp] at h
      obtain ⟨u, hu⟩ := ps_right _ _ _ hp
      have p1 := psL_used _ _ _ _ _ _ (Nat.le_refl _) hp
      have p2 := psL_le _ _ _ _ _ _ (Nat.le_refl _) hp
      have e0 : szN [] = 0 := rfl
      have e1 : itmsz [] = 0 := rfl
      obtain ⟨rfl, rfl⟩ := Prod.mk.inj (Option.some.inj h)
      refine ⟨?_, ?_⟩
      · obtain ⟨a, ha⟩ := jn_all (f := itT) (sep := [32]) xs true q1
        refine ⟨40 :: (a ++ 41 :: u), ?_⟩
        unfold memT
        rw [if_neg (by simp [kindL, sameI, noItm, (samePs_iff [] []).2 rfl]), if_neg (by simp), ha]
        dsimp only
        rw [hu]
      · have : memsz ⟨true, noItm, xs, ps⟩ = szN ps + szN [] + 0 + 1 + itmsz xs := rfl
        rw [this, List.length_drop]
        omega
theorem mem_right (l : List UInt8) (M : Mem) (r : List UInt8) (h : memL l = some (M, r)) : (∃ t, memT M = some t) ∧ memsz M + 2 * r.length ≤ 2 * l.length := by
  unfold memL at h
  split at h
  · rename_i h40
    obtain ⟨q1, q2⟩ := inn_right _ _ _ h
    refine ⟨q1, ?_⟩
    cases l with
    | nil => cases h40
    | cons c l =>
      rw [List.drop_one, List.tail_cons] at q2
      rw [List.length_cons]
      omega
  · cases hi : itmL l with
    | none => rw [hi] at h; cases h
    | some x =>
      obtain ⟨g, ps, m⟩ := x
      rw [hi] at h
      obtain ⟨i1, u, i2⟩ := itm_right l g ps m hi
      have i3 := itmL_used l g ps m hi
      have i4 := itmL_le l g ps m hi
      obtain ⟨rfl, rfl⟩ := Prod.mk.inj (Option.some.inj h)
      refine ⟨⟨u, ?_⟩, ?_⟩
      · unfold memT
        rw [if_neg (by simp [kindL]), if_pos rfl]
        exact i2
      · have : memsz ⟨false, ⟨g.k, g.n, g.s, ps⟩, [], []⟩ = szN [] + szN ps + g.s.length + 1 + 0 := rfl
        have e0 : szN [] = 0 := rfl
        rw [this, List.length_drop]
        omega

/-- About how much there is of an entry. -/
def entsz (E : Ent) : Nat := E.key.length + memsz E.val
theorem ent_right (l : List UInt8) (E : Ent) (r : List UInt8) (h : entL l = some (E, r)) : (∃ t, enT E = some t) ∧ entsz E + 2 * r.length ≤ 2 * l.length := by
  unfold entL at h
  split at h
  · cases h
  · rename_i hk0
    have hkl := klen_le l
    have hkey : keyL (l.take (klen l)) = true := keyL_take l hk0
    have key : ∀ (M : Mem) (r : List UInt8), (∃ t, memT M = some t) → memsz M + 2 * r.length ≤ 2 * (l.drop (klen l)).length + 1 → (∃ t, enT ⟨l.take (klen l), M⟩ = some t) ∧ entsz ⟨l.take (klen l), M⟩ + 2 * r.length ≤ 2 * l.length := by
      intro M r hM hs
      obtain ⟨t, ht⟩ := hM
      refine ⟨?_, ?_⟩
      · unfold enT
        dsimp only
        rw [ht]
        dsimp only
        rw [hkey, if_neg (by decide)]
        split
        · exact ⟨_, rfl⟩
        · exact ⟨_, rfl⟩
      · unfold entsz
        dsimp only
        rw [List.length_take]
        rw [List.length_drop] at hs
        omega
    cases hv : valM (l.drop (klen l)) with
    | none => rw [hv] at h; cases h
    | some x =>
      obtain ⟨M, q⟩ := x
      rw [hv] at h
      dsimp only at h
      obtain ⟨rfl, rfl⟩ := Prod.mk.inj (Option.some.inj h)
      unfold valM at hv
      split at hv
      · obtain ⟨q1, q2⟩ := mem_right _ _ _ hv
        refine key _ _ q1 ?_
        rw [List.length_drop] at q2
        omega
      · cases hp : psL (l.drop (klen l)) [] 0 with
        | none => rw [hp] at hv; cases hv
        | some y =>
          obtain ⟨ps, m⟩ := y
          rw [hp] at hv
          have p1 := psL_used _ _ _ _ _ _ (Nat.le_refl _) hp
          have p2 := psL_le _ _ _ _ _ _ (Nat.le_refl _) hp
          obtain ⟨u, hu⟩ := ps_right _ _ _ hp
          have e0 : szN [] = 0 := rfl
          obtain ⟨rfl, rfl⟩ := Prod.mk.inj (Option.some.inj hv)
          refine key _ _ ⟨textL 6 1 [] ++ u, ?_⟩ ?_
          · unfold memT
            rw [if_neg (by simp [kindL]), if_pos rfl]
            unfold itT prT
            dsimp only
            rw [if_pos (by kernel_rfl), hu]
            rfl
          · have : memsz ⟨false, ⟨6, 1, [], ps⟩, [], []⟩ = szN [] + szN ps + 0 + 1 + 0 := rfl
            rw [this, List.length_drop]
            omega

def entSum : List Ent → Nat
  | [] => 0
  | E :: Es => entsz E + entSum Es
theorem entSum_app : ∀ (xs ys : List Ent), entSum (xs ++ ys) = entSum xs + entSum ys
  | [], ys => by simp [entSum]
  | x :: xs, ys => by rw [List.cons_append, entSum, entSum, entSum_app xs ys]; omega
theorem entSum_set : ∀ (xs : List Ent) (i : Nat) (E : Ent), entSum (xs.set i E) ≤ entSum xs + entsz E
  | [], _, _ => by simp [entSum]
  | x :: xs, 0, E => by simp only [List.set_cons_zero, entSum]; omega
  | x :: xs, i + 1, E => by
    have := entSum_set xs i E
    simp only [List.set_cons_succ, entSum]
    omega
theorem sepE_sum : ∀ (f : Nat) (l : List UInt8) (acc xs : List Ent), sepF entL f l acc = some xs → entSum xs ≤ entSum acc + 2 * l.length
  | 0, l, acc, xs, h => by cases h
  | f + 1, l, acc, xs, h => by
    cases hr : entL l with
    | none => rw [sepF_none entL f l acc hr] at h; cases h
    | some x =>
      obtain ⟨E, r⟩ := x
      have hE := (ent_right l E r hr).2
      have e : entSum [E] = entsz E := by simp [entSum]
      by_cases hb : blD r = []
      · rw [sepF_end entL f l r acc E hr hb] at h
        obtain rfl := Option.some.inj h
        rw [entSum_app, e]
        omega
      · by_cases hc : (blD r).head? = some 44
        · rw [sepF_more entL f l r acc E hr hb hc] at h
          have h1 := blD_le r
          have h2 := blD_le ((blD r).drop 1)
          rw [List.length_drop] at h2
          have := sepE_sum f _ _ _ h
          rw [entSum_app, e] at this
          omega
        · rw [sepF_bad entL f l r acc E hr hb hc] at h; cases h
theorem putE_sum (acc : List Ent) (E : Ent) : entSum (putE acc E) ≤ entSum acc + entsz E := by
  unfold putE
  split
  · exact entSum_set _ _ _
  · rw [entSum_app]; simp [entSum]
theorem foldE_sum : ∀ (es acc : List Ent), entSum (es.foldl putE acc) ≤ entSum acc + entSum es
  | [], acc => by simp [entSum]
  | e :: es, acc => by
    have h1 := putE_sum acc e
    have h2 := foldE_sum es (putE acc e)
    rw [List.foldl_cons, entSum]
    omega
theorem putE_mem (acc : List Ent) (e x : Ent) (h : x ∈ putE acc e) : x = e ∨ x ∈ acc := by
  unfold putE at h
  split at h
  · exact (List.mem_or_eq_of_mem_set h).symm
  · rcases List.mem_append.1 h with h | h
    · exact .inr h
    · exact .inl (List.mem_singleton.1 h)
theorem foldE_mem : ∀ (es acc : List Ent) (x : Ent), x ∈ es.foldl putE acc → x ∈ es ∨ x ∈ acc
  | [], acc, x, h => .inr h
  | e :: es, acc, x, h => by
    rcases foldE_mem es _ x h with h | h
    · exact .inl (by simp [h])
    · rcases putE_mem acc e x h with h | h
      · exact .inl (by simp [h])
      · exact .inr h
theorem putE_nodup (acc : List Ent) (e : Ent) (h : (acc.map Ent.key).Nodup) : ((putE acc e).map Ent.key).Nodup := by
  by_cases hlt : idxL (acc.map Ent.key) e.key < acc.length
  · unfold putE
    rw [if_pos hlt, ekeys_set acc e _ rfl hlt]
    exact h
  · have hn : e.key ∉ acc.map Ent.key := fun hm => hlt (by have := (idxL_lt _ _).2 hm; rwa [List.length_map] at this)
    rw [putE_new acc e hn, List.map_append, List.nodup_append]
    refine ⟨h, by simp, ?_⟩
    intro a ha b hb hab
    obtain rfl : b = e.key := by simpa using hb
    exact hn (hab ▸ ha)
theorem foldE_nodup : ∀ (es acc : List Ent), (acc.map Ent.key).Nodup → ((es.foldl putE acc).map Ent.key).Nodup
  | [], _, h => h
  | e :: es, acc, h => foldE_nodup es _ (putE_nodup acc e h)

/-- A dictionary that is read may be printed; there is not much of it. -/
theorem dict_right (l : List UInt8) (es : List Ent) (h : dicL l = some es) : (∃ t, dcT es = some t) ∧ entSum es ≤ 2 * l.length := by
  unfold dicL at h
  cases hs : sepL entL l with
  | none => rw [hs] at h; cases h
  | some xs =>
    rw [hs] at h
    obtain rfl := Option.some.inj h
    have hsum : entSum xs ≤ 2 * l.length := by
      unfold sepL at hs
      split at hs
      · obtain rfl := Option.some.inj hs
        simp [entSum]
      · have h1 := sepE_sum _ _ _ _ hs
        have h2 := spD_le l
        have e : entSum [] = 0 := rfl
        omega
    have hall : ∀ x ∈ xs, ∃ t, enT x = some t := by
      unfold sepL at hs
      split at hs
      · obtain rfl := Option.some.inj hs
        intro x hx
        cases hx
      · exact sepF_all (P := fun E => ∃ t, enT E = some t) (N := l.length) (fun l M r _ hr => ⟨(ent_right l M r hr).1, entL_le _ _ _ hr⟩) _ _ _ _ (spD_le l) (by simp) hs
    refine ⟨?_, ?_⟩
    · obtain ⟨a, ha⟩ := jn_all (f := enT) (sep := [44, 32]) (oeK xs) true (fun x hx => by
        rcases foldE_mem xs [] x hx with h | h
        · exact hall x h
        · cases h)
      refine ⟨a, ?_⟩
      unfold dcT
      rw [if_neg (by
        have := foldE_nodup xs [] (by simp)
        unfold eqKE oeK
        rw [decide_eq_true this]
        decide)]
      exact ha
    · have := foldE_sum xs []
      have e : entSum [] = 0 := rfl
      unfold oeK
      omega

/-- How long what is printed is. -/
theorem itT_size (x : Itm) (t : List UInt8) (h : itT x = some t) : t.length ≤ 22 * (szN x.ps + x.s.length + 1) := by
  have := prT_len _ _ _ _ _ h
  omega
theorem jnI_size : ∀ (xs : List Itm) (b : Bool) (a : List UInt8), jnGo itT [32] b xs = some a → a.length ≤ 23 * itmsz xs
  | [], _, a, h => by
    obtain rfl := Option.some.inj h
    simp
  | x :: xs, b, a, h => by
    cases hx : itT x with
    | none => rw [jnGo_none itT [32] b x xs hx] at h; cases h
    | some t =>
      rw [jnGo_some itT [32] b x xs t hx] at h
      cases hb : jnGo itT [32] false xs with
      | none => rw [hb] at h; cases h
      | some c =>
        rw [hb] at h
        have h1 := jnI_size xs false c hb
        have h2 := itT_size x t hx
        obtain rfl := Option.some.inj h
        rw [itmsz, List.length_append]
        have : (if b = true then t else [32] ++ t).length ≤ t.length + 1 := by
          split
          · omega
          · rw [List.length_append, List.length_singleton]; omega
        omega
theorem memT_size (M : Mem) (t : List UInt8) (h : memT M = some t) : t.length ≤ 25 * memsz M := by
  have e : memsz M = szN M.ps + szN M.it.ps + M.it.s.length + 1 + itmsz M.its := rfl
  unfold memT at h
  split at h
  · cases h
  · split at h
    · have := itT_size _ _ h
      omega
    · split at h
      · cases h
      · rename_i a ha
        split at h
        · cases h
        · rename_i u hu
          obtain rfl := Option.some.inj h
          have h1 := jnI_size _ _ _ ha
          have h2 := ppGo_szN _ _ (ppT_some _ _ hu).2
          simp only [List.length_cons, List.length_append]
          omega
def memSum : List Mem → Nat
  | [] => 0
  | M :: Ms => memsz M + memSum Ms
theorem jnM_size : ∀ (xs : List Mem) (b : Bool) (a : List UInt8), jnGo memT [44, 32] b xs = some a → a.length ≤ 27 * memSum xs
  | [], _, a, h => by
    obtain rfl := Option.some.inj h
    simp
  | x :: xs, b, a, h => by
    cases hx : memT x with
    | none => rw [jnGo_none memT [44, 32] b x xs hx] at h; cases h
    | some t =>
      rw [jnGo_some memT [44, 32] b x xs t hx] at h
      cases hb : jnGo memT [44, 32] false xs with
      | none => rw [hb] at h; cases h
      | some c =>
        rw [hb] at h
        have h1 := jnM_size xs false c hb
        have h2 := memT_size x t hx
        obtain rfl := Option.some.inj h
        rw [memSum, List.length_append]
        have h3 : (if b = true then t else [44, 32] ++ t).length ≤ t.length + 2 := by
          split
          · omega
          · simp
        have h4 : 1 ≤ memsz x := by unfold memsz; omega
        omega
theorem enT_size (E : Ent) (t : List UInt8) (h : enT E = some t) : t.length ≤ 26 * entsz E := by
  have e : entsz E = E.key.length + memsz E.val := rfl
  have h1 : 1 ≤ memsz E.val := by unfold memsz; omega
  unfold enT at h
  cases hm : memT E.val with
  | none => rw [hm] at h; cases h
  | some u =>
    rw [hm] at h
    have h2 := memT_size _ _ hm
    dsimp only at h
    split at h
    · cases h
    · split at h
      · obtain rfl := Option.some.inj h
        rw [List.length_append, List.length_drop]
        omega
      · obtain rfl := Option.some.inj h
        rw [List.length_append, List.length_cons]
        omega
theorem jnE_size : ∀ (xs : List Ent) (b : Bool) (a : List UInt8), jnGo enT [44, 32] b xs = some a → a.length ≤ 28 * entSum xs
  | [], _, a, h => by
    obtain rfl := Option.some.inj h
    simp
  | x :: xs, b, a, h => by
    cases hx : enT x with
    | none => rw [jnGo_none enT [44, 32] b x xs hx] at h; cases h
    | some t =>
      rw [jnGo_some enT [44, 32] b x xs t hx] at h
      cases hb : jnGo enT [44, 32] false xs with
      | none => rw [hb] at h; cases h
      | some c =>
        rw [hb] at h
        have h1 := jnE_size xs false c hb
        have h2 := enT_size x t hx
        obtain rfl := Option.some.inj h
        rw [entSum, List.length_append]
        have h3 : (if b = true then t else [44, 32] ++ t).length ≤ t.length + 2 := by
          split
          · omega
          · simp
        have h4 : 1 ≤ entsz x := by unfold entsz memsz; omega
        omega
theorem dcT_size (es : List Ent) (t : List UInt8) (h : dcT es = some t) : t.length ≤ 28 * entSum es := by
  unfold dcT at h
  split at h
  · cases h
  · exact jnE_size _ _ _ h

end Go.Proofs.YtjbipplaacgnkaaGreatDoor
