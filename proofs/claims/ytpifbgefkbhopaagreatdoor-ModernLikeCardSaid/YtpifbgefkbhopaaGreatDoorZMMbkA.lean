/- Plain: what is printed of members and of entries is read as these, whatever stops it behind. · Rows that lie, as lists of cells; what a store elsewhere keeps. · The contracts of slices.EqualFunc at items, and of members.Same. · The contracts of slices.Clone at parameters and at items, and of members.itemCopy. · The contract of members.Same. · The contract of members.memberCopy. · The contract of members.Get. · The contracts of the document's Size and Same of members (sculleryref04), and of the law's sameList. -/
import Derived.Test.YtpifbgefkbhopaaGreatDoorZMMemC
import Derived.Test.YtpifbgefkbhopaaGreatDoorZMItmC
import Derived.Test.YtpifbgefkbhopaaGreatDoorZMItmR
import Derived.Lib.SliceRun
import Derived.Deep.RegionWith

namespace Go.Proofs.YtpifbgefkbhopaaGreatDoor

/-- What may stand behind parameters: nothing, a semicolon, a comma, a space, a closing bracket. -/
def stp : List UInt8 → Bool
  | [] => true
  | c :: _ => c == 59 || c == 44 || c == 41 || c == 32
theorem stp_all {P : UInt8 → Bool} (h59 : P 59 = true) (h44 : P 44 = true) (h41 : P 41 = true) (h32 : P 32 = true) (c : UInt8) (r : List UInt8) (h : stp (c :: r) = true) : P c = true := by
  simp only [stp, Bool.or_eq_true, beq_iff_eq] at h
  rcases h with ((rfl | rfl) | rfl) | rfl <;> assumption
theorem stp_ends (t : List UInt8) (h : stp t = true) : ends t = true := by
  cases t with
  | nil => rfl
  | cons c r => exact stp_all (P := fun c => !ttI c.toNat) rfl rfl rfl rfl c r h
theorem stp_key (t : List UInt8) (h : stp t = true) : ∀ c, t.head? = some c → ikI c.toNat = false := by
  cases t with
  | nil => intro c hc; cases hc
  | cons c r =>
    intro d hd
    obtain rfl := Option.some.inj hd
    have := stp_all (P := fun c => !ikI c.toNat) rfl rfl rfl rfl c r h
    simpa using this
theorem stp_not_eq (t : List UInt8) (h : stp t = true) : t.head? ≠ some 61 := by
  cases t with
  | nil => simp
  | cons c r =>
    have := stp_all (P := fun c => !(c == 61)) rfl rfl rfl rfl c r h
    simpa using this
theorem semi_stp (u z : List UInt8) (h : semi u = true) (hz : stp z = true) : stp (u ++ z) = true := by
  cases u with
  | nil => exact hz
  | cons c r =>
    have : c = 59 := by simpa [semi] using h
    subst this
    rfl

theorem parL_stp (p : Prm) (u t : List UInt8) (h : pmT p = some u) (ht : stp t = true) : ∃ v, u = 59 :: v ∧ parL (v ++ t) = some (p, v.length) := by
  cases h1 : rightL p.k p.n p.s with
  | false => rw [pmT_none p (.inl h1)] at h; cases h
  | true =>
    cases h2 : keyL p.key with
    | false => rw [pmT_none p (.inr h2)] at h; cases h
    | true =>
      obtain ⟨c, r, hK, hb, hr⟩ := key_cons p.key h2
      have hsp : ∀ z : List UInt8, spcL (p.key ++ z) = 0 := fun z => spc_zero _ (by
        rw [hK]
        intro d hd
        obtain rfl := Option.some.inj hd
        exact bk_not_space _ hb)
      have hne : ¬ p.key.length = 0 := by rw [hK]; simp
      by_cases h3 : p.k = 6 ∧ p.n = 1
      · rw [pmT_one p h1 h2 h3] at h
        obtain rfl := Option.some.inj h
        refine ⟨p.key, rfl, ?_⟩
        have hs : p.s = [] := by
          rcases right_kind _ _ _ h1 with ⟨_, g, _⟩ | ⟨_, g, _⟩ | ⟨g, _⟩ | ⟨g, _⟩ | ⟨g, _⟩
          · exact g
          · exact g
          all_goals exfalso; have := h3.1; omega
        rw [parL, hsp, List.drop_zero, klen_app _ _ h2 (stp_key t ht), if_neg hne, Nat.zero_add, List.drop_left, if_neg (stp_not_eq t ht), List.take_left]
        obtain ⟨a, b, c, d⟩ := p
        obtain ⟨g1, g2⟩ := h3
        subst g1 g2 hs
        rfl
      · rw [pmT_all p h1 h2 h3] at h
        obtain rfl := Option.some.inj h
        refine ⟨p.key ++ 61 :: textL p.k p.n p.s, rfl, ?_⟩
        rw [List.append_assoc, List.cons_append]
        have hk : klen (p.key ++ 61 :: (textL p.k p.n p.s ++ t)) = p.key.length := klen_app _ _ h2 (by
          intro d hd
          obtain rfl := Option.some.inj hd
          rfl)
        rw [parL, hsp, List.drop_zero, hk, if_neg hne, Nat.zero_add, List.drop_left, if_pos List.head?_cons, ← List.drop_drop, List.drop_left, List.drop_one, List.tail_cons, readL_text _ _ _ _ h1 (stp_ends t ht), List.take_left]
        show some (_, _) = some (_, _)
        rw [List.length_append, List.length_cons]
        congr 2
        show p.key.length + 1 + (textL p.k p.n p.s).length = p.key.length + ((textL p.k p.n p.s).length + 1)
        omega
theorem psL_stp (z : List UInt8) (hz : stp z = true) (h59 : z.head? ≠ some 59) : ∀ (ps : List Prm) (u : List UInt8) (acc : List Prm) (m : Nat), ppGo ps = some u → psL (u ++ z) acc m = some (ps.foldl putL acc, m + u.length)
  | [], u, acc, m, h => by
    obtain rfl := Option.some.inj h
    rw [psL_end _ _ _ (by simpa using h59)] <;> rfl
  | p :: ps, u, acc, m, h => by
    cases hp : pmT p with
    | none => rw [ppGo_none _ _ hp] at h; cases h
    | some w =>
      rw [ppGo_some _ _ _ hp] at h
      cases hq : ppGo ps with
      | none => rw [hq] at h; cases h
      | some y =>
        rw [hq] at h
        obtain rfl := Option.some.inj h
        obtain ⟨v, rfl, hv⟩ := parL_stp p w (y ++ z) hp (semi_stp _ _ (ppGo_semi ps y hq) hz)
        have hd : (59 :: v ++ y ++ z).drop (1 + v.length) = y ++ z := by
          rw [Nat.add_comm, List.append_assoc, List.cons_append, List.drop_succ_cons, List.drop_left]
        rw [psL_some (59 :: v ++ y ++ z) acc m p v.length rfl (by rw [List.append_assoc]; exact hv), hd, psL_stp z hz h59 ps y _ _ hq, List.foldl_cons]
        congr 2
        simp only [List.length_append, List.length_cons]
        omega
theorem ppT_stp (z : List UInt8) (hz : stp z = true) (h59 : z.head? ≠ some 59) (ps : List Prm) (u : List UInt8) (h : ppT ps = some u) : psL (u ++ z) [] 0 = some (ps, u.length) := by
  obtain ⟨hn, hg⟩ := ppT_some ps u h
  rw [psL_stp z hz h59 ps u [] 0 hg, fold_new ps [] (by simpa using hn), List.nil_append, Nat.zero_add]

/-- What is printed of an item is read. -/
theorem itm_stp (z : List UInt8) (hz : stp z = true) (h59 : z.head? ≠ some 59) (x : Itm) (t : List UInt8) (h : itT x = some t) : ∃ g : Got, itmL (t ++ z) = some (g, x.ps, t.length) ∧ (⟨g.k, g.n, g.s, x.ps⟩ : Itm) = x := by
  obtain ⟨hr, hn, v, hv, rfl⟩ := prT_some _ _ _ _ _ h
  refine ⟨⟨x.k, x.n, x.s, (textL x.k x.n x.s).length⟩, ?_, rfl⟩
  rw [List.append_assoc, itmL, readL_text _ _ _ _ hr (stp_ends _ (semi_stp _ _ (ppGo_semi _ v hv) hz))]
  dsimp only
  rw [List.drop_left, psL_stp z hz h59 _ v [] 0 hv, fold_new x.ps [] (by simpa using hn)]
  dsimp only
  rw [List.length_append, Nat.zero_add, List.nil_append]
/-- The first byte of an item's text. -/
theorem itm_first (x : Itm) (t : List UInt8) (h : itT x = some t) : ∃ c r, t = c :: r ∧ c ≠ 32 ∧ c ≠ 9 ∧ c ≠ 40 ∧ c ≠ 41 := by
  obtain ⟨g, hg, _⟩ := itm_stp [] rfl (by simp) x t h
  rw [List.append_nil] at hg
  cases t with
  | nil => cases hg
  | cons c r =>
    refine ⟨c, r, rfl, ?_, ?_, ?_, ?_⟩
    all_goals
      rintro rfl
      cases hg

theorem spD_first (c : UInt8) (r : List UInt8) (h : c ≠ 32) : spD (c :: r) = c :: r := by
  unfold spD
  rw [List.dropWhile_cons_of_neg (by simpa using h)]
theorem blD_first (c : UInt8) (r : List UInt8) (h : c ≠ 32) (h9 : c ≠ 9) : blD (c :: r) = c :: r := by
  unfold blD
  rw [List.dropWhile_cons_of_neg (by simp [h, h9])]
theorem jn_cons {α : Type} {f : α → Option (List UInt8)} {sep : List UInt8} {x : α} {xs : List α} {a : List UInt8} (h : jnGo f sep true (x :: xs) = some a) : ∃ t b, f x = some t ∧ jnGo f sep false xs = some b ∧ a = t ++ b := by
  cases hx : f x with
  | none => rw [jnGo_none f sep true x xs hx] at h; cases h
  | some t =>
    rw [jnGo_some f sep true x xs t hx] at h
    cases hb : jnGo f sep false xs with
    | none => rw [hb] at h; cases h
    | some b =>
      rw [hb] at h
      exact ⟨t, b, rfl, rfl, (Option.some.inj h).symm⟩
theorem jn_false {α : Type} {f : α → Option (List UInt8)} {sep : List UInt8} {x : α} {xs : List α} {b : List UInt8} (h : jnGo f sep false (x :: xs) = some b) : ∃ a, jnGo f sep true (x :: xs) = some a ∧ b = sep ++ a := by
  cases hx : f x with
  | none => rw [jnGo_none f sep false x xs hx] at h; cases h
  | some t =>
    rw [jnGo_some f sep false x xs t hx] at h
    rw [jnGo_some f sep true x xs t hx]
    cases hb : jnGo f sep false xs with
    | none => rw [hb] at h; cases h
    | some c =>
      rw [hb] at h
      exact ⟨_, rfl, by rw [← Option.some.inj h]; simp⟩

/-- Items' texts, with a space between, in front of a bracket. -/
theorem itsF_text (z : List UInt8) : ∀ (xs : List Itm) (x : Itm) (a : List UInt8) (acc : List Itm) (f : Nat), xs.length + 2 ≤ f → jnGo itT [32] true (x :: xs) = some a → itsF f (a ++ 41 :: z) acc = some (acc ++ x :: xs, z)
  | [], x, a, acc, f, hf, h => by
    obtain ⟨f, rfl⟩ : ∃ g, f = g + 2 := ⟨f - 2, by simp at hf; omega⟩
    obtain ⟨t, b, hx, hb, rfl⟩ := jn_cons h
    obtain rfl := Option.some.inj hb
    obtain ⟨g, hg, hgx⟩ := itm_stp (41 :: z) rfl (by simp) x t hx
    obtain ⟨c, r, hc, _, _, _, h41⟩ := itm_first x t hx
    rw [List.append_nil, itsF_some (f + 1) _ acc g x.ps _ (by rw [hc]; simpa using h41) hg (by rw [List.drop_left] <;> rfl), List.drop_left, spD_first _ _ (by decide), itsF_end _ _ _ rfl, hgx]
    rfl
  | y :: ys, x, a, acc, f, hf, h => by
    obtain ⟨f, rfl⟩ : ∃ g, f = g + 1 := ⟨f - 1, by simp at hf; omega⟩
    obtain ⟨t, b, hx, hb, rfl⟩ := jn_cons h
    obtain ⟨d, hd, rfl⟩ := jn_false hb
    obtain ⟨g, hg, hgx⟩ := itm_stp (32 :: (d ++ 41 :: z)) rfl (by simp) x t hx
    obtain ⟨c, r, hc, _, _, _, h41⟩ := itm_first x t hx
    obtain ⟨t2, b2, hy, _, hd2⟩ := jn_cons hd
    obtain ⟨c2, r2, hc2, h32, _⟩ := itm_first y t2 hy
    have hs : spD (32 :: (d ++ 41 :: z)) = d ++ 41 :: z := by
      show spD (d ++ 41 :: z) = _
      rw [hd2, hc2]
      exact spD_first _ _ h32
    have e : t ++ ([32] ++ d) ++ 41 :: z = t ++ 32 :: (d ++ 41 :: z) := by simp
    rw [e, itsF_some f _ acc g x.ps _ (by rw [hc]; simpa using h41) hg (by rw [List.drop_left] <;> rfl), List.drop_left, hs, itsF_text z ys y d _ f (by simp at hf ⊢; omega) hd, hgx]
    simp
theorem jn_len {α : Type} {f : α → Option (List UInt8)} {sep : List UInt8} (hf : ∀ x t, f x = some t → 1 ≤ t.length) : ∀ (xs : List α) (b : Bool) (a : List UInt8), jnGo f sep b xs = some a → xs.length ≤ a.length
  | [], _, _, _ => Nat.zero_le _
  | x :: xs, b, a, h => by
    cases hx : f x with
    | none => rw [jnGo_none f sep b x xs hx] at h; cases h
    | some t =>
      rw [jnGo_some f sep b x xs t hx] at h
      cases hb : jnGo f sep false xs with
      | none => rw [hb] at h; cases h
      | some c =>
        rw [hb] at h
        have := jn_len hf xs false c hb
        have ht := hf x t hx
        obtain rfl := Option.some.inj h
        rw [List.length_cons, List.length_append]
        have : t.length ≤ (if b = true then t else sep ++ t).length := by
          split
          · exact Nat.le_refl _
          · rw [List.length_append]; omega
        omega
theorem itT_pos (x : Itm) (t : List UInt8) (h : itT x = some t) : 1 ≤ t.length := by
  obtain ⟨c, r, rfl, _⟩ := itm_first x t h
  simp
theorem itsL_text (z : List UInt8) (xs : List Itm) (a : List UInt8) (h : jnGo itT [32] true xs = some a) : itsL (a ++ 41 :: z) = some (xs, z) := by
  unfold itsL
  cases xs with
  | nil =>
    obtain rfl := Option.some.inj h
    rw [List.nil_append, spD_first _ _ (by decide), itsF_end _ _ _ rfl]
    rfl
  | cons x xs =>
    obtain ⟨t, b, hx, _, ha⟩ := jn_cons h
    obtain ⟨c, r, hc, h32, _⟩ := itm_first x t hx
    have hs : spD (a ++ 41 :: z) = a ++ 41 :: z := by
      rw [ha, hc]
      exact spD_first _ _ h32
    have hl := jn_len itT_pos _ _ _ h
    rw [hs, itsF_text z xs x a [] _ (by simp at hl ⊢; omega) h, List.nil_append]

theorem kind_in (M : Mem) (h : kindL M = true) (hi : M.inner = true) : M.it = noItm := by
  unfold kindL at h
  rw [if_pos hi] at h
  simp only [sameI, Bool.and_eq_true, beq_iff_eq] at h
  obtain ⟨⟨h1, h2, h3⟩, h4⟩ := h
  have h5 := (samePs_iff _ _).1 h4
  rw [Lib.toList_data, Lib.toList_data, strB_data, strB_data] at h3
  obtain ⟨b, ⟨k, n, s, ps⟩, its, qs⟩ := M
  simp only at h1 h2 h3 h5
  subst h1 h2 h3 h5
  rfl
theorem kind_out (M : Mem) (h : kindL M = true) (hi : M.inner = false) : M.its = [] ∧ M.ps = [] := by
  unfold kindL at h
  rw [if_neg (by rw [hi]; decide)] at h
  simpa using h

/-- What is printed of a member is read. -/
theorem mem_stp (z : List UInt8) (hz : stp z = true) (h59 : z.head? ≠ some 59) (M : Mem) (t : List UInt8) (h : memT M = some t) : memL (t ++ z) = some (M, z) := by
  unfold memT at h
  cases hk : kindL M with
  | false => rw [hk, if_pos rfl] at h; cases h
  | true =>
    rw [hk, if_neg (by decide)] at h
    cases hi : M.inner with
    | false =>
      rw [hi, if_pos rfl] at h
      obtain ⟨g, hg, hgx⟩ := itm_stp z hz h59 M.it t h
      obtain ⟨c, r, hc, _, _, h40, _⟩ := itm_first M.it t h
      obtain ⟨e1, e2⟩ := kind_out M hk hi
      unfold memL
      rw [if_neg (by rw [hc]; simpa using h40), hg]
      dsimp only
      rw [hgx, List.drop_left]
      obtain ⟨b, it, its, qs⟩ := M
      simp only at e1 e2 hi
      subst e1 e2 hi
      rfl
    | true =>
      rw [hi, if_neg (by decide)] at h
      cases ha : jnGo itT [32] true M.its with
      | none => rw [ha] at h; cases h
      | some a =>
        rw [ha] at h
        cases hb : ppT M.ps with
        | none => rw [hb] at h; cases h
        | some b =>
          rw [hb] at h
          obtain rfl := Option.some.inj h
          have e1 := kind_in M hk hi
          unfold memL
          rw [if_pos (by rfl)]
          have e : ((40 : UInt8) :: (a ++ 41 :: b) ++ z).drop 1 = a ++ 41 :: (b ++ z) := by simp
          unfold innL
          rw [e, itsL_text (b ++ z) M.its a ha]
          dsimp only
          rw [ppT_stp z hz h59 M.ps b hb]
          dsimp only
          rw [List.drop_left]
          obtain ⟨i, it, its, qs⟩ := M
          simp only at e1 hi
          subst e1 hi
          rfl
theorem mem_first (M : Mem) (t : List UInt8) (h : memT M = some t) : ∃ c r, t = c :: r ∧ c ≠ 32 ∧ c ≠ 9 := by
  unfold memT at h
  split at h
  · cases h
  · split at h
    · obtain ⟨c, r, hc, h1, h2, _⟩ := itm_first M.it t h
      exact ⟨c, r, hc, h1, h2⟩
    · split at h
      · cases h
      · split at h
        · cases h
        · exact ⟨40, _, (Option.some.inj h).symm, by decide, by decide⟩

variable {α : Type}
/-- What is printed with commas between is read part by part. -/
theorem sepF_text {f : α → Option (List UInt8)} {read : List UInt8 → Option (α × List UInt8)} (hread : ∀ x t z, f x = some t → stp z = true → z.head? ≠ some 59 → read (t ++ z) = some (x, z)) (hfirst : ∀ x t, f x = some t → ∃ c r, t = c :: r ∧ c ≠ 32 ∧ c ≠ 9) :
    ∀ (xs : List α) (x : α) (a : List UInt8) (acc : List α) (n : Nat), xs.length + 1 ≤ n → jnGo f [44, 32] true (x :: xs) = some a → sepF read n a acc = some (acc ++ x :: xs)
  | [], x, a, acc, n, hn, h => by
    obtain ⟨n, rfl⟩ : ∃ m, n = m + 1 := ⟨n - 1, by simp at hn; omega⟩
    obtain ⟨t, b, hx, hb, rfl⟩ := jn_cons h
    obtain rfl := Option.some.inj hb
    rw [sepF_end read n _ [] acc x (hread x t [] hx rfl (by simp)) rfl]
  | y :: ys, x, a, acc, n, hn, h => by
    obtain ⟨n, rfl⟩ : ∃ m, n = m + 1 := ⟨n - 1, by simp at hn; omega⟩
    obtain ⟨t, b, hx, hb, rfl⟩ := jn_cons h
    obtain ⟨d, hd, rfl⟩ := jn_false hb
    obtain ⟨t2, b2, hy, _, hd2⟩ := jn_cons hd
    obtain ⟨c2, r2, hc2, h32, h9⟩ := hfirst y t2 hy
    have hs : blD (32 :: d) = d := by
      show blD d = _
      rw [hd2, hc2]
      exact blD_first _ _ h32 h9
    show sepF read (n + 1) (t ++ 44 :: 32 :: d) acc = _
    rw [sepF_more read n _ (44 :: 32 :: d) acc x (hread x t _ hx rfl (by simp)) (by rw [blD_first _ _ (by decide) (by decide)]; simp) (by rw [blD_first _ _ (by decide) (by decide)] <;> rfl), blD_first _ _ (by decide) (by decide)]
    show sepF read n (blD (32 :: d)) _ = _
    rw [hs, sepF_text hread hfirst ys y d _ n (by simp at hn ⊢; omega) hd]
    simp
theorem sepL_text {f : α → Option (List UInt8)} {read : List UInt8 → Option (α × List UInt8)} (hread : ∀ x t z, f x = some t → stp z = true → z.head? ≠ some 59 → read (t ++ z) = some (x, z)) (hfirst : ∀ x t, f x = some t → ∃ c r, t = c :: r ∧ c ≠ 32 ∧ c ≠ 9)
    (xs : List α) (a : List UInt8) (h : jnGo f [44, 32] true xs = some a) : sepL read a = some xs := by
  unfold sepL
  cases xs with
  | nil =>
    obtain rfl := Option.some.inj h
    exact if_pos (show spD [] = [] from rfl)
  | cons x xs =>
    obtain ⟨t, b, hx, _, ha⟩ := jn_cons h
    obtain ⟨c, r, hc, h32, _⟩ := hfirst x t hx
    have hs : spD a = a := by
      rw [ha, hc]
      exact spD_first _ _ h32
    have hl := jn_len (fun x t hx => by obtain ⟨c, r, rfl, _⟩ := hfirst x t hx; simp) _ _ _ h
    rw [hs, if_neg (by rw [ha, hc]; simp), sepF_text hread hfirst xs x a [] _ (by simp at hl ⊢; omega) h, List.nil_append]
/-- A printed list is read as it. -/
theorem list_back (xs : List Mem) (a : List UInt8) (h : lsT xs = some a) : sepL memL a = some xs :=
  sepL_text (fun x t z hx hz h59 => mem_stp z hz h59 x t hx) mem_first xs a h

theorem readL_one (r : List UInt8) : readL (63 :: 49 :: r) = some ⟨6, 1, [], 2⟩ := rfl
/-- Only the Boolean 1 alone begins as it. -/
theorem bool_text (M : Mem) (t : List UInt8) (h : memT M = some t) (hp : Lib.hasPrefix t [63, 49] = true) : ∃ u, t = 63 :: 49 :: u ∧ M = ⟨false, ⟨6, 1, [], M.it.ps⟩, [], []⟩ ∧ ppT M.it.ps = some u := by
  obtain ⟨u, hu⟩ := List.isPrefixOf_iff_prefix.1 hp
  have hu : t = 63 :: 49 :: u := hu.symm
  unfold memT at h
  cases hk : kindL M with
  | false => rw [hk, if_pos rfl] at h; cases h
  | true =>
    rw [hk, if_neg (by decide)] at h
    cases hi : M.inner with
    | false =>
      rw [hi, if_pos rfl] at h
      obtain ⟨e1, e2⟩ := kind_out M hk hi
      obtain ⟨hr, hn, v, hv, e⟩ := prT_some _ _ _ _ _ h
      have h1 := readL_text _ _ _ _ hr (stp_ends v (by have := semi_stp v [] (ppGo_semi _ v hv) rfl; rwa [List.append_nil] at this))
      rw [← e, hu, readL_one] at h1
      obtain ⟨g1, g2, g3, g4⟩ := Got.mk.inj (Option.some.inj h1)
      have h5 : textL M.it.k M.it.n M.it.s = [63, 49] := by
        have := congrArg (List.take 2) (e.symm.trans hu)
        rw [g4, List.take_left] at this
        exact this.trans (by rw [← g4] <;> rfl)
      have h6 : v = u := by
        have := congrArg (List.drop 2) (e.symm.trans hu)
        rw [g4, List.drop_left] at this
        exact this.trans (by rw [← g4] <;> rfl)
      refine ⟨u, hu, ?_, ?_⟩
      · obtain ⟨b, ⟨k, n, s, ps⟩, its, qs⟩ := M
        simp only at e1 e2 hi g1 g2 g3
        subst e1 e2 hi g1 g2 g3
        rfl
      · rw [← h6]
        unfold ppT
        rw [if_neg (by simpa [eqK] using hn)]
        exact hv
    | true =>
      rw [hi, if_neg (by decide)] at h
      split at h
      · cases h
      · split at h
        · cases h
        · rw [hu] at h
          cases h
/-- What is printed of an entry is read. -/
theorem ent_stp (z : List UInt8) (hz : stp z = true) (h59 : z.head? ≠ some 59) (E : Ent) (t : List UInt8) (h : enT E = some t) : entL (t ++ z) = some (E, z) := by
  unfold enT at h
  cases hm : memT E.val with
  | none => rw [hm] at h; cases h
  | some u =>
    rw [hm] at h
    dsimp only at h
    cases hK : keyL E.key with
    | false => rw [hK, if_pos rfl] at h; cases h
    | true =>
      rw [hK, if_neg (by decide)] at h
      obtain ⟨c, r, hKc, _, _⟩ := key_cons E.key hK
      have hne : ¬ E.key.length = 0 := by rw [hKc]; simp
      split at h
      · rename_i hp
        obtain ⟨v, rfl, hM, hv⟩ := bool_text E.val u hm hp
        obtain rfl := Option.some.inj h
        have hs := semi_stp v z (ppGo_semi _ v (ppT_some _ _ hv).2) hz
        unfold entL
        rw [List.drop_succ_cons, List.drop_succ_cons, List.drop_zero, List.append_assoc, klen_app _ _ hK (stp_key _ hs), if_neg hne, List.drop_left, List.take_left]
        unfold valM
        rw [if_neg (stp_not_eq _ hs), ppT_stp z hz h59 _ v hv]
        dsimp only
        rw [List.drop_left, ← hM]
      · obtain rfl := Option.some.inj h
        unfold entL
        rw [List.append_assoc, klen_app _ _ hK (by
          intro d hd
          obtain rfl := Option.some.inj hd
          rfl), if_neg hne, List.drop_left, List.take_left]
        unfold valM
        rw [if_pos (show (61 :: u ++ z).head? = some 61 from rfl), List.cons_append, List.drop_one, List.tail_cons, mem_stp z hz h59 E.val u hm]
theorem ent_first (E : Ent) (t : List UInt8) (h : enT E = some t) : ∃ c r, t = c :: r ∧ c ≠ 32 ∧ c ≠ 9 := by
  unfold enT at h
  cases hm : memT E.val with
  | none => rw [hm] at h; cases h
  | some u =>
    rw [hm] at h
    dsimp only at h
    cases hK : keyL E.key with
    | false => rw [hK, if_pos rfl] at h; cases h
    | true =>
      rw [hK, if_neg (by decide)] at h
      obtain ⟨c, r, hKc, hb, _⟩ := key_cons E.key hK
      have h9 : c ≠ 9 := by
        rintro rfl
        revert hb
        decide
      rw [hKc] at h
      split at h
      all_goals
        obtain rfl := Option.some.inj h
        exact ⟨c, _, rfl, bk_not_space c hb, h9⟩

/-- Entries of unlike keys stay as they are. -/
theorem putE_new (acc : List Ent) (e : Ent) (h : e.key ∉ acc.map Ent.key) : putE acc e = acc ++ [e] := by
  unfold putE
  rw [if_neg]
  intro hlt
  exact h ((idxL_lt _ _).1 (by rw [List.length_map]; exact hlt))
theorem foldE_new : ∀ (es acc : List Ent), ((acc ++ es).map Ent.key).Nodup → es.foldl putE acc = acc ++ es
  | [], acc, _ => by simp
  | e :: es, acc, h => by
    have h1 : e.key ∉ acc.map Ent.key := by
      intro hm
      rw [List.map_append, List.nodup_append] at h
      exact h.2.2 _ hm _ (by simp) rfl
    rw [List.foldl_cons, putE_new acc e h1, foldE_new es (acc ++ [e]) (by simpa using h)]
    simp
/-- A printed dictionary is read as it. -/
theorem dict_back (es : List Ent) (a : List UInt8) (h : dcT es = some a) : dicL a = some es := by
  unfold dcT at h
  split at h
  · cases h
  · rename_i hk
    have hn : (es.map Ent.key).Nodup := by simpa [eqKE] using hk
    unfold dicL
    rw [sepL_text (fun x t z hx hz h59 => ent_stp z hz h59 x t hx) ent_first es a h, Option.map_some, oeK, foldE_new es [] (by simpa using hn), List.nil_append]

end Go.Proofs.YtpifbgefkbhopaaGreatDoor

namespace Go.Proofs.YtpifbgefkbhopaaGreatDoor
open Go.RowKit Go.Maps
variable {α β : Type}

theorem rowG_len (R : Rowing α β) : ∀ l : List (α × β), (rowG R l).length = l.length * R.size
  | [] => by simp [rowG]
  | (x, u) :: l => by
    rw [rowG, List.length_append, R.len, rowG_len R l, List.length_cons, Nat.add_mul, Nat.one_mul, Nat.add_comm]
/-- A row that lies, as the list of its cells. -/
theorem GOff.rows {R : Rowing α β} {lo : Nat} {blk : Option Nat} {w : World} {v : Value} {xs : List α} (hsz : 0 < R.size) (h : GOff R lo blk w v xs) :
    ∃ ao cap, ∃ us : List β, v = .slice ao xs.length cap ∧ us.length = xs.length ∧ (∀ (j : Nat) (u : β) (x : α), us[j]? = some u → xs[j]? = some x → R.F lo blk w x u) ∧
      (xs = [] ∨ ∃ b off, ao = some ⟨b, off, none⟩ ∧ lo ≤ b ∧ some b ≠ blk ∧ b < w.heap.size ∧ ∀ j u, (rowG R (xs.zip us))[j]? = some u → w.cell? ⟨b, off + j, none⟩ = some u) := by
  obtain ⟨ao, cap, hv, hc⟩ := h
  by_cases hx : xs = []
  · subst hx
    exact ⟨ao, cap, [], hv, rfl, fun j u x hu => by simp at hu, .inl rfl⟩
  · rcases hc with hc | ⟨b, off, h1, h0, h2, h3, h4⟩
    · exact absurd hc hx
    · have hch : ∀ i : Fin xs.length, ∃ u, (∀ k, k < R.size → w.cell? ⟨b, off + i.val * R.size + k, none⟩ = (R.cells xs[i.val] u)[k]?) ∧ R.F lo blk w xs[i.val] u := fun i => h4 i.val xs[i.val] (List.getElem?_eq_getElem i.isLt)
      obtain ⟨f, hf⟩ := Classical.axiomOfChoice hch
      refine ⟨ao, cap, List.ofFn f, hv, List.length_ofFn, ?_, .inr ⟨b, off, h1, h0, h2, h3, ?_⟩⟩
      · intro j u x hu hx
        have hj := (List.getElem?_eq_some_iff.1 hx).1
        rw [List.getElem?_eq_getElem hj] at hx
        obtain rfl := Option.some.inj hx
        rw [List.getElem?_ofFn, dif_pos hj] at hu
        obtain rfl := Option.some.inj hu
        exact (hf ⟨j, hj⟩).2
      · intro j u hu
        have hlt := (List.getElem?_eq_some_iff.1 hu).1
        rw [rowG_len, List.length_zip, List.length_ofFn, Nat.min_self] at hlt
        have hi : j / R.size < xs.length := Nat.div_lt_of_lt_mul (by rw [Nat.mul_comm]; exact hlt)
        have hm : j % R.size < R.size := Nat.mod_lt _ hsz
        have hjj : j = j / R.size * R.size + j % R.size := by rw [Nat.mul_comm]; exact (Nat.div_add_mod j R.size).symm
        have hz : (xs.zip (List.ofFn f))[j / R.size]? = some (xs[j / R.size], f ⟨j / R.size, hi⟩) := by
          rw [List.getElem?_zip_eq_some]
          exact ⟨List.getElem?_eq_getElem hi, by rw [List.getElem?_ofFn, dif_pos hi]⟩
        have hr := rowG_at R _ _ (j % R.size) _ _ hz hm
        rw [← hjj, hu] at hr
        have := (hf ⟨j / R.size, hi⟩).1 (j % R.size) hm
        dsimp only at this
        rw [← hr, Nat.add_assoc, ← hjj] at this
        exact this

/-- Items as a row. -/
def itmR : Rowing Itm Value where
  size := 4
  cells x u := cellsI x u
  F lo blk w x u := PrmsOff lo blk w u x.ps
  len _ _ := rfl
  below h hb := h.below hb
  step h hg hat := h.step hg hat
  low h hl := h.low hl
  avoid h hb := h.avoid hb
theorem ItmsOff.g {lo : Nat} {blk : Option Nat} {w : World} {v : Value} {xs : List Itm} (h : ItmsOff lo blk w v xs) : GOff itmR lo blk w v xs := by
  obtain ⟨ao, cap, hv, hc⟩ := h
  rcases hc with hc | ⟨b, off, h1, h0, h2, h3, h4⟩
  · exact ⟨ao, cap, hv, .inl hc⟩
  · refine ⟨ao, cap, hv, .inr ⟨b, off, h1, h0, h2, h3, fun j x hx => ?_⟩⟩
    obtain ⟨u, ⟨c0, c1, c2, c3⟩, hp⟩ := h4 j x hx
    refine ⟨u, fun i hi => ?_, hp⟩
    have hi4 : i < 4 := hi
    match i, hi4 with
    | 0, _ => exact c0
    | 1, _ => exact c1
    | 2, _ => exact c2
    | 3, _ => exact c3
theorem GOff.items {lo : Nat} {blk : Option Nat} {w : World} {v : Value} {xs : List Itm} (h : GOff itmR lo blk w v xs) : ItmsOff lo blk w v xs := by
  obtain ⟨ao, cap, hv, hc⟩ := h
  rcases hc with hc | ⟨b, off, h1, h0, h2, h3, h4⟩
  · exact ⟨ao, cap, hv, .inl hc⟩
  · refine ⟨ao, cap, hv, .inr ⟨b, off, h1, h0, h2, h3, fun j x hx => ?_⟩⟩
    obtain ⟨u, hcs, hp⟩ := h4 j x hx
    exact ⟨u, ⟨hcs 0 (by decide), hcs 1 (by decide), hcs 2 (by decide), hcs 3 (by decide)⟩, hp⟩

theorem PrmsOff.other {lo g : Nat} {w w' : World} {v : Value} {ps : List Prm} (h : PrmsOff lo (some g) w v ps) (hm : Moved g w w') : PrmsOff lo (some g) w' v ps := by
  obtain ⟨ao, cap, hv, hh⟩ := h
  rcases hh with hh | ⟨b, off, h1, h0, h2, h3, h4⟩
  · exact ⟨ao, cap, hv, .inl hh⟩
  · exact ⟨ao, cap, hv, .inr ⟨b, off, h1, h0, h2, Nat.lt_of_lt_of_le h3 hm.size, fun j u hj => (hm.cell (p := ⟨b, off + j, none⟩) h3 (fun e => h2 (congrArg some e))).trans (h4 j u hj)⟩⟩
theorem PrmsOff.free {lo : Nat} {blk : Option Nat} {w : World} {v : Value} {ps : List Prm} (h : PrmsOff lo blk w v ps) : PrmsOff lo none w v ps := by
  obtain ⟨ao, cap, hv, hh⟩ := h
  rcases hh with hh | ⟨b, off, h1, h0, h2, h3, h4⟩
  · exact ⟨ao, cap, hv, .inl hh⟩
  · exact ⟨ao, cap, hv, .inr ⟨b, off, h1, h0, fun e => (by cases e), h3, h4⟩⟩

end Go.Proofs.YtpifbgefkbhopaaGreatDoor

namespace Go.Proofs.YtpifbgefkbhopaaGreatDoor
open Go.RowKit Go.Maps

/-- Whether two items are the same; two lists of them; two members. -/
def itmEq (x y : Itm) : Bool := sameI x.k x.n x.s x.ps y.k y.n y.s y.ps
def sameIts (xs ys : List Itm) : Bool := xs.length == ys.length && (xs.zip ys).all fun x => itmEq x.1 x.2
def sameM (M N : Mem) : Bool := (M.inner == N.inner) && (itmEq M.it N.it && (sameIts M.its N.its && samePs M.ps N.ps))
theorem itmEq_iff (x y : Itm) : itmEq x y = true ↔ x = y := by
  obtain ⟨a, b, c, d⟩ := x
  obtain ⟨a', b', c', d'⟩ := y
  simp only [itmEq, sameI, Lib.toList_data, strB_data, Bool.and_eq_true, beq_iff_eq, samePs_iff, Itm.mk.injEq]
  constructor
  · rintro ⟨⟨h1, h2, h3⟩, h4⟩
    exact ⟨h1, h2, h3, h4⟩
  · rintro ⟨h1, h2, h3, h4⟩
    exact ⟨⟨h1, h2, h3⟩, h4⟩
theorem sameIts_iff : ∀ (xs ys : List Itm), sameIts xs ys = true ↔ xs = ys
  | [], [] => by simp [sameIts]
  | [], _ :: _ => by simp [sameIts]
  | _ :: _, [] => by simp [sameIts]
  | p :: ps, q :: qs => by
    have ih := sameIts_iff ps qs
    simp only [sameIts, List.length_cons, List.zip_cons_cons, List.all_cons, Bool.and_eq_true, beq_iff_eq] at ih ⊢
    rw [List.cons.injEq, ← itmEq_iff, ← ih]
    constructor
    · rintro ⟨h1, h2, h3⟩
      exact ⟨h2, by omega, h3⟩
    · rintro ⟨h1, h2, h3⟩
      exact ⟨by omega, h1, h3⟩
theorem sameM_iff (M N : Mem) : sameM M N = true ↔ M = N := by
  obtain ⟨a, b, c, d⟩ := M
  obtain ⟨a', b', c', d'⟩ := N
  simp only [sameM, Bool.and_eq_true, beq_iff_eq, itmEq_iff, sameIts_iff, samePs_iff, Mem.mk.injEq]
theorem sameIts_len (xs ys : List Itm) (h : xs.length ≠ ys.length) : sameIts xs ys = false := by
  cases hs : sameIts xs ys
  · rfl
  · exact absurd (congrArg List.length ((sameIts_iff _ _).1 hs)) h
theorem sameIts_at (xs ys : List Itm) (j : Nat) (p q : Itm) (h1 : xs[j]? = some p) (h2 : ys[j]? = some q) (h : itmEq p q = false) : sameIts xs ys = false := by
  cases hs : sameIts xs ys
  · rfl
  · have := (sameIts_iff _ _).1 hs
    subst this
    rw [h1] at h2
    obtain rfl := Option.some.inj h2
    rw [(itmEq_iff p p).2 rfl] at h; cases h
theorem sameIts_all (xs ys : List Itm) (hl : xs.length = ys.length) (h : ∀ j, j < xs.length → xs[j]? = ys[j]?) : sameIts xs ys = true := by
  rw [sameIts_iff]
  apply List.ext_getElem?
  intro j
  by_cases hj : j < xs.length
  · exact h j hj
  · rw [List.getElem?_eq_none (by omega), List.getElem?_eq_none (by omega)]

end Go.Proofs.YtpifbgefkbhopaaGreatDoor

namespace Go.Proofs.YtpifbgefkbhopaaGreatDoor
open Go.RowKit Go.Maps

theorem rowP_one (ps : List Prm) : ∀ u ∈ rowP ps, u.oneCell' = true := by
  intro u hu
  obtain ⟨p, _, hp⟩ := List.mem_flatMap.1 hu
  simp only [cellsP, List.mem_cons, List.not_mem_nil, or_false] at hp
  rcases hp with rfl | rfl | rfl | rfl <;> rfl
theorem rowG_one {α β : Type} {R : Rowing α β} : ∀ (xs : List α) (us : List β), (∀ (j : Nat) (u : β) (x : α), us[j]? = some u → xs[j]? = some x → ∀ y ∈ R.cells x u, y.oneCell' = true) → ∀ y ∈ rowG R (xs.zip us), y.oneCell' = true
  | [], us, _, y, hy => by simp [rowG] at hy
  | x :: xs, [], _, y, hy => by simp [rowG] at hy
  | x :: xs, u :: us, h, y, hy => by
    rw [List.zip_cons_cons, rowG, List.mem_append] at hy
    rcases hy with hy | hy
    · exact h 0 u x rfl rfl y hy
    · exact rowG_one xs us (fun j u x hu hx => h (j + 1) u x (by simpa using hu) (by simpa using hx)) y hy
theorem itm_one {lo : Nat} {blk : Option Nat} {w : World} {x : Itm} {u : Value} (h : PrmsOff lo blk w u x.ps) : ∀ y ∈ itmR.cells x u, y.oneCell' = true := by
  obtain ⟨ao, cap, rfl⟩ := h.form
  intro y hy
  simp only [itmR, cellsI, List.mem_cons, List.not_mem_nil, or_false] at hy
  rcases hy with rfl | rfl | rfl | rfl <;> rfl
theorem mem_one {lo : Nat} {blk : Option Nat} {w : World} {x : Mem} {u : Value × Value × Value} (h : memR.F lo blk w x u) : ∀ y ∈ memR.cells x u, y.oneCell' = true := by
  obtain ⟨u1, u2, u3⟩ := u
  obtain ⟨ao, cap, rfl⟩ := h.1.form
  obtain ⟨ao2, cap2, rfl⟩ := h.2.1.form
  obtain ⟨ao3, cap3, rfl⟩ := h.2.2.form
  intro y hy
  simp only [memR, List.mem_cons, List.not_mem_nil, or_false] at hy
  rcases hy with rfl | rfl | rfl | rfl | rfl | rfl | rfl <;> rfl

set_option maxRecDepth 100000 in
set_option maxHeartbeats 1000000 in
theorem cloneP_any (v : Value) (ps : List Prm) (w : World) (h : Prms w v ps) (hl : ps.length ≤ 100000) :
    Calls Tryz.prog 90 #[v] w fun e w' => Below w.heap.size w w' ∧ ∃ u, e = .returned u ∧ w'.ownsRow w.heap.size 169 4 u ps.length (rowP ps) := by
  obtain ⟨i0, hi, hz0, hz1, hz2⟩ := info_parts info_param
  obtain ⟨ao, cap, rfl, hc⟩ := h
  have qn : ∀ (w : World) (a : Option Addr) (n c n' c' : Nat), (binOp .eql 81 (.slice a n c) (.slice none n' c')).run Tryz.prog w = .ok (.bool a.isNone) w := fun w a n c n' c' => Lib.run_eql_slice_nil w _ _ a n c n' c' Tryz.underlying81
  have HC := Lib.hid hc
  clear hc
  cases ao with
  | none =>
    have hps : ps = [] := by
      rcases HC.out with h | ⟨b, off, h, _⟩
      · exact h
      · cases h
    subst hps
    go_enter Tryz.func90, Tryz.ntmps90
    go_wp2_with fail
    go_ret
    exact ⟨Below.refl _ _, _, rfl, World.ownsRow_nil _ _ _ _⟩
  | some a =>
    by_cases hps : ps = []
    · subst hps
      go_enter Tryz.func90, Tryz.ntmps90
      go_wp2_with (at_builtin; refine wpList_append_own _ rfl _ _ 81 rfl w.heap.size 169 i0 (.agg #[.string ⟨#[]⟩, .int .i64 0, .int .i64 0, .string ⟨#[]⟩]) 4 48 Tryz.underlying81 hi hz0 hz1 hz2 rfl (by decide) _ _ _ rfl (World.ownsRow_made w #[] 0 (Nat.le_refl _) (Nat.zero_le _) rfl) a 0 cap [] rfl rfl (by intro j u hj; simp at hj) (by intro u hu; cases hu) (by unfold maxLen; omega) (by omega) (by simp) ?_)
      intro v' w1 hown hgrow _
      go_wp2
      go_ret
      exact ⟨((Below.refl _ w).alloc (Nat.le_refl _) _).grown hgrow (by simp) (by intro k hk; simp [Value.ownBlock] at hk; omega), _, rfl, (show w1.ownsRow w.heap.size 169 4 v' 0 [] by simpa using hown)⟩
    · have hsrc : ∃ b off, a = ⟨b, off, none⟩ ∧ ∀ j u, (rowP ps)[j]? = some u → w.cell? ⟨b, off + j, none⟩ = some u := by
        rcases HC.out with h | ⟨b, off, h, h2⟩
        · exact absurd h hps
        · exact ⟨b, off, Option.some.inj h, h2⟩
      obtain ⟨b, off, rfl, hcell⟩ := hsrc
      have A : Hid (∀ j u, (rowP ps)[j]? = some u → w.cell? ⟨b, off + j, none⟩ = some u) := Lib.hid hcell
      clear hcell
      go_enter Tryz.func90, Tryz.ntmps90
      go_wp2_with (at_builtin; refine wpList_append_own _ rfl _ _ 81 rfl w.heap.size 169 i0 (.agg #[.string ⟨#[]⟩, .int .i64 0, .int .i64 0, .string ⟨#[]⟩]) 4 48 Tryz.underlying81 hi hz0 hz1 hz2 rfl (by decide) _ _ _ rfl (World.ownsRow_made w #[] 0 (Nat.le_refl _) (Nat.zero_le _) rfl) ⟨b, off, none⟩ ps.length cap (rowP ps) rfl ?qc1 ?qc2 ?qc3 ?qc4 ?qc5 ?qc6 ?_)
      case qc1 => exact rowP_len ps
      case qc2 =>
        intro j u hj
        rw [Addr.add_lit]
        exact Lib.cell?_alloc_some _ (A.out j u hj)
      case qc3 => exact rowP_one ps
      case qc4 => unfold maxLen; omega
      case qc5 => omega
      case qc6 => simp
      intro v' w1 hown hgrow _
      go_wp2
      go_ret
      exact ⟨((Below.refl _ w).alloc (Nat.le_refl _) _).grown hgrow (by simp) (by intro k hk; simp [Value.ownBlock] at hk; omega), _, rfl, by simpa using hown⟩

/-- What a copy of a slice of items is. -/
def ClonedI (w : World) (xs : List Itm) (us : List Value) (e : Ending) (w' : World) : Prop :=
  Below w.heap.size w w' ∧ ∃ u, e = .returned u ∧ w'.ownsRow w.heap.size 83 4 u xs.length (rowG itmR (xs.zip us))

set_option maxRecDepth 100000 in
set_option maxHeartbeats 1000000 in
theorem cloneI_us (ao : Option Addr) (cap : Nat) (xs : List Itm) (us : List Value) (w : World) (hul : us.length = xs.length) (hc : xs = [] ∨ ∃ b off, ao = some ⟨b, off, none⟩ ∧ ∀ j u, (rowG itmR (xs.zip us))[j]? = some u → w.cell? ⟨b, off + j, none⟩ = some u)
    (hone : ∀ y ∈ rowG itmR (xs.zip us), y.oneCell' = true) (hl : xs.length ≤ 100000) :
    Calls Tryz.prog 89 #[.slice ao xs.length cap] w (ClonedI w xs us) := by
  obtain ⟨i0, hi, hz0, hz1, hz2⟩ := info_parts info_item
  have qn : ∀ (w : World) (a : Option Addr) (n c n' c' : Nat), (binOp .eql 84 (.slice a n c) (.slice none n' c')).run Tryz.prog w = .ok (.bool a.isNone) w := fun w a n c n' c' => Lib.run_eql_slice_nil w _ _ a n c n' c' Tryz.underlying84
  have HC := Lib.hid hc
  have HONE := Lib.hid hone
  clear hc hone
  cases ao with
  | none =>
    have hps : xs = [] := by
      rcases HC.out with h | ⟨b, off, h, _⟩
      · exact h
      · cases h
    subst hps
    obtain rfl : us = [] := List.eq_nil_of_length_eq_zero hul
    go_enter Tryz.func89, Tryz.ntmps89
    go_wp2_with fail
    go_ret
    exact ⟨Below.refl _ _, _, rfl, World.ownsRow_nil _ _ _ _⟩
  | some a =>
    by_cases hps : xs = []
    · subst hps
      obtain rfl : us = [] := List.eq_nil_of_length_eq_zero hul
      go_enter Tryz.func89, Tryz.ntmps89
      go_wp2_with (at_builtin; refine wpList_append_own _ rfl _ _ 84 rfl w.heap.size 83 i0 (.agg #[.int .i64 0, .int .i64 0, .string ⟨#[]⟩, .slice none 0 0]) 4 56 Tryz.underlying84 hi hz0 hz1 hz2 rfl (by decide) _ _ _ rfl (World.ownsRow_made w #[] 0 (Nat.le_refl _) (Nat.zero_le _) rfl) a 0 cap [] rfl rfl (by intro j u hj; simp at hj) (by intro u hu; cases hu) (by unfold maxLen; omega) (by omega) (by simp) ?_)
      intro v' w1 hown hgrow _
      go_wp2
      go_ret
      exact ⟨((Below.refl _ w).alloc (Nat.le_refl _) _).grown hgrow (by simp) (by intro k hk; simp [Value.ownBlock] at hk; omega), _, rfl, (show w1.ownsRow w.heap.size 83 4 v' 0 [] by simpa using hown)⟩
    · have hsrc : ∃ b off, a = ⟨b, off, none⟩ ∧ ∀ j u, (rowG itmR (xs.zip us))[j]? = some u → w.cell? ⟨b, off + j, none⟩ = some u := by
        rcases HC.out with h | ⟨b, off, h, h2⟩
        · exact absurd h hps
        · exact ⟨b, off, Option.some.inj h, h2⟩
      obtain ⟨b, off, rfl, hcell⟩ := hsrc
      have A : Hid (∀ j u, (rowG itmR (xs.zip us))[j]? = some u → w.cell? ⟨b, off + j, none⟩ = some u) := Lib.hid hcell
      clear hcell
      go_enter Tryz.func89, Tryz.ntmps89
      go_wp2_with (at_builtin; refine wpList_append_own _ rfl _ _ 84 rfl w.heap.size 83 i0 (.agg #[.int .i64 0, .int .i64 0, .string ⟨#[]⟩, .slice none 0 0]) 4 56 Tryz.underlying84 hi hz0 hz1 hz2 rfl (by decide) _ _ _ rfl (World.ownsRow_made w #[] 0 (Nat.le_refl _) (Nat.zero_le _) rfl) ⟨b, off, none⟩ xs.length cap (rowG itmR (xs.zip us)) rfl ?qc1 ?qc2 ?qc3 ?qc4 ?qc5 ?qc6 ?_)
      case qc1 => rw [rowG_len, List.length_zip, hul, Nat.min_self] <;> rfl
      case qc2 =>
        intro j u hj
        rw [Addr.add_lit]
        exact Lib.cell?_alloc_some _ (A.out j u hj)
      case qc3 => exact HONE.out
      case qc4 => unfold maxLen; omega
      case qc5 => omega
      case qc6 => simp
      intro v' w1 hown hgrow _
      go_wp2
      go_ret
      exact ⟨((Below.refl _ w).alloc (Nat.le_refl _) _).grown hgrow (by simp) (by intro k hk; simp [Value.ownBlock] at hk; omega), _, rfl, by simpa using hown⟩

theorem lt_grow {_ w' : World} {base : Nat} {e : TypeId} {size n g cap : Nat} {xs : List Value} (h : w'.ownsRow base e size (.slice (some ⟨g, 0, none⟩) n cap) n xs) : base ≤ g := (World.ownsRow.lt h g rfl).1

/-- Two boxes of four cells, and what was made behind them. -/
def Box2 (w : World) (o p : Obj) (W : World) : Prop := Below (w.heap.size + 2) ((w.alloc o).alloc p) W
theorem Box2.next {w W W1 : World} {o p : Obj} (h : Box2 w o p W) (hb : Below W.heap.size W W1) : Box2 w o p W1 :=
  Below.trans h (hb.mono (by have := Below.size h; simp at this; omega))
theorem Box2.later {w W : World} {o p : Obj} (h : Box2 w o p W) : Below w.heap.size w W :=
  (((Below.refl w.heap.size w).alloc (Nat.le_refl _) o).alloc (by simp) p).trans (Below.mono h (by omega))
theorem Box2.cells {w W : World} {a b c d a' b' c' d' : Value} {T T' : TypeId} (h : Box2 w (.cells #[a, b, c, d] T) (.cells #[a', b', c', d'] T') W) :
    (W.cell? ⟨w.heap.size, 0, none⟩ = some a ∧ W.cell? ⟨w.heap.size, 1, none⟩ = some b ∧ W.cell? ⟨w.heap.size, 2, none⟩ = some c ∧ W.cell? ⟨w.heap.size, 3, none⟩ = some d) ∧
    (W.cell? ⟨w.heap.size + 1, 0, none⟩ = some a' ∧ W.cell? ⟨w.heap.size + 1, 1, none⟩ = some b' ∧ W.cell? ⟨w.heap.size + 1, 2, none⟩ = some c' ∧ W.cell? ⟨w.heap.size + 1, 3, none⟩ = some d') ∧
    (W.frozen? ⟨w.heap.size, 3, none⟩ = false ∧ W.frozen? ⟨w.heap.size + 1, 0, none⟩ = false ∧ W.frozen? ⟨w.heap.size + 1, 1, none⟩ = false ∧ W.frozen? ⟨w.heap.size + 1, 2, none⟩ = false ∧ W.frozen? ⟨w.heap.size + 1, 3, none⟩ = false) := by
  have kc := fun (b o : Nat) (hb : b < w.heap.size + 2) => Below.cell (p := ⟨b, o, none⟩) h hb
  have kf := fun (b o : Nat) (hb : b < w.heap.size + 2) => Below.frozen (p := ⟨b, o, none⟩) h hb
  refine ⟨⟨?_, ?_, ?_, ?_⟩, ⟨?_, ?_, ?_, ?_⟩, ?_, ?_, ?_, ?_, ?_⟩
  · exact (kc _ _ (by omega)).trans (by simp)
  · exact (kc _ _ (by omega)).trans (by simp)
  · exact (kc _ _ (by omega)).trans (by simp)
  · exact (kc _ _ (by omega)).trans (by simp)
  · exact (kc _ _ (by omega)).trans (by simp)
  · exact (kc _ _ (by omega)).trans (by simp)
  · exact (kc _ _ (by omega)).trans (by simp)
  · exact (kc _ _ (by omega)).trans (by simp)
  · exact (kf _ _ (by omega)).trans (by simp)
  · exact (kf _ _ (by omega)).trans (by simp)
  · exact (kf _ _ (by omega)).trans (by simp)
  · exact (kf _ _ (by omega)).trans (by simp)
  · exact (kf _ _ (by omega)).trans (by simp)

set_option maxRecDepth 100000 in
set_option maxHeartbeats 1000000 in
theorem itemCopy_any (k n : Int) (s : ByteArray) (v : Value) (ps : List Prm) (w : World) (h : Prms w v ps) (hl : ps.length ≤ 100000) :
    Calls Tryz.prog 88 #[.agg #[.int .i64 k, .int .i64 n, .string s, v]] w fun e w' => Below w.heap.size w w' ∧ ∃ u, e = .returned (.agg #[.int .i64 k, .int .i64 n, .string s, u]) ∧ w'.ownsRow (w.heap.size + 2) 169 4 u ps.length (rowP ps) := by
  have hb0 : Below w.heap.size w ((w.alloc (itemO k n s v)).alloc zeroItem) := ((Below.refl _ _).alloc (Nat.le_refl _) _).alloc (by simp) _
  have cC := cloneP_any v ps ((w.alloc (itemO k n s v)).alloc zeroItem) (h.below hb0) hl
  obtain ⟨ao, cap, rfl, hc⟩ := h
  clear hc
  go_enter Tryz.func88, Tryz.ntmps88
  go_wp2_with fail
  refine cC.mono ?_
  rintro e w1 ⟨hb1, u, rfl, hown⟩
  have hk1 : Box2 w (itemO k n s (.slice ao ps.length cap)) zeroItem w1 := Below.mono hb1 (by simp)
  have hB1 := hk1.later
  obtain ⟨⟨x0, x1, x2, x3⟩, ⟨y0, y1, y2, y3⟩, f3, g0, g1, g2, g3⟩ := hk1.cells
  have hw1 : w.heap.size + 1 < w1.heap.size := lt_of_cell y0
  have HO := Lib.hid (ownsRow_low hown (B := w.heap.size + 2) (by simp))
  obtain ⟨ao2, cap2, rfl⟩ := owns_form hown
  clear hown hb1 hb0 cC
  go_wp2_with fail
  have hown2 := HO.out
  refine bodyPost_ret (v := .agg #[.int .i64 k, .int .i64 n, .string s, .slice ao2 ps.length cap2]) (by simp [results, Tryz.results88, go_sem, y0, y1, y2, y3]) rfl ⟨?_, _, rfl, ?_⟩
  · repeat (first | with_reducible refine Below.setCell ?_ (by simp) _)
    exact hB1
  · have hm1 := (Moved.refl w.heap.size w1).setCell (o := 3) (.slice ao2 ps.length cap2)
    have o1 := ownsRow_moved hown2 hm1 (by omega)
    have hm2 := ((((Moved.refl (w.heap.size + 1) (w1.setCell ⟨w.heap.size, 3, none⟩ (.slice ao2 ps.length cap2))).setCell (o := 0) (.int .i64 k)).setCell (o := 1) (.int .i64 n)).setCell (o := 2) (.string s)).setCell (o := 3) (.slice ao2 ps.length cap2)
    exact ownsRow_moved o1 hm2 (by omega)

end Go.Proofs.YtpifbgefkbhopaaGreatDoor

namespace Go.Proofs.YtpifbgefkbhopaaGreatDoor
open Go.RowKit Go.Maps

theorem Box2.mems {w W : World} {a b c d e f g a' b' c' d' e' f' g' : Value} {T T' : TypeId} (h : Box2 w (.cells #[a, b, c, d, e, f, g] T) (.cells #[a', b', c', d', e', f', g'] T') W) :
    (W.cell? ⟨w.heap.size, 0, none⟩ = some a ∧ W.cell? ⟨w.heap.size, 1, none⟩ = some b ∧ W.cell? ⟨w.heap.size, 2, none⟩ = some c ∧ W.cell? ⟨w.heap.size, 3, none⟩ = some d ∧ W.cell? ⟨w.heap.size, 4, none⟩ = some e ∧ W.cell? ⟨w.heap.size, 5, none⟩ = some f ∧ W.cell? ⟨w.heap.size, 6, none⟩ = some g) ∧
    (W.cell? ⟨w.heap.size + 1, 0, none⟩ = some a' ∧ W.cell? ⟨w.heap.size + 1, 1, none⟩ = some b' ∧ W.cell? ⟨w.heap.size + 1, 2, none⟩ = some c' ∧ W.cell? ⟨w.heap.size + 1, 3, none⟩ = some d' ∧ W.cell? ⟨w.heap.size + 1, 4, none⟩ = some e' ∧ W.cell? ⟨w.heap.size + 1, 5, none⟩ = some f' ∧ W.cell? ⟨w.heap.size + 1, 6, none⟩ = some g') := by
  have kc := fun (b o : Nat) (hb : b < w.heap.size + 2) => Below.cell (p := ⟨b, o, none⟩) h hb
  refine ⟨⟨?_, ?_, ?_, ?_, ?_, ?_, ?_⟩, ?_, ?_, ?_, ?_, ?_, ?_, ?_⟩
  all_goals exact (kc _ _ (by omega)).trans (by simp)

/-- What must hold of members that are compared. -/
structure MemSm (M : Mem) : Prop where
  a : M.it.ps.length ≤ 100000
  b : M.its.length ≤ 100000
  c : ∀ x ∈ M.its, x.ps.length ≤ 100000
  d : M.ps.length ≤ 100000

end Go.Proofs.YtpifbgefkbhopaaGreatDoor

namespace Go.Proofs.YtpifbgefkbhopaaGreatDoor
open Go.RowKit Go.Maps

theorem ResM.far {W W1 : World} {c d : Nat} (h : ResM W c) (hm : Moved d W W1) (hd : c ≠ d) : ResM W1 c := by
  have hc : ∀ i, W1.cell? ⟨c, i, none⟩ = W.cell? ⟨c, i, none⟩ := fun i => hm.cell (p := ⟨c, i, none⟩) h.lt hd
  have hf : ∀ i, W1.frozen? ⟨c, i, none⟩ = W.frozen? ⟨c, i, none⟩ := fun i => hm.frozen (p := ⟨c, i, none⟩) h.lt hd
  exact ⟨(hc 0).trans h.r0, (hc 1).trans h.r1, (hc 2).trans h.r2, (hc 3).trans h.r3, (hc 4).trans h.r4, (hc 5).trans h.r5, (hc 6).trans h.r6, (hf 0).trans h.g0, (hf 1).trans h.g1, (hf 2).trans h.g2, (hf 3).trans h.g3, (hf 4).trans h.g4, (hf 5).trans h.g5, (hf 6).trans h.g6⟩

/-- A member that a call holds in its box, beside its result's block. -/
structure BoxC (w W : World) (cs : List Value) : Prop where
  c : ∀ (i : Nat) (v : Value), cs[i]? = some v → W.cell? ⟨w.heap.size, i, none⟩ = some v
  f : ∀ i : Nat, W.frozen? ⟨w.heap.size, i, none⟩ = false
  res : ResM W (w.heap.size + 1)
  low : Below w.heap.size w W
theorem BoxC.next {w W W1 : World} {cs : List Value} (h : BoxC w W cs) (hb : Below W.heap.size W W1) : BoxC w W1 cs := by
  have hl := h.res.lt
  exact ⟨fun i v hi => (hb.cell (p := ⟨w.heap.size, i, none⟩) (show w.heap.size < W.heap.size by omega)).trans (h.c i v hi), fun i => (hb.frozen (p := ⟨w.heap.size, i, none⟩) (show w.heap.size < W.heap.size by omega)).trans (h.f i), h.res.next (hb.mono hl), h.low.trans (hb.mono h.low.size)⟩
theorem BoxC.put {w W : World} {cs : List Value} (h : BoxC w W cs) (i : Nat) (hi : i < cs.length) (v : Value) : BoxC w (W.setCell ⟨w.heap.size, i, none⟩ v) (cs.set i v) := by
  refine ⟨fun j u hj => ?_, fun j => by rw [World.frozen?_setCell]; exact h.f j, h.res.far ((Moved.refl _ _).setCell v) (by omega), h.low.setCell (Nat.le_refl _) _⟩
  by_cases hij : i = j
  · subst hij
    rw [List.getElem?_set_self hi] at hj
    obtain rfl := Option.some.inj hj
    exact World.cell?_setCell_same W _ _ (h.c i cs[i] (List.getElem?_eq_getElem hi))
  · rw [List.getElem?_set_ne hij] at hj
    exact (World.cell?_setCell_other W ⟨w.heap.size, i, none⟩ ⟨w.heap.size, j, none⟩ _ (by simp)).trans (h.c j u hj)
theorem BoxC.far {w W : World} {cs : List Value} (h : BoxC w W cs) (g o : Nat) (hg : w.heap.size + 2 ≤ g) (v : Value) : BoxC w (W.setCell ⟨g, o, none⟩ v) cs :=
  ⟨fun j u hj => (World.cell?_setCell_other W ⟨g, o, none⟩ ⟨w.heap.size, j, none⟩ _ (by simp)).trans (h.c j u hj), fun j => by rw [World.frozen?_setCell]; exact h.f j, h.res.far ((Moved.refl _ _).setCell v) (by omega), h.low.setCell (show w.heap.size ≤ g by omega) _⟩
theorem BoxC.made (w : World) (b : Bool) (k n : Int) (s : ByteArray) (u vi vp : Value) : BoxC w ((w.alloc (memO b k n s u vi vp)).alloc zeroMem) [.bool b, .int .i64 k, .int .i64 n, .string s, u, vi, vp] := by
  refine ⟨fun i v hi => ?_, fun i => by simp, ?_, ((Below.refl _ _).alloc (Nat.le_refl _) _).alloc (by simp) _⟩
  · have hl : i < 7 := (List.getElem?_eq_some_iff.1 hi).1
    match i, hl with
    | 0, _ | 1, _ | 2, _ | 3, _ | 4, _ | 5, _ | 6, _ =>
      obtain rfl := Option.some.inj hi
      simp
  · have := ResM.made (w.alloc (memO b k n s u vi vp))
    simpa using this

theorem rowG_set4 : ∀ (l : List (Itm × Value)) (i : Nat) (x : Itm) (u : Value), i < l.length →
    rowG itmR (l.set i (x, u)) = ((((rowG itmR l).set (i * 4) (.int .i64 x.k)).set (i * 4 + 1) (.int .i64 x.n)).set (i * 4 + 2) (.string (strB x.s))).set (i * 4 + 3) u
  | [], i, _, _, h => by simp at h
  | (q, v) :: l, 0, x, u, _ => by
    rw [List.set_cons_zero, rowG, rowG]
    rfl
  | (q, v) :: l, i + 1, x, u, h => by
    rw [List.set_cons_succ, rowG, rowG_set4 l i x u (by simpa using h), rowG]
    have e : ∀ (j : Nat) (r : List Value) (y : Value), (itmR.cells q v ++ r).set ((i + 1) * 4 + j) y = itmR.cells q v ++ r.set (i * 4 + j) y := by
      intro j r y
      have hl : (itmR.cells q v).length = 4 := itmR.len q v
      rw [List.set_append, if_neg (by rw [hl]; omega), hl]
      congr 2
      omega
    have e0 := e 0
    simp only [Nat.add_zero] at e0
    rw [e0, e 1, e 2, e 3]

theorem PrmsOff.apart {lo n size : Nat} {w w2 : World} {v v2 : Value} {ps : List Prm} {T : TypeId} {xs : List Value} (h : PrmsOff lo none w v ps) (ho : w2.ownsRow w.heap.size T size v2 n xs) : PrmsOff lo v2.ownBlock w v ps := by
  cases hb : v2.ownBlock with
  | none => exact h
  | some g => exact h.elsewhere g (.inr (World.ownsRow.lt ho g hb).1)
theorem PrmsOff.otherB {lo : Nat} {blk : Option Nat} {w w' : World} {v : Value} {ps : List Prm} {g : Nat} (h : PrmsOff lo blk w v ps) (hg : blk = some g) (hm : Moved g w w') : PrmsOff lo blk w' v ps := by
  subst hg
  exact h.other hm

set_option maxRecDepth 100000 in
set_option maxHeartbeats 4000000 in
theorem memberCopy_any (M : Mem) (v : Value) (w : World) (h : MemAt 0 none w M v) (hM : MemSm M) :
    Calls Tryz.prog 60 #[v] w fun e w' => Below w.heap.size w w' ∧ ∃ v', e = .returned v' ∧ MemAt (w.heap.size + 2) none w' M v' := by
  obtain ⟨u, vi, vp, rfl, p1, p2, p3⟩ := h
  obtain ⟨ao, cap, us, rfl, hul, hF, hc⟩ := GOff.rows (R := itmR) (by decide) p2.g
  have hone := rowG_one (R := itmR) M.its us (fun j u x hu hx => itm_one (hF j u x hu hx))
  have hC0 := BoxC.made w M.inner M.it.k M.it.n (strB M.it.s) u (.slice ao M.its.length cap) vp
  have cI := itemCopy_any M.it.k M.it.n (strB M.it.s) u M.it.ps ((w.alloc (memO M.inner M.it.k M.it.n (strB M.it.s) u (.slice ao M.its.length cap) vp)).alloc zeroMem) (p1.prms.below hC0.low) hM.a
  have cF := fun W (hW : Below w.heap.size w W) => cloneI_us ao cap M.its us W hul (by
    rcases hc with hc | ⟨b, off, h1, _, _, h3, h4⟩
    · exact .inl hc
    · exact .inr ⟨b, off, h1, fun j u hj => (hW.cell (p := ⟨b, off + j, none⟩) h3).trans (h4 j u hj)⟩) hone hM.b
  have cP := fun W (hW : Below w.heap.size w W) => cloneP_any vp M.ps W (p3.prms.below hW) hM.d
  have HF := Lib.hid hF
  have HS := Lib.hid hM.c
  have hlen := hM.b
  obtain ⟨a1, b1, rfl⟩ := p1.form
  obtain ⟨a3, b3, rfl⟩ := p3.form
  clear p1 p2 p3 hc hone hF hM
  have HSt := Lib.hid hC0
  clear hC0
  go_enter Tryz.func60, Tryz.ntmps60
  go_wp2_with fail
  refine cI.mono ?_
  rintro e w1 ⟨hb1, u1, rfl, ho1⟩
  have hC1 := HSt.out.next hb1
  obtain ⟨a4, b4, rfl⟩ := owns_form ho1
  have x0 := hC1.c 0 _ rfl
  have x1 := hC1.c 1 _ rfl
  have x2 := hC1.c 2 _ rfl
  have x3 := hC1.c 3 _ rfl
  have x4 := hC1.c 4 _ rfl
  have x5 := hC1.c 5 _ rfl
  have x6 := hC1.c 6 _ rfl
  have f1 := hC1.f 1
  have f2 := hC1.f 2
  have f3 := hC1.f 3
  have f4 := hC1.f 4
  have HO1 := Lib.hid (ownsRow_low ho1 (B := w.heap.size + 2) (by simp))
  have HC1 := Lib.hid hC1
  clear hb1 ho1 hC1 cI
  go_wp2_with fail
  have hC2 : BoxC w ((((w1.setCell ⟨w.heap.size, 1, none⟩ (.int .i64 M.it.k)).setCell ⟨w.heap.size, 2, none⟩ (.int .i64 M.it.n)).setCell ⟨w.heap.size, 3, none⟩ (.string (strB M.it.s))).setCell ⟨w.heap.size, 4, none⟩ (.slice a4 M.it.ps.length b4)) [.bool M.inner, .int .i64 M.it.k, .int .i64 M.it.n, .string (strB M.it.s), .slice a4 M.it.ps.length b4, .slice ao M.its.length cap, .slice a3 M.ps.length b3] :=
    (((HC1.out.put 1 (by simp) _).put 2 (by simp) _).put 3 (by simp) _).put 4 (by simp) _
  have HO2 := Lib.hid (ownsRow_moved HO1.out (((((Moved.refl w.heap.size w1).setCell (o := 1) (.int .i64 M.it.k)).setCell (o := 2) (.int .i64 M.it.n)).setCell (o := 3) (.string (strB M.it.s))).setCell (o := 4) (.slice a4 M.it.ps.length b4)) (by omega))
  refine (cF _ hC2.low).mono ?_
  rintro e w2 ⟨hb2, vi1, rfl, ho2⟩
  have hC3 := hC2.next hb2
  have HP2 := Lib.hid (((PrmsOff.made (lo := w.heap.size + 2) (blk := none) HO2.out (Nat.le_refl _) (fun g e => by cases e)).apart ho2).below hb2)
  have HR2 := Lib.hid (ownsRow_low ho2 (B := w.heap.size + 2) hC2.res.lt)
  obtain ⟨a5, b5, rfl⟩ := owns_form ho2
  have f5 := hC3.f 5
  have z5 := hC3.c 5 _ rfl
  have HC3 := Lib.hid hC3
  clear hb2 ho2 hC2 hC3 cF x0 x1 x2 x3 x4 x5 x6 f1 f2 f3 f4 HO1 HO2 HC1 HSt
  go_wp2_with fail
  have hm5 : Moved w.heap.size w2 (w2.setCell ⟨w.heap.size, 5, none⟩ (.slice a5 M.its.length b5)) := (Moved.refl _ _).setCell _
  have HC4 := Lib.hid (HC3.out.put 5 (by simp) (.slice a5 M.its.length b5))
  have HP4 := Lib.hid (HP2.out.moved hm5 (by omega))
  have HR4 := Lib.hid (ownsRow_moved HR2.out hm5 (by omega))
  clear HC3 HP2 HR2 hm5 f5 z5
  go_loopw [16] (fun i wr => ∃ (j : Nat) (us' : List Value), i = .int .i64 j ∧ j ≤ M.its.length ∧ us'.length = M.its.length ∧ wr.ownsRow (w.heap.size + 2) 83 4 (.slice a5 M.its.length b5) M.its.length (rowG itmR (M.its.zip us')) ∧ Hid (∀ (k : Nat) (u : Value) (x : Itm), us'[k]? = some u → M.its[k]? = some x → (k < j → PrmsOff (w.heap.size + 2) (Value.slice a5 M.its.length b5).ownBlock wr u x.ps) ∧ (j ≤ k → PrmsOff 0 none w u x.ps)) ∧ BoxC w wr [.bool M.inner, .int .i64 M.it.k, .int .i64 M.it.n, .string (strB M.it.s), .slice a4 M.it.ps.length b4, .slice a5 M.its.length b5, .slice a3 M.ps.length b3] ∧ PrmsOff (w.heap.size + 2) (Value.slice a5 M.its.length b5).ownBlock wr (.slice a4 M.it.ps.length b4) M.it.ps) (fun i _ => M.its.length - (intOf i).toNat)
  case atStart => exact ⟨0, us, rfl, Nat.zero_le _, hul, HR4.out, Lib.hid (fun k u x hu hx => ⟨fun h => absurd h (by omega), fun _ => HF.out k u x hu hx⟩), HC4.out, HP4.out⟩
  case round =>
    obtain ⟨j, us', rfl, hj, hul', hown, HFs, hC, hP⟩ := hrel
    clear HC4 HP4 HR4 HF
    have HC := Lib.hid hC
    have HP := Lib.hid hP
    have HO := Lib.hid hown
    clear hC hP hown
    by_cases hlt : j < M.its.length
    · obtain ⟨g, cap5, hv5, hgB, hg2, hcap⟩ := owns_slice HO.out (by omega)
      obtain ⟨rfl, _, rfl⟩ := Value.slice.inj hv5
      clear hv5
      obtain ⟨x, hx⟩ : ∃ x, M.its[j]? = some x := ⟨_, List.getElem?_eq_getElem hlt⟩
      obtain ⟨uj, hu⟩ : ∃ u, us'[j]? = some u := ⟨_, List.getElem?_eq_getElem (by omega)⟩
      have hst := (HFs.out j uj x hu hx).2 (Nat.le_refl _)
      have hz : (M.its.zip us')[j]? = some (x, uj) := by rw [List.getElem?_zip_eq_some]; exact ⟨hx, hu⟩
      have q0 := owns_cells HO.out _ _ (rowG_at itmR _ j 0 x uj hz (by decide))
      have q1 := owns_cells HO.out _ _ (rowG_at itmR _ j 1 x uj hz (by decide))
      have q2 := owns_cells HO.out _ _ (rowG_at itmR _ j 2 x uj hz (by decide))
      have q3 := owns_cells HO.out _ _ (rowG_at itmR _ j 3 x uj hz (by decide))
      rw [show itmR.size = 4 from rfl] at q0 q1 q2 q3
      rw [Nat.add_zero] at q0
      have x5 := HC.out.c 5 _ rfl
      have hl2 := HC.out.res.lt
      have jI : (j : Int) < (M.its.length : Int) := by omega
      have j0 : (0 : Int) ≤ (j : Int) := by omega
      have hbA : Below wr.heap.size wr (wr.alloc (itemO x.k x.n (strB x.s) uj)) := (Below.refl _ _).alloc (Nat.le_refl _) _
      have hbD : Below wr.heap.size wr (wr.alloc (itemO x.k x.n (strB x.s) uj)).drew := hbA.drew
      have cI2 := itemCopy_any x.k x.n (strB x.s) uj x.ps (wr.alloc (itemO x.k x.n (strB x.s) uj)).drew (hst.prms.below (HC.out.low.trans (hbD.mono HC.out.low.size))) (HS.out x (List.mem_of_getElem? hx))
      have HCD := Lib.hid (HC.out.next hbD)
      have HOD := Lib.hid (ownsRow_later HO.out hbD)
      have v5 := cell_later (itemO x.k x.n (strB x.s) uj) x5
      obtain ⟨au, bu, rfl⟩ := hst.form
      have HX := Lib.hid hx
      have HU := Lib.hid hu
      have HBD := Lib.hid hbD
      generalize hSB : strB x.s = SB at *
      have HSB := Lib.hid hSB
      clear hx hu hst hz hbA hbD hSB
      go_wp2_with fail
      go_region_with (go_at_call 88; refine cI2.mono ?_; rintro e w3 ⟨hb3, un, rfl, ho3⟩; obtain ⟨an, bn, rfl⟩ := owns_form ho3; have hC3 := HCD.out.next hb3; have hO3 := ownsRow_later HOD.out hb3; have k5 := hC3.c 5 _ rfl; obtain ⟨t0, e0, g0⟩ := owns_cell hO3 (j * 4) (by omega); obtain ⟨t1, e1, g1⟩ := owns_cell hO3 (j * 4 + 1) (by omega); obtain ⟨t2, e2, g2⟩ := owns_cell hO3 (j * 4 + 2) (by omega); obtain ⟨t3, e3, g3⟩ := owns_cell hO3 (j * 4 + 3) (by omega))
      all_goals
        go_wp2_with fail
        go_roundw
        case rel =>
          have hm : Moved g w3 ((((w3.setCell ⟨g, j * 4, none⟩ (.int .i64 x.k)).setCell ⟨g, j * 4 + 1, none⟩ (.int .i64 x.n)).setCell ⟨g, j * 4 + 2, none⟩ (.string SB)).setCell ⟨g, j * 4 + 3, none⟩ (.slice an x.ps.length bn)) := ((((Moved.refl _ _).setCell _).setCell _).setCell _).setCell _
          have s0 := hO3.stored (j * 4) (.int .i64 x.k)
          have s1 := s0.1.stored (j * 4 + 1) (.int .i64 x.n)
          have s2 := s1.1.stored (j * 4 + 2) (.string SB)
          have s3 := s2.1.stored (j * 4 + 3) (.slice an x.ps.length bn)
          have hB3 := HBD.out.trans (hb3.mono HBD.out.size)
          have hse : M.its.set j x = M.its := by
            have := HX.out
            rw [List.getElem?_eq_getElem hlt] at this
            obtain rfl := Option.some.inj this
            exact List.set_getElem_self _
          have hgz := HBD.out.size
          refine ⟨j + 1, us'.set j (.slice an x.ps.length bn), by go_num, by omega, by rw [List.length_set]; exact hul', ?_, Lib.hid ?_, ?_, ?_⟩
          · rw [show M.its.zip (us'.set j (.slice an x.ps.length bn)) = (M.its.zip us').set j (x, .slice an x.ps.length bn) by rw [← zip_set, hse], rowG_set4 _ _ _ _ (by rw [List.length_zip, hul', Nat.min_self]; exact hlt), HSB.out]
            exact s3.1
          · intro k u y hu hy
            by_cases e : k = j
            · subst e
              rw [List.getElem?_set_self (by omega)] at hu
              obtain rfl := Option.some.inj hu
              obtain rfl := Option.some.inj (HX.out.symm.trans hy)
              exact ⟨fun _ => (PrmsOff.made (lo := w.heap.size + 2) (blk := some g) ho3 (by omega) (fun g' e => by cases e; omega)).otherB rfl hm, fun h => absurd h (by omega)⟩
            · rw [List.getElem?_set_ne (Ne.symm e)] at hu
              exact ⟨fun h => (((HFs.out k u y hu hy).1 (by omega)).below hB3).otherB rfl hm, fun h => (HFs.out k u y hu hy).2 (by omega)⟩
          · exact (((hC3.far g _ hgB _).far g _ hgB _).far g _ hgB _).far g _ hgB _
          · exact (HP.out.below hB3).otherB rfl hm
        case measure => simp [intOf]; omega
    · obtain rfl : j = M.its.length := by omega
      have x6 := HC.out.c 6 _ rfl
      go_wp2_with fail
      refine (cP _ HC.out.low).mono ?_
      rintro e w4 ⟨hb4, vp1, rfl, ho4⟩
      have hC4 := HC.out.next hb4
      have hl2 := HC.out.res.lt
      have HP4 := Lib.hid (PrmsOff.made (lo := w.heap.size + 2) (blk := none) ho4 hl2 (fun g e => by cases e))
      have HU4 := Lib.hid (HP.out.free.below hb4)
      have HR4 := Lib.hid (ownsRow_later HO.out hb4)
      have HF4 : Hid (∀ (k : Nat) (u : Value) (x : Itm), us'[k]? = some u → M.its[k]? = some x → PrmsOff (w.heap.size + 2) none w4 u x.ps) := Lib.hid (fun k u x hu hx => ((HFs.out k u x hu hx).1 (List.getElem?_eq_some_iff.1 hx).1).free.below hb4)
      obtain ⟨a6, b6, rfl⟩ := owns_form ho4
      clear x6
      have x0 := hC4.c 0 _ rfl
      have x1 := hC4.c 1 _ rfl
      have x2 := hC4.c 2 _ rfl
      have x3 := hC4.c 3 _ rfl
      have x4 := hC4.c 4 _ rfl
      have x5 := hC4.c 5 _ rfl
      have x6 := hC4.c 6 _ rfl
      have f6 := hC4.f 6
      have hlt4 := hC4.res.lt
      have HL4 := Lib.hid hC4.low
      obtain ⟨r0, r1, r2, r3, r4, r5, r6, g0, g1, g2, g3, g4, g5, g6⟩ := hC4.res
      clear hb4 ho4 hC4 cP HC HP HO HFs
      go_wp2_with fail
      refine bodyPost_ret (v := aggM M.inner M.it.k M.it.n (strB M.it.s) (.slice a4 M.it.ps.length b4) (.slice a5 M.its.length b5) (.slice a6 M.ps.length b6)) (by simp [results, Tryz.results60, go_sem, r0, r1, r2, r3, r4, r5, r6]) rfl ?_
      have hmB : Moved w.heap.size w4 (w4.setCell ⟨w.heap.size, 6, none⟩ (.slice a6 M.ps.length b6)) := (Moved.refl _ _).setCell _
      have hmR : Moved (w.heap.size + 1) (w4.setCell ⟨w.heap.size, 6, none⟩ (.slice a6 M.ps.length b6)) ((((((((w4.setCell ⟨w.heap.size, 6, none⟩ (.slice a6 M.ps.length b6)).setCell ⟨w.heap.size + 1, 0, none⟩ (.bool M.inner)).setCell ⟨w.heap.size + 1, 1, none⟩ (.int .i64 M.it.k)).setCell ⟨w.heap.size + 1, 2, none⟩ (.int .i64 M.it.n)).setCell ⟨w.heap.size + 1, 3, none⟩ (.string (strB M.it.s))).setCell ⟨w.heap.size + 1, 4, none⟩ (.slice a4 M.it.ps.length b4)).setCell ⟨w.heap.size + 1, 5, none⟩ (.slice a5 M.its.length b5)).setCell ⟨w.heap.size + 1, 6, none⟩ (.slice a6 M.ps.length b6)) := by
        repeat (first | with_reducible refine Moved.setCell ?_ _)
        exact Moved.refl _ _
      have fin := fun (v : Value) (ps : List Prm) (h : PrmsOff (w.heap.size + 2) none w4 v ps) => (h.moved hmB (by omega)).moved hmR (by omega)
      refine ⟨?_, _, rfl, _, _, _, rfl, fin _ _ HU4.out, ?_, fin _ _ HP4.out⟩
      · repeat (first | with_reducible refine Below.setCell ?_ (by simp) _)
        exact HL4.out
      · exact (GOff.of_row (R := itmR) hul' (ownsRow_moved (ownsRow_moved HR4.out hmB (by omega)) hmR (by omega)) (fun k u x hu hx => fin _ _ (HF4.out k u x hu hx)) (Nat.le_refl _)).items

end Go.Proofs.YtpifbgefkbhopaaGreatDoor

namespace Go.Proofs.YtpifbgefkbhopaaGreatDoor
open Go.RowKit Go.Maps

theorem MemAt.moved {lo c : Nat} {blk : Option Nat} {w w' : World} {M : Mem} {v : Value} (h : MemAt lo blk w M v) (hm : Moved c w w') (hc : c < lo) : MemAt lo blk w' M v := by
  obtain ⟨u, vi, vp, rfl, h1, h2, h3⟩ := h
  exact ⟨u, vi, vp, rfl, h1.moved hm hc, h2.moved hm hc, h3.moved hm hc⟩
theorem MemAt.low {lo lo' : Nat} {blk : Option Nat} {w : World} {M : Mem} {v : Value} (h : MemAt lo blk w M v) (hl : lo' ≤ lo) : MemAt lo' blk w M v := by
  obtain ⟨u, vi, vp, rfl, h1, h2, h3⟩ := h
  exact ⟨u, vi, vp, rfl, h1.low hl, h2.low hl, h3.low hl⟩
theorem MemIn.sm {N : Nat} {M : Mem} (h : MemIn N M) (hN : N ≤ 100000) : MemSm M :=
  ⟨by have := szN_len M.it.ps; have := h.ip; omega, by have := h.len; omega, fun x hx => by have := szN_len x.ps; have := (h.its x hx).1; omega, by have := szN_len M.ps; have := h.ps; omega⟩

/-- The member of the first entry of a key. -/
def getM (es : List Ent) (k : List UInt8) : Option Mem := match es with
  | [] => none
  | e :: es => if (strB e.key).toList == (strB k).toList then some e.val else getM es k
def getPost (o : Option Mem) (w : World) (e : Ending) (w' : World) : Prop :=
  Below w.heap.size w w' ∧ match o with
    | none => e = .returned (.tuple #[noMem, .bool false])
    | some M => ∃ v, e = .returned (.tuple #[v, .bool true]) ∧ MemAt w.heap.size none w' M v

set_option maxRecDepth 100000 in
set_option maxHeartbeats 2000000 in
theorem get_any (v : Value) (es : List Ent) (k : List UInt8) (w : World) (h : GOff entR 0 none w v es) (hl : es.length ≤ 100000) (hk : ∀ p ∈ es, MemSm p.val) :
    Calls Tryz.prog 38 #[v, .string (strB k)] w (getPost (getM es k) w) := by
  obtain ⟨ao, cap, rfl, hc⟩ := h
  have HK := Lib.hid hk
  have HC := Lib.hid hc
  have HB0 : Hid (Below (w.heap.size + 1) (w.alloc zeroMem) (w.alloc zeroMem)) := Lib.hid (Below.refl _ _)
  clear hk hc
  go_enter Tryz.func38, Tryz.ntmps38
  go_wp2_with fail
  go_loopw [10] (fun i wr => ∃ (j : Nat), i = .int .i64 j ∧ j ≤ es.length ∧ Hid (getM es k = getM (es.drop j) k) ∧ Below (w.heap.size + 1) (w.alloc zeroMem) wr) (fun i _ => es.length - (intOf i).toNat)
  case atStart => exact ⟨0, rfl, Nat.zero_le _, Lib.hid rfl, HB0.out⟩
  case round =>
    obtain ⟨j, rfl, hj, HG, hkb⟩ := hrel
    clear HB0
    have hR := (ResM.made w).next hkb
    have hRl := hR.lt
    have hb : Below w.heap.size w wr := ((Below.refl w.heap.size w).alloc (Nat.le_refl _) zeroMem).trans (Below.mono hkb (by omega))
    by_cases hlt : j < es.length
    · rcases HC.out with hnil | ⟨c, off, rfl, _, _, hcl, hcell⟩
      · exfalso
        rw [hnil] at hlt
        simp at hlt
      · obtain ⟨p, hp⟩ : ∃ p, es[j]? = some p := ⟨_, List.getElem?_eq_getElem hlt⟩
        obtain ⟨⟨u, u2, u3⟩, hcs, hF⟩ := hcell j p hp
        have HF := Lib.hid hF
        obtain ⟨au, cu, rfl⟩ := hF.1.form
        obtain ⟨av, cv, rfl⟩ := hF.2.1.form
        obtain ⟨aw, cw, rfl⟩ := hF.2.2.form
        have q0 := hcs 0 (by decide)
        have q1 := hcs 1 (by decide)
        have q2 := hcs 2 (by decide)
        have q3 := hcs 3 (by decide)
        have q4 := hcs 4 (by decide)
        have q5 := hcs 5 (by decide)
        have q6 := hcs 6 (by decide)
        have q7 := hcs 7 (by decide)
        have hck : ∀ i, wr.cell? ⟨c, i, none⟩ = w.cell? ⟨c, i, none⟩ := fun i => hb.cell (p := ⟨c, i, none⟩) hcl
        have a0 := (hck _).trans q0
        have a1 := (hck _).trans q1
        have a2 := (hck _).trans q2
        have a3 := (hck _).trans q3
        have a4 := (hck _).trans q4
        have a5 := (hck _).trans q5
        have a6 := (hck _).trans q6
        have a7 := (hck _).trans q7
        simp only [Nat.add_zero, entR, memR, List.getElem?_cons_zero, List.getElem?_cons_succ] at a0 a1 a2 a3 a4 a5 a6 a7
        rw [drop_at es j p hp, getM] at HG
        have hbA : Below wr.heap.size wr (wr.alloc (entO (strB p.key) p.val.inner p.val.it.k p.val.it.n (strB p.val.it.s) (.slice au p.val.it.ps.length cu) (.slice av p.val.its.length cv) (.slice aw p.val.ps.length cw))) := (Below.refl _ _).alloc (Nat.le_refl _) _
        have hbw := hb.trans (hbA.mono hb.size)
        have cM := memberCopy_any p.val _ _ (show MemAt 0 none (wr.alloc (entO (strB p.key) p.val.inner p.val.it.k p.val.it.n (strB p.val.it.s) (.slice au p.val.it.ps.length cu) (.slice av p.val.its.length cv) (.slice aw p.val.ps.length cw))) p.val (aggM p.val.inner p.val.it.k p.val.it.n (strB p.val.it.s) (.slice au p.val.it.ps.length cu) (.slice av p.val.its.length cv) (.slice aw p.val.ps.length cw)) from ⟨_, _, _, rfl, HF.out.1.below hbw, HF.out.2.1.below hbw, HF.out.2.2.below hbw⟩) (HK.out p (List.mem_of_getElem? hp))
        have HKA := Lib.hid (hkb.trans (hbA.mono (Nat.succ_le_of_lt hRl)))
        clear hcell q0 q1 q2 q3 q4 q5 q6 q7 hcs hF hck hp hR hkb hb hbw
        cases he : ((strB p.key).toList == (strB k).toList)
        · rw [he, if_neg (by simp)] at HG
          clear cM
          generalize strB p.key = PK at *
          generalize strB p.val.it.s = SB at *
          generalize strB k = KB at *
          go_wp2_with fail
          go_roundw
          case rel => exact ⟨j + 1, by go_num, by omega, Lib.hid HG.out, HKA.out⟩
          case measure => simp [intOf]; omega
        · rw [he, if_pos rfl] at HG
          generalize strB p.key = PK at *
          generalize hSB : strB p.val.it.s = SB at *
          have HSB := Lib.hid hSB
          clear hSB
          generalize strB k = KB at *
          go_wp2_with fail
          refine cM.mono ?_
          rintro e w2 ⟨hb2, v', rfl, hMA⟩
          have hkb2 := HKA.out.trans (hb2.mono (by simp; omega))
          have hR2 := (ResM.made w).next hkb2
          have hRl2 := hR2.lt
          have HB2 : Hid (Below w.heap.size w w2) := Lib.hid (((Below.refl w.heap.size w).alloc (Nat.le_refl _) zeroMem).trans (Below.mono hkb2 (by omega)))
          have HMA := Lib.hid hMA
          obtain ⟨u', vi', vp', rfl, h1, h2, h3⟩ := hMA
          obtain ⟨b1, c1, rfl⟩ := h1.form
          obtain ⟨b2, c2, rfl⟩ := h2.form
          obtain ⟨b3, c3, rfl⟩ := h3.form
          obtain ⟨r0, r1, r2, r3, r4, r5, r6, g0, g1, g2, g3, g4, g5, g6⟩ := hR2
          clear h1 h2 h3 hb2 hkb2 cM
          go_wp2_with fail
          have hm : Moved w.heap.size w2 (((((((w2.setCell ⟨w.heap.size, 0, none⟩ (.bool p.val.inner)).setCell ⟨w.heap.size, 1, none⟩ (.int .i64 p.val.it.k)).setCell ⟨w.heap.size, 2, none⟩ (.int .i64 p.val.it.n)).setCell ⟨w.heap.size, 3, none⟩ (.string (strB p.val.it.s))).setCell ⟨w.heap.size, 4, none⟩ (.slice b1 p.val.it.ps.length c1)).setCell ⟨w.heap.size, 5, none⟩ (.slice b2 p.val.its.length c2)).setCell ⟨w.heap.size, 6, none⟩ (.slice b3 p.val.ps.length c3)) := by
            repeat (first | with_reducible refine Moved.setCell ?_ _)
            exact Moved.refl _ _
          have hml := (HMA.out.moved hm (by simp; omega)).low (lo' := w.heap.size) (by simp; omega)
          refine bodyPost_ret (v := .tuple #[aggM p.val.inner p.val.it.k p.val.it.n (strB p.val.it.s) (.slice b1 p.val.it.ps.length c1) (.slice b2 p.val.its.length c2) (.slice b3 p.val.ps.length c3), .bool true]) (by simp [results, Tryz.results38, go_sem, r0, r1, r2, r3, r4, r5, r6]) rfl ?_
          rw [HG.out]
          refine ⟨?_, _, rfl, hml⟩
          repeat (first | with_reducible refine Below.setCell ?_ (by simp) _)
          exact HB2.out
    · obtain rfl : j = es.length := by omega
      have HN : Hid (getM es k = none) := Lib.hid (by rw [HG.out, List.drop_length] <;> rfl)
      obtain ⟨r0, r1, r2, r3, r4, r5, r6, g0, g1, g2, g3, g4, g5, g6⟩ := hR
      have HB := Lib.hid hb
      clear HG hkb hb
      go_wp2_with fail
      refine bodyPost_ret (v := .tuple #[noMem, .bool false]) (by simp [results, Tryz.results38, go_sem, r0, r1, r2, r3, r4, r5, r6]) rfl ?_
      rw [HN.out]
      refine ⟨?_, rfl⟩
      repeat (first | with_reducible refine Below.setCell ?_ (by simp) _)
      exact HB.out

end Go.Proofs.YtpifbgefkbhopaaGreatDoor

namespace Go.Proofs.YtpifbgefkbhopaaGreatDoor
open Go.RowKit Go.Maps

theorem szGo_small : ∀ (ps : List Prm) (n : Nat), n + szN ps ≤ 90000 → szGo n ps = ((n + szN ps : Nat) : Int)
  | [], n, _ => by simp [szGo, szN]
  | p :: ps, n, h => by
    have hs : szN (p :: ps) = p.key.length + p.s.length + 1 + szN ps := by
      simp [szN]
    rw [hs] at h
    rw [szGo, if_pos (by omega), szStep_small _ _ (by omega) (by omega) (by omega)]
    have := szGo_small ps (n + (p.key.length + p.s.length + 1)) (by omega)
    rw [show (n : Int) + (p.key.length : Int) + (p.s.length : Int) + 1 = ((n + (p.key.length + p.s.length + 1) : Nat) : Int) by omega, this, hs]
    congr 1
    omega

/-- About how much there is of a member. -/
def itmsz : List Itm → Nat
  | [] => 0
  | x :: xs => szN x.ps + x.s.length + 1 + itmsz xs
def memsz (M : Mem) : Nat := szN M.ps + szN M.it.ps + M.it.s.length + 1 + itmsz M.its

abbrev heldS (w : World) (o p : Obj) (B B' : Nat) (v1 v2 a0 a1 a2 a3 b0 b1 b2 b3 : Value) (A A' : Nat) (c c' : Nat) (W : World) : Prop :=
  W.cell? ⟨B, 5, none⟩ = some v1 ∧ W.cell? ⟨B', 5, none⟩ = some v2 ∧ (W.cell? ⟨A, c, none⟩ = some a0 ∧ W.cell? ⟨A, c + 1, none⟩ = some a1 ∧ W.cell? ⟨A, c + 2, none⟩ = some a2 ∧ W.cell? ⟨A, c + 3, none⟩ = some a3) ∧ (W.cell? ⟨A', c', none⟩ = some b0 ∧ W.cell? ⟨A', c' + 1, none⟩ = some b1 ∧ W.cell? ⟨A', c' + 2, none⟩ = some b2 ∧ W.cell? ⟨A', c' + 3, none⟩ = some b3) ∧ Box2 w o p W
theorem heldS_next {w : World} {o p : Obj} {B B' : Nat} {v1 v2 a0 a1 a2 a3 b0 b1 b2 b3 : Value} {A A' c c' : Nat} {W W1 : World} (h : heldS w o p B B' v1 v2 a0 a1 a2 a3 b0 b1 b2 b3 A A' c c' W) (hb : Below W.heap.size W W1) : heldS w o p B B' v1 v2 a0 a1 a2 a3 b0 b1 b2 b3 A A' c c' W1 := by
  obtain ⟨h1, h2, ⟨x0, x1, x2, x3⟩, ⟨y0, y1, y2, y3⟩, h3⟩ := h
  have k : ∀ {b i : Nat} {v : Value}, W.cell? ⟨b, i, none⟩ = some v → W1.cell? ⟨b, i, none⟩ = some v := fun {b i v} hc => (hb.cell (p := ⟨b, i, none⟩) (lt_of_cell hc)).trans hc
  exact ⟨k h1, k h2, ⟨k x0, k x1, k x2, k x3⟩, ⟨k y0, k y1, k y2, k y3⟩, h3.next hb⟩

abbrev rmemO' (b : Bool) (k n : Int) (s : ByteArray) (u vi vp : Value) : Obj := .cells #[.bool b, .int .i64 k, .int .i64 n, .string s, u, vi, vp] 126

end Go.Proofs.YtpifbgefkbhopaaGreatDoor
