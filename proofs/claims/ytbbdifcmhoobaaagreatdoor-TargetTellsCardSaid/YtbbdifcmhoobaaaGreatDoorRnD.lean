/- The document's own Dots (sculleryref09). -/
import Derived.Test.YtbbdifcmhoobaaaGreatDoorTaG
import Derived.Test.YtbbdifcmhoobaaaGreatDoorTgS
namespace Go.Proofs.YtbbdifcmhoobaaaGreatDoor
open Go.RowKit

/-- The parts found so far: at place k, one begun at f. -/
def pI (l : List UInt8) (k f : Nat) (ps : List (List UInt8)) : Prop :=
  (k ≤ l.length ∧ partsL (l.drop 1) = ps ++ partsG (l.drop k) ((l.take k).drop f)) ∨ (k = l.length + 1 ∧ ps = partsL (l.drop 1))
theorem pI_start (l : List UInt8) (h : 1 ≤ l.length) : pI l 1 1 [] := by
  refine .inl ⟨h, ?_⟩
  rw [List.nil_append, partsL]
  congr 1
  exact (List.drop_of_length_le (by rw [List.length_take]; omega)).symm
theorem pI_last {l : List UInt8} {f : Nat} {ps : List (List UInt8)} (h : pI l l.length f ps) : pI l (l.length + 1) (l.length + 1) (ps ++ [(l.take l.length).drop f]) := by
  rcases h with ⟨_, h⟩ | ⟨h, _⟩
  · refine .inr ⟨rfl, ?_⟩
    rw [h, List.drop_length, partsG]
  · omega
theorem pI_slash {l : List UInt8} {k f : Nat} {ps : List (List UInt8)} (h : pI l k f ps) (hk : k < l.length) (hd : l.drop k = 47 :: l.drop (k + 1)) : pI l (k + 1) (k + 1) (ps ++ [(l.take k).drop f]) := by
  rcases h with ⟨_, h⟩ | ⟨h, _⟩
  · refine .inl ⟨hk, ?_⟩
    have e : (l.take (k + 1)).drop (k + 1) = [] := List.drop_of_length_le (by rw [List.length_take]; omega)
    rw [h, hd, partsG, if_pos rfl, e, List.append_assoc]
    rfl
  · omega
theorem pI_other {l : List UInt8} {k f : Nat} {c : UInt8} {ps : List (List UInt8)} (h : pI l k f ps) (hk : k < l.length) (hf : f ≤ k) (hd : l.drop k = c :: l.drop (k + 1)) (hc : c ≠ 47) : pI l (k + 1) f ps := by
  rcases h with ⟨_, h⟩ | ⟨h, _⟩
  · refine .inl ⟨hk, ?_⟩
    have e : (l.take (k + 1)).drop f = (l.take k).drop f ++ [c] := by
      have hg : l[k]? = some c := by
        have := congrArg List.head? hd
        rwa [List.head?_drop, List.head?_cons] at this
      rw [List.take_add_one, hg, Option.toList_some, List.drop_append_of_le_length (by rw [List.length_take]; omega)]
    rw [h, hd, partsG, if_neg hc, e]
  · omega
theorem cut_data (s : ByteArray) (f k : Nat) : s.extract f k = strB ((s.data.toList.take k).drop f) := by
  rw [← strB_of (s.extract f k), Lib.extract_data, List.drop_take]
theorem lensP_take : ∀ (ps : List (List UInt8)) (i : Nat), lensP (ps.take i) ≤ lensP ps
  | [], i => by simp
  | p :: ps, 0 => by simp [lensP]
  | p :: ps, i + 1 => by
    have := lensP_take ps i
    rw [List.take_succ_cons, lensP, lensP]
    omega
theorem remL_lens (ps : List (List UInt8)) : lensP (remL ps) ≤ lensP ps + 1 := by
  have h1 := kept_lens ps []
  rw [remL, lensP_app, keepL]
  simp only [lensP] at h1
  split
  · simp only [lensP, List.length_nil]; omega
  · simp only [lensP]; omega
theorem lensP_len (ps : List (List UInt8)) : ps.length ≤ lensP ps := by
  induction ps with
  | nil => simp
  | cons p ps ih => rw [lensP, List.length_cons]; omega
theorem outL_nil {ps : List (List UInt8)} (h : outL ps = []) : ps = [] := by
  cases ps with
  | nil => rfl
  | cons p ps => cases h

set_option maxRecDepth 100000 in
set_option maxHeartbeats 8000000 in
theorem ndots_slash (s : ByteArray) (r : List UInt8) (w : World) (hs : s.size ≤ 100000) (hr : s.data.toList = 47 :: r) :
    Calls Tryz.prog 12 #[.string s] w fun e w' => e = .returned (.string (strB (dotsL (47 :: r)))) ∧ Below w.heap.size w w' := by
  obtain ⟨i0, hi, hz0, hz1, hz2⟩ := info_parts info_strT
  have hz := Lib.hid (Lib.size_eq s)
  have h1l : 1 ≤ s.data.toList.length := by rw [hr, List.length_cons]; omega
  have h0 : 0 < s.size := by rw [hz.out]; omega
  have he : s.toList.isEmpty = false := by rw [Lib.toList_data, hr]; rfl
  have x0 : s[0]'h0 = 47 := by
    have hl : 0 < s.data.toList.length := h1l
    have : s.data.toList[0]? = some (s[0]'h0) := by rw [List.getElem?_eq_getElem hl]; rfl
    rw [hr] at this
    exact (Option.some.inj this).symm
  have g4 : (((s[0]'h0).toNat : Int) == 47) = true := by rw [x0]; rfl
  have g4b : (((s[0]'h0).toNat : Int) != 47) = false := by rw [x0]; rfl
  have HP0 := Lib.hid (pI_start s.data.toList h1l)
  have HD : Hid (s.data.toList.drop 1 = r) := Lib.hid (by rw [hr]; rfl)
  clear hr x0 h1l
  go_enter Tryz.func12, Tryz.ntmps12
  go_wp2_with fail
  go_loopw [3, 4, 5] (fun v3 v4 v5 wr => ∃ (k f g n cap : Nat) (ps : List (List UInt8)), v3 = .slice (some ⟨g, 0, none⟩) n cap ∧ v4 = .int .i64 f ∧ v5 = .int .i64 k ∧ 1 ≤ k ∧ k ≤ s.size + 1 ∧ f ≤ k ∧ n ≤ k ∧ KRow wr w.heap.size 9 g n cap (rowT ps) ∧ Hid (pI s.data.toList k f ps) ∧ Below w.heap.size w wr) (fun _ _ v5 _ => s.size + 1 - (intOf v5).toNat)
  case atStart => exact ⟨1, 1, w.heap.size, 0, 0, [], rfl, rfl, rfl, by omega, by omega, by omega, by omega, ⟨rfl, Nat.le_refl _, Nat.le_refl _, by decide, _, heap_alloc_new w _, Nat.le_refl _, rfl⟩, HP0.out, (Below.refl _ _).alloc (Nat.le_refl _) _⟩
  case round =>
    obtain ⟨k, f, g, n, cap, ps, rfl, rfl, rfl, hk1, hk2, hfk, hnk, hkr, HP, hb⟩ := hrel
    clear HP0
    by_cases hle : k ≤ s.size
    · have hkl := hkr.1
      rw [rowT_len] at hkl
      have c0 : (k : Int) ≤ (s.size : Int) := by omega
      have d1 : (0 : Int) ≤ (f : Int) := by omega
      have d2 : (f : Int) ≤ (k : Int) := by omega
      have hcd := cut_data s f k
      have hK1 := hkr.alloc (.cells #[.string (s.extract f k)] 9)
      have hnew : (wr.alloc (.cells #[.string (s.extract f k)] 9)).cell? ⟨wr.heap.size, 0, none⟩ = some (.string (s.extract f k)) := by simp
      have Hrow : Hid (rowT ps ++ [.string (s.extract f k)] = rowT (ps ++ [(s.data.toList.take k).drop f])) := Lib.hid (by rw [hcd]; exact rowT_snoc _ _)
      have HB := Lib.hid hb
      have hbs := hb.size
      have hbl := hkr.lt.1
      have HB1 := Lib.hid (hb.alloc hb.size (.cells #[.string (s.extract f k)] 9))
      clear hcd
      by_cases hlt : k < s.size
      · have c1 : ((k : Int) == (s.size : Int)) = false := by
          have : ¬ (k : Int) = (s.size : Int) := by omega
          simpa using this
        have hd := Lib.hid (drop_cons_at s k hlt)
        cases e0 : (((s[k]'hlt).toNat : Int) == 47)
        · have HN : Hid (pI s.data.toList (k + 1) f ps) := Lib.hid (pI_other HP.out (by rw [← hz.out]; exact hlt) hfk hd.out (by
            intro h
            rw [h] at e0
            exact absurd e0 (by decide)))
          clear hK1 hnew hb HB1
          go_wp2_with fail
          go_roundw
          case rel => exact ⟨k + 1, f, g, n, cap, ps, rfl, rfl, by go_num, by omega, by omega, by omega, by omega, hkr, HN, HB.out⟩
          case measure => simp [intOf]; omega
        · have h47 : s[k]'hlt = 47 := by
            have := byte_beq (s[k]'hlt) 47
            rw [show (((47 : UInt8).toNat : Int)) = 47 from rfl, e0] at this
            exact beq_iff_eq.1 this.symm
          have hd2 := hd.out
          rw [h47] at hd2
          have HN : Hid (pI s.data.toList (k + 1) (k + 1) (ps ++ [(s.data.toList.take k).drop f])) := Lib.hid (pI_slash HP.out (by rw [← hz.out]; exact hlt) hd2)
          clear hd2 h47 hb
          go_wp2_with (at_builtin; refine wpList_append_kept _ rfl _ _ 52 rfl w.heap.size 9 i0 (.string ⟨#[]⟩) 16 Tryz.underlying52 hi hz0 hz1 hz2 rfl g n cap (rowT ps) rfl hK1 ⟨_, 0, none⟩ 1 (.string (s.extract f k)) rfl hnew rfl (by unfold maxLen; omega) (by omega) (by simp; omega) ?_; intro g5 c5 w5 hk5)
          obtain ⟨k1, k2, k3, k4⟩ := hk5
          rw [Hrow.out] at k1
          go_roundw
          case rel => exact ⟨k + 1, k + 1, g5, n + 1, c5, _, rfl, by go_num, by go_num, by omega, by omega, by omega, by omega, k1, HN, HB1.out.grown k2 (by simp; omega) (fun k e => by cases e; exact hbl)⟩
          case measure => simp [intOf]; omega
      · have hks : k = s.size := by omega
        have c1 : ((k : Int) == (s.size : Int)) = true := by rw [hks]; exact beq_self_eq_true _
        have HN : Hid (pI s.data.toList (k + 1) (k + 1) (ps ++ [(s.data.toList.take k).drop f])) := Lib.hid (by
          have hkk : k = s.data.toList.length := by rw [← hz.out]; exact hks
          have := HP.out
          rw [hkk] at this ⊢
          exact pI_last this)
        clear hb hks hlt
        go_wp2_with (at_builtin; refine wpList_append_kept _ rfl _ _ 52 rfl w.heap.size 9 i0 (.string ⟨#[]⟩) 16 Tryz.underlying52 hi hz0 hz1 hz2 rfl g n cap (rowT ps) rfl hK1 ⟨_, 0, none⟩ 1 (.string (s.extract f k)) rfl hnew rfl (by unfold maxLen; omega) (by omega) (by simp; omega) ?_; intro g5 c5 w5 hk5)
        obtain ⟨k1, k2, k3, k4⟩ := hk5
        rw [Hrow.out] at k1
        go_roundw
        case rel => exact ⟨k + 1, k + 1, g5, n + 1, c5, _, rfl, by go_num, by go_num, by omega, by omega, by omega, by omega, k1, HN, HB1.out.grown k2 (by simp; omega) (fun k e => by cases e; exact hbl)⟩
        case measure => simp [intOf]; omega
    · have c0 : ¬ (k : Int) ≤ (s.size : Int) := by omega
      have HPS : Hid (ps = partsL r) := Lib.hid (by
        rcases HP.out with ⟨h, _⟩ | ⟨_, h⟩
        · rw [← hz.out] at h; omega
        · rw [h, HD.out])
      have hkl := hkr.1
      rw [rowT_len] at hkl
      have hn0 : 0 < n := by
        rw [← hkl, HPS.out]
        exact List.length_pos_iff.2 (partsG_ne r [])
      have HLS : Hid (lensP ps ≤ s.size) := Lib.hid (by
        have h9 := congrArg List.length HD.out
        rw [List.length_drop, ← hz.out] at h9
        rw [HPS.out, partsL, partsG_lens]
        simp only [List.length_nil]
        omega)
      have HCL : Hid (∀ j q, ps[j]? = some q → wr.cell? ⟨g, j, none⟩ = some (.string (strB q))) := Lib.hid (fun j q hj => hkr.cell j _ (by rw [rowT, List.getElem?_map, hj]; rfl))
      have hgl := hkr.lt.2
      have hmc1 := hkr.2.2.1
      have HB := Lib.hid hb
      have hbs := hb.size
      have hn2 : n ≤ 100001 := by omega
      clear hb hkr HP HD hle
      rename World => W1
      go_wp2_with fail
      go_loopw [6, 7] (fun v6 v7 wr => ∃ (k2 g2 m cap2 : Nat) (kept : List (List UInt8)), v6 = .slice (some ⟨g2, 0, none⟩) m cap2 ∧ v7 = .int .i64 k2 ∧ k2 ≤ n ∧ m ≤ k2 ∧ KRow wr W1.heap.size 9 g2 m cap2 (rowT kept) ∧ Hid (kept = (ps.take k2).foldl keepS []) ∧ Below W1.heap.size W1 wr) (fun _ v7 _ => n - (intOf v7).toNat)
      case atStart => exact ⟨0, W1.heap.size, 0, 0, [], rfl, rfl, Nat.zero_le _, Nat.zero_le _, ⟨rfl, Nat.le_refl _, Nat.le_refl _, by decide, _, heap_alloc_new W1 _, Nat.le_refl _, rfl⟩, Lib.hid rfl, (Below.refl _ _).alloc (Nat.le_refl _) _⟩
      case round =>
        obtain ⟨k2, g2, m, cap2, kept, rfl, rfl, hk3, hmk, hkr, HK, hb2⟩ := hrel
        by_cases hlt : k2 < n
        · obtain ⟨p, hp⟩ : ∃ p, ps[k2]? = some p := ⟨_, List.getElem?_eq_getElem (by omega)⟩
          have a0 := (hb2.cell (p := ⟨g, k2, none⟩) hgl).trans (HCL.out k2 p hp)
          have Htk : Hid ((ps.take (k2 + 1)).foldl keepS [] = keepS kept p) := Lib.hid (by
            rw [List.take_add_one, hp, List.foldl_append, HK.out]
            rfl)
          have HB2 := Lib.hid hb2
          have HKR := Lib.hid hkr
          have hkl2 := hkr.1
          rw [rowT_len] at hkl2
          have hmc := hkr.2.2.1
          have hTl := strB_toList p
          have hbs2 := hb2.size
          have c2 : (k2 : Int) < (n : Int) := by omega
          clear hp hb2 hkr
          by_cases h1 : p = [46]
          · have e1 : (strB p).toList = [46] := by rw [hTl, h1]
            have HN : Hid (kept = (ps.take (k2 + 1)).foldl keepS []) := Lib.hid (by rw [Htk.out, keepS, if_pos h1])
            clear hTl h1
            generalize strB p = S at *
            go_wp2_with fail
            go_roundw
            case rel => exact ⟨k2 + 1, g2, m, cap2, kept, rfl, by go_num, by omega, by omega, HKR.out, HN, HB2.out⟩
            case measure => simp [intOf]; omega
          · have f1 : ((strB p).toList == [46]) = false := by rw [hTl]; simpa using h1
            have f2 : ¬ (strB p).toList = [46] := by rw [hTl]; exact h1
            by_cases h2 : p = [46, 46]
            · have e2 : (strB p).toList = [46, 46] := by rw [hTl, h2]
              have HN : Hid (kept.dropLast = (ps.take (k2 + 1)).foldl keepS []) := Lib.hid (by rw [Htk.out, keepS, if_neg h1, if_pos h2])
              have HP2 := Lib.hid (krow_pop HKR.out)
              clear hTl h1 h2 f2
              generalize strB p = S at *
              cases m with
              | zero =>
                go_wp2_with fail
                go_roundw
                case rel => exact ⟨k2 + 1, g2, 0, cap2, kept.dropLast, rfl, by go_num, by omega, by omega, HP2.out, HN, HB2.out⟩
                case measure => simp [intOf]; omega
              | succ m =>
                have q1 : ((m + 1 : Nat) : Int) - 1 = (m : Int) := by omega
                have q2 : (0 : Int) < ((m + 1 : Nat) : Int) := by omega
                have q3 : (0 : Int) < (m : Int) + 1 := by omega
                go_wp2_with fail
                go_roundw
                case rel => exact ⟨k2 + 1, g2, m, cap2, kept.dropLast, rfl, by go_num, by omega, by omega, HP2.out, HN, HB2.out⟩
                case measure => simp [intOf]; omega
            · have f3 : ((strB p).toList == [46, 46]) = false := by rw [hTl]; simpa using h2
              have f4 : ¬ (strB p).toList = [46, 46] := by rw [hTl]; exact h2
              have HN : Hid (kept ++ [p] = (ps.take (k2 + 1)).foldl keepS []) := Lib.hid (by rw [Htk.out, keepS, if_neg h1, if_neg h2])
              have hK1 := HKR.out.alloc (.cells #[.string (strB p)] 9)
              have Hrow : Hid (rowT kept ++ [.string (strB p)] = rowT (kept ++ [p])) := Lib.hid (rowT_snoc _ _)
              have hnew : (wr.alloc (.cells #[.string (strB p)] 9)).cell? ⟨wr.heap.size, 0, none⟩ = some (.string (strB p)) := by simp
              have HB3 := Lib.hid (HB2.out.alloc HB2.out.size (.cells #[.string (strB p)] 9))
              clear hTl h1 h2
              generalize strB p = S at *
              go_wp2_with (at_builtin; refine wpList_append_kept _ rfl _ _ 52 rfl W1.heap.size 9 i0 (.string ⟨#[]⟩) 16 Tryz.underlying52 hi hz0 hz1 hz2 rfl g2 m cap2 (rowT kept) rfl hK1 ⟨_, 0, none⟩ 1 (.string S) rfl hnew rfl (by unfold maxLen; omega) (by omega) (by simp; omega) ?_; intro g5 c5 w5 hk5)
              obtain ⟨j1, j2, j3, j4⟩ := hk5
              rw [Hrow.out] at j1
              go_roundw
              case rel => exact ⟨k2 + 1, g5, m + 1, c5, kept ++ [p], rfl, by go_num, by omega, by omega, j1, HN, HB3.out.grown j2 (by simp; omega) (fun k e => by cases e; exact HKR.out.lt.1)⟩
              case measure => simp [intOf]; omega
        · have c2 : ¬ (k2 : Int) < (n : Int) := by omega
          have HKL : Hid (kept = keepL ps) := Lib.hid (by rw [HK.out, List.take_of_length_le (by omega)]; rfl)
          obtain ⟨q, hq⟩ : ∃ q, ps.getLastD [] = q := ⟨_, rfl⟩
          have hql : ps[n - 1]? = some q := by rw [← hq, ← hkl]; exact last_at ps (by rw [hkl]; exact hn0)
          have a0 := (hb2.cell (p := ⟨g, n - 1, none⟩) hgl).trans (HCL.out (n - 1) q hql)
          have HB2 := Lib.hid hb2
          have HKR := Lib.hid hkr
          have hkl2 := hkr.1
          rw [rowT_len] at hkl2
          have hmc := hkr.2.2.1
          have hbs2 := hb2.size
          have d1 : ((n : Int) - 1) = ((n - 1 : Nat) : Int) := by omega
          have d2 : n - 1 < n := by omega
          have d3 : ((n - 1 : Nat) : Int) < (n : Int) := by omega
          have HQ := Lib.hid hq
          have hTl := strB_toList q
          clear hq hql hb2 hkr HK hlt
          rename World => W2
          cases hd : dotS q
          · have HR : Hid (remL ps = kept) := Lib.hid (by rw [remL, HQ.out, hd, HKL.out]; simp)
            rw [dotS, Bool.or_eq_false_iff, ← hTl] at hd
            obtain ⟨f1, f3⟩ := hd
            have f2 : ¬ (strB q).toList = [46] := by simpa using f1
            have f4 : ¬ (strB q).toList = [46, 46] := by simpa using f3
            clear hTl
            generalize strB q = S at *
            go_wp2_with fail
            have HKC : Hid (∀ j t, (kept)[j]? = some t → W2.cell? ⟨g2, j, none⟩ = some (.string (strB t))) := Lib.hid (fun j t hj => HKR.out.cell j _ (by rw [rowT, List.getElem?_map, hj]; rfl))
            have hM : (kept).length = m := hkl2
            have hMc := HKR.out.2.2.1
            have HLK : Hid (lensP (kept) ≤ s.size + 1) := Lib.hid (by rw [← HR.out]; have := remL_lens ps; have := HLS.out; omega)
            have hM2 : m ≤ 100001 := by
              have := lensP_len (kept)
              have := HLK.out
              omega
            have HBF := Lib.hid (HB.out.trans (HB2.out.mono HB.out.size))
            have HFIN : Hid (dotsL (47 :: r) = if kept = [] then [47] else outL (kept)) := Lib.hid (by rw [dotsL, if_pos rfl, ← remL_kpt, ← HPS.out, HR.out])
            clear HKR HB2 HPS HR
            go_loop [9, 10] (fun v9 v10 => ∃ (k4 : Nat) (O : ByteArray), v9 = .string O ∧ v10 = .int .i64 k4 ∧ k4 ≤ m ∧ O.size ≤ 100001 ∧ Hid (O = strB (outL ((kept).take k4)))) (fun _ v10 => m - (intOf v10).toNat)
            case atStart => exact ⟨0, ⟨#[]⟩, rfl, rfl, Nat.zero_le _, by decide, Lib.hid (by rw [List.take_zero]; rfl)⟩
            case round =>
              obtain ⟨k4, O, rfl, rfl, hk4, hOz, HO⟩ := hrel
              by_cases hl4 : k4 < m
              · obtain ⟨t, ht⟩ : ∃ t, (kept)[k4]? = some t := ⟨_, List.getElem?_eq_getElem (by omega)⟩
                have a4 := HKC.out k4 t ht
                have c4 : (k4 : Int) < (m : Int) := by omega
                have Hnx : Hid (O ++ (⟨#[47]⟩ : ByteArray) ++ strB t = strB (outL ((kept).take (k4 + 1)))) := Lib.hid (by
                  rw [HO.out, show (⟨#[47]⟩ : ByteArray) = strB [47] from rfl, strB_append, strB_append, List.take_add_one, ht, Option.toList_some, outL_snoc]
                  simp)
                have hOz2 : (O ++ (⟨#[47]⟩ : ByteArray) ++ strB t).size ≤ 100001 := by
                  rw [Hnx.out, strB_size, outL_len]
                  have := lensP_take (kept) (k4 + 1)
                  have := HLK.out
                  omega
                have tz : (strB t).size ≤ 100001 := by
                  rw [Lib.size_eq, append_data, append_data] at hOz2
                  simp only [List.length_append] at hOz2
                  rw [Lib.size_eq]
                  omega
                have Hz2 := Lib.hid hOz2
                clear ht hOz2
                generalize strB t = ST at *
                go_wp2_with fail
                go_round
                case rel => exact ⟨k4 + 1, _, rfl, by go_num, by omega, Hz2.out, Hnx⟩
                case measure => simp [intOf]; omega
              · have c4 : ¬ (k4 : Int) < (m : Int) := by omega
                have HOF : Hid (O = strB (outL (kept))) := Lib.hid (by rw [HO.out, List.take_of_length_le (by omega)])
                clear HO hl4
                by_cases hks : kept = []
                · have HF2 : Hid (dotsL (47 :: r) = [47]) := Lib.hid (by rw [HFIN.out, if_pos hks])
                  have e9 : O.toList.isEmpty = true := by rw [HOF.out, strB_toList, hks]; rfl
                  have e10 : O.toList = [] := by rw [HOF.out, strB_toList, hks]; rfl
                  clear hks
                  go_wp2_with fail
                  go_ret
                  exact ⟨by rw [HF2.out] <;> rfl, HBF.out⟩
                · have HF2 : Hid (strB (dotsL (47 :: r)) = O) := Lib.hid (by rw [HFIN.out, if_neg hks, HOF.out])
                  have hon : outL (kept) ≠ [] := fun h => hks (outL_nil h)
                  have e9 : O.toList.isEmpty = false := by
                    rw [HOF.out, strB_toList]
                    cases hq9 : outL (kept) with
                    | nil => exact absurd hq9 hon
                    | cons a b => rfl
                  have e10 : ¬ O.toList = [] := by rw [HOF.out, strB_toList]; exact hon
                  clear hks hon
                  go_wp2_with fail
                  go_ret
                  exact ⟨by rw [HF2.out] <;> rfl, HBF.out⟩
          · have HR : Hid (remL ps = kept ++ [[]]) := Lib.hid (by rw [remL, HQ.out, hd, HKL.out]; rfl)
            rw [dotS, ← hTl] at hd
            have hK1 := HKR.out.alloc (.cells #[.string ⟨#[]⟩] 9)
            have Hrow : Hid (rowT kept ++ [.string ⟨#[]⟩] = rowT (kept ++ [[]])) := Lib.hid (rowT_snoc kept [])
            have hnew : (W2.alloc (.cells #[.string ⟨#[]⟩] 9)).cell? ⟨W2.heap.size, 0, none⟩ = some (.string ⟨#[]⟩) := by simp
            have HB3 := Lib.hid (HB2.out.alloc HB2.out.size (.cells #[.string ⟨#[]⟩] 9))
            clear hTl
            generalize strB q = S at *
            cases f1 : (S.toList == [46])
            · rw [f1, Bool.false_or] at hd
              have f3 : S.toList = [46, 46] := by simpa using hd
              clear hd f1
              go_wp2_with (at_builtin; refine wpList_append_kept _ rfl _ _ 52 rfl W1.heap.size 9 i0 (.string ⟨#[]⟩) 16 Tryz.underlying52 hi hz0 hz1 hz2 rfl g2 m cap2 (rowT kept) rfl hK1 ⟨_, 0, none⟩ 1 (.string ⟨#[]⟩) rfl hnew rfl (by unfold maxLen; omega) (by omega) (by simp; omega) ?_; intro g5 c5 w5 hk5)
              obtain ⟨j1, j2, j3, j4⟩ := hk5
              rw [Hrow.out] at j1
              have HB5 := Lib.hid (HB3.out.grown j2 (by simp; omega) (fun k e => by cases e; exact HKR.out.lt.1))
              clear HB3 j2 j3 j4
              have HKC : Hid (∀ j t, (kept ++ [[]])[j]? = some t → w5.cell? ⟨g5, j, none⟩ = some (.string (strB t))) := Lib.hid (fun j t hj => j1.cell j _ (by rw [rowT, List.getElem?_map, hj]; rfl))
              have hM : (kept ++ [[]]).length = (m + 1) := by rw [List.length_append, hkl2]; rfl
              have hMc := j1.2.2.1
              have HLK : Hid (lensP (kept ++ [[]]) ≤ s.size + 1) := Lib.hid (by rw [← HR.out]; have := remL_lens ps; have := HLS.out; omega)
              have hM2 : (m + 1) ≤ 100001 := by
                have := lensP_len (kept ++ [[]])
                have := HLK.out
                omega
              have HBF := Lib.hid (HB.out.trans (HB5.out.mono HB.out.size))
              have HFIN : Hid (dotsL (47 :: r) = if kept ++ [[]] = [] then [47] else outL (kept ++ [[]])) := Lib.hid (by rw [dotsL, if_pos rfl, ← remL_kpt, ← HPS.out, HR.out])
              clear HKR HB2 HPS HR
              go_loop [9, 10] (fun v9 v10 => ∃ (k4 : Nat) (O : ByteArray), v9 = .string O ∧ v10 = .int .i64 k4 ∧ k4 ≤ (m + 1) ∧ O.size ≤ 100001 ∧ Hid (O = strB (outL ((kept ++ [[]]).take k4)))) (fun _ v10 => (m + 1) - (intOf v10).toNat)
              case atStart => exact ⟨0, ⟨#[]⟩, rfl, rfl, Nat.zero_le _, by decide, Lib.hid (by rw [List.take_zero]; rfl)⟩
              case round =>
                obtain ⟨k4, O, rfl, rfl, hk4, hOz, HO⟩ := hrel
                by_cases hl4 : k4 < (m + 1)
                · obtain ⟨t, ht⟩ : ∃ t, (kept ++ [[]])[k4]? = some t := ⟨_, List.getElem?_eq_getElem (by omega)⟩
                  have a4 := HKC.out k4 t ht
                  have c4 : (k4 : Int) < ((m + 1 : Nat) : Int) := by omega
                  have Hnx : Hid (O ++ (⟨#[47]⟩ : ByteArray) ++ strB t = strB (outL ((kept ++ [[]]).take (k4 + 1)))) := Lib.hid (by
                    rw [HO.out, show (⟨#[47]⟩ : ByteArray) = strB [47] from rfl, strB_append, strB_append, List.take_add_one, ht, Option.toList_some, outL_snoc]
                    simp)
                  have hOz2 : (O ++ (⟨#[47]⟩ : ByteArray) ++ strB t).size ≤ 100001 := by
                    rw [Hnx.out, strB_size, outL_len]
                    have := lensP_take (kept ++ [[]]) (k4 + 1)
                    have := HLK.out
                    omega
                  have tz : (strB t).size ≤ 100001 := by
                    rw [Lib.size_eq, append_data, append_data] at hOz2
                    simp only [List.length_append] at hOz2
                    rw [Lib.size_eq]
                    omega
                  have Hz2 := Lib.hid hOz2
                  clear ht hOz2
                  generalize strB t = ST at *
                  go_wp2_with fail
                  go_round
                  case rel => exact ⟨k4 + 1, _, rfl, by go_num, by omega, Hz2.out, Hnx⟩
                  case measure => simp [intOf]; omega
                · have c4 : ¬ (k4 : Int) < ((m + 1 : Nat) : Int) := by omega
                  have HOF : Hid (O = strB (outL (kept ++ [[]]))) := Lib.hid (by rw [HO.out, List.take_of_length_le (by omega)])
                  clear HO hl4
                  by_cases hks : kept ++ [[]] = []
                  · have HF2 : Hid (dotsL (47 :: r) = [47]) := Lib.hid (by rw [HFIN.out, if_pos hks])
                    have e9 : O.toList.isEmpty = true := by rw [HOF.out, strB_toList, hks]; rfl
                    have e10 : O.toList = [] := by rw [HOF.out, strB_toList, hks]; rfl
                    clear hks
                    go_wp2_with fail
                    go_ret
                    exact ⟨by rw [HF2.out] <;> rfl, HBF.out⟩
                  · have HF2 : Hid (strB (dotsL (47 :: r)) = O) := Lib.hid (by rw [HFIN.out, if_neg hks, HOF.out])
                    have hon : outL (kept ++ [[]]) ≠ [] := fun h => hks (outL_nil h)
                    have e9 : O.toList.isEmpty = false := by
                      rw [HOF.out, strB_toList]
                      cases hq9 : outL (kept ++ [[]]) with
                      | nil => exact absurd hq9 hon
                      | cons a b => rfl
                    have e10 : ¬ O.toList = [] := by rw [HOF.out, strB_toList]; exact hon
                    clear hks hon
                    go_wp2_with fail
                    go_ret
                    exact ⟨by rw [HF2.out] <;> rfl, HBF.out⟩
            · have f3 : S.toList = [46] := by simpa using f1
              clear hd f1
              go_wp2_with (at_builtin; refine wpList_append_kept _ rfl _ _ 52 rfl W1.heap.size 9 i0 (.string ⟨#[]⟩) 16 Tryz.underlying52 hi hz0 hz1 hz2 rfl g2 m cap2 (rowT kept) rfl hK1 ⟨_, 0, none⟩ 1 (.string ⟨#[]⟩) rfl hnew rfl (by unfold maxLen; omega) (by omega) (by simp; omega) ?_; intro g5 c5 w5 hk5)
              obtain ⟨j1, j2, j3, j4⟩ := hk5
              rw [Hrow.out] at j1
              have HB5 := Lib.hid (HB3.out.grown j2 (by simp; omega) (fun k e => by cases e; exact HKR.out.lt.1))
              clear HB3 j2 j3 j4
              have HKC : Hid (∀ j t, (kept ++ [[]])[j]? = some t → w5.cell? ⟨g5, j, none⟩ = some (.string (strB t))) := Lib.hid (fun j t hj => j1.cell j _ (by rw [rowT, List.getElem?_map, hj]; rfl))
              have hM : (kept ++ [[]]).length = (m + 1) := by rw [List.length_append, hkl2]; rfl
              have hMc := j1.2.2.1
              have HLK : Hid (lensP (kept ++ [[]]) ≤ s.size + 1) := Lib.hid (by rw [← HR.out]; have := remL_lens ps; have := HLS.out; omega)
              have hM2 : (m + 1) ≤ 100001 := by
                have := lensP_len (kept ++ [[]])
                have := HLK.out
                omega
              have HBF := Lib.hid (HB.out.trans (HB5.out.mono HB.out.size))
              have HFIN : Hid (dotsL (47 :: r) = if kept ++ [[]] = [] then [47] else outL (kept ++ [[]])) := Lib.hid (by rw [dotsL, if_pos rfl, ← remL_kpt, ← HPS.out, HR.out])
              clear HKR HB2 HPS HR
              go_loop [9, 10] (fun v9 v10 => ∃ (k4 : Nat) (O : ByteArray), v9 = .string O ∧ v10 = .int .i64 k4 ∧ k4 ≤ (m + 1) ∧ O.size ≤ 100001 ∧ Hid (O = strB (outL ((kept ++ [[]]).take k4)))) (fun _ v10 => (m + 1) - (intOf v10).toNat)
              case atStart => exact ⟨0, ⟨#[]⟩, rfl, rfl, Nat.zero_le _, by decide, Lib.hid (by rw [List.take_zero]; rfl)⟩
              case round =>
                obtain ⟨k4, O, rfl, rfl, hk4, hOz, HO⟩ := hrel
                by_cases hl4 : k4 < (m + 1)
                · obtain ⟨t, ht⟩ : ∃ t, (kept ++ [[]])[k4]? = some t := ⟨_, List.getElem?_eq_getElem (by omega)⟩
                  have a4 := HKC.out k4 t ht
                  have c4 : (k4 : Int) < ((m + 1 : Nat) : Int) := by omega
                  have Hnx : Hid (O ++ (⟨#[47]⟩ : ByteArray) ++ strB t = strB (outL ((kept ++ [[]]).take (k4 + 1)))) := Lib.hid (by
                    rw [HO.out, show (⟨#[47]⟩ : ByteArray) = strB [47] from rfl, strB_append, strB_append, List.take_add_one, ht, Option.toList_some, outL_snoc]
                    simp)
                  have hOz2 : (O ++ (⟨#[47]⟩ : ByteArray) ++ strB t).size ≤ 100001 := by
                    rw [Hnx.out, strB_size, outL_len]
                    have := lensP_take (kept ++ [[]]) (k4 + 1)
                    have := HLK.out
                    omega
                  have tz : (strB t).size ≤ 100001 := by
                    rw [Lib.size_eq, append_data, append_data] at hOz2
                    simp only [List.length_append] at hOz2
                    rw [Lib.size_eq]
                    omega
                  have Hz2 := Lib.hid hOz2
                  clear ht hOz2
                  generalize strB t = ST at *
                  go_wp2_with fail
                  go_round
                  case rel => exact ⟨k4 + 1, _, rfl, by go_num, by omega, Hz2.out, Hnx⟩
                  case measure => simp [intOf]; omega
                · have c4 : ¬ (k4 : Int) < ((m + 1 : Nat) : Int) := by omega
                  have HOF : Hid (O = strB (outL (kept ++ [[]]))) := Lib.hid (by rw [HO.out, List.take_of_length_le (by omega)])
                  clear HO hl4
                  by_cases hks : kept ++ [[]] = []
                  · have HF2 : Hid (dotsL (47 :: r) = [47]) := Lib.hid (by rw [HFIN.out, if_pos hks])
                    have e9 : O.toList.isEmpty = true := by rw [HOF.out, strB_toList, hks]; rfl
                    have e10 : O.toList = [] := by rw [HOF.out, strB_toList, hks]; rfl
                    clear hks
                    go_wp2_with fail
                    go_ret
                    exact ⟨by rw [HF2.out] <;> rfl, HBF.out⟩
                  · have HF2 : Hid (strB (dotsL (47 :: r)) = O) := Lib.hid (by rw [HFIN.out, if_neg hks, HOF.out])
                    have hon : outL (kept ++ [[]]) ≠ [] := fun h => hks (outL_nil h)
                    have e9 : O.toList.isEmpty = false := by
                      rw [HOF.out, strB_toList]
                      cases hq9 : outL (kept ++ [[]]) with
                      | nil => exact absurd hq9 hon
                      | cons a b => rfl
                    have e10 : ¬ O.toList = [] := by rw [HOF.out, strB_toList]; exact hon
                    clear hks hon
                    go_wp2_with fail
                    go_ret
                    exact ⟨by rw [HF2.out] <;> rfl, HBF.out⟩

/-- How it stays without a slash ahead. -/
theorem ndots_other (s : ByteArray) (w : World) (h : ∀ r, s.data.toList ≠ 47 :: r) :
    Calls Tryz.prog 12 #[.string s] w fun e w' => e = .returned (.string (strB (dotsL s.data.toList))) ∧ Below w.heap.size w w' := by
  have HD : Hid (strB (dotsL s.data.toList) = s) := Lib.hid (by
    cases hl : s.data.toList with
    | nil => rw [dotsL, ← hl, strB_of]
    | cons c r =>
      rw [dotsL, if_neg (fun e => h r (by rw [hl, e])), ← hl, strB_of])
  cases he : s.toList.isEmpty
  · have h0 : 0 < s.size := by
      rw [Lib.size_eq]
      refine List.length_pos_iff.2 (fun hn => ?_)
      rw [Lib.toList_data, hn] at he
      cases he
    have x0 : ((s[0]'h0) == 47) = false := by
      cases hx : ((s[0]'h0) == 47)
      · rfl
      · exfalso
        have hl : 0 < s.data.toList.length := by rw [← Lib.size_eq]; exact h0
        have hd := drop_cons_at s 0 h0
        rw [List.drop_zero, beq_iff_eq.1 hx] at hd
        exact h _ hd
    have e1 : (((s[0]'h0).toNat : Int) == 47) = false := (byte_beq _ 47).trans x0
    have e2 : (((s[0]'h0).toNat : Int) != 47) = true := by rw [bne, e1]; rfl
    clear x0 h
    go_enter Tryz.func12, Tryz.ntmps12
    go_wp2_with fail
    go_ret
    exact ⟨by rw [HD.out] <;> rfl, Below.refl _ _⟩
  · clear h
    go_enter Tryz.func12, Tryz.ntmps12
    go_wp2_with fail
    go_ret
    exact ⟨by rw [HD.out] <;> rfl, Below.refl _ _⟩
theorem ndots_any (s : ByteArray) (w : World) (hs : s.size ≤ 100000) :
    Calls Tryz.prog 12 #[.string s] w fun e w' => e = .returned (.string (strB (dotsL s.data.toList))) ∧ Below w.heap.size w w' := by
  by_cases h : ∃ r, s.data.toList = 47 :: r
  · obtain ⟨r, hr⟩ := h
    rw [hr]
    exact ndots_slash s r w hs hr
  · exact ndots_other s w (fun r hr => h ⟨r, hr⟩)

end Go.Proofs.YtbbdifcmhoobaaaGreatDoor
