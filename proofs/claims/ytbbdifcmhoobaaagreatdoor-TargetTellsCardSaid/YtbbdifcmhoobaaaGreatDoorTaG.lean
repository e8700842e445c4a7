/- The contract of target.remaining. -/
import Derived.Test.YtbbdifcmhoobaaaGreatDoorTaF
import Derived.Lib.SmallJoins
namespace Go.Proofs.YtbbdifcmhoobaaaGreatDoor
open Go.RowKit

theorem info_strT : (Tryz.prog.info? 9).map (fun i => (i.zero, i.size, i.bytes)) = some (some (.string ⟨#[]⟩), 1, 16) := by kernel_rfl
/-- A row of texts. -/
def rowT (ps : List (List UInt8)) : List Value := ps.map fun q => .string (strB q)
theorem rowT_snoc (ps : List (List UInt8)) (p : List UInt8) : rowT ps ++ [.string (strB p)] = rowT (ps ++ [p]) := by simp [rowT]
theorem rowT_len (ps : List (List UInt8)) : (rowT ps).length = ps.length := by simp [rowT]
/-- What remains of parts. -/
def remL (ps : List (List UInt8)) : List (List UInt8) := keepL ps ++ (if dotS (ps.getLastD []) = true then [[]] else [])
theorem remL_kpt (r : List UInt8) : remL (partsL r) = kptL r := rfl
def remPost (b : Nat) (ks : List (List UInt8)) (w : World) (e : Ending) (w' : World) : Prop := ∃ g cap, e = .returned (.slice (some ⟨g, 0, none⟩) ks.length cap) ∧ KRow w' b 9 g ks.length cap (rowT ks) ∧ Below b w w'

theorem cells_rowT {w : World} {b : Nat} {e : TypeId} {ps : List (List UInt8)} (h : w.heap[b]? = some (.cells (rowT ps).toArray e (0, 0))) (j : Nat) (q : List UInt8) (hj : ps[j]? = some q) : w.cell? ⟨b, j, none⟩ = some (.string (strB q)) := by
  rw [cell_of_row w b j _ e (0, 0) h, List.getElem?_toArray, rowT, List.getElem?_map, hj]
  rfl
theorem krow_front {w : World} {b : Nat} {e : TypeId} {ps : List (List UInt8)} (h : w.heap[b]? = some (.cells (rowT ps).toArray e (0, 0))) (hm : ps.length ≤ maxLen) (i : Nat) (hi : i ≤ ps.length) : KRow w b e b i i (rowT (ps.take i)) := by
  refine ⟨by rw [rowT_len, List.length_take]; omega, Nat.le_refl _, Nat.le_refl _, by omega, _, h, by rw [List.size_toArray, rowT_len]; exact hi, ?_⟩
  simp only [rowT]
  rw [List.map_take]
theorem krow_pop {w : World} {base : Nat} {e : TypeId} {g n cap : Nat} {ks : List (List UInt8)} (h : KRow w base e g n cap (rowT ks)) : KRow w base e g (n - 1) cap (rowT ks.dropLast) := by
  have hl := h.1
  rw [rowT_len] at hl
  have := h.pop (n - 1) (by omega)
  rw [rowT, ← List.map_take] at this
  rw [List.dropLast_eq_take, hl]
  exact this
theorem last_at : ∀ (ps : List (List UInt8)), 0 < ps.length → ps[ps.length - 1]? = some (ps.getLastD [])
  | [], h => by simp at h
  | p :: ps, _ => by
    rw [List.getLastD_eq_getLast?, List.getLast?_eq_getElem?]
    cases h : (p :: ps)[(p :: ps).length - 1]? with
    | none => simp at h
    | some q => rfl
/-- What append leaves, of parts that are still to be read. -/
theorem kapp_seg {w w' : World} {b i : Nat} {e : TypeId} {g n cap g' cap' : Nat} {xs : List Value} {x : Value} (hb : b < w.heap.size) (hcap : g = b → cap = i) (h : KApp w w' b e g n cap xs g' cap' x) :
    (g' = b → cap' = i) ∧ ∀ j, i ≤ j → w'.cell? ⟨b, j, none⟩ = w.cell? ⟨b, j, none⟩ := by
  obtain ⟨_, h2, h3, h4⟩ := h
  refine ⟨fun e1 => ?_, fun j hj => ?_⟩
  · rcases h4 with ⟨a, c⟩ | a
    · rw [c]; exact hcap (a ▸ e1)
    · omega
  · by_cases hg : g = b
    · have := hcap hg
      subst hg
      exact h3 j (by omega)
    · exact World.cell?_of_block (a := ⟨b, j, none⟩) (h2.block b hb (fun e1 => hg (Option.some.inj e1).symm))

set_option maxRecDepth 100000 in
set_option maxHeartbeats 4000000 in
theorem remaining_any (b : Nat) (ps : List (List UInt8)) (w : World) (hh : w.heap[b]? = some (.cells (rowT ps).toArray 9 (0, 0))) (h0 : 0 < ps.length) (hn : ps.length ≤ 200000) :
    Calls Tryz.prog 30 #[.slice (some ⟨b, 0, none⟩) ps.length ps.length] w (remPost b (remL ps) w) := by
  obtain ⟨i0, hi, hz0, hz1, hz2⟩ := info_parts info_strT
  have hbl := (Array.getElem?_eq_some_iff.1 hh).1
  have cX := indexDots_any b ps.length ps.length ps w ⟨rfl, hbl, fun j q hj => cells_rowT hh j q hj⟩ hn
  have hmx : ps.length ≤ maxLen := by unfold maxLen; omega
  cases hf : fstD ps with
  | none =>
    rw [hf] at cX
    have hk : remL ps = ps := by
      have hnd := fstD_none hf
      have hl : dotS (ps.getLastD []) = false := hnd _ (List.mem_of_getElem? (last_at ps h0))
      rw [remL, hl, keepL, keep_same _ _ hnd]
      simp
    have hkr := krow_front hh hmx ps.length (Nat.le_refl _)
    rw [List.take_length] at hkr
    rw [hk]
    clear hf hk hh
    go_enter Tryz.func30, Tryz.ntmps30
    go_wp2_with (go_at_call 43; refine cX.mono ?_; rintro e w' ⟨rfl, rfl⟩)
    go_ret
    exact ⟨b, ps.length, rfl, hkr, Below.refl _ _⟩
  | some i =>
    rw [hf] at cX
    obtain ⟨hin, hpre⟩ := fstD_some hf
    have hkr := krow_front hh hmx i (by omega)
    have HKR := Lib.hid hkr
    have HPRE := Lib.hid hpre
    have HSEG : Hid (∀ j q, i ≤ j → ps[j]? = some q → w.cell? ⟨b, j, none⟩ = some (.string (strB q))) := Lib.hid (fun j q _ hj => cells_rowT hh j q hj)
    obtain ⟨n, hnn⟩ : ∃ n, ps.length = n := ⟨_, rfl⟩
    rw [hnn] at cX hin hmx hn h0 ⊢
    have HNN := Lib.hid hnn
    clear hf hpre hkr hh hnn
    unfold fstI at cX
    have b1 : ¬ ((i : Int) < 0) := by omega
    have b2 : (0 : Int) ≤ (i : Int) := by omega
    have b3 : (i : Int) ≤ (n : Int) := by omega
    have b4 : ((i : Int)).toNat = i := by omega
    have b5 : i ≤ n := by omega
    have b6 : ((n : Int) - (i : Int)) = ((n - i : Nat) : Int) := by omega
    go_enter Tryz.func30, Tryz.ntmps30
    go_wp2_with (go_at_call 43; refine cX.mono ?_; rintro e w' ⟨rfl, rfl⟩)
    go_loopw [4, 20] (fun v4 v20 wr => ∃ (k g m cap : Nat) (kept : List (List UInt8)), v4 = .slice (some ⟨g, 0, none⟩) m cap ∧ v20 = .int .i64 k ∧ k ≤ n - i ∧ m ≤ i + k ∧ KRow wr b 9 g m cap (rowT kept) ∧ Hid (kept = ((ps.drop i).take k).foldl keepS (ps.take i)) ∧ (g = b → cap = i) ∧ Hid (∀ j q, i ≤ j → ps[j]? = some q → wr.cell? ⟨b, j, none⟩ = some (.string (strB q))) ∧ b < wr.heap.size ∧ Below b w wr) (fun _ v20 _ => n - (intOf v20).toNat)
    case atStart => exact ⟨0, b, i, i, ps.take i, rfl, rfl, Nat.zero_le _, by omega, HKR.out, Lib.hid (by simp), fun _ => rfl, HSEG, hbl, Below.refl _ _⟩
    case round =>
      obtain ⟨k, g, m, cap, kept, rfl, rfl, hk, hmk, hkr, HKP, hcap, HS, hbw, hb⟩ := hrel
      by_cases hlt : k < n - i
      · obtain ⟨p, hp⟩ : ∃ p, ps[i + k]? = some p := ⟨_, List.getElem?_eq_getElem (by have := HNN.out; omega)⟩
        have a0 := HS.out (i + k) p (by omega) hp
        have Htk : Hid (((ps.drop i).take (k + 1)).foldl keepS (ps.take i) = keepS kept p) := Lib.hid (by
          rw [List.take_add_one, List.getElem?_drop, hp, List.foldl_append, HKP.out]
          rfl)
        have HB := Lib.hid hb
        have HK := Lib.hid hkr
        have hkl := hkr.1
        rw [rowT_len] at hkl
        have hmc := hkr.2.2.1
        have hTl := strB_toList p
        clear hp hb hkr HPRE HKR HSEG
        by_cases h1 : p = [46]
        · have e1 : (strB p).toList = [46] := by rw [hTl, h1]
          have HN : Hid (kept = ((ps.drop i).take (k + 1)).foldl keepS (ps.take i)) := Lib.hid (by rw [Htk.out, keepS, if_pos h1])
          clear hTl h1
          generalize strB p = S at *
          go_wp2
          go_roundw
          case rel => exact ⟨k + 1, g, m, cap, kept, rfl, by go_num, by omega, by omega, HK.out, HN, hcap, HS, hbw, HB.out⟩
          case measure => simp [intOf]; omega
        · have f1 : ((strB p).toList == [46]) = false := by rw [hTl]; simpa using h1
          have f2 : ¬ (strB p).toList = [46] := by rw [hTl]; exact h1
          by_cases h2 : p = [46, 46]
          · have e2 : (strB p).toList = [46, 46] := by rw [hTl, h2]
            have HN : Hid (kept.dropLast = ((ps.drop i).take (k + 1)).foldl keepS (ps.take i)) := Lib.hid (by rw [Htk.out, keepS, if_neg h1, if_pos h2])
            have HP := Lib.hid (krow_pop HK.out)
            clear hTl h1 h2 f2
            generalize strB p = S at *
            cases m with
            | zero =>
              go_wp2
              go_roundw
              case rel => exact ⟨k + 1, g, 0, cap, kept.dropLast, rfl, by go_num, by omega, by omega, HP.out, HN, hcap, HS, hbw, HB.out⟩
              case measure => simp [intOf]; omega
            | succ m =>
              have c1 : ((m + 1 : Nat) : Int) - 1 = (m : Int) := by omega
              have c2 : max (m : Int) 0 = (m : Int) := by omega
              have c3 : ((m : Int)).toNat = m := by omega
              go_wp2
              go_roundw
              case rel => exact ⟨k + 1, g, m, cap, kept.dropLast, rfl, by go_num, by omega, by omega, HP.out, HN, hcap, HS, hbw, HB.out⟩
              case measure => simp [intOf]; omega
          · have f3 : ((strB p).toList == [46, 46]) = false := by rw [hTl]; simpa using h2
            have f4 : ¬ (strB p).toList = [46, 46] := by rw [hTl]; exact h2
            have HN : Hid (kept ++ [p] = ((ps.drop i).take (k + 1)).foldl keepS (ps.take i)) := Lib.hid (by rw [Htk.out, keepS, if_neg h1, if_neg h2])
            have hK1 := HK.out.alloc (.cells #[.string (strB p)] 9)
            have Hrow : Hid (rowT kept ++ [.string (strB p)] = rowT (kept ++ [p])) := Lib.hid (rowT_snoc _ _)
            have hnew : (wr.alloc (.cells #[.string (strB p)] 9)).cell? ⟨wr.heap.size, 0, none⟩ = some (.string (strB p)) := by simp
            have hbw1 : b < (wr.alloc (.cells #[.string (strB p)] 9)).heap.size := by simp; omega
            have HS1 : Hid (∀ j q, i ≤ j → ps[j]? = some q → (wr.alloc (.cells #[.string (strB p)] 9)).cell? ⟨b, j, none⟩ = some (.string (strB q))) := Lib.hid (fun j q h3 h4 => by
              rw [World.cell?_alloc_old _ _ _ (Nat.ne_of_lt hbw)]
              exact HS.out j q h3 h4)
            have HB1 := Lib.hid (HB.out.alloc (Nat.le_of_lt hbw) (.cells #[.string (strB p)] 9))
            clear hTl h1 h2
            generalize strB p = S at *
            go_wp2_with (at_builtin; refine wpList_append_kept _ rfl _ _ 52 rfl b 9 i0 (.string ⟨#[]⟩) 16 Tryz.underlying52 hi hz0 hz1 hz2 rfl g m cap (rowT kept) rfl hK1 ⟨wr.heap.size, 0, none⟩ 1 (.string S) rfl hnew rfl (by unfold maxLen; omega) (by omega) (by simp; omega) ?_; intro g5 c5 w5 hk5)
            obtain ⟨j1, j2⟩ := kapp_seg hbw1 hcap hk5
            obtain ⟨k1, k2, k3, k4⟩ := hk5
            rw [Hrow.out] at k1
            go_roundw
            case rel => exact ⟨k + 1, g5, m + 1, c5, kept ++ [p], rfl, by go_num, by omega, by omega, k1, HN, j1, Lib.hid (fun j q h3 h4 => (j2 j h3).trans (HS1.out j q h3 h4)), Nat.lt_of_lt_of_le hbw1 k2.size, HB1.out.grown k2 (by simp; omega) (fun k e => by cases e; exact HK.out.lt.1)⟩
            case measure => simp [intOf]; omega
      · have hkk : k = n - i := by omega
        have hge : ¬ ((k : Int) < ((n - i : Nat) : Int)) := by omega
        have HKL : Hid (kept = keepL ps) := Lib.hid (by
          have h1 := HKP.out
          have e1 : (ps.drop i).take k = ps.drop i := List.take_of_length_le (by rw [List.length_drop, HNN.out, hkk]; exact Nat.le_refl _)
          rw [e1] at h1
          have h2 := kept_ahead (ps.take i) (ps.drop i) HPRE.out
          rw [List.take_append_drop] at h2
          rw [h1, h2])
        obtain ⟨q, hq⟩ : ∃ q, ps.getLastD [] = q := ⟨_, rfl⟩
        have hql : ps[n - 1]? = some q := by rw [← hq, ← HNN.out]; exact last_at ps (by rw [HNN.out]; exact h0)
        have a0 := HS.out (n - 1) q (by omega) hql
        have HB := Lib.hid hb
        have HK := Lib.hid hkr
        have hkl := hkr.1
        rw [rowT_len] at hkl
        have hmc := hkr.2.2.1
        have d1 : ((n : Int) - 1) = ((n - 1 : Nat) : Int) := by omega
        have d2 : n - 1 < n := by omega
        have d3 : ((n - 1 : Nat) : Int) < (n : Int) := by omega
        have cD := isDots_any q wr
        have HQ := Lib.hid hq
        clear hq hql hb hkr HKP HPRE HKR HSEG hkk hlt
        cases hd : dotS q
        · rw [hd] at cD
          have HR : Hid (remL ps = kept) := Lib.hid (by rw [remL, HQ.out, hd, HKL.out]; simp)
          clear hd
          go_wp2_with (go_at_call 44; refine cD.mono ?_; rintro e w' ⟨rfl, rfl⟩)
          go_ret
          rw [HR.out]
          exact ⟨g, cap, by rw [hkl] <;> rfl, by rw [hkl]; exact HK.out, HB.out⟩
        · rw [hd] at cD
          have HR : Hid (remL ps = kept ++ [[]]) := Lib.hid (by rw [remL, HQ.out, hd, HKL.out]; rfl)
          have hK1 := HK.out.alloc (.cells #[.string ⟨#[]⟩] 9)
          have Hrow : Hid (rowT kept ++ [.string ⟨#[]⟩] = rowT (kept ++ [[]])) := Lib.hid (rowT_snoc kept [])
          have hnew : (wr.alloc (.cells #[.string ⟨#[]⟩] 9)).cell? ⟨wr.heap.size, 0, none⟩ = some (.string ⟨#[]⟩) := by simp
          have HB1 := Lib.hid (HB.out.alloc (Nat.le_of_lt hbw) (.cells #[.string ⟨#[]⟩] 9))
          clear hd
          go_wp2_with (first | (go_at_call 44; refine cD.mono ?_; rintro e w' ⟨rfl, rfl⟩) | (at_builtin; refine wpList_append_kept _ rfl _ _ 52 rfl b 9 i0 (.string ⟨#[]⟩) 16 Tryz.underlying52 hi hz0 hz1 hz2 rfl g m cap (rowT kept) rfl hK1 ⟨wr.heap.size, 0, none⟩ 1 (.string ⟨#[]⟩) rfl hnew rfl (by unfold maxLen; omega) (by omega) (by simp; omega) ?_; intro g5 c5 w5 hk5))
          obtain ⟨k1, k2, k3, k4⟩ := hk5
          rw [Hrow.out] at k1
          go_ret
          rw [HR.out]
          have hlen : (kept ++ [[]]).length = m + 1 := by rw [List.length_append, hkl]; rfl
          exact ⟨g5, c5, by rw [hlen] <;> rfl, by rw [hlen]; exact k1, HB1.out.grown k2 (by simp; omega) (fun k e => by cases e; exact HK.out.lt.1)⟩

end Go.Proofs.YtbbdifcmhoobaaaGreatDoor
