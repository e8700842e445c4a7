/- A parameter's cells in memory; a text or none as it is told. · The contract of the document's PrintParams (sculleryref03), walked. · The contract of the document's Print (sculleryref03). · The contract of the document's text of a member (sculleryref04). · The contract of the document's PrintList (sculleryref04). -/
import Derived.Test.YtjbipplaacgnkaaGreatDoorGG
import Derived.Test.YtjbipplaacgnkaaGreatDoorGD
import Derived.Test.YtjbipplaacgnkaaGreatDoorGQ
import Derived.Test.YtjbipplaacgnkaaGreatDoorGI
import Derived.Test.YtjbipplaacgnkaaGreatDoorGL
import Derived.Test.YtjbipplaacgnkaaGreatDoorGO
import Derived.Test.YtjbipplaacgnkaaGreatDoorHA
import Derived.Test.YtjbipplaacgnkaaGreatDoorGP

namespace Go.Proofs.YtjbipplaacgnkaaGreatDoor
open Go.RowKit

/-- The cells of one of the parameters that lie in memory. -/
theorem Prms.at_ {w : World} {ao : Option Addr} {m cap : Nat} {ps : List Prm} (h : Prms w (.slice ao m cap) ps) (j : Nat) (p : Prm) (hp : ps[j]? = some p) :
    ∃ c off, ao = some ⟨c, off, none⟩ ∧ c < w.heap.size ∧ w.cell? ⟨c, off + j * 4, none⟩ = some (.string (strB p.key)) ∧ w.cell? ⟨c, off + j * 4 + 1, none⟩ = some (.int .i64 p.k) ∧ w.cell? ⟨c, off + j * 4 + 2, none⟩ = some (.int .i64 p.n) ∧ w.cell? ⟨c, off + j * 4 + 3, none⟩ = some (.string (strB p.s)) := by
  obtain ⟨ao1, cap1, hv, hc⟩ := h
  obtain ⟨rfl, _, rfl⟩ := Value.slice.inj hv
  rcases hc with hnil | ⟨c, off, rfl, hcell⟩
  · rw [hnil] at hp; cases hp
  · obtain ⟨x0, x1, x2, x3⟩ := rowP_at ps j p hp
    exact ⟨c, off, rfl, lt_of_cell (hcell _ _ x0), hcell _ _ x0, hcell _ _ x1, hcell _ _ x2, hcell _ _ x3⟩

theorem textV_none : textV none = .tuple #[.string ⟨#[]⟩, .int .i64 2] := rfl
theorem textV_some (t : List UInt8) : textV (some t) = .tuple #[.string (strB t), .int .i64 0] := rfl

theorem textV_form (o : Option (List UInt8)) : ∃ (X : ByteArray) (E : Int), textV o = .tuple #[.string X, .int .i64 E] ∧ ((∃ u, o = some u ∧ X = strB u ∧ E = 0) ∨ (o = none ∧ E = 2)) := by
  cases o with
  | none => exact ⟨_, _, rfl, .inr ⟨rfl, rfl⟩⟩
  | some u => exact ⟨_, _, rfl, .inl ⟨u, rfl, rfl, rfl⟩⟩

end Go.Proofs.YtjbipplaacgnkaaGreatDoor

namespace Go.Proofs.YtjbipplaacgnkaaGreatDoor
open Go.RowKit

theorem eq_strB (A : ByteArray) (l : List UInt8) (h : A.data.toList = l) : A = strB l := by
  subst h; rfl

set_option maxRecDepth 100000 in
set_option maxHeartbeats 4000000 in
theorem rprintParams_any (v : Value) (ps : List Prm) (w : World) (h : Prms w v ps) (hl : ps.length ≤ 100000) (hk : ∀ p ∈ ps, Small p) :
    Calls Tryz.prog 43 #[v] w (printPost (textV (ppT ps)) w) := by
  have HP := Lib.hid h
  obtain ⟨ao, cap, rfl, hc⟩ := h
  have HK := Lib.hid hk
  clear hc hk
  go_enter Tryz.func43, Tryz.ntmps43
  go_wp2_with fail
  go_loopw [4, 5] (fun s i wr => ∃ (j : Nat) (u : List UInt8), s = .string (strB u) ∧ i = .int .i64 j ∧ j ≤ ps.length ∧ Hid (ppGo (ps.take j) = some u) ∧ Hid (((ps.take j).map Prm.key).Nodup) ∧ Below w.heap.size w wr) (fun _ i _ => ps.length - (intOf i).toNat)
  case atStart => exact ⟨0, [], rfl, rfl, Nat.zero_le _, Lib.hid rfl, Lib.hid (by simp), Below.refl _ _⟩
  case round =>
    obtain ⟨j, u, rfl, rfl, hj, HU, HN, hb⟩ := hrel
    have HB := Lib.hid hb
    have hul : (strB u).size ≤ 40000000000 := by
      have := ppGo_len (ps.take j) u (fun p hp => HK.out p (List.mem_of_mem_take hp)) HU.out
      rw [List.length_take] at this
      rw [strB_size]; omega
    by_cases hlt : j < ps.length
    · obtain ⟨r, hr⟩ : ∃ r, ps[j]? = some r := ⟨_, List.getElem?_eq_getElem hlt⟩
      have hpw := HP.out.below hb
      have HPW := Lib.hid hpw
      obtain ⟨c, off, hao, hcl, a0, a1, a2, a3⟩ := hpw.at_ j r hr
      subst hao
      have jI : (j : Int) < (ps.length : Int) := by omega
      have j0 : (0 : Int) ≤ (j : Int) := by omega
      obtain ⟨hs1, hs2, _, _⟩ := HK.out r (List.mem_of_getElem? hr)
      have cPr := fun W => fprint_any r.k r.n (strB r.s) W (by rw [strB_size]; omega)
      rw [strB_data, printL] at cPr
      have cK := fun W => rkey_any (strB r.key) W (by rw [strB_size]; unfold maxLen; omega)
      rw [strB_data] at cK
      have HR := Lib.hid hr
      have hKs : (strB r.key).size ≤ 100000 := by rw [strB_size]; omega
      clear hb hpw hr
      cases h1 : rightL r.k r.n r.s with
      | false =>
        have HV : Hid (ppT ps = none) := Lib.hid (ppT_none_of ps j r HR.out (pmT_none r (.inl h1)))
        rw [h1, if_neg (by simp), textV_none] at cPr
        clear h1
        go_wp2_with fail
        refine (cPr _).mono ?_
        rintro e w1 ⟨rfl, hb1⟩
        go_wp2_with fail
        refine bodyPost_ret (v := textV none) (by simp [results, Tryz.results43, go_sem, textV_none]) rfl ⟨by rw [HV.out], HB.out.trans (hb1.mono HB.out.size)⟩
      | true =>
        have htl := textL_len _ _ _ h1
        rw [h1, if_pos rfl, textV_some] at cPr
        cases h2 : keyL r.key with
        | false =>
          have HV : Hid (ppT ps = none) := Lib.hid (ppT_none_of ps j r HR.out (pmT_none r (.inr h2)))
          rw [h2] at cK
          clear h1 h2
          go_wp2_with fail
          refine (cPr _).mono ?_
          rintro e w1 ⟨rfl, hb1⟩
          have b0 := cell_next hb1 a0
          go_wp2_with (go_at_call 42; refine (cK _).mono ?_; rintro e w' ⟨rfl, rfl⟩)
          refine bodyPost_ret (v := textV none) (by simp [results, Tryz.results43, go_sem, textV_none]) rfl ⟨by rw [HV.out], HB.out.trans (hb1.mono HB.out.size)⟩
        | true =>
          rw [h2] at cK
          have hTs : (strB (textL r.k r.n r.s)).size ≤ 300000 := by rw [strB_size]; omega
          go_wp2_with fail
          refine (cPr _).mono ?_
          rintro e w1 ⟨rfl, hb1⟩
          have b0 := cell_next hb1 a0
          have HB1 := Lib.hid (HB.out.trans (hb1.mono HB.out.size))
          have HPW1 := Lib.hid (HPW.out.below hb1)
          clear hb1 cPr a0 a1 a2 a3 HPW HB
          go_wp2_with (go_at_call 42; refine (cK _).mono ?_; rintro e w' ⟨rfl, rfl⟩)
          go_loopw [8] (fun x wr => ∃ m : Nat, x = .int .i64 m ∧ m ≤ j ∧ Hid (∀ (m' : Nat) (q : Prm), m' < m → ps[m']? = some q → q.key ≠ r.key) ∧ Below w1.heap.size w1 wr) (fun x _ => j - (intOf x).toNat)
          case atStart => exact ⟨0, rfl, Nat.zero_le _, Lib.hid (fun m q hm => absurd hm (Nat.not_lt_zero _)), Below.refl _ _⟩
          case round =>
            obtain ⟨m, rfl, hm, HD, hb2⟩ := hrel
            clear b0
            have HB2 := Lib.hid hb2
            have hpw2 := HPW1.out.below hb2
            obtain ⟨c2, off2, hao2, hcl2, b0, _, _, _⟩ := hpw2.at_ j r HR.out
            obtain ⟨rfl, rfl, _⟩ := Addr.mk.inj (Option.some.inj hao2)
            by_cases hmj : m < j
            · obtain ⟨q, hq⟩ : ∃ q, ps[m]? = some q := ⟨_, List.getElem?_eq_getElem (by omega)⟩
              obtain ⟨c3, off3, hao3, _, d0, _, _, _⟩ := hpw2.at_ m q hq
              obtain ⟨rfl, rfl, _⟩ := Addr.mk.inj (Option.some.inj hao3)
              have mI : (m : Int) < (ps.length : Int) := by omega
              have m0 : (0 : Int) ≤ (m : Int) := by omega
              have HQ := Lib.hid hq
              clear hb2 hpw2 hq hao2 hao3
              by_cases hkk : q.key = r.key
              · have HV : Hid (ppT ps = none) := Lib.hid (ppT_none_dup ps j m r q hmj HR.out HQ.out hkk)
                rw [hkk] at d0
                go_wp2_with fail
                go_quiet (fail)
                go_wp2_with fail
                refine bodyPost_ret (v := textV none) (by simp [results, Tryz.results43, go_sem, textV_none]) rfl ⟨by rw [HV.out], (HB1.out.trans (HB2.out.mono HB1.out.size)).trans ((below_drewN _ _).mono (HB1.out.trans (HB2.out.mono HB1.out.size)).size)⟩
              · have hT : ((strB q.key).toList == (strB r.key).toList) = false := by
                  rw [beq_eq_false_iff_ne]
                  intro h
                  exact hkk (by simpa only [Lib.toList_data, strB_data] using h)
                have HN2 : Hid (∀ (m' : Nat) (q' : Prm), m' < m + 1 → ps[m']? = some q' → q'.key ≠ r.key) := Lib.hid (fun m' q' hm' hq' => by
                  by_cases e : m' = m
                  · subst e
                    rw [HQ.out] at hq'
                    obtain rfl := Option.some.inj hq'
                    exact hkk
                  · exact HD.out m' q' (by omega) hq')
                clear hkk
                generalize strB q.key = QK at *
                go_wp2_with fail
                go_quiet (fail)
                go_wp2_with fail
                go_roundw
                case rel => exact ⟨m + 1, by go_num, by omega, HN2, HB2.out.trans ((below_drewN _ _).mono HB2.out.size)⟩
                case measure => simp [intOf]; omega
            · obtain rfl : m = j := by omega
              have HN2 : Hid (((ps.take (m + 1)).map Prm.key).Nodup) := Lib.hid (nodup_next ps m r HR.out HN.out HD.out)
              have HBw := Lib.hid (HB1.out.trans (HB2.out.mono HB1.out.size))
              clear hb2 hpw2 hao2
              by_cases h3 : r.k = 6 ∧ r.n = 1
              · have HU2 : Hid (ppGo (ps.take (m + 1)) = some (u ++ 59 :: r.key)) := Lib.hid (ppGo_next ps m r u _ HR.out HU.out (pmT_one r h1 h2 h3))
                have hte : ((strB (textL r.k r.n r.s)).toList == [63, 49]) = true := by
                  rw [Lib.toList_data, strB_data, (text_is_one _ _ _ h1).2 h3]; rfl
                have HE : Hid (strB u ++ (⟨#[59]⟩ : ByteArray) ++ strB r.key = strB (u ++ 59 :: r.key)) := Lib.hid (eq_strB _ _ (by simp [strB_data]))
                clear h1 h2 h3
                generalize strB r.key = RK at *
                generalize strB (textL r.k r.n r.s) = TX at *
                generalize hU : strB u = U at *
                go_wp2_with fail
                go_roundw
                case rel => exact ⟨m + 1, _, by rw [HE.out], by go_num, by omega, HU2, HN2, HBw.out⟩
                case measure => simp [intOf]; omega
              · have HU2 : Hid (ppGo (ps.take (m + 1)) = some (u ++ 59 :: (r.key ++ 61 :: textL r.k r.n r.s))) := Lib.hid (ppGo_next ps m r u _ HR.out HU.out (pmT_all r h1 h2 h3))
                have hte : ((strB (textL r.k r.n r.s)).toList == [63, 49]) = false := by
                  rw [Lib.toList_data, strB_data, beq_eq_false_iff_ne]
                  exact fun e => h3 ((text_is_one _ _ _ h1).1 e)
                have HE : Hid (strB u ++ (⟨#[59]⟩ : ByteArray) ++ strB r.key ++ (⟨#[61]⟩ : ByteArray) ++ strB (textL r.k r.n r.s) = strB (u ++ 59 :: (r.key ++ 61 :: textL r.k r.n r.s))) := Lib.hid (eq_strB _ _ (by simp [strB_data]))
                have hs1 : (strB u ++ (⟨#[59]⟩ : ByteArray) ++ strB r.key).size ≤ 50000000000 := by
                  have h59 : (⟨#[59]⟩ : ByteArray).size = 1 := rfl
                  simp only [ByteArray.size_append]
                  omega
                clear h1 h2 h3
                generalize strB r.key = RK at *
                generalize strB (textL r.k r.n r.s) = TX at *
                generalize hU : strB u = U at *
                go_wp2_with fail
                go_roundw
                case rel => exact ⟨m + 1, _, by rw [HE.out], by go_num, by omega, HU2, HN2, HBw.out⟩
                case measure => simp [intOf]; omega
    · obtain rfl : j = ps.length := by omega
      have HV : Hid (ppT ps = some u) := Lib.hid (by
        have h1 := HU.out
        have h2 := HN.out
        rw [List.take_length] at h1 h2
        exact ppT_all ps u h2 h1)
      clear hb
      go_wp2_with fail
      refine bodyPost_ret (v := textV (some u)) (by simp [results, Tryz.results43, go_sem, textV_some]) rfl ⟨by rw [HV.out], HB.out⟩

end Go.Proofs.YtjbipplaacgnkaaGreatDoor

namespace Go.Proofs.YtjbipplaacgnkaaGreatDoor
open Go.RowKit

theorem prT_none1 (k n : Int) (s : List UInt8) (ps : List Prm) (h : rightL k n s = false) : prT k n s ps = none := by rw [prT, h]; rfl
theorem prT_none2 (k n : Int) (s : List UInt8) (ps : List Prm) (h : ppT ps = none) : prT k n s ps = none := by
  rw [prT, h]
  split <;> rfl
theorem prT_both (k n : Int) (s u : List UInt8) (ps : List Prm) (h : rightL k n s = true) (h2 : ppT ps = some u) : prT k n s ps = some (textL k n s ++ u) := by rw [prT, if_pos h, h2]; rfl

set_option maxRecDepth 100000 in
set_option maxHeartbeats 4000000 in
theorem rprint_any (k n : Int) (s : List UInt8) (v : Value) (ps : List Prm) (w : World) (h : Prms w v ps) (hl : ps.length ≤ 100000) (hk : ∀ p ∈ ps, Small p) (hs : s.length ≤ 100000) :
    Calls Tryz.prog 65 #[.agg #[.int .i64 k, .int .i64 n, .string (strB s), v]] w (printPost (textV (prT k n s ps)) w) := by
  have hb0 : Below w.heap.size w (w.alloc (.cells #[.int .i64 k, .int .i64 n, .string (strB s), v] 54)) := (Below.refl _ _).alloc (Nat.le_refl _) _
  have cV := fun W => fprint_any k n (strB s) W (by rw [strB_size]; omega)
  rw [strB_data, printL] at cV
  have cP := fun W (hW : Prms W v ps) => rprintParams_any v ps W hW hl hk
  have HPr := Lib.hid h
  obtain ⟨ao, cap, rfl, hc⟩ := h
  clear hc
  have hpl : ∀ u, ppT ps = some u → (strB u).size ≤ 40000000000 := fun u hu => by
    have := ppGo_len ps u hk (ppT_some _ _ hu).2
    rw [strB_size]; omega
  have htl : rightL k n s = true → (strB (textL k n s)).size ≤ 300000 := fun hr => by
    have := textL_len _ _ _ hr
    rw [strB_size]; omega
  clear hl hk hs
  cases hr : rightL k n s with
  | false =>
    have HV := Lib.hid (prT_none1 k n s ps hr)
    rw [hr, if_neg (by simp), textV_none] at cV
    obtain ⟨X, E, hX, _⟩ := textV_form (ppT ps)
    rw [hX] at cP
    clear hr htl hpl hX
    generalize strB s = S at *
    go_enter Tryz.func65, Tryz.ntmps65
    go_wp2_with fail
    refine (cV _).mono ?_
    rintro e w1 ⟨rfl, hb1⟩
    have c0 := box_next (Below.refl _ _) hb1
    obtain ⟨p0, p1, p2, p3⟩ := box4 c0
    clear hb1
    go_wp2_with fail
    refine (cP _ (HPr.out.below (box_later c0))).mono ?_
    rintro e w2 ⟨rfl, hb2⟩
    replace c0 := box_next c0 hb2
    clear hb2
    go_wp2_with fail
    refine bodyPost_ret (v := textV none) (by simp [results, Tryz.results65, go_sem, textV_none]) rfl ⟨by rw [HV.out], box_later c0⟩
  | true =>
    rw [hr, if_pos rfl, textV_some] at cV
    have hT := htl hr
    cases hp : ppT ps with
    | none =>
      have HV := Lib.hid (prT_none2 k n s ps hp)
      rw [hp, textV_none] at cP
      clear hr htl hpl hp
      generalize strB s = S at *
      generalize strB (textL k n s) = TX at *
      go_enter Tryz.func65, Tryz.ntmps65
      go_wp2_with fail
      refine (cV _).mono ?_
      rintro e w1 ⟨rfl, hb1⟩
      have c0 := box_next (Below.refl _ _) hb1
      obtain ⟨p0, p1, p2, p3⟩ := box4 c0
      clear hb1
      go_wp2_with fail
      refine (cP _ (HPr.out.below (box_later c0))).mono ?_
      rintro e w2 ⟨rfl, hb2⟩
      replace c0 := box_next c0 hb2
      clear hb2
      go_wp2_with fail
      refine bodyPost_ret (v := textV none) (by simp [results, Tryz.results65, go_sem, textV_none]) rfl ⟨by rw [HV.out], box_later c0⟩
    | some u =>
      have HV := Lib.hid (prT_both k n s u ps hr hp)
      have hU := hpl u hp
      rw [hp, textV_some] at cP
      have HE : Hid (strB (textL k n s) ++ strB u = strB (textL k n s ++ u)) := Lib.hid (eq_strB _ _ (by simp [strB_data]))
      clear hr htl hpl hp
      generalize strB s = S at *
      generalize strB (textL k n s) = TX at *
      generalize strB u = U at *
      go_enter Tryz.func65, Tryz.ntmps65
      go_wp2_with fail
      refine (cV _).mono ?_
      rintro e w1 ⟨rfl, hb1⟩
      have c0 := box_next (Below.refl _ _) hb1
      obtain ⟨p0, p1, p2, p3⟩ := box4 c0
      clear hb1
      go_wp2_with fail
      refine (cP _ (HPr.out.below (box_later c0))).mono ?_
      rintro e w2 ⟨rfl, hb2⟩
      replace c0 := box_next c0 hb2
      clear hb2
      go_wp2_with fail
      refine bodyPost_ret (v := textV (some (textL k n s ++ u))) (by simp [results, Tryz.results65, go_sem, textV_some, HE.out]) rfl ⟨by rw [HV.out], box_later c0⟩

end Go.Proofs.YtjbipplaacgnkaaGreatDoor

namespace Go.Proofs.YtjbipplaacgnkaaGreatDoor
open Go.RowKit Go.Maps

theorem kind_no {k n : Int} {s : List UInt8} {ps : List Prm} {its : List Itm} {qs : List Prm} (h : ¬ (⟨k, n, s, ps⟩ : Itm) = noItm) : memT ⟨true, ⟨k, n, s, ps⟩, its, qs⟩ = none := by
  unfold memT
  cases hk : kindL ⟨true, ⟨k, n, s, ps⟩, its, qs⟩ with
  | false => rfl
  | true => exact absurd (kind_in _ hk rfl) h
theorem kind_its {it : Itm} {its : List Itm} {qs : List Prm} (h : jnGo itT [32] true its = none) : memT ⟨true, it, its, qs⟩ = none := by
  unfold memT
  dsimp only
  split
  · rfl
  · rw [if_neg (by decide), h]
theorem kind_ps {it : Itm} {its : List Itm} {qs : List Prm} (h : ppT qs = none) : memT ⟨true, it, its, qs⟩ = none := by
  unfold memT
  dsimp only
  rw [h]
  split
  · rfl
  · rw [if_neg (by decide)]
    split <;> rfl
theorem kind_yes {its : List Itm} {qs : List Prm} {a b : List UInt8} (h : jnGo itT [32] true its = some a) (h2 : ppT qs = some b) : memT ⟨true, noItm, its, qs⟩ = some (40 :: (a ++ 41 :: b)) := by
  unfold memT
  rw [if_neg (by simp [kindL, sameI, noItm, (samePs_iff [] []).2 rfl]), if_neg (by simp)]
  dsimp only
  rw [h]
  dsimp only
  rw [h2]
theorem out_no {it : Itm} {its : List Itm} {qs : List Prm} (h : its ≠ [] ∨ qs ≠ []) : memT ⟨false, it, its, qs⟩ = none := by
  unfold memT
  cases hk : kindL ⟨false, it, its, qs⟩ with
  | false => rfl
  | true =>
    obtain ⟨e1, e2⟩ := kind_out _ hk rfl
    rcases h with h | h
    · exact absurd e1 h
    · exact absurd e2 h
theorem out_yes (it : Itm) : memT ⟨false, it, [], []⟩ = itT it := by
  unfold memT
  rw [if_neg (by simp [kindL]), if_pos rfl]

set_option maxRecDepth 100000 in
set_option maxHeartbeats 4000000 in
theorem rtext_any (M : Mem) (v : Value) (w : World) (h : MemAt 0 none w M v) (hk : MemOk M) :
    Calls Tryz.prog 38 #[v] w (printPost (textV (memT M)) w) := by
  obtain ⟨b, ⟨k, n, s, ps⟩, its, qs⟩ := M
  obtain ⟨u, vi, vp, rfl, p1, p2, p3⟩ := h
  obtain ⟨⟨o1, o2, o3, o4⟩, o5, o6, o7, o8⟩ := hk
  dsimp only at p1 p2 p3 o1 o2 o3 o4 o5 o6 o7 o8
  have hP1 := Lib.hid p1.prms
  have hP3 := Lib.hid p3.prms
  obtain ⟨x1, y1, rfl⟩ := p1.form
  obtain ⟨x2, y2, rfl, hc2⟩ := p2
  obtain ⟨x3, y3, rfl⟩ := p3.form
  have HC2 := Lib.hid hc2
  have H6 := Lib.hid o6
  have hZ : (strB s).toList = [] ↔ s = [] := by rw [Lib.toList_data, strB_data]
  have cP := fun W (hW : Prms W (.slice x1 ps.length y1) ps) => rprint_any k n s (.slice x1 ps.length y1) ps W hW o1 o2 o3
  have cQ := fun W (hW : Prms W (.slice x3 qs.length y3) qs) => rprintParams_any (.slice x3 qs.length y3) qs W hW o7 o8
  have hqz : ∀ t, ppT qs = some t → t.length ≤ 40000000000 := fun t ht => Nat.le_trans (ppGo_len qs t o8 (ppT_some _ _ ht).2) (by omega)
  clear p1 p3 hc2 o1 o2 o3 o4 o6 o7 o8
  dsimp only
  generalize hSB : strB s = S at *
  have hK0 : Box1 w (rmemO' b k n S (.slice x1 ps.length y1) (.slice x2 its.length y2) (.slice x3 qs.length y3)) (w.alloc (rmemO' b k n S (.slice x1 ps.length y1) (.slice x2 its.length y2) (.slice x3 qs.length y3))) := Below.refl _ _
  obtain ⟨k0, k1, k2, k3, k4, k5, k6⟩ := hK0.mem
  have HK0 := Lib.hid hK0
  have HSB := Lib.hid hSB
  clear hSB hK0
  go_enter Tryz.func38, Tryz.ntmps38
  go_upto_region 1 with fail
  go_cut [4] (fun s4 wx => ∃ z : Bool, s4 = .bool z ∧ Hid (z = true ↔ (⟨k, n, s, ps⟩ : Itm) = noItm) ∧ Box1 w (rmemO' b k n S (.slice x1 ps.length y1) (.slice x2 its.length y2) (.slice x3 qs.length y3)) wx)
  case first =>
    clear hP1 hP3 HC2 H6 cP cQ hqz HSB
    by_cases e1 : k = 0
    · subst e1
      by_cases e2 : n = 0
      · subst e2
        by_cases e3 : S.toList = []
        · go_wp2_with fail
          go_meet
          refine ⟨_, rfl, Lib.hid ?_, HK0.out⟩
          rw [hZ.1 e3]
          simp [noItm]
        · have e3a : S.toList.isEmpty = false := by simpa using e3
          have e3b : (S.toList == []) = false := by simpa using e3
          go_wp2_with fail
          go_meet
          refine ⟨false, rfl, Lib.hid ?_, HK0.out⟩
          simp only [Bool.false_eq_true, false_iff]
          intro h
          exact e3 (hZ.2 (Itm.mk.inj h).2.2.1)
      · go_wp2_with fail
        go_meet
        refine ⟨false, rfl, Lib.hid ?_, HK0.out⟩
        simp only [Bool.false_eq_true, false_iff]
        intro h
        exact e2 (Itm.mk.inj h).2.1
    · go_wp2_with fail
      go_meet
      refine ⟨false, rfl, Lib.hid ?_, HK0.out⟩
      simp only [Bool.false_eq_true, false_iff]
      intro h
      exact e1 (Itm.mk.inj h).1
  case rest =>
  obtain ⟨z, rfl, hz, hK⟩ := hcut
  clear HK0 k0 k1 k2 k3 k4 k5 k6 hZ
  obtain ⟨k0, k1, k2, k3, k4, k5, k6⟩ := hK.mem
  have HK := Lib.hid hK
  clear hK
  cases b
  · by_cases e1 : its = []
    · by_cases e2 : qs = []
      · have HV := Lib.hid (show memT ⟨false, ⟨k, n, s, ps⟩, its, qs⟩ = prT k n s ps by rw [e1, e2, out_yes] <;> rfl)
        have n1 : decide (0 < its.length) = false := by rw [e1] <;> rfl
        have n2 : decide (0 < qs.length) = false := by rw [e2] <;> rfl
        obtain ⟨X, E, hX, _⟩ := textV_form (prT k n s ps)
        rw [hX] at cP
        have HX := Lib.hid hX
        clear e1 e2 HC2 H6 cQ hqz hX hz
        go_wp2_with fail
        refine (cP _ (hP1.out.below HK.out.later)).mono ?_
        rintro e w1 ⟨rfl, hb1⟩
        go_wp2_with fail
        exact bodyPost_ret (v := .tuple #[.string X, .int .i64 E]) (by simp [results, Tryz.results38, go_sem]) rfl ⟨by rw [HV.out, HX.out], HK.out.later.trans (hb1.mono HK.out.later.size)⟩
      · have HV := Lib.hid (show memT ⟨false, ⟨k, n, s, ps⟩, its, qs⟩ = none from out_no (.inr e2))
        have n1 : decide (0 < its.length) = false := by rw [e1] <;> rfl
        have n2 : decide (0 < qs.length) = true := by have := List.length_pos_iff.2 e2; simp; omega
        clear e1 e2 HC2 H6 cQ hqz hz cP
        go_wp2_with fail
        exact bodyPost_ret (v := .tuple #[.string ⟨#[]⟩, .int .i64 2]) (by simp [results, Tryz.results38, go_sem]) rfl ⟨by rw [HV.out, textV_none], HK.out.later⟩
    · have HV := Lib.hid (show memT ⟨false, ⟨k, n, s, ps⟩, its, qs⟩ = none from out_no (.inl e1))
      have n1 : decide (0 < its.length) = true := by have := List.length_pos_iff.2 e1; simp; omega
      clear e1 HC2 H6 cQ hqz hz cP
      go_wp2_with fail
      exact bodyPost_ret (v := .tuple #[.string ⟨#[]⟩, .int .i64 2]) (by simp [results, Tryz.results38, go_sem]) rfl ⟨by rw [HV.out, textV_none], HK.out.later⟩
  · clear cP hP1 HSB
    have h40 : Hid ((⟨#[40]⟩ : ByteArray) = strB (40 :: [])) := Lib.hid rfl
    go_wp2_with fail
    clear k0 k1 k2 k3 k4 k5 k6
    go_loopw [5, 6] (fun t i wr => ∃ (j : Nat) (A : List UInt8), t = .string (strB (40 :: A)) ∧ i = .int .i64 j ∧ j ≤ its.length ∧ A.length ≤ j * 60000000000 ∧ Hid (jnGo itT [32] true its = (jnGo itT [32] (j == 0) (its.drop j)).map (A ++ ·)) ∧ Box1 w (rmemO' true k n S (.slice x1 ps.length y1) (.slice x2 its.length y2) (.slice x3 qs.length y3)) wr) (fun _ i _ => its.length - (intOf i).toNat)
    case atStart => exact ⟨0, [], rfl, rfl, Nat.zero_le _, by simp, Lib.hid (by simp), HK.out⟩
    case round =>
      obtain ⟨j, A, rfl, rfl, hj, hal, H, hK⟩ := hrel
      clear HK
      obtain ⟨_, _, _, _, _, k5, k6⟩ := hK.mem
      have HK := Lib.hid hK
      have hAz : (strB (40 :: A)).size ≤ 130000000000000 := by rw [strB_size, List.length_cons]; omega
      by_cases hlt : j < its.length
      · rcases HC2.out with hnil | ⟨c, off, rfl, _, _, hcl, hcell⟩
        · exfalso
          rw [hnil] at hlt
          simp at hlt
        · obtain ⟨p, hp⟩ : ∃ p, its[j]? = some p := ⟨_, List.getElem?_eq_getElem hlt⟩
          obtain ⟨t, ⟨q0, q1, q2, q3⟩, hF⟩ := hcell j p hp
          have hb := hK.later
          have c0 := (hb.cell (p := ⟨c, off + j * 4, none⟩) hcl).trans q0
          have c1 := (hb.cell (p := ⟨c, off + j * 4 + 1, none⟩) hcl).trans q1
          have c2 := (hb.cell (p := ⟨c, off + j * 4 + 2, none⟩) hcl).trans q2
          have c3 := (hb.cell (p := ⟨c, off + j * 4 + 3, none⟩) hcl).trans q3
          have jI : (j : Int) < (its.length : Int) := by omega
          have j0 : (0 : Int) ≤ (j : Int) := by omega
          rw [drop_at its j p hp] at H
          have hok := H6.out p (List.mem_of_getElem? hp)
          obtain ⟨i1, i2, i3, i4⟩ := hok
          have hok : ItmOk p := ⟨i1, i2, i3, i4⟩
          have cI := rprint_any p.k p.n p.s t p.ps wr (hF.prms.below hb) i1 i2 i3
          obtain ⟨au, cu, rfl⟩ := hF.form
          clear hcell hcl q0 q1 q2 q3 hF hp hK i1 i2 i3 i4 hb
          cases hpt : itT p with
          | none =>
            have HN : Hid (memT ⟨true, ⟨k, n, s, ps⟩, its, qs⟩ = none) := Lib.hid (kind_its (by rw [H.out, jnGo_none _ _ _ _ _ hpt] <;> rfl))
            rw [show prT p.k p.n p.s p.ps = none from hpt, textV_none] at cI
            clear hpt H hz cQ hqz hok
            generalize strB p.s = PS at *
            generalize strB (40 :: A) = SA at *
            go_wp2_with fail
            refine cI.mono ?_
            rintro e w2 ⟨rfl, hb2⟩
            go_wp2_with fail
            exact bodyPost_ret (v := .tuple #[.string ⟨#[]⟩, .int .i64 2]) (by simp [results, Tryz.results38, go_sem]) rfl ⟨by rw [HN.out, textV_none], HK.out.later.trans (hb2.mono HK.out.later.size)⟩
          | some t =>
            have htl := itT_len p t hok hpt
            rw [jnGo_some _ _ _ _ _ t hpt] at H
            rw [show prT p.k p.n p.s p.ps = some t from hpt, textV_some] at cI
            have hTz : (strB t).size ≤ 50000000000 := by rw [strB_size]; exact htl
            clear hpt hz cQ hqz hok
            by_cases hj0 : j = 0
            · have hjy : (j == 0) = true := by simpa using hj0
              rw [hjy] at H
              have hjp : ¬ (0 : Int) < (j : Int) := by omega
              have HX : Hid (strB (40 :: A) ++ strB t = strB (40 :: (A ++ t))) := Lib.hid (by rw [strB_append] <;> rfl)
              have HN : Hid (jnGo itT [32] true its = (jnGo itT [32] (j + 1 == 0) (its.drop (j + 1))).map ((A ++ t) ++ ·)) := Lib.hid (by
                rw [H.out, Option.map_map, show (j + 1 == 0) = false from rfl]
                congr 1
                funext y
                simp)
              clear hj0 hjy H
              generalize strB p.s = PS at *
              generalize hSA : strB (40 :: A) = SA at *
              generalize hST : strB t = ST at *
              have HSA := Lib.hid hSA
              have HST := Lib.hid hST
              clear hSA hST
              go_wp2_with fail
              refine cI.mono ?_
              rintro e w2 ⟨rfl, hb2⟩
              clear k5 k6
              go_wp2_with fail
              go_roundw
              case rel => exact ⟨j + 1, A ++ t, by rw [HX.out], by go_num, by omega, by rw [List.length_append]; omega, Lib.hid HN.out, HK.out.next hb2⟩
              case measure => simp [intOf]; omega
            · have hjy : (j == 0) = false := by simpa using hj0
              rw [hjy] at H
              have hjp : (0 : Int) < (j : Int) := by omega
              have HX : Hid (strB (40 :: A) ++ (⟨#[32]⟩ : ByteArray) ++ strB t = strB (40 :: (A ++ 32 :: t))) := Lib.hid (by rw [show (⟨#[32]⟩ : ByteArray) = strB [32] from rfl, strB_append, strB_append]; simp)
              have HN : Hid (jnGo itT [32] true its = (jnGo itT [32] (j + 1 == 0) (its.drop (j + 1))).map ((A ++ 32 :: t) ++ ·)) := Lib.hid (by
                rw [H.out, Option.map_map, show (j + 1 == 0) = false from rfl]
                congr 1
                funext y
                simp)
              clear hj0 hjy H
              generalize strB p.s = PS at *
              generalize hSA : strB (40 :: A) = SA at *
              generalize hST : strB t = ST at *
              have HSA := Lib.hid hSA
              have HST := Lib.hid hST
              clear hSA hST
              go_wp2_with fail
              refine cI.mono ?_
              rintro e w2 ⟨rfl, hb2⟩
              clear k5 k6
              go_wp2_with fail
              go_roundw
              case rel => exact ⟨j + 1, A ++ 32 :: t, by rw [HX.out], by go_num, by omega, by rw [List.length_append, List.length_cons]; omega, Lib.hid HN.out, HK.out.next hb2⟩
              case measure => simp [intOf]; omega
      · obtain rfl : j = its.length := by omega
        have HA : Hid (jnGo itT [32] true its = some A) := Lib.hid (by rw [H.out, List.drop_length]; simp [jnGo])
        clear H hlt hK
        cases hq : ppT qs with
        | none =>
          rw [hq, textV_none] at cQ
          have HN : Hid (memT ⟨true, ⟨k, n, s, ps⟩, its, qs⟩ = none) := Lib.hid (kind_ps hq)
          clear hq hz hqz HA
          generalize strB (40 :: A) = SA at *
          go_wp2_with fail
          refine (cQ _ (hP3.out.below HK.out.later)).mono ?_
          rintro e w2 ⟨rfl, hb2⟩
          go_wp2_with fail
          exact bodyPost_ret (v := .tuple #[.string ⟨#[]⟩, .int .i64 2]) (by simp [results, Tryz.results38, go_sem]) rfl ⟨by rw [HN.out, textV_none], HK.out.later.trans (hb2.mono HK.out.later.size)⟩
        | some t =>
          rw [hq, textV_some] at cQ
          have htz : (strB t).size ≤ 40000000000 := by rw [strB_size]; exact hqz t hq
          cases z with
          | false =>
            have HN : Hid (memT ⟨true, ⟨k, n, s, ps⟩, its, qs⟩ = none) := Lib.hid (kind_no (fun e => by cases hz.out.2 e))
            clear hq hz hqz HA
            generalize strB (40 :: A) = SA at *
            generalize strB t = ST at *
            go_wp2_with fail
            refine (cQ _ (hP3.out.below HK.out.later)).mono ?_
            rintro e w2 ⟨rfl, hb2⟩
            go_wp2_with fail
            exact bodyPost_ret (v := .tuple #[.string ⟨#[]⟩, .int .i64 2]) (by simp [results, Tryz.results38, go_sem]) rfl ⟨by rw [HN.out, textV_none], HK.out.later.trans (hb2.mono HK.out.later.size)⟩
          | true =>
            have HV : Hid (memT ⟨true, ⟨k, n, s, ps⟩, its, qs⟩ = some (40 :: (A ++ 41 :: t))) := Lib.hid (by rw [hz.out.1 rfl]; exact kind_yes HA.out hq)
            have HX : Hid (strB (40 :: A) ++ (⟨#[41]⟩ : ByteArray) ++ strB t = strB (40 :: (A ++ 41 :: t))) := Lib.hid (by rw [show (⟨#[41]⟩ : ByteArray) = strB [41] from rfl, strB_append, strB_append]; simp)
            clear hq hz hqz HA
            generalize strB (40 :: A) = SA at *
            generalize strB t = ST at *
            go_wp2_with fail
            refine (cQ _ (hP3.out.below HK.out.later)).mono ?_
            rintro e w2 ⟨rfl, hb2⟩
            go_wp2_with fail
            exact bodyPost_ret (v := .tuple #[.string (SA ++ (⟨#[41]⟩ : ByteArray) ++ ST), .int .i64 0]) (by simp [results, Tryz.results38, go_sem]) rfl ⟨by rw [HV.out, textV_some, ← HX.out], HK.out.later.trans (hb2.mono HK.out.later.size)⟩

end Go.Proofs.YtjbipplaacgnkaaGreatDoor

namespace Go.Proofs.YtjbipplaacgnkaaGreatDoor
open Go.RowKit Go.Maps

set_option maxRecDepth 100000 in
set_option maxHeartbeats 4000000 in
theorem rprintList_any (v : Value) (xs : List Mem) (w : World) (h : GOff memR 0 none w v xs) (hl : xs.length ≤ 1000) (hk : ∀ x ∈ xs, MemOk x) (hT : ∀ x ∈ xs, ∀ t, memT x = some t → t.length ≤ 1000000000) :
    Calls Tryz.prog 20 #[v] w (printPost (textV (lsT xs)) w) := by
  obtain ⟨ao, ac, rfl, hc1⟩ := h
  have HC1 := Lib.hid hc1
  have HK := Lib.hid hk
  have HT := Lib.hid hT
  clear hc1 hk hT
  unfold lsT
  go_enter Tryz.func20, Tryz.ntmps20
  go_wp2_with fail
  go_loopw [4, 5] (fun t i wr => ∃ (j : Nat) (A : List UInt8), t = .string (strB A) ∧ i = .int .i64 j ∧ j ≤ xs.length ∧ A.length ≤ j * 2000000000 ∧ Hid (jnGo memT [44, 32] true xs = (jnGo memT [44, 32] (j == 0) (xs.drop j)).map (A ++ ·)) ∧ Below w.heap.size w wr) (fun _ i _ => xs.length - (intOf i).toNat)
  case atStart => exact ⟨0, [], rfl, rfl, Nat.zero_le _, by simp, Lib.hid (by simp), Below.refl _ _⟩
  case round =>
    obtain ⟨j, A, rfl, rfl, hj, hal, H, hb⟩ := hrel
    have HB := Lib.hid hb
    have hAz : (strB A).size ≤ 2000000000000 := by rw [strB_size]; omega
    by_cases hlt : j < xs.length
    · obtain ⟨M, hp⟩ : ∃ M, xs[j]? = some M := ⟨_, List.getElem?_eq_getElem hlt⟩
      rcases HC1.out with hnil | ⟨B, off, rfl, _, _, hB, hcell⟩
      · exfalso
        rw [hnil] at hlt
        simp at hlt
      · obtain ⟨⟨t1, t2, t3⟩, hpc, f1, f2, f3⟩ := hcell j M hp
        have hok := HK.out M (List.mem_of_getElem? hp)
        have hTm := HT.out M (List.mem_of_getElem? hp)
        obtain ⟨x0, x1, x2, x3, x4, x5, x6⟩ : wr.cell? ⟨B, off + j * 7, none⟩ = some (.bool M.inner) ∧ wr.cell? ⟨B, off + j * 7 + 1, none⟩ = some (.int .i64 M.it.k) ∧ wr.cell? ⟨B, off + j * 7 + 2, none⟩ = some (.int .i64 M.it.n) ∧ wr.cell? ⟨B, off + j * 7 + 3, none⟩ = some (.string (strB M.it.s)) ∧ wr.cell? ⟨B, off + j * 7 + 4, none⟩ = some t1 ∧ wr.cell? ⟨B, off + j * 7 + 5, none⟩ = some t2 ∧ wr.cell? ⟨B, off + j * 7 + 6, none⟩ = some t3 := (heldL_next ⟨mem7 hpc, mem7 hpc, Below.refl w.heap.size w⟩ hb).1
        have cI := rtext_any M (aggM M.inner M.it.k M.it.n (strB M.it.s) t1 t2 t3) wr (MemAt.below ⟨t1, t2, t3, rfl, f1, f2, f3⟩ hb) hok
        obtain ⟨ta1, tb1, rfl⟩ := f1.form
        obtain ⟨ta2, tb2, rfl⟩ := f2.form
        obtain ⟨ta3, tb3, rfl⟩ := f3.form
        have jI : (j : Int) < (xs.length : Int) := by omega
        have j0 : (0 : Int) ≤ (j : Int) := by omega
        rw [drop_at xs j M hp] at H
        clear hcell hpc f1 f2 f3 hB hp hb hok
        generalize strB M.it.s = MS at *
        cases hpt : memT M with
        | none =>
          have HN : Hid (jnGo memT [44, 32] true xs = none) := Lib.hid (by rw [H.out, jnGo_none _ _ _ _ _ hpt] <;> rfl)
          rw [hpt, textV_none] at cI
          clear hpt H hTm
          generalize strB A = SA at *
          go_wp2_with fail
          refine cI.mono ?_
          rintro e w2 ⟨rfl, hb2⟩
          go_wp2_with fail
          exact bodyPost_ret (v := .tuple #[.string ⟨#[]⟩, .int .i64 2]) (by simp [results, Tryz.results20, go_sem]) rfl ⟨by rw [HN.out, textV_none], HB.out.trans (hb2.mono HB.out.size)⟩
        | some t =>
          have htl := hTm t hpt
          rw [jnGo_some _ _ _ _ _ t hpt] at H
          rw [hpt, textV_some] at cI
          have hTz : (strB t).size ≤ 1000000000 := by rw [strB_size]; exact htl
          clear hpt hTm
          by_cases hj0 : j = 0
          · have hjy : (j == 0) = true := by simpa using hj0
            rw [hjy] at H
            have hjp : ¬ (0 : Int) < (j : Int) := by omega
            have HX : Hid (strB A ++ strB t = strB (A ++ t)) := Lib.hid (by rw [strB_append])
            have HN : Hid (jnGo memT [44, 32] true xs = (jnGo memT [44, 32] (j + 1 == 0) (xs.drop (j + 1))).map ((A ++ t) ++ ·)) := Lib.hid (by
              rw [H.out, Option.map_map, show (j + 1 == 0) = false from rfl]
              congr 1
              funext y
              simp)
            clear hj0 hjy H
            generalize hSA : strB A = SA at *
            generalize hST : strB t = ST at *
            have HSA := Lib.hid hSA
            have HST := Lib.hid hST
            clear hSA hST
            go_wp2_with fail
            refine cI.mono ?_
            rintro e w2 ⟨rfl, hb2⟩
            clear x0 x1 x2 x3 x4 x5 x6
            go_wp2_with fail
            go_roundw
            case rel => exact ⟨j + 1, A ++ t, by rw [HX.out], by go_num, by omega, by rw [List.length_append]; omega, Lib.hid HN.out, HB.out.trans (hb2.mono HB.out.size)⟩
            case measure => simp [intOf]; omega
          · have hjy : (j == 0) = false := by simpa using hj0
            rw [hjy] at H
            have hjp : (0 : Int) < (j : Int) := by omega
            have HX : Hid (strB A ++ (⟨#[44, 32]⟩ : ByteArray) ++ strB t = strB (A ++ 44 :: 32 :: t)) := Lib.hid (by rw [show (⟨#[44, 32]⟩ : ByteArray) = strB [44, 32] from rfl, strB_append, strB_append]; simp)
            have HN : Hid (jnGo memT [44, 32] true xs = (jnGo memT [44, 32] (j + 1 == 0) (xs.drop (j + 1))).map ((A ++ 44 :: 32 :: t) ++ ·)) := Lib.hid (by
              rw [H.out, Option.map_map, show (j + 1 == 0) = false from rfl]
              congr 1
              funext y
              simp)
            clear hj0 hjy H
            generalize hSA : strB A = SA at *
            generalize hST : strB t = ST at *
            have HSA := Lib.hid hSA
            have HST := Lib.hid hST
            clear hSA hST
            go_wp2_with fail
            refine cI.mono ?_
            rintro e w2 ⟨rfl, hb2⟩
            clear x0 x1 x2 x3 x4 x5 x6
            go_wp2_with fail
            go_roundw
            case rel => exact ⟨j + 1, A ++ 44 :: 32 :: t, by rw [HX.out], by go_num, by omega, by rw [List.length_append, List.length_cons, List.length_cons]; omega, Lib.hid HN.out, HB.out.trans (hb2.mono HB.out.size)⟩
            case measure => simp [intOf]; omega
    · obtain rfl : j = xs.length := by omega
      have HA : Hid (jnGo memT [44, 32] true xs = some A) := Lib.hid (by rw [H.out, List.drop_length]; simp [jnGo])
      clear H hlt hb
      go_wp2_with fail
      exact bodyPost_ret (v := .tuple #[.string (strB A), .int .i64 0]) (by simp [results, Tryz.results20, go_sem]) rfl ⟨by rw [HA.out, textV_some], HB.out⟩

end Go.Proofs.YtjbipplaacgnkaaGreatDoor
