/- The contract of the document's PrintDict (sculleryref04). -/
import Derived.Test.YtjbipplaacgnkaaGreatDoorHE
import Derived.Test.YtjbipplaacgnkaaGreatDoorHB
import Derived.Test.YtjbipplaacgnkaaGreatDoorGR
import Derived.Test.YtjbipplaacgnkaaGreatDoorGK
import Derived.Deep.QuietTactic
import Derived.BigQuiet

namespace Go.Proofs.YtjbipplaacgnkaaGreatDoor
open Go.RowKit Go.Maps

/-- A Boolean 1 alone begins as it. -/
theorem text_bool (n : Int) (s : List UInt8) (ps : List Prm) (its : List Itm) (qs : List Prm) (t : List UInt8) (hn : n = 1) (h : memT ⟨false, ⟨6, n, s, ps⟩, its, qs⟩ = some t) : Lib.hasPrefix t [63, 49] = true := by
  subst hn
  unfold memT at h
  cases hk : kindL ⟨false, ⟨6, 1, s, ps⟩, its, qs⟩ with
  | false => rw [hk, if_pos rfl] at h; cases h
  | true =>
    rw [hk, if_neg (by decide), if_pos rfl] at h
    obtain ⟨hr, _, v, _, e⟩ := prT_some _ _ _ _ _ h
    rw [e, (text_is_one _ _ _ hr).2 ⟨rfl, rfl⟩]
    exact List.isPrefixOf_iff_prefix.2 ⟨v, rfl⟩
theorem dcT_dup (es : List Ent) (i j : Nat) (p q : Ent) (hij : j < i) (hp : es[i]? = some p) (hq : es[j]? = some q) (h : q.key = p.key) : dcT es = none := by
  unfold dcT
  rw [if_pos]
  have hn : ¬ (es.map Ent.key).Nodup := by
    intro hn
    obtain ⟨hi, e1⟩ := List.getElem?_eq_some_iff.1 hp
    obtain ⟨hj, e2⟩ := List.getElem?_eq_some_iff.1 hq
    have h1 := List.pairwise_iff_getElem.1 hn j i (by simpa using hj) (by simpa using hi) hij
    simp only [List.getElem_map, e1, e2] at h1
    exact h1 h
  simp [eqKE, hn]
theorem dcT_bad (es : List Ent) (h : jnGo enT [44, 32] true es = none) : dcT es = none := by
  unfold dcT
  rw [h]
  split <;> rfl
theorem dcT_all (es : List Ent) (a : List UInt8) (hn : (es.map Ent.key).Nodup) (h : jnGo enT [44, 32] true es = some a) : dcT es = some a := by
  unfold dcT
  rw [if_neg (by simpa [eqKE] using hn)]
  exact h
theorem enodup_next (es : List Ent) (j : Nat) (p : Ent) (hp : es[j]? = some p) (hn : ((es.take j).map Ent.key).Nodup) (hb : ∀ (m : Nat) (q : Ent), m < j → es[m]? = some q → q.key ≠ p.key) : ((es.take (j + 1)).map Ent.key).Nodup := by
  rw [List.take_add_one, hp, List.map_append, List.nodup_append]
  refine ⟨hn, by simp, ?_⟩
  intro a ha b hb2 hab
  obtain rfl : b = p.key := by simpa using hb2
  obtain ⟨q, hq, hqk⟩ := List.mem_map.1 ha
  obtain ⟨m, hm⟩ := List.getElem?_of_mem hq
  rw [List.getElem?_take] at hm
  split at hm
  · rename_i hlt
    exact hb m q hlt hm (hqk.trans hab)
  · cases hm

set_option maxRecDepth 100000 in
set_option maxHeartbeats 8000000 in
theorem rprintDict_any (v : Value) (es : List Ent) (w : World) (h : GOff entR 0 none w v es) (hl : es.length ≤ 1000) (hk : ∀ E ∈ es, MemOk E.val ∧ E.key.length ≤ 100000) (hT : ∀ E ∈ es, ∀ t, memT E.val = some t → t.length ≤ 1000000000) :
    Calls Tryz.prog 22 #[v] w (printPost (textV (dcT es)) w) := by
  obtain ⟨ao, ac, rfl, hc1⟩ := h
  have HC1 := Lib.hid hc1
  have HK := Lib.hid hk
  have HT := Lib.hid hT
  clear hc1 hk hT
  go_enter Tryz.func22, Tryz.ntmps22
  go_wp2_with fail
  go_loopw [4, 5] (fun t i wr => ∃ (j : Nat) (A : List UInt8), t = .string (strB A) ∧ i = .int .i64 j ∧ j ≤ es.length ∧ A.length ≤ j * 2000000000 ∧ Hid (jnGo enT [44, 32] true es = (jnGo enT [44, 32] (j == 0) (es.drop j)).map (A ++ ·)) ∧ Hid (((es.take j).map Ent.key).Nodup) ∧ Below w.heap.size w wr) (fun _ i _ => es.length - (intOf i).toNat)
  case atStart => exact ⟨0, [], rfl, rfl, Nat.zero_le _, by simp, Lib.hid (by simp), Lib.hid (by simp), Below.refl _ _⟩
  case round =>
    obtain ⟨j, A, rfl, rfl, hj, hal, H, HN, hb⟩ := hrel
    have HB := Lib.hid hb
    have hAz : (strB A).size ≤ 2000000000000 := by rw [strB_size]; omega
    by_cases hlt : j < es.length
    · obtain ⟨E, hp⟩ : ∃ E, es[j]? = some E := ⟨_, List.getElem?_eq_getElem hlt⟩
      rcases HC1.out with hnil | ⟨B, off, rfl, _, _, hB, hcell⟩
      · exfalso
        rw [hnil] at hlt
        simp at hlt
      · obtain ⟨⟨t1, t2, t3⟩, hpc, f1, f2, f3⟩ := hcell j E hp
        obtain ⟨hok, hkl⟩ := HK.out E (List.mem_of_getElem? hp)
        have hTm := HT.out E (List.mem_of_getElem? hp)
        have HCK : Hid (∀ m q, es[m]? = some q → w.cell? ⟨B, off + m * 8, none⟩ = some (.string (strB q.key))) := Lib.hid (fun m q hq => by
          obtain ⟨u, hc, _⟩ := hcell m q hq
          simp only [show entR.size = 8 from rfl] at hc
          exact (ent8 hc).1)
        obtain ⟨K, b, ⟨k, n, s, ps⟩, its, qs⟩ := E
        obtain ⟨y0, y1, y2, y3, y4, y5, y6, y7⟩ := ent8 hpc
        have kk : ∀ {i : Nat} {u : Value}, w.cell? ⟨B, i, none⟩ = some u → wr.cell? ⟨B, i, none⟩ = some u := fun {i u} hc => (hb.cell (p := ⟨B, i, none⟩) hB).trans hc
        have x0 := kk y0
        have x1 := kk y1
        have x2 := kk y2
        have x3 := kk y3
        have x4 := kk y4
        have x5 := kk y5
        have x6 := kk y6
        have x7 := kk y7
        simp only [show entR.size = 8 from rfl] at x0 x1 x2 x3 x4 x5 x6 x7
        have cI := rtext_any ⟨b, ⟨k, n, s, ps⟩, its, qs⟩ (aggM b k n (strB s) t1 t2 t3) wr (MemAt.below ⟨t1, t2, t3, rfl, f1, f2, f3⟩ hb) hok
        have hPw := f1.prms.below hb
        have HP := Lib.hid hPw
        have hps := hok.1
        obtain ⟨s1, s2, s3, s4⟩ := hps
        dsimp only at s1 s2 s3 s4 hkl
        have cK := fun W => rkey_any (strB K) W (by rw [strB_size]; unfold maxLen; omega)
        rw [strB_data] at cK
        have hKs : (strB K).size ≤ 100000 := by rw [strB_size]; exact hkl
        obtain ⟨ta1, tb1, rfl⟩ := f1.form
        obtain ⟨ta2, tb2, rfl⟩ := f2.form
        obtain ⟨ta3, tb3, rfl⟩ := f3.form
        dsimp only at x0 x1 x2 x3 x4 x5 x6 x7 cI hPw HP hTm
        have cQ := fun W (hW : Prms W (.slice ta1 ps.length tb1) ps) => rprintParams_any (.slice ta1 ps.length tb1) ps W hW s1 s2
        have jI : (j : Int) < (es.length : Int) := by omega
        have j0 : (0 : Int) ≤ (j : Int) := by omega
        rw [drop_at es j _ hp] at H
        have HE := Lib.hid hp
        clear kk y0 y1 y2 y3 y4 y5 y6 y7 hcell hpc f1 f2 f3 hp hb hok hPw s1 s2 s3 s4 hkl
        cases hpt : memT ⟨b, ⟨k, n, s, ps⟩, its, qs⟩ with
        | none =>
          have HV : Hid (dcT es = none) := Lib.hid (dcT_bad es (by rw [H.out, jnGo_none _ _ _ _ _ (show enT ⟨K, ⟨b, ⟨k, n, s, ps⟩, its, qs⟩⟩ = none by unfold enT; rw [hpt])] <;> rfl))
          rw [hpt, textV_none] at cI
          clear hpt H hTm cK cQ
          generalize strB A = SA at *
          generalize strB K = SK at *
          generalize strB s = SS at *
          go_wp2_with fail
          refine cI.mono ?_
          rintro e w2 ⟨rfl, hb2⟩
          go_wp2_with fail
          exact bodyPost_ret (v := .tuple #[.string ⟨#[]⟩, .int .i64 2]) (by simp [results, Tryz.results22, go_sem]) rfl ⟨by rw [HV.out, textV_none], HB.out.trans (hb2.mono HB.out.size)⟩
        | some t =>
          have htl := hTm t hpt
          rw [hpt, textV_some] at cI
          have hTz : (strB t).size ≤ 1000000000 := by rw [strB_size]; exact htl
          cases h2 : keyL K with
          | false =>
            have HV : Hid (dcT es = none) := Lib.hid (dcT_bad es (by rw [H.out, jnGo_none _ _ _ _ _ (show enT ⟨K, ⟨b, ⟨k, n, s, ps⟩, its, qs⟩⟩ = none by unfold enT; rw [hpt]; dsimp only; rw [h2] <;> rfl)] <;> rfl))
            rw [h2] at cK
            clear hpt H hTm cQ h2
            generalize strB A = SA at *
            generalize strB K = SK at *
            generalize strB s = SS at *
            generalize strB t = ST at *
            go_wp2_with fail
            refine cI.mono ?_
            rintro e w2 ⟨rfl, hb2⟩
            have z0 := cell_next hb2 x0
            go_wp2_with (go_at_call 42; refine (cK _).mono ?_; rintro e w' ⟨rfl, rfl⟩)
            exact bodyPost_ret (v := .tuple #[.string ⟨#[]⟩, .int .i64 2]) (by simp [results, Tryz.results22, go_sem]) rfl ⟨by rw [HV.out, textV_none], HB.out.trans (hb2.mono HB.out.size)⟩
          | true =>
            rw [h2] at cK
            clear hTm
            have HPT := Lib.hid hpt
            have HK2 := Lib.hid h2
            clear hpt h2
            go_wp2_with fail
            refine cI.mono ?_
            rintro e w1 ⟨rfl, hb1⟩
            have z0 := cell_next hb1 x0
            have HZ : Hid (w1.cell? ⟨B, off + j * 8 + 1, none⟩ = some (.bool b) ∧ w1.cell? ⟨B, off + j * 8 + 2, none⟩ = some (.int .i64 k) ∧ w1.cell? ⟨B, off + j * 8 + 3, none⟩ = some (.int .i64 n) ∧ w1.cell? ⟨B, off + j * 8 + 4, none⟩ = some (.string (strB s)) ∧ w1.cell? ⟨B, off + j * 8 + 5, none⟩ = some (.slice ta1 ps.length tb1) ∧ w1.cell? ⟨B, off + j * 8 + 6, none⟩ = some (.slice ta2 its.length tb2) ∧ w1.cell? ⟨B, off + j * 8 + 7, none⟩ = some (.slice ta3 qs.length tb3)) := Lib.hid ⟨cell_next hb1 x1, cell_next hb1 x2, cell_next hb1 x3, cell_next hb1 x4, cell_next hb1 x5, cell_next hb1 x6, cell_next hb1 x7⟩
            have HB1 := Lib.hid (HB.out.trans (hb1.mono HB.out.size))
            have HP1 := Lib.hid (HP.out.below hb1)
            clear hb1 cI x0 x1 x2 x3 x4 x5 x6 x7 HB HP
            go_wp2_with (go_at_call 42; refine (cK _).mono ?_; rintro e w' ⟨rfl, rfl⟩)
            clear cK
            go_loopw [8] (fun x wr => ∃ m : Nat, x = .int .i64 m ∧ m ≤ j ∧ Hid (∀ (m' : Nat) (q : Ent), m' < m → es[m']? = some q → q.key ≠ K) ∧ Below w1.heap.size w1 wr) (fun x _ => j - (intOf x).toNat)
            case atStart => exact ⟨0, rfl, Nat.zero_le _, Lib.hid (fun m q hm => absurd hm (Nat.not_lt_zero _)), Below.refl _ _⟩
            case round =>
              obtain ⟨m, rfl, hm, HD, hb2⟩ := hrel
              have HB2 := Lib.hid hb2
              have HBw := Lib.hid (HB1.out.trans (hb2.mono HB1.out.size))
              have d1 := cell_next hb2 z0
              clear z0
              by_cases hmj : m < j
              · obtain ⟨q, hq⟩ : ∃ q, es[m]? = some q := ⟨_, List.getElem?_eq_getElem (by omega)⟩
                have d0 := (HBw.out.cell (p := ⟨B, off + m * 8, none⟩) hB).trans (HCK.out m q hq)
                have mI : (m : Int) < (es.length : Int) := by omega
                have m0 : (0 : Int) ≤ (m : Int) := by omega
                have HQ := Lib.hid hq
                clear hb2 hq
                by_cases hkk : q.key = K
                · have HV : Hid (dcT es = none) := Lib.hid (dcT_dup es j m _ q hmj HE.out HQ.out hkk)
                  rw [hkk] at d0
                  clear hkk
                  generalize strB K = SK at *
                  go_wp2_with fail
                  go_quiet (fail)
                  go_wp2_with fail
                  exact bodyPost_ret (v := .tuple #[.string ⟨#[]⟩, .int .i64 2]) (by simp [results, Tryz.results22, go_sem]) rfl ⟨by rw [HV.out, textV_none], HBw.out.trans ((below_drewN _ _).mono HBw.out.size)⟩
                · have hT : ((strB q.key).toList == (strB K).toList) = false := by
                    rw [beq_eq_false_iff_ne]
                    intro h
                    exact hkk (by simpa only [Lib.toList_data, strB_data] using h)
                  have HN2 : Hid (∀ (m' : Nat) (q' : Ent), m' < m + 1 → es[m']? = some q' → q'.key ≠ K) := Lib.hid (fun m' q' hm' hq' => by
                    by_cases e : m' = m
                    · subst e
                      rw [HQ.out] at hq'
                      obtain rfl := Option.some.inj hq'
                      exact hkk
                    · exact HD.out m' q' (by omega) hq')
                  clear hkk
                  generalize strB q.key = QK at *
                  generalize strB K = SK at *
                  go_wp2_with fail
                  go_quiet (fail)
                  go_wp2_with fail
                  go_roundw
                  case rel => exact ⟨m + 1, by go_num, by omega, HN2, HB2.out.trans ((below_drewN _ _).mono HB2.out.size)⟩
                  case measure => simp [intOf]; omega
              · obtain rfl : m = j := by omega
                have HN2 : Hid (((es.take (m + 1)).map Ent.key).Nodup) := Lib.hid (enodup_next es m _ HE.out HN.out HD.out)
                have HP2 := Lib.hid (HP1.out.below hb2)
                obtain ⟨r1, r2, r3, r4, r5, r6, r7⟩ := HZ.out
                have v1 := cell_next hb2 r1
                have v2 := cell_next hb2 r2
                have v3 := cell_next hb2 r3
                have v4 := cell_next hb2 r4
                have v5 := cell_next hb2 r5
                have v6 := cell_next hb2 r6
                have v7 := cell_next hb2 r7
                have cA := fun o => (Below.refl wr.heap.size wr).alloc (Nat.le_refl _) o
                have d4 := fun o => cell_next (cA o) d1
                clear hb2 r1 r2 r3 r4 r5 r6 r7 HZ hlt hmj hm HD HCK HB1 HB2 HP1
                cases hpre : Lib.hasPrefix t [63, 49] with
                | true =>
                  obtain ⟨u, rfl, hM, hu⟩ := bool_text _ t HPT.out hpre
                  obtain ⟨rfl, h3, rfl, rfl⟩ := Mem.mk.inj hM
                  obtain ⟨rfl, rfl, rfl, _⟩ := Itm.mk.inj h3
                  dsimp only at hu
                  rw [show strB [] = (⟨#[]⟩ : ByteArray) from rfl] at v4
                  have HEn : Hid (enT ⟨K, ⟨false, ⟨6, 1, [], ps⟩, [], []⟩⟩ = some (K ++ u)) := Lib.hid (by unfold enT; rw [HPT.out]; dsimp only; rw [HK2.out, if_neg (by decide), hpre, if_pos rfl] <;> rfl)
                  rw [jnGo_some _ _ _ _ _ _ HEn.out] at H
                  rw [hu, textV_some] at cQ
                  have hUz : (strB u).size ≤ 1000000000 := by rw [strB_size] at hTz ⊢; simp only [List.length_cons] at hTz; omega
                  clear hu hM h3 hpre HPT HK2
                  by_cases hj0 : m = 0
                  · have hjy : (m == 0) = true := by simpa using hj0
                    rw [hjy] at H
                    have hjp : ¬ (0 : Int) < (m : Int) := by omega
                    clear hj0 hjy
                    have HX : Hid (strB A ++ strB K ++ strB u = strB (A ++ (K ++ u))) := Lib.hid (by simp only [strB_append]; congr 1; simp)
                    have HNx : Hid (jnGo enT [44, 32] true es = (jnGo enT [44, 32] (m + 1 == 0) (es.drop (m + 1))).map ((A ++ (K ++ u)) ++ ·)) := Lib.hid (by
                      rw [H.out, Option.map_map, show (m + 1 == 0) = false from rfl]
                      congr 1
                      funext y
                      simp)
                    have hal2 : (A ++ (K ++ u)).length ≤ (m + 1) * 2000000000 := by simp only [List.length_append]; rw [strB_size] at hKs hUz; omega
                    clear H hal
                    generalize hSA : strB A = SA at *
                    generalize hSK : strB K = SK at *
                    have HSA := Lib.hid hSA
                    have HSK := Lib.hid hSK
                    clear hSA hSK
                    generalize hSU : strB u = SU at *
                    have HSU := Lib.hid hSU
                    clear hSU
                    generalize hST : strB (63 :: 49 :: u) = ST at *
                    have HST := Lib.hid hST
                    clear hST
                    go_wp2_with fail
                    refine (cQ _ (HP2.out.below (cA _))).mono ?_
                    rintro e w3 ⟨rfl, hb3⟩
                    have HB3 := Lib.hid (HBw.out.trans (((cA _).trans (hb3.mono (cA _).size)).mono HBw.out.size))
                    have d3 := cell_next ((cA _).trans (hb3.mono (cA _).size)) d1
                    clear d4 d1 v1 v2 v3 v4 v5 v6 v7 cQ cA hb3
                    go_wp2_with fail
                    go_roundw
                    case rel => exact ⟨m + 1, (A ++ (K ++ u)), by rw [HX.out], by go_num, by omega, hal2, Lib.hid HNx.out, Lib.hid HN2.out, HB3.out⟩
                    case measure => simp [intOf]; omega
                  · have hjy : (m == 0) = false := by simpa using hj0
                    rw [hjy] at H
                    have hjp : (0 : Int) < (m : Int) := by omega
                    clear hj0 hjy
                    have HX : Hid (strB A ++ (⟨#[44, 32]⟩ : ByteArray) ++ strB K ++ strB u = strB (A ++ 44 :: 32 :: (K ++ u))) := Lib.hid (by simp only [show (⟨#[44, 32]⟩ : ByteArray) = strB [44, 32] from rfl, strB_append]; congr 1; simp)
                    have HNx : Hid (jnGo enT [44, 32] true es = (jnGo enT [44, 32] (m + 1 == 0) (es.drop (m + 1))).map ((A ++ 44 :: 32 :: (K ++ u)) ++ ·)) := Lib.hid (by
                      rw [H.out, Option.map_map, show (m + 1 == 0) = false from rfl]
                      congr 1
                      funext y
                      simp)
                    have hal2 : (A ++ 44 :: 32 :: (K ++ u)).length ≤ (m + 1) * 2000000000 := by simp only [List.length_append, List.length_cons]; rw [strB_size] at hKs hUz; omega
                    clear H hal
                    generalize hSA : strB A = SA at *
                    generalize hSK : strB K = SK at *
                    have HSA := Lib.hid hSA
                    have HSK := Lib.hid hSK
                    clear hSA hSK
                    generalize hSU : strB u = SU at *
                    have HSU := Lib.hid hSU
                    clear hSU
                    generalize hST : strB (63 :: 49 :: u) = ST at *
                    have HST := Lib.hid hST
                    clear hST
                    go_wp2_with fail
                    refine (cQ _ (HP2.out.below (cA _))).mono ?_
                    rintro e w3 ⟨rfl, hb3⟩
                    have HB3 := Lib.hid (HBw.out.trans (((cA _).trans (hb3.mono (cA _).size)).mono HBw.out.size))
                    have d3 := cell_next ((cA _).trans (hb3.mono (cA _).size)) d1
                    clear d4 d1 v1 v2 v3 v4 v5 v6 v7 cQ cA hb3
                    go_wp2_with fail
                    go_roundw
                    case rel => exact ⟨m + 1, (A ++ 44 :: 32 :: (K ++ u)), by rw [HX.out], by go_num, by omega, hal2, Lib.hid HNx.out, Lib.hid HN2.out, HB3.out⟩
                    case measure => simp [intOf]; omega
                | false =>
                  have HEn : Hid (enT ⟨K, ⟨b, ⟨k, n, s, ps⟩, its, qs⟩⟩ = some (K ++ 61 :: t)) := Lib.hid (by unfold enT; rw [HPT.out]; dsimp only; rw [HK2.out, if_neg (by decide), hpre, if_neg (by decide)])
                  rw [jnGo_some _ _ _ _ _ _ HEn.out] at H
                  clear cQ
                  generalize strB s = SS at *
                  cases b
                  · by_cases h6 : k = 6
                    · subst h6
                      have hn1 : ¬ n = 1 := fun e => by
                        have := text_bool n s ps its qs t e HPT.out
                        rw [hpre] at this
                        cases this
                      have hn2 : (n == 1) = false := by simpa using hn1
                      clear hpre HPT HK2 HEn
                      by_cases hj0 : m = 0
                      · have hjy : (m == 0) = true := by simpa using hj0
                        rw [hjy] at H
                        have hjp : ¬ (0 : Int) < (m : Int) := by omega
                        clear hj0 hjy
                        have HX : Hid (strB A ++ strB K ++ (⟨#[61]⟩ : ByteArray) ++ strB t = strB (A ++ (K ++ 61 :: t))) := Lib.hid (by simp only [show (⟨#[61]⟩ : ByteArray) = strB [61] from rfl, strB_append]; congr 1; simp)
                        have HNx : Hid (jnGo enT [44, 32] true es = (jnGo enT [44, 32] (m + 1 == 0) (es.drop (m + 1))).map ((A ++ (K ++ 61 :: t)) ++ ·)) := Lib.hid (by
                          rw [H.out, Option.map_map, show (m + 1 == 0) = false from rfl]
                          congr 1
                          funext y
                          simp)
                        have hal2 : (A ++ (K ++ 61 :: t)).length ≤ (m + 1) * 2000000000 := by simp only [List.length_append, List.length_cons]; rw [strB_size] at hKs hTz; omega
                        clear H hal
                        generalize hSA : strB A = SA at *
                        generalize hSK : strB K = SK at *
                        have HSA := Lib.hid hSA
                        have HSK := Lib.hid hSK
                        clear hSA hSK
                        generalize hST : strB t = ST at *
                        have HST := Lib.hid hST
                        clear hST
                        go_wp2_with fail
                        go_roundw
                        case rel => exact ⟨m + 1, (A ++ (K ++ 61 :: t)), by rw [HX.out], by go_num, by omega, hal2, Lib.hid HNx.out, Lib.hid HN2.out, HBw.out.trans ((cA _).mono HBw.out.size)⟩
                        case measure => simp [intOf]; omega
                      · have hjy : (m == 0) = false := by simpa using hj0
                        rw [hjy] at H
                        have hjp : (0 : Int) < (m : Int) := by omega
                        clear hj0 hjy
                        have HX : Hid (strB A ++ (⟨#[44, 32]⟩ : ByteArray) ++ strB K ++ (⟨#[61]⟩ : ByteArray) ++ strB t = strB (A ++ 44 :: 32 :: (K ++ 61 :: t))) := Lib.hid (by simp only [show (⟨#[44, 32]⟩ : ByteArray) = strB [44, 32] from rfl, show (⟨#[61]⟩ : ByteArray) = strB [61] from rfl, strB_append]; congr 1; simp)
                        have HNx : Hid (jnGo enT [44, 32] true es = (jnGo enT [44, 32] (m + 1 == 0) (es.drop (m + 1))).map ((A ++ 44 :: 32 :: (K ++ 61 :: t)) ++ ·)) := Lib.hid (by
                          rw [H.out, Option.map_map, show (m + 1 == 0) = false from rfl]
                          congr 1
                          funext y
                          simp)
                        have hal2 : (A ++ 44 :: 32 :: (K ++ 61 :: t)).length ≤ (m + 1) * 2000000000 := by simp only [List.length_append, List.length_cons]; rw [strB_size] at hKs hTz; omega
                        clear H hal
                        generalize hSA : strB A = SA at *
                        generalize hSK : strB K = SK at *
                        have HSA := Lib.hid hSA
                        have HSK := Lib.hid hSK
                        clear hSA hSK
                        generalize hST : strB t = ST at *
                        have HST := Lib.hid hST
                        clear hST
                        go_wp2_with fail
                        go_roundw
                        case rel => exact ⟨m + 1, (A ++ 44 :: 32 :: (K ++ 61 :: t)), by rw [HX.out], by go_num, by omega, hal2, Lib.hid HNx.out, Lib.hid HN2.out, HBw.out.trans ((cA _).mono HBw.out.size)⟩
                        case measure => simp [intOf]; omega
                    · have h62 : (k == 6) = false := by simpa using h6
                      clear hpre HPT HK2 HEn
                      by_cases hj0 : m = 0
                      · have hjy : (m == 0) = true := by simpa using hj0
                        rw [hjy] at H
                        have hjp : ¬ (0 : Int) < (m : Int) := by omega
                        clear hj0 hjy
                        have HX : Hid (strB A ++ strB K ++ (⟨#[61]⟩ : ByteArray) ++ strB t = strB (A ++ (K ++ 61 :: t))) := Lib.hid (by simp only [show (⟨#[61]⟩ : ByteArray) = strB [61] from rfl, strB_append]; congr 1; simp)
                        have HNx : Hid (jnGo enT [44, 32] true es = (jnGo enT [44, 32] (m + 1 == 0) (es.drop (m + 1))).map ((A ++ (K ++ 61 :: t)) ++ ·)) := Lib.hid (by
                          rw [H.out, Option.map_map, show (m + 1 == 0) = false from rfl]
                          congr 1
                          funext y
                          simp)
                        have hal2 : (A ++ (K ++ 61 :: t)).length ≤ (m + 1) * 2000000000 := by simp only [List.length_append, List.length_cons]; rw [strB_size] at hKs hTz; omega
                        clear H hal
                        generalize hSA : strB A = SA at *
                        generalize hSK : strB K = SK at *
                        have HSA := Lib.hid hSA
                        have HSK := Lib.hid hSK
                        clear hSA hSK
                        generalize hST : strB t = ST at *
                        have HST := Lib.hid hST
                        clear hST
                        go_wp2_with fail
                        go_roundw
                        case rel => exact ⟨m + 1, (A ++ (K ++ 61 :: t)), by rw [HX.out], by go_num, by omega, hal2, Lib.hid HNx.out, Lib.hid HN2.out, HBw.out.trans ((cA _).mono HBw.out.size)⟩
                        case measure => simp [intOf]; omega
                      · have hjy : (m == 0) = false := by simpa using hj0
                        rw [hjy] at H
                        have hjp : (0 : Int) < (m : Int) := by omega
                        clear hj0 hjy
                        have HX : Hid (strB A ++ (⟨#[44, 32]⟩ : ByteArray) ++ strB K ++ (⟨#[61]⟩ : ByteArray) ++ strB t = strB (A ++ 44 :: 32 :: (K ++ 61 :: t))) := Lib.hid (by simp only [show (⟨#[44, 32]⟩ : ByteArray) = strB [44, 32] from rfl, show (⟨#[61]⟩ : ByteArray) = strB [61] from rfl, strB_append]; congr 1; simp)
                        have HNx : Hid (jnGo enT [44, 32] true es = (jnGo enT [44, 32] (m + 1 == 0) (es.drop (m + 1))).map ((A ++ 44 :: 32 :: (K ++ 61 :: t)) ++ ·)) := Lib.hid (by
                          rw [H.out, Option.map_map, show (m + 1 == 0) = false from rfl]
                          congr 1
                          funext y
                          simp)
                        have hal2 : (A ++ 44 :: 32 :: (K ++ 61 :: t)).length ≤ (m + 1) * 2000000000 := by simp only [List.length_append, List.length_cons]; rw [strB_size] at hKs hTz; omega
                        clear H hal
                        generalize hSA : strB A = SA at *
                        generalize hSK : strB K = SK at *
                        have HSA := Lib.hid hSA
                        have HSK := Lib.hid hSK
                        clear hSA hSK
                        generalize hST : strB t = ST at *
                        have HST := Lib.hid hST
                        clear hST
                        go_wp2_with fail
                        go_roundw
                        case rel => exact ⟨m + 1, (A ++ 44 :: 32 :: (K ++ 61 :: t)), by rw [HX.out], by go_num, by omega, hal2, Lib.hid HNx.out, Lib.hid HN2.out, HBw.out.trans ((cA _).mono HBw.out.size)⟩
                        case measure => simp [intOf]; omega
                  · clear hpre HPT HK2 HEn
                    by_cases hj0 : m = 0
                    · have hjy : (m == 0) = true := by simpa using hj0
                      rw [hjy] at H
                      have hjp : ¬ (0 : Int) < (m : Int) := by omega
                      clear hj0 hjy
                      have HX : Hid (strB A ++ strB K ++ (⟨#[61]⟩ : ByteArray) ++ strB t = strB (A ++ (K ++ 61 :: t))) := Lib.hid (by simp only [show (⟨#[61]⟩ : ByteArray) = strB [61] from rfl, strB_append]; congr 1; simp)
                      have HNx : Hid (jnGo enT [44, 32] true es = (jnGo enT [44, 32] (m + 1 == 0) (es.drop (m + 1))).map ((A ++ (K ++ 61 :: t)) ++ ·)) := Lib.hid (by
                        rw [H.out, Option.map_map, show (m + 1 == 0) = false from rfl]
                        congr 1
                        funext y
                        simp)
                      have hal2 : (A ++ (K ++ 61 :: t)).length ≤ (m + 1) * 2000000000 := by simp only [List.length_append, List.length_cons]; rw [strB_size] at hKs hTz; omega
                      clear H hal
                      generalize hSA : strB A = SA at *
                      generalize hSK : strB K = SK at *
                      have HSA := Lib.hid hSA
                      have HSK := Lib.hid hSK
                      clear hSA hSK
                      generalize hST : strB t = ST at *
                      have HST := Lib.hid hST
                      clear hST
                      go_wp2_with fail
                      go_roundw
                      case rel => exact ⟨m + 1, (A ++ (K ++ 61 :: t)), by rw [HX.out], by go_num, by omega, hal2, Lib.hid HNx.out, Lib.hid HN2.out, HBw.out.trans ((cA _).mono HBw.out.size)⟩
                      case measure => simp [intOf]; omega
                    · have hjy : (m == 0) = false := by simpa using hj0
                      rw [hjy] at H
                      have hjp : (0 : Int) < (m : Int) := by omega
                      clear hj0 hjy
                      have HX : Hid (strB A ++ (⟨#[44, 32]⟩ : ByteArray) ++ strB K ++ (⟨#[61]⟩ : ByteArray) ++ strB t = strB (A ++ 44 :: 32 :: (K ++ 61 :: t))) := Lib.hid (by simp only [show (⟨#[44, 32]⟩ : ByteArray) = strB [44, 32] from rfl, show (⟨#[61]⟩ : ByteArray) = strB [61] from rfl, strB_append]; congr 1; simp)
                      have HNx : Hid (jnGo enT [44, 32] true es = (jnGo enT [44, 32] (m + 1 == 0) (es.drop (m + 1))).map ((A ++ 44 :: 32 :: (K ++ 61 :: t)) ++ ·)) := Lib.hid (by
                        rw [H.out, Option.map_map, show (m + 1 == 0) = false from rfl]
                        congr 1
                        funext y
                        simp)
                      have hal2 : (A ++ 44 :: 32 :: (K ++ 61 :: t)).length ≤ (m + 1) * 2000000000 := by simp only [List.length_append, List.length_cons]; rw [strB_size] at hKs hTz; omega
                      clear H hal
                      generalize hSA : strB A = SA at *
                      generalize hSK : strB K = SK at *
                      have HSA := Lib.hid hSA
                      have HSK := Lib.hid hSK
                      clear hSA hSK
                      generalize hST : strB t = ST at *
                      have HST := Lib.hid hST
                      clear hST
                      go_wp2_with fail
                      go_roundw
                      case rel => exact ⟨m + 1, (A ++ 44 :: 32 :: (K ++ 61 :: t)), by rw [HX.out], by go_num, by omega, hal2, Lib.hid HNx.out, Lib.hid HN2.out, HBw.out.trans ((cA _).mono HBw.out.size)⟩
                      case measure => simp [intOf]; omega
    · obtain rfl : j = es.length := by omega
      have HV : Hid (dcT es = some A) := Lib.hid (dcT_all es A (by have := HN.out; rwa [List.take_length] at this) (by rw [H.out, List.drop_length]; simp [jnGo]))
      clear H hlt hb
      go_wp2_with fail
      exact bodyPost_ret (v := .tuple #[.string (strB A), .int .i64 0]) (by simp [results, Tryz.results22, go_sem]) rfl ⟨by rw [HV.out, textV_some], HB.out⟩

end Go.Proofs.YtjbipplaacgnkaaGreatDoor
