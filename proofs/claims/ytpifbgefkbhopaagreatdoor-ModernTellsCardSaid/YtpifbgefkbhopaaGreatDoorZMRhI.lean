/- The contract of the document's parse (sculleryref04) with keys, and of List and Dict. · The contracts of the document's Dict and List (sculleryref04). -/
import Derived.Test.YtpifbgefkbhopaaGreatDoorZMOwnB
import Derived.BigQuiet

namespace Go.Proofs.YtpifbgefkbhopaaGreatDoor
open Go.RowKit Go.Maps

theorem eidx_only (ks : List (List UInt8)) (k : List UInt8) (hn : ks.Nodup) (i : Nat) (hk : ks[i]? = some k) : idxL ks k = i := by
  obtain ⟨hi, hv⟩ := List.getElem?_eq_some_iff.1 hk
  have hm : idxL ks k < ks.length := (idxL_lt _ _).2 (List.mem_of_getElem? hk)
  have hf : ks[idxL ks k] = k := by
    have := List.findIdx_getElem (xs := ks) (p := (· == k)) (w := hm)
    exact eq_of_beq this
  exact (List.getElem_inj hn).1 (hf.trans hv.symm)
theorem putE_at (acc : List Ent) (E : Ent) (t : Nat) (q : Ent) (hn : (acc.map Ent.key).Nodup) (hq : acc[t]? = some q) (hk : q.key = E.key) : putE acc E = acc.set t E := by
  have h1 : idxL (acc.map Ent.key) E.key = t := eidx_only _ _ hn t (by rw [List.getElem?_map, hq, ← hk] <;> rfl)
  unfold putE
  rw [h1, if_pos (List.getElem?_eq_some_iff.1 hq).1]
theorem putE_no (acc : List Ent) (E : Ent) (h : ∀ (m : Nat) (q : Ent), m < acc.length → acc[m]? = some q → q.key ≠ E.key) : putE acc E = acc ++ [E] := by
  refine putE_new acc E ?_
  intro hm
  obtain ⟨q, hq, hk⟩ := List.mem_map.1 hm
  obtain ⟨m, hm2⟩ := List.getElem?_of_mem hq
  exact h m q (List.getElem?_eq_some_iff.1 hm2).1 hm2 hk

set_option maxRecDepth 100000 in
set_option maxHeartbeats 8000000 in
theorem rparse_on (s : ByteArray) (w : World) (hs : s.size ≤ 100000) :
    Calls Tryz.prog 41 #[.string s, .bool true] w (rparPost ((sepL (entK true) s.data.toList).map (shK true)) w) := by
  obtain ⟨i0, hi, hz0, hz1, hz2⟩ := info_parts info_rent
  obtain ⟨ns, hns⟩ : ∃ ns, spcL s.data.toList = ns := ⟨_, rfl⟩
  have hspc := spc_at s.data.toList
  have hnl := spc_le s.data.toList
  rw [← Lib.size_eq] at hnl
  rw [hns] at hspc hnl
  have Hspc := Lib.hid hspc
  have HSD : Hid (spD s.data.toList = s.data.toList.drop ns) := Lib.hid (by rw [spD_drop, hns])
  have HSL : Hid (sepL (entK true) s.data.toList = if spD s.data.toList = [] then some [] else sepF (entK true) (s.size + 1) (spD s.data.toList) []) := Lib.hid (by rw [Lib.size_eq] <;> rfl)
  clear hspc hns
  go_enter Tryz.func41, Tryz.ntmps41
  go_wp2_with fail
  go_loopw [7] (fun a wr => ∃ j : Nat, j ≤ ns ∧ a = .int .i64 (j : Int) ∧ wr = w) (fun a _ => s.size - (intOf a).toNat)
  case atStart => exact ⟨0, Nat.zero_le _, rfl, rfl⟩
  case round =>
    obtain ⟨J, hj, rfl, rfl⟩ := hrel
    have hjs : J ≤ s.size := by omega
    have hjn := Hspc.out J hj
    by_cases hlt2 : J < s.size
    · have hh := head_is s J hlt2 32
      cases hc : (((s[J]'hlt2).toNat : Int) == 32)
      · have hjn2 : J = ns := by
          by_cases h : J < ns
          · rw [hh.1 (hjn.2 h)] at hc
            exact absurd hc (by decide)
          · omega
        have H0 : Hid (sepL (entK true) s.data.toList = sepF (entK true) (s.size + 1) (s.data.toList.drop J) []) := Lib.hid (by
          rw [HSL.out, if_neg, HSD.out, hjn2]
          rw [HSD.out, ← hjn2]
          intro e
          have := congrArg List.length e
          rw [List.length_drop, ← Lib.size_eq, List.length_nil] at this
          omega)
        have e0 : ((J : Int) == (s.size : Int)) = false := by simp; omega
        have hfl : s.size - J < s.size + 1 := by omega
        have HB0 := Lib.hid (Below.refl wr.heap.size wr)
        clear hh hjn Hspc hjn2 HSD HSL hj hnl
        rename World => W0
        go_wp2_with fail
        go_loopw [6, 7] (fun v a wx => ∃ (K f : Nat) (all : List Ent) (av : Option Addr) (cv : Nat), v = .slice av (shK true all).length cv ∧ a = .int .i64 (K : Int) ∧ K ≤ s.size ∧ s.size - K < f ∧ all.length ≤ K ∧ Hid (sepL (entK true) s.data.toList = sepF (entK true) f (s.data.toList.drop K) all) ∧ OwnG entR 128 wx W0.heap.size (.slice av (shK true all).length cv) (shK true all) ∧ Below W0.heap.size W0 wx) (fun _ a _ => s.size - (intOf a).toNat)
        case atStart => exact ⟨J, _, [], none, 0, rfl, rfl, hjs, hfl, Nat.zero_le _, Lib.hid H0.out, OwnG.nothing _ _ _ _, HB0.out⟩
        case round =>
          obtain ⟨K, f, all, av, cv, rfl, rfl, hK, hf, hal, H, hown, hb⟩ := hrel
          have HO := Lib.hid hown
          have HB := Lib.hid hb
          clear H0 hfl HB0 hown hb e0 hc
          rename World => W1
          obtain ⟨f, rfl⟩ : ∃ f', f = f' + 1 := ⟨f - 1, by omega⟩
          have hxd : (s.extract K s.size).data.toList = s.data.toList.drop K := Lib.extract_to_end s K
          have hxs : (s.extract K s.size).size = s.size - K := by rw [Lib.size_eq, hxd, List.length_drop, ← Lib.size_eq]
          have cE := fun W => rentry_any (s.extract K s.size) true W (by omega)
          rw [hxd, hxs] at cE
          clear hxd hxs
          cases hent : entK true (s.data.toList.drop K) with
          | none =>
            have HR : Hid (sepL (entK true) s.data.toList = none) := Lib.hid (by rw [H.out, sepF_none _ _ _ _ hent])
            rw [hent] at cE
            clear hent H
            go_wp2_with fail
            refine (cE _).mono ?_
            rintro e w2 ⟨hb2, K0, m, rfl⟩
            have HB2 := Lib.hid (HB.out.trans (hb2.mono HB.out.size))
            clear hb2 cE
            go_wp2_with fail
            refine bodyPost_ret (v := .tuple #[.slice none 0 0, .int .i64 2]) (by simp [results, Tryz.results41, go_sem]) rfl ⟨HB2.out.alloc HB2.out.size _, ?_⟩
            rw [HR.out]
            rfl
          | some x =>
            obtain ⟨E, r⟩ := x
            obtain ⟨k, hk1, hk2, hr⟩ := entK_rest true _ _ _ hent
            rw [List.length_drop, ← Lib.size_eq] at hk2
            obtain ⟨K2, hK2⟩ : ∃ K2, K + k = K2 := ⟨_, rfl⟩
            rw [List.drop_drop, hK2] at hr
            subst hr
            rw [hent] at cE
            have HE := Lib.hid hent
            have HZ : Hid (s.size - K - (s.data.toList.drop K2).length = k) := Lib.hid (by rw [List.length_drop, ← Lib.size_eq]; omega)
            have hK2s : K2 ≤ s.size := by omega
            obtain ⟨K3, hK3⟩ : ∃ K3, K2 + blcL (s.data.toList.drop K2) = K3 := ⟨_, rfl⟩
            have hK3l := blcL_le (s.data.toList.drop K2)
            rw [List.length_drop, ← Lib.size_eq] at hK3l
            have HBL : Hid (blD (s.data.toList.drop K2) = s.data.toList.drop K3) := Lib.hid (by rw [blD_drop, List.drop_drop, hK3])
            have cB1 := fun W => rblanks_any s K2 W hs hK2s
            rw [hK3] at cB1
            have q1 : (K : Int) + (k : Int) = (K2 : Int) := by omega
            have hK3s : K3 ≤ s.size := by omega
            clear hent
            go_wp2_with fail
            refine (cE _).mono ?_
            rintro e w2 ⟨hb2, v2, h2, hv2⟩
            rw [HZ.out] at h2
            subst h2
            obtain ⟨u, vi, vp, rfl, hF⟩ := hv2
            obtain ⟨pa1, pb1, rfl⟩ := hF.1.form
            obtain ⟨pa2, pb2, rfl⟩ := hF.2.1.form
            obtain ⟨pa3, pb3, rfl⟩ := hF.2.2.form
            have HF := Lib.hid hF
            have HB2 := Lib.hid hb2
            clear hb2 hF cE
            have hnd := shK_nodup all
            have hal2 := shK_len true all
            have HSh := Lib.hid (shK_on all E)
            obtain ⟨acc, hacc⟩ : ∃ acc, shK true all = acc := ⟨_, rfl⟩
            have HAcc := Lib.hid hacc
            have HO' : Hid (OwnG entR 128 W1 W0.heap.size (.slice av acc.length cv) acc) := Lib.hid (hacc ▸ HO.out)
            rw [hacc] at hnd hal2 ⊢
            have HSh' : Hid (shK true (all ++ [E]) = putE acc E) := Lib.hid (by rw [HSh.out, hacc])
            have HND := Lib.hid hnd
            clear hacc hnd HSh HO
            have HO := HO'
            clear HO'
            have hbx : Below w2.heap.size w2 (w2.alloc (rentO (strB E.key) E.val.inner E.val.it.k E.val.it.n (strB E.val.it.s) (.slice pa1 E.val.it.ps.length pb1) (.slice pa2 E.val.its.length pb2) (.slice pa3 E.val.ps.length pb3))) := (Below.refl _ _).alloc (Nat.le_refl _) _
            have HCK : Hid (∀ X, Below (w2.heap.size + 1) (w2.alloc (rentO (strB E.key) E.val.inner E.val.it.k E.val.it.n (strB E.val.it.s) (.slice pa1 E.val.it.ps.length pb1) (.slice pa2 E.val.its.length pb2) (.slice pa3 E.val.ps.length pb3))) X → X.cell? ⟨w2.heap.size, 0, none⟩ = some (.string (strB E.key)) ∧ X.cell? ⟨w2.heap.size, 1, none⟩ = some (.bool E.val.inner) ∧ X.cell? ⟨w2.heap.size, 2, none⟩ = some (.int .i64 E.val.it.k) ∧ X.cell? ⟨w2.heap.size, 3, none⟩ = some (.int .i64 E.val.it.n) ∧ X.cell? ⟨w2.heap.size, 4, none⟩ = some (.string (strB E.val.it.s)) ∧ X.cell? ⟨w2.heap.size, 5, none⟩ = some (.slice pa1 E.val.it.ps.length pb1) ∧ X.cell? ⟨w2.heap.size, 6, none⟩ = some (.slice pa2 E.val.its.length pb2) ∧ X.cell? ⟨w2.heap.size, 7, none⟩ = some (.slice pa3 E.val.ps.length pb3)) := Lib.hid (fun X hX => by
              have kc := fun (i : Nat) => hX.cell (p := ⟨w2.heap.size, i, none⟩) (Nat.lt_succ_self _)
              refine ⟨?_, ?_, ?_, ?_, ?_, ?_, ?_, ?_⟩
              all_goals exact (kc _).trans (by simp))
            have HBX := Lib.hid hbx
            clear hbx
            go_wp2_with fail
            go_loopw [11, 12] (fun p i wx => ∃ (m : Nat) (P : Int), i = .int .i64 (m : Int) ∧ m ≤ acc.length ∧ p = .int .i64 P ∧ Hid ((P = -1 ∧ ∀ (m' : Nat) (q : Ent), m' < m → acc[m']? = some q → q.key ≠ E.key) ∨ (∃ (t : Nat) (q : Ent), P = (t : Int) ∧ acc[t]? = some q ∧ q.key = E.key)) ∧ Below (w2.heap.size + 1) (w2.alloc (rentO (strB E.key) E.val.inner E.val.it.k E.val.it.n (strB E.val.it.s) (.slice pa1 E.val.it.ps.length pb1) (.slice pa2 E.val.its.length pb2) (.slice pa3 E.val.ps.length pb3))) wx) (fun _ i _ => acc.length - (intOf i).toNat)
            case atStart => exact ⟨0, -1, rfl, Nat.zero_le _, rfl, Lib.hid (.inl ⟨rfl, fun m q hm => absurd hm (Nat.not_lt_zero _)⟩), Below.refl _ _⟩
            case round =>
              obtain ⟨m, P, rfl, hm, rfl, HP, hbX⟩ := hrel
              have HX := Lib.hid hbX
              have HBr : Hid (Below W1.heap.size W1 wr) := Lib.hid (HB2.out.trans ((HBX.out.trans (hbX.mono (by simp))).mono HB2.out.size))
              have hwz : w2.heap.size < wr.heap.size := by have := hbX.size; simp at this; omega
              clear hbX
              by_cases hmn : m < acc.length
              · obtain ⟨q, hq⟩ : ∃ q, acc[m]? = some q := ⟨_, List.getElem?_eq_getElem hmn⟩
                obtain ⟨us, hu1, hu2, _⟩ := HO.out
                obtain ⟨g, cap2, hsl, _, _, _⟩ := owns_slice hu2 (by omega)
                obtain ⟨rfl, _, rfl⟩ := Value.slice.inj hsl
                have hd0 : W1.cell? ⟨g, m * 8, none⟩ = some (.string (strB q.key)) := by
                  have hmu : m < us.length := by rw [hu1]; exact hmn
                  have hz : (acc.zip us)[m]? = some (q, us[m]) := by
                    rw [List.getElem?_zip_eq_some]
                    exact ⟨hq, List.getElem?_eq_getElem hmu⟩
                  have hr := rowG_at entR _ m 0 q us[m] hz (by decide)
                  exact owns_cells hu2 _ _ hr
                have d0 := cell_next HBr.out hd0
                obtain ⟨c0, _⟩ := HCK.out wr HX.out
                have mI : (m : Int) < (acc.length : Int) := by omega
                have m0 : (0 : Int) ≤ (m : Int) := by omega
                have HQ := Lib.hid hq
                clear hu1 hu2 hd0 hq hsl
                cases hkk : ((strB q.key).toList == (strB E.key).toList)
                · have HN2 : Hid ((P = -1 ∧ ∀ (m' : Nat) (q : Ent), m' < m + 1 → acc[m']? = some q → q.key ≠ E.key) ∨ (∃ (t : Nat) (q : Ent), P = (t : Int) ∧ acc[t]? = some q ∧ q.key = E.key)) := Lib.hid (by
                    rcases HP.out with ⟨h1, h2⟩ | h
                    · refine .inl ⟨h1, fun m' q' hm' hq' => ?_⟩
                      by_cases e : m' = m
                      · subst e
                        rw [HQ.out] at hq'
                        obtain rfl := Option.some.inj hq'
                        intro e2
                        rw [e2] at hkk
                        simp at hkk
                      · exact h2 m' q' (by omega) hq'
                    · exact .inr h)
                  clear HP
                  generalize strB q.key = QK at *
                  generalize strB E.key = EK at *
                  go_wp2_with fail
                  go_quiet (fail)
                  go_wp2_with fail
                  go_roundw
                  case rel =>
                    first
                    | exact ⟨m + 1, P, by go_num, by omega, rfl, HN2, HX.out.trans ((below_drewN _ _).mono (Nat.succ_le_of_lt hwz))⟩
                    | (repeat apply Exists.intro
                       exact ⟨⟨m + 1, P, by go_num, by omega, rfl, HN2, HX.out.trans ((below_drewN _ _).mono (Nat.succ_le_of_lt hwz))⟩, rfl⟩)
                  case measure => simp [intOf]; omega
                · have hqk : q.key = E.key := by
                    have h := eq_of_beq hkk
                    simpa only [Lib.toList_data, strB_data] using h
                  have HN2 : Hid (((m : Int) = -1 ∧ ∀ (m' : Nat) (q : Ent), m' < m + 1 → acc[m']? = some q → q.key ≠ E.key) ∨ (∃ (t : Nat) (q : Ent), (m : Int) = (t : Int) ∧ acc[t]? = some q ∧ q.key = E.key)) := Lib.hid (.inr ⟨m, q, rfl, HQ.out, hqk⟩)
                  clear HP hqk
                  generalize strB q.key = QK at *
                  generalize strB E.key = EK at *
                  go_wp2_with fail
                  go_quiet (fail)
                  go_wp2_with fail
                  go_roundw
                  case rel =>
                    first
                    | exact ⟨m + 1, (m : Int), by go_num, by omega, rfl, HN2, HX.out.trans ((below_drewN _ _).mono (Nat.succ_le_of_lt hwz))⟩
                    | (repeat apply Exists.intro
                       exact ⟨⟨m + 1, (m : Int), by go_num, by omega, rfl, HN2, HX.out.trans ((below_drewN _ _).mono (Nat.succ_le_of_lt hwz))⟩, rfl⟩)
                  case measure => simp [intOf]; omega
              · obtain rfl : m = acc.length := by omega
                obtain ⟨c0, c1, c2, c3, c4, c5, c6, c7⟩ := HCK.out wr HX.out
                have hFr : entR.F w2.heap.size none w2 E (.slice pa1 E.val.it.ps.length pb1, .slice pa2 E.val.its.length pb2, .slice pa3 E.val.ps.length pb3) → True := fun _ => trivial
                clear hFr
                have HF3 : Hid (entR.F W1.heap.size none wr E (.slice pa1 E.val.it.ps.length pb1, .slice pa2 E.val.its.length pb2, .slice pa3 E.val.ps.length pb3)) := Lib.hid (entR.below HF.out (HBX.out.trans (HX.out.mono (by simp))))
                rcases HP.out with ⟨rfl, hno⟩ | ⟨t, q, rfl, hq, hqk⟩
                · have HPE : Hid (shK true (all ++ [E]) = acc ++ [E]) := Lib.hid (by rw [HSh'.out, putE_no acc E hno])
                  clear HP hno HCK
                  obtain ⟨us, hu1, hu2, hu3⟩ := HO.out
                  have hbA : Below wr.heap.size wr (wr.alloc (rentO (strB E.key) E.val.inner E.val.it.k E.val.it.n (strB E.val.it.s) (.slice pa1 E.val.it.ps.length pb1) (.slice pa2 E.val.its.length pb2) (.slice pa3 E.val.ps.length pb3))) := (Below.refl _ _).alloc (Nat.le_refl _) _
                  have hOW := ownsRow_later (ownsRow_later hu2 HBr.out) hbA
                  have hnew := cells_new wr (entR.cells E (.slice pa1 E.val.it.ps.length pb1, .slice pa2 E.val.its.length pb2, .slice pa3 E.val.ps.length pb3)) 128
                  have HNew := Lib.hid hnew
                  clear hnew
                  have hzB := Nat.le_trans HB.out.size HBr.out.size
                  have hF2 := entR.below (entR.low (entR.avoid (blk' := (Value.slice av acc.length cv).ownBlock) HF3.out (fun k hk => (World.ownsRow.lt hu2 k hk).2)) HB.out.size) hbA
                  go_wp2_with (at_builtin; (refine wpList_append_lies _ rfl _ _ 54 rfl W0.heap.size 128 i0 (.agg #[.string ⟨#[]⟩, .bool false, .int .i64 0, .int .i64 0, .string ⟨#[]⟩, .slice none 0 0, .slice none 0 0, .slice none 0 0]) 8 128 Tryz.underlying54 hi hz0 hz1 hz2 rfl (by decide) (.slice av acc.length cv) acc.length (rowG entR (acc.zip us)) rfl hOW ⟨_, 0, none⟩ 1 1 (entR.cells E (.slice pa1 E.val.it.ps.length pb1, .slice pa2 E.val.its.length pb2, .slice pa3 E.val.ps.length pb3)) rfl rfl HNew.out (by simp [Value.oneCell', entR, memR]) (by decide) (by unfold maxLen; omega) (by omega) (by simp; omega) _ rfl ?_); intro g5 cap5 w5 hown5 hgrow5 hat5 hlt5)
                  have hN := OwnG.snoc (R := entR) (xs := acc) (us := us) hu1 (fun i u x hu hx => entR.below (entR.below (hu3 i u x hu hx) HBr.out) hbA) hF2 hown5 hgrow5 hat5
                  have hbw5 : Below W0.heap.size W0 w5 := ((HB.out.trans (HBr.out.mono HB.out.size)).trans (hbA.mono hzB)).grown hgrow5 (by simp; omega) (fun k e => (World.ownsRow.lt hu2 k e).1)
                  have HB5 := Lib.hid hbw5
                  have HLn : Hid ((shK true (all ++ [E])).length = acc.length + 1) := Lib.hid (by rw [HPE.out, List.length_append] <;> rfl)
                  have HN5 : Hid (OwnG entR 128 w5 W0.heap.size (.slice (some ⟨g5, 0, none⟩) (acc.length + 1) cap5) (shK true (all ++ [E]))) := Lib.hid (by rw [HPE.out]; exact hN)
                  clear hN hbw5 hgrow5 hown5 hOW hbA hF2 hu2 hu3 c0 c1 c2 c3 c4 c5 c6 c7
                  go_wp2_with fail
                  refine (cB1 _).mono ?_
                  rintro e w6 ⟨rfl, rfl⟩
                  by_cases hend : K3 = s.size
                  · have HR : Hid (sepL (entK true) s.data.toList = some (all ++ [E])) := Lib.hid (by rw [H.out, sepF_end _ _ _ _ _ _ HE.out (by rw [HBL.out, hend, List.drop_of_length_le (by rw [← Lib.size_eq]; omega)])])
                    have e1 : ((K3 : Int) == (s.size : Int)) = true := by simp; omega
                    clear H
                    go_wp2_with fail
                    refine bodyPost_ret (v := .tuple #[(.slice (some ⟨g5, 0, none⟩) (acc.length + 1) cap5), .int .i64 0]) (by simp [results, Tryz.results41, go_sem]) rfl ⟨HB5.out, ?_⟩
                    rw [HR.out]
                    exact ⟨_, rfl, HN5.out.off.low (Nat.zero_le _)⟩
                  · have hK3l : K3 < s.size := by omega
                    have e1 : ((K3 : Int) == (s.size : Int)) = false := by simp; omega
                    have hne : s.data.toList.drop K3 ≠ [] := by
                      intro e
                      have := congrArg List.length e
                      rw [List.length_drop, ← Lib.size_eq, List.length_nil] at this
                      omega
                    have hh := head_is s K3 hK3l 44
                    cases h44 : (((s[K3]'hK3l).toNat : Int) == 44)
                    · have HR : Hid (sepL (entK true) s.data.toList = none) := Lib.hid (by
                        rw [H.out]
                        refine sepF_bad _ _ _ _ _ _ HE.out (by rw [HBL.out]; exact hne) (by
                          rw [HBL.out]
                          intro e
                          rw [hh.1 e] at h44
                          exact absurd h44 (by decide)))
                      clear H hh hend hne
                      go_wp2_with fail
                      refine bodyPost_ret (v := .tuple #[.slice none 0 0, .int .i64 2]) (by simp [results, Tryz.results41, go_sem]) rfl ⟨HB5.out, ?_⟩
                      rw [HR.out]
                      rfl
                    · have h44' : (s.data.toList.drop K3).head? = some 44 := hh.2 (by simpa using h44)
                      obtain ⟨K4, hK4⟩ : ∃ K4, K3 + 1 + blcL (s.data.toList.drop (K3 + 1)) = K4 := ⟨_, rfl⟩
                      have hK4l := blcL_le (s.data.toList.drop (K3 + 1))
                      rw [List.length_drop, ← Lib.size_eq] at hK4l
                      have HM : Hid (sepL (entK true) s.data.toList = sepF (entK true) f (s.data.toList.drop K4) (all ++ [E])) := Lib.hid (by
                        rw [H.out, sepF_more _ _ _ _ _ _ HE.out (by rw [HBL.out]; exact hne) (by rw [HBL.out]; exact h44'), HBL.out, List.drop_drop, blD_drop, List.drop_drop, hK4])
                      have cB2 := fun W => rblanks_any s (K3 + 1) W hs (by omega)
                      rw [hK4] at cB2
                      have q2 : (K3 : Int) + 1 = ((K3 + 1 : Nat) : Int) := by omega
                      rw [← q2] at cB2
                      clear H hh hend hne h44' q2
                      by_cases hend2 : K4 = s.size
                      · have HR : Hid (sepL (entK true) s.data.toList = none) := Lib.hid (by
                          rw [HM.out, hend2, List.drop_of_length_le (by rw [← Lib.size_eq]; omega)]
                          cases f with
                          | zero => rfl
                          | succ f => exact sepF_none _ _ _ _ (entK_nil true))
                        have e2 : ((K4 : Int) == (s.size : Int)) = true := by simp; omega
                        go_wp2_with fail
                        refine (cB2 _).mono ?_
                        rintro e w6 ⟨rfl, rfl⟩
                        go_wp2_with fail
                        refine bodyPost_ret (v := .tuple #[.slice none 0 0, .int .i64 2]) (by simp [results, Tryz.results41, go_sem]) rfl ⟨HB5.out, ?_⟩
                        rw [HR.out]
                        rfl
                      · have e2 : ((K4 : Int) == (s.size : Int)) = false := by simp; omega
                        go_wp2_with fail
                        refine (cB2 _).mono ?_
                        rintro e w6 ⟨rfl, rfl⟩
                        go_wp2_with fail
                        go_roundw
                        case rel =>
                          first
                          | exact ⟨K4, f, all ++ [E], some ⟨g5, 0, none⟩, cap5, by rw [HLn.out], by go_num, by omega, by omega, by simp; omega, Lib.hid HM.out, by rw [HLn.out]; exact HN5.out, HB5.out⟩
                          | (repeat apply Exists.intro
                             exact ⟨⟨K4, f, all ++ [E], some ⟨g5, 0, none⟩, cap5, by rw [HLn.out], by go_num, by omega, by omega, by simp; omega, Lib.hid HM.out, by rw [HLn.out]; exact HN5.out, HB5.out⟩, rfl⟩)
                        case measure => simp [intOf]; omega
                · have htl := (List.getElem?_eq_some_iff.1 hq).1
                  have HPE : Hid (shK true (all ++ [E]) = acc.set t E) := Lib.hid (by rw [HSh'.out, putE_at acc E t q HND.out hq hqk])
                  clear HP hq hqk HCK
                  obtain ⟨us, hu1, hu2, hu3⟩ := HO.out
                  obtain ⟨g, cap2, hsl, hgB, hgW, _⟩ := owns_slice hu2 (by omega)
                  obtain ⟨rfl, _, rfl⟩ := Value.slice.inj hsl
                  have hOr : wr.ownsRow W0.heap.size 128 8 (.slice (some ⟨g, 0, none⟩) acc.length cv) acc.length (rowG entR (acc.zip us)) := ownsRow_later hu2 HBr.out
                  obtain ⟨t0, b0, f0⟩ := owns_cell hOr (t * 8) (by omega)
                  obtain ⟨t1, b1, f1⟩ := owns_cell hOr (t * 8 + 1) (by omega)
                  obtain ⟨t2, b2, f2⟩ := owns_cell hOr (t * 8 + 2) (by omega)
                  obtain ⟨t3, b3, f3⟩ := owns_cell hOr (t * 8 + 3) (by omega)
                  obtain ⟨t4, b4, f4⟩ := owns_cell hOr (t * 8 + 4) (by omega)
                  obtain ⟨t5, b5, f5⟩ := owns_cell hOr (t * 8 + 5) (by omega)
                  obtain ⟨t6, b6, f6⟩ := owns_cell hOr (t * 8 + 6) (by omega)
                  obtain ⟨t7, b7, f7⟩ := owns_cell hOr (t * 8 + 7) (by omega)
                  have tI : (t : Int) < (acc.length : Int) := by omega
                  have tz : (0 : Int) ≤ (t : Int) := by omega
                  have HOr : Hid (OwnG entR 128 wr W0.heap.size (.slice (some ⟨g, 0, none⟩) acc.length cv) acc) := Lib.hid (OwnG.below ⟨us, hu1, hu2, hu3⟩ HBr.out)
                  have HFg : Hid (entR.F W0.heap.size (some g) wr E (.slice pa1 E.val.it.ps.length pb1, .slice pa2 E.val.its.length pb2, .slice pa3 E.val.ps.length pb3)) := Lib.hid (entR.low (entR.avoid (blk' := some g) HF3.out (fun k hk => by cases hk; exact hgW)) HB.out.size)
                  have hN := OwnE.put HOr.out htl HFg.out
                  have hgw : W0.heap.size ≤ g := hgB
                  have hbw := HB.out.trans (HBr.out.mono HB.out.size)
                  have hbw5 := (((((((hbw.setCell (p := ⟨g, t * 8, none⟩) hgw (.string (strB E.key))).setCell (p := ⟨g, t * 8 + 1, none⟩) hgw (.bool E.val.inner)).setCell (p := ⟨g, t * 8 + 2, none⟩) hgw (.int .i64 E.val.it.k)).setCell (p := ⟨g, t * 8 + 3, none⟩) hgw (.int .i64 E.val.it.n)).setCell (p := ⟨g, t * 8 + 4, none⟩) hgw (.string (strB E.val.it.s))).setCell (p := ⟨g, t * 8 + 5, none⟩) hgw (.slice pa1 E.val.it.ps.length pb1)).setCell (p := ⟨g, t * 8 + 6, none⟩) hgw (.slice pa2 E.val.its.length pb2)).setCell (p := ⟨g, t * 8 + 7, none⟩) hgw (.slice pa3 E.val.ps.length pb3)
                  have HB5 := Lib.hid hbw5
                  have HLn : Hid ((shK true (all ++ [E])).length = acc.length) := Lib.hid (by rw [HPE.out, List.length_set])
                  rw [← HPE.out] at hN
                  have HN5 := Lib.hid hN
                  clear hN hbw5 hOr hu1 hu2 hu3 hbw hsl
                  go_wp2_with fail
                  refine (cB1 _).mono ?_
                  rintro e w6 ⟨rfl, rfl⟩
                  by_cases hend : K3 = s.size
                  · have HR : Hid (sepL (entK true) s.data.toList = some (all ++ [E])) := Lib.hid (by rw [H.out, sepF_end _ _ _ _ _ _ HE.out (by rw [HBL.out, hend, List.drop_of_length_le (by rw [← Lib.size_eq]; omega)])])
                    have e1 : ((K3 : Int) == (s.size : Int)) = true := by simp; omega
                    clear H
                    go_wp2_with fail
                    refine bodyPost_ret (v := .tuple #[(.slice (some ⟨g, 0, none⟩) acc.length cv), .int .i64 0]) (by simp [results, Tryz.results41, go_sem]) rfl ⟨HB5.out, ?_⟩
                    rw [HR.out]
                    exact ⟨_, rfl, HN5.out.off.low (Nat.zero_le _)⟩
                  · have hK3l : K3 < s.size := by omega
                    have e1 : ((K3 : Int) == (s.size : Int)) = false := by simp; omega
                    have hne : s.data.toList.drop K3 ≠ [] := by
                      intro e
                      have := congrArg List.length e
                      rw [List.length_drop, ← Lib.size_eq, List.length_nil] at this
                      omega
                    have hh := head_is s K3 hK3l 44
                    cases h44 : (((s[K3]'hK3l).toNat : Int) == 44)
                    · have HR : Hid (sepL (entK true) s.data.toList = none) := Lib.hid (by
                        rw [H.out]
                        refine sepF_bad _ _ _ _ _ _ HE.out (by rw [HBL.out]; exact hne) (by
                          rw [HBL.out]
                          intro e
                          rw [hh.1 e] at h44
                          exact absurd h44 (by decide)))
                      clear H hh hend hne
                      go_wp2_with fail
                      refine bodyPost_ret (v := .tuple #[.slice none 0 0, .int .i64 2]) (by simp [results, Tryz.results41, go_sem]) rfl ⟨HB5.out, ?_⟩
                      rw [HR.out]
                      rfl
                    · have h44' : (s.data.toList.drop K3).head? = some 44 := hh.2 (by simpa using h44)
                      obtain ⟨K4, hK4⟩ : ∃ K4, K3 + 1 + blcL (s.data.toList.drop (K3 + 1)) = K4 := ⟨_, rfl⟩
                      have hK4l := blcL_le (s.data.toList.drop (K3 + 1))
                      rw [List.length_drop, ← Lib.size_eq] at hK4l
                      have HM : Hid (sepL (entK true) s.data.toList = sepF (entK true) f (s.data.toList.drop K4) (all ++ [E])) := Lib.hid (by
                        rw [H.out, sepF_more _ _ _ _ _ _ HE.out (by rw [HBL.out]; exact hne) (by rw [HBL.out]; exact h44'), HBL.out, List.drop_drop, blD_drop, List.drop_drop, hK4])
                      have cB2 := fun W => rblanks_any s (K3 + 1) W hs (by omega)
                      rw [hK4] at cB2
                      have q2 : (K3 : Int) + 1 = ((K3 + 1 : Nat) : Int) := by omega
                      rw [← q2] at cB2
                      clear H hh hend hne h44' q2
                      by_cases hend2 : K4 = s.size
                      · have HR : Hid (sepL (entK true) s.data.toList = none) := Lib.hid (by
                          rw [HM.out, hend2, List.drop_of_length_le (by rw [← Lib.size_eq]; omega)]
                          cases f with
                          | zero => rfl
                          | succ f => exact sepF_none _ _ _ _ (entK_nil true))
                        have e2 : ((K4 : Int) == (s.size : Int)) = true := by simp; omega
                        go_wp2_with fail
                        refine (cB2 _).mono ?_
                        rintro e w6 ⟨rfl, rfl⟩
                        go_wp2_with fail
                        refine bodyPost_ret (v := .tuple #[.slice none 0 0, .int .i64 2]) (by simp [results, Tryz.results41, go_sem]) rfl ⟨HB5.out, ?_⟩
                        rw [HR.out]
                        rfl
                      · have e2 : ((K4 : Int) == (s.size : Int)) = false := by simp; omega
                        go_wp2_with fail
                        refine (cB2 _).mono ?_
                        rintro e w6 ⟨rfl, rfl⟩
                        go_wp2_with fail
                        go_roundw
                        case rel =>
                          first
                          | exact ⟨K4, f, all ++ [E], some ⟨g, 0, none⟩, cv, by rw [HLn.out], by go_num, by omega, by omega, by simp; omega, Lib.hid HM.out, by rw [HLn.out]; exact HN5.out, HB5.out⟩
                          | (repeat apply Exists.intro
                             exact ⟨⟨K4, f, all ++ [E], some ⟨g, 0, none⟩, cv, by rw [HLn.out], by go_num, by omega, by omega, by simp; omega, Lib.hid HM.out, by rw [HLn.out]; exact HN5.out, HB5.out⟩, rfl⟩)
                        case measure => simp [intOf]; omega
      · have hjn2 : J < ns := hjn.1 (hh.2 (by simpa using hc))
        clear hh hjn
        go_wp2_with fail
        go_roundw
        case rel => exact ⟨J + 1, hjn2, by go_num, by first | rfl | trivial⟩
        case measure => simp [intOf]; omega
    · obtain rfl : J = s.size := by omega
      have hjn2 : s.size = ns := by omega
      have HR : Hid (sepL (entK true) s.data.toList = some []) := Lib.hid (by
        rw [HSL.out, if_pos]
        rw [HSD.out, ← hjn2, List.drop_of_length_le (by rw [← Lib.size_eq]; omega)])
      have e0 : ((s.size : Int) == (s.size : Int)) = true := by simp
      clear hjn Hspc HSD HSL hjn2
      go_wp2_with fail
      refine bodyPost_ret (v := .tuple #[.slice none 0 0, .int .i64 0]) (by simp [results, Tryz.results41, go_sem]) rfl ⟨Below.refl _ _, ?_⟩
      rw [HR.out]
      exact ⟨_, rfl, none, 0, rfl, .inl rfl⟩

end Go.Proofs.YtpifbgefkbhopaaGreatDoor

namespace Go.Proofs.YtpifbgefkbhopaaGreatDoor
open Go.RowKit Go.Maps

theorem sepF_val : ∀ (f : Nat) (l : List UInt8) (acc : List Ent) (xs : List Mem), acc.map Ent.val = xs → (sepF (entK false) f l acc).map (List.map Ent.val) = sepF memL f l xs
  | 0, l, acc, xs, _ => rfl
  | f + 1, l, acc, xs, h => by
    have hE : entK false l = (memL l).map (fun p => (⟨[], p.1⟩, p.2)) := rfl
    cases hr : memL l with
    | none =>
      rw [sepF_none memL f l xs hr, sepF_none (entK false) f l acc (by rw [hE, hr] <;> rfl)] <;> rfl
    | some x =>
      obtain ⟨M, r⟩ := x
      have he : entK false l = some (⟨[], M⟩, r) := by rw [hE, hr] <;> rfl
      have hs : (acc ++ [(⟨[], M⟩ : Ent)]).map Ent.val = xs ++ [M] := by rw [List.map_append, h] <;> rfl
      by_cases hb : blD r = []
      · rw [sepF_end memL f l r xs M hr hb, sepF_end (entK false) f l r acc _ he hb, Option.map_some, hs]
      · by_cases hc : (blD r).head? = some 44
        · rw [sepF_more memL f l r xs M hr hb hc, sepF_more (entK false) f l r acc _ he hb hc]
          exact sepF_val f _ _ _ hs
        · rw [sepF_bad memL f l r xs M hr hb hc, sepF_bad (entK false) f l r acc _ he hb hc] <;> rfl
theorem sepL_val (l : List UInt8) : (sepL (entK false) l).map (List.map Ent.val) = sepL memL l := by
  unfold sepL
  split
  · rfl
  · exact sepF_val _ _ _ _ rfl

set_option maxRecDepth 100000 in
set_option maxHeartbeats 2000000 in
theorem rdict_any (s : ByteArray) (w : World) (hs : s.size ≤ 100000) :
    Calls Tryz.prog 19 #[.string s] w (rparPost (dicL s.data.toList) w) := by
  have cP := rparse_on s w hs
  have hd : (sepL (entK true) s.data.toList).map (shK true) = dicL s.data.toList := rfl
  rw [hd] at cP
  clear hd
  cases hx : dicL s.data.toList with
  | none =>
    rw [hx] at cP
    clear hx
    go_enter Tryz.func19, Tryz.ntmps19
    go_wp2_with fail
    refine cP.mono ?_
    rintro e w1 ⟨hb, rfl⟩
    go_wp2_with fail
    exact bodyPost_ret (v := .tuple #[.slice none 0 0, .int .i64 2]) (by simp [results, Tryz.results19, go_sem]) rfl ⟨hb, rfl⟩
  | some xs =>
    rw [hx] at cP
    clear hx
    go_enter Tryz.func19, Tryz.ntmps19
    go_wp2_with fail
    refine cP.mono ?_
    rintro e w1 ⟨hb, v, rfl, hv⟩
    obtain ⟨ao, cap, rfl, hc⟩ := hv
    go_wp2_with fail
    exact bodyPost_ret (v := .tuple #[.slice ao xs.length cap, .int .i64 0]) (by simp [results, Tryz.results19, go_sem]) rfl ⟨hb, _, rfl, ao, cap, rfl, hc⟩

def rlstPost (o : Option (List Mem)) (w : World) (e : Ending) (w' : World) : Prop :=
  Below w.heap.size w w' ∧ match o with
    | none => e = .returned (.tuple #[.slice none 0 0, .int .i64 2])
    | some xs => ∃ v, e = .returned (.tuple #[v, .int .i64 0]) ∧ GOff memR 0 none w' v xs

end Go.Proofs.YtpifbgefkbhopaaGreatDoor
