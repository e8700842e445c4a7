/- The walk of the law LegacyFirst. -/
import Derived.Test.YtjnagifolheloaaDoorAwk10
import Derived.Test.YtjnagifolheloaaDoorOwnD
import Derived.Test.YtjnagifolheloaaDoorNamP
import Derived.Laws.Append
import Derived.Lib.AppendZeros
namespace Go.Proofs.YtjnagifolheloaaDoor
open Go.RowKit Go.Lib

/-- Those of the names that directives have. -/
def kepD (l more : List Dir) : List Dir := more.filter fun d => hasN l d.1
theorem has_yes {l : List Dir} {k : Nat} {e : Dir} {n : List UInt8} (h : l[k]? = some e) (he : e.1 = n) : hasN l n = true := by
  rw [hasN, fstN, List.find?_isSome]
  exact ⟨e, List.mem_of_getElem? h, beq_iff_eq.2 he⟩
theorem has_no {l : List Dir} {n : List UInt8} (h : ∀ b, b < l.length → ∀ e, l[b]? = some e → e.1 ≠ n) : hasN l n = false := by
  cases hb : hasN l n with
  | false => rfl
  | true =>
    rw [hasN, fstN, List.find?_isSome] at hb
    obtain ⟨e, he, hn⟩ := hb
    obtain ⟨b, hb⟩ := List.getElem?_of_mem he
    exact absurd (beq_iff_eq.1 hn) (h b (List.getElem?_eq_some_iff.1 hb).1 e hb)
theorem kep_yes {l more : List Dir} {i : Nat} {d : Dir} (hp : more[i]? = some d) (h : hasN l d.1 = true) : kepD l (more.take (i + 1)) = kepD l (more.take i) ++ [d] := by
  rw [List.take_add_one, hp, kepD, kepD, List.filter_append]
  congr 1
  show List.filter _ [d] = [d]
  rw [List.filter_cons, if_pos h]
  rfl
theorem kep_no {l more : List Dir} {i : Nat} {d : Dir} (hp : more[i]? = some d) (h : hasN l d.1 = false) : kepD l (more.take (i + 1)) = kepD l (more.take i) := by
  rw [List.take_add_one, hp, kepD, kepD, List.filter_append]
  show _ ++ List.filter _ [d] = _
  rw [List.filter_cons, if_neg (by rw [h]; decide)]
  simp
theorem kep_same (l more : List Dir) (n : List UInt8) : fstN (l ++ kepD l more) n = fstN l n := fst_more l _ (fun d hd => by
  have h := (List.mem_filter.1 hd).2
  rw [hasN, fstN, List.find?_isSome] at h
  obtain ⟨e, he, hn⟩ := h
  exact ⟨e, he, beq_iff_eq.1 hn⟩) n
theorem kep_in {l more : List Dir} {d : Dir} (h : d ∈ kepD l more) : d ∈ more := (List.mem_filter.1 h).1
theorem dirs_cells : ∀ {ds : List Dir} {w : World} {c off : Nat}, (∀ j d, ds[j]? = some d → w.cell? ⟨c, off + j * 3, none⟩ = some (.string (strB d.1)) ∧ w.cell? ⟨c, off + j * 3 + 1, none⟩ = some (.string (strB d.2.1)) ∧ w.cell? ⟨c, off + j * 3 + 2, none⟩ = some (.bool d.2.2)) → ∀ j u, (rowD ds)[j]? = some u → w.cell? ⟨c, off + j, none⟩ = some u
  | [], _, _, _, _, _, _, hj => by cases hj
  | d :: ds, w, c, off, h, j, u, hj => by
    obtain ⟨h0, h1, h2⟩ := h 0 d rfl
    match j, hj with
    | 0, hj => rw [← Option.some.inj hj]; exact h0
    | 1, hj => rw [← Option.some.inj hj]; exact h1
    | 2, hj => rw [← Option.some.inj hj]; exact h2
    | j + 3, hj =>
      have := dirs_cells (ds := ds) (w := w) (c := c) (off := off + 3) (fun i e he => by
        have := h (i + 1) e he
        rwa [show off + (i + 1) * 3 = off + 3 + i * 3 by omega] at this) j u hj
      rwa [show off + 3 + j = off + (j + 3) by omega] at this
theorem rowD_one : ∀ ds : List Dir, ∀ u ∈ rowD ds, u.oneCell' = true
  | [], u, h => by cases h
  | d :: ds, u, h => by
    rcases List.mem_append.1 h with h | h
    · simp only [cellsD, List.mem_cons, List.not_mem_nil, or_false] at h
      rcases h with rfl | rfl | rfl <;> rfl
    · exact rowD_one ds u h
theorem run_append_zeroF {P : Program} (w : World) (t ty e : TypeId) (i : TypeInfo) (ht : P.underlying t = some (.slice e)) (hi : P.info? e = some i) (ao bo : Option Addr) (n m cap c2 : Nat) (hn : n ≤ cap) (hm : m = 0) :
    (Builtin.append_ #[t, t] ty #[.slice ao n cap, .slice bo m c2]).run P w = .ok (.slice ao n cap) w := by
  subst hm
  cases ao <;> cases bo <;> simp [Builtin.append_, run_underlying ht, sizeOf, typeInfo, hi, Builtin.lenOf, Builtin.firstCells, hn, storeCells, loadCells, loadCellsFrom]
theorem info_ldirF : (Tryd.prog.info? 43).map (fun i => (i.zero, i.size, i.bytes)) = some (some (.agg #[.string ⟨#[]⟩, .string ⟨#[]⟩, .bool false]), 3, 40) := by kernel_rfl

set_option maxRecDepth 100000 in
set_option maxHeartbeats 4000000 in
theorem lfirst_walk (v v2 : Value) (ds ms : List Dir) (w : World) (h : Dirs 0 w v ds) (h2 : Dirs 0 w v2 ms) (hk : DirsIn ds) (hk2 : DirsIn ms) (hT : Tabs w) :
    Calls Tryd.prog 4 #[v, v2] w fun e w' => e = .returned (.bool true) ∧ Below w.heap.size w w' := by
  obtain ⟨i0, hi, hz0, hz1, hz2⟩ := info_parts info_ldirF
  have cA := awake10_any w hT
  have cW := fun W (hb : Below w.heap.size w W) => own_any 0 v ds W (h.below hb) hk
  have cV := fun W (hb : Below w.heap.size w W) => own_any 0 v2 ms W (h2.below hb) hk2
  obtain ⟨ao, cap, rfl, hc⟩ := id h
  obtain ⟨bo, bcap, rfl, hc2⟩ := id h2
  have HC := Lib.hid hc
  have HC2 := Lib.hid hc2
  have HH := Lib.hid h
  have hfl := hk.1
  have hfl2 := hk2.1
  clear h h2 hk hk2 hT hc hc2
  by_cases hbig : 1000 < (owN 0 ds).2
  · have d1 : (1000 : Int) < (((owN 0 ds).2 : Nat) : Int) := by omega
    generalize (owN 0 ds).2 = Z at *
    generalize (owN 0 ms).2 = Y at *
    go_enter Tryd.func4, Tryd.ntmps4
    go_wp2_with fail
    refine cA.mono ?_
    rintro e w1 ⟨rfl, hb1⟩
    go_wp2_with fail
    refine (cW _ hb1).mono ?_
    rintro e w2 ⟨⟨u, rfl, hD⟩, hb2⟩
    have HB2 := Lib.hid (hb1.trans (hb2.mono hb1.size))
    obtain ⟨uo, uc, rfl, _⟩ := hD
    clear hb1 hb2 cW cA
    go_wp2_with fail
    refine (cV _ HB2.out).mono ?_
    rintro e w3 ⟨⟨u, rfl, hD⟩, hb3⟩
    have HB3 := Lib.hid (HB2.out.trans (hb3.mono HB2.out.size))
    obtain ⟨uo2, uc2, rfl, _⟩ := hD
    clear hb3 cV
    go_wp2_with fail
    go_ret
    exact ⟨rfl, HB3.out⟩
  · have d1 : ¬ (1000 : Int) < (((owN 0 ds).2 : Nat) : Int) := by omega
    by_cases hbig2 : 1000 < (owN 0 ms).2
    · have d2 : (1000 : Int) < (((owN 0 ms).2 : Nat) : Int) := by omega
      generalize (owN 0 ds).2 = Z at *
      generalize (owN 0 ms).2 = Y at *
      go_enter Tryd.func4, Tryd.ntmps4
      go_wp2_with fail
      refine cA.mono ?_
      rintro e w1 ⟨rfl, hb1⟩
      go_wp2_with fail
      refine (cW _ hb1).mono ?_
      rintro e w2 ⟨⟨u, rfl, hD⟩, hb2⟩
      have HB2 := Lib.hid (hb1.trans (hb2.mono hb1.size))
      obtain ⟨uo, uc, rfl, _⟩ := hD
      clear hb1 hb2 cW cA
      go_wp2_with fail
      refine (cV _ HB2.out).mono ?_
      rintro e w3 ⟨⟨u, rfl, hD⟩, hb3⟩
      have HB3 := Lib.hid (HB2.out.trans (hb3.mono HB2.out.size))
      obtain ⟨uo2, uc2, rfl, _⟩ := hD
      clear hb3 cV
      go_wp2_with fail
      go_ret
      exact ⟨rfl, HB3.out⟩
    · have d2 : ¬ (1000 : Int) < (((owN 0 ms).2 : Nat) : Int) := by omega
      obtain ⟨hok, hlen, _⟩ := owN_ok ds (by omega)
      obtain ⟨hok2, hlen2, _⟩ := owN_ok ms (by omega)
      have HOK := Lib.hid hok
      have HOK2 := Lib.hid hok2
      generalize (owN 0 ds).2 = Z at *
      generalize (owN 0 ms).2 = Y at *
      clear hbig hbig2 hok hok2
      go_enter Tryd.func4, Tryd.ntmps4
      go_wp2_with fail
      refine cA.mono ?_
      rintro e w1 ⟨rfl, hb1⟩
      go_wp2_with fail
      refine (cW _ hb1).mono ?_
      rintro e w2 ⟨⟨u, rfl, hD⟩, hb2⟩
      have HB2 := Lib.hid (hb1.trans (hb2.mono hb1.size))
      obtain ⟨uo, uc, rfl, _⟩ := hD
      clear hb1 hb2 cW cA
      go_wp2_with fail
      refine (cV _ HB2.out).mono ?_
      rintro e w3 ⟨⟨u, rfl, hD⟩, hb3⟩
      have HB3 := Lib.hid (HB2.out.trans (hb3.mono HB2.out.size))
      obtain ⟨uo2, uc2, rfl, _⟩ := hD
      clear hb3 cV HB2
      have HBA := Lib.hid (HB3.out.alloc HB3.out.size (.cells #[] 43))
      have HL : Hid (∀ W, Below w.heap.size w W → ∀ k e, ds[k]? = some e → ∃ c off, ao = some ⟨c, off, none⟩ ∧ W.cell? ⟨c, off + k * 3, none⟩ = some (.string (strB e.1))) := Lib.hid (fun W hb k e he => by
        rcases HC.out with hnil | ⟨c, off, hao, _, hcl, hcell⟩
        · rw [hnil] at he; cases he
        · exact ⟨c, off, hao, (hb.cell (p := ⟨c, off + k * 3, none⟩) hcl).trans (hcell k e he).1⟩)
      have HM : Hid (∀ W, Below w.heap.size w W → ∀ k e, ms[k]? = some e → ∃ c off, bo = some ⟨c, off, none⟩ ∧ W.cell? ⟨c, off + k * 3, none⟩ = some (.string (strB e.1)) ∧ W.cell? ⟨c, off + k * 3 + 1, none⟩ = some (.string (strB e.2.1)) ∧ W.cell? ⟨c, off + k * 3 + 2, none⟩ = some (.bool e.2.2)) := Lib.hid (fun W hb k e he => by
        rcases HC2.out with hnil | ⟨c, off, hao, _, hcl, hcell⟩
        · rw [hnil] at he; cases he
        · obtain ⟨x0, x1, x2⟩ := hcell k e he
          exact ⟨c, off, hao, (hb.cell (p := ⟨c, off + k * 3, none⟩) hcl).trans x0, (hb.cell (p := ⟨c, off + k * 3 + 1, none⟩) hcl).trans x1, (hb.cell (p := ⟨c, off + k * 3 + 2, none⟩) hcl).trans x2⟩)
      rcases id HC.out with hnil | ⟨c, off, rfl, _, hcl, hcell⟩
      · have H0 := Lib.hid (show ds.length = 0 by rw [hnil]; rfl)
        have HO4 : Hid ((w3.alloc (.cells #[] 43)).ownsRow w3.heap.size 43 3 (.slice (some ⟨w3.heap.size, 0, none⟩) 0 0) 0 (rowD (ds ++ kepD ds (ms.take 0)))) := Lib.hid (by
          rw [hnil]
          exact World.ownsRow_made w3 #[] 0 (Nat.le_refl _) (Nat.zero_le _) rfl)
        have hr := fun W => run_append_zeroF (P := Tryd.prog) W 22 22 43 i0 Tryd.underlying22 hi (some ⟨w3.heap.size, 0, none⟩) ao 0 ds.length 0 cap (Nat.zero_le _) H0.out
        have HQ := Lib.hid (show 0 = ds.length + (kepD ds (ms.take 0)).length by rw [H0.out]; rfl)
        have HZ4 := Lib.hid (show w3.heap.size ≤ (w3.alloc (.cells #[] 43)).heap.size by simp)
        have HB4 := Lib.hid HBA.out
        clear hnil
        go_wp2_with (at_builtin; refine Lib.wpList_append_run _ rfl _ _ _ _ rfl _ _ rfl rfl _ _ (hr _) ?_)
-- REST1
        go_loopw [10, 11] (fun r i wr => ∃ (j q : Nat) (av : Option Addr) (cv : Nat), r = .slice av q cv ∧ i = .int .i64 j ∧ j ≤ ms.length ∧ q = ds.length + (kepD ds (ms.take j)).length ∧ Hid (wr.ownsRow w3.heap.size 43 3 (.slice av q cv) q (rowD (ds ++ kepD ds (ms.take j)))) ∧ Hid (Below w.heap.size w wr) ∧ w3.heap.size ≤ wr.heap.size) (fun _ i _ => ms.length - (intOf i).toNat)
        case atStart => exact ⟨0, _, _, _, rfl, rfl, Nat.zero_le _, HQ.out, HO4, HB4, HZ4.out⟩
        case round =>
          obtain ⟨j, q, av, cv, rfl, rfl, hj, hq, HO, HB, hz⟩ := hrel
          have hkl : (kepD ds (ms.take j)).length ≤ j := by
            have := List.length_filter_le (fun d => hasN ds d.1) (ms.take j)
            rw [List.length_take] at this
            unfold kepD
            omega
          clear HO4 HB4 HQ HZ4
          by_cases hlt : j < ms.length
          · have hjI : (j : Int) < (ms.length : Int) := by omega
            obtain ⟨d, hp⟩ : ∃ d, ms[j]? = some d := ⟨_, List.getElem?_eq_getElem hlt⟩
            have HP := Lib.hid hp
            have HQ := Lib.hid hq
            have hq2 : q ≤ 2000 := by omega
            clear hq hp hkl
            go_wp2_with fail
            rename World => W1
            go_loopw [10, 12] (fun r i wv => ∃ k : Nat, r = .slice av q cv ∧ i = .int .i64 k ∧ k ≤ ds.length ∧ Hid (∀ b, b < k → ∀ e, ds[b]? = some e → e.1 ≠ d.1) ∧ Hid (Below W1.heap.size W1 wv)) (fun _ i _ => ds.length - (intOf i).toNat)
            case atStart => exact ⟨0, rfl, rfl, Nat.zero_le _, Lib.hid (fun b hb => absurd hb (Nat.not_lt_zero _)), Lib.hid (Below.refl _ _)⟩
            case round =>
              obtain ⟨k, rfl, rfl, hkp, HN, HV⟩ := hrel
              have HBV := Lib.hid (HB.out.trans (HV.out.mono HB.out.size))
              by_cases hkl : k < ds.length
              · obtain ⟨d2, hp2⟩ : ∃ d2, ds[k]? = some d2 := ⟨_, List.getElem?_eq_getElem hkl⟩
                have hkI : (k : Int) < (ds.length : Int) := by omega
                have hk0 : (0 : Int) ≤ (k : Int) := by omega
                have hj0 : (0 : Int) ≤ (j : Int) := by omega
                have hqe := name_eq d2.1 d.1
                obtain ⟨c1, o1, hao, p0⟩ := HL.out _ HBV.out k d2 hp2
                obtain ⟨c2, o2, hbo, q0, q1, q2⟩ := HM.out _ HBV.out j d HP.out
                cases hao
                cases hbo
                by_cases he : d2.1 = d.1
                · rw [decide_eq_true he.symm] at hqe
                  have HK := Lib.hid (kep_yes HP.out (has_yes hp2 he))
                  have HRS := Lib.hid (rowD_snoc (ds ++ kepD ds (ms.take j)) d)
                  have HO2 := Lib.hid (ownsRow_later HO.out HV.out)
                  have hzv : w3.heap.size ≤ wr.heap.size := Nat.le_trans hz HV.out.size
                  obtain ⟨DN, DV, DH⟩ := d
                  rw [show cellsD (DN, DV, DH) = [.string (strB DN), .string (strB DV), .bool DH] from rfl] at HRS
                  dsimp only at q0 q1 q2 hqe
                  clear hp2 he HN
                  generalize strB d2.1 = S0 at *
                  generalize strB DN = S1 at *
                  generalize strB DV = S2 at *
                  go_wp2_with fail
                  go_quiet (fail)
                  have HO3 := Lib.hid (ownsRow_later HO2.out (below_drewN wr nq))
                  have HB6 := Lib.hid (HBV.out.trans ((below_drewN wr nq).mono HBV.out.size))
                  have q0' : (wr.drewN nq).cell? ⟨c2, o2 + j * 3, none⟩ = some (.string S1) := q0
                  have q1' : (wr.drewN nq).cell? ⟨c2, o2 + j * 3 + 1, none⟩ = some (.string S2) := q1
                  have q2' : (wr.drewN nq).cell? ⟨c2, o2 + j * 3 + 2, none⟩ = some (.bool DH) := q2
                  have hzw : w3.heap.size ≤ (wr.drewN nq).heap.size := hzv
                  generalize wr.drewN nq = W6 at *
                  go_wp2_with (at_builtin; refine wpList_append_own _ rfl _ _ 22 rfl w3.heap.size 43 i0 (.agg #[.string ⟨#[]⟩, .string ⟨#[]⟩, .bool false]) 3 40 Tryd.underlying22 hi hz0 hz1 hz2 rfl (by decide) (.slice av q cv) q (rowD (ds ++ kepD ds (ms.take j))) rfl (HO3.out.alloc _) ⟨_, 0, none⟩ 1 1 [.string S1, .string S2, .bool DH] rfl rfl (cells_newF W6 [.string S1, .string S2, .bool DH] 43) (by simp [Value.oneCell']) (by unfold maxLen; omega) (by omega) (by simp; omega) ?_; intro v' w7 hown7 hgrow7 _; obtain ⟨a7, c7, rfl⟩ := owns_formF hown7; have HB7 := Lib.hid ((HB6.out.alloc HB6.out.size (.cells #[.string S1, .string S2, .bool DH] 43)).grown hgrow7 (by have := HB6.out.size; simp; omega) (fun j e => Nat.le_trans HB3.out.size (World.ownsRow.lt HO3.out j e).1)); have hz7 := hgrow7.size; rw [World.size_alloc] at hz7)
                  go_roundw
                  case rel => exact ⟨j + 1, q + 1, a7, c7, rfl, by go_num, by omega, by rw [HK.out, List.length_append, List.length_singleton]; have := HQ.out; omega, Lib.hid (by rw [HK.out, ← List.append_assoc, HRS.out]; exact hown7), HB7, by omega⟩
                  case measure => simp [intOf]; omega
                · have HN2 : Hid (∀ b, b < k + 1 → ∀ e, ds[b]? = some e → e.1 ≠ d.1) := Lib.hid (fun b hb e heq => by
                    by_cases hbk : b = k
                    · subst hbk
                      rw [hp2] at heq
                      rw [← Option.some.inj heq]
                      exact he
                    · exact HN.out b (by omega) e heq)
                  rw [decide_eq_false (fun e => he e.symm)] at hqe
                  clear hp2 he
                  generalize strB d2.1 = S2 at *
                  generalize strB d.1 = S1 at *
                  go_wp2_with fail
                  go_quiet (fail)
                  go_wp2_with fail
                  go_roundw
                  case rel => exact ⟨k + 1, rfl, by go_num, by omega, HN2, Lib.hid (HV.out.trans ((below_drewN _ _).mono HV.out.size))⟩
                  case measure => simp [intOf]; omega
              · obtain rfl : k = ds.length := by omega
                have hkI : ¬ (ds.length : Int) < (ds.length : Int) := by omega
                have HK := Lib.hid (kep_no HP.out (has_no HN.out))
                have HO2 := Lib.hid (ownsRow_later HO.out HV.out)
                have hzv : w3.heap.size ≤ wr.heap.size := Nat.le_trans hz HV.out.size
                go_wp2_with fail
                go_roundw
                case rel => exact ⟨j + 1, q, av, cv, rfl, by go_num, by omega, by rw [HK.out]; exact HQ.out, by rw [HK.out]; exact HO2, HBV, hzv⟩
                case measure => simp [intOf]; omega
          · obtain rfl : j = ms.length := by omega
            have hjI : ¬ (ms.length : Int) < (ms.length : Int) := by omega
            rw [List.take_length] at hq HO hkl
            have hl2 : (ds ++ kepD ds ms).length = q := by rw [List.length_append]; omega
            have HD := Lib.hid (Dirs.of_own (lo := 0) (ds := ds ++ kepD ds ms) (by rw [hl2]; exact HO.out) (Nat.zero_le _))
            have cO1 := fun W (hb : Below wr.heap.size wr W) => of_any 0 (.slice av q cv) (ds ++ kepD ds ms) W (HD.out.below hb) ⟨by rw [hl2]; omega, fun d hd => (List.mem_append.1 hd).elim (HOK.out.2 d) (fun h => HOK2.out.2 d (kep_in h))⟩
            rw [rulV_same (kep_same ds ms)] at cO1
            have cO2 := fun W (hb : Below w.heap.size w W) => of_any 0 (.slice ao ds.length cap) ds W (HH.out.below hb) HOK.out
            obtain ⟨b0, b1, b2, b3, b4, b5, b6, b7, k0, k1, k2, k3, k4, hR⟩ := rulV_form ds
            rw [hR] at cO1 cO2
            clear hR hq hl2 hkl HL HM
            go_wp2_with fail
            refine (cO1 _ (Below.refl _ _)).mono ?_
            rintro e w8 ⟨rfl, hb⟩
            have HB := Lib.hid (HB.out.trans (hb.mono HB.out.size))
            clear hb cO1
            go_wp2_with fail
            refine (cO2 _ HB.out).mono ?_
            rintro e w9 ⟨rfl, hb⟩
            have HB := Lib.hid (HB.out.trans (hb.mono HB.out.size))
            clear hb cO2
            go_wp2_with fail
            go_ret
            exact ⟨rfl, HB.out⟩
-- END1
      · have HN : Hid (∀ j u, (rowD ds)[j]? = some u → (w3.alloc (.cells #[] 43)).cell? ((⟨c, off, none⟩ : Addr).add j) = some u) := Lib.hid (fun j u hj => by
          rw [Addr.add_lit]
          exact (HBA.out.cell (p := ⟨c, off + j, none⟩) hcl).trans (dirs_cells hcell j u hj))
        go_wp2_with (at_builtin; refine wpList_append_own _ rfl _ _ 22 rfl w3.heap.size 43 i0 (.agg #[.string ⟨#[]⟩, .string ⟨#[]⟩, .bool false]) 3 40 Tryd.underlying22 hi hz0 hz1 hz2 rfl (by decide) (.slice (some ⟨w3.heap.size, 0, none⟩) 0 0) 0 [] rfl (World.ownsRow_made w3 #[] 0 (Nat.le_refl _) (Nat.zero_le _) rfl) ⟨c, off, none⟩ ds.length cap (rowD ds) rfl (rowD_len ds) HN.out (rowD_one ds) (by unfold maxLen; omega) (by omega) (by simp) ?_; intro v' w5 hown5 hgrow5 _; obtain ⟨a5, c5, rfl⟩ := owns_formF hown5)
        have HO4 : Hid (w5.ownsRow w3.heap.size 43 3 (.slice a5 ds.length c5) ds.length (rowD (ds ++ kepD ds (ms.take 0)))) := Lib.hid (by simpa [kepD] using hown5)
        have HB4 := Lib.hid (HBA.out.grown hgrow5 (by have := HB3.out.size; simp; omega) (fun j e => by obtain rfl : w3.heap.size = j := (by simpa [Value.ownBlock] using e); exact HB3.out.size))
        have HQ := Lib.hid (show ds.length = ds.length + (kepD ds (ms.take 0)).length by simp [kepD])
        have HZ4 := Lib.hid (show w3.heap.size ≤ w5.heap.size by have := hgrow5.size; rw [World.size_alloc] at this; omega)
        clear hown5 hgrow5 hcell HN
-- REST2
        go_loopw [10, 11] (fun r i wr => ∃ (j q : Nat) (av : Option Addr) (cv : Nat), r = .slice av q cv ∧ i = .int .i64 j ∧ j ≤ ms.length ∧ q = ds.length + (kepD ds (ms.take j)).length ∧ Hid (wr.ownsRow w3.heap.size 43 3 (.slice av q cv) q (rowD (ds ++ kepD ds (ms.take j)))) ∧ Hid (Below w.heap.size w wr) ∧ w3.heap.size ≤ wr.heap.size) (fun _ i _ => ms.length - (intOf i).toNat)
        case atStart => exact ⟨0, _, _, _, rfl, rfl, Nat.zero_le _, HQ.out, HO4, HB4, HZ4.out⟩
        case round =>
          obtain ⟨j, q, av, cv, rfl, rfl, hj, hq, HO, HB, hz⟩ := hrel
          have hkl : (kepD ds (ms.take j)).length ≤ j := by
            have := List.length_filter_le (fun d => hasN ds d.1) (ms.take j)
            rw [List.length_take] at this
            unfold kepD
            omega
          clear HO4 HB4 HQ HZ4
          by_cases hlt : j < ms.length
          · have hjI : (j : Int) < (ms.length : Int) := by omega
            obtain ⟨d, hp⟩ : ∃ d, ms[j]? = some d := ⟨_, List.getElem?_eq_getElem hlt⟩
            have HP := Lib.hid hp
            have HQ := Lib.hid hq
            have hq2 : q ≤ 2000 := by omega
            clear hq hp hkl
            go_wp2_with fail
            rename World => W1
            go_loopw [10, 12] (fun r i wv => ∃ k : Nat, r = .slice av q cv ∧ i = .int .i64 k ∧ k ≤ ds.length ∧ Hid (∀ b, b < k → ∀ e, ds[b]? = some e → e.1 ≠ d.1) ∧ Hid (Below W1.heap.size W1 wv)) (fun _ i _ => ds.length - (intOf i).toNat)
            case atStart => exact ⟨0, rfl, rfl, Nat.zero_le _, Lib.hid (fun b hb => absurd hb (Nat.not_lt_zero _)), Lib.hid (Below.refl _ _)⟩
            case round =>
              obtain ⟨k, rfl, rfl, hkp, HN, HV⟩ := hrel
              have HBV := Lib.hid (HB.out.trans (HV.out.mono HB.out.size))
              by_cases hkl : k < ds.length
              · obtain ⟨d2, hp2⟩ : ∃ d2, ds[k]? = some d2 := ⟨_, List.getElem?_eq_getElem hkl⟩
                have hkI : (k : Int) < (ds.length : Int) := by omega
                have hk0 : (0 : Int) ≤ (k : Int) := by omega
                have hj0 : (0 : Int) ≤ (j : Int) := by omega
                have hqe := name_eq d2.1 d.1
                obtain ⟨c1, o1, hao, p0⟩ := HL.out _ HBV.out k d2 hp2
                obtain ⟨c2, o2, hbo, q0, q1, q2⟩ := HM.out _ HBV.out j d HP.out
                cases hao
                cases hbo
                by_cases he : d2.1 = d.1
                · rw [decide_eq_true he.symm] at hqe
                  have HK := Lib.hid (kep_yes HP.out (has_yes hp2 he))
                  have HRS := Lib.hid (rowD_snoc (ds ++ kepD ds (ms.take j)) d)
                  have HO2 := Lib.hid (ownsRow_later HO.out HV.out)
                  have hzv : w3.heap.size ≤ wr.heap.size := Nat.le_trans hz HV.out.size
                  obtain ⟨DN, DV, DH⟩ := d
                  rw [show cellsD (DN, DV, DH) = [.string (strB DN), .string (strB DV), .bool DH] from rfl] at HRS
                  dsimp only at q0 q1 q2 hqe
                  clear hp2 he HN
                  generalize strB d2.1 = S0 at *
                  generalize strB DN = S1 at *
                  generalize strB DV = S2 at *
                  go_wp2_with fail
                  go_quiet (fail)
                  have HO3 := Lib.hid (ownsRow_later HO2.out (below_drewN wr nq))
                  have HB6 := Lib.hid (HBV.out.trans ((below_drewN wr nq).mono HBV.out.size))
                  have q0' : (wr.drewN nq).cell? ⟨c2, o2 + j * 3, none⟩ = some (.string S1) := q0
                  have q1' : (wr.drewN nq).cell? ⟨c2, o2 + j * 3 + 1, none⟩ = some (.string S2) := q1
                  have q2' : (wr.drewN nq).cell? ⟨c2, o2 + j * 3 + 2, none⟩ = some (.bool DH) := q2
                  have hzw : w3.heap.size ≤ (wr.drewN nq).heap.size := hzv
                  generalize wr.drewN nq = W6 at *
                  go_wp2_with (at_builtin; refine wpList_append_own _ rfl _ _ 22 rfl w3.heap.size 43 i0 (.agg #[.string ⟨#[]⟩, .string ⟨#[]⟩, .bool false]) 3 40 Tryd.underlying22 hi hz0 hz1 hz2 rfl (by decide) (.slice av q cv) q (rowD (ds ++ kepD ds (ms.take j))) rfl (HO3.out.alloc _) ⟨_, 0, none⟩ 1 1 [.string S1, .string S2, .bool DH] rfl rfl (cells_newF W6 [.string S1, .string S2, .bool DH] 43) (by simp [Value.oneCell']) (by unfold maxLen; omega) (by omega) (by simp; omega) ?_; intro v' w7 hown7 hgrow7 _; obtain ⟨a7, c7, rfl⟩ := owns_formF hown7; have HB7 := Lib.hid ((HB6.out.alloc HB6.out.size (.cells #[.string S1, .string S2, .bool DH] 43)).grown hgrow7 (by have := HB6.out.size; simp; omega) (fun j e => Nat.le_trans HB3.out.size (World.ownsRow.lt HO3.out j e).1)); have hz7 := hgrow7.size; rw [World.size_alloc] at hz7)
                  go_roundw
                  case rel => exact ⟨j + 1, q + 1, a7, c7, rfl, by go_num, by omega, by rw [HK.out, List.length_append, List.length_singleton]; have := HQ.out; omega, Lib.hid (by rw [HK.out, ← List.append_assoc, HRS.out]; exact hown7), HB7, by omega⟩
                  case measure => simp [intOf]; omega
                · have HN2 : Hid (∀ b, b < k + 1 → ∀ e, ds[b]? = some e → e.1 ≠ d.1) := Lib.hid (fun b hb e heq => by
                    by_cases hbk : b = k
                    · subst hbk
                      rw [hp2] at heq
                      rw [← Option.some.inj heq]
                      exact he
                    · exact HN.out b (by omega) e heq)
                  rw [decide_eq_false (fun e => he e.symm)] at hqe
                  clear hp2 he
                  generalize strB d2.1 = S2 at *
                  generalize strB d.1 = S1 at *
                  go_wp2_with fail
                  go_quiet (fail)
                  go_wp2_with fail
                  go_roundw
                  case rel => exact ⟨k + 1, rfl, by go_num, by omega, HN2, Lib.hid (HV.out.trans ((below_drewN _ _).mono HV.out.size))⟩
                  case measure => simp [intOf]; omega
              · obtain rfl : k = ds.length := by omega
                have hkI : ¬ (ds.length : Int) < (ds.length : Int) := by omega
                have HK := Lib.hid (kep_no HP.out (has_no HN.out))
                have HO2 := Lib.hid (ownsRow_later HO.out HV.out)
                have hzv : w3.heap.size ≤ wr.heap.size := Nat.le_trans hz HV.out.size
                go_wp2_with fail
                go_roundw
                case rel => exact ⟨j + 1, q, av, cv, rfl, by go_num, by omega, by rw [HK.out]; exact HQ.out, by rw [HK.out]; exact HO2, HBV, hzv⟩
                case measure => simp [intOf]; omega
          · obtain rfl : j = ms.length := by omega
            have hjI : ¬ (ms.length : Int) < (ms.length : Int) := by omega
            rw [List.take_length] at hq HO hkl
            have hl2 : (ds ++ kepD ds ms).length = q := by rw [List.length_append]; omega
            have HD := Lib.hid (Dirs.of_own (lo := 0) (ds := ds ++ kepD ds ms) (by rw [hl2]; exact HO.out) (Nat.zero_le _))
            have cO1 := fun W (hb : Below wr.heap.size wr W) => of_any 0 (.slice av q cv) (ds ++ kepD ds ms) W (HD.out.below hb) ⟨by rw [hl2]; omega, fun d hd => (List.mem_append.1 hd).elim (HOK.out.2 d) (fun h => HOK2.out.2 d (kep_in h))⟩
            rw [rulV_same (kep_same ds ms)] at cO1
            have cO2 := fun W (hb : Below w.heap.size w W) => of_any 0 (.slice (some ⟨c, off, none⟩) ds.length cap) ds W (HH.out.below hb) HOK.out
            obtain ⟨b0, b1, b2, b3, b4, b5, b6, b7, k0, k1, k2, k3, k4, hR⟩ := rulV_form ds
            rw [hR] at cO1 cO2
            clear hR hq hl2 hkl HL HM
            go_wp2_with fail
            refine (cO1 _ (Below.refl _ _)).mono ?_
            rintro e w8 ⟨rfl, hb⟩
            have HB := Lib.hid (HB.out.trans (hb.mono HB.out.size))
            clear hb cO1
            go_wp2_with fail
            refine (cO2 _ HB.out).mono ?_
            rintro e w9 ⟨rfl, hb⟩
            have HB := Lib.hid (HB.out.trans (hb.mono HB.out.size))
            clear hb cO2
            go_wp2_with fail
            go_ret
            exact ⟨rfl, HB.out⟩
-- END2

end Go.Proofs.YtjnagifolheloaaDoor
