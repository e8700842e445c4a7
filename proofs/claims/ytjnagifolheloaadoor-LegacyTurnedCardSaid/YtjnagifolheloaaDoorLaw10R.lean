/- The walk of the law LegacyTurned. -/
import Derived.Test.YtjnagifolheloaaDoorAwk10
import Derived.Test.YtjnagifolheloaaDoorOwnD
import Derived.Test.YtjnagifolheloaaDoorNamP
namespace Go.Proofs.YtjnagifolheloaaDoor
open Go.RowKit Go.Lib

/-- From a place on, no name stands ahead too. -/
def Apart (ds : List Dir) (m : Nat) : Prop := ∀ b a, m ≤ a → b < a → a < ds.length → (ds.map (·.1))[b]? ≠ (ds.map (·.1))[a]?
theorem apart_end (ds : List Dir) : Apart ds ds.length := fun b a h1 _ h3 => by omega
theorem apart_step {ds : List Dir} {p : Nat} {d : Dir} (h : Apart ds (p + 1)) (hp : ds[p]? = some d) (hn : ∀ b, b < p → ∀ e, ds[b]? = some e → e.1 ≠ d.1) : Apart ds p := fun b a h1 h2 h3 => by
  by_cases ha : a = p
  · subst ha
    have hb : b < ds.length := by omega
    rw [List.getElem?_map, List.getElem?_map, hp, List.getElem?_eq_getElem hb]
    intro e
    exact hn b h2 _ (List.getElem?_eq_getElem hb) (Option.some.inj e)
  · exact h b a (by omega) h2 h3
theorem apart_nodup {ds : List Dir} (h : Apart ds 0) : (ds.map (·.1)).Nodup :=
  List.pairwise_iff_getElem.2 fun i j hi hj hij e => h i j (Nat.zero_le _) hij (by simpa using hj) (by rw [List.getElem?_eq_getElem hi, List.getElem?_eq_getElem hj, e])
theorem back_row {ds : List Dir} {p : Nat} {d : Dir} (hp : ds[p]? = some d) : rowD (ds.drop p).reverse = rowD (ds.drop (p + 1)).reverse ++ cellsD d := by
  have hl := (List.getElem?_eq_some_iff.1 hp).1
  have hd : ds.drop p = d :: ds.drop (p + 1) := by
    rw [List.drop_eq_getElem_cons hl]
    rw [List.getElem?_eq_getElem hl] at hp
    rw [Option.some.inj hp]
  rw [hd, List.reverse_cons, rowD_snoc]
theorem info_ldirR : (Tryd.prog.info? 43).map (fun i => (i.zero, i.size, i.bytes)) = some (some (.agg #[.string ⟨#[]⟩, .string ⟨#[]⟩, .bool false]), 3, 40) := by kernel_rfl

set_option maxRecDepth 100000 in
set_option maxHeartbeats 4000000 in
theorem lturned_walk (v : Value) (ds : List Dir) (w : World) (h : Dirs 0 w v ds) (hk : DirsIn ds) (hT : Tabs w) :
    Calls Tryd.prog 5 #[v] w fun e w' => e = .returned (.bool true) ∧ Below w.heap.size w w' := by
  obtain ⟨i0, hi, hz0, hz1, hz2⟩ := info_parts info_ldirR
  have cA := awake10_any w hT
  have cW := fun W (hb : Below w.heap.size w W) => own_any 0 v ds W (h.below hb) hk
  obtain ⟨ao, cap, rfl, hc⟩ := id h
  have HC := Lib.hid hc
  have HH := Lib.hid h
  have hfl := hk.1
  clear h hk hT hc
  by_cases hbig : 1000 < (owN 0 ds).2
  · have d1 : (1000 : Int) < (((owN 0 ds).2 : Nat) : Int) := by omega
    generalize (owN 0 ds).2 = Z at *
    go_enter Tryd.func5, Tryd.ntmps5
    go_wp2_with fail
    refine cA.mono ?_
    rintro e w1 ⟨rfl, hb1⟩
    go_wp2_with fail
    refine (cW _ hb1).mono ?_
    rintro e w2 ⟨⟨u, rfl, hD⟩, hb2⟩
    have HB2 := Lib.hid (hb1.trans (hb2.mono hb1.size))
    obtain ⟨uo, uc, rfl, _⟩ := hD
    clear hb1 hb2 cW cA
    go_wp2_with fail
    go_ret
    exact ⟨rfl, HB2.out⟩
  · have d1 : ¬ (1000 : Int) < (((owN 0 ds).2 : Nat) : Int) := by omega
    obtain ⟨hok, hlen, htk⟩ := owN_ok ds (by omega)
    have HOK := Lib.hid hok
    generalize (owN 0 ds).2 = Z at *
    clear hbig htk hok
    go_enter Tryd.func5, Tryd.ntmps5
    go_wp2_with fail
    refine cA.mono ?_
    rintro e w1 ⟨rfl, hb1⟩
    go_wp2_with fail
    refine (cW _ hb1).mono ?_
    rintro e w2 ⟨⟨u, rfl, hD⟩, hb2⟩
    have HB2 := Lib.hid (hb1.trans (hb2.mono hb1.size))
    obtain ⟨uo, uc, rfl, _⟩ := hD
    clear hb1 hb2 cW cA
    go_wp2_with fail
    go_loopw [6, 7] (fun r i wr => ∃ (m q : Nat) (I : Int) (av : Option Addr) (cv : Nat), r = .slice av q cv ∧ i = .int .i64 I ∧ I = (m : Int) - 1 ∧ q + m = ds.length ∧ Hid (Apart ds m) ∧ Hid (wr.ownsRow w2.heap.size 43 3 (.slice av q cv) q (rowD (ds.drop m).reverse)) ∧ Hid (Below w.heap.size w wr) ∧ w2.heap.size ≤ wr.heap.size) (fun _ i _ => ((intOf i) + 1).toNat)
    case atStart => exact ⟨ds.length, 0, _, none, 0, rfl, rfl, rfl, by omega, Lib.hid (apart_end ds), Lib.hid (by rw [List.drop_length]; exact World.ownsRow_nil _ _ _ _), HB2, Nat.le_refl _⟩
    case round =>
      obtain ⟨m, q, I, av, cv, rfl, rfl, hI, hq, HA, HO, HB, hz⟩ := hrel
      cases m with
      | zero =>
        obtain rfl : I = -1 := by omega
        clear hI
        obtain rfl : q = ds.length := by omega
        have hrev : ds.reverse.length = ds.length := List.length_reverse
        have hD := Dirs.of_own (lo := 0) (ds := ds.reverse) (by rw [hrev]; exact HO.out) (Nat.zero_le _)
        have HD := Lib.hid hD
        have cO1 := fun W (hb : Below wr.heap.size wr W) => of_any 0 (.slice av ds.length cv) ds.reverse W (HD.out.below hb) ⟨by rw [hrev]; exact HOK.out.1, fun d hd => HOK.out.2 d (List.mem_reverse.1 hd)⟩
        rw [rulV_same (fst_back ds (apart_nodup HA.out))] at cO1
        have cO2 := fun W (hb : Below w.heap.size w W) => of_any 0 (.slice ao ds.length cap) ds W (HH.out.below hb) HOK.out
        have cO3 := fun W => of_any 0 (.slice none 0 0) [] W (Dirs.nothing 0 W) dirsOk_nil
        have cO4 := none_any
        rw [rulV_none] at cO3 cO4
        obtain ⟨b0, b1, b2, b3, b4, b5, b6, b7, k0, k1, k2, k3, k4, hR⟩ := rulV_form ds
        rw [hR] at cO1 cO2
        clear hR hD
        go_wp2_with fail
        refine (cO1 _ (Below.refl _ _)).mono ?_
        rintro e w3 ⟨rfl, hb⟩
        have HB := Lib.hid (HB.out.trans (hb.mono HB.out.size))
        clear hb cO1
        go_wp2_with fail
        refine (cO2 _ HB.out).mono ?_
        rintro e w4 ⟨rfl, hb⟩
        have HB := Lib.hid (HB.out.trans (hb.mono HB.out.size))
        clear hb cO2
        go_wp2_with fail
        refine (cO3 _).mono ?_
        rintro e w5 ⟨rfl, hb⟩
        have HB := Lib.hid (HB.out.trans (hb.mono HB.out.size))
        clear hb cO3
        go_wp2_with fail
        refine (cO4 _).mono ?_
        rintro e w6 ⟨rfl, hb⟩
        have HB := Lib.hid (HB.out.trans (hb.mono HB.out.size))
        clear hb cO4
        go_wp2_with fail
        go_ret
        exact ⟨rfl, HB.out⟩
      | succ p =>
        obtain rfl : I = (p : Int) := by omega
        clear hI
        have hp0 : (0 : Int) ≤ (p : Int) := by omega
        have hpl : p < ds.length := by omega
        have hpI : (p : Int) < (ds.length : Int) := by omega
        obtain ⟨d, hp⟩ : ∃ d, ds[p]? = some d := ⟨_, List.getElem?_eq_getElem hpl⟩
        rcases HC.out with hnil | ⟨c, off, rfl, _, hcl, hcell⟩
        · exfalso
          rw [hnil] at hpl
          simp at hpl
        · have HR := Lib.hid (back_row hp)
          have HP := Lib.hid hp
          go_wp2_with fail
          rename World => W1
          go_loopw [8] (fun i wv => ∃ k : Nat, i = .int .i64 k ∧ k ≤ p ∧ Hid (∀ b, b < k → ∀ e, ds[b]? = some e → e.1 ≠ d.1) ∧ Hid (Below W1.heap.size W1 wv)) (fun i _ => p - (intOf i).toNat)
          case atStart => exact ⟨0, rfl, Nat.zero_le _, Lib.hid (fun b hb => absurd hb (Nat.not_lt_zero _)), Lib.hid (Below.refl _ _)⟩
          case round =>
            obtain ⟨k, rfl, hkp, HN, HV⟩ := hrel
            have HBV := Lib.hid (HB.out.trans (HV.out.mono HB.out.size))
            obtain ⟨y0, y1, y2⟩ := hcell p d hp
            have q0 := (HBV.out.cell (p := ⟨c, off + p * 3, none⟩) hcl).trans y0
            by_cases hkl : k < p
            · obtain ⟨d2, hp2⟩ : ∃ d2, ds[k]? = some d2 := ⟨_, List.getElem?_eq_getElem (by omega)⟩
              obtain ⟨x0, _, _⟩ := hcell k d2 hp2
              have p0 := (HBV.out.cell (p := ⟨c, off + k * 3, none⟩) hcl).trans x0
              have hkI : (k : Int) < (p : Int) := by omega
              have hkI2 : (k : Int) < (ds.length : Int) := by omega
              have hk0 : (0 : Int) ≤ (k : Int) := by omega
              have hqe := name_eq d2.1 d.1
              by_cases he : d2.1 = d.1
              · rw [decide_eq_true he.symm] at hqe
                clear hcell x0 y0 y1 y2 hp hp2 he
                generalize strB d2.1 = S2 at *
                generalize strB d.1 = S1 at *
                go_wp2_with fail
                go_quiet (fail)
                go_wp2_with fail
                go_ret
                exact ⟨rfl, HBV.out.trans ((below_drewN _ _).mono HBV.out.size)⟩
              · have HN2 : Hid (∀ b, b < k + 1 → ∀ e, ds[b]? = some e → e.1 ≠ d.1) := Lib.hid (fun b hb e heq => by
                  by_cases hbk : b = k
                  · subst hbk
                    rw [hp2] at heq
                    rw [← Option.some.inj heq]
                    exact he
                  · exact HN.out b (by omega) e heq)
                rw [decide_eq_false (fun e => he e.symm)] at hqe
                clear hcell x0 y0 y1 y2 hp hp2 he
                generalize strB d2.1 = S2 at *
                generalize strB d.1 = S1 at *
                go_wp2_with fail
                go_quiet (fail)
                go_wp2_with fail
                go_roundw
                case rel => exact ⟨k + 1, by go_num, by omega, HN2, Lib.hid (HV.out.trans ((below_drewN _ _).mono HV.out.size))⟩
                case measure => simp [intOf]; omega
            · obtain rfl : k = p := by omega
              have hkI : ¬ (k : Int) < (k : Int) := by omega
              have q1 := (HBV.out.cell (p := ⟨c, off + k * 3 + 1, none⟩) hcl).trans y1
              have q2 := (HBV.out.cell (p := ⟨c, off + k * 3 + 2, none⟩) hcl).trans y2
              have HA2 := Lib.hid (apart_step HA.out hp HN.out)
              have HO2 := Lib.hid (ownsRow_later HO.out HV.out)
              have hzv : w2.heap.size ≤ wr.heap.size := Nat.le_trans hz HV.out.size
              have hql : q + 1 + k = ds.length := by omega
              obtain ⟨DN, DV, DH⟩ := d
              rw [show cellsD (DN, DV, DH) = [.string (strB DN), .string (strB DV), .bool DH] from rfl] at HR
              dsimp only at q0 q1 q2
              clear hcell y0 y1 y2 hp
              generalize strB DN = S1 at *
              generalize strB DV = S2 at *
              go_wp2_with (at_builtin; refine wpList_append_own _ rfl _ _ 22 rfl w2.heap.size 43 i0 (.agg #[.string ⟨#[]⟩, .string ⟨#[]⟩, .bool false]) 3 40 Tryd.underlying22 hi hz0 hz1 hz2 rfl (by decide) (.slice av q cv) q (rowD (ds.drop (k + 1)).reverse) rfl (HO2.out.alloc _) ⟨_, 0, none⟩ 1 1 [.string S1, .string S2, .bool DH] rfl rfl (cells_newF wr [.string S1, .string S2, .bool DH] 43) (by simp [Value.oneCell']) (by unfold maxLen; omega) (by omega) (by simp; omega) ?_; intro v' w5 hown5 hgrow5 _; obtain ⟨a5, c5, rfl⟩ := owns_formF hown5; have HB5 := Lib.hid ((HBV.out.alloc HBV.out.size (.cells #[.string S1, .string S2, .bool DH] 43)).grown hgrow5 (by have := HBV.out.size; simp; omega) (fun j e => Nat.le_trans HB2.out.size (World.ownsRow.lt HO2.out j e).1)); have hz5 := hgrow5.size; rw [World.size_alloc] at hz5)
              go_roundw
              case rel => exact ⟨k, q + 1, _, a5, c5, rfl, rfl, by go_num, hql, HA2, Lib.hid (by rw [HR.out]; exact hown5), HB5, by omega⟩
              case measure => simp [intOf]

end Go.Proofs.YtjnagifolheloaaDoor
