/- The contracts of the law's own and same (scullerylaw12). · The document's own List (sculleryref12). -/
import Derived.Test.YtclgdmcbbphbcaaGreatDoorZMFldP
import Derived.Test.YtclgdmcbbphbcaaGreatDoorZMBasP
import Derived.Test.YtclgdmcbbphbcaaGreatDoorRows
import Derived.Test.YtclgdmcbbphbcaaGreatDoorZMEuA
import Derived.Laws.AppendOwn
import Derived.Deep.QuietTactic
import Derived.BigQuiet
import Derived.WalkKit
import Derived.WalkSpells
import Derived.WalkLawsBesides

namespace Go.Proofs.YtclgdmcbbphbcaaGreatDoor
open Go.RowKit Go.Lib

theorem info_rtag : (Tryz.prog.info? 32).map (fun i => (i.zero, i.size, i.bytes)) = some (some (.agg #[.bool false, .string ⟨#[]⟩]), 2, 24) := by kernel_rfl

set_option maxRecDepth 100000 in
set_option maxHeartbeats 4000000 in
theorem eown_any (lo : Nat) (v : Value) (ts : List Tg) (w : World) (hv : Tags lo w v ts) (hl : ts.length ≤ 5864062014805) :
    Calls Tryz.prog 11 #[v] w fun e w' => (∃ u, e = .returned u ∧ Tags w.heap.size w' u ts) ∧ Below w.heap.size w w' := by
  obtain ⟨i0, hi, hz0, hz1, hz2⟩ := info_parts info_rtag
  obtain ⟨ao, cap, rfl, hc⟩ := hv
  have HC := Lib.hid hc
  clear hc
  go_enter Tryz.func11, Tryz.ntmps11
  go_wp2_with fail
  go_loopw [3, 4] (fun r i wr => ∃ (j : Nat) (av : Option Addr) (cv : Nat), r = .slice av j cv ∧ i = .int .i64 j ∧ j ≤ ts.length ∧ Hid (wr.ownsRow w.heap.size 32 2 (.slice av j cv) j (rowT (ts.take j))) ∧ Hid (Below w.heap.size w wr)) (fun _ i _ => ts.length - (intOf i).toNat)
  case atStart => exact ⟨0, none, 0, rfl, rfl, Nat.zero_le _, Lib.hid (World.ownsRow_nil _ _ _ _), Lib.hid (Below.refl _ _)⟩
  case round =>
    obtain ⟨j, av, cv, rfl, rfl, hj, HO, HB⟩ := hrel
    by_cases hlt : j < ts.length
    · rcases HC.out with hnil | ⟨c, off, rfl, _, hcl, hcell⟩
      · exfalso
        rw [hnil] at hlt
        simp at hlt
      · obtain ⟨p, hp⟩ : ∃ p, ts[j]? = some p := ⟨_, List.getElem?_eq_getElem hlt⟩
        obtain ⟨x0, x1⟩ := hcell j p hp
        have a0 := (HB.out.cell (p := ⟨c, off + j * 2, none⟩) hcl).trans x0
        have a1 := (HB.out.cell (p := ⟨c, off + j * 2 + 1, none⟩) hcl).trans x1
        have jI : (j : Int) < (ts.length : Int) := by omega
        have j0 : (0 : Int) ≤ (j : Int) := by omega
        have Htk : Hid (rowT (ts.take (j + 1)) = rowT (ts.take j) ++ [.bool p.1, .string (strB p.2)]) := Lib.hid (by rw [List.take_add_one, hp]; exact rowT_snoc _ _)
        have hz := HB.out.size
        clear hp hcell x0 x1
        obtain ⟨PW, PT⟩ := p
        dsimp only at *
        generalize strB PT = K at *
        go_wp2_with (at_builtin; refine wpList_append_own _ rfl _ _ 38 rfl w.heap.size 32 i0 (.agg #[.bool false, .string ⟨#[]⟩]) 2 24 Tryz.underlying38 hi hz0 hz1 hz2 rfl (by decide) (.slice av j cv) j (rowT (ts.take j)) rfl (HO.out.alloc _) ⟨_, 0, none⟩ 1 1 [.bool PW, .string K] rfl rfl (cells_newF wr [.bool PW, .string K] 32) (by simp [Value.oneCell']) (by unfold maxLen; omega) (by omega) (by simp; omega) ?_; intro v' w5 hown5 hgrow5 _; obtain ⟨a5, c5, rfl⟩ := owns_formF hown5; have HB5 := Lib.hid ((HB.out.alloc hz (.cells #[.bool PW, .string K] 32)).grown hgrow5 (by simp; omega) (fun k e => (World.ownsRow.lt HO.out k e).1)))
        go_roundw
        case rel => exact ⟨j + 1, a5, c5, rfl, by go_num, by omega, Lib.hid (by rw [Htk.out]; exact hown5), HB5⟩
        case measure => simp [intOf]; omega
    · obtain rfl : j = ts.length := by omega
      have g0 : ¬ (ts.length : Int) < (ts.length : Int) := by omega
      have HF := Lib.hid (Tags.of_own (lo := w.heap.size) (ds := ts) (by have := HO.out; rw [List.take_length] at this; exact this) (Nat.le_refl _))
      go_wp2_with fail
      go_ret
      exact ⟨⟨_, rfl, HF.out⟩, HB.out⟩

set_option maxRecDepth 100000 in
set_option maxHeartbeats 4000000 in
theorem esame_any (lo : Nat) (v1 v2 : Value) (xs ys : List Tg) (w : World) (h1 : Tags lo w v1 xs) (h2 : Tags lo w v2 ys) (hl : xs.length ≤ 5864062014805) :
    Calls Tryz.prog 10 #[v1, v2] w fun e w' => e = .returned (.bool (decide (xs = ys))) ∧ Below w.heap.size w w' := by
  obtain ⟨ao, cap, rfl, hc⟩ := h1
  obtain ⟨bo, bcap, rfl, hc2⟩ := h2
  have HC := Lib.hid hc
  have HC2 := Lib.hid hc2
  clear hc hc2
  by_cases hll : xs.length = ys.length
  · have k0 : ((xs.length : Int) != (ys.length : Int)) = false := by rw [hll]; exact bne_self_eq_false _
    go_enter Tryz.func10, Tryz.ntmps10
    go_wp2_with fail
    go_loopw [5] (fun i wr => ∃ j : Nat, i = .int .i64 j ∧ j ≤ xs.length ∧ Hid (∀ k, k < j → xs[k]? = ys[k]?) ∧ Hid (Below w.heap.size w wr)) (fun i _ => xs.length - (intOf i).toNat)
    case atStart => exact ⟨0, rfl, Nat.zero_le _, Lib.hid (fun k hk => absurd hk (Nat.not_lt_zero _)), Lib.hid (Below.refl _ _)⟩
    case round =>
      obtain ⟨j, rfl, hj, HA, HB⟩ := hrel
      by_cases hlt : j < xs.length
      · rcases HC.out with hnil | ⟨c, off, rfl, _, hcl, hcell⟩
        · exfalso
          rw [hnil] at hlt
          simp at hlt
        rcases HC2.out with hnil | ⟨c2, off2, rfl, _, hcl2, hcell2⟩
        · exfalso
          rw [hnil] at hll
          simp at hll
          rw [hll] at hlt
          simp at hlt
        obtain ⟨p, hp⟩ : ∃ p, xs[j]? = some p := ⟨_, List.getElem?_eq_getElem hlt⟩
        obtain ⟨q, hq⟩ : ∃ q, ys[j]? = some q := ⟨_, List.getElem?_eq_getElem (by omega)⟩
        obtain ⟨x0, x1⟩ := hcell j p hp
        obtain ⟨y0, y1⟩ := hcell2 j q hq
        have a0 := (HB.out.cell (p := ⟨c, off + j * 2, none⟩) hcl).trans x0
        have a1 := (HB.out.cell (p := ⟨c, off + j * 2 + 1, none⟩) hcl).trans x1
        have b0 := (HB.out.cell (p := ⟨c2, off2 + j * 2, none⟩) hcl2).trans y0
        have b1 := (HB.out.cell (p := ⟨c2, off2 + j * 2 + 1, none⟩) hcl2).trans y1
        have jI : (j : Int) < (xs.length : Int) := by omega
        have jI2 : (j : Int) < (ys.length : Int) := by omega
        have j0 : (0 : Int) ≤ (j : Int) := by omega
        have hqe := name_eq p.2 q.2
        have HP := Lib.hid hp
        have HQ := Lib.hid hq
        clear hcell hcell2 x0 x1 y0 y1 hp hq
        by_cases he : p = q
        · have HA2 : Hid (∀ k, k < j + 1 → xs[k]? = ys[k]?) := Lib.hid (fun k hk => by
            by_cases hkj : k = j
            · rw [hkj, HP.out, HQ.out, he]
            · exact HA.out k (by omega))
          subst he
          rw [decide_eq_true rfl] at hqe
          obtain ⟨PW, PT⟩ := p
          dsimp only at *
          generalize strB PT = K at *
          go_wp2_with fail
          go_quiet (fail)
          go_wp2_with fail
          go_roundw
          case rel => exact ⟨j + 1, by go_num, by omega, HA2, Lib.hid (HB.out.trans ((below_drewN _ _).mono HB.out.size))⟩
          case measure => simp [intOf]; omega
        · have hne : decide (xs = ys) = false := decide_eq_false (fun e => he (by
            have h3 := HP.out
            rw [e, HQ.out] at h3
            exact (Option.some.inj h3).symm))
          obtain ⟨PW, PT⟩ := p
          obtain ⟨QW, QT⟩ := q
          have HN := Lib.hid hne
          dsimp only at *
          by_cases hw : PW = QW
          · have ht : ¬ QT = PT := fun e => he (by rw [hw, e])
            rw [decide_eq_false ht] at hqe
            subst hw
            clear he ht hne
            generalize strB PT = K at *
            generalize strB QT = K2 at *
            go_wp2_with fail
            go_quiet (fail)
            go_wp2_with fail
            go_ret
            exact ⟨by rw [HN.out] <;> rfl, HB.out.trans ((below_drewN _ _).mono HB.out.size)⟩
          · have kw : (PW == QW) = false := beq_false_of_ne hw
            clear he hne hqe
            generalize strB PT = K at *
            generalize strB QT = K2 at *
            cases PW <;> cases QW
            · exact absurd rfl hw
            · clear hw kw
              go_wp2_with fail
              go_quiet (fail)
              go_wp2_with fail
              go_ret
              exact ⟨by rw [HN.out] <;> rfl, HB.out.trans ((below_drewN _ _).mono HB.out.size)⟩
            · clear hw kw
              go_wp2_with fail
              go_quiet (fail)
              go_wp2_with fail
              go_ret
              exact ⟨by rw [HN.out] <;> rfl, HB.out.trans ((below_drewN _ _).mono HB.out.size)⟩
            · exact absurd rfl hw
      · obtain rfl : j = xs.length := by omega
        have g0 : ¬ (xs.length : Int) < (xs.length : Int) := by omega
        have he : decide (xs = ys) = true := decide_eq_true (by
          apply List.ext_getElem?
          intro k
          by_cases hk : k < xs.length
          · exact HA.out k hk
          · rw [List.getElem?_eq_none (by omega), List.getElem?_eq_none (by omega)])
        have HN := Lib.hid he
        clear he
        go_wp2_with fail
        go_ret
        exact ⟨by rw [HN.out] <;> rfl, HB.out⟩
  · have k0 : ((xs.length : Int) != (ys.length : Int)) = true := by rw [bne_iff_ne]; omega
    have HN := Lib.hid (show decide (xs = ys) = false from decide_eq_false (fun e => hll (by rw [e])))
    go_enter Tryz.func10, Tryz.ntmps10
    go_wp2_with fail
    go_ret
    exact ⟨by rw [HN.out] <;> rfl, Below.refl _ _⟩

end Go.Proofs.YtclgdmcbbphbcaaGreatDoor

namespace Go.Proofs.YtclgdmcbbphbcaaGreatDoor
open Go.RowKit Go.Lib

/-- What List answers. -/
def lsPost (o : Option (List Tg × Bool)) (w : World) (e : Ending) (w' : World) : Prop := Below w.heap.size w w' ∧ match o with
  | none => e = .returned (.tuple #[.slice none 0 0, .bool false, .int .i64 2])
  | some (xs, st) => ∃ u, e = .returned (.tuple #[u, .bool st, .int .i64 0]) ∧ Tags w.heap.size w' u xs
theorem blk_form (c : UInt8) : blkE c = (c == 32 || c == 9) := rfl

set_option maxRecDepth 100000 in
set_option maxHeartbeats 8000000 in
theorem ulist_any (s : ByteArray) (w : World) (hs : s.size ≤ 100000) :
    Calls Tryz.prog 9 #[.string s] w (lsPost (lstE s.data.toList) w) := by
  obtain ⟨i0, hi, hz0, hz1, hz2⟩ := info_parts info_rtag
  have hz := Lib.hid (Lib.size_eq s)
  obtain ⟨L, hL⟩ : ∃ L, s.data.toList = L := ⟨_, rfl⟩
  have HL := Lib.hid hL
  have hZ : Hid (L.length = s.size) := Lib.hid (by rw [← hL]; exact (Lib.size_eq s).symm)
  rw [hL]
  clear hL
  obtain ⟨Q, hQ⟩ : ∃ Q, lsPost (lstE L) w = Q := ⟨_, rfl⟩
  have QN : Hid (∀ w', lstE L = none → Below w.heap.size w w' → Q (.returned (.tuple #[.slice none 0 0, .bool false, .int .i64 2])) w') := Lib.hid (fun w' h hb => by rw [← hQ, h]; exact ⟨hb, rfl⟩)
  have QS : Hid (∀ w', lstE L = some ([], true) → Below w.heap.size w w' → Q (.returned (.tuple #[.slice none 0 0, .bool true, .int .i64 0])) w') := Lib.hid (fun w' h hb => by rw [← hQ, h]; exact ⟨hb, _, rfl, Tags.nothing _ _⟩)
  have QY : Hid (∀ w' u xs, lstE L = some (xs, false) → Below w.heap.size w w' → Tags w.heap.size w' u xs → Q (.returned (.tuple #[u, .bool false, .int .i64 0])) w') := Lib.hid (fun w' u xs h hb ht => by rw [← hQ, h]; exact ⟨hb, _, rfl, ht⟩)
  rw [hQ]
  clear hQ
  have cB := fun W => ublanks_any s W hs
  rw [HL.out] at cB
  have BB := Lib.hid (show bnE L ≤ s.size by rw [← hZ.out]; exact bnE_le L)
  obtain ⟨B, hB⟩ : ∃ B, bnE L = B := ⟨_, rfl⟩
  have HBN := Lib.hid hB
  rw [hB] at cB BB
  clear hB
  go_enter Tryz.func9, Tryz.ntmps9
  go_wp2_with fail
  go_loopw [5, 6, 7, 8] (fun r i st sp wr => ∃ (k m : Nat) (ts : List Tg) (S1 S2 : Bool) (av : Option Addr) (cv : Nat), r = .slice av m cv ∧ i = .int .i64 k ∧ st = .bool S1 ∧ sp = .bool S2 ∧ k ≤ s.size ∧ m ≤ k ∧ ts.length = m ∧ Hid (wr.ownsRow w.heap.size 32 2 (.slice av m cv) m (rowT ts)) ∧ Hid (lsJ L k S1 S2 ts) ∧ Hid (Below w.heap.size w wr)) (fun _ i _ _ _ => s.size - (intOf i).toNat)
  case atStart => exact ⟨0, 0, [], false, true, none, 0, rfl, rfl, rfl, rfl, Nat.zero_le _, Nat.le_refl _, rfl, Lib.hid (World.ownsRow_nil _ _ _ _), Lib.hid (lsJ_start L), Lib.hid (Below.refl _ _)⟩
  case round =>
    obtain ⟨k, m, ts, S1, S2, av, cv, rfl, rfl, rfl, rfl, hk, hmk, hm, HO, HJ, HB⟩ := hrel
    by_cases hlt : k < s.size
    · have hd0 := drop_cons_at s k hlt
      rw [HL.out] at hd0
      have HD := Lib.hid hd0
      have g0 : (k : Int) < (s.size : Int) := by omega
      obtain ⟨c, hc⟩ : ∃ c, (s[k]'hlt) = c := ⟨_, rfl⟩
      have e32 : (((s[k]'hlt).toNat : Int) == 32) = (c == 32) := by rw [← hc]; exact byte_beq _ 32
      have e9 : (((s[k]'hlt).toNat : Int) == 9) = (c == 9) := by rw [← hc]; exact byte_beq _ 9
      have e44 : (((s[k]'hlt).toNat : Int) == 44) = (c == 44) := by rw [← hc]; exact byte_beq _ 44
      have e42 : (((s[k]'hlt).toNat : Int) == 42) = (c == 42) := by rw [← hc]; exact byte_beq _ 42
      rw [hc] at HD
      clear hd0 hc
      cases hb : blkE c
      · have h32 : (c == 32) = false := by rw [blk_form, Bool.or_eq_false_iff] at hb; exact hb.1
        have h9 : (c == 9) = false := by rw [blk_form, Bool.or_eq_false_iff] at hb; exact hb.2
        rw [h32] at e32
        rw [h9] at e9
        clear h32 h9
        cases S1
        · by_cases h44 : c = 44
          · have HJ2 := Lib.hid (lsJ_comma HJ.out HD.out h44)
            rw [show (c == 44) = true from beq_iff_eq.2 h44] at e44
            clear h44 hb cB e42
            go_wp2_with fail
            go_roundw
            case rel => exact ⟨k + 1, m, ts, false, true, av, cv, rfl, by go_num, rfl, rfl, by omega, by omega, hm, HO, HJ2, HB⟩
            case measure => simp [intOf]; omega
          · rw [show (c == 44) = false from beq_false_of_ne h44] at e44
            by_cases hst : c = 42 ∧ k = B
            · obtain ⟨h42, hkB⟩ := hst
              have hts : ts = [] := by
                rcases lsJ_at HJ.out HD.out h42 with h | h
                · exact h.2
                · exact absurd (hkB.trans HBN.out.symm) h
              have hm0 : m = 0 := by rw [← hm, hts] <;> rfl
              have HJ2 := Lib.hid (lsJ_star S2 HD.out h42 (hkB.trans HBN.out.symm))
              rw [show (c == 42) = true from beq_iff_eq.2 h42] at e42
              have kB : ((k : Int) == (B : Int)) = true := by rw [hkB]; exact beq_self_eq_true _
              have HO1 : Hid (wr.ownsRow w.heap.size 32 2 (.slice av 0 cv) 0 (rowT [])) := Lib.hid (by have := HO.out; rw [hts, hm0] at this; exact this)
              subst hm0
              clear h42 hkB hts hb h44 HO
              go_wp2_with (go_at_call 23; refine (cB _).mono ?_; rintro e w3 ⟨rfl, rfl⟩)
              go_roundw
              case rel => exact ⟨k + 1, 0, [], true, S2, av, cv, rfl, by go_num, rfl, rfl, by omega, by omega, rfl, HO1, HJ2, HB⟩
              case measure => simp [intOf]; omega
            · have hsb : c = 42 → k ≠ bnE L := fun e h => hst ⟨e, h.trans HBN.out⟩
              have cT : ∀ W, Calls Tryz.prog 19 #[.string (s.extract k s.size)] W fun e w' => e = .returned (taV (takE (L.drop k)) (s.size - k)) ∧ Below W.heap.size W w' := fun W => by
                have e1 : (s.extract k s.size).data.toList = L.drop k := by
                  rw [Lib.extract_data, HL.out, List.take_of_length_le]
                  rw [List.length_drop, hZ.out]
                  exact Nat.le_refl _
                have e2 : (s.extract k s.size).size = s.size - k := by rw [Lib.size_eq, e1, List.length_drop, hZ.out]
                have := utake_any (s.extract k s.size) W (by rw [e2]; omega)
                rwa [e1, e2] at this
              have g3 : (k : Int) ≤ (s.size : Int) := by omega
              cases ht : takE (L.drop k) with
              | none =>
                have HN := Lib.hid (lsJ_bad HJ.out HD.out hb h44 hsb (.inr ht))
                rw [ht] at cT
                simp only [taV, tgV] at cT
                rw [show strB [] = (⟨#[]⟩ : ByteArray) from rfl] at cT
                cases h42 : (c == 42)
                · rw [h42] at e42
                  clear hb h44 hst hsb ht h42 cB
                  go_wp2_with (go_at_call 19; refine (cT _).mono ?_; rintro e w2 ⟨rfl, hb2⟩; have HB2 := Lib.hid (HB.out.trans (hb2.mono HB.out.size)); have HO2 := Lib.hid (ownsRow_later HO.out hb2))
                  refine bodyPost_ret (v := .tuple #[.slice none 0 0, .bool false, .int .i64 2]) (by simp [results, Tryz.results9, go_sem]) rfl (QN.out _ HN.out (HB2.out.alloc HB2.out.size _))
                · rw [h42] at e42
                  have kB : ((k : Int) == (B : Int)) = false := beq_false_of_ne (fun e => hst ⟨eq_of_beq h42, by omega⟩)
                  by_cases hm0 : m = 0
                  · subst hm0
                    clear hb h44 hst hsb ht h42
                    go_wp2_with (first | (go_at_call 23; refine (cB _).mono ?_; rintro e w3 ⟨rfl, rfl⟩) | (go_at_call 19; refine (cT _).mono ?_; rintro e w2 ⟨rfl, hb2⟩; have HB2 := Lib.hid (HB.out.trans (hb2.mono HB.out.size)); have HO2 := Lib.hid (ownsRow_later HO.out hb2)))
                    refine bodyPost_ret (v := .tuple #[.slice none 0 0, .bool false, .int .i64 2]) (by simp [results, Tryz.results9, go_sem]) rfl (QN.out _ HN.out (HB2.out.alloc HB2.out.size _))
                  · have k0 : ((m : Int) == 0) = false := beq_false_of_ne (by omega)
                    clear hb h44 hst hsb ht h42 cB hm0
                    go_wp2_with (go_at_call 19; refine (cT _).mono ?_; rintro e w2 ⟨rfl, hb2⟩; have HB2 := Lib.hid (HB.out.trans (hb2.mono HB.out.size)); have HO2 := Lib.hid (ownsRow_later HO.out hb2))
                    refine bodyPost_ret (v := .tuple #[.slice none 0 0, .bool false, .int .i64 2]) (by simp [results, Tryz.results9, go_sem]) rfl (QN.out _ HN.out (HB2.out.alloc HB2.out.size _))
              | some p =>
                obtain ⟨⟨wk, tx⟩, r⟩ := p
                have hsx := (takE_suffix ht).2
                rw [List.length_drop, hZ.out] at hsx
                have h42 : (c == 42) = false := beq_false_of_ne (fun e => by
                  have h3 := HD.out
                  rw [e] at h3
                  rw [h3] at ht
                  unfold takE at ht
                  rw [if_neg (by simp), if_neg (by simp)] at ht
                  cases ht)
                rw [h42] at e42
                cases S2
                · have HN := Lib.hid (lsJ_bad HJ.out HD.out hb h44 hsb (.inl rfl))
                  rw [ht] at cT
                  simp only [taV, tgV] at cT
                  generalize strB tx = X at *
                  generalize s.size - k - r.length = N9 at *
                  clear hb h44 hst hsb ht h42 cB
                  go_wp2_with (go_at_call 19; refine (cT _).mono ?_; rintro e w2 ⟨rfl, hb2⟩; have HB2 := Lib.hid (HB.out.trans (hb2.mono HB.out.size)); have HO2 := Lib.hid (ownsRow_later HO.out hb2))
                  refine bodyPost_ret (v := .tuple #[.slice none 0 0, .bool false, .int .i64 2]) (by simp [results, Tryz.results9, go_sem]) rfl (QN.out _ HN.out (HB2.out.alloc HB2.out.size _))
                · have HJ1 := lsJ_take HJ.out HD.out hb h44 hsb ht
                  obtain ⟨N9, hN⟩ : ∃ N9, s.size - k - r.length = N9 := ⟨_, rfl⟩
                  rw [ht] at cT
                  simp only [taV, tgV] at cT
                  rw [hN] at cT
                  have HJ2 : Hid (lsJ L (k + N9) false false (ts ++ [(wk, tx)])) := Lib.hid (by rw [show k + N9 = L.length - r.length by rw [hZ.out]; omega]; exact HJ1)
                  have HTR : Hid (rowT (ts ++ [(wk, tx)]) = rowT ts ++ [.bool wk, .string (strB tx)]) := Lib.hid (rowT_snoc _ _)
                  have hN2 : 2 ≤ N9 := by omega
                  have hN3 : k + N9 ≤ s.size := by omega
                  generalize strB tx = X at *
                  clear hb h44 hst hsb ht h42 cB HJ1 hsx hN
                  go_wp2_with (first | (go_at_call 19; refine (cT _).mono ?_; rintro e w2 ⟨rfl, hb2⟩; have HB2 := Lib.hid (HB.out.trans (hb2.mono HB.out.size)); have HO2 := Lib.hid (ownsRow_later HO.out hb2)) | (at_builtin; refine wpList_append_own _ rfl _ _ 38 rfl w.heap.size 32 i0 (.agg #[.bool false, .string ⟨#[]⟩]) 2 24 Tryz.underlying38 hi hz0 hz1 hz2 rfl (by decide) (.slice av m cv) m (rowT ts) rfl ((HO2.out.alloc _).alloc _) ⟨_, 0, none⟩ 1 1 [.bool wk, .string X] rfl rfl (fun j u h => by have e := cells_newF (w2.alloc (.cells #[.bool wk, .string X] 32)) [.bool wk, .string X] 32 j u h; rw [show (w2.alloc (.cells #[.bool wk, .string X] 32)).heap.size = w2.heap.size + 1 by simp] at e; exact e) (by simp [Value.oneCell']) (by unfold maxLen; omega) (by omega) (by simp; have := HB2.out.size; omega) ?_; intro v' w5 hown5 hgrow5 _; obtain ⟨a5, c5, rfl⟩ := owns_formF hown5; have HB5 := Lib.hid (((HB2.out.alloc HB2.out.size (.cells #[.bool wk, .string X] 32)).alloc (by simp; have := HB2.out.size; omega) (.cells #[.bool wk, .string X] 32)).grown hgrow5 (by simp; have := HB2.out.size; omega) (fun j e => (World.ownsRow.lt HO2.out j e).1))))
                  go_roundw
                  case rel => exact ⟨k + N9, m + 1, ts ++ [(wk, tx)], false, false, a5, c5, rfl, by go_num, rfl, rfl, by omega, by omega, by rw [List.length_append, List.length_singleton, hm], Lib.hid (by rw [HTR.out]; exact hown5), HJ2, HB5⟩
                  case measure => simp [intOf]; omega
        · have HN := Lib.hid (lsJ_starbad HJ.out HD.out hb)
          clear e44 e42 cB
          go_wp2_with fail
          refine bodyPost_ret (v := .tuple #[.slice none 0 0, .bool false, .int .i64 2]) (by simp [results, Tryz.results9, go_sem]) rfl (QN.out _ HN.out HB.out)
      · have HJ2 := Lib.hid (lsJ_blank HJ.out HD.out hb)
        rw [blk_form] at hb
        cases h32 : (c == 32)
        · rw [h32] at e32
          have h9 : (c == 9) = true := by rw [h32, Bool.false_or] at hb; exact hb
          rw [h9] at e9
          clear hb h32 h9 e44 e42 cB
          go_wp2_with fail
          go_roundw
          case rel => exact ⟨k + 1, m, ts, S1, S2, av, cv, rfl, by go_num, rfl, rfl, by omega, by omega, hm, HO, HJ2, HB⟩
          case measure => simp [intOf]; omega
        · rw [h32] at e32
          clear hb h32 e9 e44 e42 cB
          go_wp2_with fail
          go_roundw
          case rel => exact ⟨k + 1, m, ts, S1, S2, av, cv, rfl, by go_num, rfl, rfl, by omega, by omega, hm, HO, HJ2, HB⟩
          case measure => simp [intOf]; omega
    · obtain rfl : k = s.size := by omega
      have g0 : ¬ (s.size : Int) < (s.size : Int) := by omega
      have HJ2 := HJ.out
      rw [← hZ.out] at HJ2
      cases S1
      · have HV := Lib.hid (lsJ_end HJ2)
        by_cases hm0 : m = 0
        · subst hm0
          have HN : Hid (lstE L = none) := Lib.hid (by rw [HV.out, if_pos (List.eq_nil_of_length_eq_zero hm)])
          clear cB HJ2
          go_wp2_with fail
          refine bodyPost_ret (v := .tuple #[.slice none 0 0, .bool false, .int .i64 2]) (by simp [results, Tryz.results9, go_sem]) rfl (QN.out _ HN.out HB.out)
        · have HN : Hid (lstE L = some (ts, false)) := Lib.hid (by rw [HV.out, if_neg (fun e => hm0 (by rw [← hm, e] <;> rfl))])
          have HF := Lib.hid (Tags.of_own (lo := w.heap.size) (ds := ts) (by rw [hm]; exact HO.out) (Nat.le_refl _))
          have k0 : ((m : Int) == 0) = false := beq_false_of_ne (by omega)
          clear cB HJ2 hm0
          go_wp2_with fail
          refine bodyPost_ret (v := .tuple #[.slice av m cv, .bool false, .int .i64 0]) (by simp [results, Tryz.results9, go_sem]) rfl (QY.out _ _ _ HN.out HB.out HF.out)
      · have HN := Lib.hid (lsJ_starend HJ2)
        clear cB HJ2
        go_wp2_with fail
        refine bodyPost_ret (v := .tuple #[.slice none 0 0, .bool true, .int .i64 0]) (by simp [results, Tryz.results9, go_sem]) rfl (QS.out _ HN.out HB.out)

end Go.Proofs.YtclgdmcbbphbcaaGreatDoor
