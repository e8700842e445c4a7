/- The document's own Without of fields (sculleryref06). · The document's own All of fields (sculleryref06). -/
import Derived.Test.YthbfcamfapgodaaGreatDoorGB
import Derived.Test.YthbfcamfapgodaaGreatDoorGA
import Derived.BigQuiet
import Derived.Deep.QuietTactic
import Derived.Laws.AppendOwn

namespace Go.Proofs.YthbfcamfapgodaaGreatDoor
open Go.RowKit

theorem mem_take_succ (ns : List (List UInt8)) (k : Nat) (q n : List UInt8) (h : ns[k]? = some q) : decide (n ∈ ns.take (k + 1)) = (decide (n ∈ ns.take k) || decide (n = q)) := by
  rewrite [List.take_add_one, h]
  simp

set_option maxRecDepth 100000 in
set_option maxHeartbeats 4000000 in
theorem rwithout_any (lo : Nat) (v v2 : Value) (fs : List Fld) (ns : List (List UInt8)) (w : World) (h : Flds lo w v fs) (h2 : StrsF w v2 ns) (hk : FldsOk fs) (hn : ns.length ≤ 100000) :
    Calls Tryz.prog 66 #[v, v2] w fun e w' => (∃ u, e = .returned u ∧ w'.ownsRow w.heap.size 70 2 u (withoutH fs ns).length (rowF (withoutH fs ns))) ∧ Below w.heap.size w w' := by
  obtain ⟨i0, hi, hz0, hz1, hz2⟩ := info_parts info_field
  obtain ⟨ao, cap, rfl, hc⟩ := h
  obtain ⟨ao2, cap2, rfl, hc2⟩ := h2
  have hl := hk.1
  have HC := Lib.hid hc
  have HC2 := Lib.hid hc2
  clear hk hc hc2
  go_enter Tryz.func66, Tryz.ntmps66
  go_wp2_with fail
  go_loopw [5, 6] (fun r i wr => ∃ (j : Nat) (acc : List Fld) (av : Option Addr) (cv : Nat), r = .slice av acc.length cv ∧ i = .int .i64 j ∧ j ≤ fs.length ∧ acc.length ≤ j ∧ Hid (acc = withoutH (fs.take j) ns) ∧ wr.ownsRow w.heap.size 70 2 (.slice av acc.length cv) acc.length (rowF acc) ∧ Below w.heap.size w wr) (fun _ i _ => fs.length - (intOf i).toNat)
  case atStart => exact ⟨0, [], none, 0, rfl, rfl, Nat.zero_le _, by simp, Lib.hid rfl, World.ownsRow_nil _ _ _ _, Below.refl _ _⟩
  case round =>
    obtain ⟨j, acc, av, cv, rfl, rfl, hj, hal, HA, hown, hb⟩ := hrel
    have HO := Lib.hid hown
    have HB := Lib.hid hb
    by_cases hlt : j < fs.length
    · rcases HC.out with hnil | ⟨c, off, rfl, _, hcl, hcell⟩
      · exfalso
        rw [hnil] at hlt
        simp at hlt
      · obtain ⟨p, hp⟩ : ∃ p, fs[j]? = some p := ⟨_, List.getElem?_eq_getElem hlt⟩
        have Htk : Hid (fs.take (j + 1) = fs.take j ++ [p]) := Lib.hid (by rw [List.take_add_one, hp] <;> rfl)
        obtain ⟨x0, x1⟩ := hcell j p hp
        have A0 := Lib.hid ((hb.cell (p := ⟨c, off + j * 2, none⟩) hcl).trans x0)
        have A1 := Lib.hid ((hb.cell (p := ⟨c, off + j * 2 + 1, none⟩) hcl).trans x1)
        have hcw := Nat.lt_of_lt_of_le hcl hb.size
        have hjI : (j : Int) < (fs.length : Int) := by omega
        have hj0 : (0 : Int) ≤ (j : Int) := by omega
        clear hcell x0 x1 hp hb hown
        rename World => W1
        go_wp2_with fail
        go_loopw [7, 8] (fun t i wr => ∃ (k : Nat) (b : Bool), t = .bool b ∧ i = .int .i64 k ∧ k ≤ ns.length ∧ Hid (decide (p.1 ∈ ns.take k) = b) ∧ Below W1.heap.size W1 wr) (fun _ i _ => ns.length - (intOf i).toNat)
        case atStart => exact ⟨0, false, rfl, rfl, Nat.zero_le _, Lib.hid (by simp), Below.refl _ _⟩
        case round =>
          obtain ⟨k, b, rfl, rfl, hkn, HM, hb2⟩ := hrel
          have a0 := (hb2.cell (p := ⟨c, off + j * 2, none⟩) hcw).trans A0.out
          have HB2 := Lib.hid hb2
          by_cases hlt2 : k < ns.length
          · rcases HC2.out with hnil | ⟨c2, off2, rfl, hcl2, hcell2⟩
            · exfalso
              rw [hnil] at hlt2
              simp at hlt2
            · obtain ⟨q, hq⟩ : ∃ q, ns[k]? = some q := ⟨_, List.getElem?_eq_getElem hlt2⟩
              have n0 := (hb2.cell (p := ⟨c2, off2 + k, none⟩) (Nat.lt_of_lt_of_le hcl2 HB.out.size)).trans ((HB.out.cell (p := ⟨c2, off2 + k, none⟩) hcl2).trans (hcell2 k q hq))
              have HN := Lib.hid (mem_take_succ ns k q p.1 hq)
              have hkI : (k : Int) < (ns.length : Int) := by omega
              have hk0 : (0 : Int) ≤ (k : Int) := by omega
              have hqe := name_eq q p.1
              obtain ⟨P, hP⟩ : ∃ P, strB p.1 = P := ⟨_, rfl⟩
              obtain ⟨Q, hQ⟩ : ∃ Q, strB q = Q := ⟨_, rfl⟩
              rw [hP] at a0 hqe
              rw [hQ] at n0 hqe
              obtain ⟨d, hd⟩ : ∃ d, decide (p.1 = q) = d := ⟨_, rfl⟩
              rw [hd] at hqe HN
              rw [HM.out] at HN
              clear hcell2 hq hb2 hP hQ hd
              cases b
              · cases d
                · go_wp2_with fail
                  go_quiet (fail)
                  go_wp2_with fail
                  go_roundw
                  case rel => exact ⟨k + 1, false, rfl, by go_num, by omega, Lib.hid HN.out, HB2.out.trans ((below_drewN _ _).mono HB2.out.size)⟩
                  case measure => simp [intOf]; omega
                · go_wp2_with fail
                  go_quiet (fail)
                  go_wp2_with fail
                  go_roundw
                  case rel => exact ⟨k + 1, true, rfl, by go_num, by omega, Lib.hid HN.out, HB2.out.trans ((below_drewN _ _).mono HB2.out.size)⟩
                  case measure => simp [intOf]; omega
              · clear hqe
                go_wp2_with fail
                go_quiet (fail)
                go_wp2_with fail
                go_roundw
                case rel => exact ⟨k + 1, true, rfl, by go_num, by omega, Lib.hid HN.out, HB2.out.trans ((below_drewN _ _).mono HB2.out.size)⟩
                case measure => simp [intOf]; omega
          · obtain rfl : k = ns.length := by omega
            have hm := HM.out
            rw [List.take_length] at hm
            have HB3 := Lib.hid (HB.out.trans (hb2.mono HB.out.size))
            have HO3 := Lib.hid (ownsRow_later HO.out hb2)
            have hz3 := HB3.out.size
            cases b
            · have a1 := (hb2.cell (p := ⟨c, off + j * 2 + 1, none⟩) hcw).trans A1.out
              have HN : Hid (withoutH (fs.take (j + 1)) ns = withoutH (fs.take j) ns ++ [p]) := Lib.hid (by rewrite [Htk.out]; exact withoutH_no _ _ _ (by simpa using hm))
              have hnew := cells_newF wr (cellsF p) 70
              have HNew := Lib.hid hnew
              clear hnew hb2 hm
              go_wp2_with (at_builtin; refine wpList_append_own _ rfl _ _ 23 rfl w.heap.size 70 i0 (.agg #[.string ⟨#[]⟩, .string ⟨#[]⟩]) 2 32 Tryz.underlying23 hi hz0 hz1 hz2 rfl (by decide) (.slice av acc.length cv) acc.length (rowF acc) rfl (HO3.out.alloc _) ⟨wr.heap.size, 0, none⟩ 1 1 (cellsF p) rfl rfl HNew.out (by simp [Value.oneCell', cellsF]) (by unfold maxLen; omega) (by omega) (by simp; omega) ?_; intro v' w5 hown5 hgrow5 _; obtain ⟨a5, c5, rfl⟩ := owns_formF hown5)
              go_roundw
              case rel =>
                refine ⟨j + 1, acc ++ [p], a5, c5, by rw [List.length_append] <;> rfl, by go_num, by omega, by simp; omega, Lib.hid (by rw [HN.out, HA.out]), by rewrite [List.length_append, rowF_snoc]; exact hown5, ?_⟩
                exact (HB3.out.alloc hz3 _).grown hgrow5 (by simp; omega) (fun k e => (World.ownsRow.lt HO3.out k e).1)
              case measure => simp [intOf]; omega
            · have HN : Hid (withoutH (fs.take (j + 1)) ns = withoutH (fs.take j) ns) := Lib.hid (by rewrite [Htk.out]; exact withoutH_yes _ _ _ (by simpa using hm))
              clear hb2 hm
              go_wp2_with fail
              go_roundw
              case rel => exact ⟨j + 1, acc, av, cv, rfl, by go_num, by omega, by omega, Lib.hid (by rewrite [HN.out]; exact HA.out), HO3.out, HB3.out⟩
              case measure => simp [intOf]; omega
    · obtain rfl : j = fs.length := by omega
      have HR : Hid (acc = withoutH fs ns) := Lib.hid (by have := HA.out; rwa [List.take_length] at this)
      clear hown hb HA
      go_wp2_with fail
      go_ret
      refine ⟨⟨_, rfl, ?_⟩, HB.out⟩
      rewrite [← HR.out]
      exact HO.out

end Go.Proofs.YthbfcamfapgodaaGreatDoor

namespace Go.Proofs.YthbfcamfapgodaaGreatDoor
open Go.RowKit Go.Shelf Go.Lib

set_option maxRecDepth 100000 in
set_option maxHeartbeats 4000000 in
theorem rall_any (lo : Nat) (v : Value) (fs : List Fld) (name : List UInt8) (w : World) (h : Flds lo w v fs) (hl : fs.length ≤ 100000) :
    Calls Tryz.prog 34 #[v, .string (strB name)] w fun e w' => (∃ u, e = .returned u ∧ w'.ownsRow w.heap.size 9 1 u (allH fs name).length (rowS (allH fs name))) ∧ Below w.heap.size w w' := by
  obtain ⟨i0, hi, hz0, hz1, hz2⟩ := info_parts info_strF
  obtain ⟨ao, cap, rfl, hc⟩ := h
  have HC := Lib.hid hc
  clear hc
  go_enter Tryz.func34, Tryz.ntmps34
  go_wp2_with fail
  go_loopw [5, 6] (fun r i wr => ∃ (j : Nat) (acc : List (List UInt8)) (av : Option Addr) (cv : Nat), r = .slice av acc.length cv ∧ i = .int .i64 j ∧ j ≤ fs.length ∧ acc.length ≤ j ∧ Hid (acc = allH (fs.take j) name) ∧ wr.ownsRow w.heap.size 9 1 (.slice av acc.length cv) acc.length (rowS acc) ∧ Below w.heap.size w wr) (fun _ i _ => fs.length - (intOf i).toNat)
  case atStart => exact ⟨0, [], none, 0, rfl, rfl, Nat.zero_le _, by simp, Lib.hid rfl, World.ownsRow_nil _ _ _ _, Below.refl _ _⟩
  case round =>
    obtain ⟨j, acc, av, cv, rfl, rfl, hj, hal, HA, hown, hb⟩ := hrel
    have HO := Lib.hid hown
    have HB := Lib.hid hb
    by_cases hlt : j < fs.length
    · rcases HC.out with hnil | ⟨c, off, rfl, _, hcl, hcell⟩
      · exfalso
        rw [hnil] at hlt
        simp at hlt
      · obtain ⟨p, hp⟩ : ∃ p, fs[j]? = some p := ⟨_, List.getElem?_eq_getElem hlt⟩
        have Htk : Hid (fs.take (j + 1) = fs.take j ++ [p]) := Lib.hid (by rw [List.take_add_one, hp] <;> rfl)
        obtain ⟨x0, x1⟩ := hcell j p hp
        have a0 := (hb.cell (p := ⟨c, off + j * 2, none⟩) hcl).trans x0
        have a1 := (hb.cell (p := ⟨c, off + j * 2 + 1, none⟩) hcl).trans x1
        have hjI : (j : Int) < (fs.length : Int) := by omega
        have hj0 : (0 : Int) ≤ (j : Int) := by omega
        have hqe := name_eq p.1 name
        have hz := hb.size
        obtain ⟨N, V⟩ := p
        dsimp only at a0 a1 hqe
        by_cases hN : N = name
        · have HN : Hid (allH (fs.take (j + 1)) name = allH (fs.take j) name ++ [V]) := Lib.hid (by rw [Htk.out, allH_snoc, if_pos hN])
          rw [decide_eq_true hN.symm] at hqe
          have hO4 := hown.alloc (.cells #[.string (strB V)] 9)
          have hnew := cell_newS wr (strB V)
          have HNew := Lib.hid hnew
          have HO4 := Lib.hid hO4
          clear hcell x0 x1 hp hb hown hN hnew hO4
          generalize strB N = SN at *
          generalize strB name = SM at *
          have HSV : Hid (rowS (acc ++ [V]) = rowS acc ++ [.string (strB V)]) := Lib.hid (rowS_snoc _ _)
          generalize strB V = SV at *
          go_wp2_with (at_builtin; refine wpList_append_own _ rfl _ _ 62 rfl w.heap.size 9 i0 (.string ⟨#[]⟩) 1 16 Tryz.underlying62 hi hz0 hz1 hz2 rfl (by decide) (.slice av acc.length cv) acc.length (rowS acc) rfl HO4.out ⟨wr.heap.size, 0, none⟩ 1 1 [.string SV] rfl rfl HNew.out (by intro u hu; simp at hu; subst hu; rfl) (by unfold maxLen; omega) (by omega) (by simp; omega) ?_; intro v' w5 hown5 hgrow5 _; obtain ⟨a5, c5, rfl⟩ := owns_formF hown5)
          go_roundw
          case rel =>
            refine ⟨j + 1, acc ++ [V], a5, c5, by rw [List.length_append] <;> rfl, by go_num, by omega, by simp; omega, Lib.hid (by rw [HN.out, HA.out]), by rewrite [List.length_append, HSV.out]; exact hown5, ?_⟩
            exact (HB.out.alloc hz _).grown hgrow5 (by simp; omega) (fun k e => (World.ownsRow.lt HO4.out k e).1)
          case measure => simp [intOf]; omega
        · have HN : Hid (allH (fs.take (j + 1)) name = allH (fs.take j) name) := Lib.hid (by rw [Htk.out, allH_snoc, if_neg hN])
          rw [decide_eq_false (fun e => hN e.symm)] at hqe
          clear hcell x0 x1 hp hb hown hN
          generalize strB N = SN at *
          generalize strB name = SM at *
          go_wp2_with fail
          go_roundw
          case rel => exact ⟨j + 1, acc, av, cv, rfl, by go_num, by omega, by omega, Lib.hid (by rw [HN.out, HA.out]), HO.out, HB.out⟩
          case measure => simp [intOf]; omega
    · obtain rfl : j = fs.length := by omega
      have hA := HA.out
      rw [List.take_length] at hA
      have HA2 := Lib.hid hA
      clear hA hown hb
      go_wp2_with fail
      go_ret
      exact ⟨⟨_, rfl, by rewrite [← HA2.out]; exact HO.out⟩, HB.out⟩

end Go.Proofs.YthbfcamfapgodaaGreatDoor
