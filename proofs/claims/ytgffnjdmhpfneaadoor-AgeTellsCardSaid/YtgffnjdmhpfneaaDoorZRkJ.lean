/- The document's own All of fields (sculleryref06). -/
import Derived.Test.YtgffnjdmhpfneaaDoorZMHdS
import Derived.Test.YtgffnjdmhpfneaaDoorZNamP
import Derived.Laws.AppendOwn
import Derived.BigQuiet
import Derived.Deep.QuietTactic

namespace Go.Proofs.YtgffnjdmhpfneaaDoor
open Go.RowKit Go.Shelf Go.Lib

set_option maxRecDepth 100000 in
set_option maxHeartbeats 4000000 in
theorem rall_any (lo : Nat) (v : Value) (fs : List Fld) (name : List UInt8) (w : World) (h : Flds lo w v fs) (hl : fs.length ≤ 100000) :
    Calls Tryd.prog 33 #[v, .string (strB name)] w fun e w' => (∃ u, e = .returned u ∧ w'.ownsRow w.heap.size 9 1 u (allH fs name).length (rowS (allH fs name))) ∧ Below w.heap.size w w' := by
  obtain ⟨i0, hi, hz0, hz1, hz2⟩ := info_parts info_strF
  obtain ⟨ao, cap, rfl, hc⟩ := h
  have HC := Lib.hid hc
  clear hc
  go_enter Tryd.func33, Tryd.ntmps33
  go_wp2_with fail
  go_loopw [5, 6] (fun r i wr => ∃ (j : Nat) (acc : List (List UInt8)) (av : Option Addr) (cv : Nat), r = .slice av acc.length cv ∧ i = .int .i64 j ∧ j ≤ fs.length ∧ acc.length ≤ j ∧ Hid (acc = allH (fs.take j) name) ∧ wr.ownsRow w.heap.size 9 1 (.slice av acc.length cv) acc.length (rowS acc) ∧ Below w.heap.size w wr) (fun _ i _ => fs.length - (RowKit.intOf i).toNat)
  case atStart => exact ⟨0, [], none, 0, rfl, rfl, Nat.zero_le _, by simp, Lib.hid rfl, World.ownsRow_nil _ _ _ _, Below.refl _ _⟩
  case round =>
    obtain ⟨j, acc, av, cv, rfl, rfl, hj, hal, HA, hown, hb⟩ := hrel
    have HO := Lib.hid hown
    have HB := Lib.hid hb
    by_cases hlt : j < fs.length
    · rcases HC.out with hnil | ⟨c, off, rfl, _, hcl, hcell⟩
      · exfalso
        rw [hnil] at hlt
        simp at hlt
      · obtain ⟨p, hp⟩ : ∃ p, fs[j]? = some p := ⟨_, List.getElem?_eq_getElem hlt⟩
        have Htk : Hid (fs.take (j + 1) = fs.take j ++ [p]) := Lib.hid (by rw [List.take_add_one, hp]; rfl)
        obtain ⟨x0, x1⟩ := hcell j p hp
        have a0 := (hb.cell (p := ⟨c, off + j * 2, none⟩) hcl).trans x0
        have a1 := (hb.cell (p := ⟨c, off + j * 2 + 1, none⟩) hcl).trans x1
        have hjI : (j : Int) < (fs.length : Int) := by omega
        have hj0 : (0 : Int) ≤ (j : Int) := by omega
        have hqe := name_eq p.1 name
        have hz := hb.size
        obtain ⟨N, V⟩ := p
        dsimp only at a0 a1 hqe
        by_cases hN : N = name
        · have HN : Hid (allH (fs.take (j + 1)) name = allH (fs.take j) name ++ [V]) := Lib.hid (by rw [Htk.out, allH_snoc, if_pos hN])
          rw [decide_eq_true hN.symm] at hqe
          have hO4 := hown.alloc (.cells #[.string (strB V)] 9)
          have hnew := cell_newS wr (strB V)
          have HNew := Lib.hid hnew
          have HO4 := Lib.hid hO4
          clear hcell x0 x1 hp hb hown hN hnew hO4
          generalize strB N = SN at *
          generalize strB name = SM at *
          have HSV : Hid (rowS (acc ++ [V]) = rowS acc ++ [.string (strB V)]) := Lib.hid (rowS_snoc _ _)
          generalize strB V = SV at *
          go_wp2_with (at_builtin; refine wpList_append_own _ rfl _ _ 50 rfl w.heap.size 9 i0 (.string ⟨#[]⟩) 1 16 Tryd.underlying50 hi hz0 hz1 hz2 rfl (by decide) (.slice av acc.length cv) acc.length (rowS acc) rfl HO4.out ⟨wr.heap.size, 0, none⟩ 1 1 [.string SV] rfl rfl HNew.out (by intro u hu; simp at hu; subst hu; rfl) (by unfold maxLen; omega) (by omega) (by simp; omega) ?_; intro v' w5 hown5 hgrow5 _; obtain ⟨a5, c5, rfl⟩ := owns_formF hown5)
          go_roundw
          case rel =>
            refine ⟨j + 1, acc ++ [V], a5, c5, by rw [List.length_append]; rfl, by go_num, by omega, by simp; omega, Lib.hid (by rw [HN.out, HA.out]), by rw [List.length_append, HSV.out]; exact hown5, ?_⟩
            exact (HB.out.alloc hz _).grown hgrow5 (by simp; omega) (fun k e => (World.ownsRow.lt HO4.out k e).1)
          case measure => simp [RowKit.intOf]; omega
        · have HN : Hid (allH (fs.take (j + 1)) name = allH (fs.take j) name) := Lib.hid (by rw [Htk.out, allH_snoc, if_neg hN])
          rw [decide_eq_false (fun e => hN e.symm)] at hqe
          clear hcell x0 x1 hp hb hown hN
          generalize strB N = SN at *
          generalize strB name = SM at *
          go_wp2_with fail
          go_roundw
          case rel => exact ⟨j + 1, acc, av, cv, rfl, by go_num, by omega, by omega, Lib.hid (by rw [HN.out, HA.out]), HO.out, HB.out⟩
          case measure => simp [RowKit.intOf]; omega
    · obtain rfl : j = fs.length := by omega
      have hA := HA.out
      rw [List.take_length] at hA
      have HA2 := Lib.hid hA
      clear hA hown hb
      go_wp2_with fail
      go_ret
      exact ⟨⟨_, rfl, by rw [← HA2.out]; exact HO.out⟩, HB.out⟩

end Go.Proofs.YtgffnjdmhpfneaaDoor
