/- The document's own All of fields (sculleryref06). · The document's own Get of fields (sculleryref06). -/
import Derived.Test.YtjnagifolheloaaDoorMHdS
import Derived.Test.YtjnagifolheloaaDoorMNamP
import Derived.Laws.AppendOwn
import Derived.BigQuiet
import Derived.Deep.QuietTactic

namespace Go.Proofs.YtjnagifolheloaaDoor
open Go.RowKit Go.Shelf Go.Lib

set_option maxRecDepth 100000 in
set_option maxHeartbeats 4000000 in
theorem rall_any (lo : Nat) (v : Value) (fs : List Fld) (name : List UInt8) (w : World) (h : Flds lo w v fs) (hl : fs.length ≤ 100000) :
    Calls Tryd.prog 45 #[v, .string (strB name)] w fun e w' => (∃ u, e = .returned u ∧ w'.ownsRow w.heap.size 9 1 u (allH fs name).length (rowS (allH fs name))) ∧ Below w.heap.size w w' := by
  obtain ⟨i0, hi, hz0, hz1, hz2⟩ := info_parts info_strF
  obtain ⟨ao, cap, rfl, hc⟩ := h
  have HC := Lib.hid hc
  clear hc
  go_enter Tryd.func45, Tryd.ntmps45
  go_wp2_with fail
  go_loopw [5, 6] (fun r i wr => ∃ (j : Nat) (acc : List (List UInt8)) (av : Option Addr) (cv : Nat), r = .slice av acc.length cv ∧ i = .int .i64 j ∧ j ≤ fs.length ∧ acc.length ≤ j ∧ Hid (acc = allH (fs.take j) name) ∧ wr.ownsRow w.heap.size 9 1 (.slice av acc.length cv) acc.length (rowS acc) ∧ Below w.heap.size w wr) (fun _ i _ => fs.length - (intOf i).toNat)
  case atStart => exact ⟨0, [], none, 0, rfl, rfl, Nat.zero_le _, by simp, Lib.hid rfl, World.ownsRow_nil _ _ _ _, Below.refl _ _⟩
  case round =>
    obtain ⟨j, acc, av, cv, rfl, rfl, hj, hal, HA, hown, hb⟩ := hrel
    have HO := Lib.hid hown
    have HB := Lib.hid hb
    by_cases hlt : j < fs.length
    · rcases HC.out with hnil | ⟨c, off, rfl, _, hcl, hcell⟩
      · exfalso
        rw [hnil] at hlt
        simp at hlt
      · obtain ⟨p, hp⟩ : ∃ p, fs[j]? = some p := ⟨_, List.getElem?_eq_getElem hlt⟩
        have Htk : Hid (fs.take (j + 1) = fs.take j ++ [p]) := Lib.hid (by rw [List.take_add_one, hp] <;> rfl)
        obtain ⟨x0, x1⟩ := hcell j p hp
        have a0 := (hb.cell (p := ⟨c, off + j * 2, none⟩) hcl).trans x0
        have a1 := (hb.cell (p := ⟨c, off + j * 2 + 1, none⟩) hcl).trans x1
        have hjI : (j : Int) < (fs.length : Int) := by omega
        have hj0 : (0 : Int) ≤ (j : Int) := by omega
        have hqe := name_eq p.1 name
        have hz := hb.size
        obtain ⟨N, V⟩ := p
        dsimp only at a0 a1 hqe
        by_cases hN : N = name
        · have HN : Hid (allH (fs.take (j + 1)) name = allH (fs.take j) name ++ [V]) := Lib.hid (by rw [Htk.out, allH_snoc, if_pos hN])
          rw [decide_eq_true hN.symm] at hqe
          have hO4 := hown.alloc (.cells #[.string (strB V)] 9)
          have hnew := cell_newS wr (strB V)
          have HNew := Lib.hid hnew
          have HO4 := Lib.hid hO4
          clear hcell x0 x1 hp hb hown hN hnew hO4
          generalize strB N = SN at *
          generalize strB name = SM at *
          have HSV : Hid (rowS (acc ++ [V]) = rowS acc ++ [.string (strB V)]) := Lib.hid (rowS_snoc _ _)
          generalize strB V = SV at *
          go_wp2_with (at_builtin; refine wpList_append_own _ rfl _ _ 49 rfl w.heap.size 9 i0 (.string ⟨#[]⟩) 1 16 Tryd.underlying49 hi hz0 hz1 hz2 rfl (by decide) (.slice av acc.length cv) acc.length (rowS acc) rfl HO4.out ⟨wr.heap.size, 0, none⟩ 1 1 [.string SV] rfl rfl HNew.out (by intro u hu; simp at hu; subst hu; rfl) (by unfold maxLen; omega) (by omega) (by simp; omega) ?_; intro v' w5 hown5 hgrow5 _; obtain ⟨a5, c5, rfl⟩ := owns_formF hown5)
          go_roundw
          case rel =>
            refine ⟨j + 1, acc ++ [V], a5, c5, by rw [List.length_append] <;> rfl, by go_num, by omega, by simp; omega, Lib.hid (by rw [HN.out, HA.out]), by rewrite [List.length_append, HSV.out]; exact hown5, ?_⟩
            exact (HB.out.alloc hz _).grown hgrow5 (by simp; omega) (fun k e => (World.ownsRow.lt HO4.out k e).1)
          case measure => simp [intOf]; omega
        · have HN : Hid (allH (fs.take (j + 1)) name = allH (fs.take j) name) := Lib.hid (by rw [Htk.out, allH_snoc, if_neg hN])
          rw [decide_eq_false (fun e => hN e.symm)] at hqe
          clear hcell x0 x1 hp hb hown hN
          generalize strB N = SN at *
          generalize strB name = SM at *
          go_wp2_with fail
          go_roundw
          case rel => exact ⟨j + 1, acc, av, cv, rfl, by go_num, by omega, by omega, Lib.hid (by rw [HN.out, HA.out]), HO.out, HB.out⟩
          case measure => simp [intOf]; omega
    · obtain rfl : j = fs.length := by omega
      have hA := HA.out
      rw [List.take_length] at hA
      have HA2 := Lib.hid hA
      clear hA hown hb
      go_wp2_with fail
      go_ret
      exact ⟨⟨_, rfl, by rewrite [← HA2.out]; exact HO.out⟩, HB.out⟩

end Go.Proofs.YtjnagifolheloaaDoor

namespace Go.Proofs.YtjnagifolheloaaDoor
open Go.RowKit Go.Shelf Go.Lib

theorem tail_one (ps : List (List UInt8)) (p : List UInt8) (h : ps ≠ []) : joinH (ps ++ [p]) = joinH ps ++ [44, 32] ++ p := by
  cases ps with
  | nil => exact absurd rfl h
  | cons q r => rewrite [List.cons_append, joinH, joinH, tailH_snoc]; simp

set_option maxRecDepth 100000 in
set_option maxHeartbeats 4000000 in
theorem rget_any (lo : Nat) (v : Value) (fs : List Fld) (name : List UInt8) (w : World) (h : Flds lo w v fs) (hk : FldsOk fs) :
    Calls Tryd.prog 30 #[v, .string (strB name)] w fun e w' => e = .returned (getV fs name) ∧ Below w.heap.size w w' := by
  have cA := rall_any lo v fs name w h hk.1
  have hlen := Nat.le_trans (allH_len fs name) hk.1
  have hl : ∀ q ∈ allH fs name, q.length ≤ 100000 := fun q hq => by
    obtain ⟨p, hp, _, rfl⟩ := allH_in hq
    exact (hk.2 p hp).2
  have HL := Lib.hid hl
  have HV : Hid (getV fs name = .tuple #[.string (strB (joinH (allH fs name))), .bool (decide (0 < (allH fs name).length))]) := Lib.hid rfl
  obtain ⟨ao, cap, rfl, _⟩ := h
  generalize allH fs name = ps at *
  generalize getV fs name = V at *
  generalize strB name = N at *
  clear hl hk
  go_enter Tryd.func30, Tryd.ntmps30
  go_wp2_with fail
  refine cA.mono ?_
  rintro e w1 ⟨⟨u, rfl, hown⟩, hb1⟩
  have HO := Lib.hid hown
  have HB1 := Lib.hid hb1
  obtain ⟨a1, c1, rfl⟩ := owns_formF hown
  clear hown hb1 cA
  go_wp2_with fail
  go_loop [7, 8] (fun t i => ∃ (j : Nat) (A : ByteArray), t = .string A ∧ i = .int .i64 j ∧ j ≤ ps.length ∧ A.size ≤ j * 200000 ∧ Hid (A = strB (joinH (ps.take j)))) (fun _ i => ps.length - (intOf i).toNat)
  case atStart => exact ⟨0, ⟨#[]⟩, rfl, rfl, Nat.zero_le _, by decide, Lib.hid rfl⟩
  case round =>
    obtain ⟨j, A, rfl, rfl, hj, hal, H⟩ := hrel
    by_cases hlt : j < ps.length
    · obtain ⟨p, hp⟩ : ∃ p, ps[j]? = some p := ⟨_, List.getElem?_eq_getElem hlt⟩
      have hpl := HL.out p (List.mem_of_getElem? hp)
      obtain ⟨g, cap2, hv, hg, hglt, _⟩ := owns_sliceF HO.out (by omega)
      obtain ⟨rfl, _, rfl⟩ := Value.slice.inj hv
      have a0 := owns_cellsF HO.out j (.string (strB p)) (by rw [rowS, List.getElem?_map, hp] <;> rfl)
      have hz : (strB p).size ≤ 100000 := by rewrite [strB_size]; exact hpl
      have jI : (j : Int) < (ps.length : Int) := by omega
      have j0 : (0 : Int) ≤ (j : Int) := by omega
      by_cases h0 : j = 0
      · subst h0
        have hA : A = ⟨#[]⟩ := H.out
        have Hn : Hid (strB p = strB (joinH (ps.take 1))) := Lib.hid (by rewrite [List.take_add_one, hp]; simp [joinH, tailH])
        have hap : (⟨#[]⟩ : ByteArray) ++ strB p = strB p := by rw [show (⟨#[]⟩ : ByteArray) = strB [] from rfl, strB_append] <;> rfl
        subst hA
        have HAp := Lib.hid hap
        have s1 : ¬ 9223372036854775807 < (strB p).size := by omega
        have s2 : ¬ 9223372036854775807 < 0 + (strB p).size := by omega
        clear hap H hp hv
        generalize strB p = SP at *
        go_wp2_with fail
        rewrite [HAp.out]
        go_round
        case rel => exact ⟨1, SP, rfl, by go_num, by omega, by omega, Lib.hid Hn.out⟩
        case measure => simp [intOf]; omega
      · have d0 : (0 : Int) < (j : Int) := by omega
        have Hn : Hid (A ++ (⟨#[44, 32]⟩ : ByteArray) ++ strB p = strB (joinH (ps.take (j + 1)))) := Lib.hid (by
          have hne : ps.take j ≠ [] := fun e => by
            have := congrArg List.length e
            rw [List.length_take, List.length_nil] at this
            omega
          rw [List.take_add_one, hp, Option.toList_some, tail_one _ _ hne, H.out, show (⟨#[44, 32]⟩ : ByteArray) = strB [44, 32] from rfl, strB_append, strB_append])
        have hal2 : (A ++ (⟨#[44, 32]⟩ : ByteArray) ++ strB p).size ≤ (j + 1) * 200000 := by
          rewrite [ByteArray.size_append, ByteArray.size_append]
          have : (⟨#[44, 32]⟩ : ByteArray).size = 2 := rfl
          omega
        have s1 : ¬ 9223372036854775807 < A.size + 2 := by omega
        have s2 : ¬ 9223372036854775807 < A.size + 2 + (strB p).size := by omega
        have Hal2 := Lib.hid hal2
        clear H hp hv hal2
        generalize strB p = SP at *
        go_wp2_with fail
        go_round
        case rel => exact ⟨j + 1, _, rfl, by go_num, by omega, Hal2.out, Lib.hid Hn.out⟩
        case measure => simp [intOf]; omega
    · obtain rfl : j = ps.length := by omega
      have hH := H.out
      rw [List.take_length] at hH
      obtain ⟨b, hbb⟩ : ∃ b, decide (0 < ps.length) = b := ⟨_, rfl⟩
      have d : decide ((0 : Int) < (ps.length : Int)) = b := by rewrite [← hbb]; exact decide_eq_decide.2 (by omega)
      have HV2 : Hid (V = .tuple #[.string A, .bool b]) := Lib.hid (by rw [HV.out, hH, hbb])
      have Hbb := Lib.hid hbb
      clear hH H hbb
      go_wp2_with fail
      refine bodyPost_ret (v := .tuple #[.string A, .bool b]) (by simp [results, Tryd.results30, go_sem, Hbb.out]) rfl ⟨by rw [HV2.out], HB1.out⟩

end Go.Proofs.YtjnagifolheloaaDoor
