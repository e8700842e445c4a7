/- The contract of head.Without. · The contracts of head.lines (its value is ranged over) and of head.All. -/
import Derived.Test.YthbfcamfapgodaaGreatDoorGB
import Derived.RangeFuncBox
import Derived.RangeFuncLeaves
import Derived.Shelf.Abstract
import Derived.WalkKit
import Derived.OwnWalkIn
import Derived.TacticsInMore
import Derived.LoopNIn
import Derived.LoopIn
import Derived.Maps.AppendAt

namespace Go.Proofs.YthbfcamfapgodaaGreatDoor
open Go.RowKit Go.Maps
open Go.WideMaps (keyOf_string_mk)

theorem zeroUnit (w : World) : (zeroValue 94).run Tryz.prog w = .ok (.agg #[]) w := by kernel_rfl
theorem keyStrF : Keyed Tryz.prog 9 := string_keyed Tryz.underlying9
theorem grown_cellF {W V : World} {row : Option Nat} (hg : W.grownBy V row) {c : Nat} (hc : c < W.heap.size) (hne : some c ≠ row) (o : Nat) : V.cell? ⟨c, o, none⟩ = W.cell? ⟨c, o, none⟩ :=
  World.cell?_of_block (w := W) (a := ⟨c, o, none⟩) (hg.block c hc hne)
theorem own_neF {w : World} {base c : Nat} {e : TypeId} {size : Nat} {v : Value} {n : Nat} {xs : List Value} (h : w.ownsRow base e size v n xs) (hc : c < base) : some c ≠ v.ownBlock := by
  intro e1
  have := (World.ownsRow.lt h c e1.symm).1
  omega
set_option maxRecDepth 100000 in
set_option maxHeartbeats 4000000 in
theorem hwithout_any (lo : Nat) (v v2 : Value) (fs : List Fld) (ns : List (List UInt8)) (w : World) (h : Flds lo w v fs) (h2 : StrsF w v2 ns) (hk : FldsOk fs) (hn : ns.length ≤ 100000) (hnl : ∀ q ∈ ns, q.length ≤ maxLen) :
    Calls Tryz.prog 60 #[v, v2] w fun e w' => (∃ u, e = .returned u ∧ w'.ownsRow w.heap.size 70 2 u (withoutH fs ns).length (rowF (withoutH fs ns))) ∧ Below w.heap.size w w' := by
  obtain ⟨i0, hi, hz0, hz1, hz2⟩ := info_parts info_field
  obtain ⟨ao, cap, rfl, hc⟩ := h
  obtain ⟨ao2, cap2, rfl, hc2⟩ := h2
  have hl := hk.1
  have Hmap0 := Lib.hid (World.ownsMap_made (H := Unit) w Tryz.prog 9 unitElem)
  have HB0 : Hid (Below w.heap.size w (w.alloc (.map #[] 0))) := Lib.hid ((Below.refl _ _).alloc (Nat.le_refl _) _)
  have hmm := @run_makeMap Tryz.prog
  have HK := Lib.hid hk
  have HC := Lib.hid hc
  have HC2 := Lib.hid hc2
  have HNL := Lib.hid hnl
  clear hk hc hc2 hnl
  go_enter Tryz.func60, Tryz.ntmps60
  go_wp2_with fail
  clear hmm
  go_loopw [16] (fun i wr => ∃ (j : Nat) (D : DataW Unit), i = .int .i64 j ∧ j ≤ ns.length ∧ wr.ownsMap Tryz.prog 9 unitElem w.heap.size j D ∧ Hid (KsetF D (ns.take j)) ∧ Below w.heap.size w wr) (fun i _ => ns.length - (intOf i).toNat)
  case atStart => exact ⟨0, .map [], rfl, Nat.zero_le _, Hmap0.out, Lib.hid ksetF_none, HB0.out⟩
  case round =>
    obtain ⟨j, D, rfl, hj, hmap, HD, hb⟩ := hrel
    clear Hmap0 HB0
    by_cases hlt : j < ns.length
    · rcases HC2.out with hnil | ⟨c, off, rfl, hcl, hcell⟩
      · exfalso
        rw [hnil] at hlt
        simp at hlt
      · obtain ⟨p, hp⟩ : ∃ p, ns[j]? = some p := ⟨_, List.getElem?_eq_getElem hlt⟩
        have a0 := (hb.cell (p := ⟨c, off + j, none⟩) hcl).trans (hcell j p hp)
        have hkl := HNL.out p (List.mem_of_getElem? hp)
        have Hkey : Hid (keyOf Tryz.prog 9 (.string (strB p)) = some (.string p)) := Lib.hid (keyOf_string_mk Tryz.underlying9 (by rewrite [strB_size]; exact hkl))
        have Htk : Hid (ns.take (j + 1) = ns.take j ++ [p]) := Lib.hid (by rw [List.take_add_one, hp] <;> rfl)
        have HB := Lib.hid hb
        have HM := Lib.hid hmap
        clear hcell hp hb hmap hkl
        go_wp2_with (at_mapUpdate; refine wpList_mapUpdate_own _ rfl _ _ _ 93 rfl 9 _ keyStrF Tryz.underlying93 _ w.heap.size j _ rfl HM.out (by unfold maxLen; omega) _ _ _ rfl rfl Hkey.out _ [] (unitElem_mk (H := Unit)) ?_; intro w4 hmap4 hgrow4)
        go_roundw
        case rel =>
          refine ⟨j + 1, D.put (.string p) (.agg []), by go_num, by omega, hmap4, Lib.hid ?_, ?_⟩
          · rewrite [Htk.out]; exact ksetF_put HD.out _ _
          · exact HB.out.grown hgrow4 HB.out.size (fun k e => by cases e; exact Nat.le_refl _)
        case measure => simp [intOf]; omega
    · obtain rfl : j = ns.length := by omega
      have hks := HD.out
      rw [List.take_length] at hks
      have Hmap := Lib.hid hmap
      have HKS := Lib.hid hks.2.1
      have HB := Lib.hid hb
      clear hks hmap hb HD
      rename World => W1
      go_wp2_with fail
      go_loopw [8, 26] (fun r i wr => ∃ (j : Nat) (acc : List Fld) (av : Option Addr) (cv : Nat), r = .slice av acc.length cv ∧ i = .int .i64 j ∧ j ≤ fs.length ∧ acc.length ≤ j ∧ Hid (acc = withoutH (fs.take j) ns) ∧ wr.ownsRow (w.heap.size + 1) 70 2 (.slice av acc.length cv) acc.length (rowF acc) ∧ wr.ownsMap Tryz.prog 9 unitElem w.heap.size ns.length D ∧ Below w.heap.size w wr) (fun _ i _ => fs.length - (intOf i).toNat)
      case atStart => exact ⟨0, [], none, 0, rfl, rfl, Nat.zero_le _, by simp, Lib.hid rfl, World.ownsRow_nil _ _ _ _, Hmap.out, HB.out⟩
      case round =>
        obtain ⟨k, acc, av, cv, rfl, rfl, hkl, hal, HA, hown, hmap, hb⟩ := hrel
        clear Hmap HB
        by_cases hlt2 : k < fs.length
        · rcases HC.out with hnil | ⟨c, off, rfl, _, hcl, hcell⟩
          · exfalso
            rw [hnil] at hlt2
            simp at hlt2
          · obtain ⟨p, hp⟩ : ∃ p, fs[k]? = some p := ⟨_, List.getElem?_eq_getElem hlt2⟩
            have Htk : Hid (fs.take (k + 1) = fs.take k ++ [p]) := Lib.hid (by rw [List.take_add_one, hp] <;> rfl)
            obtain ⟨x0, x1⟩ := hcell k p hp
            have a0 := (hb.cell (p := ⟨c, off + k * 2, none⟩) hcl).trans x0
            have a1 := (hb.cell (p := ⟨c, off + k * 2 + 1, none⟩) hcl).trans x1
            have hpl := (HK.out.2 p (List.mem_of_getElem? hp)).1
            have Hkey : Hid (keyOf Tryz.prog 9 (.string (strB p.1)) = some (.string p.1)) := Lib.hid (keyOf_string_mk Tryz.underlying9 (by rewrite [strB_size]; unfold maxLen; omega))
            have hhas := HKS.out p.1
            have hb1 := hb.alloc hb.size (.cells #[.string (strB p.1), .string (strB p.2)] 70)
            have HM1 := Lib.hid (hmap.alloc (.cells #[.string (strB p.1), .string (strB p.2)] 70))
            have HO := Lib.hid hown
            have HMp := Lib.hid hmap
            have HB := Lib.hid hb
            have hml : w.heap.size < wr.heap.size := hmap.lt
            by_cases hmem : p.1 ∈ ns
            · rw [decide_eq_true hmem] at hhas
              have HH := Lib.hid hhas
              have HN : Hid (withoutH (fs.take (k + 1)) ns = withoutH (fs.take k) ns) := Lib.hid (by rewrite [Htk.out]; exact withoutH_yes _ _ _ hmem)
              clear hcell x0 x1 hp hb hown hmap hb1 hhas hpl hmem
              go_wp2_with (at_lookup; refine wpList_lookup_own_unit _ rfl _ _ 93 rfl 9 94 keyStrF Tryz.underlying93 (zeroUnit _) w.heap.size ns.length D rfl HM1.out _ _ rfl Hkey.out ?_; rw [HH.out])
              go_roundw
              case rel =>
                exact ⟨k + 1, acc, av, cv, rfl, by go_num, by omega, by omega, Lib.hid (by rewrite [HN.out]; exact HA.out), (HO.out.alloc _).alloc _, (HMp.out.alloc _).alloc _, (HB.out.alloc HB.out.size _).alloc (by simp; omega) _⟩
              case measure => simp [intOf]; omega
            · rw [decide_eq_false hmem] at hhas
              have HH := Lib.hid hhas
              have HN : Hid (withoutH (fs.take (k + 1)) ns = withoutH (fs.take k) ns ++ [p]) := Lib.hid (by rewrite [Htk.out]; exact withoutH_no _ _ _ hmem)
              have hnew := cells_newF ((wr.alloc (.cells #[.string (strB p.1), .string (strB p.2)] 70)).alloc (.cells #[] 94)) (cellsF p) 70
              rw [show ((wr.alloc (.cells #[.string (strB p.1), .string (strB p.2)] 70)).alloc (.cells #[] 94)).heap.size = wr.heap.size + 2 by simp] at hnew
              have HNew := Lib.hid hnew
              clear hnew
              clear hcell x0 x1 hp hb hown hmap hb1 hhas hpl hmem
              go_wp2_with (first | (at_lookup; refine wpList_lookup_own_unit _ rfl _ _ 93 rfl 9 94 keyStrF Tryz.underlying93 (zeroUnit _) w.heap.size ns.length D rfl HM1.out _ _ rfl Hkey.out ?_; rw [HH.out]) | (at_builtin; refine wpList_append_own _ rfl _ _ 23 rfl (w.heap.size + 1) 70 i0 (.agg #[.string ⟨#[]⟩, .string ⟨#[]⟩]) 2 32 Tryz.underlying23 hi hz0 hz1 hz2 rfl (by decide) (.slice av acc.length cv) acc.length (rowF acc) rfl (((HO.out.alloc _).alloc _).alloc _) ⟨wr.heap.size + 2, 0, none⟩ 1 1 (cellsF p) rfl rfl HNew.out (by simp [Value.oneCell', cellsF]) (by unfold maxLen; omega) (by omega) (by simp; omega) ?_; intro v' w5 hown5 hgrow5 _; obtain ⟨a5, c5, rfl⟩ := owns_formF hown5))
              go_roundw
              case rel =>
                refine ⟨k + 1, acc ++ [p], a5, c5, by rw [List.length_append] <;> rfl, by go_num, by omega, by simp; omega, Lib.hid (by rw [HN.out, HA.out]), by rewrite [List.length_append, rowF_snoc]; exact hown5, ?_, ?_⟩
                · exact (((HMp.out.alloc _).alloc _).alloc _).kept hgrow5 (own_neF HO.out (Nat.lt_succ_self _))
                · exact (((HB.out.alloc HB.out.size _).alloc (by simp; omega) _).alloc (by simp; omega) _).grown hgrow5 (by simp; omega) (fun k e => by have := (World.ownsRow.lt HO.out k e).1; omega)
              case measure => simp [intOf]; omega
        · obtain rfl : k = fs.length := by omega
          have HR : Hid (acc = withoutH fs ns) := Lib.hid (by have := HA.out; rwa [List.take_length] at this)
          have HO := Lib.hid (ownsRow_lowF hown (Nat.le_succ w.heap.size))
          have HB := Lib.hid hb
          clear hown hmap hb HA
          go_wp2_with fail
          go_ret
          refine ⟨⟨_, rfl, ?_⟩, HB.out⟩
          rewrite [← HR.out]
          exact HO.out

end Go.Proofs.YthbfcamfapgodaaGreatDoor

namespace Go.Proofs.YthbfcamfapgodaaGreatDoor
open Go.RowKit Go.Shelf

attribute [local go_sem] Oper.semAt_some

/-- What a round keeps: all blocks ahead of one, but for one. -/
def KpB (hi ex : Nat) (A B : World) : Prop := A.heap.size ≤ B.heap.size ∧ ∀ b, b < hi → b ≠ ex → B.heap[b]? = A.heap[b]?
theorem KpB.refl (hi ex : Nat) (A : World) : KpB hi ex A A := ⟨Nat.le_refl _, fun _ _ _ => rfl⟩
theorem KpB.trans {hi ex : Nat} {A B C : World} (h : KpB hi ex A B) (k : KpB hi ex B C) : KpB hi ex A C := ⟨Nat.le_trans h.1 k.1, fun b h1 h2 => (k.2 b h1 h2).trans (h.2 b h1 h2)⟩
theorem KpB.cell {hi ex : Nat} {A B : World} (h : KpB hi ex A B) {b o : Nat} (h1 : b < hi) (h2 : b ≠ ex) : B.cell? ⟨b, o, none⟩ = A.cell? ⟨b, o, none⟩ := World.cell?_of_block (w := A) (a := ⟨b, o, none⟩) (h.2 b h1 h2)
theorem KpB.alloc {hi ex : Nat} (A : World) (o : Obj) (hh : hi ≤ A.heap.size) : KpB hi ex A (A.alloc o) := ⟨by simp, fun b h1 _ => by
  have := Below.heap_alloc A o b (Nat.lt_of_lt_of_le h1 hh)
  exact this⟩
theorem KpB.put {hi ex : Nat} {w : World} (hh : hi ≤ w.heap.size) (W : World) (l : Nat) (o o' : Obj) (hl : w.heap.size ≤ l) (h : W.heap[l]? = some o) (_ : o.isCells = false) (_ : o.isWalk = false) : KpB hi ex W (W.putObj l o') :=
  ⟨(grownBy_putObj' W l o').size, fun b h1 _ => (grownBy_putObj' W l o').block b (by have := (Array.getElem?_eq_some_iff.1 h).1; omega) (fun e => by have := Option.some.inj e; omega)⟩

set_option maxRecDepth 100000 in
set_option maxHeartbeats 4000000 in
theorem lines1_in (F : Fence) (n : Nat) (hF : F.fn 101) (hro : F.round = none) (hn : 1 ≤ n) (l Bl Bn hi ex : Nat) (ao : Option Addr) (cap : Nat) (fs : List Fld) (name : List UInt8) (hl : fs.length ≤ 100000)
    (_ : Bl < hi) (hBn : Bn < hi) (hBx : Bn ≠ ex) (J Jx : List (List UInt8) → World → Prop)
    (hY : ∀ pre x W, J pre W → pre.length < fs.length → YieldAt F (n - 1) Tryz.prog l #[.string (strB x)] W fun e W' =>
      (e = .returned (.bool true) ∧ J (pre ++ [x]) W' ∧ KpB hi ex W W') ∨ (e = .returned (.bool false) ∧ Jx (pre ++ [x]) W'))
    (W : World) (hhi : hi ≤ W.heap.size) (hJ : AbidesFrom W.heap.size J) (h1 : W.cell? ⟨Bl, 0, none⟩ = some (.slice ao fs.length cap)) (h2 : W.cell? ⟨Bn, 0, none⟩ = some (.string (strB name)))
    (hc : fs = [] ∨ ∃ b off, ao = some ⟨b, off, none⟩ ∧ b < hi ∧ b ≠ ex ∧ ∀ j p, fs[j]? = some p → W.cell? ⟨b, off + j * 2, none⟩ = some (.string (strB p.1)) ∧ W.cell? ⟨b, off + j * 2 + 1, none⟩ = some (.string (strB p.2))) (h0 : J [] W) :
    CallsIn F n Tryz.prog 101 #[.func (.yield l) #[] #[], .pointer (some ⟨Bl, 0, none⟩), .pointer (some ⟨Bn, 0, none⟩)] W fun e W' => (∃ v, e = .returned v) ∧
      ((∃ ys, ys = allH fs name ∧ J ys W') ∨ (∃ pre, pre <+: allH fs name ∧ Jx pre W')) := by
  have HC := Lib.hid hc
  have H2 := Lib.hid h2
  clear hc h2
  refine callsIn_of_wp Tryz.func101 rfl hF ?_ hro
  simp only [Tryz.ntmps101, List.size_toArray, List.length_cons, List.length_nil, Nat.reduceAdd, Nat.reduceSub, Array.replicate_succ, Array.replicate_zero, List.push_toArray, List.append_toArray, List.nil_append, List.cons_append]
  gi_wp2
  gi_loopw [8] (fun i wr => ∃ k : Nat, k ≤ fs.length ∧ i = .int .i64 k ∧ J (allH (fs.take k) name) wr ∧ KpB hi ex W wr) (fun i _ => fs.length - (intOf i).toNat)
  case atStart => exact ⟨0, Nat.zero_le _, rfl, h0, KpB.refl _ _ _⟩
  case round =>
    obtain ⟨k, hk, rfl, hJs, hkp⟩ := hrel
    have HKP := Lib.hid hkp
    by_cases hlt : k < fs.length
    · rcases HC.out with hnil | ⟨c, off, rfl, hcl, hcx, hcell⟩
      · exfalso
        rw [hnil] at hlt
        simp at hlt
      · obtain ⟨p, hp⟩ : ∃ p, fs[k]? = some p := ⟨_, List.getElem?_eq_getElem hlt⟩
        have Htk : Hid (fs.take (k + 1) = fs.take k ++ [p]) := Lib.hid (by rw [List.take_add_one, hp] <;> rfl)
        obtain ⟨x0, x1⟩ := hcell k p hp
        have a0 := (hkp.cell (o := off + k * 2) hcl hcx).trans x0
        have a1 := (hkp.cell (o := off + k * 2 + 1) hcl hcx).trans x1
        have a2 := (hkp.cell (o := 0) hBn hBx).trans H2.out
        have hkI : (k : Int) < (fs.length : Int) := by omega
        have hws := hkp.1
        have hla : (allH (fs.take k) name).length < fs.length := by
          have := allH_len (fs.take k) name
          rw [List.length_take] at this
          omega
        have hJ2 := hJ _ wr (wr.alloc (.cells #[.string (strB p.1), .string (strB p.2)] 70)) none hJs (World.grownBy_alloc wr _ none) (fun r e => by cases e)
        have hkp2 := hkp.trans (KpB.alloc (ex := ex) wr (.cells #[.string (strB p.1), .string (strB p.2)] 70) (by omega))
        have HKP2 := Lib.hid hkp2
        have a3 := (hkp2.cell (o := 0) hBn hBx).trans H2.out
        obtain ⟨pn, pv⟩ := p
        dsimp only at *
        by_cases hq : pn = name
        · subst hq
          obtain ⟨fn, tmps, assign, body, hy, hR⟩ := hY _ pv _ hJ2 hla
          have HA : Hid (allH (fs.take (k + 1)) pn = allH (fs.take k) pn ++ [pv]) := Lib.hid (by rewrite [Htk.out]; exact allH_yes _ _ _ rfl)
          clear hcell x0 x1 hp hkp hkp2 hJ2 hJs
          gi_wp2
          refine hR.mono ?_
          rintro e W3 (⟨rfl, hJ3, hk3⟩ | ⟨rfl, hJx3⟩)
          · gi_wp2
            go_roundw
            case rel => exact ⟨k + 1, by omega, by go_num, by rewrite [HA.out]; exact hJ3, HKP2.out.trans hk3⟩
            case measure => simp [intOf]; omega
          · gi_wp2
            refine bodyPost_ret (results_none rfl _ _ _) rfl ?_
            exact ⟨⟨_, rfl⟩, .inr ⟨_, by rewrite [← HA.out]; exact allH_take _ _ _, hJx3⟩⟩
        · have HA : Hid (allH (fs.take (k + 1)) name = allH (fs.take k) name) := Lib.hid (by rewrite [Htk.out]; exact allH_no _ _ _ hq)
          have q1 : ¬ (strB pn).toList = (strB name).toList := by
            rewrite [Lib.toList_data, Lib.toList_data, strB_data, strB_data]
            exact hq
          have q2 : ((strB pn).toList == (strB name).toList) = false := by simpa using q1
          have HJ := Lib.hid hJ2
          clear hcell x0 x1 hp hkp hkp2 hJ2 hJs hq
          gi_wp2
          refine ⟨fun _ h => (by cases h), ?_⟩
          gi_wp2
          go_roundw
          case rel => exact ⟨k + 1, by omega, by go_num, by rewrite [HA.out]; exact HJ.out, HKP2.out⟩
          case measure => simp [intOf]; omega
    · obtain rfl : k = fs.length := by omega
      have hj : J (allH fs name) wr := by rwa [List.take_length] at hJs
      clear hJs hkp
      gi_wp2
      go_end0
      exact ⟨⟨_, rfl⟩, .inl ⟨_, rfl, hj⟩⟩

set_option maxHeartbeats 1000000 in
theorem lines_in (F : Fence) (n : Nat) (hF : F.fn 79) (hro : F.round = none) (ao : Option Addr) (len cap : Nat) (name : ByteArray) (w : World) :
    CallsIn F n Tryz.prog 79 #[.slice ao len cap, .string name] w fun e w' => e = .returned (.func (.func 101) #[] #[.pointer (some ⟨w.heap.size, 0, none⟩), .pointer (some ⟨w.heap.size + 1, 0, none⟩)]) ∧ w' = (w.alloc (.cells #[.slice ao len cap] 23)).alloc (.cells #[.string name] 9) := by
  refine callsIn_of_wp Tryz.func79 rfl hF ?_ hro
  simp only [Tryz.ntmps79, List.size_toArray, List.length_cons, List.length_nil, Nat.reduceAdd, Nat.reduceSub, Array.replicate_succ, Array.replicate_zero, List.push_toArray, List.append_toArray, List.nil_append, List.cons_append]
  gi_wp2
  go_ret
  exact ⟨by simp, rfl⟩

theorem lines_stops (F : Fence) (n : Nat) (hF : F.fn 101) (hro : F.round = none) (hn : 1 ≤ n) (Bl Bn hi ex : Nat) (ao : Option Addr) (cap : Nat) (fs : List Fld) (name : List UInt8) (hl : fs.length ≤ 100000) (hBl : Bl < hi) (hBn : Bn < hi) (hBx : Bn ≠ ex) (w : World) (hhi : hi ≤ w.heap.size)
    (h1 : w.cell? ⟨Bl, 0, none⟩ = some (.slice ao fs.length cap)) (h2 : w.cell? ⟨Bn, 0, none⟩ = some (.string (strB name)))
    (hc : fs = [] ∨ ∃ b off, ao = some ⟨b, off, none⟩ ∧ b < hi ∧ b ≠ ex ∧ ∀ j p, fs[j]? = some p → w.cell? ⟨b, off + j * 2, none⟩ = some (.string (strB p.1)) ∧ w.cell? ⟨b, off + j * 2 + 1, none⟩ = some (.string (strB p.2))) :
    SeqStopsK F n Tryz.prog 101 #[.pointer (some ⟨Bl, 0, none⟩), .pointer (some ⟨Bn, 0, none⟩)] (fun x : List UInt8 => #[Value.string (strB x)]) (KpB hi ex) (fun ys => ys = allH fs name) (fun pre => pre <+: allH fs name) fs.length w := fun l J Jx W hW hJ _ hY h0 => by
  refine lines1_in F n hF hro hn l Bl Bn hi ex ao cap fs name hl hBl hBn hBx J Jx hY W (Nat.le_trans hhi hW.size) hJ ((hW.cell (p := ⟨Bl, 0, none⟩) (Nat.lt_of_lt_of_le hBl hhi)).trans h1) ((hW.cell (p := ⟨Bn, 0, none⟩) (Nat.lt_of_lt_of_le hBn hhi)).trans h2) ?_ h0
  rcases hc with hc | ⟨b, off, e1, e2, e3, e4⟩
  · exact .inl hc
  · exact .inr ⟨b, off, e1, e2, e3, fun j p hp => ⟨(hW.cell (p := ⟨b, off + j * 2, none⟩) (Nat.lt_of_lt_of_le e2 hhi)).trans (e4 j p hp).1, (hW.cell (p := ⟨b, off + j * 2 + 1, none⟩) (Nat.lt_of_lt_of_le e2 hhi)).trans (e4 j p hp).2⟩⟩

set_option maxRecDepth 100000 in
set_option maxHeartbeats 4000000 in
theorem all_in (F : Fence) (n : Nat) (hA : F.fn 56) (hL : F.fn 79) (hL1 : F.fn 101) (hro : F.round = none) (hn : 3 ≤ n) (lo : Nat) (v : Value) (fs : List Fld) (name : List UInt8) (w : World) (h : Flds lo w v fs) (hl : fs.length ≤ 100000) :
    CallsIn F n Tryz.prog 56 #[v, .string (strB name)] w fun e w' => (∃ u, e = .returned u ∧ w'.ownsRow w.heap.size 9 1 u (allH fs name).length (rowS (allH fs name))) ∧ Below w.heap.size w w' := by
  obtain ⟨i0, hi, hz0, hz1, hz2⟩ := info_parts info_strF
  obtain ⟨ao, cap, rfl, hc⟩ := h
  have h1 : 1 ≤ n := by omega
  refine callsIn_of_wp_marks Tryz.func56 rfl hA ?_ hro
  simp only [Tryz.ntmps56, List.size_toArray, List.length_cons, List.length_nil, Nat.reduceAdd, Nat.reduceSub, Array.replicate_succ, Array.replicate_zero, List.push_toArray, List.append_toArray, List.nil_append, List.cons_append]
  gi_wp2_with (gi_at_call 79; refine (lines_in F (n - 1) hL hro _ _ _ _ _).mono ?_; rintro e w' ⟨rfl, rfl⟩)
  have bO := Boxed.new w 62 (.slice none 0 0)
  have bL := Boxed.new (w.alloc (.cells #[.slice none 0 0] 62)) 23 (.slice ao fs.length cap)
  have bN := Boxed.new ((w.alloc (.cells #[.slice none 0 0] 62)).alloc (.cells #[.slice ao fs.length cap] 23)) 9 (.string (strB name))
  have bL2 := bL.alloc (.cells #[.string (strB name)] 9)
  have bO2 := (bO.alloc (.cells #[.slice ao fs.length cap] 23)).alloc (.cells #[.string (strB name)] 9)
  simp only [World.size_alloc] at bL2 bN
  have hB0 : Below w.heap.size w (((w.alloc (.cells #[.slice none 0 0] 62)).alloc (.cells #[.slice ao fs.length cap] 23)).alloc (.cells #[.string (strB name)] 9)) := (((Below.refl _ w).alloc (Nat.le_refl _) _).alloc (by simp) _).alloc (by simp; omega) _
  have hc2 : fs = [] ∨ ∃ b off, ao = some ⟨b, off, none⟩ ∧ b < w.heap.size + 3 ∧ b ≠ w.heap.size ∧ ∀ j p, fs[j]? = some p → (((w.alloc (.cells #[.slice none 0 0] 62)).alloc (.cells #[.slice ao fs.length cap] 23)).alloc (.cells #[.string (strB name)] 9)).cell? ⟨b, off + j * 2, none⟩ = some (.string (strB p.1)) ∧ (((w.alloc (.cells #[.slice none 0 0] 62)).alloc (.cells #[.slice ao fs.length cap] 23)).alloc (.cells #[.string (strB name)] 9)).cell? ⟨b, off + j * 2 + 1, none⟩ = some (.string (strB p.2)) := by
    rcases hc with hc | ⟨b, off, e1, _, e2, e3⟩
    · exact .inl hc
    · exact .inr ⟨b, off, e1, by omega, by omega, fun j p hp => ⟨(hB0.cell (p := ⟨b, off + j * 2, none⟩) e2).trans (e3 j p hp).1, (hB0.cell (p := ⟨b, off + j * 2 + 1, none⟩) e2).trans (e3 j p hp).2⟩⟩
  obtain ⟨W0, hW0⟩ : ∃ W0, (((w.alloc (.cells #[.slice none 0 0] 62)).alloc (.cells #[.slice ao fs.length cap] 23)).alloc (.cells #[.string (strB name)] 9)) = W0 := ⟨_, rfl⟩
  have hsz : W0.heap.size = w.heap.size + 3 := by rewrite [← hW0]; simp
  rw [hW0] at bN bL2 bO2 hB0 hc2 ⊢
  clear hc bO bL
  refine wpIn_rangeFunc_ownG hro h1 (gf := 101) (lb := #[.pointer (some ⟨w.heap.size + 1, 0, none⟩), .pointer (some ⟨w.heap.size + 2, 0, none⟩)]) rfl hL1 (enters_of Tryz.func101 (by kernel_rfl) rfl)
    (lines_stops F (n - 1) hL1 hro (by omega) (w.heap.size + 1) (w.heap.size + 2) (w.heap.size + 3) w.heap.size ao cap fs name hl (by omega) (by omega) (by omega) W0 (by omega) bL2.cell bN.cell hc2) KpB.trans (KpB.put (by omega)) (Below.refl _ _) (fun _ => rfl)
    (fun pre W => ((∃ v, Boxed W w.heap.size 62 v ∧ W.ownsRow (w.heap.size + 3) 9 1 v pre.length (rowS pre) ∧ True) ∧ Below w.heap.size w W) ∧ w.heap.size + 3 ≤ W.heap.size)
    (fun _ _ _ => False)
    (OwnFrom.and (OwnFrom.and (Own.from (holdsRow_own (w.heap.size + 3) w.heap.size 62 9 1 (fun pre : List (List UInt8) => pre.length) (fun pre => rowS pre) (fun _ _ => True)) _) (ownFrom_below (Nat.le_refl _) (by omega))) (fun s A B row hs hg _ => Nat.le_trans hs hg.size))
    (fun _ _ _ _ _ hs _ _ => hs)
    ⟨⟨⟨_, bO2, World.ownsRow_nil _ _ _ _, trivial⟩, hB0⟩, by omega⟩
    (fun x => { tmps := #[.slice ao fs.length cap, .string (strB name), undef, undef, .slice none 0 0, .pointer (some ⟨w.heap.size, 0, none⟩), .string (strB x), .slice ao fs.length cap, .string (strB name), .func (.func 101) #[] #[.pointer (some ⟨w.heap.size + 1, 0, none⟩), .pointer (some ⟨w.heap.size + 2, 0, none⟩)], .string (strB x), undef, undef, undef, undef, undef], defers := [] }) ?assign ?body ?done ?stop
  case assign =>
    intro l x W K hK
    gi_wp2
    exact hK
  case body =>
    rintro l pre x W ⟨⟨⟨v, hv, hrow, _⟩, hB⟩, hws⟩ hlt
    have hc := hv.cell
    gi_wp2_with (gi_at_builtin; refine wpListIn_append_own _ rfl _ _ 62 rfl (w.heap.size + 3) 9 i0 (.string ⟨#[]⟩) 1 16 Tryz.underlying62 hi hz0 hz1 hz2 rfl (by decide) _ _ _ rfl (hrow.alloc _) ⟨W.heap.size, 0, none⟩ 1 1 [.string (strB x)] rfl rfl (cell_one_new _ _ _) (by simp [Value.oneCell']) (by unfold maxLen; omega) (by omega) (by simp; omega) ?_; intro v' w1 hown' hgrow _; obtain ⟨g', cap', rfl⟩ := ownsRow_succ hown'; obtain ⟨hv1, hv2, hr2, hk2, hb2⟩ := hv.appended (by decide) (ownsRow_lowF hrow (show w.heap.size ≤ w.heap.size + 3 by omega)) (by omega) (Nat.le_refl _) (ownsRow_lowF hown' (show w.heap.size ≤ w.heap.size + 3 by omega)) hgrow; have hc1 := hv1.cell; have hf1 := hv1.frozen)
    have hr3 := hown'.kept (grownBy_setCell' w1 w.heap.size (.slice (some ⟨g', 0, none⟩) (pre.length + 1) cap')) (.inr (hv1.not_row (by decide) hown').symm)
    refine ⟨hk2.from _, ⟨hb2.size, fun b hb1 hbx => ?_⟩, ⟨⟨_, hv2, by rewrite [List.length_append, rowS, List.map_append]; exact hr3, trivial⟩, hB.trans hb2⟩, Nat.le_trans hws hb2.size⟩
    have e1 := Below.heap_setCell w1 ⟨w.heap.size, 0, none⟩ (.slice (some ⟨g', 0, none⟩) (pre.length + 1) cap') b hbx
    have e2 := hgrow.block b (by simp; omega) (fun e => by have := (World.ownsRow.lt hrow b e.symm).1; omega)
    have e3 := Below.heap_alloc W (.cells #[.string (strB x)] 9) b (by omega)
    exact e1.trans (e2.trans e3)
  case done =>
    rintro D ys W hD rfl ⟨⟨⟨v, hv, hrow, _⟩, hB⟩, _⟩ hK
    have hc := hv.cell
    gi_wp2
    refine ⟨by simp, .inl ⟨_, _, rfl, run_takeDeferred hK, ?_⟩⟩
    exact ⟨_, results_tmp rfl _ _ _, ⟨v, rfl, ownsRow_lowF (ownsRow_putObj hrow _ hK rfl) (by omega)⟩, hB.trans (belowK_b (w := w) (Nat.le_refl _) W D _ _ (by omega) hK rfl rfl)⟩
  case stop =>
    rintro D c pre W _ _ h _
    exact h.elim

theorem hall_any (lo : Nat) (v : Value) (fs : List Fld) (name : List UInt8) (w : World) (h : Flds lo w v fs) (hl : fs.length ≤ 100000) :
    Calls Tryz.prog 56 #[v, .string (strB name)] w fun e w' => (∃ u, e = .returned u ∧ w'.ownsRow w.heap.size 9 1 u (allH fs name).length (rowS (allH fs name))) ∧ Below w.heap.size w w' :=
  callsIn_wide.1 (all_in Fence.wide 3 trivial trivial trivial rfl (Nat.le_refl _) lo v fs name w h hl)

end Go.Proofs.YthbfcamfapgodaaGreatDoor
