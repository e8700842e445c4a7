/- The contract of bare.Decode. -/
import Derived.Test.YtcjnigmklijjiaaDoorRawP
import Derived.Laws.MakeOwn
import Derived.StillTailTactics
import Derived.IntWalk
namespace Go.Proofs.YtcjnigmklijjiaaDoor
open Go.RowKit

def decV (o : Option (List UInt8)) : Value := match o with
  | some b => .tuple #[.string (strB b), .int .i64 0]
  | none => .tuple #[.string (strB []), .int .i64 2]

theorem wrap_quo (j o : Nat) (h : j < 1000000) (ho : (j : Int) / 4 * 3 = (o : Int)) : IntKind.i64.wrap (IntKind.i64.wrap ((j : Int) / 4) * 3) = (o : Int) := by
  have h1 : IntKind.i64.wrap ((j : Int) / 4) = (j : Int) / 4 := IntWalk.i64_in _ (by omega)
  rw [h1, ho]
  exact IntWalk.i64_in _ (by omega)

theorem splice_map (cur l : List UInt8) (o : Nat) : splice (cur.map u8V) o (l.map u8V) = (splice cur o l).map u8V := by
  simp [splice, List.map_take, List.map_drop]

set_option maxRecDepth 100000 in
set_option maxHeartbeats 4000000 in
theorem decode_any (s : ByteArray) (w : World) (hs : s.size ≤ 100000) (hA : Alph w) :
    Calls Tryd.prog 85 #[.string s] w fun e w' => e = .returned (decV (decL s.data.toList)) ∧ Below w.heap.size w w' := by
  have HA := Lib.hid hA
  clear hA
  have Hz := Lib.hid size_u8
  have cT := Tryd.strings_TrimRight_one s 61 (by decide) w (by omega)
  obtain ⟨t, ht⟩ : ∃ t : ByteArray, t = ⟨(Lib.trimRightB s.data.toList 61).toArray⟩ := ⟨_, rfl⟩
  rw [← ht] at cT
  have Ht : Hid (t.data.toList = Lib.trimRightB s.data.toList 61) := Lib.hid (by rw [ht])
  have hts : t.size ≤ 100000 := by
    have := trimRightB_le s.data.toList 61
    rw [← Lib.size_eq] at this
    rw [Lib.size_eq, Ht.out]
    omega
  clear ht
  have HN : Hid ((t.size : Int) * 3 / 4 = ((t.size * 3 / 4 : Nat) : Int)) := Lib.hid (by omega)
  obtain ⟨N, hN⟩ : ∃ N, t.size * 3 / 4 = N := ⟨_, rfl⟩
  rw [hN] at HN
  have hN2 : N ≤ 100000 := by omega
  have HN2 := Lib.hid hN
  clear hN
  obtain ⟨i0, hi, hz0, hz1, hz2⟩ := info_parts info_u8
  have hmk := run_makeSlice (P := Tryd.prog) w 59 5 i0 (.int .u8 0) Tryd.underlying59 hi hz0 .i64 .i64 (N : Int) (N : Int) (by omega) (by omega) (by rw [hz1]; omega) (by rw [hz2]; omega) (by omega)
  rw [hz1, Int.toNat_natCast, Nat.mul_one] at hmk
  obtain ⟨M, hM⟩ : ∃ M, madeCells (Value.int .u8 0).cells N = M := ⟨_, rfl⟩
  rw [hM] at hmk
  have HM : Hid (M = ((List.replicate N (0 : UInt8)).map u8V).toArray) := Lib.hid (by
    rw [← hM]
    apply Array.ext
    · simp [madeCells]
    · intro i h1 h2
      simp [madeCells, u8V, Value.cells, Nat.mod_one])
  have hb0 : Below w.heap.size w (w.alloc (.cells M 5)) := (Below.refl _ _).alloc (Nat.le_refl _) _
  have hg0 := heap_alloc_new w (.cells M 5)
  have Hg0 : Hid ((w.alloc (.cells M 5)).heap[w.heap.size]? = some (.cells ((List.replicate N (0 : UInt8)).map u8V).toArray 5 (0, 0))) := Lib.hid (by rw [hg0, HM.out])
  clear hM hg0 HM hi hz0 hz1 hz2
  have hq := HN.out
  replace cT := cT.mono (R' := fun e w' => e = .returned (.string t) ∧ w = w') (fun e w' h => ⟨h.1, h.2.symm⟩)
  go_enter Tryd.func85, Tryd.ntmps85
  go_wp2_with (go_at_call 45; refine cT.mono ?_; rintro e w' ⟨rfl, rfl⟩)
  go_loopw [6] (fun i wr => ∃ (j k : Nat) (cur : List UInt8), i = .int .i64 j ∧ Hid (j = 4 * k ∧ Filled t.data.toList k cur ∧ wr.heap[w.heap.size]? = some (.cells (cur.map u8V).toArray 5 (0, 0))) ∧ j ≤ t.size + 4 ∧ Below w.heap.size w wr) (fun i _ => t.size - (intOf i).toNat)
  case atStart =>
    refine ⟨0, 0, _, rfl, Lib.hid ⟨rfl, filled_zero _, ?_⟩, by omega, hb0⟩
    rw [← Lib.size_eq, HN2.out]
    exact Hg0.out
  case round =>
    obtain ⟨j, k, cur, rfl, HI, hj, hb⟩ := hrel
    clear hq hmk Hg0 hb0 cT
    by_cases hlt : j < t.size
    · have HAr : Hid (Alph wr) := Lib.hid (HA.out.below hb)
      have Hx : Hid ((t.extract j (min ((j : Int) + 4) (t.size : Int)).toNat).data.toList = (t.data.toList.drop j).take 4) := Lib.hid (by
        rw [Lib.extract_data]
        have e : (min ((j : Int) + 4) (t.size : Int)).toNat - j = min 4 (t.size - j) := by omega
        rw [e]
        rcases Nat.le_total 4 (t.size - j) with h | h
        · rw [Nat.min_eq_left h]
        · rw [Nat.min_eq_right h, List.take_of_length_le (by rw [List.length_drop, ← Lib.size_eq]; exact Nat.le_refl _), List.take_of_length_le (by rw [List.length_drop, ← Lib.size_eq]; exact h)])
      have hx4 : (t.extract j (min ((j : Int) + 4) (t.size : Int)).toNat).size ≤ 4 := by
        rw [Lib.size_eq, Hx.out, List.length_take]; omega
      have cB := bytesOf_any (t.extract j (min ((j : Int) + 4) (t.size : Int)).toNat) wr hx4 HAr.out
      rw [Hx.out] at cB
      clear hx4 Hx
      obtain ⟨v, hv⟩ : ∃ v, gN ((t.data.toList.drop j).take 4) 4 = v := ⟨_, rfl⟩
      rw [hv] at cB
      obtain ⟨o, ho⟩ : ∃ o, o = 3 * k := ⟨_, rfl⟩
      have hlen := HI.out.2.1.1
      rw [← Lib.size_eq, HN2.out] at hlen
      have Hlen := Lib.hid hlen
      have hoN : o ≤ N := by have := HI.out.1; have := HN2.out; omega
      have HO : Hid ((j : Int) / 4 * 3 = (o : Int)) := Lib.hid (by have := HI.out.1; omega)
      have HF : Hid (Filled t.data.toList (k + 1) (splice cur o ((by3 v).take (N - o)))) := Lib.hid (by
        have := filled_step HI.out.2.1 (by rw [← Lib.size_eq]; have := HI.out.1; omega)
        rw [← HI.out.1, hv, ← Lib.size_eq, HN2.out, ← ho] at this
        exact this)
      have HJ : Hid (j + 4 = 4 * (k + 1)) := Lib.hid (by have := HI.out.1; omega)
      have Hg := Lib.hid HI.out.2.2
      clear HI hv ho hlen
      simp only [u8V] at cB
      go_wp2_with fail
      refine cB.mono ?_
      rintro e w1 ⟨rfl, hb1⟩
      clear cB
      have hgw : w.heap.size < wr.heap.size := (Array.getElem?_eq_some_iff.1 Hg.out).1
      have Hg1 := Lib.hid ((hb1.block _ hgw).trans Hg.out)
      have hb1' := hb.trans (hb1.mono hb.size)
      have hgw1 : w.heap.size < w1.heap.size := Nat.lt_of_lt_of_le hgw hb1.size
      clear hb1 hb Hg
      obtain ⟨x0, h0⟩ : ∃ x, b0 v = x := ⟨_, rfl⟩
      obtain ⟨x1, h1⟩ : ∃ x, b1 v = x := ⟨_, rfl⟩
      obtain ⟨x2, h2⟩ : ∃ x, b2 v = x := ⟨_, rfl⟩
      rw [h0, h1, h2]
      have Hv : Hid (by3 v = [x0, x1, x2]) := Lib.hid (by rw [by3, h0, h1, h2])
      clear h0 h1 h2
      go_wp2_with fail
      refine wp_region_still_tail 6 (by kernel_rfl) (by kernel_rfl) ?_
      change wpStill _ _ (World.drew _) (fun a' => wpList _ _ _ _ a' (World.drew _)) _ _
      generalize hW : World.drew (w1.alloc (.cells #[.int .u8 (x0.toNat : Int), .int .u8 (x1.toNat : Int), .int .u8 (x2.toNat : Int)] 90)) = W
      have hb2 : Below w.heap.size w W := by
        rw [← hW]
        exact (hb1'.alloc (by omega) _).drew
      have Hg2 : Hid (W.heap[w.heap.size]? = some (.cells (cur.map u8V).toArray 5 (0, 0))) := Lib.hid (by
        rw [← hW]
        exact (Below.heap_alloc w1 _ _ hgw1).trans Hg1.out)
      have Hc : Hid (∀ (i : Nat) u, ([x0, x1, x2].map u8V)[i]? = some u → W.cell? ((⟨w1.heap.size, 0, none⟩ : Addr).add i) = some u) := Lib.hid (by
        rw [← hW]
        exact cells_new w1 ([x0, x1, x2].map u8V) 90)
      clear hW hb1' Hg1
      have hq : IntKind.i64.wrap (IntKind.i64.wrap ((j : Int) / 4) * 3) = (o : Int) := wrap_quo j o (by omega) HO.out
      have hoi : (o : Int) ≤ (N : Int) := by omega
      have hcell : ∀ (i : Nat) u, ((([x0, x1, x2] : List UInt8).take (N - o)).map u8V)[i]? = some u → W.cell? ((⟨w1.heap.size, 0, none⟩ : Addr).add i) = some u := by
        intro i u hu
        refine Hc.out i u ?_
        rw [List.map_take, List.getElem?_take] at hu
        split at hu
        · exact hu
        · cases hu
      have Hcell := Lib.hid hcell
      clear hcell Hc
      simp only [List.take_succ_cons, List.take_zero, List.drop_succ_cons, List.drop_zero]
      by_cases hlast : o = N
      · subst hlast
        have Hz0 : Hid (o - o = 0) := Lib.hid (by omega)
        repeat still_step
        refine wpStill_nil ?_
        refine wpList_copy_splice rfl (.tmp 35) (.tmp 36) 59 59 rfl 5 Tryd.underlying59 Hz.out _ _ _ _ _ _ rfl rfl w.heap.size o (cur.map u8V) 5 Hg2.out ((([x0, x1, x2] : List UInt8).take (o - o)).map u8V) (by simp only [List.length_map, List.length_take, List.length_cons, List.length_nil]; show _ = min _ _; omega) (fun h => absurd h (by rw [Hz0.out]; simp)) (by have := Hlen.out; simp only [List.length_map, List.length_take, List.length_cons, List.length_nil]; omega) (by
          intro u hu
          obtain ⟨c, _, rfl⟩ := List.mem_map.1 hu
          rfl) w.heap.size w hb2 (Nat.le_refl _) ?_
        intro w3 Hg3 hb3
        clear hq hoi Hg2 hb2 Hcell
        go_wp2
        go_roundw
        case rel =>
          refine ⟨j + 4, k + 1, _, by go_num, Lib.hid ⟨HJ.out, HF.out, ?_⟩, by omega, hb3⟩
          rw [Hg3.out, Hv.out, splice_map]
        case measure => simp [intOf]; omega
      · have hlo : ¬ (N = o) := by omega
        repeat still_step
        refine wpStill_nil ?_
        refine wpList_copy_splice rfl (.tmp 35) (.tmp 36) 59 59 rfl 5 Tryd.underlying59 Hz.out _ _ _ _ _ _ rfl rfl w.heap.size o (cur.map u8V) 5 Hg2.out ((([x0, x1, x2] : List UInt8).take (N - o)).map u8V) (by simp only [List.length_map, List.length_take, List.length_cons, List.length_nil]; show _ = min _ _; omega) (fun _ => ⟨rfl, _, rfl, Hcell.out⟩) (by have := Hlen.out; simp only [List.length_map, List.length_take, List.length_cons, List.length_nil]; omega) (by
          intro u hu
          obtain ⟨c, _, rfl⟩ := List.mem_map.1 hu
          rfl) w.heap.size w hb2 (Nat.le_refl _) ?_
        intro w3 Hg3 hb3
        clear hq hoi Hg2 hb2 Hcell
        go_wp2
        go_roundw
        case rel =>
          refine ⟨j + 4, k + 1, _, by go_num, Lib.hid ⟨HJ.out, HF.out, ?_⟩, by omega, hb3⟩
          rw [Hg3.out, Hv.out, splice_map]
        case measure => simp [intOf]; omega
    · have hcl : cur = rawL t.data.toList := filled_end HI.out.2.1 (by rw [← Lib.size_eq]; have := HI.out.1; omega)
      have hlen := HI.out.2.1.1
      rw [← Lib.size_eq, HN2.out] at hlen
      have Hcv : Hid ((convert 59 9 (.slice (some ⟨w.heap.size, 0, none⟩) N N)).run Tryd.prog wr = .ok (.string (strB (rawL t.data.toList))) wr) := Lib.hid (by
        rw [← hcl]
        have := run_convert_bytes_back (P := Tryd.prog) wr 59 9 5 ⟨w.heap.size, 0, none⟩ N cur Tryd.underlying59 Tryd.underlying5 Tryd.underlying9 (by
          intro i hi
          rw [add_none, cell_of_row wr w.heap.size i _ _ _ HI.out.2.2]
          simp [hi, u8V])
        rw [hlen] at this
        exact this)
      clear HI hlen hcl
      have hcv := Hcv.out
      have Hsz : Hid ((strB (rawL t.data.toList)).size ≤ 1000000) := Lib.hid (by
        have := rawL_le t.data.toList
        rw [← Lib.size_eq] at this
        rw [strB_size]; omega)
      have cE := encode_any (strB (rawL t.data.toList)) wr Hsz.out (HA.out.below hb)
      rw [strB_data] at cE
      have Hd : Hid (decL s.data.toList = if encL (rawL t.data.toList) = s.data.toList then some (rawL t.data.toList) else none) := Lib.hid (by rw [decL, ← Ht.out])
      generalize rawL t.data.toList = q at hcv cE Hd Hsz Hcv
      by_cases he : encL q = s.data.toList
      · have Hd2 : Hid (decL s.data.toList = some q) := Lib.hid (by rw [Hd.out, if_pos he])
        have heq : (strB (encL q)).toList = s.toList := by rw [Lib.toList_data, Lib.toList_data, strB_data, he]
        have heq2 : ((strB (encL q)).toList == s.toList) = true := by rw [heq]; simp
        clear he heq
        generalize strB (encL q) = z at cE heq2
        go_wp2_with (go_at_call 28; refine cE.mono ?_; rintro e w1 ⟨rfl, hb1⟩)
        go_ret2
        exact ⟨by rw [Hd2.out]; rfl, hb.trans (hb1.mono hb.size)⟩
      · have Hd2 : Hid (decL s.data.toList = none) := Lib.hid (by rw [Hd.out, if_neg he])
        have heq : ¬ (strB (encL q)).toList = s.toList := by rw [Lib.toList_data, Lib.toList_data, strB_data]; exact he
        have heq2 : ((strB (encL q)).toList == s.toList) = false := by simpa using heq
        clear he heq
        generalize strB (encL q) = z at cE heq2
        go_wp2_with (go_at_call 28; refine cE.mono ?_; rintro e w1 ⟨rfl, hb1⟩)
        go_ret2
        exact ⟨by rw [Hd2.out]; rfl, hb.trans (hb1.mono hb.size)⟩

end Go.Proofs.YtcjnigmklijjiaaDoor
