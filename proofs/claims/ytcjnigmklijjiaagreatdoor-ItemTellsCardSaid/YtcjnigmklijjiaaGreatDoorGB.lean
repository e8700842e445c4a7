/- Plain facts about the bytes that groups of four characters stand for. · The contract of bare.Decode. · The contract of bare.Right. · The contracts of bare.decimalText and bare.stringText. · The contract of bare.Print. · The contracts of bare.noItem and bare.readBoolean. · The contract of strings.Cut at a separator of one byte. · The contract of bare.readBytes. -/
import Derived.Test.YtcjnigmklijjiaaGreatDoorGA
import Derived.Laws.CopyOwn
import Derived.Lib.TrimByte
import Derived.Laws.MakeOwn
import Derived.StillTailTactics
import Derived.IntWalk
import Derived.Lib.AppendIntMem
import Derived.Lib.ItoaNum
import Derived.Laws.OwnMore
import Derived.Lib.IndexLaws

namespace Go.Proofs.YtcjnigmklijjiaaGreatDoor

def by3 (v : Nat) : List UInt8 := [b0 v, b1 v, b2 v]

/-- The bytes of all groups of at most four characters. -/
def rawG : List UInt8 → List UInt8
  | a :: b :: c :: d :: r => by3 (gN [a, b, c, d] 4) ++ rawG r
  | [] => []
  | l => by3 (gN l 4)

theorem rawG_step (l : List UInt8) (h : l ≠ []) : rawG l = by3 (gN (l.take 4) 4) ++ rawG (l.drop 4) := by
  match l, h with
  | [a], _ => simp [rawG]
  | [a, b], _ => simp [rawG]
  | [a, b, c], _ => simp [rawG]
  | a :: b :: c :: d :: r, _ => simp [rawG]

theorem rawG_len : ∀ (n : Nat) (l : List UInt8), l.length ≤ n → (rawG l).length = (l.length + 3) / 4 * 3
  | 0, l, h => by
    have : l = [] := List.eq_nil_of_length_eq_zero (by omega)
    subst this; rfl
  | n + 1, l, h => by
    by_cases hl : l = []
    · subst hl; rfl
    · have hp : 0 < l.length := List.length_pos_iff.2 hl
      rw [rawG_step l hl, List.length_append, rawG_len n (l.drop 4) (by rw [List.length_drop]; omega), List.length_drop]
      simp only [by3, List.length_cons, List.length_nil]
      omega

/-- Whole groups ahead of others. -/
theorem rawG_app : ∀ (k : Nat) (l : List UInt8), 4 * k ≤ l.length → rawG l = rawG (l.take (4 * k)) ++ rawG (l.drop (4 * k))
  | 0, l, _ => by simp [rawG]
  | k + 1, l, h => by
    have hl : l ≠ [] := by intro e; subst e; simp at h
    have hl2 : l.take (4 * (k + 1)) ≠ [] := by
      intro e
      have := congrArg List.length e
      rw [List.length_take, List.length_nil] at this
      omega
    rw [rawG_step l hl, rawG_step (l.take (4 * (k + 1))) hl2, rawG_app k (l.drop 4) (by rw [List.length_drop]; omega)]
    rw [List.take_take, List.drop_take, List.drop_drop, List.append_assoc]
    rw [show min 4 (4 * (k + 1)) = 4 by omega, show 4 * (k + 1) - 4 = 4 * k by omega, show 4 + 4 * k = 4 * (k + 1) by omega]

/-- The bytes that a text without its end stands for, as many as it tells. -/
def rawL (l : List UInt8) : List UInt8 := (rawG l).take (l.length * 3 / 4)

/-- A row that holds the bytes of so many groups. -/
def Filled (l : List UInt8) (k : Nat) (cur : List UInt8) : Prop := cur.length = l.length * 3 / 4 ∧ ∃ tail, cur = (rawG (l.take (4 * k))).take (l.length * 3 / 4) ++ tail

theorem filled_zero (l : List UInt8) : Filled l 0 (List.replicate (l.length * 3 / 4) 0) := ⟨by simp, _, by simp [rawG]; rfl⟩

theorem filled_step {l cur : List UInt8} {k : Nat} (h : Filled l k cur) (hk : 4 * k < l.length) :
    Filled l (k + 1) (splice cur (3 * k) ((by3 (gN ((l.drop (4 * k)).take 4) 4)).take (l.length * 3 / 4 - 3 * k))) := by
  obtain ⟨h1, tail, h2⟩ := h
  have hlen : (rawG (l.take (4 * k))).length = 3 * k := by
    rw [rawG_len _ _ (Nat.le_refl _), List.length_take]; omega
  have hfull : rawG (l.take (4 * (k + 1))) = rawG (l.take (4 * k)) ++ by3 (gN ((l.drop (4 * k)).take 4) 4) := by
    rw [rawG_app k (l.take (4 * (k + 1))) (by rw [List.length_take]; omega), List.take_take, List.drop_take]
    rw [show min (4 * k) (4 * (k + 1)) = 4 * k by omega, show 4 * (k + 1) - 4 * k = 4 by omega]
    congr 1
    have hne : (l.drop (4 * k)).take 4 ≠ [] := by
      intro e
      have := congrArg List.length e
      rw [List.length_take, List.length_drop, List.length_nil] at this
      omega
    rw [rawG_step _ hne, List.take_take, List.drop_take]
    simp [rawG]
  have h3 : ((by3 (gN ((l.drop (4 * k)).take 4) 4)).take (l.length * 3 / 4 - 3 * k)).length = min (l.length * 3 / 4 - 3 * k) 3 := by
    rw [List.length_take]; rfl
  refine ⟨?_, ?_⟩
  · rw [length_splice _ _ _ (by omega)]; exact h1
  · refine ⟨tail.drop (min (l.length * 3 / 4 - 3 * k) 3), ?_⟩
    rw [hfull, splice, h2, List.take_of_length_le (show (rawG (l.take (4 * k))).length ≤ l.length * 3 / 4 by omega), h3]
    rw [List.take_append, List.take_append, List.drop_append, hlen]
    rw [List.take_of_length_le (show (rawG (l.take (4 * k))).length ≤ 3 * k by omega), List.take_of_length_le (show (rawG (l.take (4 * k))).length ≤ l.length * 3 / 4 by omega)]
    rw [List.drop_of_length_le (show (rawG (l.take (4 * k))).length ≤ 3 * k + min (l.length * 3 / 4 - 3 * k) 3 by omega)]
    simp

theorem filled_end {l cur : List UInt8} {k : Nat} (h : Filled l k cur) (hk : l.length ≤ 4 * k) : cur = rawL l := by
  obtain ⟨h1, tail, h2⟩ := h
  rw [List.take_of_length_le hk] at h2
  have h3 : ((rawG l).take (l.length * 3 / 4)).length = l.length * 3 / 4 := by
    rw [List.length_take, rawG_len _ _ (Nat.le_refl _)]; omega
  have h4 : tail = [] := by
    have := congrArg List.length h2
    rw [List.length_append, h3] at this
    exact List.eq_nil_of_length_eq_zero (by omega)
  rw [h2, h4, List.append_nil]
  rfl

/-- What Decode does. -/
def decL (s : List UInt8) : Option (List UInt8) := if encL (rawL (Lib.trimRightB s 61)) = s then some (rawL (Lib.trimRightB s 61)) else none

theorem trimRightB_le (l : List UInt8) (c : UInt8) : (Lib.trimRightB l c).length ≤ l.length := by
  unfold Lib.trimRightB
  rw [List.length_reverse]
  have : (l.reverse.dropWhile (· == c)).length ≤ l.reverse.length := (List.dropWhile_sublist _).length_le
  simpa using this

theorem rawL_le (l : List UInt8) : (rawL l).length ≤ l.length := by
  unfold rawL
  rw [List.length_take]
  omega

end Go.Proofs.YtcjnigmklijjiaaGreatDoor

namespace Go.Proofs.YtcjnigmklijjiaaGreatDoor
open Go.RowKit

def decV (o : Option (List UInt8)) : Value := match o with
  | some b => .tuple #[.string (strB b), .int .i64 0]
  | none => .tuple #[.string (strB []), .int .i64 2]

theorem wrap_quo (j o : Nat) (h : j < 1000000) (ho : (j : Int) / 4 * 3 = (o : Int)) : IntKind.i64.wrap (IntKind.i64.wrap ((j : Int) / 4) * 3) = (o : Int) := by
  have h1 : IntKind.i64.wrap ((j : Int) / 4) = (j : Int) / 4 := IntWalk.i64_in _ (by omega)
  rw [h1, ho]
  exact IntWalk.i64_in _ (by omega)

theorem splice_map (cur l : List UInt8) (o : Nat) : splice (cur.map u8V) o (l.map u8V) = (splice cur o l).map u8V := by
  simp [splice, List.map_take, List.map_drop]

set_option maxRecDepth 100000 in
set_option maxHeartbeats 4000000 in
theorem decode_any (s : ByteArray) (w : World) (hs : s.size ≤ 100000) (hA : Alph w) :
    Calls Tryz.prog 162 #[.string s] w fun e w' => e = .returned (decV (decL s.data.toList)) ∧ Below w.heap.size w w' := by
  have HA := Lib.hid hA
  clear hA
  have Hz := Lib.hid size_u8
  have cT := Tryz.strings_TrimRight_one s 61 (by decide) w (by omega)
  obtain ⟨t, ht⟩ : ∃ t : ByteArray, t = ⟨(Lib.trimRightB s.data.toList 61).toArray⟩ := ⟨_, rfl⟩
  rw [← ht] at cT
  have Ht : Hid (t.data.toList = Lib.trimRightB s.data.toList 61) := Lib.hid (by rw [ht])
  have hts : t.size ≤ 100000 := by
    have := trimRightB_le s.data.toList 61
    rw [← Lib.size_eq] at this
    rw [Lib.size_eq, Ht.out]
    omega
  clear ht
  have HN : Hid ((t.size : Int) * 3 / 4 = ((t.size * 3 / 4 : Nat) : Int)) := Lib.hid (by omega)
  obtain ⟨N, hN⟩ : ∃ N, t.size * 3 / 4 = N := ⟨_, rfl⟩
  rw [hN] at HN
  have hN2 : N ≤ 100000 := by omega
  have HN2 := Lib.hid hN
  clear hN
  obtain ⟨i0, hi, hz0, hz1, hz2⟩ := info_parts info_u8
  have hmk := run_makeSlice (P := Tryz.prog) w 118 5 i0 (.int .u8 0) Tryz.underlying118 hi hz0 .i64 .i64 (N : Int) (N : Int) (by omega) (by omega) (by rw [hz1]; omega) (by rw [hz2]; omega) (by omega)
  rw [hz1, Int.toNat_natCast, Nat.mul_one] at hmk
  obtain ⟨M, hM⟩ : ∃ M, madeCells (Value.int .u8 0).cells N = M := ⟨_, rfl⟩
  rw [hM] at hmk
  have HM : Hid (M = ((List.replicate N (0 : UInt8)).map u8V).toArray) := Lib.hid (by
    rw [← hM]
    apply Array.ext
    · simp [madeCells]
    · intro i h1 h2
      simp [madeCells, u8V, Value.cells, Nat.mod_one])
  have hb0 : Below w.heap.size w (w.alloc (.cells M 5)) := (Below.refl _ _).alloc (Nat.le_refl _) _
  have hg0 := heap_alloc_new w (.cells M 5)
  have Hg0 : Hid ((w.alloc (.cells M 5)).heap[w.heap.size]? = some (.cells ((List.replicate N (0 : UInt8)).map u8V).toArray 5 (0, 0))) := Lib.hid (by rw [hg0, HM.out])
  clear hM hg0 HM hi hz0 hz1 hz2
  have hq := HN.out
  replace cT := cT.mono (R' := fun e w' => e = .returned (.string t) ∧ w = w') (fun e w' h => ⟨h.1, h.2.symm⟩)
  go_enter Tryz.func162, Tryz.ntmps162
  go_wp2_with (go_at_call 131; refine cT.mono ?_; rintro e w' ⟨rfl, rfl⟩)
  go_loopw [6] (fun i wr => ∃ (j k : Nat) (cur : List UInt8), i = .int .i64 j ∧ Hid (j = 4 * k ∧ Filled t.data.toList k cur ∧ wr.heap[w.heap.size]? = some (.cells (cur.map u8V).toArray 5 (0, 0))) ∧ j ≤ t.size + 4 ∧ Below w.heap.size w wr) (fun i _ => t.size - (intOf i).toNat)
  case atStart =>
    refine ⟨0, 0, _, rfl, Lib.hid ⟨rfl, filled_zero _, ?_⟩, by omega, hb0⟩
    rw [← Lib.size_eq, HN2.out]
    exact Hg0.out
  case round =>
    obtain ⟨j, k, cur, rfl, HI, hj, hb⟩ := hrel
    clear hq hmk Hg0 hb0 cT
    by_cases hlt : j < t.size
    · have HAr : Hid (Alph wr) := Lib.hid (HA.out.below hb)
      have Hx : Hid ((t.extract j (min ((j : Int) + 4) (t.size : Int)).toNat).data.toList = (t.data.toList.drop j).take 4) := Lib.hid (by
        rw [Lib.extract_data]
        have e : (min ((j : Int) + 4) (t.size : Int)).toNat - j = min 4 (t.size - j) := by omega
        rw [e]
        rcases Nat.le_total 4 (t.size - j) with h | h
        · rw [Nat.min_eq_left h]
        · rw [Nat.min_eq_right h, List.take_of_length_le (by rw [List.length_drop, ← Lib.size_eq]; exact Nat.le_refl _), List.take_of_length_le (by rw [List.length_drop, ← Lib.size_eq]; exact h)])
      have hx4 : (t.extract j (min ((j : Int) + 4) (t.size : Int)).toNat).size ≤ 4 := by
        rw [Lib.size_eq, Hx.out, List.length_take]; omega
      have cB := bytesOf_any (t.extract j (min ((j : Int) + 4) (t.size : Int)).toNat) wr hx4 HAr.out
      rw [Hx.out] at cB
      clear hx4 Hx
      obtain ⟨v, hv⟩ : ∃ v, gN ((t.data.toList.drop j).take 4) 4 = v := ⟨_, rfl⟩
      rw [hv] at cB
      obtain ⟨o, ho⟩ : ∃ o, o = 3 * k := ⟨_, rfl⟩
      have hlen := HI.out.2.1.1
      rw [← Lib.size_eq, HN2.out] at hlen
      have Hlen := Lib.hid hlen
      have hoN : o ≤ N := by have := HI.out.1; have := HN2.out; omega
      have HO : Hid ((j : Int) / 4 * 3 = (o : Int)) := Lib.hid (by have := HI.out.1; omega)
      have HF : Hid (Filled t.data.toList (k + 1) (splice cur o ((by3 v).take (N - o)))) := Lib.hid (by
        have := filled_step HI.out.2.1 (by rw [← Lib.size_eq]; have := HI.out.1; omega)
        rw [← HI.out.1, hv, ← Lib.size_eq, HN2.out, ← ho] at this
        exact this)
      have HJ : Hid (j + 4 = 4 * (k + 1)) := Lib.hid (by have := HI.out.1; omega)
      have Hg := Lib.hid HI.out.2.2
      clear HI hv ho hlen
      simp only [u8V] at cB
      go_wp2_with fail
      refine cB.mono ?_
      rintro e w1 ⟨rfl, hb1⟩
      clear cB
      have hgw : w.heap.size < wr.heap.size := (Array.getElem?_eq_some_iff.1 Hg.out).1
      have Hg1 := Lib.hid ((hb1.block _ hgw).trans Hg.out)
      have hb1' := hb.trans (hb1.mono hb.size)
      have hgw1 : w.heap.size < w1.heap.size := Nat.lt_of_lt_of_le hgw hb1.size
      clear hb1 hb Hg
      obtain ⟨x0, h0⟩ : ∃ x, b0 v = x := ⟨_, rfl⟩
      obtain ⟨x1, h1⟩ : ∃ x, b1 v = x := ⟨_, rfl⟩
      obtain ⟨x2, h2⟩ : ∃ x, b2 v = x := ⟨_, rfl⟩
      rw [h0, h1, h2]
      have Hv : Hid (by3 v = [x0, x1, x2]) := Lib.hid (by rw [by3, h0, h1, h2])
      clear h0 h1 h2
      go_wp2_with fail
      refine wp_region_still_tail 6 (by kernel_rfl) (by kernel_rfl) ?_
      change wpStill _ _ (World.drew _) (fun a' => wpList _ _ _ _ a' (World.drew _)) _ _
      generalize hW : World.drew (w1.alloc (.cells #[.int .u8 (x0.toNat : Int), .int .u8 (x1.toNat : Int), .int .u8 (x2.toNat : Int)] 186)) = W
      have hb2 : Below w.heap.size w W := by
        rw [← hW]
        exact (hb1'.alloc (by omega) _).drew
      have Hg2 : Hid (W.heap[w.heap.size]? = some (.cells (cur.map u8V).toArray 5 (0, 0))) := Lib.hid (by
        rw [← hW]
        exact (Below.heap_alloc w1 _ _ hgw1).trans Hg1.out)
      have Hc : Hid (∀ (i : Nat) u, ([x0, x1, x2].map u8V)[i]? = some u → W.cell? ((⟨w1.heap.size, 0, none⟩ : Addr).add i) = some u) := Lib.hid (by
        rw [← hW]
        exact cells_new w1 ([x0, x1, x2].map u8V) 186)
      clear hW hb1' Hg1
      have hq : IntKind.i64.wrap (IntKind.i64.wrap ((j : Int) / 4) * 3) = (o : Int) := wrap_quo j o (by omega) HO.out
      have hoi : (o : Int) ≤ (N : Int) := by omega
      have hcell : ∀ (i : Nat) u, ((([x0, x1, x2] : List UInt8).take (N - o)).map u8V)[i]? = some u → W.cell? ((⟨w1.heap.size, 0, none⟩ : Addr).add i) = some u := by
        intro i u hu
        refine Hc.out i u ?_
        rw [List.map_take, List.getElem?_take] at hu
        split at hu
        · exact hu
        · cases hu
      have Hcell := Lib.hid hcell
      clear hcell Hc
      simp only [List.take_succ_cons, List.take_zero, List.drop_succ_cons, List.drop_zero]
      by_cases hlast : o = N
      · subst hlast
        have Hz0 : Hid (o - o = 0) := Lib.hid (by omega)
        repeat still_step
        refine wpStill_nil ?_
        refine wpList_copy_splice rfl (.tmp 35) (.tmp 36) 118 118 rfl 5 Tryz.underlying118 Hz.out _ _ _ _ _ _ rfl rfl w.heap.size o (cur.map u8V) 5 Hg2.out ((([x0, x1, x2] : List UInt8).take (o - o)).map u8V) (by simp only [List.length_map, List.length_take, List.length_cons, List.length_nil]; show _ = min _ _; omega) (fun h => absurd h (by rw [Hz0.out]; simp)) (by have := Hlen.out; simp only [List.length_map, List.length_take, List.length_cons, List.length_nil]; omega) (by
          intro u hu
          obtain ⟨c, _, rfl⟩ := List.mem_map.1 hu
          rfl) w.heap.size w hb2 (Nat.le_refl _) ?_
        intro w3 Hg3 hb3
        clear hq hoi Hg2 hb2 Hcell
        go_wp2
        go_roundw
        case rel =>
          refine ⟨j + 4, k + 1, _, by go_num, Lib.hid ⟨HJ.out, HF.out, ?_⟩, by omega, hb3⟩
          rw [Hg3.out, Hv.out, splice_map]
        case measure => simp [intOf]; omega
      · have hlo : ¬ (N = o) := by omega
        repeat still_step
        refine wpStill_nil ?_
        refine wpList_copy_splice rfl (.tmp 35) (.tmp 36) 118 118 rfl 5 Tryz.underlying118 Hz.out _ _ _ _ _ _ rfl rfl w.heap.size o (cur.map u8V) 5 Hg2.out ((([x0, x1, x2] : List UInt8).take (N - o)).map u8V) (by simp only [List.length_map, List.length_take, List.length_cons, List.length_nil]; show _ = min _ _; omega) (fun _ => ⟨rfl, _, rfl, Hcell.out⟩) (by have := Hlen.out; simp only [List.length_map, List.length_take, List.length_cons, List.length_nil]; omega) (by
          intro u hu
          obtain ⟨c, _, rfl⟩ := List.mem_map.1 hu
          rfl) w.heap.size w hb2 (Nat.le_refl _) ?_
        intro w3 Hg3 hb3
        clear hq hoi Hg2 hb2 Hcell
        go_wp2
        go_roundw
        case rel =>
          refine ⟨j + 4, k + 1, _, by go_num, Lib.hid ⟨HJ.out, HF.out, ?_⟩, by omega, hb3⟩
          rw [Hg3.out, Hv.out, splice_map]
        case measure => simp [intOf]; omega
    · have hcl : cur = rawL t.data.toList := filled_end HI.out.2.1 (by rw [← Lib.size_eq]; have := HI.out.1; omega)
      have hlen := HI.out.2.1.1
      rw [← Lib.size_eq, HN2.out] at hlen
      have Hcv : Hid ((convert 118 9 (.slice (some ⟨w.heap.size, 0, none⟩) N N)).run Tryz.prog wr = .ok (.string (strB (rawL t.data.toList))) wr) := Lib.hid (by
        rw [← hcl]
        have := run_convert_bytes_back (P := Tryz.prog) wr 118 9 5 ⟨w.heap.size, 0, none⟩ N cur Tryz.underlying118 Tryz.underlying5 Tryz.underlying9 (by
          intro i hi
          rw [add_none, cell_of_row wr w.heap.size i _ _ _ HI.out.2.2]
          simp [hi, u8V])
        rw [hlen] at this
        exact this)
      clear HI hlen hcl
      have hcv := Hcv.out
      have Hsz : Hid ((strB (rawL t.data.toList)).size ≤ 1000000) := Lib.hid (by
        have := rawL_le t.data.toList
        rw [← Lib.size_eq] at this
        rw [strB_size]; omega)
      have cE := encode_any (strB (rawL t.data.toList)) wr Hsz.out (HA.out.below hb)
      rw [strB_data] at cE
      have Hd : Hid (decL s.data.toList = if encL (rawL t.data.toList) = s.data.toList then some (rawL t.data.toList) else none) := Lib.hid (by rw [decL, ← Ht.out])
      generalize rawL t.data.toList = q at hcv cE Hd Hsz Hcv
      by_cases he : encL q = s.data.toList
      · have Hd2 : Hid (decL s.data.toList = some q) := Lib.hid (by rw [Hd.out, if_pos he])
        have heq : (strB (encL q)).toList = s.toList := by rw [Lib.toList_data, Lib.toList_data, strB_data, he]
        have heq2 : ((strB (encL q)).toList == s.toList) = true := by rw [heq]; simp
        clear he heq
        generalize strB (encL q) = z at cE heq2
        go_wp2_with (go_at_call 102; refine cE.mono ?_; rintro e w1 ⟨rfl, hb1⟩)
        go_ret2
        exact ⟨by rw [Hd2.out]; rfl, hb.trans (hb1.mono hb.size)⟩
      · have Hd2 : Hid (decL s.data.toList = none) := Lib.hid (by rw [Hd.out, if_neg he])
        have heq : ¬ (strB (encL q)).toList = s.toList := by rw [Lib.toList_data, Lib.toList_data, strB_data]; exact he
        have heq2 : ((strB (encL q)).toList == s.toList) = false := by simpa using heq
        clear he heq
        generalize strB (encL q) = z at cE heq2
        go_wp2_with (go_at_call 102; refine cE.mono ?_; rintro e w1 ⟨rfl, hb1⟩)
        go_ret2
        exact ⟨by rw [Hd2.out]; rfl, hb.trans (hb1.mono hb.size)⟩

end Go.Proofs.YtcjnigmklijjiaaGreatDoor

namespace Go.Proofs.YtcjnigmklijjiaaGreatDoor
open Go.RowKit

def inNum (n : Int) : Bool := decide (-1000000000000000 < n) && decide (n < 1000000000000000)

/-- Whether a bare item is valid. -/
def rightL (k n : Int) (s : List UInt8) : Bool :=
  if k = 1 ∨ k = 2 then s.isEmpty && inNum n
  else if k = 6 then s.isEmpty && (n == 0 || n == 1)
  else if k = 3 then n == 0 && prL s
  else if k = 4 then n == 0 && (!s.isEmpty && tlen s == s.length)
  else if k = 5 then n == 0
  else false

theorem right_num (k n : Int) (s : List UInt8) (h : k = 1 ∨ k = 2) : rightL k n s = (s.isEmpty && inNum n) := by rw [rightL, if_pos h]
theorem right_bool (n : Int) (s : List UInt8) : rightL 6 n s = (s.isEmpty && (n == 0 || n == 1)) := rfl
theorem right_str (n : Int) (s : List UInt8) : rightL 3 n s = (n == 0 && prL s) := rfl
theorem right_tok (n : Int) (s : List UInt8) : rightL 4 n s = (n == 0 && (!s.isEmpty && tlen s == s.length)) := rfl
theorem right_bytes (n : Int) (s : List UInt8) : rightL 5 n s = (n == 0) := rfl

def rightPost (r : Bool) (w : World) (e : Ending) (w' : World) : Prop := e = .returned (.bool r) ∧ Below w.heap.size w w'

theorem toList_emp (s : ByteArray) : s.toList.isEmpty = s.data.toList.isEmpty := by rw [Lib.toList_data]

set_option maxRecDepth 100000 in
set_option maxHeartbeats 4000000 in
theorem right_any (k n : Int) (s : ByteArray) (w : World) (hs : s.size ≤ 100000) :
    Calls Tryz.prog 98 #[.agg #[.int .i64 k, .int .i64 n, .string s]] w (rightPost (rightL k n s.data.toList) w) := by
  have cP := fun W => isPrintable_any s W (by unfold maxLen; omega)
  have cT := fun W => tokenLength_any s W (by unfold maxLen; omega)
  by_cases h12 : k = 1 ∨ k = 2
  · obtain ⟨r, hr⟩ : ∃ r, rightL k n s.data.toList = r := ⟨_, rfl⟩
    rw [hr]
    rw [right_num k n _ h12, ← toList_emp, inNum] at hr
    rcases h12 with rfl | rfl
    all_goals
      cases h1 : s.toList.isEmpty <;> cases h2 : decide (-1000000000000000 < n) <;> cases h3 : decide (n < 1000000000000000)
      all_goals
        rw [h1, h2, h3] at hr
        simp only [Bool.and_true, Bool.and_false] at hr
        subst hr
        clear cP cT
        go_enter Tryz.func98, Tryz.ntmps98
        go_wp2
        go_ret
        exact ⟨rfl, (Below.refl _ _).alloc (Nat.le_refl _) _⟩
  · by_cases h6 : k = 6
    · subst h6
      obtain ⟨r, hr⟩ : ∃ r, rightL 6 n s.data.toList = r := ⟨_, rfl⟩
      rw [hr]
      rw [right_bool, ← toList_emp] at hr
      cases h1 : s.toList.isEmpty <;> cases h2 : (n == 0) <;> cases h3 : (n == 1)
      all_goals
        rw [h1, h2, h3] at hr
        simp only [Bool.and_true, Bool.and_false, Bool.or_true, Bool.or_false] at hr
        subst hr
        clear cP cT h12
        first
        | (exfalso; simp only [beq_iff_eq] at h2 h3; omega)
        | (go_enter Tryz.func98, Tryz.ntmps98
           go_wp2
           go_ret
           exact ⟨rfl, (Below.refl _ _).alloc (Nat.le_refl _) _⟩)
    · by_cases h3 : k = 3
      · subst h3
        obtain ⟨r, hr⟩ : ∃ r, rightL 3 n s.data.toList = r := ⟨_, rfl⟩
        rw [hr]
        rw [right_str] at hr
        generalize prL s.data.toList = b at hr cP
        cases h2 : (n == 0)
        all_goals
          rw [h2] at hr
          simp only [Bool.true_and, Bool.false_and] at hr
          subst hr
          clear cT h12 h6
          go_enter Tryz.func98, Tryz.ntmps98
          go_wp2_with (go_at_call 128; refine (cP _).mono ?_; rintro e w' ⟨rfl, rfl⟩)
          go_ret
          exact ⟨rfl, (Below.refl _ _).alloc (Nat.le_refl _) _⟩
      · by_cases h4 : k = 4
        · subst h4
          obtain ⟨r, hr⟩ : ∃ r, rightL 4 n s.data.toList = r := ⟨_, rfl⟩
          rw [hr]
          rw [right_tok, ← toList_emp, ← Lib.size_eq] at hr
          generalize tlen s.data.toList = b at hr cT
          have Hq : Hid ((((b : Nat) : Int) == (s.size : Int)) = (b == s.size)) := Lib.hid (by rw [Bool.eq_iff_iff]; simp; omega)
          cases h2 : (n == 0) <;> cases h1 : s.toList.isEmpty
          all_goals
            rw [h2, h1] at hr
            simp only [Bool.true_and, Bool.false_and, Bool.not_true, Bool.not_false] at hr
            clear cP h12 h6 h3
            have Hr := Lib.hid hr
            clear hr
            go_enter Tryz.func98, Tryz.ntmps98
            go_wp2_with fail
            go_quiet ((go_at_call 129; exact Calls.quiet_of_same ((cT _).mono (fun _ _ h => ⟨h.1, h.2.symm⟩))))
            go_wp2
            go_ret
            refine ⟨ret_eq (bool_eq (by first | exact Hr.out | (rw [← Hr.out]; exact Hq.out))), ?_⟩
            have hb1 : Below w.heap.size w (w.alloc (.cells #[.int .i64 4, .int .i64 n, .string s] 23)) := (Below.refl _ _).alloc (Nat.le_refl _) _
            exact hb1.trans ((below_drewN _ _).mono hb1.size)
        · by_cases h5 : k = 5
          · subst h5
            rw [right_bytes]
            clear cP cT h12 h6 h3 h4
            cases h2 : (n == 0)
            all_goals
              go_enter Tryz.func98, Tryz.ntmps98
              go_wp2
              go_ret
              exact ⟨rfl, (Below.refl _ _).alloc (Nat.le_refl _) _⟩
          · have hr : rightL k n s.data.toList = false := by rw [rightL, if_neg h12, if_neg h6, if_neg h3, if_neg h4, if_neg h5]
            rw [hr]
            have g1 : (k == 1) = false := by simp; omega
            have g2 : (k == 2) = false := by simp; omega
            have g3 : (k == 3) = false := by simpa using h3
            have g4 : (k == 4) = false := by simpa using h4
            have g5 : (k == 5) = false := by simpa using h5
            have g6 : (k == 6) = false := by simpa using h6
            clear cP cT h12 h6 h3 h4 h5 hr
            go_enter Tryz.func98, Tryz.ntmps98
            go_wp2
            go_ret
            exact ⟨rfl, (Below.refl _ _).alloc (Nat.le_refl _) _⟩

end Go.Proofs.YtcjnigmklijjiaaGreatDoor

namespace Go.Proofs.YtcjnigmklijjiaaGreatDoor
open Go.RowKit

/-- The powers of ten lie where they were laid. -/
def Pow (w : World) : Prop := Lib.TabIs Tryz.prog w "internal/strconv.uint64pow10" .u64 Lib.pow10Tab
theorem Pow.below {w w' : World} (h : Pow w) (hb : Below w.heap.size w w') : Pow w' := Lib.tabBelow_of_tabIs h w' hb

theorem fmt_any (n : Int) (h0 : -9223372036854775808 ≤ n) (h1 : n ≤ 9223372036854775807) (w : World) (hP : Pow w) :
    Calls Tryz.prog 99 #[.int .i64 n, .int .i64 10] w fun e w' => e = .returned (.string (strB (Lib.itoa n))) ∧ Below w.heap.size w w' := by
  refine (Tryz.strconv_FormatInt_10 n h0 h1 w hP).mono ?_
  rintro e w' ⟨rfl, k, os, rfl⟩
  exact ⟨rfl, Lib.below_grow _ _ (Nat.le_refl _) k os⟩

theorem itoa_nat (n : Nat) : Lib.itoa (n : Int) = Lib.decDigits n := by
  rw [Lib.itoa, if_neg (by omega)]; rfl
theorem itoa_neg (n : Nat) (h : 0 < n) : Lib.itoa (-(n : Int)) = 45 :: Lib.decDigits n := by
  rw [Lib.itoa, if_pos (by omega)]; simp

theorem dec_thousand (m : Nat) (h : m < 1000) : Lib.decDigits (1000 + m) = [49, UInt8.ofNat (48 + m / 100), UInt8.ofNat (48 + m / 10 % 10), UInt8.ofNat (48 + m % 10)] := by
  rw [Lib.decDigits, dif_neg (by omega), Lib.decDigits, dif_neg (by omega), Lib.decDigits_two (by omega) (by omega)]
  rw [show (1000 + m) / 10 / 10 / 10 = 1 by omega, show (1000 + m) / 10 / 10 % 10 = m / 100 by omega, show (1000 + m) / 10 % 10 = m / 10 % 10 by omega, show (1000 + m) % 10 = m % 10 by omega]
  rfl

theorem nDigits_le (u : Nat) : Lib.nDigits u ≤ u + 1 := by
  induction u using Nat.strongRecOn with
  | _ u ih =>
    by_cases h : u < 10
    · rw [Lib.nDigits_small h]; omega
    · rw [Lib.nDigits_big h]
      have := ih (u / 10) (by omega)
      omega
theorem decDigits_le (u : Nat) : (Lib.decDigits u).length ≤ u + 1 := by rw [Lib.decDigits_length]; exact nDigits_le u

/-- The text of a decimal that is not below 0, in thousandths. -/
def decN (n : Nat) : List UInt8 := Lib.decDigits (n / 1000) ++ (46 :: UInt8.ofNat (48 + n % 1000 / 100) :: Lib.trimRightB [UInt8.ofNat (48 + n % 1000 / 10 % 10), UInt8.ofNat (48 + n % 1000 % 10)] 48)
def decT (n : Int) : List UInt8 := if n < 0 then 45 :: decN n.natAbs else decN n.natAbs

set_option maxRecDepth 100000 in
set_option maxHeartbeats 4000000 in
theorem decimalText_any (n : Int) (h0 : -1000000000000000 < n) (h1 : n < 1000000000000000) (w : World) (hP : Pow w) :
    Calls Tryz.prog 100 #[.int .i64 n] w fun e w' => e = .returned (.string (strB (decT n))) ∧ Below w.heap.size w w' := by
  have HP := Lib.hid hP
  clear hP
  obtain ⟨m, hm⟩ : ∃ m : Nat, n.natAbs = m := ⟨_, rfl⟩
  have hm2 : m < 1000000000000000 := by omega
  obtain ⟨W0, hW0⟩ : ∃ W0, strB (Lib.decDigits (m / 1000)) = W0 := ⟨_, rfl⟩
  obtain ⟨Q, hQ⟩ : ∃ Q, strB (Lib.decDigits (1000 + m % 1000)) = Q := ⟨_, rfl⟩
  have cF := fun W hW => fmt_any ((m / 1000 : Nat) : Int) (by omega) (by omega) W hW
  have cG := fun W hW => fmt_any ((1000 + m % 1000 : Nat) : Int) (by omega) (by omega) W hW
  rw [itoa_nat, hW0] at cF
  rw [itoa_nat, hQ] at cG
  have hql : Q.data.toList = [49, UInt8.ofNat (48 + m % 1000 / 100), UInt8.ofNat (48 + m % 1000 / 10 % 10), UInt8.ofNat (48 + m % 1000 % 10)] := by
    rw [← hQ, strB_data, dec_thousand _ (by omega)]
  have HQ := Lib.hid hql
  have hqs : Q.size = 4 := by rw [Lib.size_eq, hql]; rfl
  have HN : Hid (decN m = W0.data.toList ++ (46 :: UInt8.ofNat (48 + m % 1000 / 100) :: Lib.trimRightB [UInt8.ofNat (48 + m % 1000 / 10 % 10), UInt8.ofNat (48 + m % 1000 % 10)] 48)) := Lib.hid (by rw [← hW0, strB_data]; rfl)
  obtain ⟨P, hPp⟩ : ∃ P, Q.extract 1 4 = P := ⟨_, rfl⟩
  have HPl : Hid (P.data.toList = [UInt8.ofNat (48 + m % 1000 / 100), UInt8.ofNat (48 + m % 1000 / 10 % 10), UInt8.ofNat (48 + m % 1000 % 10)]) := Lib.hid (by rw [← hPp, Lib.extract_data, hql]; rfl)
  have hps : P.size = 3 := by rw [Lib.size_eq, HPl.out]; rfl
  have hw0 : W0.size ≤ 1000000000001 := by
    have := decDigits_le (m / 1000)
    rw [← hW0, strB_size]; omega
  clear hW0 hQ hql
  have cT := fun W => Tryz.strings_TrimRight_one (P.extract 1 3) 48 (by decide) W (by rw [Lib.size_eq, Lib.extract_data, HPl.out]; simp)
  obtain ⟨T, hT⟩ : ∃ T : ByteArray, (⟨(Lib.trimRightB (P.extract 1 3).data.toList 48).toArray⟩ : ByteArray) = T := ⟨_, rfl⟩
  rw [hT] at cT
  have HT : Hid (T.data.toList = Lib.trimRightB [UInt8.ofNat (48 + m % 1000 / 10 % 10), UInt8.ofNat (48 + m % 1000 % 10)] 48) := Lib.hid (by
    rw [← hT, Lib.extract_data, HPl.out]; rfl)
  clear hT
  have ht2 : T.size ≤ 2 := by
    have := trimRightB_le [UInt8.ofNat (48 + m % 1000 / 10 % 10), UInt8.ofNat (48 + m % 1000 % 10)] 48
    rw [Lib.size_eq, HT.out]; exact this
  have N1 : Hid (¬ 9223372036854775807 < W0.size) := Lib.hid (by omega)
  have N2 : Hid (¬ 9223372036854775807 < 1 + W0.size) := Lib.hid (by omega)
  have N3 : Hid (¬ 9223372036854775807 < W0.size + 1) := Lib.hid (by omega)
  have N4 : Hid (¬ 9223372036854775807 < 1 + W0.size + 1) := Lib.hid (by omega)
  have N5 : Hid (¬ 9223372036854775807 < W0.size + 1 + 1) := Lib.hid (by omega)
  have N6 : Hid (¬ 9223372036854775807 < 1 + W0.size + 1 + 1) := Lib.hid (by omega)
  have N7 : Hid (¬ 9223372036854775807 < W0.size + 1 + 1 + T.size) := Lib.hid (by omega)
  have N8 : Hid (¬ 9223372036854775807 < 1 + W0.size + 1 + 1 + T.size) := Lib.hid (by omega)
  have Hfin : Hid (∀ S : ByteArray, (((((S ++ W0) ++ (⟨#[46]⟩ : ByteArray)) ++ P.extract 0 1) ++ T)) = strB (S.data.toList ++ decN m)) := Lib.hid (by
    intro S
    rw [← strB_of (S ++ W0 ++ (⟨#[46]⟩ : ByteArray) ++ P.extract 0 1 ++ T)]
    congr 1
    rw [append_data, append_data, append_data, append_data, HT.out, HN.out, extract_take, HPl.out]
    simp)
  by_cases hn : n < 0
  · have e1 : Hid (decT n = 45 :: decN m) := Lib.hid (by rw [decT, if_pos hn, hm])
    have hneg : -n = (m : Int) := by omega
    have q1 : ((m : Int) / 1000) = ((m / 1000 : Nat) : Int) := by omega
    have q2 : 1000 + ((m : Int) % 1000) = ((1000 + m % 1000 : Nat) : Int) := by omega
    have hd : decide (n < 0) = true := by simpa using hn
    clear hm HN HT HPl
    generalize m / 1000 = m1 at q1 cF
    generalize 1000 + m % 1000 = m2 at q2 cG
    go_enter Tryz.func100, Tryz.ntmps100
    go_wp2_with fail
    refine (cF _ HP.out).mono ?_
    rintro e w1 ⟨rfl, hb1⟩
    go_wp2_with fail
    refine (cG _ (HP.out.below hb1)).mono ?_
    rintro e w2 ⟨rfl, hb2⟩
    go_wp2_with fail
    have n1 := N1.out
    have n2 := N2.out
    have n3 := N3.out
    have n4 := N4.out
    have n5 := N5.out
    have n6 := N6.out
    have n7 := N7.out
    have n8 := N8.out
    go_quiet ((go_at_call 131; exact Calls.quiet_of_same (cT _)))
    go_wp2
    go_ret
    have hb3 := hb1.trans (hb2.mono hb1.size)
    refine ⟨?_, hb3.trans ((below_drewN w2 nq).mono hb3.size)⟩
    rw [e1.out]
    exact congrArg (fun s => Ending.returned (.string s)) (Hfin.out ⟨#[45]⟩)
  · have e1 : Hid (decT n = decN m) := Lib.hid (by rw [decT, if_neg hn, hm])
    obtain rfl : n = (m : Int) := by omega
    have q1 : ((m : Int) / 1000) = ((m / 1000 : Nat) : Int) := by omega
    have q2 : 1000 + ((m : Int) % 1000) = ((1000 + m % 1000 : Nat) : Int) := by omega
    have hd : decide ((m : Int) < 0) = false := by simp
    clear hm HN HT HPl h0 h1 hn
    generalize m / 1000 = m1 at q1 cF
    generalize 1000 + m % 1000 = m2 at q2 cG
    go_enter Tryz.func100, Tryz.ntmps100
    go_wp2_with fail
    refine (cF _ HP.out).mono ?_
    rintro e w1 ⟨rfl, hb1⟩
    go_wp2_with fail
    refine (cG _ (HP.out.below hb1)).mono ?_
    rintro e w2 ⟨rfl, hb2⟩
    go_wp2_with fail
    have n1 := N1.out
    have n2 := N2.out
    have n3 := N3.out
    have n4 := N4.out
    have n5 := N5.out
    have n6 := N6.out
    have n7 := N7.out
    have n8 := N8.out
    go_quiet ((go_at_call 131; exact Calls.quiet_of_same (cT _)))
    go_wp2
    go_ret
    have hb3 := hb1.trans (hb2.mono hb1.size)
    refine ⟨?_, hb3.trans ((below_drewN w2 nq).mono hb3.size)⟩
    rw [e1.out]
    exact congrArg (fun s => Ending.returned (.string s)) (Hfin.out ⟨#[]⟩)

theorem encL_len : ∀ l : List UInt8, (encL l).length = (l.length + 2) / 3 * 4
  | [] => rfl
  | [_] => by simp [encL]
  | [_, _] => by simp [encL]
  | x :: y :: z :: r => by
    have := encL_len r
    simp only [encL, List.length_cons, this]
    omega

/-- A text with its quotes and backslashes escaped. -/
def escL : List UInt8 → List UInt8
  | [] => []
  | c :: r => if escI c.toNat then 92 :: c :: escL r else c :: escL r
def strT (l : List UInt8) : List UInt8 := 34 :: (escL l ++ [34])

theorem escL_len : ∀ l : List UInt8, (escL l).length ≤ 2 * l.length
  | [] => Nat.le_refl _
  | c :: r => by
    have := escL_len r
    unfold escL
    split <;> simp only [List.length_cons] <;> omega

set_option maxRecDepth 100000 in
set_option maxHeartbeats 4000000 in
theorem stringText_any (s : ByteArray) (w : World) (hs : s.size ≤ 100000) :
    Calls Tryz.prog 101 #[.string s] w fun e w' => e = .returned (.string (strB (strT s.data.toList))) ∧ Below w.heap.size w w' := by
  obtain ⟨i0, hi, hz0, hz1, hz2⟩ := info_parts info_u8
  have ap := fun (a : UInt8) (W : World) (v : Value) (acc : List UInt8) (h : W.ownsRow w.heap.size 5 1 v acc.length (acc.map u8V)) => h
  have hb0 : Below w.heap.size w (w.alloc (.cells #[.int .u8 34] 5)) := (Below.refl _ _).alloc (Nat.le_refl _) _
  have hown0 : (w.alloc (.cells #[.int .u8 34] 5)).ownsRow w.heap.size 5 1 (.slice (some ⟨w.heap.size, 0, none⟩) 1 1) 1 [.int .u8 34] := World.ownsRow_lit w #[.int .u8 34] 1 (Nat.le_refl _) (by decide) rfl
  clear ap
  have Hown0 := Lib.hid hown0
  clear hown0
  go_enter Tryz.func101, Tryz.ntmps101
  go_wp2_with fail
  go_loopw [3, 8] (fun v i wr => ∃ (k : Nat) (acc : List UInt8), i = .int .i64 k ∧ k ≤ s.size ∧ acc.length ≤ 2 * k + 1 ∧ Hid (34 :: escL s.data.toList = acc ++ escL (s.data.toList.drop k)) ∧ wr.ownsRow w.heap.size 5 1 v acc.length (acc.map u8V) ∧ Below w.heap.size w wr) (fun _ i _ => s.size - (intOf i).toNat)
  case atStart => exact ⟨0, [34], rfl, by omega, by simp, Lib.hid rfl, Hown0.out, hb0⟩
  case round =>
    obtain ⟨k, acc, rfl, hk, hal, H, hown, hb⟩ := hrel
    clear hb0 Hown0
    by_cases hlt : k < s.size
    · have Hdr := Lib.hid (drop_cons_at s k hlt)
      have cE := fun W => isEscaped_any (s[k].toNat : Int) W
      cases he : escI (s[k].toNat : Int)
      · have He := Lib.hid he
        rw [he] at cE
        clear he
        go_wp2_with (first | (go_at_call 132; refine (cE _).mono ?_; rintro e w' ⟨rfl, rfl⟩) | (at_builtin; refine wpList_append_own _ rfl _ _ 118 rfl w.heap.size 5 i0 (.int .u8 0) 1 1 Tryz.underlying118 hi hz0 hz1 hz2 rfl (by decide) _ _ _ rfl (hown.alloc _) ⟨_, 0, none⟩ 1 1 [.int .u8 (s[k].toNat : Int)] rfl rfl (cells_new _ _ _) (by simp [Value.oneCell']) (by unfold maxLen; omega) (by omega) (by have := hb.size; simp; omega) ?_; intro v' w2 hown' hgrow _))
        go_roundw
        case rel =>
          have hz3 := hb.size
          refine ⟨k + 1, acc ++ [s[k]], by go_num, by omega, by simp; omega, Lib.hid ?_, by simpa [u8V] using hown', ?_⟩
          · rw [H.out, Hdr.out, escL, if_neg (by simp [He.out]), List.append_assoc]; rfl
          · exact (hb.alloc (by omega) _).grown hgrow (by simp; omega) (fun k e => (World.ownsRow.lt hown k e).1)
        case measure => simp [intOf]; omega
      · have He := Lib.hid he
        rw [he] at cE
        clear he
        go_wp2_with (first | (go_at_call 132; refine (cE _).mono ?_; rintro e w' ⟨rfl, rfl⟩) | (at_builtin; refine wpList_append_own _ rfl (.tmp 15) _ 118 rfl w.heap.size 5 i0 (.int .u8 0) 1 1 Tryz.underlying118 hi hz0 hz1 hz2 rfl (by decide) _ _ _ rfl (hown.alloc _) ⟨_, 0, none⟩ 1 1 [.int .u8 92] rfl rfl (cells_new _ _ _) (by simp [Value.oneCell']) (by unfold maxLen; omega) (by omega) (by have := hb.size; simp; omega) ?_; intro v1 w1 hown1 hgrow1 _; have hb1 : Below w.heap.size w w1 := (hb.alloc (by have := hb.size; omega) _).grown hgrow1 (by have := hb.size; simp; omega) (fun k e => (World.ownsRow.lt hown k e).1)) | (at_builtin; refine wpList_append_own _ rfl (.tmp 18) _ 118 rfl w.heap.size 5 i0 (.int .u8 0) 1 1 Tryz.underlying118 hi hz0 hz1 hz2 rfl (by decide) _ _ _ rfl (hown1.alloc _) ⟨_, 0, none⟩ 1 1 [.int .u8 (s[k].toNat : Int)] rfl rfl (cells_new _ _ _) (by simp [Value.oneCell']) (by unfold maxLen; omega) (by omega) (by have := hb1.size; simp; omega) ?_; intro v' w2 hown' hgrow _))
        go_roundw
        case rel =>
          have hz3 := hb1.size
          refine ⟨k + 1, acc ++ [92, s[k]], by go_num, by omega, by simp; omega, Lib.hid ?_, by simpa [u8V] using hown', ?_⟩
          · rw [H.out, Hdr.out, escL, if_pos He.out, List.append_assoc]; rfl
          · exact (hb1.alloc (by omega) _).grown hgrow (by simp; omega) (fun k e => (World.ownsRow.lt hown1 k e).1)
        case measure => simp [intOf]; omega
    · have Hd : Hid (34 :: escL s.data.toList = acc) := Lib.hid (by rw [H.out, List.drop_of_length_le (by rw [← Lib.size_eq]; omega), escL, List.append_nil])
      go_wp2_with (at_builtin; refine wpList_append_own _ rfl _ _ 118 rfl w.heap.size 5 i0 (.int .u8 0) 1 1 Tryz.underlying118 hi hz0 hz1 hz2 rfl (by decide) _ _ _ rfl (hown.alloc _) ⟨_, 0, none⟩ 1 1 [.int .u8 34] rfl rfl (cells_new _ _ _) (by simp [Value.oneCell']) (by unfold maxLen; omega) (by omega) (by have := hb.size; simp; omega) ?_; intro v' w2 hown' hgrow _; have hcv := run_owned_str (P := Tryz.prog) (l := acc ++ [34]) Tryz.underlying118 Tryz.underlying5 Tryz.underlying9 (by simpa [u8V] using hown'))
      go_ret
      refine ⟨?_, (hb.alloc (by have := hb.size; omega) _).grown hgrow (by have := hb.size; simp; omega) (fun k e => (World.ownsRow.lt hown k e).1)⟩
      rw [strT, ← List.cons_append, Hd.out]
      rfl

end Go.Proofs.YtcjnigmklijjiaaGreatDoor

namespace Go.Proofs.YtcjnigmklijjiaaGreatDoor
open Go.RowKit

/-- The text of a bare item that is valid. -/
def textL (k n : Int) (s : List UInt8) : List UInt8 :=
  if k = 1 then Lib.itoa n else if k = 2 then decT n else if k = 3 then strT s else if k = 4 then s else if k = 5 then 58 :: (encL s ++ [58]) else 63 :: Lib.itoa n

def printL (k n : Int) (s : List UInt8) : Option (List UInt8) := if rightL k n s then some (textL k n s) else none

/-- A text and OK, or none and ErrForm. -/
def textV (o : Option (List UInt8)) : Value := match o with
  | some b => .tuple #[.string (strB b), .int .i64 0]
  | none => .tuple #[.string (strB []), .int .i64 2]

def printPost (v : Value) (w : World) (e : Ending) (w' : World) : Prop := e = .returned v ∧ Below w.heap.size w w'

theorem right_kind (k n : Int) (s : List UInt8) (h : rightL k n s = true) : ((k = 1 ∨ k = 2) ∧ s = [] ∧ -1000000000000000 < n ∧ n < 1000000000000000) ∨ (k = 6 ∧ s = [] ∧ (n = 0 ∨ n = 1)) ∨ (k = 3 ∧ n = 0 ∧ prL s = true) ∨ (k = 4 ∧ n = 0 ∧ s ≠ [] ∧ tlen s = s.length) ∨ (k = 5 ∧ n = 0) := by
  unfold rightL inNum at h
  split at h
  · rename_i hk
    simp at h
    exact .inl ⟨hk, h.1, h.2.1, h.2.2⟩
  · split at h
    · rename_i hk
      simp at h
      exact .inr (.inl ⟨hk, h.1, h.2⟩)
    · split at h
      · rename_i hk
        simp at h
        exact .inr (.inr (.inl ⟨hk, h.1, h.2⟩))
      · split at h
        · rename_i hk
          simp at h
          exact .inr (.inr (.inr (.inl ⟨hk, h.1, h.2.1, h.2.2⟩)))
        · split at h
          · rename_i hk
            simp at h
            exact .inr (.inr (.inr (.inr ⟨hk, h⟩)))
          · cases h

set_option maxRecDepth 100000 in
set_option maxHeartbeats 4000000 in
theorem print_any (k n : Int) (s : ByteArray) (w : World) (hs : s.size ≤ 100000) (hn : -9223372036854775808 ≤ n ∧ n ≤ 9223372036854775807) (hA : Alph w) (hP : Pow w) :
    Calls Tryz.prog 55 #[.agg #[.int .i64 k, .int .i64 n, .string s]] w (printPost (textV (printL k n s.data.toList)) w) := by
  have HA := Lib.hid hA
  have HP := Lib.hid hP
  clear hA hP
  have cR := fun W => right_any k n s W hs
  have hb0 : Below w.heap.size w (w.alloc (.cells #[.int .i64 k, .int .i64 n, .string s] 23)) := (Below.refl _ _).alloc (Nat.le_refl _) _
  have cell0 : ∀ W, Below (w.heap.size + 1) (w.alloc (.cells #[.int .i64 k, .int .i64 n, .string s] 23)) W → (W.cell? ⟨w.heap.size, 0, none⟩ = some (.int .i64 k) ∧ W.cell? ⟨w.heap.size, 1, none⟩ = some (.int .i64 n) ∧ W.cell? ⟨w.heap.size, 2, none⟩ = some (.string s)) ∧ w.heap.size < W.heap.size := by
    intro W hW
    refine ⟨⟨?_, ?_, ?_⟩, ?_⟩
    · rw [hW.cell (p := ⟨w.heap.size, 0, none⟩) (by simp)]; simp
    · rw [hW.cell (p := ⟨w.heap.size, 1, none⟩) (by simp)]; simp
    · rw [hW.cell (p := ⟨w.heap.size, 2, none⟩) (by simp)]; simp
    · have := hW.size; simp at this; omega
  have Cell0 := Lib.hid cell0
  clear cell0
  cases hr : rightL k n s.data.toList
  · have Hpl : Hid (textV (printL k n s.data.toList) = .tuple #[.string ⟨#[]⟩, .int .i64 2]) := Lib.hid (by rw [printL, hr]; rfl)
    rw [hr] at cR
    rw [Hpl.out]
    clear hr
    go_enter Tryz.func55, Tryz.ntmps55
    go_wp2_with fail
    refine (cR _).mono ?_
    rintro e w1 ⟨rfl, hb1⟩
    go_wp2
    go_ret2
    exact ⟨rfl, hb0.trans (hb1.mono hb0.size)⟩
  · have hk := right_kind k n _ hr
    have Hpl : Hid (printL k n s.data.toList = some (textL k n s.data.toList)) := Lib.hid (by rw [printL, hr]; rfl)
    rw [hr] at cR
    rw [Hpl.out]
    clear hr
    rcases hk with ⟨rfl | rfl, _, g0, g1⟩ | ⟨rfl, _, g0⟩ | ⟨rfl, rfl, _⟩ | ⟨rfl, rfl, _, _⟩ | ⟨rfl, rfl⟩
    · have cF := fun W hW => fmt_any n hn.1 hn.2 W hW
      show Calls _ _ _ _ (printPost (.tuple #[.string (strB (Lib.itoa n)), .int .i64 0]) w)
      generalize strB (Lib.itoa n) = z at cF
      go_enter Tryz.func55, Tryz.ntmps55
      go_wp2_with fail
      refine (cR _).mono ?_
      rintro e w1 ⟨rfl, hb1⟩
      have hb1' := hb0.trans (hb1.mono hb0.size)
      obtain ⟨⟨q0, q1, q2⟩, q3⟩ := Cell0.out w1 (hb1.mono (by simp))
      clear hb1
      go_wp2_with fail
      refine (cF _ (HP.out.below hb1')).mono ?_
      rintro e w2 ⟨rfl, hb2⟩
      go_wp2
      go_ret2
      exact ⟨rfl, hb1'.trans (hb2.mono hb1'.size)⟩
    · have cF := fun W hW => decimalText_any n g0 g1 W hW
      show Calls _ _ _ _ (printPost (.tuple #[.string (strB (decT n)), .int .i64 0]) w)
      generalize strB (decT n) = z at cF
      go_enter Tryz.func55, Tryz.ntmps55
      go_wp2_with fail
      refine (cR _).mono ?_
      rintro e w1 ⟨rfl, hb1⟩
      have hb1' := hb0.trans (hb1.mono hb0.size)
      obtain ⟨⟨q0, q1, q2⟩, q3⟩ := Cell0.out w1 (hb1.mono (by simp))
      clear hb1
      go_wp2_with fail
      refine (cF _ (HP.out.below hb1')).mono ?_
      rintro e w2 ⟨rfl, hb2⟩
      go_wp2
      go_ret2
      exact ⟨rfl, hb1'.trans (hb2.mono hb1'.size)⟩
    · have cF := fun W hW => fmt_any n hn.1 hn.2 W hW
      have Hfin : Hid ((⟨#[63]⟩ : ByteArray) ++ strB (Lib.itoa n) = strB (63 :: Lib.itoa n)) := Lib.hid (strB_append [63] _)
      have hz : (strB (Lib.itoa n)).size ≤ 10 := by
        rw [strB_size]
        rcases g0 with rfl | rfl <;> simp [Lib.itoa, Lib.decDigits_one]
      show Calls _ _ _ _ (printPost (.tuple #[.string (strB (63 :: Lib.itoa n)), .int .i64 0]) w)
      generalize strB (63 :: Lib.itoa n) = y at Hfin
      generalize strB (Lib.itoa n) = z at cF Hfin hz
      go_enter Tryz.func55, Tryz.ntmps55
      go_wp2_with fail
      refine (cR _).mono ?_
      rintro e w1 ⟨rfl, hb1⟩
      have hb1' := hb0.trans (hb1.mono hb0.size)
      obtain ⟨⟨q0, q1, q2⟩, q3⟩ := Cell0.out w1 (hb1.mono (by simp))
      clear hb1
      go_wp2_with fail
      refine (cF _ (HP.out.below hb1')).mono ?_
      rintro e w2 ⟨rfl, hb2⟩
      go_wp2
      go_ret2
      exact ⟨by rw [← Hfin.out]; rfl, hb1'.trans (hb2.mono hb1'.size)⟩
    · have cF := fun W => stringText_any s W hs
      show Calls _ _ _ _ (printPost (.tuple #[.string (strB (strT s.data.toList)), .int .i64 0]) w)
      generalize strB (strT s.data.toList) = z at cF
      go_enter Tryz.func55, Tryz.ntmps55
      go_wp2_with fail
      refine (cR _).mono ?_
      rintro e w1 ⟨rfl, hb1⟩
      have hb1' := hb0.trans (hb1.mono hb0.size)
      obtain ⟨⟨q0, q1, q2⟩, q3⟩ := Cell0.out w1 (hb1.mono (by simp))
      clear hb1
      go_wp2_with fail
      refine (cF _).mono ?_
      rintro e w2 ⟨rfl, hb2⟩
      go_wp2
      go_ret2
      exact ⟨rfl, hb1'.trans (hb2.mono hb1'.size)⟩
    · show Calls _ _ _ _ (printPost (.tuple #[.string (strB s.data.toList), .int .i64 0]) w)
      rw [strB_of]
      go_enter Tryz.func55, Tryz.ntmps55
      go_wp2_with fail
      refine (cR _).mono ?_
      rintro e w1 ⟨rfl, hb1⟩
      have hb1' := hb0.trans (hb1.mono hb0.size)
      obtain ⟨⟨q0, q1, q2⟩, q3⟩ := Cell0.out w1 (hb1.mono (by simp))
      clear hb1
      go_wp2
      go_ret2
      exact ⟨rfl, hb1'⟩
    · have cF := fun W hW => encode_any s W (by omega) hW
      have Hfin : Hid (((⟨#[58]⟩ : ByteArray) ++ strB (encL s.data.toList)) ++ (⟨#[58]⟩ : ByteArray) = strB (58 :: (encL s.data.toList ++ [58]))) := Lib.hid (by
        rw [show (⟨#[58]⟩ : ByteArray) = strB [58] from rfl, strB_append, strB_append]; rfl)
      have hz : (strB (encL s.data.toList)).size ≤ 1000000 := by
        have := encL_len s.data.toList
        rw [← Lib.size_eq] at this
        rw [strB_size]; omega
      show Calls _ _ _ _ (printPost (.tuple #[.string (strB (58 :: (encL s.data.toList ++ [58]))), .int .i64 0]) w)
      generalize strB (58 :: (encL s.data.toList ++ [58])) = y at Hfin
      generalize strB (encL s.data.toList) = z at cF Hfin hz
      go_enter Tryz.func55, Tryz.ntmps55
      go_wp2_with fail
      refine (cR _).mono ?_
      rintro e w1 ⟨rfl, hb1⟩
      have hb1' := hb0.trans (hb1.mono hb0.size)
      obtain ⟨⟨q0, q1, q2⟩, q3⟩ := Cell0.out w1 (hb1.mono (by simp))
      clear hb1
      go_wp2_with fail
      refine (cF _ (HA.out.below hb1')).mono ?_
      rintro e w2 ⟨rfl, hb2⟩
      go_wp2
      go_ret2
      exact ⟨by rw [← Hfin.out]; rfl, hb1'.trans (hb2.mono hb1'.size)⟩

end Go.Proofs.YtcjnigmklijjiaaGreatDoor

namespace Go.Proofs.YtcjnigmklijjiaaGreatDoor
open Go.RowKit

/-- What a reader hands out: a bare item, its length and OK, or nothing and ErrForm. -/
structure Got where
  k : Int
  n : Int
  s : List UInt8
  m : Nat

def gotV (o : Option Got) : Value := match o with
  | some g => .tuple #[.agg #[.int .i64 g.k, .int .i64 g.n, .string (strB g.s)], .int .i64 (g.m : Int), .int .i64 0]
  | none => .tuple #[.agg #[.int .i64 0, .int .i64 0, .string ⟨#[]⟩], .int .i64 0, .int .i64 2]

def gotPost (v : Value) (w : World) (e : Ending) (w' : World) : Prop := e = .returned v ∧ Below w.heap.size w w'

set_option maxHeartbeats 1000000 in
theorem noItem_any (w : World) : Calls Tryz.prog 139 #[] w (gotPost (gotV none) w) := by
  go_enter Tryz.func139, Tryz.ntmps139
  go_wp2
  exact bodyPost_ret (v := gotV none) (by simp [results, Tryz.results139, go_sem, gotV]) rfl ⟨rfl, (Below.refl _ _).alloc (Nat.le_refl _) _⟩

def readBoolL (l : List UInt8) : Option Got := match l with
  | _ :: c :: _ => if c == 48 || c == 49 then some ⟨6, (c.toNat : Int) - 48, [], 2⟩ else none
  | _ => none

set_option maxHeartbeats 2000000 in
theorem readBoolean_any (s : ByteArray) (w : World) (hs : s.size ≤ 100000) :
    Calls Tryz.prog 145 #[.string s] w (gotPost (gotV (readBoolL s.data.toList)) w) := by
  have cN := fun W => noItem_any W
  have hb0 : Below w.heap.size w (w.alloc (.cells #[.int .i64 0, .int .i64 0, .string ⟨#[]⟩] 23)) := (Below.refl _ _).alloc (Nat.le_refl _) _
  have Hno : ∀ w1, Below (w.alloc (.cells #[.int .i64 0, .int .i64 0, .string ⟨#[]⟩] 23)).heap.size (w.alloc (.cells #[.int .i64 0, .int .i64 0, .string ⟨#[]⟩] 23)) w1 → (w1.cell? ⟨w.heap.size, 0, none⟩ = some (.int .i64 0) ∧ w1.cell? ⟨w.heap.size, 1, none⟩ = some (.int .i64 0) ∧ w1.cell? ⟨w.heap.size, 2, none⟩ = some (.string ⟨#[]⟩)) ∧ (w1.frozen? ⟨w.heap.size, 0, none⟩ = false ∧ w1.frozen? ⟨w.heap.size, 1, none⟩ = false ∧ w1.frozen? ⟨w.heap.size, 2, none⟩ = false) := by
    intro w1 hb
    refine ⟨⟨?_, ?_, ?_⟩, ?_, ?_, ?_⟩
    · rw [hb.cell (p := ⟨w.heap.size, 0, none⟩) (by simp)]; simp
    · rw [hb.cell (p := ⟨w.heap.size, 1, none⟩) (by simp)]; simp
    · rw [hb.cell (p := ⟨w.heap.size, 2, none⟩) (by simp)]; simp
    · rw [hb.frozen (p := ⟨w.heap.size, 0, none⟩) (by simp)]; simp
    · rw [hb.frozen (p := ⟨w.heap.size, 1, none⟩) (by simp)]; simp
    · rw [hb.frozen (p := ⟨w.heap.size, 2, none⟩) (by simp)]; simp
  have HNo := Lib.hid Hno
  clear Hno
  by_cases h2 : 2 ≤ s.size
  · have h1 : 1 < s.size := by omega
    have e0 := drop_cons_at s 0 (by omega)
    have e1 := drop_cons_at s 1 h1
    rw [List.drop_zero] at e0
    rw [e0, e1]
    have b0 : (((s[1]'h1).toNat : Int) == 48) = (s[1]'h1 == 48) := byte_beq _ 48
    have b1 : (((s[1]'h1).toNat : Int) == 49) = (s[1]'h1 == 49) := byte_beq _ 49
    clear e0 e1
    have hd : decide (s.size < 2) = false := by simp; omega
    rw [readBoolL, ← b0, ← b1]
    clear b0 b1
    cases g0 : (((s[1]'h1).toNat : Int) == 48) <;> cases g1 : (((s[1]'h1).toNat : Int) == 49)
    · have n0 : (((s[1]'h1).toNat : Int) != 48) = true := by rw [bne, g0]; rfl
      have n1 : (((s[1]'h1).toNat : Int) != 49) = true := by rw [bne, g1]; rfl
      clear g0 g1
      show Calls _ _ _ _ (gotPost (gotV none) w)
      go_enter Tryz.func145, Tryz.ntmps145
      go_wp2_with fail
      refine (cN _).mono ?_
      rintro e w1 ⟨rfl, hb1⟩
      obtain ⟨⟨p0, p1, p2⟩, f0, f1, f2⟩ := HNo.out w1 hb1
      have hb1' := hb0.trans (hb1.mono hb0.size)
      clear hb1
      simp only [gotV]
      go_wp2
      exact bodyPost_ret (v := gotV none) (by simp [results, Tryz.results145, go_sem, gotV, p0, p1, p2]) rfl ⟨rfl, ((hb1'.setCell (by simp) _).setCell (by simp) _).setCell (by simp) _⟩
    all_goals
      first
      | (exfalso; simp only [beq_iff_eq] at g0 g1; omega)
      | (have hc : 48 ≤ ((s[1]'h1).toNat : Int) ∧ ((s[1]'h1).toNat : Int) ≤ 49 := by
           simp only [beq_iff_eq, beq_eq_false_iff_ne, ne_eq] at g0 g1; omega
         obtain ⟨k0, k1⟩ := hc
         have n0 : (((s[1]'h1).toNat : Int) != 48) = !(((s[1]'h1).toNat : Int) == 48) := rfl
         have n1 : (((s[1]'h1).toNat : Int) != 49) = !(((s[1]'h1).toNat : Int) == 49) := rfl
         rw [g0] at n0
         rw [g1] at n1
         clear g0 g1
         simp only [Bool.not_true, Bool.not_false] at n0 n1
         show Calls _ _ _ _ (gotPost (gotV (some ⟨6, ((s[1]'h1).toNat : Int) - 48, [], 2⟩)) w)
         go_enter Tryz.func145, Tryz.ntmps145
         go_wp2
         exact bodyPost_ret (v := gotV (some ⟨6, ((s[1]'h1).toNat : Int) - 48, [], 2⟩)) (by simp [results, Tryz.results145, go_sem, gotV, strB]) rfl ⟨rfl, (Below.refl _ _).alloc (Nat.le_refl _) _⟩)
  · have hd : decide (s.size < 2) = true := by simp; omega
    have hn : readBoolL s.data.toList = none := by
      have hl : s.data.toList.length < 2 := by rw [← Lib.size_eq]; omega
      match hq : s.data.toList, hl with
      | [], _ => rfl
      | [_], _ => rfl
    rw [hn]
    clear hn
    go_enter Tryz.func145, Tryz.ntmps145
    go_wp2_with fail
    refine (cN _).mono ?_
    rintro e w1 ⟨rfl, hb1⟩
    obtain ⟨⟨p0, p1, p2⟩, f0, f1, f2⟩ := HNo.out w1 hb1
    have hb1' := hb0.trans (hb1.mono hb0.size)
    clear hb1
    simp only [gotV]
    go_wp2
    exact bodyPost_ret (v := gotV none) (by simp [results, Tryz.results145, go_sem, gotV, p0, p1, p2]) rfl ⟨rfl, ((hb1'.setCell (by simp) _).setCell (by simp) _).setCell (by simp) _⟩

end Go.Proofs.YtcjnigmklijjiaaGreatDoor

namespace Go.Proofs.YtcjnigmklijjiaaGreatDoor
open Go.RowKit

/-- What stands ahead of the first such byte, and whether there is one. -/
def cutV (l : List UInt8) (c : UInt8) : Value :=
  if Lib.indexByte l c = -1 then .tuple #[.string (strB l), .string ⟨#[]⟩, .bool false]
  else .tuple #[.string (strB (l.take (Lib.indexByte l c).toNat)), .string (strB (l.drop ((Lib.indexByte l c).toNat + 1))), .bool true]

def cutPost (v : Value) (w : World) (e : Ending) (w' : World) : Prop := e = .returned v ∧ Below w.heap.size w w'

theorem index_le (l : List UInt8) (c : UInt8) (h : Lib.indexByte l c ≠ -1) : 0 ≤ Lib.indexByte l c ∧ (Lib.indexByte l c).toNat < l.length := by
  have h1 := Lib.indexByte_ge l c
  have h2 : 0 ≤ Lib.indexByte l c := by omega
  refine ⟨h2, ?_⟩
  obtain ⟨o, ho⟩ := Int.eq_ofNat_of_zero_le h2
  obtain ⟨h3, _⟩ := Lib.indexByte_some (l := l) (c := c) (o := o) ho
  rw [ho]
  exact (List.getElem?_eq_some_iff.1 h3).1

set_option maxHeartbeats 1000000 in
theorem slCut_any (s : ByteArray) (c : UInt8) (w : World) (hs : s.size ≤ 100000) :
    Calls Tryz.prog 173 #[.string s, .string ⟨#[c]⟩] w (cutPost (cutV s.data.toList c) w) := by
  have cI := (Tryz.stringslite_Index_one s c w).mono (R' := fun e w' => e = .returned (.int .i64 (Lib.indexByte s.data.toList c)) ∧ w = w') (fun e w' h => ⟨h.1, h.2.symm⟩)
  by_cases h : Lib.indexByte s.data.toList c = -1
  · have hv : cutV s.data.toList c = .tuple #[.string s, .string ⟨#[]⟩, .bool false] := by rw [cutV, if_pos h, strB_of]
    rw [hv]
    rw [h] at cI
    clear hv h
    go_enter Tryz.func173, Tryz.ntmps173
    go_wp2_with (go_at_call 179; refine cI.mono ?_; rintro e w' ⟨rfl, rfl⟩)
    exact bodyPost_ret (v := .tuple #[.string s, .string ⟨#[]⟩, .bool false]) (by simp [results, Tryz.results173, go_sem]) rfl ⟨rfl, Below.refl _ _⟩
  · obtain ⟨h0, h1⟩ := index_le _ _ h
    rw [← Lib.size_eq] at h1
    obtain ⟨o, ho⟩ := Int.eq_ofNat_of_zero_le h0
    have hv : cutV s.data.toList c = .tuple #[.string (s.extract 0 o), .string (s.extract (o + 1) s.size), .bool true] := by
      rw [cutV, if_neg h, ho, Int.toNat_natCast, ← extract_take, ← Lib.extract_to_end, strB_of, strB_of]
    rw [hv]
    rw [ho] at cI h1
    rw [Int.toNat_natCast] at h1
    clear hv h h0 ho
    have hge : decide ((0 : Int) ≤ (o : Int)) = true := by simp
    have W1 : Hid (IntKind.i64.wrap ((o : Int) + 1) = (o : Int) + 1) := Lib.hid (IntWalk.i64_in _ (by omega))
    have T1 : Hid (((o : Int) + 1).toNat = o + 1) := Lib.hid (by omega)
    have L1 : Hid ((0 : Int) ≤ (o : Int) + 1) := Lib.hid (by omega)
    have L2 : Hid ((o : Int) + 1 ≤ (s.size : Int)) := Lib.hid (by omega)
    have L3 : Hid ((o : Int) ≤ (s.size : Int)) := Lib.hid (by omega)
    go_enter Tryz.func173, Tryz.ntmps173
    go_wp2_with (go_at_call 179; refine cI.mono ?_; rintro e w' ⟨rfl, rfl⟩)
    have a1 := W1.out
    have a2 := T1.out
    have a3 := L1.out
    have a4 := L2.out
    have a5 := L3.out
    have a6 : o ≤ s.size := by omega
    go_quiet (fail)
    clear a1 a2 a3 a4 a5
    go_wp2
    exact bodyPost_ret (v := .tuple #[.string (s.extract 0 o), .string (s.extract (o + 1) s.size), .bool true]) (by simp [results, Tryz.results173, go_sem]) rfl ⟨rfl, below_drewN _ _⟩

set_option maxHeartbeats 1000000 in
theorem cut_any (s : ByteArray) (c : UInt8) (w : World) (hs : s.size ≤ 100000) :
    Calls Tryz.prog 161 #[.string s, .string ⟨#[c]⟩] w (cutPost (cutV s.data.toList c) w) := by
  have cS := slCut_any s c w hs
  have hex : ∃ a b r, cutV s.data.toList c = .tuple #[.string a, .string b, .bool r] := by
    rw [cutV]
    split
    · exact ⟨_, _, _, rfl⟩
    · exact ⟨_, _, _, rfl⟩
  obtain ⟨a, b, r, he⟩ := hex
  rw [he] at cS ⊢
  clear he
  go_enter Tryz.func161, Tryz.ntmps161
  go_wp2_with (go_at_call 173; refine cS.mono ?_; rintro e w1 ⟨rfl, hb1⟩)
  exact bodyPost_ret (v := .tuple #[.string a, .string b, .bool r]) (by simp [results, Tryz.results161, go_sem]) rfl ⟨rfl, hb1⟩

end Go.Proofs.YtcjnigmklijjiaaGreatDoor

namespace Go.Proofs.YtcjnigmklijjiaaGreatDoor
open Go.RowKit

abbrev zeroBare : Obj := .cells #[.int .i64 0, .int .i64 0, .string ⟨#[]⟩] 23

theorem no_cells (w w1 : World) (hb : Below (w.alloc zeroBare).heap.size (w.alloc zeroBare) w1) : (w1.cell? ⟨w.heap.size, 0, none⟩ = some (.int .i64 0) ∧ w1.cell? ⟨w.heap.size, 1, none⟩ = some (.int .i64 0) ∧ w1.cell? ⟨w.heap.size, 2, none⟩ = some (.string ⟨#[]⟩)) ∧ (w1.frozen? ⟨w.heap.size, 0, none⟩ = false ∧ w1.frozen? ⟨w.heap.size, 1, none⟩ = false ∧ w1.frozen? ⟨w.heap.size, 2, none⟩ = false) := by
  refine ⟨⟨?_, ?_, ?_⟩, ?_, ?_, ?_⟩
  · rw [hb.cell (p := ⟨w.heap.size, 0, none⟩) (by simp)]; simp
  · rw [hb.cell (p := ⟨w.heap.size, 1, none⟩) (by simp)]; simp
  · rw [hb.cell (p := ⟨w.heap.size, 2, none⟩) (by simp)]; simp
  · rw [hb.frozen (p := ⟨w.heap.size, 0, none⟩) (by simp)]; simp
  · rw [hb.frozen (p := ⟨w.heap.size, 1, none⟩) (by simp)]; simp
  · rw [hb.frozen (p := ⟨w.heap.size, 2, none⟩) (by simp)]; simp

def readBytesL (l : List UInt8) : Option Got :=
  if Lib.indexByte (l.drop 1) 58 = -1 then none
  else match decL ((l.drop 1).take (Lib.indexByte (l.drop 1) 58).toNat) with
    | none => none
    | some b => some ⟨5, 0, b, (Lib.indexByte (l.drop 1) 58).toNat + 2⟩

set_option maxRecDepth 100000 in
set_option maxHeartbeats 4000000 in
theorem readBytes_any (s : ByteArray) (w : World) (h0 : 0 < s.size) (hs : s.size ≤ 100000) (hA : Alph w) :
    Calls Tryz.prog 144 #[.string s] w (gotPost (gotV (readBytesL s.data.toList)) w) := by
  have HA := Lib.hid hA
  clear hA
  have cN := fun W => noItem_any W
  have hb0 : Below w.heap.size w (w.alloc zeroBare) := (Below.refl _ _).alloc (Nat.le_refl _) _
  have hx : (s.extract 1 s.size).data.toList = s.data.toList.drop 1 := Lib.extract_to_end s 1
  have hxs : (s.extract 1 s.size).size ≤ 100000 := by rw [Lib.size_eq, hx, List.length_drop, ← Lib.size_eq]; omega
  have cC := fun W => cut_any (s.extract 1 s.size) 58 W hxs
  rw [hx] at cC
  by_cases hi : Lib.indexByte (s.data.toList.drop 1) 58 = -1
  · have hr : readBytesL s.data.toList = none := by rw [readBytesL, if_pos hi]
    have hv : cutV (s.data.toList.drop 1) 58 = .tuple #[.string (s.extract 1 s.size), .string ⟨#[]⟩, .bool false] := by rw [cutV, if_pos hi, ← hx, strB_of]
    rw [hr]
    rw [hv] at cC
    clear hr hv hi hx hxs
    go_enter Tryz.func144, Tryz.ntmps144
    go_wp2_with fail
    refine (cC _).mono ?_
    rintro e w1 ⟨rfl, hb1⟩
    go_wp2_with fail
    refine (cN _).mono ?_
    rintro e w2 ⟨rfl, hb2⟩
    have hb12 := hb1.trans (hb2.mono hb1.size)
    obtain ⟨⟨p0, p1, p2⟩, f0, f1, f2⟩ := no_cells w w2 hb12
    have hb3 := hb0.trans (hb12.mono hb0.size)
    clear hb1 hb2 hb12
    simp only [gotV]
    go_wp2
    exact bodyPost_ret (v := gotV none) (by simp [results, Tryz.results144, go_sem, gotV, p0, p1, p2]) rfl ⟨rfl, ((hb3.setCell (by simp) _).setCell (by simp) _).setCell (by simp) _⟩
  · obtain ⟨i0, i1⟩ := index_le _ _ hi
    obtain ⟨o, ho⟩ := Int.eq_ofNat_of_zero_le i0
    have hv : cutV (s.data.toList.drop 1) 58 = .tuple #[.string (strB ((s.data.toList.drop 1).take o)), .string (strB ((s.data.toList.drop 1).drop (o + 1))), .bool true] := by
      rw [cutV, if_neg hi, ho, Int.toNat_natCast]
    rw [hv] at cC
    have hr : readBytesL s.data.toList = match decL ((s.data.toList.drop 1).take o) with
        | none => none
        | some b => some ⟨5, 0, b, o + 2⟩ := by rw [readBytesL, if_neg hi, ho, Int.toNat_natCast]
    rw [hr]
    have hol : ((s.data.toList.drop 1).take o).length = o := by
      rw [ho, Int.toNat_natCast] at i1
      rw [List.length_take]; omega
    have hoz : (strB ((s.data.toList.drop 1).take o)).size = o := by rw [strB_size, hol]
    have hob : o ≤ 100000 := by
      rw [ho, Int.toNat_natCast, ← hx, ← Lib.size_eq] at i1; omega
    have cD := fun W hW => decode_any (strB ((s.data.toList.drop 1).take o)) W (by omega) hW
    rw [strB_data] at cD
    generalize strB ((s.data.toList.drop 1).drop (o + 1)) = z at cC
    generalize decL ((s.data.toList.drop 1).take o) = r at cD
    generalize strB ((s.data.toList.drop 1).take o) = t at cC cD hoz
    have Hoz := Lib.hid hoz
    clear hv hr hi i0 i1 ho hol hx hxs hoz
    cases r with
    | none =>
      simp only [decV] at cD
      show Calls _ _ _ _ (gotPost (gotV none) w)
      go_enter Tryz.func144, Tryz.ntmps144
      go_wp2_with fail
      refine (cC _).mono ?_
      rintro e w1 ⟨rfl, hb1⟩
      go_wp2_with fail
      refine (cD _ (HA.out.below (hb0.trans (hb1.mono hb0.size)))).mono ?_
      rintro e w2 ⟨rfl, hb2⟩
      go_wp2_with fail
      refine (cN _).mono ?_
      rintro e w3 ⟨rfl, hb3⟩
      have hb12 := hb1.trans (hb2.mono hb1.size)
      have hb13 := hb12.trans (hb3.mono hb12.size)
      obtain ⟨⟨p0, p1, p2⟩, f0, f1, f2⟩ := no_cells w w3 hb13
      have hb4 := hb0.trans (hb13.mono hb0.size)
      clear hb1 hb2 hb3 hb12 hb13
      simp only [gotV]
      go_wp2
      exact bodyPost_ret (v := gotV none) (by simp [results, Tryz.results144, go_sem, gotV, p0, p1, p2]) rfl ⟨rfl, ((hb4.setCell (by simp) _).setCell (by simp) _).setCell (by simp) _⟩
    | some b =>
      simp only [decV] at cD
      show Calls _ _ _ _ (gotPost (gotV (some ⟨5, 0, b, o + 2⟩)) w)
      have ho2 := Hoz.out
      go_enter Tryz.func144, Tryz.ntmps144
      go_wp2_with fail
      refine (cC _).mono ?_
      rintro e w1 ⟨rfl, hb1⟩
      go_wp2_with fail
      refine (cD _ (HA.out.below (hb0.trans (hb1.mono hb0.size)))).mono ?_
      rintro e w2 ⟨rfl, hb2⟩
      have hb12 := hb1.trans (hb2.mono hb1.size)
      obtain ⟨⟨p0, p1, p2⟩, f0, f1, f2⟩ := no_cells w w2 hb12
      have hb4 := hb0.trans (hb12.mono hb0.size)
      clear hb1 hb2 hb12
      go_wp2
      exact bodyPost_ret (v := gotV (some ⟨5, 0, b, o + 2⟩)) (by simp [results, Tryz.results144, go_sem, gotV, p0, p1, p2]) rfl ⟨rfl, ((hb4.setCell (by simp) _).setCell (by simp) _).setCell (by simp) _⟩

end Go.Proofs.YtcjnigmklijjiaaGreatDoor
