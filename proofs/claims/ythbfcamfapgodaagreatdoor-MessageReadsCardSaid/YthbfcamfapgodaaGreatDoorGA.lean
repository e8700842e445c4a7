/- A byte as a value. · Plain: texts are the same just where their bytes are. · Plain: the decimal digits of a number. · The powers of ten lie; decimal digits of a number. · (for a seat without Digits) The contract of ascii.Lower. · Plain: what strings.TrimFunc makes of a text where only spaces and tabs are to go: the text without the blanks at its two ends. No program is named. -/
import Derived.Test.YthbfcamfapgodaaGreatDoorG2
import Derived.Test.YthbfcamfapgodaaGreatDoorShelf
import Derived.Test.YthbfcamfapgodaaGreatDoorG1
import Derived.Lib.ItoaNum
import Derived.Lib.AppendIntMem
import Derived.Laws.IdiomStrings
import Derived.Lib.TrimUEq
import Derived.Shelf.GgClosure.StringsTrimFunc

namespace Go.Proofs.YthbfcamfapgodaaGreatDoor

def bytV (c : UInt8) : Value := .int .u8 c.toNat

end Go.Proofs.YthbfcamfapgodaaGreatDoor

namespace Go.Proofs.YthbfcamfapgodaaGreatDoor
open Go.RowKit

theorem name_eq (a b : List UInt8) : ((strB a).toList == (strB b).toList) = decide (b = a) := by
  rewrite [Lib.toList_data, Lib.toList_data, strB_data, strB_data]
  by_cases h : b = a
  · subst h; simp
  · rewrite [decide_eq_false h, beq_eq_false_iff_ne]
    exact fun e => h e.symm

end Go.Proofs.YthbfcamfapgodaaGreatDoor

namespace Go.Proofs.YthbfcamfapgodaaGreatDoor
open Go.RowKit

theorem dec_small (n : Nat) (h : n < 10) : Lib.decDigits n = [UInt8.ofNat (48 + n)] := Lib.decDigits_one h
theorem dec_big (n : Nat) (h : ¬ n < 10) : Lib.decDigits n = Lib.decDigits (n / 10) ++ Lib.decDigits (n % 10) := by
  rw [dec_small (n % 10) (by omega), Lib.decDigits, dif_neg h]
theorem dec_len : ∀ (k n : Nat), n < 10 ^ (k + 1) → (Lib.decDigits n).length ≤ k + 1
  | 0, n, h => by rewrite [dec_small n (by simpa using h)]; exact Nat.le_refl _
  | k + 1, n, h => by
    by_cases h1 : n < 10
    · rewrite [dec_small n h1]; exact Nat.succ_le_succ (Nat.zero_le _)
    · have := dec_len k (n / 10) (Nat.div_lt_of_lt_mul (by rw [Nat.pow_succ] at h; omega))
      rewrite [dec_big n h1, List.length_append, dec_small (n % 10) (by omega)]
      simp only [List.length_cons, List.length_nil]
      omega

theorem dig_nat (i : Nat) (h : i < 10) : (UInt8.ofNat (48 + i)).toNat = 48 + i := by
  rewrite [UInt8.toNat_ofNat']
  omega
theorem dec_all (n : Nat) : digAll (Lib.decDigits n) = true := by
  induction n using Nat.strongRecOn with
  | _ n ih =>
    have h1 : ∀ i, i < 10 → digAll (Lib.decDigits i) = true := fun i hi => by
      rewrite [dec_small i hi, digAll, List.all_cons, List.all_nil, Bool.and_true, dig_nat i hi, digI_iff]
      omega
    by_cases h : n < 10
    · exact h1 n h
    · rewrite [dec_big n h, digAll, List.all_append]
      have a := ih (n / 10) (by omega)
      have b := h1 (n % 10) (by omega)
      rw [digAll] at a b
      rewrite [a, b]
      rfl
theorem dec_ne (n : Nat) : Lib.decDigits n ≠ [] := by
  by_cases h : n < 10
  · rewrite [dec_small n h]; simp
  · rewrite [dec_big n h, dec_small (n % 10) (by omega)]; simp
theorem dec_num (n : Nat) (hn : n < 2147483648) : digN (Lib.decDigits n) = (n : Int) := by
  induction n using Nat.strongRecOn with
  | _ n ih =>
    by_cases h : n < 10
    · rewrite [dec_small n h]
      show digStep 0 _ = _
      unfold digStep
      rewrite [dig_nat n h]
      omega
    · have a := ih (n / 10) (by omega) (by omega)
      unfold digN at a ⊢
      rewrite [dec_big n h, dec_small (n % 10) (by omega), List.foldl_append, a]
      show digStep _ _ = _
      unfold digStep
      rewrite [dig_nat _ (by omega)]
      omega
theorem dec_digitsB (n : Nat) : digitsB (Lib.decDigits n) = true := by
  rewrite [digitsB, dec_all, Bool.true_and]
  have := dec_ne n
  cases hd : Lib.decDigits n with
  | nil => exact absurd hd this
  | cons c r => rfl
theorem dec_digitsN (n : Nat) (hn : n < 2147483648) : digitsN (Lib.decDigits n) = (n : Int) := by
  rw [digitsN, if_pos (dec_all n), dec_num n hn]

end Go.Proofs.YthbfcamfapgodaaGreatDoor

namespace Go.Proofs.YthbfcamfapgodaaGreatDoor
open Go.RowKit

/-- The powers of ten lie where they were laid. -/
def Pow (w : World) : Prop := Lib.TabIs Tryz.prog w "internal/strconv.uint64pow10" .u64 Lib.pow10Tab
theorem Pow.below {w w' : World} (h : Pow w) (hb : Below w.heap.size w w') : Pow w' := Lib.tabBelow_of_tabIs h w' hb

theorem itoa_nat (n : Nat) : Lib.itoa (n : Int) = Lib.decDigits n := by
  rw [Lib.itoa, if_neg (by omega)] <;> rfl

end Go.Proofs.YthbfcamfapgodaaGreatDoor

namespace Go.Proofs.YthbfcamfapgodaaGreatDoor
open Go.RowKit

/-- A byte in lower case. -/
def lowB (c : UInt8) : UInt8 := if upI c.toNat then c + 32 else c
def lowTo (l : List UInt8) (k : Nat) : List UInt8 := (l.take k).map lowB ++ l.drop k
def lowL (l : List UInt8) : List UInt8 := l.map lowB

theorem lowTo_length (l : List UInt8) (k : Nat) : (lowTo l k).length = l.length := by
  simp [lowTo]; omega
theorem lowTo_zero (l : List UInt8) : lowTo l 0 = l := by simp [lowTo]
theorem lowTo_end (l : List UInt8) (k : Nat) (h : l.length ≤ k) : lowTo l k = lowL l := by
  simp [lowTo, lowL, List.take_of_length_le h, List.drop_of_length_le h]
theorem lowTo_at (l : List UInt8) (k : Nat) (h : k < l.length) : (lowTo l k).getD k 0 = l[k] := by
  have h1 : ((l.take k).map lowB).length = k := by simp; omega
  rewrite [lowTo, List.getD_eq_getElem?_getD, List.getElem?_append_right (by omega), h1]
  simp [h]
theorem lowTo_succ (l : List UInt8) (k : Nat) (h : k < l.length) : lowTo l (k + 1) = (lowTo l k).set k (lowB l[k]) := by
  have h1 : ((l.take k).map lowB).length = k := by simp; omega
  rewrite [lowTo, lowTo, List.set_append_right _ _ (by omega), h1, Nat.sub_self, List.take_succ_eq_append_getElem h, List.drop_eq_getElem_cons h, List.map_append, List.set_cons_zero, List.append_assoc]
  rfl
theorem upI_iff (c : Int) : upI c = true ↔ 65 ≤ c ∧ c ≤ 90 := by simp [upI]
theorem lowB_up (c : UInt8) (h : upI c.toNat = true) : ((lowB c).toNat : Int) = (c.toNat : Int) - 65 + 97 := by
  rewrite [lowB, if_pos h]
  obtain ⟨a, b⟩ := (upI_iff _).1 h
  rewrite [UInt8.toNat_add]
  simp
  omega
theorem lowB_not (c : UInt8) (h : upI c.toNat = false) : lowB c = c := by rw [lowB, if_neg (by simp [h])]
theorem set_same (l : List UInt8) (k : Nat) (h : k < l.length) : l.set k (l.getD k 0) = l := by
  rewrite [List.getD_eq_getElem?_getD, List.getElem?_eq_getElem h]
  simp

/-- A row of memory that holds just these bytes, and may be written. -/
def RowIs (w : World) (b : Nat) (l : List UInt8) : Prop := ∀ j, j < l.length → w.cell? ⟨b, j, none⟩ = some (.int .u8 ((l.getD j 0).toNat : Int)) ∧ w.frozen? ⟨b, j, none⟩ = false

theorem RowIs.set {w : World} {b : Nat} {l : List UInt8} (h : RowIs w b l) (k : Nat) (c : UInt8) (n : Int) (hn : (c.toNat : Int) = n) : RowIs (w.setCell ⟨b, k, none⟩ (.int .u8 n)) b (l.set k c) := by
  intro j hj
  rw [List.length_set] at hj
  refine ⟨?_, by rewrite [World.frozen?_setCell]; exact (h j hj).2⟩
  by_cases e : k = j
  · subst e
    rewrite [World.cell?_setCell_same w _ _ (h k hj).1, ← hn]
    simp [hj]
  · rewrite [World.cell?_setCell_other w _ _ _ (by intro q; exact e (by injection q)), (h j hj).1]
    simp [e]

theorem RowIs.of_bytes (w : World) (s : ByteArray) (cap : Nat) (e : TypeId) (h : s.size ≤ cap) : RowIs (w.drew.alloc (.cells (bytesRow s cap) e ((bytesRow s cap).size, (bytesRow s cap).size + 1))) w.heap.size s.data.toList := by
  intro j hj
  have hj' : j < s.data.size := by simpa using hj
  have hz : (bytesRow s cap).size = cap := by
    unfold bytesRow
    have : s.data.size = s.size := rfl
    simp
    omega
  refine ⟨?_, ?_⟩
  · rewrite [show w.heap.size = w.drew.heap.size from rfl, World.cell?_alloc_mark, bytesRow_at s cap j hj']
    rw [List.getD_eq_getElem?_getD, Array.getElem?_toList, Array.getElem?_eq_getElem hj', Option.getD_some]
  · rewrite [show w.heap.size = w.drew.heap.size from rfl, World.frozen?_alloc_mark, hz]
    have : s.data.size = s.size := rfl
    simp
    omega

set_option maxHeartbeats 1000000 in
theorem lower_any (s : ByteArray) (w : World) (hs : s.size ≤ maxLen) :
    Calls Tryz.prog 57 #[.string s] w fun e w' => e = .returned (.string ⟨(lowL s.data.toList).toArray⟩) ∧ Below w.heap.size w w' := by
  unfold maxLen at hs
  have hcap := grownCap_ge w s.size 0 5
  have hconv := run_bytes_of_string (P := Tryz.prog) w 9 24 5 s Tryz.underlying9 Tryz.underlying24 Tryz.underlying5
  have R0 := RowIs.of_bytes w s _ 5 hcap
  have hb0 : Below w.heap.size w (w.drew.alloc (.cells (bytesRow s (grownCap w s.size 0 5)) 5 ((bytesRow s (grownCap w s.size 0 5)).size, (bytesRow s (grownCap w s.size 0 5)).size + 1))) := (Below.refl _ _).drew.alloc (Nat.le_refl _) _
  generalize grownCap w s.size 0 5 = cap at hcap hconv R0 hb0
  generalize (Obj.cells (bytesRow s cap) 5 ((bytesRow s cap).size, (bytesRow s cap).size + 1)) = ob at hconv R0 hb0
  go_enter Tryz.func57, Tryz.ntmps57
  go_wp2_with fail
  go_loopw [10] (fun i wr => ∃ k : Nat, k ≤ s.size ∧ i = .int .i64 k ∧ RowIs wr w.heap.size (lowTo s.data.toList k) ∧ Below w.heap.size w wr) (fun i _ => s.size - (intOf i).toNat)
  case atStart => exact ⟨0, by omega, rfl, by rewrite [lowTo_zero]; exact R0, hb0⟩
  case round =>
    obtain ⟨k, hk, rfl, R, hb⟩ := hrel
    clear hconv R0 hb0
    have hsz := Lib.size_eq s
    by_cases hlt : k < s.size
    · have hlk : k < (lowTo s.data.toList k).length := by rewrite [lowTo_length]; omega
      have hkl : k < s.data.toList.length := by omega
      clear hsz
      have hcell := (R k hlk).1
      have hfrz := (R k hlk).2
      rw [lowTo_at _ _ hkl] at hcell
      have Hsu := Lib.hid (lowTo_succ s.data.toList k hkl)
      have Hat := Lib.hid (lowTo_at s.data.toList k hkl)
      generalize s.data.toList[k] = c at hcell Hsu Hat
      have cU := isUpper_any (c.toNat : Int) wr
      cases hu : upI (c.toNat : Int)
      · rw [hu] at cU
        have Hlow := Lib.hid (lowB_not c hu)
        clear hu
        go_wp2_with (go_at_call 80; refine cU.mono ?_; rintro e w' ⟨rfl, rfl⟩)
        go_roundw
        case rel => exact ⟨k + 1, by omega, by go_num, by rewrite [Hsu.out, Hlow.out, ← Hat.out, set_same _ _ hlk]; exact R, hb⟩
        case measure => simp [intOf]; omega
      · rw [hu] at cU
        have Hlow := Lib.hid (lowB_up c hu)
        obtain ⟨h65, h90⟩ := (upI_iff _).1 hu
        clear hu
        go_wp2_with (go_at_call 80; refine cU.mono ?_; rintro e w' ⟨rfl, rfl⟩)
        go_roundw
        case rel => exact ⟨k + 1, by omega, by go_num, by rewrite [Hsu.out]; exact R.set k _ _ Hlow.out, hb.setCell (Nat.le_refl _) _⟩
        case measure => simp [intOf]; omega
    · have Hk : Hid (lowTo s.data.toList k = lowL s.data.toList) := Lib.hid (lowTo_end _ _ (by omega))
      have hback := run_convert_bytes_back (P := Tryz.prog) wr 24 9 5 ⟨w.heap.size, 0, none⟩ cap (lowL s.data.toList) Tryz.underlying24 Tryz.underlying5 Tryz.underlying9 (by
        intro j hj
        have h1 : j < (lowTo s.data.toList k).length := by rewrite [Hk.out]; exact hj
        have := (R j h1).1
        rw [Hk.out, List.getD_eq_getElem?_getD, List.getElem?_eq_getElem hj] at this
        rewrite [add_none]
        simpa using this)
      rw [show (lowL s.data.toList).length = s.size by rewrite [hsz]; simp [lowL]] at hback
      clear hsz
      go_wp2
      go_ret
      exact ⟨rfl, hb⟩

end Go.Proofs.YthbfcamfapgodaaGreatDoor

namespace Go.Proofs.YthbfcamfapgodaaGreatDoor

def blkR (r : Nat) : Bool := r == 32 || r == 9
def blkB (c : UInt8) : Bool := c == 32 || c == 9
def tlL (l : List UInt8) : List UInt8 := l.dropWhile blkB
def trL (l : List UInt8) : List UInt8 := (l.reverse.dropWhile blkB).reverse
/-- A text without the blanks at its beginning and end. -/
def trimL (l : List UInt8) : List UInt8 := trL (tlL l)

theorem blk_eq (c : UInt8) : blkR c.toNat = blkB c := by
  unfold blkR blkB
  rewrite [Bool.eq_iff_iff]
  simp only [Bool.or_eq_true, beq_iff_eq, ← UInt8.toNat_inj]
  rfl

theorem blkR_big (r : Nat) (h : 128 ≤ r) : blkR r = false := by
  unfold blkR; simp; omega

set_option maxRecDepth 100000 in
theorem decodeN_big (n b0 b1 b2 b3 : Nat) (h : 128 ≤ b0) : 128 ≤ (Lib.decodeN n b0 b1 b2 b3).1 := by
  unfold Lib.decodeN
  repeat' split
  all_goals first | (exfalso; omega) | (simp only; omega) | (simp only; decide)

theorem blk_decode (s : ByteArray) (pos : Nat) : blkR (Utf8.decode s pos).1 = blkB (s.data.toList.getD pos 0) ∧ (blkB (s.data.toList.getD pos 0) = true → (Utf8.decode s pos).2 = 1) := by
  rewrite [Lib.decode_N]
  by_cases h : (s.data.toList.getD pos 0).toNat < 128
  · rewrite [Lib.decodeN_ascii _ _ _ _ _ h]
    exact ⟨blk_eq _, fun _ => rfl⟩
  · have hb : blkB (s.data.toList.getD pos 0) = false := by rewrite [← blk_eq]; exact blkR_big _ (by omega)
    rewrite [blkR_big _ (decodeN_big _ _ _ _ _ (by omega)), hb]
    exact ⟨rfl, fun h => by cases h⟩

theorem getD_of_lt (l : List UInt8) (k : Nat) (h : k < l.length) : l.getD k 0 = l[k] := by
  rw [List.getD_eq_getElem?_getD, List.getElem?_eq_getElem h] <;> rfl

theorem left_is (s : ByteArray) : ∀ (f pos : Nat), s.size ≤ pos + f →
    tlL (s.data.toList.drop pos) = if Lib.idxFuncFrom blkR false s f pos = -1 then [] else s.data.toList.drop (Lib.idxFuncFrom blkR false s f pos).toNat
  | 0, pos, h => by
    rewrite [List.drop_of_length_le (by rewrite [← Lib.size_eq]; omega)]
    rfl
  | f + 1, pos, h => by
    unfold Lib.idxFuncFrom
    by_cases hp : pos < s.size
    · have hl : pos < s.data.toList.length := by rewrite [← Lib.size_eq]; exact hp
      rewrite [if_pos hp]
      obtain ⟨h1, h2⟩ := blk_decode s pos
      rewrite [h1]
      rw [getD_of_lt _ _ hl] at h2 ⊢
      have hd : s.data.toList.drop pos = s.data.toList[pos] :: s.data.toList.drop (pos + 1) := List.drop_eq_getElem_cons hl
      cases hb : blkB s.data.toList[pos]
      · simp only [if_true]
        rw [if_neg (by omega), Int.toNat_natCast, hd, tlL, List.dropWhile_cons_of_neg (by rewrite [hb]; decide)]
      · simp only [Bool.true_eq_false, if_false]
        rewrite [h2 hb, hd, tlL, List.dropWhile_cons_of_pos hb]
        exact left_is s f (pos + 1) (by omega)
    · rewrite [if_neg hp, if_pos rfl, List.drop_of_length_le (by rewrite [← Lib.size_eq]; omega)]
      rfl

theorem trimLeftF_is (s : ByteArray) : (Lib.trimLeftF blkR s).data.toList = tlL s.data.toList := by
  have h := left_is s s.size 0 (by omega)
  rw [List.drop_zero] at h
  rewrite [h]
  unfold Lib.trimLeftF Lib.idxFunc
  split
  · rfl
  · rw [Lib.extract_data, List.take_of_length_le (by rewrite [List.length_drop, ← Lib.size_eq]; exact Nat.le_refl _)]

theorem last_blank (l : List UInt8) (i : Nat) (hi : 0 < i) (hil : i ≤ l.length) :
    blkR (Lib.decodeLastL (l.take i)).1 = blkB (l.getD (i - 1) 0) ∧ (blkB (l.getD (i - 1) 0) = true → (Lib.decodeLastL (l.take i)).2 = 1) := by
  rcases Lib.last_cases l i hi hil with ⟨ha, hd⟩ | ⟨ha, hd⟩ | ⟨ha, st, hst, hd, hsum⟩
  · rewrite [hd]; exact ⟨blk_eq _, fun _ => rfl⟩
  · have hb : blkB (l.getD (i - 1) 0) = false := by rewrite [← blk_eq]; exact blkR_big _ (by omega)
    rewrite [hd, hb]; exact ⟨by decide, fun h => by cases h⟩
  · have hb : blkB (l.getD (i - 1) 0) = false := by rewrite [← blk_eq]; exact blkR_big _ (by omega)
    rewrite [hd, hb]
    refine ⟨?_, fun h => by cases h⟩
    rw [Lib.decodeL_N] at hsum ⊢
    rw [Lib.getD_dropU, Nat.add_zero, Lib.getD_takeU l i st hst] at hsum ⊢
    by_cases h0 : (l.getD st 0).toNat < 128
    · rw [Lib.decodeN_ascii _ _ _ _ _ h0] at hsum
      have : st = i - 1 := by simp only at hsum; omega
      rw [this] at h0
      omega
    · exact blkR_big _ (decodeN_big _ _ _ _ _ (by omega))

theorem trL_take (l : List UInt8) (i : Nat) (hi : 0 < i) (hil : i ≤ l.length) : trL (l.take i) = if blkB (l.getD (i - 1) 0) then trL (l.take (i - 1)) else l.take i := by
  obtain ⟨k, rfl⟩ : ∃ k, i = k + 1 := ⟨i - 1, by omega⟩
  have hk : k < l.length := by omega
  rewrite [Nat.add_sub_cancel, getD_of_lt _ _ hk, List.take_succ_eq_append_getElem hk]
  unfold trL
  rewrite [List.reverse_append, List.reverse_singleton, List.singleton_append]
  cases hb : blkB l[k]
  · rewrite [List.dropWhile_cons_of_neg (by simp [hb])]; simp
  · rewrite [List.dropWhile_cons_of_pos hb]; simp

theorem right_is (s : ByteArray) : ∀ (f i : Nat), i ≤ f → i ≤ s.data.toList.length → Lib.OpenAt s.data.toList i →
    trL (s.data.toList.take i) = s.data.toList.take (if 0 ≤ Lib.lastIdxFuncFrom blkR false s f i then (Lib.lastIdxFuncFrom blkR false s f i).toNat + (Lib.decodeL (s.data.toList.drop (Lib.lastIdxFuncFrom blkR false s f i).toNat)).2 else 0)
  | 0, i, hf, _, _ => by
    obtain rfl : i = 0 := by omega
    simp [trL, Lib.lastIdxFuncFrom]
  | f + 1, i, hf, hil, ho => by
    by_cases hi : 0 < i
    · obtain ⟨h1, h2⟩ := last_blank s.data.toList i hi hil
      rewrite [trL_take _ i hi hil]
      simp only [Lib.lastIdxFuncFrom, if_pos hi, h1]
      cases hb : blkB (s.data.toList.getD (i - 1) 0) with
      | true =>
        rewrite [h2 hb]
        simp only [if_true, Bool.true_eq_false, if_false]
        exact right_is s f (i - 1) (by omega) (by omega) (.inr (by
          intro hc
          have : blkR (s.data.toList.getD (i - 1) 0).toNat = true := by rewrite [blk_eq]; exact hb
          rw [blkR_big _ (by omega)] at this
          cases this))
      | false =>
        have hw := Lib.decodeLastL_width (s.data.toList.take i) (by rewrite [List.length_take]; omega)
        rw [List.length_take, Nat.min_eq_left hil] at hw
        simp only [Bool.false_eq_true, if_false, if_true]
        rw [if_pos (by omega), Int.toNat_natCast, Lib.fw_width _ i hi hil ho, Nat.sub_add_cancel hw.2]
    · obtain rfl : i = 0 := by omega
      rewrite [Lib.lastIdxFuncFrom_zero]
      simp [trL]

theorem lastIdx_lt (p : Nat → Bool) (s : ByteArray) : ∀ (f i : Nat), i ≤ s.size → Lib.lastIdxFuncFrom p false s f i = -1 ∨ (0 ≤ Lib.lastIdxFuncFrom p false s f i ∧ Lib.lastIdxFuncFrom p false s f i < i)
  | 0, _, _ => .inl rfl
  | f + 1, i, hi => by
    unfold Lib.lastIdxFuncFrom
    split
    · rename_i h0
      have hw := Lib.decodeLastL_width (s.data.toList.take i) (by rewrite [List.length_take, ← Lib.size_eq]; omega)
      rw [List.length_take, ← Lib.size_eq, Nat.min_eq_left hi] at hw
      split
      · exact .inr ⟨by omega, by omega⟩
      · rcases lastIdx_lt p s f (i - (Lib.decodeLastL (s.data.toList.take i)).2) (by omega) with h | h
        · exact .inl h
        · exact .inr ⟨h.1, by omega⟩
    · exact .inl rfl

theorem trimRightF_is (s : ByteArray) : (Lib.trimRightF blkR s).data.toList = trL s.data.toList := by
  have h := right_is s s.size s.size (Nat.le_refl _) (by rewrite [← Lib.size_eq]; exact Nat.le_refl _) (.inl (Lib.size_eq s))
  rw [List.take_of_length_le (by rewrite [← Lib.size_eq]; exact Nat.le_refl _)] at h
  rewrite [h]
  unfold Lib.trimRightF Lib.rightEndF Lib.lastIdxFunc
  rewrite [Lib.extract_data, List.drop_zero, Nat.sub_zero]
  split
  · rename_i h0
    rcases lastIdx_lt blkR s s.size s.size (Nat.le_refl _) with hm | hlt
    · omega
    · have hx : s.extract (Lib.lastIdxFuncFrom blkR false s s.size s.size).toNat s.size = ⟨(s.data.toList.drop (Lib.lastIdxFuncFrom blkR false s s.size s.size).toNat).toArray⟩ := by
        rw [Lib.extract_eq, List.take_of_length_le (by rewrite [List.length_drop, ← Lib.size_eq]; exact Nat.le_refl _)]
      have hxs : (⟨(s.data.toList.drop (Lib.lastIdxFuncFrom blkR false s s.size s.size).toNat).toArray⟩ : ByteArray).size ≠ 0 := by
        rewrite [Lib.size_eq]
        simp only [List.length_drop]
        rewrite [← Lib.size_eq]
        omega
      rewrite [hx]
      unfold Lib.decodeGoB Lib.decodeL
      rw [if_neg hxs]
  · rfl

theorem trimF_is (s : ByteArray) : (Lib.trimF blkR s).data.toList = trimL s.data.toList := by
  unfold Lib.trimF trimL
  rw [trimRightF_is, trimLeftF_is]

end Go.Proofs.YthbfcamfapgodaaGreatDoor
