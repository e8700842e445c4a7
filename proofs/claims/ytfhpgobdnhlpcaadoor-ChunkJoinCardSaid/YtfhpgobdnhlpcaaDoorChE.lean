/- The contracts of chunk.sizeOf, readLine, dataOf. -/
import Derived.Test.YtfhpgobdnhlpcaaDoorChD
namespace Go.Proofs.YtfhpgobdnhlpcaaDoor
open Go.RowKit Go.Shelf Go.Lib

/-- The digits with which a line begins, and what stands behind them. -/
def digsL (l : List UInt8) : List UInt8 := if Lib.indexAny l sepL < 0 then l else l.take (Lib.indexAny l sepL).toNat
def restL (l : List UInt8) : List UInt8 := if Lib.indexAny l sepL < 0 then [] else l.drop (Lib.indexAny l sepL).toNat
/-- The size that a line tells, if it is one. -/
def sizeL (l : List UInt8) : Option Nat :=
  if 8 < (digsL l).length then none else match num16 (digsL l) with
    | .ok n => if extL (restL l) then some n else none
    | _ => none
def sizV : Option Nat → Value
  | some n => .tuple #[.int .i64 n, .bool true]
  | none => .tuple #[.int .i64 0, .bool false]
theorem num16_lt (l : List UInt8) (n j : Nat) (h : num16 l = .ok n) (hl : l.length ≤ j) : n < 16 ^ j := by
  unfold num16 at h
  split at h
  · cases h
  · by_cases he : l = []
    · contradiction
    · cases l with
      | nil => contradiction
      | cons c r =>
        have := par16_lt (c :: r) 0 n 0 h (by simp)
        rw [Nat.zero_add] at this
        exact Nat.lt_of_lt_of_le this (Nat.pow_le_pow_right (by omega) hl)
theorem sizeL_lt (l : List UInt8) (n : Nat) (h : sizeL l = some n) : n < 4294967296 := by
  unfold sizeL at h
  split at h
  · cases h
  · rename_i h8
    cases hn : num16 (digsL l) with
    | ok m =>
      rw [hn] at h
      dsimp only at h
      split at h
      · obtain rfl := Option.some.inj h
        have := num16_lt _ _ 8 hn (by omega)
        omega
      · cases h
    | error b => rw [hn] at h; cases h
theorem indexAny_lt (l : List UInt8) (h : ¬ Lib.indexAny l sepL < 0) : (Lib.indexAny l sepL).toNat < l.length := by
  induction l with
  | nil => exact absurd (by decide) h
  | cons c r ih =>
    rw [Lib.indexAny] at h ⊢
    by_cases hc : sepL.contains c = true
    · rw [if_pos hc]; simp
    · rw [if_neg hc] at h ⊢
      by_cases h2 : (Lib.indexAny r sepL == -1) = true
      · rw [if_pos h2] at h
        exact absurd (by decide) h
      · rw [if_neg h2] at h ⊢
        have h3 := Lib.indexAny_ge sepL r
        have h4 : ¬ Lib.indexAny r sepL = -1 := by simpa using h2
        have := ih (by omega)
        rw [List.length_cons]
        omega

theorem puiPost_shape {o : Except Bool Nat} {w w' : World} {e : Ending} (h : puiPost o w e w') : Below w.heap.size w w' ∧ ∃ (x : Int) (v : Value), e = .returned (.tuple #[.int .u64 x, v]) := by
  refine ⟨h.1, ?_⟩
  cases o with
  | ok n => exact ⟨_, _, h.2⟩
  | error b => obtain ⟨x, N, he⟩ := h.2; exact ⟨_, _, he⟩

set_option maxRecDepth 100000 in
set_option maxHeartbeats 4000000 in
theorem sizeOf_any (s : ByteArray) (w : World) (hs : s.size ≤ 100000) (hT : Tabs w) (hE : Errs w) :
    Calls Tryd.prog 63 #[.string s] w fun e w' => e = .returned (sizV (sizeL s.data.toList)) ∧ Below w.heap.size w w' := by
  have cI := indexAny_any s w hs
  have hsz := Lib.size_eq s
  obtain ⟨D, R, hD, hR, hw⟩ : ∃ D R : ByteArray, D.data.toList = digsL s.data.toList ∧ R.data.toList = restL s.data.toList ∧
      ((Lib.indexAny s.data.toList sepL < 0 ∧ D = s ∧ R = ⟨#[]⟩) ∨ ∃ k : Nat, Lib.indexAny s.data.toList sepL = (k : Int) ∧ k < s.size ∧ D = s.extract 0 k ∧ R = s.extract k s.size) := by
    by_cases h : Lib.indexAny s.data.toList sepL < 0
    · exact ⟨s, ⟨#[]⟩, by rw [digsL, if_pos h], by rw [restL, if_pos h], .inl ⟨h, rfl, rfl⟩⟩
    · have hlt := indexAny_lt _ h
      rw [← hsz] at hlt
      obtain ⟨k, hk⟩ := Int.eq_ofNat_of_zero_le (show 0 ≤ Lib.indexAny s.data.toList sepL by omega)
      rw [hk, Int.toNat_natCast] at hlt
      exact ⟨s.extract 0 k, s.extract k s.size, by rw [digsL, if_neg h, hk, Int.toNat_natCast, extract_take], by rw [restL, if_neg h, hk, Int.toNat_natCast, Lib.extract_to_end], .inr ⟨k, hk, hlt, rfl, rfl⟩⟩
  have hDs : D.size ≤ 100000 := by
    rw [Lib.size_eq, hD, digsL]
    split
    · omega
    · rw [List.length_take]; omega
  have hRs : R.size ≤ 100000 := by
    rw [Lib.size_eq, hR, restL]
    split
    · simp
    · rw [List.length_drop]; omega
  have cP := fun W h => pint_any D hDs W h
  have cX := fun W h => isExt_any R W hRs h
  have hS : sizeL s.data.toList = (if 8 < D.size then none else match num16 D.data.toList with
    | .ok n => if extL R.data.toList then some n else none
    | _ => none) := by rw [Lib.size_eq, hD, hR]; rfl
  have hN : ∀ n, num16 D.data.toList = .ok n → ¬ 8 < D.size → n < 4294967296 := fun n h h8 => by
    have := num16_lt _ _ 8 h (by rw [← Lib.size_eq]; omega)
    omega
  have HT := Lib.hid hT
  have HE := Lib.hid hE
  clear hD hR hT hE hsz
  generalize Lib.indexAny s.data.toList sepL = ix at *
  generalize num16 D.data.toList = O at *
  generalize extL R.data.toList = X at *
  go_enter Tryd.func63, Tryd.ntmps63
  go_wp2_with fail
  refine cI.mono ?_
  rintro e w1 ⟨rfl, hb1⟩
  have HB1 := Lib.hid hb1
  clear hb1 cI
  go_upto_if 13 with fail
  go_cut [4, 5] (fun d r wx => d = .string D ∧ r = .string R ∧ Below w.heap.size w wx)
  case first =>
    rcases hw with ⟨h0, rfl, rfl⟩ | ⟨k, rfl, hk, rfl, rfl⟩
    · have d : ¬ (0 : Int) ≤ ix := by omega
      clear hS hN cP cX
      go_wp2_with fail
      go_meet
      exact ⟨rfl, rfl, HB1.out⟩
    · have d : (0 : Int) ≤ (k : Int) := by omega
      have d2 : (k : Int) ≤ (s.size : Int) := by omega
      have d3 : k ≤ s.size := by omega
      clear hS hN cP cX
      go_wp2_with fail
      go_quiet (fail)
      all_goals
        go_wp2_with fail
        go_meet
        exact ⟨rfl, rfl, HB1.out.trans ((below_drewN _ _).mono HB1.out.size)⟩
  case rest =>
    obtain ⟨rfl, rfl, hbc⟩ := hcut
    have HBC := Lib.hid hbc
    clear hw HB1 hbc
    by_cases h8 : 8 < D.size
    · have HS : Hid (sizV (sizeL s.data.toList) = .tuple #[.int .i64 0, .bool false]) := Lib.hid (by rw [hS, if_pos h8]; rfl)
      have d : (8 : Int) < (D.size : Int) := by omega
      clear hS hN h8 cX
      go_wp2_with fail
      refine (cP _ (HE.out.below HBC.out)).mono ?_
      intro e w2 hp
      obtain ⟨hb2, x, v, rfl⟩ := puiPost_shape hp
      have HB2 := Lib.hid (HBC.out.trans (hb2.mono HBC.out.size))
      clear hb2 hp cP
      go_wp2_with fail
      exact bodyPost_ret (v := .tuple #[.int .i64 0, .bool false]) (by simp [results, Tryd.results63, go_sem]) rfl ⟨by rw [HS.out], HB2.out⟩
    · have d : ¬ (8 : Int) < (D.size : Int) := by omega
      rw [if_neg h8] at hS
      cases O with
      | ok n =>
        have hn := hN n rfl h8
        have hwr : IntKind.i64.wrap (n : Int) = (n : Int) := IntWalk.i64_in _ (by omega)
        dsimp only at hS
        cases X
        · have HS : Hid (sizV (sizeL s.data.toList) = .tuple #[.int .i64 0, .bool false]) := Lib.hid (by rw [hS]; rfl)
          clear hS hN h8
          go_wp2_with fail
          refine (cP _ (HE.out.below HBC.out)).mono ?_
          rintro e w2 ⟨hb2, rfl⟩
          have HB2 := Lib.hid (HBC.out.trans (hb2.mono HBC.out.size))
          clear hb2 cP
          go_wp2_with fail
          refine (cX _ (Utf8Tabs_below HT.out HB2.out)).mono ?_
          rintro e w3 ⟨rfl, hb3⟩
          have HB3 := Lib.hid (HB2.out.trans (hb3.mono HB2.out.size))
          clear hb3 cX
          go_wp2_with fail
          exact bodyPost_ret (v := .tuple #[.int .i64 0, .bool false]) (by simp [results, Tryd.results63, go_sem]) rfl ⟨by rw [HS.out], HB3.out⟩
        · have HS : Hid (sizV (sizeL s.data.toList) = .tuple #[.int .i64 n, .bool true]) := Lib.hid (by rw [hS]; rfl)
          clear hS hN h8
          go_wp2_with fail
          refine (cP _ (HE.out.below HBC.out)).mono ?_
          rintro e w2 ⟨hb2, rfl⟩
          have HB2 := Lib.hid (HBC.out.trans (hb2.mono HBC.out.size))
          clear hb2 cP
          go_wp2_with fail
          refine (cX _ (Utf8Tabs_below HT.out HB2.out)).mono ?_
          rintro e w3 ⟨rfl, hb3⟩
          have HB3 := Lib.hid (HB2.out.trans (hb3.mono HB2.out.size))
          clear hb3 cX
          go_wp2_with fail
          exact bodyPost_ret (v := .tuple #[.int .i64 n, .bool true]) (by simp [results, Tryd.results63, go_sem]) rfl ⟨by rw [HS.out], HB3.out⟩
      | error b =>
        have HS : Hid (sizV (sizeL s.data.toList) = .tuple #[.int .i64 0, .bool false]) := Lib.hid (by rw [hS]; rfl)
        clear hS hN h8 cX
        go_wp2_with fail
        refine (cP _ (HE.out.below HBC.out)).mono ?_
        rintro e w2 ⟨hb2, x, N, rfl⟩
        have HB2 := Lib.hid (HBC.out.trans (hb2.mono HBC.out.size))
        clear hb2 cP
        go_wp2_with fail
        exact bodyPost_ret (v := .tuple #[.int .i64 0, .bool false]) (by simp [results, Tryd.results63, go_sem]) rfl ⟨by rw [HS.out], HB2.out⟩

/-- The size that the line at the beginning tells, and the line's length with its end; or the error. -/
def rdL (l : List UInt8) : Except Int (Nat × Nat) :=
  if (lineL l).2 = 0 then (match sizeL (lineL l).1 with | none => .error 2 | some n => .ok (n, (lineL l).1.length + 2)) else .error (lineL l).2
def rdV : Except Int (Nat × Nat) → Value
  | .ok (n, k) => .tuple #[.int .i64 n, .int .i64 k, .int .i64 0]
  | .error e => .tuple #[.int .i64 0, .int .i64 0, .int .i64 e]

theorem lineL_len (l : List UInt8) : (lineL l).1.length ≤ 2000 := by
  unfold lineL
  split
  · simp
  · split
    · simp
    · split
      · simp
      · dsimp only; omega

set_option maxRecDepth 100000 in
set_option maxHeartbeats 4000000 in
theorem readLine_any (s : ByteArray) (w : World) (hs : s.size ≤ 100000) (hT : Tabs w) (hE : Errs w) :
    Calls Tryd.prog 44 #[.string s] w fun e w' => e = .returned (rdV (rdL s.data.toList)) ∧ Below w.heap.size w w' := by
  have cF := cfirst_any s w hs
  have hlen := lineL_len s.data.toList
  have hR : rdL s.data.toList = if (lineL s.data.toList).2 = 0 then (match sizeL (lineL s.data.toList).1 with | none => .error 2 | some n => .ok (n, (lineL s.data.toList).1.length + 2)) else .error (lineL s.data.toList).2 := rfl
  obtain ⟨⟨ln, er⟩, hp⟩ : ∃ p, lineL s.data.toList = p := ⟨_, rfl⟩
  rw [hp] at cF hR hlen
  dsimp only at hR hlen
  have cS := fun W h1 h2 => sizeOf_any (strB ln) W (by rw [strB_size]; omega) h1 h2
  rw [strB_data] at cS
  have hz := strB_size ln
  have HT := Lib.hid hT
  have HE := Lib.hid hE
  unfold lineV at cF
  dsimp only at cF
  clear hp hT hE
  by_cases he : er = 0
  · subst he
    rw [if_pos rfl] at hR
    cases ho : sizeL ln with
    | none =>
      rw [ho] at hR cS
      have HR : Hid (rdV (rdL s.data.toList) = .tuple #[.int .i64 0, .int .i64 0, .int .i64 2]) := Lib.hid (by rw [hR]; rfl)
      clear hR ho hz hlen
      generalize strB ln = SL at *
      unfold sizV at cS
      go_enter Tryd.func44, Tryd.ntmps44
      go_wp2_with fail
      refine cF.mono ?_
      rintro e w1 ⟨rfl, hb1⟩
      have HB1 := Lib.hid hb1
      clear hb1
      go_wp2_with fail
      refine (cS _ (Utf8Tabs_below HT.out HB1.out) (HE.out.below HB1.out)).mono ?_
      rintro e w2 ⟨rfl, hb2⟩
      have HB2 := Lib.hid (HB1.out.trans (hb2.mono HB1.out.size))
      clear hb2
      go_wp2_with fail
      exact bodyPost_ret (v := .tuple #[.int .i64 0, .int .i64 0, .int .i64 2]) (by simp [results, Tryd.results44, go_sem]) rfl ⟨by rw [HR.out], HB2.out⟩
    | some n =>
      rw [ho] at hR cS
      have hlI : (strB ln).size ≤ 2000 := by omega
      have HR : Hid (rdV (rdL s.data.toList) = .tuple #[.int .i64 n, .int .i64 (((strB ln).size : Int) + 2), .int .i64 0]) := Lib.hid (by rw [hR, hz]; rfl)
      clear hR ho hz hlen
      generalize strB ln = SL at *
      unfold sizV at cS
      go_enter Tryd.func44, Tryd.ntmps44
      go_wp2_with fail
      refine cF.mono ?_
      rintro e w1 ⟨rfl, hb1⟩
      have HB1 := Lib.hid hb1
      clear hb1
      go_wp2_with fail
      refine (cS _ (Utf8Tabs_below HT.out HB1.out) (HE.out.below HB1.out)).mono ?_
      rintro e w2 ⟨rfl, hb2⟩
      have HB2 := Lib.hid (HB1.out.trans (hb2.mono HB1.out.size))
      clear hb2
      go_wp2_with fail
      exact bodyPost_ret (v := .tuple #[.int .i64 n, .int .i64 ((SL.size : Int) + 2), .int .i64 0]) (by simp [results, Tryd.results44, go_sem]) rfl ⟨by rw [HR.out], HB2.out⟩
  · rw [if_neg he] at hR
    have HR : Hid (rdV (rdL s.data.toList) = .tuple #[.int .i64 0, .int .i64 0, .int .i64 er]) := Lib.hid (by rw [hR]; rfl)
    have d : (er != 0) = true := by simpa using he
    clear hR hz hlen cS
    generalize strB ln = SL at *
    go_enter Tryd.func44, Tryd.ntmps44
    go_wp2_with fail
    refine cF.mono ?_
    rintro e w1 ⟨rfl, hb1⟩
    go_wp2_with fail
    exact bodyPost_ret (v := .tuple #[.int .i64 0, .int .i64 0, .int .i64 er]) (by simp [results, Tryd.results44, go_sem]) rfl ⟨by rw [HR.out], hb1⟩

/-- The data of a chunk, or why there is none. -/
def datL (l : List UInt8) (k : Nat) : List UInt8 × Int :=
  if l.length < k + 2 then ([], 3) else if Lib.hasPrefix (l.drop k) [13, 10] = false then ([], 2) else (l.take k, 0)

set_option maxRecDepth 100000 in
set_option maxHeartbeats 4000000 in
theorem dataOf_any (s : ByteArray) (k : Nat) (w : World) (_ : s.size ≤ 100000) (hk : k ≤ 100000) :
    Calls Tryd.prog 46 #[.string s, .int .i64 k] w fun e w' => e = .returned (lineV (datL s.data.toList k)) ∧ w = w' := by
  have hD : datL s.data.toList k = if s.size < k + 2 then ([], 3) else if Lib.hasPrefix (s.data.toList.drop k) [13, 10] = false then ([], 2) else (s.data.toList.take k, 0) := by rw [Lib.size_eq]; rfl
  by_cases h : s.size < k + 2
  · rw [if_pos h] at hD
    have HD : Hid (lineV (datL s.data.toList k) = .tuple #[.string ⟨#[]⟩, .int .i64 3]) := Lib.hid (by rw [hD]; rfl)
    have d : (s.size : Int) < (k : Int) + 2 := by omega
    clear hD h
    go_enter Tryd.func46, Tryd.ntmps46
    go_wp2_with fail
    exact bodyPost_ret (v := .tuple #[.string ⟨#[]⟩, .int .i64 3]) (by simp [results, Tryd.results46, go_sem]) rfl ⟨by rw [HD.out], rfl⟩
  · rw [if_neg h] at hD
    have d : ¬ (s.size : Int) < (k : Int) + 2 := by omega
    have hk2 : k ≤ s.size := by omega
    have hkI : (k : Int) ≤ (s.size : Int) := by omega
    have cP := fun W => (Tryd.strings_HasPrefix (s.extract k s.size) ⟨#[13, 10]⟩ W).mono (R' := fun e w' => e = .returned (.bool (Lib.hasPrefix (s.extract k s.size).data.toList (⟨#[13, 10]⟩ : ByteArray).data.toList)) ∧ W = w') (fun e w' h => ⟨h.1, h.2.symm⟩)
    rw [Lib.extract_to_end, show (⟨#[13, 10]⟩ : ByteArray).data.toList = [13, 10] from rfl] at cP
    have hx : strB (s.data.toList.take k) = s.extract 0 k := by rw [← extract_take, strB_of]
    obtain ⟨b, hb⟩ : ∃ b, Lib.hasPrefix (s.data.toList.drop k) [13, 10] = b := ⟨_, rfl⟩
    rw [hb] at hD cP
    cases b
    · have HD : Hid (lineV (datL s.data.toList k) = .tuple #[.string ⟨#[]⟩, .int .i64 2]) := Lib.hid (by rw [hD]; rfl)
      clear hD h hb hx
      go_enter Tryd.func46, Tryd.ntmps46
      go_wp2_with fail
      refine (cP _).mono ?_
      rintro e w1 ⟨rfl, rfl⟩
      go_wp2_with fail
      exact bodyPost_ret (v := .tuple #[.string ⟨#[]⟩, .int .i64 2]) (by simp [results, Tryd.results46, go_sem]) rfl ⟨by rw [HD.out], rfl⟩
    · have HD : Hid (lineV (datL s.data.toList k) = .tuple #[.string (s.extract 0 k), .int .i64 0]) := Lib.hid (by rw [hD, ← hx]; rfl)
      clear hD h hb hx
      go_enter Tryd.func46, Tryd.ntmps46
      go_wp2_with fail
      refine (cP _).mono ?_
      rintro e w1 ⟨rfl, rfl⟩
      go_wp2_with fail
      exact bodyPost_ret (v := .tuple #[.string (s.extract 0 k), .int .i64 0]) (by simp [results, Tryd.results46, go_sem]) rfl ⟨by rw [HD.out], rfl⟩

end Go.Proofs.YtfhpgobdnhlpcaaDoor
