/- The contracts of package etag: endsTag, readTags, List. · The contract of package etag's List. -/
import Derived.Test.YtclgdmcbbphbcaaGreatDoorZMEvR
import Derived.Test.YtclgdmcbbphbcaaGreatDoorZMEuO
import Derived.Shelf.Strings.SlTrimAscii
import Derived.Shelf.Strings.Prefix

namespace Go.Proofs.YtclgdmcbbphbcaaGreatDoor
open Go.RowKit Go.Lib

theorem blk_set : (fun c => ([32, 9] : List UInt8).contains c) = blkE := by
  funext c
  simp only [List.contains, List.elem, blkE]
  cases c == 32 <;> cases c == 9 <;> rfl
theorem sep_set : (fun c => ([32, 9, 44] : List UInt8).contains c) = sepE := by
  funext c
  simp only [List.contains, List.elem, sepE, blkE]
  cases c == 32 <;> cases c == 9 <;> cases c == 44 <;> rfl
theorem tlB_any (s : ByteArray) (w : World) :
    Calls Tryz.prog 22 #[.string s, .string ⟨#[32, 9]⟩] w fun e w' => e = .returned (.string (strB (s.data.toList.dropWhile blkE))) ∧ Below w.heap.size w w' := by
  refine (Any.strings_TrimLeft_laid Tryz.lays161 (by kernel_rfl) s ⟨#[32, 9]⟩ w (by decide) (ascii_of_all (by decide))).mono ?_
  intro e w' h
  rw [show (⟨#[32, 9]⟩ : ByteArray).data.toList = [32, 9] from rfl, Lib.trimLeftS, blk_set] at h
  exact h
theorem tlC_any (s : ByteArray) (w : World) :
    Calls Tryz.prog 22 #[.string s, .string ⟨#[32, 9, 44]⟩] w fun e w' => e = .returned (.string (strB (skpE s.data.toList))) ∧ Below w.heap.size w w' := by
  refine (Any.strings_TrimLeft_laid Tryz.lays161 (by kernel_rfl) s ⟨#[32, 9, 44]⟩ w (by decide) (ascii_of_all (by decide))).mono ?_
  intro e w' h
  rw [show (⟨#[32, 9, 44]⟩ : ByteArray).data.toList = [32, 9, 44] from rfl, Lib.trimLeftS, sep_set] at h
  exact h
theorem tbB_any (s : ByteArray) (w : World) (hs : s.size ≤ 100000) :
    Calls Tryz.prog 20 #[.string s, .string ⟨#[32, 9]⟩] w fun e w' => e = .returned (.string (strB (Lib.trimS s.data.toList [32, 9]))) ∧ Below w.heap.size w w' :=
  Any.strings_Trim_laid Tryz.lays160 (by kernel_rfl) s ⟨#[32, 9]⟩ w (by omega) (by decide) (ascii_of_all (by decide))
theorem hpC_any (s : ByteArray) (w : World) :
    Calls Tryz.prog 57 #[.string s, .string ⟨#[44]⟩] w fun e w' => e = .returned (.bool (decide (s.data.toList.head? = some 44))) ∧ w = w' := by
  refine (Tryz.strings_HasPrefix s ⟨#[44]⟩ w).mono ?_
  rintro e w' ⟨rfl, rfl⟩
  refine ⟨?_, rfl⟩
  congr 2
  rw [show (⟨#[44]⟩ : ByteArray).data.toList = [44] from rfl]
  unfold Lib.hasPrefix
  cases hl : s.data.toList with
  | nil => rfl
  | cons d r =>
    rw [Bool.eq_iff_iff]
    simp only [List.isPrefixOf, Bool.and_true, beq_iff_eq, decide_eq_true_eq, List.head?_cons, Option.some.injEq]
    exact eq_comm
theorem endE_cons {l : List UInt8} {c : UInt8} {r : List UInt8} (h : l.dropWhile blkE = c :: r) : endE l = (c == 44) := by unfold endE; rw [h]
theorem endE_nil {l : List UInt8} (h : l.dropWhile blkE = []) : endE l = true := by unfold endE; rw [h]

set_option maxRecDepth 100000 in
set_option maxHeartbeats 4000000 in
theorem endsTag_any (s : ByteArray) (w : World) (_ : s.size ≤ 100000) :
    Calls Tryz.prog 40 #[.string s] w fun e w' => e = .returned (.bool (endE s.data.toList)) ∧ Below w.heap.size w w' := by
  have cT := fun W => tlB_any s W
  cases hd : s.data.toList.dropWhile blkE with
  | nil =>
    rw [endE_nil hd]
    rw [hd, show strB [] = (⟨#[]⟩ : ByteArray) from rfl] at cT
    clear hd
    go_enter Tryz.func40, Tryz.ntmps40
    go_wp2_with fail
    refine (cT _).mono ?_
    rintro e w2 ⟨rfl, hb⟩
    go_wp2_with fail
    go_ret
    exact ⟨rfl, hb⟩
  | cons c r =>
    rw [endE_cons hd]
    rw [hd] at cT
    have cH := fun W => hpC_any (strB (c :: r)) W
    rw [strB_data, show decide ((c :: r).head? = some 44) = (c == 44) from by rw [List.head?_cons, Bool.eq_iff_iff]; simp] at cH
    have hne : (strB (c :: r)).toList.isEmpty = false := by rw [Lib.toList_data, strB_data] <;> rfl
    clear hd
    generalize strB (c :: r) = X at *
    generalize (c == 44) = B at *
    go_enter Tryz.func40, Tryz.ntmps40
    go_wp2_with fail
    refine (cT _).mono ?_
    rintro e w2 ⟨rfl, hb⟩
    go_wp2_with fail
    refine (cH _).mono ?_
    rintro e w3 ⟨rfl, rfl⟩
    go_wp2_with fail
    go_ret
    exact ⟨rfl, hb⟩

/-- What readTags answers. -/
def rtPost (o : Option (List Tg)) (w : World) (e : Ending) (w' : World) : Prop := Below w.heap.size w w' ∧ match o with
  | none => e = .returned (.tuple #[.slice none 0 0, .int .i64 2])
  | some xs => ∃ u, e = .returned (.tuple #[u, .int .i64 0]) ∧ Tags w.heap.size w' u xs

/-- How long a text is, as a value. -/
def szV : Value → Nat
  | .string s => s.size
  | _ => 0
theorem info_etag : (Tryz.prog.info? 23).map (fun i => (i.zero, i.size, i.bytes)) = some (some (.agg #[.bool false, .string ⟨#[]⟩]), 2, 24) := by kernel_rfl

set_option maxRecDepth 100000 in
set_option maxHeartbeats 8000000 in
theorem readTags_any (L : List UInt8) (w : World) (hs : L.length ≤ 100000) (hh : ∀ c r, L = c :: r → sepE c = false) :
    Calls Tryz.prog 21 #[.string (strB L)] w (rtPost (lsW L []) w) := by
  obtain ⟨i0, hi, hz0, hz1, hz2⟩ := info_parts info_etag
  obtain ⟨Q, hQ⟩ : ∃ Q, rtPost (lsW L []) w = Q := ⟨_, rfl⟩
  have QN : Hid (∀ w', lsW L [] = none → Below w.heap.size w w' → Q (.returned (.tuple #[.slice none 0 0, .int .i64 2])) w') := Lib.hid (fun w' h hb => by rw [← hQ, h]; exact ⟨hb, rfl⟩)
  have QY : Hid (∀ w' u xs, lsW L [] = some xs → Below w.heap.size w w' → Tags w.heap.size w' u xs → Q (.returned (.tuple #[u, .int .i64 0])) w') := Lib.hid (fun w' u xs h hb ht => by rw [← hQ, h]; exact ⟨hb, _, rfl, ht⟩)
  rw [hQ]
  clear hQ
  obtain ⟨R0, hR0⟩ : ∃ R0, lsW L [] = R0 := ⟨_, rfl⟩
  have HR0 := Lib.hid hR0
  rw [hR0] at QN QY
  obtain ⟨S0, hS0⟩ : ∃ S0, strB L = S0 := ⟨_, rfl⟩
  rw [hS0]
  have HS0 := Lib.hid hS0
  have HH := Lib.hid hh
  clear hR0 hS0 hh
  go_enter Tryz.func21, Tryz.ntmps21
  go_wp2_with fail
  go_loopw [0, 4] (fun sv tv wr => ∃ (cur : List UInt8) (m : Nat) (ts : List Tg) (av : Option Addr) (cv : Nat), sv = .string (strB cur) ∧ tv = .slice av m cv ∧ ts.length = m ∧ m + cur.length ≤ L.length ∧ Hid (wr.ownsRow w.heap.size 23 2 (.slice av m cv) m (rowT ts)) ∧ Hid (lsW cur ts = R0) ∧ Hid (∀ c r, cur = c :: r → sepE c = false) ∧ Hid (Below w.heap.size w wr)) (fun sv _ _ => szV sv)
  case atStart => exact ⟨L, 0, [], none, 0, by rw [HS0.out], rfl, rfl, by omega, Lib.hid (World.ownsRow_nil _ _ _ _), HR0, HH, Lib.hid (Below.refl _ _)⟩
  case round =>
    obtain ⟨cur, m, ts, av, cv, rfl, rfl, hm, hml, HO, HL, HH2, HB⟩ := hrel
    clear HS0 HR0 HH
    cases hcur : cur with
    | nil =>
      have HN : Hid (R0 = some ts) := Lib.hid (by rw [← HL.out, hcur] <;> rfl)
      have HF := Lib.hid (Tags.of_own (lo := w.heap.size) (ds := ts) (by rw [hm]; exact HO.out) (Nat.le_refl _))
      rw [show strB [] = (⟨#[]⟩ : ByteArray) from rfl]
      clear hcur
      go_wp2_with fail
      exact QY.out _ _ _ HN.out HB.out HF.out
    | cons c0 r0 =>
      have hlw := lsW_take cur ts HH2.out (by rw [hcur]; simp)
      have hne : (strB cur).toList.isEmpty = false := by rw [Lib.toList_data, strB_data, hcur] <;> rfl
      rw [← hcur]
      have cT := fun W => eread_any (strB cur) W (by rw [strB_size]; omega)
      rw [strB_data] at cT
      have hzs : (strB cur).size = cur.length := strB_size cur
      clear hcur
      cases ht : takE cur with
      | none =>
        rw [ht] at cT hlw
        have HN : Hid (R0 = none) := Lib.hid (by rw [← HL.out]; exact hlw)
        simp only [rdV, tgV] at cT
        rw [show strB [] = (⟨#[]⟩ : ByteArray) from rfl] at cT
        clear ht hlw hzs
        generalize strB cur = S at *
        go_wp2_with fail
        refine (cT _).mono ?_
        rintro e w2 ⟨rfl, hb⟩
        have HB2 := Lib.hid (HB.out.trans (hb.mono HB.out.size))
        have HB3 := Lib.hid (HB2.out.alloc HB2.out.size (.cells #[.bool false, .string ⟨#[]⟩] 23))
        clear hb
        go_wp2_with fail
        exact QN.out _ HN.out HB3.out
      | some p =>
        obtain ⟨⟨wk, tx⟩, r⟩ := p
        have hle := takE_len _ _ _ ht
        have cE := fun W => endsTag_any (strB r) W (by rw [strB_size]; dsimp only at hle; omega)
        rw [strB_data] at cE
        rw [ht] at cT hlw
        simp only [rdV, tgV] at cT
        dsimp only at hlw hle
        have cS := fun W => tlC_any (strB r) W
        rw [strB_data] at cS
        have hsk := skpE_le r
        have HHS : Hid (∀ c q, skpE r = c :: q → sepE c = false) := Lib.hid (skpE_head r)
        have HTR : Hid (rowT (ts ++ [(wk, tx)]) = rowT ts ++ [.bool wk, .string (strB tx)]) := Lib.hid (rowT_snoc _ _)
        have hzk : (strB (skpE r)).size = (skpE r).length := strB_size _
        cases he : endE r
        · rw [he] at hlw cE
          have HN : Hid (R0 = none) := Lib.hid (by rw [← HL.out]; exact hlw)
          clear ht hlw he cS hzs hzk HHS HTR
          generalize strB cur = S at *
          generalize strB r = X at *
          generalize strB tx = Y at *
          go_wp2_with fail
          refine (cT _).mono ?_
          rintro e w2 ⟨rfl, hb⟩
          have HB2 := Lib.hid (HB.out.trans (hb.mono HB.out.size))
          have HB3 := Lib.hid (HB2.out.alloc HB2.out.size (.cells #[.bool wk, .string Y] 23))
          clear hb
          go_wp2_with fail
          refine (cE _).mono ?_
          rintro e w3 ⟨rfl, hb⟩
          have HB4 := Lib.hid (HB3.out.trans (hb.mono HB3.out.size))
          clear hb
          go_wp2_with fail
          exact QN.out _ HN.out HB4.out
        · rw [he] at hlw cE
          have HN : Hid (lsW (skpE r) (ts ++ [(wk, tx)]) = R0) := Lib.hid (by rw [← HL.out]; exact hlw.symm)
          clear ht hlw he
          generalize strB cur = S at *
          generalize strB r = X at *
          generalize strB tx = Y at *
          obtain ⟨Z, hZ⟩ : ∃ Z, strB (skpE r) = Z := ⟨_, rfl⟩
          have HZ := Lib.hid hZ
          rw [hZ] at cS hzk
          clear hZ
          go_wp2_with fail
          refine (cT _).mono ?_
          rintro e w2 ⟨rfl, hb⟩
          have HB2 := Lib.hid (HB.out.trans (hb.mono HB.out.size))
          have HO2 := Lib.hid (ownsRow_later HO.out hb)
          have hal := (Below.refl w2.heap.size w2).alloc (Nat.le_refl _) (.cells #[.bool wk, .string Y] 23)
          have HT := Lib.hid (BoxN.made w2 [.bool wk, .string Y] 23)
          have HB3 := Lib.hid (HB2.out.trans (hal.mono HB2.out.size))
          have HO3 := Lib.hid (ownsRow_later HO2.out hal)
          clear hb hal
          go_wp2_with fail
          refine (cE _).mono ?_
          rintro e w3 ⟨rfl, hb⟩
          have HB4 := Lib.hid (HB3.out.trans (hb.mono HB3.out.size))
          have HO4 := Lib.hid (ownsRow_later HO3.out hb)
          have HT := Lib.hid (HT.out.next hb)
          have t0 := (HT.out.2 0 _ rfl).1
          have t1 := (HT.out.2 1 _ rfl).1
          clear hb cT cE
          go_wp2_with (at_builtin; refine wpList_append_own _ rfl _ _ 35 rfl w.heap.size 23 i0 (.agg #[.bool false, .string ⟨#[]⟩]) 2 24 Tryz.underlying35 hi hz0 hz1 hz2 rfl (by decide) (.slice av m cv) m (rowT ts) rfl (HO4.out.alloc _) ⟨_, 0, none⟩ 1 1 [.bool wk, .string Y] rfl rfl (cells_newF w3 [.bool wk, .string Y] 23) (by simp [Value.oneCell']) (by unfold maxLen; omega) (by omega) (by simp; have := HB4.out.size; omega) ?_; intro v' w5 hown5 hgrow5 _; obtain ⟨a5, c5, rfl⟩ := owns_formF hown5; have HB5 := Lib.hid ((HB4.out.alloc HB4.out.size (.cells #[.bool wk, .string Y] 23)).grown hgrow5 (by simp; have := HB4.out.size; omega) (fun k e => (World.ownsRow.lt HO4.out k e).1)); have HO5 := Lib.hid hown5)
          refine (cS _).mono ?_
          rintro e w6 ⟨rfl, hb⟩
          have HB6 := Lib.hid (HB5.out.trans (hb.mono HB5.out.size))
          have HO6 := Lib.hid (ownsRow_later HO5.out hb)
          clear hb cS
          go_wp2_with fail
          go_roundw
          case rel => exact ⟨skpE r, m + 1, ts ++ [(wk, tx)], a5, c5, by rw [HZ.out], rfl, by rw [List.length_append, List.length_singleton, hm], by omega, Lib.hid (by rw [HTR.out]; exact HO6.out), HN, HHS, HB6⟩
          case measure => simp only [szV]; omega

/-- What List answers, as the document has it: see EuE's lsPost. -/
theorem elist_star {L : List UInt8} (h : Lib.trimS L [32, 9] = [42]) : lstE L = some ([], true) := by rw [lstE_code, if_pos h]
theorem elist_none {L : List UInt8} (h : ¬ Lib.trimS L [32, 9] = [42]) (h2 : lsW (skpE L) [] = none) : lstE L = none := by rw [lstE_code, if_neg h, h2]
theorem elist_nil {L : List UInt8} (h : ¬ Lib.trimS L [32, 9] = [42]) (h2 : lsW (skpE L) [] = some []) : lstE L = none := by rw [lstE_code, if_neg h, h2] <;> rfl
theorem elist_some {L : List UInt8} {xs : List Tg} (h : ¬ Lib.trimS L [32, 9] = [42]) (h2 : lsW (skpE L) [] = some xs) (h3 : xs ≠ []) : lstE L = some (xs, false) := by
  rw [lstE_code, if_neg h, h2]
  dsimp only
  rw [if_neg h3]

end Go.Proofs.YtclgdmcbbphbcaaGreatDoor

namespace Go.Proofs.YtclgdmcbbphbcaaGreatDoor
open Go.RowKit Go.Lib

set_option maxRecDepth 100000 in
set_option maxHeartbeats 8000000 in
theorem elist_any (s : ByteArray) (w : World) (hs : s.size ≤ 100000) :
    Calls Tryz.prog 8 #[.string s] w (lsPost (lstE s.data.toList) w) := by
  have cT := fun W => tbB_any s W hs
  have cL := fun W => tlC_any s W
  obtain ⟨L, hL⟩ : ∃ L, s.data.toList = L := ⟨_, rfl⟩
  have hz : L.length ≤ 100000 := by rw [← hL, ← Lib.size_eq]; exact hs
  rw [hL] at cT cL ⊢
  have cR := fun W => readTags_any (skpE L) W (Nat.le_trans (skpE_le L) hz) (skpE_head L)
  obtain ⟨Q, hQ⟩ : ∃ Q, lsPost (lstE L) w = Q := ⟨_, rfl⟩
  have QN : Hid (∀ w', lstE L = none → Below w.heap.size w w' → Q (.returned (.tuple #[.slice none 0 0, .bool false, .int .i64 2])) w') := Lib.hid (fun w' h hb => by rw [← hQ, h]; exact ⟨hb, rfl⟩)
  have QS : Hid (∀ w', lstE L = some ([], true) → Below w.heap.size w w' → Q (.returned (.tuple #[.slice none 0 0, .bool true, .int .i64 0])) w') := Lib.hid (fun w' h hb => by rw [← hQ, h]; exact ⟨hb, _, rfl, Tags.nothing _ _⟩)
  have QY : Hid (∀ w' u xs, lstE L = some (xs, false) → Below w.heap.size w w' → Tags w.heap.size w' u xs → Q (.returned (.tuple #[u, .bool false, .int .i64 0])) w') := Lib.hid (fun w' u xs h hb ht => by rw [← hQ, h]; exact ⟨hb, _, rfl, ht⟩)
  rw [hQ]
  clear hQ hL hz
  by_cases hst : Lib.trimS L [32, 9] = [42]
  · have HV := Lib.hid (elist_star hst)
    rw [hst, show strB [42] = (⟨#[42]⟩ : ByteArray) from rfl] at cT
    clear hst cL cR
    go_enter Tryz.func8, Tryz.ntmps8
    go_wp2_with fail
    refine (cT _).mono ?_
    rintro e w2 ⟨rfl, hb⟩
    go_wp2_with fail
    refine bodyPost_ret (v := .tuple #[.slice none 0 0, .bool true, .int .i64 0]) (by simp [results, Tryz.results8, go_sem]) rfl (QS.out _ HV.out hb)
  · have k1 : ((strB (Lib.trimS L [32, 9])).toList == [42]) = false := by rw [Lib.toList_data, strB_data]; simpa using hst
    have k2 : ¬ (strB (Lib.trimS L [32, 9])).toList = [42] := by rw [Lib.toList_data, strB_data]; exact hst
    obtain ⟨S, hS⟩ : ∃ S, strB (Lib.trimS L [32, 9]) = S := ⟨_, rfl⟩
    rw [hS] at cT k1 k2
    cases hl : lsW (skpE L) [] with
    | none =>
      have HV := Lib.hid (elist_none hst hl)
      rw [hl] at cR
      clear hst hl hS
      generalize strB (skpE L) = K at *
      go_enter Tryz.func8, Tryz.ntmps8
      go_wp2_with fail
      refine (cT _).mono ?_
      rintro e w2 ⟨rfl, hb⟩
      have HB := Lib.hid hb
      clear hb
      go_wp2_with fail
      refine (cL _).mono ?_
      rintro e w3 ⟨rfl, hb⟩
      have HB := Lib.hid (HB.out.trans (hb.mono HB.out.size))
      clear hb
      go_wp2_with fail
      refine (cR _).mono ?_
      rintro e w4 ⟨hb, rfl⟩
      have HB := Lib.hid (HB.out.trans (hb.mono HB.out.size))
      clear hb
      go_wp2_with fail
      refine bodyPost_ret (v := .tuple #[.slice none 0 0, .bool false, .int .i64 2]) (by simp [results, Tryz.results8, go_sem]) rfl (QN.out _ HV.out HB.out)
    | some xs =>
      rw [hl] at cR
      have HVN : Hid (xs = [] → lstE L = none) := Lib.hid (fun e => elist_nil hst (by rw [hl, e]))
      have HVY : Hid (xs ≠ [] → lstE L = some (xs, false)) := Lib.hid (fun e => elist_some hst hl e)
      clear hst hl hS
      generalize strB (skpE L) = K at *
      by_cases hx : xs = []
      · have HV := Lib.hid (HVN.out hx)
        subst hx
        go_enter Tryz.func8, Tryz.ntmps8
        go_wp2_with fail
        refine (cT _).mono ?_
        rintro e w2 ⟨rfl, hb⟩
        have HB := Lib.hid hb
        clear hb
        go_wp2_with fail
        refine (cL _).mono ?_
        rintro e w3 ⟨rfl, hb⟩
        have HB := Lib.hid (HB.out.trans (hb.mono HB.out.size))
        clear hb
        go_wp2_with fail
        refine (cR _).mono ?_
        rintro e w4 ⟨hb, u, rfl, hT⟩
        have HB := Lib.hid (HB.out.trans (hb.mono HB.out.size))
        obtain ⟨ao, cap, rfl, _⟩ := hT
        clear hb
        rw [show ([] : List Tg).length = 0 from rfl]
        go_wp2_with fail
        refine bodyPost_ret (v := .tuple #[.slice none 0 0, .bool false, .int .i64 2]) (by simp [results, Tryz.results8, go_sem]) rfl (QN.out _ HV.out HB.out)
      · have HV := Lib.hid (HVY.out hx)
        have k0 : ((xs.length : Int) == 0) = false := by
          have : 0 < xs.length := List.length_pos_iff.2 hx
          exact beq_false_of_ne (by omega)
        clear hx
        go_enter Tryz.func8, Tryz.ntmps8
        go_wp2_with fail
        refine (cT _).mono ?_
        rintro e w2 ⟨rfl, hb⟩
        have HB := Lib.hid hb
        clear hb
        go_wp2_with fail
        refine (cL _).mono ?_
        rintro e w3 ⟨rfl, hb⟩
        have HB := Lib.hid (HB.out.trans (hb.mono HB.out.size))
        clear hb
        go_wp2_with fail
        refine (cR _).mono ?_
        rintro e w4 ⟨hb, u, rfl, hT⟩
        have HTT := Lib.hid (hT.low (lo' := w.heap.size) HB.out.size)
        have HB := Lib.hid (HB.out.trans (hb.mono HB.out.size))
        obtain ⟨ao, cap, rfl, _⟩ := hT
        clear hb
        go_wp2_with fail
        refine bodyPost_ret (v := .tuple #[.slice ao xs.length cap, .bool false, .int .i64 0]) (by simp [results, Tryz.results8, go_sem]) rfl (QY.out _ _ _ HV.out HB.out HTT.out)

end Go.Proofs.YtclgdmcbbphbcaaGreatDoor
