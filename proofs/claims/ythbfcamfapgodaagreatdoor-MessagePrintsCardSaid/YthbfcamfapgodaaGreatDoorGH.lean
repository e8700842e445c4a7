/- The contracts of slices.IndexFunc and ContainsFunc at head.isWrong, and of head.Right. · The contract of head.Print. -/
import Derived.Test.YthbfcamfapgodaaGreatDoorGG
import Derived.Test.YthbfcamfapgodaaGreatDoorGB
import Derived.Test.YthbfcamfapgodaaGreatDoorGE

namespace Go.Proofs.YthbfcamfapgodaaGreatDoor
open Go.RowKit Go.Shelf Go.Lib

theorem enters_isWrong : ∀ args W, (callFunc 112 args).run Tryz.prog W = .ok (.enter 112 args) W := enters_of Tryz.func112 (by kernel_rfl) rfl

set_option maxRecDepth 100000 in
set_option maxHeartbeats 2000000 in
theorem indexF_any (lo : Nat) (v : Value) (fs : List Fld) (w : World) (h : Flds lo w v fs) (hk : FldsOk fs) (hT : Tabs w) :
    Calls Tryz.prog 110 #[v, .func (.func 112) #[] #[]] w fun e w' => (∃ k : Int, e = .returned (.int .i64 k) ∧ -1 ≤ k ∧ decide (0 ≤ k) = fs.any wrongL) ∧ Below w.heap.size w w' := by
  obtain ⟨ao, cap, rfl, hc⟩ := h
  have HC := Lib.hid hc
  have HT := Lib.hid hT
  have HK := Lib.hid hk
  have hl := hk.1
  clear hc hT hk
  go_enter Tryz.func110, Tryz.ntmps110
  go_wp2_with fail
  go_loopw [8] (fun i wr => ∃ j : Nat, i = .int .i64 j ∧ j ≤ fs.length ∧ Hid (∀ m p, m < j → fs[m]? = some p → wrongL p = false) ∧ Below w.heap.size w wr) (fun i _ => fs.length - (intOf i).toNat)
  case atStart => exact ⟨0, rfl, Nat.zero_le _, Lib.hid (fun m p h => absurd h (by omega)), Below.refl _ _⟩
  case round =>
    obtain ⟨j, rfl, hj, H, hb⟩ := hrel
    have HB := Lib.hid hb
    by_cases hlt : j < fs.length
    · rcases HC.out with hnil | ⟨c, off, rfl, _, hcl, hcell⟩
      · exfalso
        rw [hnil] at hlt
        simp at hlt
      · obtain ⟨p, hp⟩ : ∃ p, fs[j]? = some p := ⟨_, List.getElem?_eq_getElem hlt⟩
        obtain ⟨x0, x1⟩ := hcell j p hp
        have a0 := (hb.cell (p := ⟨c, off + j * 2, none⟩) hcl).trans x0
        have a1 := (hb.cell (p := ⟨c, off + j * 2 + 1, none⟩) hcl).trans x1
        have jI : (j : Int) < (fs.length : Int) := by omega
        have j0 : (0 : Int) ≤ (j : Int) := by omega
        obtain ⟨hk1, hk2⟩ := HK.out.2 p (List.mem_of_getElem? hp)
        have cS := fun W (hW : Below w.heap.size w W) => isWrong_any p W hk1 hk2 (Utf8Tabs_below HT.out hW)
        clear hcell x0 x1 hb
        cases hpq : wrongL p
        · rw [hpq] at cS
          have Hn : Hid (∀ m p, m < j + 1 → fs[m]? = some p → wrongL p = false) := Lib.hid (fun m q hm hq => by
            by_cases e : m = j
            · subst e
              rw [hp] at hq
              obtain rfl := Option.some.inj hq
              exact hpq
            · exact H.out m q (by omega) hq)
          clear hpq hp H
          obtain ⟨pn, pv⟩ := p
          dsimp only at *
          generalize strB pn = PS at *
          generalize strB pv = QS at *
          go_wp2_with fail
          refine (cS _ (by first | exact HB.out | exact HB.out.alloc HB.out.size _)).mono ?_
          rintro e w2 ⟨rfl, hb2⟩
          have HB2 := Lib.hid (HB.out.trans (hb2.mono HB.out.size))
          go_wp2_with fail
          go_roundw
          case rel => exact ⟨j + 1, by go_num, by omega, Lib.hid Hn.out, HB2.out⟩
          case measure => simp [intOf]; omega
        · rw [hpq] at cS
          have HS : Hid (decide (0 ≤ (j : Int)) = fs.any wrongL) := Lib.hid (by
            rewrite [decide_eq_true j0]
            exact (List.any_eq_true.2 ⟨p, List.mem_of_getElem? hp, hpq⟩).symm)
          clear hpq hp H
          obtain ⟨pn, pv⟩ := p
          dsimp only at *
          generalize strB pn = PS at *
          generalize strB pv = QS at *
          go_wp2_with fail
          refine (cS _ (by first | exact HB.out | exact HB.out.alloc HB.out.size _)).mono ?_
          rintro e w2 ⟨rfl, hb2⟩
          have HB2 := Lib.hid (HB.out.trans (hb2.mono HB.out.size))
          go_wp2_with fail
          go_ret
          exact ⟨⟨(j : Int), rfl, by omega, HS.out⟩, HB2.out⟩
    · obtain rfl : j = fs.length := by omega
      have HS : Hid (decide ((0 : Int) ≤ -1) = fs.any wrongL) := Lib.hid (by
        rewrite [decide_eq_false (by decide)]
        symm
        rewrite [List.any_eq_false]
        intro p hp
        obtain ⟨m, hm⟩ := List.mem_iff_getElem?.1 hp
        have := H.out m p (List.getElem?_eq_some_iff.1 hm).1 hm
        simp [this])
      clear H hb
      go_wp2_with fail
      go_ret
      exact ⟨⟨-1, rfl, by omega, HS.out⟩, HB.out⟩

set_option maxHeartbeats 1000000 in
theorem containsF_any (lo : Nat) (v : Value) (fs : List Fld) (w : World) (h : Flds lo w v fs) (hk : FldsOk fs) (hT : Tabs w) :
    Calls Tryz.prog 91 #[v, .func (.func 112) #[] #[]] w fun e w' => e = .returned (.bool (fs.any wrongL)) ∧ Below w.heap.size w w' := by
  have cI := indexF_any lo v fs w h hk hT
  generalize fs.any wrongL = R at *
  go_enter Tryz.func91, Tryz.ntmps91
  go_wp2_with fail
  refine cI.mono ?_
  rintro e w2 ⟨⟨k, rfl, hk1, hk2⟩, hb2⟩
  have HK := Lib.hid hk2
  clear hk2 cI
  go_wp2_with fail
  go_ret
  exact ⟨ret_eq (bool_eq HK.out), hb2⟩

set_option maxHeartbeats 1000000 in
theorem hright_any (lo : Nat) (v : Value) (fs : List Fld) (w : World) (h : Flds lo w v fs) (hk : FldsOk fs) (hT : Tabs w) :
    Calls Tryz.prog 94 #[v] w fun e w' => e = .returned (.bool (rightH fs)) ∧ Below w.heap.size w w' := by
  have cI := containsF_any lo v fs w h hk hT
  obtain ⟨ao, cap, rfl, _⟩ := h
  have hl := hk.1
  clear hk hT
  by_cases h64 : fs.length ≤ 64
  · have HR : Hid (rightH fs = !fs.any wrongL) := Lib.hid (by rw [rightH, decide_eq_true h64, Bool.true_and])
    have h64I : (fs.length : Int) ≤ 64 := by omega
    cases hr : fs.any wrongL
    all_goals
      rw [hr] at cI HR
      clear hr h64
      go_enter Tryz.func94, Tryz.ntmps94
      go_wp2_with fail
      refine cI.mono ?_
      rintro e w2 ⟨rfl, hb2⟩
      go_wp2_with fail
      go_ret
      exact ⟨ret_eq (bool_eq HR.out.symm), hb2⟩
  · have HR : Hid (rightH fs = false) := Lib.hid (by rw [rightH, decide_eq_false h64, Bool.false_and])
    have h64I : (64 : Int) < (fs.length : Int) := by omega
    clear cI h64
    go_enter Tryz.func94, Tryz.ntmps94
    go_wp2_with fail
    go_ret
    exact ⟨ret_eq (bool_eq HR.out.symm), Below.refl _ _⟩

end Go.Proofs.YthbfcamfapgodaaGreatDoor

namespace Go.Proofs.YthbfcamfapgodaaGreatDoor
open Go.RowKit Go.Shelf Go.Lib

def hprPost (o : Option (List UInt8)) (w : World) (e : Ending) (w' : World) : Prop := e = .returned (textH o) ∧ Below w.heap.size w w'

set_option maxRecDepth 100000 in
set_option maxHeartbeats 4000000 in
theorem hprint_any (lo : Nat) (v : Value) (fs : List Fld) (w : World) (h : Flds lo w v fs) (hk : FldsOk fs) (hT : Tabs w) :
    Calls Tryz.prog 72 #[v] w (hprPost (printH fs) w) := by
  have cR := hright_any lo v fs w h hk hT
  obtain ⟨ao, cap, rfl, hc⟩ := h
  have HC := Lib.hid hc
  have HK := Lib.hid hk
  have hl := hk.1
  clear hc hT hk
  cases hr : rightH fs
  · rw [hr] at cR
    have HR : Hid (textH (printH fs) = .tuple #[.string ⟨#[]⟩, .int .i64 2]) := Lib.hid (by rw [printH, hr] <;> rfl)
    clear hr
    go_enter Tryz.func72, Tryz.ntmps72
    go_wp2_with fail
    refine cR.mono ?_
    rintro e w1 ⟨rfl, hb1⟩
    go_wp2_with fail
    refine bodyPost_ret (v := .tuple #[.string ⟨#[]⟩, .int .i64 2]) (by simp [results, Tryz.results72, go_sem]) rfl ⟨by rw [HR.out], hb1⟩
  · rw [hr] at cR
    have HR : Hid (printH fs = some (prF fs ++ [13, 10])) := Lib.hid (by rw [printH, hr] <;> rfl)
    clear hr
    go_enter Tryz.func72, Tryz.ntmps72
    go_wp2_with fail
    refine cR.mono ?_
    rintro e w1 ⟨rfl, hb1⟩
    have hfr : Lib.IsBuilder 102 5 w1.heap.size w1.heap.size (Lib.byteCells []) (w1.alloc (.cells #[.pointer none, .slice none 0 0] 102)) :=
      .inl ⟨Nat.le_refl _, .slice none 0 0, heap_alloc_new w1 _, World.ownsRow_nil _ _ _ _, by simp [Value.ownBlock]⟩
    have Hfr := Lib.hid hfr
    have HB1 := Lib.hid (hb1.alloc hb1.size (.cells #[.pointer none, .slice none 0 0] 102))
    have hle1 := hb1.size
    clear hfr hb1 cR
    go_wp2_with fail
    go_loopw [12] (fun i wr => ∃ (j : Nat) (acc : List UInt8), i = .int .i64 j ∧ j ≤ fs.length ∧ acc.length ≤ j * 300000 ∧ Hid (acc = prF (fs.take j)) ∧ Lib.IsBuilder 102 5 w1.heap.size w1.heap.size (Lib.byteCells acc) wr ∧ Below w.heap.size w wr) (fun i _ => fs.length - (intOf i).toNat)
    case atStart => exact ⟨0, [], rfl, Nat.zero_le _, by simp, Lib.hid (by simp [prF]), Hfr.out, HB1.out⟩
    case round =>
      obtain ⟨j, acc, rfl, hj, hal, H, hbd, hb⟩ := hrel
      clear Hfr HB1
      have hbl := IsBuilder_ltF hbd
      have HBD := Lib.hid hbd
      have HB := Lib.hid hb
      by_cases hlt : j < fs.length
      · rcases HC.out with hnil | ⟨c, off, rfl, _, hcl, hcell⟩
        · exfalso
          rw [hnil] at hlt
          simp at hlt
        · obtain ⟨p, hp⟩ : ∃ p, fs[j]? = some p := ⟨_, List.getElem?_eq_getElem hlt⟩
          have Htk : Hid (prF (fs.take (j + 1)) = acc ++ lineF p) := Lib.hid (by
            rewrite [List.take_add_one, hp, H.out]
            exact prF_snoc _ _)
          obtain ⟨x0, x1⟩ := hcell j p hp
          have a0 := (hb.cell (p := ⟨c, off + j * 2, none⟩) hcl).trans x0
          have a1 := (hb.cell (p := ⟨c, off + j * 2 + 1, none⟩) hcl).trans x1
          obtain ⟨hk1, hk2⟩ := HK.out.2 p (List.mem_of_getElem? hp)
          have hll := lineF_len p
          obtain ⟨N, V⟩ := p
          dsimp only at a0 a1 hk1 hk2 hll
          have z1 : (strB N).size ≤ 100000 := by rewrite [strB_size]; exact hk1
          have z2 : (strB V).size ≤ 100000 := by rewrite [strB_size]; exact hk2
          have hX : strB N ++ (⟨#[58, 32]⟩ : ByteArray) ++ strB V ++ (⟨#[13, 10]⟩ : ByteArray) = strB (lineF (N, V)) := by
            rewrite [show (⟨#[58, 32]⟩ : ByteArray) = strB [58, 32] from rfl, show (⟨#[13, 10]⟩ : ByteArray) = strB [13, 10] from rfl, strB_append, strB_append, strB_append]
            rfl
          have HX := Lib.hid hX
          have Hst : Hid (Lib.byteCells acc ++ Lib.strCells (strB (lineF (N, V))) = Lib.byteCells (acc ++ lineF (N, V))) := Lib.hid (by
            rewrite [show Lib.strCells (strB (lineF (N, V))) = Lib.byteCells (lineF (N, V)) from rfl]
            simp [Lib.byteCells])
          have HXz : Hid ((strB (lineF (N, V))).size ≤ 200004) := Lib.hid (by rewrite [strB_size, hll]; omega)
          have cW := fun W hW (hW2 : w1.heap.size ≤ W.heap.size) => writeString_any w1.heap.size w1.heap.size (Lib.byteCells acc) (strB (lineF (N, V))) W hW (by rewrite [Lib.byteCells_length]; have := HXz.out; omega) hW2
          have hal2 : (acc ++ lineF (N, V)).length ≤ (j + 1) * 300000 := by rewrite [List.length_append, hll]; omega
          clear hX hcell x0 x1 hp hb hbd hk1 hk2 hll H
          generalize acc ++ lineF (N, V) = acc2 at *
          generalize strB (lineF (N, V)) = X at *
          generalize strB N = SN at *
          generalize strB V = SV at *
          go_wp2_with fail
          rewrite [HX.out]
          have hal1 := (Below.refl wr.heap.size wr).alloc (Nat.le_refl _) (.cells #[.string SN, .string SV] 70)
          refine (cW _ (IsBuilder_belowF HBD.out hal1) (by simp; omega)).mono ?_
          rintro e w3 ⟨rfl, hbd3, hb3⟩
          rw [Hst.out] at hbd3
          have HB3 := Lib.hid ((HB.out.alloc HB.out.size (.cells #[.string SN, .string SV] 70)).trans (hb3.mono hle1))
          clear cW hb3 hal1
          go_wp2_with fail
          go_roundw
          case rel => exact ⟨j + 1, acc2, by go_num, by omega, hal2, Lib.hid Htk.out.symm, .inr hbd3, HB3.out⟩
          case measure => simp [intOf]; omega
      · obtain rfl : j = fs.length := by omega
        have hH := H.out
        rw [List.take_length] at hH
        have HT2 : Hid (textH (printH fs) = .tuple #[.string ⟨(acc ++ [13, 10]).toArray⟩, .int .i64 0]) := Lib.hid (by rw [HR.out, hH] <;> rfl)
        have cW := writeString_any w1.heap.size w1.heap.size (Lib.byteCells acc) (strB [13, 10]) wr hbd (by rewrite [Lib.byteCells_length, strB_size, List.length_cons, List.length_cons, List.length_nil]; omega) (by omega)
        have Hst : Hid (Lib.byteCells acc ++ Lib.strCells (strB [13, 10]) = Lib.byteCells (acc ++ [13, 10])) := Lib.hid (by
          rewrite [show Lib.strCells (strB [13, 10]) = Lib.byteCells [13, 10] from rfl]
          simp [Lib.byteCells])
        have hl2 : (acc ++ [13, 10]).length ≤ 30000000000000 := by rewrite [List.length_append, List.length_cons, List.length_cons, List.length_nil]; omega
        rw [show (strB [13, 10] : ByteArray) = ⟨#[13, 10]⟩ from rfl] at cW Hst
        clear hbd hb H hH
        generalize acc ++ [13, 10] = acc2 at *
        go_wp2_with fail
        refine cW.mono ?_
        rintro e w3 ⟨rfl, hbd3, hb3⟩
        rw [Hst.out] at hbd3
        have HB3 := Lib.hid (HB.out.trans (hb3.mono hle1))
        have hsz3 := hbd3.lt
        have cS := Tryz.Builder_String_any w1.heap.size w1.heap.size acc2 w3 (.inr hbd3) (by omega)
        clear cW hb3 hbd3
        go_wp2_with fail
        refine cS.mono ?_
        rintro e w4 ⟨rfl, hb4⟩
        go_wp2_with fail
        refine bodyPost_ret (v := .tuple #[.string ⟨acc2.toArray⟩, .int .i64 0]) (by simp [results, Tryz.results72, go_sem]) rfl ⟨by rw [HT2.out], HB3.out.trans (hb4.mono hle1)⟩

end Go.Proofs.YthbfcamfapgodaaGreatDoor
