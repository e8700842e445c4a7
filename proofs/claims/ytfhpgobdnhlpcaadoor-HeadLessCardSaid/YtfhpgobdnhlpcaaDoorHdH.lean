/- The contract of head.Print. -/
import Derived.Test.YtfhpgobdnhlpcaaDoorHdG
import Derived.Test.YtfhpgobdnhlpcaaDoorHdK
namespace Go.Proofs.YtfhpgobdnhlpcaaDoor
open Go.RowKit Go.Shelf Go.Lib

def hprPost (o : Option (List UInt8)) (w : World) (e : Ending) (w' : World) : Prop := e = .returned (textH o) ∧ Below w.heap.size w w'

set_option maxRecDepth 100000 in
set_option maxHeartbeats 4000000 in
theorem hprint_any (lo : Nat) (v : Value) (fs : List Fld) (w : World) (h : Flds lo w v fs) (hk : FldsOk fs) (hT : Tabs w) :
    Calls Tryd.prog 13 #[v] w (hprPost (printH fs) w) := by
  have cR := hright_any lo v fs w h hk hT
  obtain ⟨ao, cap, rfl, hc⟩ := h
  have HC := Lib.hid hc
  have HK := Lib.hid hk
  have hl := hk.1
  clear hc hT hk
  cases hr : rightH fs
  · rw [hr] at cR
    have HR : Hid (textH (printH fs) = .tuple #[.string ⟨#[]⟩, .int .i64 2]) := Lib.hid (by rw [printH, hr]; rfl)
    clear hr
    go_enter Tryd.func13, Tryd.ntmps13
    go_wp2_with fail
    refine cR.mono ?_
    rintro e w1 ⟨rfl, hb1⟩
    go_wp2_with fail
    refine bodyPost_ret (v := .tuple #[.string ⟨#[]⟩, .int .i64 2]) (by simp [results, Tryd.results13, go_sem]) rfl ⟨by rw [HR.out], hb1⟩
  · rw [hr] at cR
    have HR : Hid (printH fs = some (prF fs ++ [13, 10])) := Lib.hid (by rw [printH, hr]; rfl)
    clear hr
    go_enter Tryd.func13, Tryd.ntmps13
    go_wp2_with fail
    refine cR.mono ?_
    rintro e w1 ⟨rfl, hb1⟩
    have hfr : Lib.IsBuilder 57 5 w1.heap.size w1.heap.size (Lib.byteCells []) (w1.alloc (.cells #[.pointer none, .slice none 0 0] 57)) :=
      .inl ⟨Nat.le_refl _, .slice none 0 0, heap_alloc_new w1 _, World.ownsRow_nil _ _ _ _, by simp [Value.ownBlock]⟩
    have Hfr := Lib.hid hfr
    have HB1 := Lib.hid (hb1.alloc hb1.size (.cells #[.pointer none, .slice none 0 0] 57))
    have hle1 := hb1.size
    clear hfr hb1 cR
    go_wp2_with fail
    go_loopw [12] (fun i wr => ∃ (j : Nat) (acc : List UInt8), i = .int .i64 j ∧ j ≤ fs.length ∧ acc.length ≤ j * 300000 ∧ Hid (acc = prF (fs.take j)) ∧ Lib.IsBuilder 57 5 w1.heap.size w1.heap.size (Lib.byteCells acc) wr ∧ Below w.heap.size w wr) (fun i _ => fs.length - (intOf i).toNat)
    case atStart => exact ⟨0, [], rfl, Nat.zero_le _, by simp, Lib.hid (by simp [prF]), Hfr.out, HB1.out⟩
    case round =>
      obtain ⟨j, acc, rfl, hj, hal, H, hbd, hb⟩ := hrel
      clear Hfr HB1
      have hbl := IsBuilder_ltF hbd
      have HBD := Lib.hid hbd
      have HB := Lib.hid hb
      by_cases hlt : j < fs.length
      · rcases HC.out with hnil | ⟨c, off, rfl, _, hcl, hcell⟩
        · exfalso
          rw [hnil] at hlt
          simp at hlt
        · obtain ⟨p, hp⟩ : ∃ p, fs[j]? = some p := ⟨_, List.getElem?_eq_getElem hlt⟩
          have Htk : Hid (prF (fs.take (j + 1)) = acc ++ lineF p) := Lib.hid (by
            rw [List.take_add_one, hp, H.out]
            exact prF_snoc _ _)
          obtain ⟨x0, x1⟩ := hcell j p hp
          have a0 := (hb.cell (p := ⟨c, off + j * 2, none⟩) hcl).trans x0
          have a1 := (hb.cell (p := ⟨c, off + j * 2 + 1, none⟩) hcl).trans x1
          obtain ⟨hk1, hk2⟩ := HK.out.2 p (List.mem_of_getElem? hp)
          have hll := lineF_len p
          obtain ⟨N, V⟩ := p
          dsimp only at a0 a1 hk1 hk2 hll
          have z1 : (strB N).size ≤ 100000 := by rw [strB_size]; exact hk1
          have z2 : (strB V).size ≤ 100000 := by rw [strB_size]; exact hk2
          have hX : strB N ++ (⟨#[58, 32]⟩ : ByteArray) ++ strB V ++ (⟨#[13, 10]⟩ : ByteArray) = strB (lineF (N, V)) := by
            rw [show (⟨#[58, 32]⟩ : ByteArray) = strB [58, 32] from rfl, show (⟨#[13, 10]⟩ : ByteArray) = strB [13, 10] from rfl, strB_append, strB_append, strB_append]
            rfl
          have HX := Lib.hid hX
          have Hst : Hid (Lib.byteCells acc ++ Lib.strCells (strB (lineF (N, V))) = Lib.byteCells (acc ++ lineF (N, V))) := Lib.hid (by
            rw [show Lib.strCells (strB (lineF (N, V))) = Lib.byteCells (lineF (N, V)) from rfl]
            simp [Lib.byteCells])
          have HXz : Hid ((strB (lineF (N, V))).size ≤ 200004) := Lib.hid (by rw [strB_size, hll]; omega)
          have cW := fun W hW (hW2 : w1.heap.size ≤ W.heap.size) => writeString_any w1.heap.size w1.heap.size (Lib.byteCells acc) (strB (lineF (N, V))) W hW (by rw [Lib.byteCells_length]; have := HXz.out; omega) hW2
          have hal2 : (acc ++ lineF (N, V)).length ≤ (j + 1) * 300000 := by rw [List.length_append, hll]; omega
          clear hX hcell x0 x1 hp hb hbd hk1 hk2 hll H
          generalize acc ++ lineF (N, V) = acc2 at *
          generalize strB (lineF (N, V)) = X at *
          generalize strB N = SN at *
          generalize strB V = SV at *
          go_wp2_with fail
          rw [HX.out]
          have hal1 := (Below.refl wr.heap.size wr).alloc (Nat.le_refl _) (.cells #[.string SN, .string SV] 42)
          refine (cW _ (IsBuilder_belowF HBD.out hal1) (by simp; omega)).mono ?_
          rintro e w3 ⟨rfl, hbd3, hb3⟩
          rw [Hst.out] at hbd3
          have HB3 := Lib.hid ((HB.out.alloc HB.out.size (.cells #[.string SN, .string SV] 42)).trans (hb3.mono hle1))
          clear cW hb3 hal1
          go_wp2_with fail
          go_roundw
          case rel => exact ⟨j + 1, acc2, by go_num, by omega, hal2, Lib.hid Htk.out.symm, .inr hbd3, HB3.out⟩
          case measure => simp [intOf]; omega
      · obtain rfl : j = fs.length := by omega
        have hH := H.out
        rw [List.take_length] at hH
        have HT2 : Hid (textH (printH fs) = .tuple #[.string ⟨(acc ++ [13, 10]).toArray⟩, .int .i64 0]) := Lib.hid (by rw [HR.out, hH]; rfl)
        have cW := writeString_any w1.heap.size w1.heap.size (Lib.byteCells acc) (strB [13, 10]) wr hbd (by rw [Lib.byteCells_length, strB_size, List.length_cons, List.length_cons, List.length_nil]; omega) (by omega)
        have Hst : Hid (Lib.byteCells acc ++ Lib.strCells (strB [13, 10]) = Lib.byteCells (acc ++ [13, 10])) := Lib.hid (by
          rw [show Lib.strCells (strB [13, 10]) = Lib.byteCells [13, 10] from rfl]
          simp [Lib.byteCells])
        have hl2 : (acc ++ [13, 10]).length ≤ 30000000000000 := by rw [List.length_append, List.length_cons, List.length_cons, List.length_nil]; omega
        rw [show (strB [13, 10] : ByteArray) = ⟨#[13, 10]⟩ from rfl] at cW Hst
        clear hbd hb H hH
        generalize acc ++ [13, 10] = acc2 at *
        go_wp2_with fail
        refine cW.mono ?_
        rintro e w3 ⟨rfl, hbd3, hb3⟩
        rw [Hst.out] at hbd3
        have HB3 := Lib.hid (HB.out.trans (hb3.mono hle1))
        have hsz3 := hbd3.lt
        have cS := Tryd.Builder_String_any w1.heap.size w1.heap.size acc2 w3 (.inr hbd3) (by omega)
        clear cW hb3 hbd3
        go_wp2_with fail
        refine cS.mono ?_
        rintro e w4 ⟨rfl, hb4⟩
        go_wp2_with fail
        refine bodyPost_ret (v := .tuple #[.string ⟨acc2.toArray⟩, .int .i64 0]) (by simp [results, Tryd.results13, go_sem]) rfl ⟨by rw [HT2.out], HB3.out.trans (hb4.mono hle1)⟩

end Go.Proofs.YtfhpgobdnhlpcaaDoor
