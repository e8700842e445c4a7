/- The document's own Print of fields (sculleryref06). -/
import Derived.Test.YtfhpgobdnhlpcaaDoorHdH
import Derived.Test.YtfhpgobdnhlpcaaDoorRkF
import Derived.BigQuiet
import Derived.Deep.QuietTactic
namespace Go.Proofs.YtfhpgobdnhlpcaaDoor
open Go.RowKit Go.Shelf Go.Lib

set_option maxRecDepth 100000 in
set_option maxHeartbeats 8000000 in
theorem rprint_any (lo : Nat) (v : Value) (fs : List Fld) (w : World) (h : Flds lo w v fs) (hk : FldsOk fs) :
    Calls Tryd.prog 14 #[v] w (hprPost (printH fs) w) := by
  have cR := rright_any lo v fs w h hk
  obtain ⟨ao, cap, rfl, hc⟩ := h
  have HC := Lib.hid hc
  have HK := Lib.hid hk
  have hl := hk.1
  clear hc hk
  cases hr : rightH fs
  · rw [hr] at cR
    have HR : Hid (textH (printH fs) = .tuple #[.string ⟨#[]⟩, .int .i64 2]) := Lib.hid (by rw [printH, hr]; rfl)
    clear hr
    go_enter Tryd.func14, Tryd.ntmps14
    go_wp2_with fail
    refine cR.mono ?_
    rintro e w1 ⟨rfl, hb1⟩
    go_wp2_with fail
    refine bodyPost_ret (v := .tuple #[.string ⟨#[]⟩, .int .i64 2]) (by simp [results, Tryd.results14, go_sem]) rfl ⟨by rw [HR.out], hb1⟩
  · rw [hr] at cR
    have HR : Hid (printH fs = some (prF fs ++ [13, 10])) := Lib.hid (by rw [printH, hr]; rfl)
    clear hr
    go_enter Tryd.func14, Tryd.ntmps14
    go_wp2_with fail
    refine cR.mono ?_
    rintro e w1 ⟨rfl, hb1⟩
    have HB1 := Lib.hid hb1
    clear hb1 cR
    go_wp2_with fail
    go_loopw [4, 5] (fun t i wr => ∃ (j : Nat) (A : ByteArray), t = .string A ∧ i = .int .i64 j ∧ j ≤ fs.length ∧ A.size ≤ j * 300000 ∧ Hid (A = strB (prF (fs.take j))) ∧ Below w.heap.size w wr) (fun _ i _ => fs.length - (intOf i).toNat)
    case atStart => exact ⟨0, ⟨#[]⟩, rfl, rfl, Nat.zero_le _, by decide, Lib.hid (by simp [prF]; rfl), HB1.out⟩
    case round =>
      obtain ⟨j, A, rfl, rfl, hj, hal, H, hb⟩ := hrel
      clear HB1
      have HB := Lib.hid hb
      by_cases hlt : j < fs.length
      · rcases HC.out with hnil | ⟨c, off, rfl, _, hcl, hcell⟩
        · exfalso
          rw [hnil] at hlt
          simp at hlt
        · obtain ⟨p, hp⟩ : ∃ p, fs[j]? = some p := ⟨_, List.getElem?_eq_getElem hlt⟩
          have Htk : Hid (strB (prF (fs.take (j + 1))) = A ++ strB (lineF p)) := Lib.hid (by
            rw [List.take_add_one, hp, H.out, strB_append]
            exact congrArg strB (prF_snoc _ _))
          obtain ⟨x0, x1⟩ := hcell j p hp
          have a0 := (hb.cell (p := ⟨c, off + j * 2, none⟩) hcl).trans x0
          have a1 := (hb.cell (p := ⟨c, off + j * 2 + 1, none⟩) hcl).trans x1
          have jI : (j : Int) < (fs.length : Int) := by omega
          have j0 : (0 : Int) ≤ (j : Int) := by omega
          obtain ⟨hk1, hk2⟩ := HK.out.2 p (List.mem_of_getElem? hp)
          obtain ⟨N, V⟩ := p
          dsimp only at a0 a1 hk1 hk2
          have z1 : (strB N).size ≤ 100000 := by rw [strB_size]; exact hk1
          have z2 : (strB V).size ≤ 100000 := by rw [strB_size]; exact hk2
          have hX : A ++ strB N ++ (⟨#[58, 32]⟩ : ByteArray) ++ strB V ++ (⟨#[13, 10]⟩ : ByteArray) = A ++ strB (lineF (N, V)) := by
            rw [← strB_of A, show (⟨#[58, 32]⟩ : ByteArray) = strB [58, 32] from rfl, show (⟨#[13, 10]⟩ : ByteArray) = strB [13, 10] from rfl, strB_append, strB_append, strB_append, strB_append, strB_append]
            simp [lineF]
          have HX := Lib.hid hX
          have hlz : (strB (lineF (N, V))).size ≤ 200004 := by rw [strB_size, lineF_len]; dsimp only; omega
          have hal2 : (A ++ strB (lineF (N, V))).size ≤ (j + 1) * 300000 := by rw [ByteArray.size_append]; omega
          have s1 : ¬ 9223372036854775807 < A.size + (strB N).size := by omega
          have s2 : ¬ 9223372036854775807 < A.size + (strB N).size + 2 := by omega
          have s3 : ¬ 9223372036854775807 < A.size + (strB N).size + 2 + (strB V).size := by omega
          have s4 : ¬ 9223372036854775807 < A.size + (strB N).size + 2 + (strB V).size + 2 := by omega
          have hbs := hb.size
          clear hX hcell x0 x1 hp hk1 hk2 H hlz hb
          generalize A ++ strB (lineF (N, V)) = A2 at *
          generalize strB N = SN at *
          generalize strB V = SV at *
          go_wp2_with fail
          go_quiet (fail)
          all_goals
            rw [HX.out]
            go_wp2_with fail
            go_roundw
            case rel => exact ⟨j + 1, A2, rfl, by go_num, by omega, hal2, Lib.hid Htk.out.symm, HB.out.trans ((below_drewN _ _).mono hbs)⟩
            case measure => simp [intOf]; omega
      · obtain rfl : j = fs.length := by omega
        have hH := H.out
        rw [List.take_length] at hH
        have HT2 : Hid (textH (printH fs) = .tuple #[.string (A ++ ⟨#[13, 10]⟩), .int .i64 0]) := Lib.hid (by
          rw [HR.out, hH, show (⟨#[13, 10]⟩ : ByteArray) = strB [13, 10] from rfl, strB_append]
          rfl)
        have s1 : ¬ 9223372036854775807 < A.size + 2 := by omega
        clear hH H hb
        go_wp2_with fail
        refine bodyPost_ret (v := .tuple #[.string (A ++ ⟨#[13, 10]⟩), .int .i64 0]) (by simp [results, Tryd.results14, go_sem]) rfl ⟨by rw [HT2.out], HB.out⟩

end Go.Proofs.YtfhpgobdnhlpcaaDoor
