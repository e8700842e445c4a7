/- The document's own Print of fields (sculleryref06). · The document's own With of fields (sculleryref06). -/
import Derived.Test.YthbfcamfapgodaaGreatDoorGH
import Derived.Test.YthbfcamfapgodaaGreatDoorIA
import Derived.Test.YthbfcamfapgodaaGreatDoorGQ
import Derived.BigQuiet
import Derived.Deep.QuietTactic

namespace Go.Proofs.YthbfcamfapgodaaGreatDoor
open Go.RowKit Go.Shelf Go.Lib

set_option maxRecDepth 100000 in
set_option maxHeartbeats 8000000 in
theorem rprint_any (lo : Nat) (v : Value) (fs : List Fld) (w : World) (h : Flds lo w v fs) (hk : FldsOk fs) :
    Calls Tryz.prog 48 #[v] w (hprPost (printH fs) w) := by
  have cR := rright_any lo v fs w h hk
  obtain ⟨ao, cap, rfl, hc⟩ := h
  have HC := Lib.hid hc
  have HK := Lib.hid hk
  have hl := hk.1
  clear hc hk
  cases hr : rightH fs
  · rw [hr] at cR
    have HR : Hid (textH (printH fs) = .tuple #[.string ⟨#[]⟩, .int .i64 2]) := Lib.hid (by rw [printH, hr] <;> rfl)
    clear hr
    go_enter Tryz.func48, Tryz.ntmps48
    go_wp2_with fail
    refine cR.mono ?_
    rintro e w1 ⟨rfl, hb1⟩
    go_wp2_with fail
    refine bodyPost_ret (v := .tuple #[.string ⟨#[]⟩, .int .i64 2]) (by simp [results, Tryz.results48, go_sem]) rfl ⟨by rw [HR.out], hb1⟩
  · rw [hr] at cR
    have HR : Hid (printH fs = some (prF fs ++ [13, 10])) := Lib.hid (by rw [printH, hr] <;> rfl)
    clear hr
    go_enter Tryz.func48, Tryz.ntmps48
    go_wp2_with fail
    refine cR.mono ?_
    rintro e w1 ⟨rfl, hb1⟩
    have HB1 := Lib.hid hb1
    clear hb1 cR
    go_wp2_with fail
    go_loopw [4, 5] (fun t i wr => ∃ (j : Nat) (A : ByteArray), t = .string A ∧ i = .int .i64 j ∧ j ≤ fs.length ∧ A.size ≤ j * 300000 ∧ Hid (A = strB (prF (fs.take j))) ∧ Below w.heap.size w wr) (fun _ i _ => fs.length - (intOf i).toNat)
    case atStart => exact ⟨0, ⟨#[]⟩, rfl, rfl, Nat.zero_le _, by decide, Lib.hid (by simp [prF]; rfl), HB1.out⟩
    case round =>
      obtain ⟨j, A, rfl, rfl, hj, hal, H, hb⟩ := hrel
      clear HB1
      have HB := Lib.hid hb
      by_cases hlt : j < fs.length
      · rcases HC.out with hnil | ⟨c, off, rfl, _, hcl, hcell⟩
        · exfalso
          rw [hnil] at hlt
          simp at hlt
        · obtain ⟨p, hp⟩ : ∃ p, fs[j]? = some p := ⟨_, List.getElem?_eq_getElem hlt⟩
          have Htk : Hid (strB (prF (fs.take (j + 1))) = A ++ strB (lineF p)) := Lib.hid (by
            rewrite [List.take_add_one, hp, H.out, strB_append]
            exact congrArg strB (prF_snoc _ _))
          obtain ⟨x0, x1⟩ := hcell j p hp
          have a0 := (hb.cell (p := ⟨c, off + j * 2, none⟩) hcl).trans x0
          have a1 := (hb.cell (p := ⟨c, off + j * 2 + 1, none⟩) hcl).trans x1
          have jI : (j : Int) < (fs.length : Int) := by omega
          have j0 : (0 : Int) ≤ (j : Int) := by omega
          obtain ⟨hk1, hk2⟩ := HK.out.2 p (List.mem_of_getElem? hp)
          obtain ⟨N, V⟩ := p
          dsimp only at a0 a1 hk1 hk2
          have z1 : (strB N).size ≤ 100000 := by rewrite [strB_size]; exact hk1
          have z2 : (strB V).size ≤ 100000 := by rewrite [strB_size]; exact hk2
          have hX : A ++ strB N ++ (⟨#[58, 32]⟩ : ByteArray) ++ strB V ++ (⟨#[13, 10]⟩ : ByteArray) = A ++ strB (lineF (N, V)) := by
            rewrite [← strB_of A, show (⟨#[58, 32]⟩ : ByteArray) = strB [58, 32] from rfl, show (⟨#[13, 10]⟩ : ByteArray) = strB [13, 10] from rfl, strB_append, strB_append, strB_append, strB_append, strB_append]
            simp [lineF]
          have HX := Lib.hid hX
          have hlz : (strB (lineF (N, V))).size ≤ 200004 := by rewrite [strB_size, lineF_len]; dsimp only; omega
          have hal2 : (A ++ strB (lineF (N, V))).size ≤ (j + 1) * 300000 := by rewrite [ByteArray.size_append]; omega
          have s1 : ¬ 9223372036854775807 < A.size + (strB N).size := by omega
          have s2 : ¬ 9223372036854775807 < A.size + (strB N).size + 2 := by omega
          have s3 : ¬ 9223372036854775807 < A.size + (strB N).size + 2 + (strB V).size := by omega
          have s4 : ¬ 9223372036854775807 < A.size + (strB N).size + 2 + (strB V).size + 2 := by omega
          have hbs := hb.size
          clear hX hcell x0 x1 hp hk1 hk2 H hlz hb
          generalize A ++ strB (lineF (N, V)) = A2 at *
          generalize strB N = SN at *
          generalize strB V = SV at *
          go_wp2_with fail
          go_quiet (fail)
          all_goals
            rewrite [HX.out]
            go_wp2_with fail
            go_roundw
            case rel => exact ⟨j + 1, A2, rfl, by go_num, by omega, hal2, Lib.hid Htk.out.symm, HB.out.trans ((below_drewN _ _).mono hbs)⟩
            case measure => simp [intOf]; omega
      · obtain rfl : j = fs.length := by omega
        have hH := H.out
        rw [List.take_length] at hH
        have HT2 : Hid (textH (printH fs) = .tuple #[.string (A ++ ⟨#[13, 10]⟩), .int .i64 0]) := Lib.hid (by
          rewrite [HR.out, hH, show (⟨#[13, 10]⟩ : ByteArray) = strB [13, 10] from rfl, strB_append]
          rfl)
        have s1 : ¬ 9223372036854775807 < A.size + 2 := by omega
        clear hH H hb
        go_wp2_with fail
        refine bodyPost_ret (v := .tuple #[.string (A ++ ⟨#[13, 10]⟩), .int .i64 0]) (by simp [results, Tryz.results48, go_sem]) rfl ⟨by rw [HT2.out], HB.out⟩

end Go.Proofs.YthbfcamfapgodaaGreatDoor

namespace Go.Proofs.YthbfcamfapgodaaGreatDoor
open Go.RowKit Go.Shelf Go.Lib

set_option maxRecDepth 100000 in
set_option maxHeartbeats 4000000 in
theorem rwith_any (lo : Nat) (v : Value) (fs : List Fld) (p : Fld) (w : World) (h : Flds lo w v fs) (hl : fs.length ≤ 100000) :
    Calls Tryz.prog 46 #[v, .string (strB p.1), .string (strB p.2)] w fun e w' => (∃ u, e = .returned u ∧ w'.ownsRow w.heap.size 70 2 u (fs ++ [p]).length (rowF (fs ++ [p]))) ∧ Below w.heap.size w w' := by
  obtain ⟨i0, hi, hz0, hz1, hz2⟩ := info_parts info_field
  obtain ⟨ao, cap, rfl, hc⟩ := h
  have HC := Lib.hid hc
  clear hc
  have hcf : cellsF p = [.string (strB p.1), .string (strB p.2)] := rfl
  have hrs : rowF (fs ++ [p]) = rowF fs ++ cellsF p := rowF_snoc fs p
  have hmade := World.ownsRow_made (base := w.heap.size) (e := 70) (size := 2) w #[] 0 (Nat.le_refl _) (Nat.zero_le _) rfl
  have hb0 := (Below.refl w.heap.size w).alloc (Nat.le_refl _) (.cells #[] 70)
  have hz0' : (w.alloc (.cells #[] 70)).heap.size = w.heap.size + 1 := by simp
  have HM := Lib.hid hmade
  have HB0 := Lib.hid hb0
  have HCF := Lib.hid hcf
  have HRS := Lib.hid hrs
  clear hmade hb0 hcf hrs
  rcases HC.out with hnil | ⟨b, off, rfl, _, hcl, hcell⟩
  · have hr := run_append_zero (P := Tryz.prog) (w.alloc (.cells #[] 70)) 23 23 70 i0 Tryz.underlying23 hi (some ⟨w.heap.size, 0, none⟩) ao 0 fs.length 0 cap (Nat.le_refl _) (by rw [hnil] <;> rfl)
    have HN := Lib.hid hnil
    have hO4 := HM.out.alloc (.cells #[.string (strB p.1), .string (strB p.2)] 70)
    have hnew := cells_newF (w.alloc (.cells #[] 70)) (cellsF p) 70
    rw [hz0'] at hnew
    have HO4 := Lib.hid hO4
    have HNew := Lib.hid hnew
    clear hnil hO4 hnew
    go_enter Tryz.func46, Tryz.ntmps46
    go_wp2_with (first | (at_builtin; refine Lib.wpList_append_run _ rfl _ _ _ _ rfl _ _ rfl rfl _ _ hr ?_; clear hr) | (at_builtin; refine wpList_append_own _ rfl _ _ 23 rfl w.heap.size 70 i0 (.agg #[.string ⟨#[]⟩, .string ⟨#[]⟩]) 2 32 Tryz.underlying23 hi hz0 hz1 hz2 rfl (by decide) _ 0 [] rfl HO4.out ⟨w.heap.size + 1, 0, none⟩ 1 1 (cellsF p) rfl rfl HNew.out (by simp [Value.oneCell', cellsF]) (by unfold maxLen; omega) (by omega) (by simp; omega) ?_; intro v6 w6 hown6 hgrow6 _; obtain ⟨a6, c6, rfl⟩ := owns_formF hown6))
    have HB6 := (HB0.out.alloc (by rewrite [hz0']; omega) (.cells #[.string (strB p.1), .string (strB p.2)] 70)).grown hgrow6 (by simp; omega) (fun k e => (World.ownsRow.lt HO4.out k e).1)
    go_ret
    refine ⟨⟨_, rfl, ?_⟩, HB6⟩
    rewrite [HN.out]
    exact hown6
  · have hcs : Hid (∀ (j : Nat) (u : Value), (rowF fs)[j]? = some u → (w.alloc (.cells #[] 70)).cell? ((⟨b, off, none⟩ : Addr).add j) = some u) := Lib.hid fun j u hu => by
      have := rowF_cell (w := w) (b := b) (off := off) fs 0 (fun j q hq => by rewrite [Nat.zero_add]; exact hcell j q hq) j u hu
      rw [Nat.zero_mul, Nat.add_zero] at this
      rewrite [Addr.add_lit]
      exact ((((Below.refl w.heap.size w).alloc (Nat.le_refl _) (.cells #[] 70)).cell (p := ⟨b, off + j, none⟩) hcl)).trans this
    clear hcell
    go_enter Tryz.func46, Tryz.ntmps46
    go_wp2_with (first | (at_builtin; refine wpList_append_own _ rfl _ _ 23 rfl w.heap.size 70 i0 (.agg #[.string ⟨#[]⟩, .string ⟨#[]⟩]) 2 32 Tryz.underlying23 hi hz0 hz1 hz2 rfl (by decide) _ 0 [] rfl HM.out ⟨b, off, none⟩ fs.length cap (rowF fs) rfl (rowF_len fs) hcs.out (rowF_one fs) (by unfold maxLen; omega) (by omega) (by rewrite [hz0']; omega) ?_; intro v' w5 hown5 hgrow5 _; clear hcs; rw [Nat.zero_add, List.nil_append] at hown5; obtain ⟨a5, c5, rfl⟩ := owns_formF hown5; have HB5 := Lib.hid (HB0.out.grown hgrow5 (by rewrite [hz0']; omega) (fun k e => (World.ownsRow.lt HM.out k e).1)); have HO6 := Lib.hid (hown5.alloc (.cells #[.string (strB p.1), .string (strB p.2)] 70)); have HNew := Lib.hid (cells_newF w5 (cellsF p) 70); have z5 := HB5.out.size; clear hown5 hgrow5) | (at_builtin; refine wpList_append_own _ rfl _ _ 23 rfl w.heap.size 70 i0 (.agg #[.string ⟨#[]⟩, .string ⟨#[]⟩]) 2 32 Tryz.underlying23 hi hz0 hz1 hz2 rfl (by decide) _ _ _ rfl HO6.out ⟨w5.heap.size, 0, none⟩ 1 1 (cellsF p) rfl rfl HNew.out (by simp [Value.oneCell', cellsF]) (by unfold maxLen; omega) (by omega) (by simp; omega) ?_; intro v6 w6 hown6 hgrow6 _; obtain ⟨a6, c6, rfl⟩ := owns_formF hown6))
    have HB6 := (HB5.out.alloc z5 (.cells #[.string (strB p.1), .string (strB p.2)] 70)).grown hgrow6 (by simp; omega) (fun k e => (World.ownsRow.lt HO6.out k e).1)
    go_ret
    refine ⟨⟨_, rfl, ?_⟩, HB6⟩
    rewrite [HRS.out, List.length_append]
    simpa using hown6

end Go.Proofs.YthbfcamfapgodaaGreatDoor
