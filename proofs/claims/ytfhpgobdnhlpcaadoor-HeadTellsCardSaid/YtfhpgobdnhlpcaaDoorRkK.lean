/- The document's own With of fields (sculleryref06). -/
import Derived.Test.YtfhpgobdnhlpcaaDoorHdM
namespace Go.Proofs.YtfhpgobdnhlpcaaDoor
open Go.RowKit Go.Shelf Go.Lib

set_option maxRecDepth 100000 in
set_option maxHeartbeats 4000000 in
theorem rwith_any (lo : Nat) (v : Value) (fs : List Fld) (p : Fld) (w : World) (h : Flds lo w v fs) (hl : fs.length ≤ 100000) :
    Calls Tryd.prog 21 #[v, .string (strB p.1), .string (strB p.2)] w fun e w' => (∃ u, e = .returned u ∧ w'.ownsRow w.heap.size 42 2 u (fs ++ [p]).length (rowF (fs ++ [p]))) ∧ Below w.heap.size w w' := by
  obtain ⟨i0, hi, hz0, hz1, hz2⟩ := info_parts info_field
  obtain ⟨ao, cap, rfl, hc⟩ := h
  have HC := Lib.hid hc
  clear hc
  have hcf : cellsF p = [.string (strB p.1), .string (strB p.2)] := rfl
  have hrs : rowF (fs ++ [p]) = rowF fs ++ cellsF p := rowF_snoc fs p
  have hmade := World.ownsRow_made (base := w.heap.size) (e := 42) (size := 2) w #[] 0 (Nat.le_refl _) (Nat.zero_le _) rfl
  have hb0 := (Below.refl w.heap.size w).alloc (Nat.le_refl _) (.cells #[] 42)
  have hz0' : (w.alloc (.cells #[] 42)).heap.size = w.heap.size + 1 := by simp
  have HM := Lib.hid hmade
  have HB0 := Lib.hid hb0
  have HCF := Lib.hid hcf
  have HRS := Lib.hid hrs
  clear hmade hb0 hcf hrs
  rcases HC.out with hnil | ⟨b, off, rfl, _, hcl, hcell⟩
  · have hr := run_append_zero (P := Tryd.prog) (w.alloc (.cells #[] 42)) 22 22 42 i0 Tryd.underlying22 hi (some ⟨w.heap.size, 0, none⟩) ao 0 fs.length 0 cap (Nat.le_refl _) (by rw [hnil]; rfl)
    have HN := Lib.hid hnil
    have hO4 := HM.out.alloc (.cells #[.string (strB p.1), .string (strB p.2)] 42)
    have hnew := cells_newF (w.alloc (.cells #[] 42)) (cellsF p) 42
    rw [hz0'] at hnew
    have HO4 := Lib.hid hO4
    have HNew := Lib.hid hnew
    clear hnil hO4 hnew
    go_enter Tryd.func21, Tryd.ntmps21
    go_wp2_with (first | (at_builtin; refine Lib.wpList_append_run _ rfl _ _ _ _ rfl _ _ rfl rfl _ _ hr ?_; clear hr) | (at_builtin; refine wpList_append_own _ rfl _ _ 22 rfl w.heap.size 42 i0 (.agg #[.string ⟨#[]⟩, .string ⟨#[]⟩]) 2 32 Tryd.underlying22 hi hz0 hz1 hz2 rfl (by decide) _ 0 [] rfl HO4.out ⟨w.heap.size + 1, 0, none⟩ 1 1 (cellsF p) rfl rfl HNew.out (by simp [Value.oneCell', cellsF]) (by unfold maxLen; omega) (by omega) (by simp; omega) ?_; intro v6 w6 hown6 hgrow6 _; obtain ⟨a6, c6, rfl⟩ := owns_formF hown6))
    have HB6 := (HB0.out.alloc (by rw [hz0']; omega) (.cells #[.string (strB p.1), .string (strB p.2)] 42)).grown hgrow6 (by simp; omega) (fun k e => (World.ownsRow.lt HO4.out k e).1)
    go_ret
    refine ⟨⟨_, rfl, ?_⟩, HB6⟩
    rw [HN.out]
    exact hown6
  · have hcs : Hid (∀ (j : Nat) (u : Value), (rowF fs)[j]? = some u → (w.alloc (.cells #[] 42)).cell? ((⟨b, off, none⟩ : Addr).add j) = some u) := Lib.hid fun j u hu => by
      have := rowF_cell (w := w) (b := b) (off := off) fs 0 (fun j q hq => by rw [Nat.zero_add]; exact hcell j q hq) j u hu
      rw [Nat.zero_mul, Nat.add_zero] at this
      rw [Addr.add_lit]
      exact ((((Below.refl w.heap.size w).alloc (Nat.le_refl _) (.cells #[] 42)).cell (p := ⟨b, off + j, none⟩) hcl)).trans this
    clear hcell
    go_enter Tryd.func21, Tryd.ntmps21
    go_wp2_with (first | (at_builtin; refine wpList_append_own _ rfl _ _ 22 rfl w.heap.size 42 i0 (.agg #[.string ⟨#[]⟩, .string ⟨#[]⟩]) 2 32 Tryd.underlying22 hi hz0 hz1 hz2 rfl (by decide) _ 0 [] rfl HM.out ⟨b, off, none⟩ fs.length cap (rowF fs) rfl (rowF_len fs) hcs.out (rowF_one fs) (by unfold maxLen; omega) (by omega) (by rw [hz0']; omega) ?_; intro v' w5 hown5 hgrow5 _; clear hcs; rw [Nat.zero_add, List.nil_append] at hown5; obtain ⟨a5, c5, rfl⟩ := owns_formF hown5; have HB5 := Lib.hid (HB0.out.grown hgrow5 (by rw [hz0']; omega) (fun k e => (World.ownsRow.lt HM.out k e).1)); have HO6 := Lib.hid (hown5.alloc (.cells #[.string (strB p.1), .string (strB p.2)] 42)); have HNew := Lib.hid (cells_newF w5 (cellsF p) 42); have z5 := HB5.out.size; clear hown5 hgrow5) | (at_builtin; refine wpList_append_own _ rfl _ _ 22 rfl w.heap.size 42 i0 (.agg #[.string ⟨#[]⟩, .string ⟨#[]⟩]) 2 32 Tryd.underlying22 hi hz0 hz1 hz2 rfl (by decide) _ _ _ rfl HO6.out ⟨w5.heap.size, 0, none⟩ 1 1 (cellsF p) rfl rfl HNew.out (by simp [Value.oneCell', cellsF]) (by unfold maxLen; omega) (by omega) (by simp; omega) ?_; intro v6 w6 hown6 hgrow6 _; obtain ⟨a6, c6, rfl⟩ := owns_formF hown6))
    have HB6 := (HB5.out.alloc z5 (.cells #[.string (strB p.1), .string (strB p.2)] 42)).grown hgrow6 (by simp; omega) (fun k e => (World.ownsRow.lt HO6.out k e).1)
    go_ret
    refine ⟨⟨_, rfl, ?_⟩, HB6⟩
    rw [HRS.out, List.length_append]
    simpa using hown6

end Go.Proofs.YtfhpgobdnhlpcaaDoor
