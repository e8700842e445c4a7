/- The contract of the statements' own 'awake' over package ascii: it returns true. -/
import Derived.Test.YtflicgnonmooaaaDoorAscG
import Derived.Test.YtflicgnonmooaaaDoorAscD
namespace Go.Proofs.YtflicgnonmooaaaDoor
open Go.RowKit

theorem owns_shape {w : World} {B : Nat} {e : TypeId} {v : Value} {n : Nat} {xs : List Value} (h : w.ownsRow B e 1 v n xs) (hn : 0 < n) :
    ∃ g cap, v = .slice (some ⟨g, 0, none⟩) n cap ∧ g < w.heap.size ∧ B ≤ g ∧ ∀ j u, xs[j]? = some u → w.cell? ⟨g, j, none⟩ = some u := by
  obtain ⟨h1, h2⟩ := h
  rcases h2 with ⟨_, h2⟩ | ⟨g, cap, cur, hv, hg, hh, r⟩
  · omega
  · refine ⟨g, cap, hv, (Array.getElem?_eq_some_iff.1 hh).1, hg, fun j u hj => ?_⟩
    have := World.ownsRow.cells (w := w) (base := B) (e := e) (size := 1) (v := v) (n := n) (xs := xs) ⟨h1, .inr ⟨g, cap, cur, hv, hg, hh, r⟩⟩ (g := g) (by rw [hv]; rfl) j u hj
    rw [add_none] at this
    exact this

set_option maxHeartbeats 2000000 in
theorem awake_any (w : World) (hT : Tabs w) :
    Calls Tryd.prog 7 #[] w fun e w' => e = .returned (.bool true) ∧ Below w.heap.size w w' := by
  have HT := Lib.hid hT
  clear hT
  go_enter Tryd.func7, Tryd.ntmps7
  go_wp2_with fail
  refine (digits_any _ _ (by decide)).mono ?_
  rintro e w' ⟨rfl, rfl⟩
  rw [show digitsN (⟨#[52, 50]⟩ : ByteArray).data.toList = 42 by decide, show digitsB (⟨#[52, 50]⟩ : ByteArray).data.toList = true by decide]
  go_wp2_with fail
  refine (split_any _ _ (by decide) HT.out).mono ?_
  rintro e w1 ⟨v, rfl, hown, hb1⟩
  rw [show splitL (⟨#[97, 44, 32, 34, 98, 44, 99, 34, 32, 44]⟩ : ByteArray).data.toList = [[97], [34, 98, 44, 99, 34]] by decide] at hown
  obtain ⟨g, cap, rfl, hg, hgB, hcells⟩ := owns_shape hown (by decide)
  have hc1 := hcells 1 _ rfl
  clear hcells hown
  go_wp2_with fail
  refine (token_any _ _ (by decide)).mono ?_
  rintro e w' ⟨rfl, rfl⟩
  rw [show tokL (⟨#[109, 97, 120, 45, 97, 103, 101]⟩ : ByteArray).data.toList = true by decide]
  go_wp2_with fail
  refine (token_any _ _ (by decide)).mono ?_
  rintro e w' ⟨rfl, rfl⟩
  rw [show tokL (⟨#[97, 32, 98]⟩ : ByteArray).data.toList = false by decide]
  go_wp2_with fail
  refine (text_any _ _ (by decide) (Utf8Tabs_below HT.out hb1)).mono ?_
  rintro e w2 ⟨rfl, hb2⟩
  rw [show txtL (⟨#[97, 32, 98]⟩ : ByteArray).data.toList = true by decide]
  have hb2' := hb1.trans (hb2.mono hb1.size)
  have hc2 := (hb2.cell (p := ⟨g, 1, none⟩) hg).trans hc1
  have hg2 : g < w2.heap.size := Nat.lt_of_lt_of_le hg hb2.size
  clear hb2 hc1 hg hb1
  go_wp2_with fail
  refine (text_any _ _ (by decide) (Utf8Tabs_below HT.out hb2')).mono ?_
  rintro e w3 ⟨rfl, hb3⟩
  rw [show txtL (⟨#[32, 97]⟩ : ByteArray).data.toList = false by decide]
  have hb3' := hb2'.trans (hb3.mono hb2'.size)
  have hc3 := (hb3.cell (p := ⟨g, 1, none⟩) hg2).trans hc2
  have hg3 : g < w3.heap.size := Nat.lt_of_lt_of_le hg2 hb3.size
  clear hb3 hc2 hg2 hb2'
  go_wp2_with fail
  refine (lower_any _ _ (by decide)).mono ?_
  rintro e w4 ⟨rfl, hb4⟩
  rw [show lowL (⟨#[65, 98, 67]⟩ : ByteArray).data.toList = [97, 98, 99] by decide]
  have hb4' := hb3'.trans (hb4.mono hb3'.size)
  have hc4 := (hb4.cell (p := ⟨g, 1, none⟩) hg3).trans hc3
  have hg4 : g < w4.heap.size := Nat.lt_of_lt_of_le hg3 hb4.size
  clear hb4 hc3 hg3 hb3'
  go_wp2_with fail
  refine (trim_any _ _ (by decide) (Utf8Tabs_below HT.out hb4')).mono ?_
  rintro e w5 ⟨rfl, hb5⟩
  rw [show trimL (⟨#[32, 97, 9]⟩ : ByteArray).data.toList = [97] by decide]
  have hb5' := hb4'.trans (hb5.mono hb4'.size)
  have hc5 := (hb5.cell (p := ⟨g, 1, none⟩) hg4).trans hc4
  clear hb5 hc4 hg4 hb4'
  rw [strV] at hc5
  go_wp2_with fail
  go_ret
  exact ⟨rfl, hb5'⟩

end Go.Proofs.YtflicgnonmooaaaDoor
