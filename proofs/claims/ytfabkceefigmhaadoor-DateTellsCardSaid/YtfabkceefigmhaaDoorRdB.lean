/- The contracts of the document's own month lengths and days (sculleryref05). -/
import Derived.Test.YtfabkceefigmhaaDoorRdA
namespace Go.Proofs.YtfabkceefigmhaaDoor
open Go.RowKit

/-- The document's own table of months lies in memory. -/
abbrev lgC : Array Value := #[.int .i64 0, .int .i64 31, .int .i64 28, .int .i64 31, .int .i64 30, .int .i64 31, .int .i64 30, .int .i64 31, .int .i64 31, .int .i64 30, .int .i64 31, .int .i64 30, .int .i64 31]
theorem lg_at : ∀ j : Fin 13, 1 ≤ j.val → lgC[j.val]? = some (.int .i64 (mdT.getD (j.val - 1) 0 : Nat)) := by
  intro j h
  match j, h with
  | ⟨1, _⟩, _ | ⟨2, _⟩, _ | ⟨3, _⟩, _ | ⟨4, _⟩, _ | ⟨5, _⟩, _ | ⟨6, _⟩, _ | ⟨7, _⟩, _ | ⟨8, _⟩, _ | ⟨9, _⟩, _ | ⟨10, _⟩, _ | ⟨11, _⟩, _ | ⟨12, _⟩, _ => rfl
theorem alloc_at (w : World) (cs : Array Value) (T : TypeId) (m : Nat) (v : Value) (h : cs[m]? = some v) : (w.alloc (.cells cs T)).cell? ⟨w.heap.size, m, none⟩ = some v := by
  simp [h]

set_option maxHeartbeats 1000000 in
theorem rlong_any (y m : Nat) (w : World) (h1 : 1970 ≤ y) (h3 : 1 ≤ m) (h4 : m ≤ 12) :
    Calls Tryd.prog 18 #[.int .i64 y, .int .i64 m] w fun e w' => e = .returned (.int .i64 (mlN y m : Nat)) ∧ Below w.heap.size w w' := by
  have cL := fun W => rleap_any y W
  have hb : ∀ o, Below w.heap.size w (w.alloc o) := fun o => (Below.refl _ _).alloc (Nat.le_refl _) _
  by_cases hm : m = 2
  · subst hm
    rw [ml_leapB h1]
    cases hl : leapB y
    · rw [hl] at cL
      go_enter Tryd.func18, Tryd.ntmps18
      go_wp2_with fail
      refine (cL _).mono ?_
      rintro e w1 ⟨rfl, rfl⟩
      go_wp2_with fail
      go_ret
      exact ⟨rfl, hb _⟩
    · rw [hl] at cL
      go_enter Tryd.func18, Tryd.ntmps18
      go_wp2_with fail
      refine (cL _).mono ?_
      rintro e w1 ⟨rfl, rfl⟩
      go_wp2_with fail
      go_ret
      exact ⟨rfl, hb _⟩
  · have d1 : ((m : Int) == 2) = false := by simp; omega
    have hv : (mlN y m : Nat) = mdT.getD (m - 1) 0 := by unfold mlN; rw [if_neg hm]
    rw [hv]
    have hc := alloc_at w lgC 3 m _ (lg_at ⟨m, by omega⟩ h3)
    dsimp only at hc
    generalize mdT.getD (m - 1) 0 = l at *
    go_enter Tryd.func18, Tryd.ntmps18
    go_wp2_with fail
    go_ret
    exact ⟨rfl, hb _⟩

end Go.Proofs.YtfabkceefigmhaaDoor
