/- The contract of ascii.Lower. -/
import Derived.Test.YtjnagifolheloaaDoorMAscN
import Derived.Test.YtjnagifolheloaaDoorMLowP
import Derived.Laws.IdiomStrings

namespace Go.Proofs.YtjnagifolheloaaDoor
open Go.RowKit

/-- A row of memory that holds just these bytes, and may be written. -/
def RowIs (w : World) (b : Nat) (l : List UInt8) : Prop := ∀ j, j < l.length → w.cell? ⟨b, j, none⟩ = some (.int .u8 ((l.getD j 0).toNat : Int)) ∧ w.frozen? ⟨b, j, none⟩ = false

theorem RowIs.set {w : World} {b : Nat} {l : List UInt8} (h : RowIs w b l) (k : Nat) (c : UInt8) (n : Int) (hn : (c.toNat : Int) = n) : RowIs (w.setCell ⟨b, k, none⟩ (.int .u8 n)) b (l.set k c) := by
  intro j hj
  rw [List.length_set] at hj
  refine ⟨?_, by rw [World.frozen?_setCell]; exact (h j hj).2⟩
  by_cases e : k = j
  · subst e
    rw [World.cell?_setCell_same w _ _ (h k hj).1, ← hn]
    simp [hj]
  · rw [World.cell?_setCell_other w _ _ _ (by intro q; exact e (by injection q)), (h j hj).1]
    simp [e]

theorem RowIs.of_bytes (w : World) (s : ByteArray) (cap : Nat) (e : TypeId) (h : s.size ≤ cap) : RowIs (w.drew.alloc (.cells (bytesRow s cap) e ((bytesRow s cap).size, (bytesRow s cap).size + 1))) w.heap.size s.data.toList := by
  intro j hj
  have hj' : j < s.data.size := by simpa using hj
  have hz : (bytesRow s cap).size = cap := by
    unfold bytesRow
    have : s.data.size = s.size := rfl
    simp
    omega
  refine ⟨?_, ?_⟩
  · rw [show w.heap.size = w.drew.heap.size from rfl, World.cell?_alloc_mark, bytesRow_at s cap j hj']
    rw [List.getD_eq_getElem?_getD, Array.getElem?_toList, Array.getElem?_eq_getElem hj', Option.getD_some]
  · rw [show w.heap.size = w.drew.heap.size from rfl, World.frozen?_alloc_mark, hz]
    have : s.data.size = s.size := rfl
    simp
    omega

set_option maxHeartbeats 1000000 in
theorem lower_any (s : ByteArray) (w : World) (hs : s.size ≤ maxLen) :
    Calls Tryd.prog 35 #[.string s] w fun e w' => e = .returned (.string ⟨(lowL s.data.toList).toArray⟩) ∧ Below w.heap.size w w' := by
  unfold maxLen at hs
  have hcap := grownCap_ge w s.size 0 5
  have hconv := run_bytes_of_string (P := Tryd.prog) w 9 77 5 s Tryd.underlying9 Tryd.underlying77 Tryd.underlying5
  have R0 := RowIs.of_bytes w s _ 5 hcap
  have hb0 : Below w.heap.size w (w.drew.alloc (.cells (bytesRow s (grownCap w s.size 0 5)) 5 ((bytesRow s (grownCap w s.size 0 5)).size, (bytesRow s (grownCap w s.size 0 5)).size + 1))) := (Below.refl _ _).drew.alloc (Nat.le_refl _) _
  generalize grownCap w s.size 0 5 = cap at hcap hconv R0 hb0
  generalize (Obj.cells (bytesRow s cap) 5 ((bytesRow s cap).size, (bytesRow s cap).size + 1)) = ob at hconv R0 hb0
  go_enter Tryd.func35, Tryd.ntmps35
  go_wp2_with fail
  go_loopw [10] (fun i wr => ∃ k : Nat, k ≤ s.size ∧ i = .int .i64 k ∧ RowIs wr w.heap.size (lowTo s.data.toList k) ∧ Below w.heap.size w wr) (fun i _ => s.size - (intOf i).toNat)
  case atStart => exact ⟨0, by omega, rfl, by rw [lowTo_zero]; exact R0, hb0⟩
  case round =>
    obtain ⟨k, hk, rfl, R, hb⟩ := hrel
    clear hconv R0 hb0
    have hsz := Lib.size_eq s
    by_cases hlt : k < s.size
    · have hlk : k < (lowTo s.data.toList k).length := by rw [lowTo_length]; omega
      have hkl : k < s.data.toList.length := by omega
      clear hsz
      have hcell := (R k hlk).1
      have hfrz := (R k hlk).2
      rw [lowTo_at _ _ hkl] at hcell
      have Hsu := Lib.hid (lowTo_succ s.data.toList k hkl)
      have Hat := Lib.hid (lowTo_at s.data.toList k hkl)
      generalize s.data.toList[k] = c at hcell Hsu Hat
      have cU := isUpper_any (c.toNat : Int) wr
      cases hu : upI (c.toNat : Int)
      · rw [hu] at cU
        have Hlow := Lib.hid (lowB_not c hu)
        clear hu
        go_wp2_with (go_at_call 51; refine cU.mono ?_; rintro e w' ⟨rfl, rfl⟩)
        go_roundw
        case rel => exact ⟨k + 1, by omega, by go_num, by rw [Hsu.out, Hlow.out, ← Hat.out, set_same _ _ hlk]; exact R, hb⟩
        case measure => simp [intOf]; omega
      · rw [hu] at cU
        have Hlow := Lib.hid (lowB_up c hu)
        obtain ⟨h65, h90⟩ := (upI_iff _).1 hu
        clear hu
        go_wp2_with (go_at_call 51; refine cU.mono ?_; rintro e w' ⟨rfl, rfl⟩)
        go_roundw
        case rel => exact ⟨k + 1, by omega, by go_num, by rw [Hsu.out]; exact R.set k _ _ Hlow.out, hb.setCell (Nat.le_refl _) _⟩
        case measure => simp [intOf]; omega
    · have Hk : Hid (lowTo s.data.toList k = lowL s.data.toList) := Lib.hid (lowTo_end _ _ (by omega))
      have hback := run_convert_bytes_back (P := Tryd.prog) wr 77 9 5 ⟨w.heap.size, 0, none⟩ cap (lowL s.data.toList) Tryd.underlying77 Tryd.underlying5 Tryd.underlying9 (by
        intro j hj
        have h1 : j < (lowTo s.data.toList k).length := by rw [Hk.out]; exact hj
        have := (R j h1).1
        rw [Hk.out, List.getD_eq_getElem?_getD, List.getElem?_eq_getElem hj] at this
        rw [add_none]
        simpa using this)
      rw [show (lowL s.data.toList).length = s.size by rw [hsz]; simp [lowL]] at hback
      clear hsz
      go_wp2
      go_ret
      exact ⟨rfl, hb⟩

end Go.Proofs.YtjnagifolheloaaDoor
