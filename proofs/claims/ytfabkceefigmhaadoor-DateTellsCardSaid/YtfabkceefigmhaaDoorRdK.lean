/- The contract of the document's own Parse (sculleryref05). -/
import Derived.Test.YtfabkceefigmhaaDoorRdJ
import Derived.Test.YtfabkceefigmhaaDoorRdI
import Derived.Test.YtfabkceefigmhaaDoorDatI
namespace Go.Proofs.YtfabkceefigmhaaDoor
open Go.RowKit

/-- A guess, and what its form is then: nothing, the text, or another text. -/
theorem cmp_eq {p l : List UInt8} (h : p = l) : ((strB p).toList == (strB l).toList) = true := by rw [h]; simp
theorem cmp_ne {p l : List UInt8} (h : p ≠ l) : ((strB p).toList == (strB l).toList) = false := by
  rw [Lib.toList_data, Lib.toList_data, strB_data, strB_data]
  simpa using h
theorem byte_at {l : List UInt8} {i : Nat} (h : i < (strB l).size) : (((strB l)[i].toNat : Int) != 44) = !(l[i]? == some 44) := by
  have h2 : i < l.length := by rw [strB_size] at h; exact h
  change ((l[i].toNat : Int) != 44) = _
  rw [List.getElem?_eq_getElem h2]
  have h3 := byte_beq l[i] 44
  rw [show (((44 : UInt8).toNat : Int)) = 44 from rfl] at h3
  unfold bne
  rw [h3]
  rfl

/-- What every part of the walk asks. -/
structure Asks (l : List UInt8) : Prop where
  dg : ∀ (i k : Nat) (W : World), 1 ≤ k → k ≤ 4 → i ≤ 1000 → Calls Tryd.prog 29 #[.string (strB l), .int .i64 (i : Int), .int .i64 (k : Int)] W fun e w' => e = .returned (.int .i64 (dgV l i k)) ∧ W = w'
  gu : ∀ (Y D : Int) (mon ck : Nat) (W : World), mon ≤ 100 → ck ≤ 100 → Calls Tryd.prog 28 #[.string (strB l), .int .i64 Y, .int .i64 (mon : Int), .int .i64 D, .int .i64 (ck : Int)] W fun e w' => e = .returned (.int .i64 (guI (guV l Y mon D ck))) ∧ Below W.heap.size W w'
theorem asks_any (l : List UInt8) (hl : l.length ≤ 1000) : Asks l :=
  ⟨fun i k W h1 h2 h3 => rdigits_any l i k W h1 h2 h3 (by unfold maxLen; omega), fun Y D mon ck W h1 h2 => rguess_any l Y D mon ck W h1 h2 hl⟩

set_option maxRecDepth 100000 in
set_option maxHeartbeats 1000000 in
theorem rparse0 (l : List UInt8) (n : Nat) (w : World) (hl : l.length ≤ 60) (h : scL wsT p0L l = some n) :
    Calls Tryd.prog 12 #[.string (strB l)] w fun e w' => e = .returned (.tuple #[.int .i64 n, .int .i64 0]) ∧ Below w.heap.size w w' := by
  have hA := asks_any l (by omega)
  obtain ⟨hg, hf⟩ := (hit0 l n).2 h
  have hn := gu_lt hg
  have c1 := fun W => hA.dg 12 4 W (by omega) (by omega) (by omega)
  have c2 := fun W => hA.dg 5 2 W (by omega) (by omega) (by omega)
  have c3 := fun W => hA.gu (dgV l 12 4) (dgV l 5 2) 8 17 W (by omega) (by omega)
  rw [show guV l (dgV l 12 4) 8 (dgV l 5 2) 17 = some n from hg] at c3
  have c4 := fun W => rforms_n n hn W
  have hq := cmp_eq hf
  have hx := run_ix0 (strB (fm0 n)) (strB (fm1 n)) (strB (fm2 n))
  have hge : decide ((n : Int) ≥ 0) = true := by simp
  simp only [guI] at c3
  clear hA hg hf h
  generalize dgV l 12 4 = a1 at *
  generalize dgV l 5 2 = a2 at *
  generalize strB (fm0 n) = T0 at *
  generalize strB (fm1 n) = T1 at *
  generalize strB (fm2 n) = T2 at *
  generalize strB l = t at *
  go_enter Tryd.func12, Tryd.ntmps12
  go_wp2_with fail
  refine (c1 _).mono ?_
  rintro e w1 ⟨rfl, rfl⟩
  go_wp2_with fail
  refine (c2 _).mono ?_
  rintro e w1 ⟨rfl, rfl⟩
  go_wp2_with fail
  refine (c3 _).mono ?_
  rintro e w1 ⟨rfl, hb1⟩
  go_wp2_with fail
  refine (c4 _).mono ?_
  rintro e w2 ⟨rfl, hb2⟩
  go_wp2_with fail
  go_ret2
  exact ⟨rfl, hb1.trans (hb2.mono hb1.size)⟩

end Go.Proofs.YtfabkceefigmhaaDoor
