/- The contracts of the law's ownParams and ownItem (scullerylaw04). · The contract of the law's sameList (scullerylaw04). -/
import Derived.Test.YtpifbgefkbhopaaGreatDoorZMMbkA
import Derived.Test.YtpifbgefkbhopaaGreatDoorZMItmUa
import Derived.Test.YtpifbgefkbhopaaGreatDoorZMMemC
import Derived.Deep.RegionWith
import Derived.Deep.RegionHeld3

namespace Go.Proofs.YtpifbgefkbhopaaGreatDoor
open Go.RowKit Go.Maps

abbrev ritemO (k n : Int) (s : ByteArray) (v : Value) : Obj := .cells #[.int .i64 k, .int .i64 n, .string s, v] 123

end Go.Proofs.YtpifbgefkbhopaaGreatDoor

namespace Go.Proofs.YtpifbgefkbhopaaGreatDoor
open Go.RowKit Go.Maps

abbrev heldL (w : World) (A c B d : Nat) (a0 a1 a2 a3 a4 a5 a6 b0 b1 b2 b3 b4 b5 b6 : Value) (W : World) : Prop :=
  (W.cell? ⟨A, c, none⟩ = some a0 ∧ W.cell? ⟨A, c + 1, none⟩ = some a1 ∧ W.cell? ⟨A, c + 2, none⟩ = some a2 ∧ W.cell? ⟨A, c + 3, none⟩ = some a3 ∧ W.cell? ⟨A, c + 4, none⟩ = some a4 ∧ W.cell? ⟨A, c + 5, none⟩ = some a5 ∧ W.cell? ⟨A, c + 6, none⟩ = some a6) ∧ (W.cell? ⟨B, d, none⟩ = some b0 ∧ W.cell? ⟨B, d + 1, none⟩ = some b1 ∧ W.cell? ⟨B, d + 2, none⟩ = some b2 ∧ W.cell? ⟨B, d + 3, none⟩ = some b3 ∧ W.cell? ⟨B, d + 4, none⟩ = some b4 ∧ W.cell? ⟨B, d + 5, none⟩ = some b5 ∧ W.cell? ⟨B, d + 6, none⟩ = some b6) ∧ Below w.heap.size w W
theorem heldL_next {w : World} {A c B d : Nat} {a0 a1 a2 a3 a4 a5 a6 b0 b1 b2 b3 b4 b5 b6 : Value} {W W1 : World} (h : heldL w A c B d a0 a1 a2 a3 a4 a5 a6 b0 b1 b2 b3 b4 b5 b6 W) (hb : Below W.heap.size W W1) : heldL w A c B d a0 a1 a2 a3 a4 a5 a6 b0 b1 b2 b3 b4 b5 b6 W1 := by
  obtain ⟨⟨x0, x1, x2, x3, x4, x5, x6⟩, ⟨y0, y1, y2, y3, y4, y5, y6⟩, h3⟩ := h
  have k : ∀ {b i : Nat} {v : Value}, W.cell? ⟨b, i, none⟩ = some v → W1.cell? ⟨b, i, none⟩ = some v := fun {b i v} hc => (hb.cell (p := ⟨b, i, none⟩) (lt_of_cell hc)).trans hc
  exact ⟨⟨k x0, k x1, k x2, k x3, k x4, k x5, k x6⟩, ⟨k y0, k y1, k y2, k y3, k y4, k y5, k y6⟩, h3.trans (hb.mono h3.size)⟩
theorem mem7 {w : World} {b o : Nat} {M : Mem} {u : Value × Value × Value} (h : ∀ i, i < memR.size → w.cell? ⟨b, o + i, none⟩ = (memR.cells M u)[i]?) :
    (w.cell? ⟨b, o, none⟩ = some (.bool M.inner) ∧ w.cell? ⟨b, o + 1, none⟩ = some (.int .i64 M.it.k) ∧ w.cell? ⟨b, o + 2, none⟩ = some (.int .i64 M.it.n) ∧ w.cell? ⟨b, o + 3, none⟩ = some (.string (strB M.it.s)) ∧ w.cell? ⟨b, o + 4, none⟩ = some u.1 ∧ w.cell? ⟨b, o + 5, none⟩ = some u.2.1 ∧ w.cell? ⟨b, o + 6, none⟩ = some u.2.2) :=
  ⟨h 0 (by decide), h 1 (by decide), h 2 (by decide), h 3 (by decide), h 4 (by decide), h 5 (by decide), h 6 (by decide)⟩

end Go.Proofs.YtpifbgefkbhopaaGreatDoor
