/- What a reading answers, right or wrong, in one form. -/
import Derived.Test.YthbfcamfapgodaaGreatDoorGU
import Derived.Test.YthbfcamfapgodaaGreatDoorGV
import Derived.Test.YthbfcamfapgodaaGreatDoorGP

namespace Go.Proofs.YthbfcamfapgodaaGreatDoor
open Go.RowKit Go.Shelf Go.Lib

theorem sameQ_self (q : Rq) : sameQ q q = true := by simp [sameQ]
theorem sameP_self (p : Rp) : sameP p p = true := by simp [sameP]
theorem rq_form (l : List UInt8) : ∃ (q : Rq) (n x : Int), q.fs.length ≤ 64 ∧ ∀ w e w', rqPost (rdQ l) w e w' → Below w.heap.size w w' ∧ ∃ vf vb, e = .returned (.tuple #[.agg #[.string (strB q.m), .string (strB q.t), vf, vb], .int .i64 n, .int .i64 x]) ∧ Flds w.heap.size w' vf q.fs ∧ BytF w.heap.size w' vb q.b := by
  cases h : rdQ l with
  | error x => exact ⟨⟨[], [], [], []⟩, 0, x, Nat.zero_le _, fun w e w' ⟨h1, h2⟩ => ⟨h1, _, _, h2, Flds.nothing _ _, ⟨none, 0, rfl, .inl rfl⟩⟩⟩
  | ok p =>
    obtain ⟨q, n⟩ := p
    exact ⟨q, n, 0, (rdQ_small h).2.2.2.2.1.2.1, fun w e w' ⟨h1, vf, vb, h2, h3, h4⟩ => ⟨h1, vf, vb, h2, h3, h4⟩⟩
theorem rp_form (l : List UInt8) (me : ByteArray) : ∃ (p : Rp) (x : Int), p.fs.length ≤ 64 ∧ ∀ w e w', rpPost (rdP l me) w e w' → Below w.heap.size w w' ∧ ∃ vf vb, e = .returned (.tuple #[.agg #[.int .i64 p.n, vf, vb], .int .i64 x]) ∧ Flds w.heap.size w' vf p.fs ∧ BytF w.heap.size w' vb p.b := by
  cases h : rdP l me with
  | error x => exact ⟨⟨0, [], []⟩, x, Nat.zero_le _, fun w e w' ⟨h1, h2⟩ => ⟨h1, _, _, h2, Flds.nothing _ _, ⟨none, 0, rfl, .inl rfl⟩⟩⟩
  | ok p => exact ⟨p, 0, (rdP_small h).1.2.1, fun w e w' ⟨h1, vf, vb, h2, h3, h4⟩ => ⟨h1, vf, vb, h2, h3, h4⟩⟩

end Go.Proofs.YthbfcamfapgodaaGreatDoor
