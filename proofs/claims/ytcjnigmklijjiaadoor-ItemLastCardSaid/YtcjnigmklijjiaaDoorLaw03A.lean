/- What the walks of the laws over package item begin with: the facts of an item that they are handed. -/
import Derived.Test.YtcjnigmklijjiaaDoorItmS
import Derived.Test.YtcjnigmklijjiaaDoorItmU
import Derived.Test.YtcjnigmklijjiaaDoorItmW
namespace Go.Proofs.YtcjnigmklijjiaaDoor
open Go.RowKit

abbrev itemObj (k n : Int) (s : ByteArray) (v : Value) : Obj := .cells #[.int .i64 k, .int .i64 n, .string s, v] 26

theorem InP.sum {ps : List Prm} (h : InP ps) : ∀ p ∈ ps, p.key.length + p.s.length ≤ 4611686018427387904 := fun p hp => by
  have := h.2 p hp
  omega

theorem InP.small {ps : List Prm} (h : InP ps) (hz : szN ps ≤ 500) : ∀ p ∈ ps, Small p := fun p hp => by
  have h1 := szN_mem ps p hp
  obtain ⟨_, _, h4, h5⟩ := h.2 p hp
  exact ⟨by omega, by omega, h4, h5⟩

theorem ok_small {N : Nat} {ps : List Prm} (hN : N ≤ 100000) (h : ∀ p ∈ ps, OkP N p) : ∀ p ∈ ps, Small p := fun p hp => by
  obtain ⟨h1, _, h3, h4⟩ := h p hp
  have := right_n _ _ _ h1
  exact ⟨by omega, by omega, by omega, by omega⟩

theorem item_later {w W : World} {k n : Int} {s : ByteArray} {v : Value} (hb : Below (w.heap.size + 1) (w.alloc (itemObj k n s v)) W) : Below w.heap.size w W :=
  ((Below.refl w.heap.size w).alloc (Nat.le_refl _) (itemObj k n s v)).trans (hb.mono (Nat.le_succ _))

/-- The cells of one of the parameters that lie in memory. -/
theorem Prms.at_ {w : World} {ao : Option Addr} {m cap : Nat} {ps : List Prm} (h : Prms w (.slice ao m cap) ps) (j : Nat) (p : Prm) (hp : ps[j]? = some p) :
    ∃ c off, ao = some ⟨c, off, none⟩ ∧ c < w.heap.size ∧ w.cell? ⟨c, off + j * 4, none⟩ = some (.string (strB p.key)) ∧ w.cell? ⟨c, off + j * 4 + 1, none⟩ = some (.int .i64 p.k) ∧ w.cell? ⟨c, off + j * 4 + 2, none⟩ = some (.int .i64 p.n) ∧ w.cell? ⟨c, off + j * 4 + 3, none⟩ = some (.string (strB p.s)) := by
  obtain ⟨ao1, cap1, hv, hc⟩ := h
  obtain ⟨rfl, _, rfl⟩ := Value.slice.inj hv
  rcases hc with hnil | ⟨c, off, rfl, hcell⟩
  · rw [hnil] at hp; cases hp
  · obtain ⟨x0, x1, x2, x3⟩ := rowP_at ps j p hp
    exact ⟨c, off, rfl, lt_of_cell (hcell _ _ x0), hcell _ _ x0, hcell _ _ x1, hcell _ _ x2, hcell _ _ x3⟩

theorem textV_none : textV none = .tuple #[.string ⟨#[]⟩, .int .i64 2] := rfl
theorem textV_some (t : List UInt8) : textV (some t) = .tuple #[.string (strB t), .int .i64 0] := rfl

theorem textV_form (o : Option (List UInt8)) : ∃ (X : ByteArray) (E : Int), textV o = .tuple #[.string X, .int .i64 E] ∧ ((∃ u, o = some u ∧ X = strB u ∧ E = 0) ∨ (o = none ∧ E = 2)) := by
  cases o with
  | none => exact ⟨_, _, rfl, .inr ⟨rfl, rfl⟩⟩
  | some u => exact ⟨_, _, rfl, .inl ⟨u, rfl, rfl, rfl⟩⟩

theorem item_next {w W W1 : World} {o : Obj} (c : Below (w.heap.size + 1) (w.alloc o) W) (hb : Below W.heap.size W W1) : Below (w.heap.size + 1) (w.alloc o) W1 :=
  c.trans (hb.mono (by simpa using c.size))
theorem item_made {w W : World} {o : Obj} (c : Below (w.heap.size + 1) (w.alloc o) W) (o1 : Obj) : Below (w.heap.size + 1) (w.alloc o) (W.alloc o1) :=
  c.alloc (by simpa using c.size) o1

theorem sameI_self (k n : Int) (s : List UInt8) (ps : List Prm) : sameI k n s ps k n s ps = true := by
  simp [sameI, (samePs_iff ps ps).2 rfl]

theorem parsePost_none (w : World) : parsePost none w = fun e w' => Below w.heap.size w w' ∧ e = .returned (.tuple #[.agg #[.int .i64 0, .int .i64 0, .string ⟨#[]⟩, .slice none 0 0], .int .i64 2]) := rfl
theorem parsePost_some (g : Got) (ps : List Prm) (w : World) : parsePost (some (g, ps)) w = fun e w' => Below w.heap.size w w' ∧ ∃ v, e = .returned (.tuple #[.agg #[.int .i64 g.k, .int .i64 g.n, .string (strB g.s), v], .int .i64 0]) ∧ w'.ownsRow w.heap.size 41 4 v ps.length (rowP ps) := rfl

set_option maxRecDepth 100000 in
theorem run_field_rparams (k n : Int) (s : ByteArray) (ao : Option Addr) (l cap : Nat) (w : World) : Sem.run Tryd.prog (Instr.field 31 (.agg #[.int .i64 k, .int .i64 n, .string s, .slice ao l cap]) 1) w = .ok (.slice ao l cap) w := by
  kernel_rfl

end Go.Proofs.YtcjnigmklijjiaaDoor
