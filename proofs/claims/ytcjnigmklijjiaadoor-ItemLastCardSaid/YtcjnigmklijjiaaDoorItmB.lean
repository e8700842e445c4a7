/- The parser's place in memory, and the contract of its take. -/
import Derived.Test.YtcjnigmklijjiaaDoorItmA
import Derived.Deep.QuietTactic
import Derived.BigQuiet
import Derived.IntWalk
namespace Go.Proofs.YtcjnigmklijjiaaDoor
open Go.RowKit

/-- The world is as it was but for block b, and for new blocks. -/
structure Moved (b : Nat) (w w' : World) : Prop where
  os : w'.os = w.os
  tape : w'.tape = w.tape
  output : w'.output = w.output
  size : w.heap.size ≤ w'.heap.size
  block : ∀ k, k < w.heap.size → k ≠ b → w'.heap[k]? = w.heap[k]?

theorem Moved.refl (b : Nat) (w : World) : Moved b w w := ⟨rfl, rfl, rfl, Nat.le_refl _, fun _ _ _ => rfl⟩
theorem Moved.of_below {b : Nat} {w w' : World} (h : Below w.heap.size w w') : Moved b w w' := ⟨h.os, h.tape, h.output, h.size, fun k hk _ => h.block k hk⟩
theorem Moved.trans {b : Nat} {u v w : World} (h : Moved b u v) (k : Moved b v w) : Moved b u w :=
  ⟨k.os.trans h.os, k.tape.trans h.tape, k.output.trans h.output, Nat.le_trans h.size k.size, fun i hi hb => (k.block i (Nat.lt_of_lt_of_le hi h.size) hb).trans (h.block i hi hb)⟩
theorem Moved.below {b B : Nat} {w w' : World} (h : Moved b w w') (h1 : B ≤ b) (h2 : B ≤ w.heap.size) : Below B w w' :=
  ⟨h.os, h.tape, h.output, h.size, fun k hk => h.block k (Nat.lt_of_lt_of_le hk h2) (by omega)⟩
theorem Moved.cell {b : Nat} {w w' : World} (h : Moved b w w') {p : Addr} (h1 : p.block < w.heap.size) (h2 : p.block ≠ b) : w'.cell? p = w.cell? p := World.cell?_of_block (w := w) (h.block p.block h1 h2)
theorem Moved.frozen {b : Nat} {w w' : World} (h : Moved b w w') {p : Addr} (h1 : p.block < w.heap.size) (h2 : p.block ≠ b) : w'.frozen? p = w.frozen? p := World.frozen?_of_block (w := w) (h.block p.block h1 h2)

theorem Moved.setCell {b o : Nat} {w W : World} (h : Moved b w W) (v : Value) : Moved b w (W.setCell ⟨b, o, none⟩ v) := by
  exact ⟨h.os, h.tape, h.output, by simpa using h.size, fun k hk1 hb => (Below.heap_setCell W ⟨b, o, none⟩ v k hb).trans (h.block k hk1 hb)⟩
theorem Moved.drew {b : Nat} {w W : World} (h : Moved b w W) (n : Nat) : Moved b w (W.drewN n) := ⟨h.os, h.tape, h.output, h.size, h.block⟩

/-- A parser of text t at place k lies at block b. -/
structure Par (w : World) (b : Nat) (t : ByteArray) (k : Nat) : Prop where
  text : w.cell? ⟨b, 0, none⟩ = some (.string t)
  at_ : w.cell? ⟨b, 1, none⟩ = some (.int .i64 (k : Int))
  f0 : w.frozen? ⟨b, 0, none⟩ = false
  f1 : w.frozen? ⟨b, 1, none⟩ = false

theorem Par.lt {w : World} {b : Nat} {t : ByteArray} {k : Nat} (h : Par w b t k) : b < w.heap.size := lt_of_cell h.text
theorem Par.below {w W : World} {b : Nat} {t : ByteArray} {k : Nat} (h : Par w b t k) (hb : Below w.heap.size w W) : Par W b t k :=
  ⟨(hb.cell (p := ⟨b, 0, none⟩) h.lt).trans h.text, (hb.cell (p := ⟨b, 1, none⟩) h.lt).trans h.at_, (hb.frozen (p := ⟨b, 0, none⟩) h.lt).trans h.f0, (hb.frozen (p := ⟨b, 1, none⟩) h.lt).trans h.f1⟩
theorem Par.drew {w : World} {b : Nat} {t : ByteArray} {k : Nat} (h : Par w b t k) (n : Nat) : Par (w.drewN n) b t k := ⟨h.text, h.at_, h.f0, h.f1⟩
theorem Par.set {w : World} {b : Nat} {t : ByteArray} {k : Nat} (h : Par w b t k) (m : Nat) : Par (w.setCell ⟨b, 1, none⟩ (.int .i64 (m : Int))) b t m :=
  ⟨(World.cell?_setCell_other w ⟨b, 1, none⟩ ⟨b, 0, none⟩ _ (by simp)).trans h.text, World.cell?_setCell_same w ⟨b, 1, none⟩ _ h.at_, by rw [World.frozen?_setCell]; exact h.f0, by rw [World.frozen?_setCell]; exact h.f1⟩

/-- What a method of the parser leaves: its value, the parser at another place, the world as it was but for that. -/
def movePost (v : Value) (b : Nat) (t : ByteArray) (k : Nat) (w : World) (e : Ending) (w' : World) : Prop := e = .returned v ∧ Par w' b t k ∧ Moved b w w'

set_option maxRecDepth 100000 in
set_option maxHeartbeats 1000000 in
theorem take_no (b : Nat) (t : ByteArray) (k : Nat) (c : UInt8) (w : World) (h : Par w b t k) (ht : t.size ≤ 100000) (hk : k ≤ t.size) (hc : (t.data.toList.drop k).head? ≠ some c) :
    Calls Tryd.prog 53 #[.pointer (some ⟨b, 0, none⟩), .int .u8 c.toNat] w (movePost (.bool false) b t k w) := by
  have HP := Lib.hid h
  have c0 := h.text
  have c1 := h.at_
  clear h
  by_cases hlt : k < t.size
  · have hne : (((t[k]'hlt).toNat : Int) == (c.toNat : Int)) = false := by
      rw [byte_beq]
      rw [drop_cons_at t k hlt] at hc
      simpa using hc
    have n1 : (((t[k]'hlt).toNat : Int) != (c.toNat : Int)) = true := by rw [bne, hne]; rfl
    have q0 : ((k : Int) == (t.size : Int)) = false := by simp; omega
    have q1 : (0 : Int) ≤ (k : Int) := by omega
    have q2 : (k : Int) < (t.size : Int) := by omega
    clear hc hne
    go_enter Tryd.func53, Tryd.ntmps53
    go_wp2_with fail
    go_quiet (fail)
    go_wp2_with fail
    go_ret
    exact ⟨rfl, HP.out.drew _, (Moved.refl b w).drew _⟩
  · have q0 : ((k : Int) == (t.size : Int)) = true := by simp; omega
    clear hc
    go_enter Tryd.func53, Tryd.ntmps53
    go_wp2_with fail
    go_quiet (fail)
    go_wp2_with fail
    go_ret
    exact ⟨rfl, HP.out.drew _, (Moved.refl b w).drew _⟩

set_option maxRecDepth 100000 in
set_option maxHeartbeats 1000000 in
theorem take_yes (b : Nat) (t : ByteArray) (k : Nat) (c : UInt8) (w : World) (h : Par w b t k) (ht : t.size ≤ 100000) (hc : (t.data.toList.drop k).head? = some c) :
    Calls Tryd.prog 53 #[.pointer (some ⟨b, 0, none⟩), .int .u8 c.toNat] w (movePost (.bool true) b t (k + 1) w) := by
  have hlt : k < t.size := by
    by_cases hlt : k < t.size
    · exact hlt
    · rw [List.drop_of_length_le (by rw [← Lib.size_eq]; omega)] at hc
      cases hc
  have HP := Lib.hid h
  have c0 := h.text
  have c1 := h.at_
  have f1 := h.f1
  clear h
  have hne : (((t[k]'hlt).toNat : Int) == (c.toNat : Int)) = true := by
    rw [byte_beq]
    rw [drop_cons_at t k hlt] at hc
    simpa using hc
  have n1 : (((t[k]'hlt).toNat : Int) != (c.toNat : Int)) = false := by rw [bne, hne]; rfl
  have q0 : ((k : Int) == (t.size : Int)) = false := by simp; omega
  have q1 : (0 : Int) ≤ (k : Int) := by omega
  have q2 : (k : Int) < (t.size : Int) := by omega
  clear hc hne
  go_enter Tryd.func53, Tryd.ntmps53
  go_wp2_with fail
  go_quiet (fail)
  go_wp2_with fail
  go_ret
  refine ⟨rfl, ?_, ?_⟩
  · exact (HP.out.drew _).set (k + 1)
  · exact ((Moved.refl b w).drew _).setCell _

end Go.Proofs.YtcjnigmklijjiaaDoor
