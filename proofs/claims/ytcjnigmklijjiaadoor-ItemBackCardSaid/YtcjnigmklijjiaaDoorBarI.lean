/- The contracts of bare.noItem and bare.readBoolean. -/
import Derived.Test.YtcjnigmklijjiaaDoorBarB
import Derived.Test.YtcjnigmklijjiaaDoorBarC
namespace Go.Proofs.YtcjnigmklijjiaaDoor
open Go.RowKit

/-- What a reader hands out: a bare item, its length and OK, or nothing and ErrForm. -/
structure Got where
  k : Int
  n : Int
  s : List UInt8
  m : Nat

def gotV (o : Option Got) : Value := match o with
  | some g => .tuple #[.agg #[.int .i64 g.k, .int .i64 g.n, .string (strB g.s)], .int .i64 (g.m : Int), .int .i64 0]
  | none => .tuple #[.agg #[.int .i64 0, .int .i64 0, .string ⟨#[]⟩], .int .i64 0, .int .i64 2]

def gotPost (v : Value) (w : World) (e : Ending) (w' : World) : Prop := e = .returned v ∧ Below w.heap.size w w'

set_option maxHeartbeats 1000000 in
theorem noItem_any (w : World) : Calls Tryd.prog 66 #[] w (gotPost (gotV none) w) := by
  go_enter Tryd.func66, Tryd.ntmps66
  go_wp2
  exact bodyPost_ret (v := gotV none) (by simp [results, Tryd.results66, go_sem, gotV]) rfl ⟨rfl, (Below.refl _ _).alloc (Nat.le_refl _) _⟩

def readBoolL (l : List UInt8) : Option Got := match l with
  | _ :: c :: _ => if c == 48 || c == 49 then some ⟨6, (c.toNat : Int) - 48, [], 2⟩ else none
  | _ => none

set_option maxHeartbeats 2000000 in
theorem readBoolean_any (s : ByteArray) (w : World) (hs : s.size ≤ 100000) :
    Calls Tryd.prog 71 #[.string s] w (gotPost (gotV (readBoolL s.data.toList)) w) := by
  have cN := fun W => noItem_any W
  have hb0 : Below w.heap.size w (w.alloc (.cells #[.int .i64 0, .int .i64 0, .string ⟨#[]⟩] 23)) := (Below.refl _ _).alloc (Nat.le_refl _) _
  have Hno : ∀ w1, Below (w.alloc (.cells #[.int .i64 0, .int .i64 0, .string ⟨#[]⟩] 23)).heap.size (w.alloc (.cells #[.int .i64 0, .int .i64 0, .string ⟨#[]⟩] 23)) w1 → (w1.cell? ⟨w.heap.size, 0, none⟩ = some (.int .i64 0) ∧ w1.cell? ⟨w.heap.size, 1, none⟩ = some (.int .i64 0) ∧ w1.cell? ⟨w.heap.size, 2, none⟩ = some (.string ⟨#[]⟩)) ∧ (w1.frozen? ⟨w.heap.size, 0, none⟩ = false ∧ w1.frozen? ⟨w.heap.size, 1, none⟩ = false ∧ w1.frozen? ⟨w.heap.size, 2, none⟩ = false) := by
    intro w1 hb
    refine ⟨⟨?_, ?_, ?_⟩, ?_, ?_, ?_⟩
    · rw [hb.cell (p := ⟨w.heap.size, 0, none⟩) (by simp)]; simp
    · rw [hb.cell (p := ⟨w.heap.size, 1, none⟩) (by simp)]; simp
    · rw [hb.cell (p := ⟨w.heap.size, 2, none⟩) (by simp)]; simp
    · rw [hb.frozen (p := ⟨w.heap.size, 0, none⟩) (by simp)]; simp
    · rw [hb.frozen (p := ⟨w.heap.size, 1, none⟩) (by simp)]; simp
    · rw [hb.frozen (p := ⟨w.heap.size, 2, none⟩) (by simp)]; simp
  have HNo := Lib.hid Hno
  clear Hno
  by_cases h2 : 2 ≤ s.size
  · have h1 : 1 < s.size := by omega
    have e0 := drop_cons_at s 0 (by omega)
    have e1 := drop_cons_at s 1 h1
    rw [List.drop_zero] at e0
    rw [e0, e1]
    have b0 : (((s[1]'h1).toNat : Int) == 48) = (s[1]'h1 == 48) := byte_beq _ 48
    have b1 : (((s[1]'h1).toNat : Int) == 49) = (s[1]'h1 == 49) := byte_beq _ 49
    clear e0 e1
    have hd : decide (s.size < 2) = false := by simp; omega
    rw [readBoolL, ← b0, ← b1]
    clear b0 b1
    cases g0 : (((s[1]'h1).toNat : Int) == 48) <;> cases g1 : (((s[1]'h1).toNat : Int) == 49)
    · have n0 : (((s[1]'h1).toNat : Int) != 48) = true := by rw [bne, g0]; rfl
      have n1 : (((s[1]'h1).toNat : Int) != 49) = true := by rw [bne, g1]; rfl
      clear g0 g1
      show Calls _ _ _ _ (gotPost (gotV none) w)
      go_enter Tryd.func71, Tryd.ntmps71
      go_wp2_with fail
      refine (cN _).mono ?_
      rintro e w1 ⟨rfl, hb1⟩
      obtain ⟨⟨p0, p1, p2⟩, f0, f1, f2⟩ := HNo.out w1 hb1
      have hb1' := hb0.trans (hb1.mono hb0.size)
      clear hb1
      simp only [gotV]
      go_wp2
      exact bodyPost_ret (v := gotV none) (by simp [results, Tryd.results71, go_sem, gotV, p0, p1, p2]) rfl ⟨rfl, ((hb1'.setCell (by simp) _).setCell (by simp) _).setCell (by simp) _⟩
    all_goals
      first
      | (exfalso; simp only [beq_iff_eq] at g0 g1; omega)
      | (have hc : 48 ≤ ((s[1]'h1).toNat : Int) ∧ ((s[1]'h1).toNat : Int) ≤ 49 := by
           simp only [beq_iff_eq, beq_eq_false_iff_ne, ne_eq] at g0 g1; omega
         obtain ⟨k0, k1⟩ := hc
         have n0 : (((s[1]'h1).toNat : Int) != 48) = !(((s[1]'h1).toNat : Int) == 48) := rfl
         have n1 : (((s[1]'h1).toNat : Int) != 49) = !(((s[1]'h1).toNat : Int) == 49) := rfl
         rw [g0] at n0
         rw [g1] at n1
         clear g0 g1
         simp only [Bool.not_true, Bool.not_false] at n0 n1
         show Calls _ _ _ _ (gotPost (gotV (some ⟨6, ((s[1]'h1).toNat : Int) - 48, [], 2⟩)) w)
         go_enter Tryd.func71, Tryd.ntmps71
         go_wp2
         exact bodyPost_ret (v := gotV (some ⟨6, ((s[1]'h1).toNat : Int) - 48, [], 2⟩)) (by simp [results, Tryd.results71, go_sem, gotV, strB]) rfl ⟨rfl, (Below.refl _ _).alloc (Nat.le_refl _) _⟩)
  · have hd : decide (s.size < 2) = true := by simp; omega
    have hn : readBoolL s.data.toList = none := by
      have hl : s.data.toList.length < 2 := by rw [← Lib.size_eq]; omega
      match hq : s.data.toList, hl with
      | [], _ => rfl
      | [_], _ => rfl
    rw [hn]
    clear hn
    go_enter Tryd.func71, Tryd.ntmps71
    go_wp2_with fail
    refine (cN _).mono ?_
    rintro e w1 ⟨rfl, hb1⟩
    obtain ⟨⟨p0, p1, p2⟩, f0, f1, f2⟩ := HNo.out w1 hb1
    have hb1' := hb0.trans (hb1.mono hb0.size)
    clear hb1
    simp only [gotV]
    go_wp2
    exact bodyPost_ret (v := gotV none) (by simp [results, Tryd.results71, go_sem, gotV, p0, p1, p2]) rfl ⟨rfl, ((hb1'.setCell (by simp) _).setCell (by simp) _).setCell (by simp) _⟩

end Go.Proofs.YtcjnigmklijjiaaDoor
