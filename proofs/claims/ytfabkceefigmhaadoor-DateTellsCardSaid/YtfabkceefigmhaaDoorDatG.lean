/- The contracts of the three parsers of package date. -/
import Derived.Test.YtfabkceefigmhaaDoorDatF
namespace Go.Proofs.YtfabkceefigmhaaDoor
open Go.RowKit

theorem enters_short : ∀ args W, (callFunc 21 args).run Tryd.prog W = .ok (.enter 21 args) W := enters_of Tryd.func21 (by kernel_rfl) rfl
theorem enters_full : ∀ args W, (callFunc 36 args).run Tryd.prog W = .ok (.enter 36 args) W := enters_of Tryd.func36 (by kernel_rfl) rfl
theorem enters_monthName : ∀ args W, (callFunc 23 args).run Tryd.prog W = .ok (.enter 23 args) W := enters_of Tryd.func23 (by kernel_rfl) rfl

set_option maxHeartbeats 1000000 in
theorem weekday_read (F : FuncId) (f : Nat → List UInt8) (b : Nat) (s : St) (w : World) (hE : ∀ args W, (callFunc F args).run Tryd.prog W = .ok (.enter F args) W) (hF : Names F f 0 7) (h : Txt w b s) (hC : Cal w) :
    Calls Tryd.prog 39 #[.pointer (some ⟨b, 0, none⟩), .func (.func F) #[] #[]] w (txtPost (.int .i64 (nmL f 0 7 s).1) b (nmL f 0 7 s).2 w) := by
  have cN := named_any F f 0 7 b s w hE hF h hC (by omega) 6 rfl
  clear h hC hE hF
  generalize nmL f 0 7 s = q at *
  go_enter Tryd.func39, Tryd.ntmps39
  go_wp2_with fail
  refine cN.mono ?_
  rintro e w1 ⟨rfl, hT1, hM1⟩
  go_wp2_with fail
  go_ret
  exact ⟨rfl, hT1, hM1⟩

set_option maxHeartbeats 1000000 in
theorem month_read (b : Nat) (s : St) (w : World) (h : Txt w b s) (hC : Cal w) :
    Calls Tryd.prog 43 #[.pointer (some ⟨b, 0, none⟩)] w (txtPost (.int .i64 (nmL moT 1 12 s).1) b (nmL moT 1 12 s).2 w) := by
  have cN := named_any _ moT 1 12 b s w enters_monthName names_month h hC (by omega) 12 rfl
  clear h hC
  generalize nmL moT 1 12 s = q at *
  go_enter Tryd.func43, Tryd.ntmps43
  go_wp2_with fail
  refine cN.mono ?_
  rintro e w1 ⟨rfl, hT1, hM1⟩
  go_wp2_with fail
  go_ret
  exact ⟨rfl, hT1, hM1⟩

/-- Four numbers in a block. -/
structure Four (W : World) (c : Nat) (a0 a1 a2 a3 : Int) : Prop where
  c0 : W.cell? ⟨c, 0, none⟩ = some (.int .i64 a0)
  c1 : W.cell? ⟨c, 1, none⟩ = some (.int .i64 a1)
  c2 : W.cell? ⟨c, 2, none⟩ = some (.int .i64 a2)
  c3 : W.cell? ⟨c, 3, none⟩ = some (.int .i64 a3)
  f0 : W.frozen? ⟨c, 0, none⟩ = false
  f1 : W.frozen? ⟨c, 1, none⟩ = false
  f2 : W.frozen? ⟨c, 2, none⟩ = false
  f3 : W.frozen? ⟨c, 3, none⟩ = false
theorem Four.moved {W W' : World} {b c : Nat} {a0 a1 a2 a3 : Int} (h : Four W c a0 a1 a2 a3) (hM : Moved b W W') (hb : c ≠ b) : Four W' c a0 a1 a2 a3 :=
  have l := lt_of_cell h.c0
  ⟨(hM.cell (p := ⟨c, 0, none⟩) l hb).trans h.c0, (hM.cell (p := ⟨c, 1, none⟩) l hb).trans h.c1, (hM.cell (p := ⟨c, 2, none⟩) l hb).trans h.c2, (hM.cell (p := ⟨c, 3, none⟩) l hb).trans h.c3,
   (hM.frozen (p := ⟨c, 0, none⟩) l hb).trans h.f0, (hM.frozen (p := ⟨c, 1, none⟩) l hb).trans h.f1, (hM.frozen (p := ⟨c, 2, none⟩) l hb).trans h.f2, (hM.frozen (p := ⟨c, 3, none⟩) l hb).trans h.f3⟩
theorem Four.set0 {W : World} {c : Nat} {a0 a1 a2 a3 : Int} (h : Four W c a0 a1 a2 a3) (x : Int) : Four (W.setCell ⟨c, 0, none⟩ (.int .i64 x)) c x a1 a2 a3 :=
  ⟨World.cell?_setCell_same W _ _ h.c0, (World.cell?_setCell_other W _ ⟨c, 1, none⟩ _ (by simp)).trans h.c1, (World.cell?_setCell_other W _ ⟨c, 2, none⟩ _ (by simp)).trans h.c2, (World.cell?_setCell_other W _ ⟨c, 3, none⟩ _ (by simp)).trans h.c3,
   by rw [World.frozen?_setCell]; exact h.f0, by rw [World.frozen?_setCell]; exact h.f1, by rw [World.frozen?_setCell]; exact h.f2, by rw [World.frozen?_setCell]; exact h.f3⟩
theorem Four.set1 {W : World} {c : Nat} {a0 a1 a2 a3 : Int} (h : Four W c a0 a1 a2 a3) (x : Int) : Four (W.setCell ⟨c, 1, none⟩ (.int .i64 x)) c a0 x a2 a3 :=
  ⟨(World.cell?_setCell_other W _ ⟨c, 0, none⟩ _ (by simp)).trans h.c0, World.cell?_setCell_same W _ _ h.c1, (World.cell?_setCell_other W _ ⟨c, 2, none⟩ _ (by simp)).trans h.c2, (World.cell?_setCell_other W _ ⟨c, 3, none⟩ _ (by simp)).trans h.c3,
   by rw [World.frozen?_setCell]; exact h.f0, by rw [World.frozen?_setCell]; exact h.f1, by rw [World.frozen?_setCell]; exact h.f2, by rw [World.frozen?_setCell]; exact h.f3⟩
theorem Four.set2 {W : World} {c : Nat} {a0 a1 a2 a3 : Int} (h : Four W c a0 a1 a2 a3) (x : Int) : Four (W.setCell ⟨c, 2, none⟩ (.int .i64 x)) c a0 a1 x a3 :=
  ⟨(World.cell?_setCell_other W _ ⟨c, 0, none⟩ _ (by simp)).trans h.c0, (World.cell?_setCell_other W _ ⟨c, 1, none⟩ _ (by simp)).trans h.c1, World.cell?_setCell_same W _ _ h.c2, (World.cell?_setCell_other W _ ⟨c, 3, none⟩ _ (by simp)).trans h.c3,
   by rw [World.frozen?_setCell]; exact h.f0, by rw [World.frozen?_setCell]; exact h.f1, by rw [World.frozen?_setCell]; exact h.f2, by rw [World.frozen?_setCell]; exact h.f3⟩
theorem Four.set3 {W : World} {c : Nat} {a0 a1 a2 a3 : Int} (h : Four W c a0 a1 a2 a3) (x : Int) : Four (W.setCell ⟨c, 3, none⟩ (.int .i64 x)) c a0 a1 a2 x :=
  ⟨(World.cell?_setCell_other W _ ⟨c, 0, none⟩ _ (by simp)).trans h.c0, (World.cell?_setCell_other W _ ⟨c, 1, none⟩ _ (by simp)).trans h.c1, (World.cell?_setCell_other W _ ⟨c, 2, none⟩ _ (by simp)).trans h.c2, World.cell?_setCell_same W _ _ h.c3,
   by rw [World.frozen?_setCell]; exact h.f0, by rw [World.frozen?_setCell]; exact h.f1, by rw [World.frozen?_setCell]; exact h.f2, by rw [World.frozen?_setCell]; exact h.f3⟩
theorem Four.other {W : World} {c d o : Nat} {a0 a1 a2 a3 : Int} (h : Four W c a0 a1 a2 a3) (hd : d ≠ c) (v : Value) : Four (W.setCell ⟨d, o, none⟩ v) c a0 a1 a2 a3 :=
  ⟨(World.cell?_setCell_other W _ ⟨c, 0, none⟩ _ (by simp [])).trans h.c0, (World.cell?_setCell_other W _ ⟨c, 1, none⟩ _ (by simp [])).trans h.c1, (World.cell?_setCell_other W _ ⟨c, 2, none⟩ _ (by simp [])).trans h.c2, (World.cell?_setCell_other W _ ⟨c, 3, none⟩ _ (by simp [])).trans h.c3,
   by rw [World.frozen?_setCell]; exact h.f0, by rw [World.frozen?_setCell]; exact h.f1, by rw [World.frozen?_setCell]; exact h.f2, by rw [World.frozen?_setCell]; exact h.f3⟩
theorem Txt.other {W : World} {b d o : Nat} {s : St} (h : Txt W b s) (hd : d ≠ b) (v : Value) : Txt (W.setCell ⟨d, o, none⟩ v) b s :=
  ⟨(World.cell?_setCell_other W _ ⟨b, 0, none⟩ _ (by simp [])).trans h.c0, (World.cell?_setCell_other W _ ⟨b, 1, none⟩ _ (by simp [])).trans h.c1,
   by rw [World.frozen?_setCell]; exact h.f0, by rw [World.frozen?_setCell]; exact h.f1, h.sz⟩
theorem Moved.setNew {b c o : Nat} {w W : World} (h : Moved b w W) (hc : w.heap.size ≤ c) (v : Value) : Moved b w (W.setCell ⟨c, o, none⟩ v) :=
  ⟨h.os, h.tape, h.output, by simpa using h.size, fun k hk1 hb => (Below.heap_setCell W ⟨c, o, none⟩ v k (by simp; omega)).trans (h.block k hk1 hb)⟩

/-- A moment as a value; what a parser leaves. -/
def momV (m : Mom) : Value := .agg #[.int .i64 m.y, .int .i64 m.m, .int .i64 m.d, .int .i64 m.c]
def Reads2 (F : FuncId) (p : St → Mom × St) : Prop :=
  ∀ b s w, Txt w b s → Cal w → Calls Tryd.prog F #[.pointer (some ⟨b, 0, none⟩)] w (txtPost (momV (p s).1) b (p s).2 w)

theorem zero_four (w : World) : Four ((w.alloc (.cells #[.int .i64 0, .int .i64 0, .int .i64 0, .int .i64 0] 59)).alloc (.cells #[.int .i64 0, .int .i64 0, .int .i64 0, .int .i64 0] 59)) w.heap.size 0 0 0 0 := by
  constructor <;> simp
theorem zero_four2 (w : World) : Four ((w.alloc (.cells #[.int .i64 0, .int .i64 0, .int .i64 0, .int .i64 0] 59)).alloc (.cells #[.int .i64 0, .int .i64 0, .int .i64 0, .int .i64 0] 59)) (w.heap.size + 1) 0 0 0 0 := by
  constructor <;> simp

end Go.Proofs.YtfabkceefigmhaaDoor
