/- The contracts of seconds, forms and Parse of package date. -/
import Derived.Test.YtfabkceefigmhaaDoorDatH
namespace Go.Proofs.YtfabkceefigmhaaDoor
open Go.RowKit

/-- Seconds as an answer. -/
def secV : Option Nat → Value
  | some n => .tuple #[.int .i64 n, .int .i64 0]
  | none => .tuple #[.int .i64 0, .int .i64 2]

theorem isEmpty_strB (r : List UInt8) : (strB r).toList.isEmpty = r.isEmpty := by rw [Lib.toList_data, strB_data]

/-- The world of seconds when its reader lies. -/
abbrev secW (w : World) (F G : FuncId) (s : ByteArray) : World := (w.alloc (.cells #[.func (.func F) #[] #[], .func (.func G) #[] #[]] 45)).alloc (.cells #[.string s, .bool false] 56)
theorem secW_below (w : World) (F G : FuncId) (s : ByteArray) : Below w.heap.size w (secW w F G s) := by
  have h1 : Below w.heap.size w (w.alloc (.cells #[.func (.func F) #[] #[], .func (.func G) #[] #[]] 45)) := (Below.refl _ _).alloc (Nat.le_refl _) _
  exact h1.alloc (by simp) _
theorem secW_txt (w : World) (F G : FuncId) (s : List UInt8) (hs : s.length ≤ maxLen) : Txt (secW w F G (strB s)) (w.heap.size + 1) (s, false) := by
  constructor <;> simp [hs]
theorem secW_box (w : World) (F G : FuncId) (s : ByteArray) : (secW w F G s).cell? ⟨w.heap.size, 1, none⟩ = some (.func (.func G) #[] #[]) := by simp
theorem secW_size (w : World) (F G : FuncId) (s : ByteArray) : (secW w F G s).heap.size = w.heap.size + 2 := by simp

set_option maxRecDepth 100000 in
set_option maxHeartbeats 2000000 in
theorem seconds_any (F G : FuncId) (f : Nat → List UInt8) (p : St → Mom × St) (s : List UInt8) (w : World)
    (hE : ∀ args W, (callFunc F args).run Tryd.prog W = .ok (.enter F args) W) (hEG : ∀ args W, (callFunc G args).run Tryd.prog W = .ok (.enter G args) W)
    (hF : Names F f 0 7) (hG : Reads2 G p) (hp : ∀ s, (p s).1.c < 400000) (hs : s.length ≤ maxLen) (hC : Cal w) :
    Calls Tryd.prog 27 #[.agg #[.func (.func F) #[] #[], .func (.func G) #[] #[]], .string (strB s)] w fun e w' => e = .returned (secV (scL f p s)) ∧ Below w.heap.size w w' := by
  have cW := fun W h hC => weekday_read F f (w.heap.size + 1) (s, false) W hE hF h hC
  have HG := Lib.hid hG
  have HC := Lib.hid hC
  have HS := Lib.hid hs
  clear hE hF hG hC hs
  unfold scL
  dsimp only
  generalize nmL f 0 7 (s, false) = q1 at *
  obtain ⟨n1, t1⟩ := q1
  dsimp only at *
  have cP := fun W h hC => HG.out (w.heap.size + 1) t1 W h hC
  have hc := hp t1
  clear hp
  generalize p t1 = q2 at *
  obtain ⟨⟨y, m, d, c⟩, r, x⟩ := q2
  dsimp only at *
  obtain ⟨ans, hA⟩ : ∃ a, a = (if (x || !r.isEmpty) = true then none else if DayOk y m d ∧ wdN (daysN y m d) = n1 then some (86400 * daysN y m d + c) else none) := ⟨_, rfl⟩
  rw [← hA]
  have hT0 := Lib.hid (secW_txt w F G s HS.out)
  have hbx0 := Lib.hid (secW_box w F G (strB s))
  have hz0 := Lib.hid (secW_size w F G (strB s))
  have hb0 := Lib.hid (secW_below w F G (strB s))
  simp only [momV] at cP
  generalize strB s = ss at *
  go_enter Tryd.func27, Tryd.ntmps27
  go_wp2_with fail
  refine (cW _ hT0.out (HC.out.below hb0.out)).mono ?_
  rintro e w1 ⟨rfl, hT1, hM1⟩
  have hbx := (hM1.cell (p := ⟨w.heap.size, 1, none⟩) (by rw [hz0.out]; simp) (by simp)).trans hbx0.out
  have hC1 := Lib.hid ((HC.out.below hb0.out).moved hT0.out hM1)
  have HT1 := Lib.hid hT1
  have hb1 := Lib.hid (hb0.out.trans (hM1.below (B := w.heap.size) (Nat.le_succ _) (by rw [hz0.out]; omega)))
  have hz1 : w.heap.size + 2 ≤ w1.heap.size := by have := hM1.size; rw [hz0.out] at this; exact this
  clear hT1 hM1 cW hT0 hbx0
  go_wp2_with fail
  refine (cP _ HT1.out hC1.out).mono ?_
  rintro e w2 ⟨rfl, hT2, hM2⟩
  have hC2 := Lib.hid (hC1.out.moved HT1.out hM2)
  have hb2 := Lib.hid (hb1.out.trans (hM2.below (B := w.heap.size) (Nat.le_succ _) (by omega)))
  have hz2 : w.heap.size + 2 ≤ w2.heap.size := Nat.le_trans hz1 hM2.size
  have hbA : Below w2.heap.size w2 (w2.alloc (.cells #[.int .i64 (y : Int), .int .i64 (m : Int), .int .i64 (d : Int), .int .i64 (c : Int)] 59)) := (Below.refl _ _).alloc (Nat.le_refl _) _
  have hTA := hT2.below hbA
  have k0 := hTA.c0
  have k1 := hTA.c1
  have hbB := Lib.hid (hb2.out.trans (hbA.mono hb2.out.size))
  have hCB := Lib.hid (hC2.out.below hbA)
  dsimp only at k0 k1
  have he := isEmpty_strB r
  clear hT2 hM2 hbA hTA hbx cP
  cases x
  · cases hr : r.isEmpty
    · rw [hr] at he hA
      have hA2 : Hid (ans = none) := Lib.hid hA
      clear hA
      generalize strB r = q at *
      go_wp2_with fail
      go_ret2
      exact ⟨by rw [hA2.out]; rfl, hbB.out⟩
    · rw [hr] at he hA
      have hA' : ans = (if DayOk y m d ∧ wdN (daysN y m d) = n1 then some (86400 * daysN y m d + c) else none) := by rw [hA]; rfl
      clear hA
      have cD := days_any y m d _ hCB.out
      generalize hq : strB r = q at *
      clear hq
      have hz3 : (w2.alloc (.cells #[.int .i64 (y : Int), .int .i64 (m : Int), .int .i64 (d : Int), .int .i64 (c : Int)] 59)).heap.size = w2.heap.size + 1 := by simp
      have Hz3 := Lib.hid hz3
      clear hz3
      unfold daysV at cD
      rw [dayI_nat] at cD
      by_cases hk : DayOk y m d
      · rw [if_pos (by simpa using hk)] at cD
        simp only [Int.toNat_natCast] at cD
        have hlt := days_bound hk
        have cK := fun W => weekday_nat (daysN y m d) W (by omega)
        by_cases hw : wdN (daysN y m d) = n1
        · have hgo : Hid (ans = some (86400 * daysN y m d + c)) := Lib.hid (hA'.trans (if_pos ⟨hk, hw⟩))
          clear hA'
          have hne : (((wdN (daysN y m d) : Nat) : Int) != (n1 : Int)) = false := by rw [hw]; simp
          generalize wdN (daysN y m d) = wd at *
          generalize daysN y m d = K at *
          go_wp2_with fail
          refine cD.mono ?_
          rintro e w3 ⟨rfl, hb3⟩
          have kc : w3.cell? ⟨w2.heap.size, 3, none⟩ = some (.int .i64 (c : Int)) := (hb3.cell (p := ⟨w2.heap.size, 3, none⟩) (by rw [Hz3.out]; exact Nat.lt_succ_self _)).trans (by simp)
          go_wp2_with fail
          refine (cK _).mono ?_
          rintro e w4 ⟨rfl, rfl⟩
          go_wp2_with fail
          go_ret2
          refine ⟨?_, hbB.out.trans (hb3.mono hbB.out.size)⟩
          rw [hgo.out]
          have hcast : ((86400 * K + c : Nat) : Int) = (K : Int) * 86400 + (c : Int) := by omega
          simp only [secV]
          rw [hcast]
          rfl
        · have hgo : Hid (ans = none) := Lib.hid (hA'.trans (if_neg (fun h => hw h.2)))
          clear hA'
          have hne : (((wdN (daysN y m d) : Nat) : Int) != (n1 : Int)) = true := by simp; omega
          generalize wdN (daysN y m d) = wd at *
          generalize daysN y m d = K at *
          go_wp2_with fail
          refine cD.mono ?_
          rintro e w3 ⟨rfl, hb3⟩
          go_wp2_with fail
          refine (cK _).mono ?_
          rintro e w4 ⟨rfl, rfl⟩
          go_wp2_with fail
          go_ret2
          refine ⟨?_, hbB.out.trans (hb3.mono hbB.out.size)⟩
          rw [hgo.out]
          rfl
      · rw [if_neg (by simpa using hk)] at cD
        have hgo : Hid (ans = none) := Lib.hid (hA'.trans (if_neg (fun h => hk h.1)))
        clear hA'
        go_wp2_with fail
        refine cD.mono ?_
        rintro e w3 ⟨rfl, hb3⟩
        go_wp2_with fail
        go_ret2
        refine ⟨?_, hbB.out.trans (hb3.mono hbB.out.size)⟩
        rw [hgo.out]
        rfl
  · have hA2 : Hid (ans = none) := Lib.hid hA
    clear he hA
    generalize strB r = q at *
    go_wp2_with fail
    go_ret2
    exact ⟨by rw [hA2.out]; rfl, hbB.out⟩

end Go.Proofs.YtfabkceefigmhaaDoor
