/- The contracts of named, weekday and month of package date's reader. -/
import Derived.Test.YtfabkceefigmhaaDoorDatE
namespace Go.Proofs.YtfabkceefigmhaaDoor
open Go.RowKit

/-- A function of a number that returns a name. -/
def Names (F : FuncId) (f : Nat → List UInt8) (a b : Nat) : Prop :=
  ∀ n W, a ≤ n → n < b → Cal W → Calls Tryd.prog F #[.int .i64 (n : Nat)] W fun e w' => e = .returned (.string (strB (f n))) ∧ W = w'
theorem names_short : Names 21 wsT 0 7 := fun n W _ h2 hC => shortWeekday_any n W h2 hC
theorem names_full : Names 36 wkT 0 7 := fun n W _ h2 hC => fullWeekday_any n W h2 hC
theorem names_month : Names 23 moT 1 13 := fun n W h1 h2 hC => monthName_any n W h1 (by omega) hC

theorem nmL_yes {f : Nat → List UInt8} {a k : Nat} {s : St} (h : (f a).isPrefixOf s.1 = true) : nmL f a (k + 1) s = (a, skL (f a) s) := by
  rw [nmL, if_pos h]
  unfold skL
  rw [if_pos h]
theorem nmL_no {f : Nat → List UInt8} {a k : Nat} {s : St} (h : (f a).isPrefixOf s.1 = false) : nmL f a (k + 1) s = nmL f (a + 1) k s := by
  rw [nmL, if_neg (by rw [h]; simp)]

set_option maxRecDepth 100000 in
set_option maxHeartbeats 2000000 in
theorem named_any (F : FuncId) (f : Nat → List UInt8) (a k b : Nat) (s : St) (w : World) (hE : ∀ args W, (callFunc F args).run Tryd.prog W = .ok (.enter F args) W) (hF : Names F f a (a + k)) (h : Txt w b s) (hC : Cal w) (hk : a + k ≤ 1000) (L : Nat) (hL : L + 1 = a + k) :
    Calls Tryd.prog 47 #[.pointer (some ⟨b, 0, none⟩), .int .i64 a, .int .i64 L, .func (.func F) #[] #[]] w (txtPost (.int .i64 (nmL f a k s).1) b (nmL f a k s).2 w) := by
  have HT := Lib.hid h
  have HC := Lib.hid hC
  clear h hC
  go_enter Tryd.func47, Tryd.ntmps47
  go_wp2_with fail
  go_loopw [9] (fun x wr => ∃ i j : Nat, x = .int .i64 i ∧ i + j = a + k ∧ a ≤ i ∧ Txt wr b s ∧ Cal wr ∧ Moved b w wr ∧ Hid (nmL f a k s = nmL f i j s)) (fun x _ => a + k - (intOf x).toNat)
  case atStart => exact ⟨a, k, rfl, rfl, Nat.le_refl _, HT.out, HC.out, Moved.refl _ _, Lib.hid rfl⟩
  case round =>
    obtain ⟨i, j, rfl, hij, hai, hTr, hCr, hM, hH⟩ := hrel
    have c0 := hTr.c0
    have c1 := hTr.c1
    have f1 := hTr.f1
    have HTr := Lib.hid hTr
    have HCr := Lib.hid hCr
    clear hTr hCr
    by_cases hlt : i ≤ L
    · obtain ⟨j, rfl⟩ : ∃ q, j = q + 1 := ⟨j - 1, by omega⟩
      have cF := fun W hW => hF i W hai (by omega) hW
      have cP := fun W => Tryd.strings_HasPrefix (strB s.1) (strB (f i)) W
      rw [strB_data, strB_data] at cP
      have hpp : Lib.hasPrefix s.1 (f i) = (f i).isPrefixOf s.1 := rfl
      rw [hpp] at cP
      cases hp : (f i).isPrefixOf s.1
      · rw [hp] at cP
        have H2 : Hid (nmL f a k s = nmL f (i + 1) j s) := Lib.hid (by rw [hH.out, nmL_no hp])
        clear hp hpp hH
        generalize strB (f i) = p at *
        generalize strB s.1 = t at *
        go_wp2_with fail
        go_quiet (first | (go_at_call 50; exact Calls.quiet_of_same (cP _)) | (refine ⟨rfl, ?_⟩; exact quiet_same (cF _ (HCr.out.drew _))) | exact quiet_same (cF _ (HCr.out.drew _)))
        go_wp2_with fail
        go_roundw
        case rel => exact ⟨i + 1, j, by go_num, by omega, by omega, HTr.out.drew _, HCr.out.drew _, hM.drew _, H2⟩
        case measure => simp [intOf]; omega
      · rw [hp] at cP
        have H2 : Hid (nmL f a k s = (i, skL (f i) s)) := Lib.hid (by rw [hH.out, nmL_yes hp])
        have cS := fun W (h : Txt W b s) => skip_any b s (strB (f i)) W h
        rw [strB_data] at cS
        clear hp hpp hH
        generalize skL (f i) s = s2 at *
        generalize strB (f i) = p at *
        generalize hG : strB s.1 = t at c0 cP
        clear hG
        go_wp2_with fail
        go_quiet (first | (go_at_call 50; exact Calls.quiet_of_same (cP _)) | (refine ⟨rfl, ?_⟩; exact quiet_same (cF _ (HCr.out.drew _))) | exact quiet_same (cF _ (HCr.out.drew _)))
        go_wp2_with fail
        refine (cF _ (HCr.out.drew _)).mono ?_
        rintro e w1 ⟨rfl, rfl⟩
        go_wp2_with fail
        refine (cS _ (HTr.out.drew _)).mono ?_
        rintro e w1 ⟨rfl, hT1, hM1⟩
        go_wp2_with fail
        go_ret
        exact ⟨by rw [H2.out]; rfl, by rw [H2.out]; exact hT1, (hM.drew _).trans hM1⟩
    · obtain rfl : j = 0 := by omega
      have H2 : Hid (nmL f a k s = (0, s.1, true)) := Lib.hid (by rw [hH.out]; rfl)
      clear hH
      go_wp2_with fail
      go_ret
      exact ⟨by rw [H2.out]; rfl, by rw [H2.out]; exact HTr.out.wrong, hM.setCell _⟩

end Go.Proofs.YtfabkceefigmhaaDoor
