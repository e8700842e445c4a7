/- The document's own number (sculleryref08). · The document's own fair (sculleryref08). -/
import Derived.Test.YthbfcamfapgodaaGreatDoorG2
import Derived.Test.YthbfcamfapgodaaGreatDoorGA
import Derived.Test.YthbfcamfapgodaaGreatDoorShelf
import Derived.Test.YthbfcamfapgodaaGreatDoorGP
import Derived.Test.YthbfcamfapgodaaGreatDoorIA
import Derived.Test.YthbfcamfapgodaaGreatDoorHB
import Derived.Lib.ItoaNum
import Derived.Deep.QuietTactic
import Derived.BigQuiet

namespace Go.Proofs.YthbfcamfapgodaaGreatDoor
open Go.RowKit Go.Shelf Go.Lib

set_option maxRecDepth 100000 in
set_option maxHeartbeats 4000000 in
theorem rnumber_any (n : Nat) : ∀ (w : World), n < 1000000000 →
    Calls Tryz.prog 47 #[.int .i64 n] w fun e w' => e = .returned (.string (strB (Lib.decDigits n))) ∧ w = w' := by
  induction n using Nat.strongRecOn with
  | _ n ih =>
    intro w hn
    by_cases h : n < 10
    · have hV : strB (Lib.decDigits n) = (⟨#[48, 49, 50, 51, 52, 53, 54, 55, 56, 57]⟩ : ByteArray).extract n (n + 1) := by
        rewrite [dec_small n h]
        have H : ∀ i : Fin 10, (strB [UInt8.ofNat (48 + i.val)]) = (⟨#[48, 49, 50, 51, 52, 53, 54, 55, 56, 57]⟩ : ByteArray).extract i.val (i.val + 1) := by decide +kernel
        exact H ⟨n, h⟩
      have HV := Lib.hid hV
      have d : (n : Int) < 10 := by omega
      have d2 : (n : Int) + 1 ≤ 10 := by omega
      clear hV ih h hn
      go_enter Tryz.func47, Tryz.ntmps47
      go_wp2_with fail
      go_ret
      exact ⟨by rw [HV.out] <;> rfl, rfl⟩
    · have c1 := fun W => ih (n / 10) (by omega) W (by omega)
      have c2 := fun W => ih (n % 10) (by omega) W (by omega)
      have hV : strB (Lib.decDigits n) = strB (Lib.decDigits (n / 10)) ++ strB (Lib.decDigits (n % 10)) := by rw [dec_big n h, strB_append]
      have l1 : (strB (Lib.decDigits (n / 10))).size ≤ 9 := by rewrite [strB_size]; exact dec_len 8 _ (by omega)
      have l2 : (strB (Lib.decDigits (n % 10))).size ≤ 9 := by rewrite [strB_size]; exact dec_len 8 _ (by omega)
      have hs : ¬ 9223372036854775807 < (strB (Lib.decDigits (n / 10))).size + (strB (Lib.decDigits (n % 10))).size := by omega
      rewrite [hV]
      have d : ¬ (n : Int) < 10 := by omega
      have m1 : (n : Int) / 10 = ((n / 10 : Nat) : Int) := by omega
      have m2 : (n : Int) % 10 = ((n % 10 : Nat) : Int) := by omega
      clear hV ih h l1 l2
      generalize strB (Lib.decDigits (n / 10)) = S1 at *
      generalize strB (Lib.decDigits (n % 10)) = S2 at *
      generalize n / 10 = a at *
      generalize n % 10 = b at *
      go_enter Tryz.func47, Tryz.ntmps47
      go_wp2_with fail
      refine (c1 _).mono ?_
      rintro e w1 ⟨rfl, rfl⟩
      go_wp2_with fail
      refine (c2 _).mono ?_
      rintro e w1 ⟨rfl, rfl⟩
      go_wp2_with fail
      go_ret
      exact ⟨rfl, rfl⟩

end Go.Proofs.YthbfcamfapgodaaGreatDoor

namespace Go.Proofs.YthbfcamfapgodaaGreatDoor
open Go.RowKit Go.Shelf Go.Lib

set_option maxRecDepth 100000 in
set_option maxHeartbeats 4000000 in
theorem rfair_any (lo : Nat) (v : Value) (fs : List Fld) (w : World) (h : Flds lo w v fs) (hk : FldsOk fs) :
    Calls Tryz.prog 45 #[v] w fun e w' => e = .returned (.bool (fairL fs)) ∧ Below w.heap.size w w' := by
  have cR := fun W h => rright_any lo v fs W h hk
  have cC := fun W h => rall_any lo v fs clN W h hk.1
  have cT := fun W h => rall_any lo v fs teN W h hk.1
  rw [show strB clN = (⟨#[99, 111, 110, 116, 101, 110, 116, 45, 108, 101, 110, 103, 116, 104]⟩ : ByteArray) from rfl] at cC
  rw [show strB teN = (⟨#[116, 114, 97, 110, 115, 102, 101, 114, 45, 101, 110, 99, 111, 100, 105, 110, 103]⟩ : ByteArray) from rfl] at cT
  have hl1 := Nat.le_trans (allH_len fs clN) hk.1
  have hl2 := Nat.le_trans (allH_len fs teN) hk.1
  have hV : fairL fs = (rightH fs && decide ((allH fs clN).length + (allH fs teN).length = 0)) := rfl
  have HF := Lib.hid h
  obtain ⟨ao, cap, rfl, _⟩ := h
  clear hk
  generalize fairL fs = V at *
  generalize rightH fs = r at *
  generalize allH fs clN = cl at *
  generalize allH fs teN = te at *
  cases r
  · have HV : Hid (V = false) := Lib.hid (by rw [hV] <;> rfl)
    clear hV
    go_enter Tryz.func45, Tryz.ntmps45
    go_wp2_with fail
    refine (cR _ HF.out).mono ?_
    rintro e w1 ⟨rfl, hb1⟩
    go_wp2_with fail
    go_ret
    exact ⟨by rw [HV.out] <;> rfl, hb1⟩
  · have hq : (((cl.length : Int) + (te.length : Int)) == 0) = decide (cl.length + te.length = 0) := by
      by_cases hh : cl.length + te.length = 0
      · rewrite [decide_eq_true hh, beq_iff_eq]; omega
      · rewrite [decide_eq_false hh, beq_eq_false_iff_ne]; omega
    have HV : Hid (V = decide (cl.length + te.length = 0)) := Lib.hid (by rw [hV] <;> rfl)
    clear hV
    generalize decide (cl.length + te.length = 0) = b at *
    go_enter Tryz.func45, Tryz.ntmps45
    go_wp2_with fail
    refine (cR _ HF.out).mono ?_
    rintro e w1 ⟨rfl, hb1⟩
    have HB1 := Lib.hid hb1
    clear hb1
    go_wp2_with fail
    refine (cC _ (HF.out.below HB1.out)).mono ?_
    rintro e w2 ⟨⟨u2, rfl, hown2⟩, hb2⟩
    have HB2 := Lib.hid (HB1.out.trans (hb2.mono HB1.out.size))
    obtain ⟨a2, k2, rfl⟩ := owns_formF hown2
    clear hown2 hb2
    go_wp2_with fail
    refine (cT _ (HF.out.below HB2.out)).mono ?_
    rintro e w3 ⟨⟨u3, rfl, hown3⟩, hb3⟩
    have HB3 := Lib.hid (HB2.out.trans (hb3.mono HB2.out.size))
    obtain ⟨a3, k3, rfl⟩ := owns_formF hown3
    clear hown3 hb3
    go_wp2_with fail
    exact bodyPost_ret (v := .bool b) (by simp [results, Tryz.results45, go_sem]) rfl ⟨by rw [HV.out], HB3.out⟩

end Go.Proofs.YthbfcamfapgodaaGreatDoor
