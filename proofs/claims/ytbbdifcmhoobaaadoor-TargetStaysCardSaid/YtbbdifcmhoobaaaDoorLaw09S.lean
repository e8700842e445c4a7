/- TargetStays walked: eight ways (a host or none, a text by percent or none, a target or none). -/
import Derived.Test.YtbbdifcmhoobaaaDoorAwk9
namespace Go.Proofs.YtbbdifcmhoobaaaDoor
open Go.RowKit Go.Shelf Go.Lib

set_option maxRecDepth 100000 in
set_option maxHeartbeats 4000000 in
theorem stays_000 (s1 s2 s3 : ByteArray) (w : World) (z1 : s1.size ≤ 300) (z2 : s2.size ≤ 300) (z3 : s3.size ≤ 300) (hE : Errs w) (h1 : hostL s1.data.toList = none) (h2 : pctL s2.data.toList = none) (h3 : normL s1.data.toList s2.data.toList = none) :
    Calls Tryd.prog 3 #[.string s1, .string s2, .string s3] w fun e w' => e = .returned (.bool true) ∧ Below w.heap.size w w' := by
  have g1 : ¬ (300 < (s1.size : Int)) := by omega
  have g2 : ¬ (300 < (s2.size : Int)) := by omega
  have g3 : ¬ (300 < (s3.size : Int)) := by omega
  have cA := awake9_any w hE
  have HE := Lib.hid hE
  have cH := fun W => host_any s1 W (by omega)
  have cP := fun W h => percent_any s2 W (by omega) h
  have cN := fun W h => normal_any s1 s2 W (by omega) (by omega) h
  rw [h1] at cH
  rw [h2] at cP
  rw [h3] at cN
  unfold errPost errV at cH cP cN
  dsimp only at cH cP cN
  clear h1 h2 h3 hE
  go_enter Tryd.func3, Tryd.ntmps3
  go_wp2_with fail
  refine cA.mono ?_
  rintro e w1 ⟨rfl, hb1⟩
  have HB1 := Lib.hid hb1
  clear hb1
  go_wp2_with fail
  refine (cH _).mono ?_
  rintro e w2 ⟨rfl, hb2⟩
  have HB2 := Lib.hid (HB1.out.trans (hb2.mono HB1.out.size))
  clear hb2
  go_wp2_with fail
  refine (cP _ (HE.out.below HB2.out)).mono ?_
  rintro e w3 ⟨rfl, hb3⟩
  have HB3 := Lib.hid (HB2.out.trans (hb3.mono HB2.out.size))
  clear hb3
  go_wp2_with fail
  refine (cN _ (HE.out.below HB3.out)).mono ?_
  rintro e w4 ⟨rfl, hb4⟩
  have HB4 := Lib.hid (HB3.out.trans (hb4.mono HB3.out.size))
  clear hb4
  go_wp2_with fail
  go_ret
  exact ⟨rfl, HB4.out⟩

set_option maxRecDepth 100000 in
set_option maxHeartbeats 4000000 in
theorem stays_001 (s1 s2 s3 : ByteArray) (w : World) (z1 : s1.size ≤ 300) (z2 : s2.size ≤ 300) (z3 : s3.size ≤ 300) (hE : Errs w) {nn : List UInt8} (h1 : hostL s1.data.toList = none) (h2 : pctL s2.data.toList = none) (h3 : normL s1.data.toList s2.data.toList = some nn) :
    Calls Tryd.prog 3 #[.string s1, .string s2, .string s3] w fun e w' => e = .returned (.bool true) ∧ Below w.heap.size w w' := by
  have g1 : ¬ (300 < (s1.size : Int)) := by omega
  have g2 : ¬ (300 < (s2.size : Int)) := by omega
  have g3 : ¬ (300 < (s3.size : Int)) := by omega
  have cA := awake9_any w hE
  have HE := Lib.hid hE
  have cH := fun W => host_any s1 W (by omega)
  have cP := fun W h => percent_any s2 W (by omega) h
  have cN := fun W h => normal_any s1 s2 W (by omega) (by omega) h
  rw [h1] at cH
  rw [h2] at cP
  rw [h3] at cN
  unfold errPost errV at cH cP cN
  dsimp only at cH cP cN
  have l3 := norm_len h3
  have cN2 := fun W h => normal_any s3 (strB nn) W (by omega) (by rw [strB_size]; rw [← Lib.size_eq, ← Lib.size_eq] at l3; omega) h
  rw [strB_data, norm_stays h3] at cN2
  unfold errPost errV at cN2
  dsimp only at cN2
  clear l3
  clear h1 h2 h3 hE
  generalize strB nn = NN at *
  go_enter Tryd.func3, Tryd.ntmps3
  go_wp2_with fail
  refine cA.mono ?_
  rintro e w1 ⟨rfl, hb1⟩
  have HB1 := Lib.hid hb1
  clear hb1
  go_wp2_with fail
  refine (cH _).mono ?_
  rintro e w2 ⟨rfl, hb2⟩
  have HB2 := Lib.hid (HB1.out.trans (hb2.mono HB1.out.size))
  clear hb2
  go_wp2_with fail
  refine (cP _ (HE.out.below HB2.out)).mono ?_
  rintro e w3 ⟨rfl, hb3⟩
  have HB3 := Lib.hid (HB2.out.trans (hb3.mono HB2.out.size))
  clear hb3
  go_wp2_with fail
  refine (cN _ (HE.out.below HB3.out)).mono ?_
  rintro e w4 ⟨rfl, hb4⟩
  have HB4 := Lib.hid (HB3.out.trans (hb4.mono HB3.out.size))
  clear hb4
  go_wp2_with fail
  refine (cN2 _ (HE.out.below HB4.out)).mono ?_
  rintro e w5 ⟨rfl, hb5⟩
  have HB5 := Lib.hid (HB4.out.trans (hb5.mono HB4.out.size))
  clear hb5
  go_wp2_with fail
  go_ret
  exact ⟨rfl, HB5.out⟩

set_option maxRecDepth 100000 in
set_option maxHeartbeats 4000000 in
theorem stays_010 (s1 s2 s3 : ByteArray) (w : World) (z1 : s1.size ≤ 300) (z2 : s2.size ≤ 300) (z3 : s3.size ≤ 300) (hE : Errs w) {pp : List UInt8} (h1 : hostL s1.data.toList = none) (h2 : pctL s2.data.toList = some pp) (h3 : normL s1.data.toList s2.data.toList = none) :
    Calls Tryd.prog 3 #[.string s1, .string s2, .string s3] w fun e w' => e = .returned (.bool true) ∧ Below w.heap.size w w' := by
  have g1 : ¬ (300 < (s1.size : Int)) := by omega
  have g2 : ¬ (300 < (s2.size : Int)) := by omega
  have g3 : ¬ (300 < (s3.size : Int)) := by omega
  have cA := awake9_any w hE
  have HE := Lib.hid hE
  have cH := fun W => host_any s1 W (by omega)
  have cP := fun W h => percent_any s2 W (by omega) h
  have cN := fun W h => normal_any s1 s2 W (by omega) (by omega) h
  rw [h1] at cH
  rw [h2] at cP
  rw [h3] at cN
  unfold errPost errV at cH cP cN
  dsimp only at cH cP cN
  obtain ⟨k1, k2⟩ := pct_stays _ _ _ (Nat.le_refl _) h2
  have k3 : ¬ ((s2.size : Int) < ((strB pp).size : Int)) := by rw [strB_size, Lib.size_eq]; omega
  have cP2 := fun W h => percent_any (strB pp) W (by rw [strB_size]; rw [← Lib.size_eq] at k2; omega) h
  rw [strB_data, k1] at cP2
  unfold errPost errV at cP2
  dsimp only at cP2
  clear k1 k2
  clear h1 h2 h3 hE
  generalize strB pp = PP at *
  go_enter Tryd.func3, Tryd.ntmps3
  go_wp2_with fail
  refine cA.mono ?_
  rintro e w1 ⟨rfl, hb1⟩
  have HB1 := Lib.hid hb1
  clear hb1
  go_wp2_with fail
  refine (cH _).mono ?_
  rintro e w2 ⟨rfl, hb2⟩
  have HB2 := Lib.hid (HB1.out.trans (hb2.mono HB1.out.size))
  clear hb2
  go_wp2_with fail
  refine (cP _ (HE.out.below HB2.out)).mono ?_
  rintro e w3 ⟨rfl, hb3⟩
  have HB3 := Lib.hid (HB2.out.trans (hb3.mono HB2.out.size))
  clear hb3
  go_wp2_with fail
  refine (cP2 _ (HE.out.below HB3.out)).mono ?_
  rintro e w4 ⟨rfl, hb4⟩
  have HB4 := Lib.hid (HB3.out.trans (hb4.mono HB3.out.size))
  clear hb4
  go_wp2_with fail
  refine (cN _ (HE.out.below HB4.out)).mono ?_
  rintro e w5 ⟨rfl, hb5⟩
  have HB5 := Lib.hid (HB4.out.trans (hb5.mono HB4.out.size))
  clear hb5
  go_wp2_with fail
  go_ret
  exact ⟨rfl, HB5.out⟩

set_option maxRecDepth 100000 in
set_option maxHeartbeats 4000000 in
theorem stays_011 (s1 s2 s3 : ByteArray) (w : World) (z1 : s1.size ≤ 300) (z2 : s2.size ≤ 300) (z3 : s3.size ≤ 300) (hE : Errs w) {pp nn : List UInt8} (h1 : hostL s1.data.toList = none) (h2 : pctL s2.data.toList = some pp) (h3 : normL s1.data.toList s2.data.toList = some nn) :
    Calls Tryd.prog 3 #[.string s1, .string s2, .string s3] w fun e w' => e = .returned (.bool true) ∧ Below w.heap.size w w' := by
  have g1 : ¬ (300 < (s1.size : Int)) := by omega
  have g2 : ¬ (300 < (s2.size : Int)) := by omega
  have g3 : ¬ (300 < (s3.size : Int)) := by omega
  have cA := awake9_any w hE
  have HE := Lib.hid hE
  have cH := fun W => host_any s1 W (by omega)
  have cP := fun W h => percent_any s2 W (by omega) h
  have cN := fun W h => normal_any s1 s2 W (by omega) (by omega) h
  rw [h1] at cH
  rw [h2] at cP
  rw [h3] at cN
  unfold errPost errV at cH cP cN
  dsimp only at cH cP cN
  obtain ⟨k1, k2⟩ := pct_stays _ _ _ (Nat.le_refl _) h2
  have k3 : ¬ ((s2.size : Int) < ((strB pp).size : Int)) := by rw [strB_size, Lib.size_eq]; omega
  have cP2 := fun W h => percent_any (strB pp) W (by rw [strB_size]; rw [← Lib.size_eq] at k2; omega) h
  rw [strB_data, k1] at cP2
  unfold errPost errV at cP2
  dsimp only at cP2
  clear k1 k2
  have l3 := norm_len h3
  have cN2 := fun W h => normal_any s3 (strB nn) W (by omega) (by rw [strB_size]; rw [← Lib.size_eq, ← Lib.size_eq] at l3; omega) h
  rw [strB_data, norm_stays h3] at cN2
  unfold errPost errV at cN2
  dsimp only at cN2
  clear l3
  clear h1 h2 h3 hE
  generalize strB pp = PP at *
  generalize strB nn = NN at *
  go_enter Tryd.func3, Tryd.ntmps3
  go_wp2_with fail
  refine cA.mono ?_
  rintro e w1 ⟨rfl, hb1⟩
  have HB1 := Lib.hid hb1
  clear hb1
  go_wp2_with fail
  refine (cH _).mono ?_
  rintro e w2 ⟨rfl, hb2⟩
  have HB2 := Lib.hid (HB1.out.trans (hb2.mono HB1.out.size))
  clear hb2
  go_wp2_with fail
  refine (cP _ (HE.out.below HB2.out)).mono ?_
  rintro e w3 ⟨rfl, hb3⟩
  have HB3 := Lib.hid (HB2.out.trans (hb3.mono HB2.out.size))
  clear hb3
  go_wp2_with fail
  refine (cP2 _ (HE.out.below HB3.out)).mono ?_
  rintro e w4 ⟨rfl, hb4⟩
  have HB4 := Lib.hid (HB3.out.trans (hb4.mono HB3.out.size))
  clear hb4
  go_wp2_with fail
  refine (cN _ (HE.out.below HB4.out)).mono ?_
  rintro e w5 ⟨rfl, hb5⟩
  have HB5 := Lib.hid (HB4.out.trans (hb5.mono HB4.out.size))
  clear hb5
  go_wp2_with fail
  refine (cN2 _ (HE.out.below HB5.out)).mono ?_
  rintro e w6 ⟨rfl, hb6⟩
  have HB6 := Lib.hid (HB5.out.trans (hb6.mono HB5.out.size))
  clear hb6
  go_wp2_with fail
  go_ret
  exact ⟨rfl, HB6.out⟩

set_option maxRecDepth 100000 in
set_option maxHeartbeats 4000000 in
theorem stays_100 (s1 s2 s3 : ByteArray) (w : World) (z1 : s1.size ≤ 300) (z2 : s2.size ≤ 300) (z3 : s3.size ≤ 300) (hE : Errs w) {hh : List UInt8} (h1 : hostL s1.data.toList = some hh) (h2 : pctL s2.data.toList = none) (h3 : normL s1.data.toList s2.data.toList = none) :
    Calls Tryd.prog 3 #[.string s1, .string s2, .string s3] w fun e w' => e = .returned (.bool true) ∧ Below w.heap.size w w' := by
  have g1 : ¬ (300 < (s1.size : Int)) := by omega
  have g2 : ¬ (300 < (s2.size : Int)) := by omega
  have g3 : ¬ (300 < (s3.size : Int)) := by omega
  have cA := awake9_any w hE
  have HE := Lib.hid hE
  have cH := fun W => host_any s1 W (by omega)
  have cP := fun W h => percent_any s2 W (by omega) h
  have cN := fun W h => normal_any s1 s2 W (by omega) (by omega) h
  rw [h1] at cH
  rw [h2] at cP
  rw [h3] at cN
  unfold errPost errV at cH cP cN
  dsimp only at cH cP cN
  have l1 := host_len h1
  have cH2 := fun W => host_any (strB hh) W (by rw [strB_size]; rw [← Lib.size_eq] at l1; omega)
  rw [strB_data, host_stays h1] at cH2
  unfold errPost errV at cH2
  dsimp only at cH2
  clear l1
  clear h1 h2 h3 hE
  generalize strB hh = HH at *
  go_enter Tryd.func3, Tryd.ntmps3
  go_wp2_with fail
  refine cA.mono ?_
  rintro e w1 ⟨rfl, hb1⟩
  have HB1 := Lib.hid hb1
  clear hb1
  go_wp2_with fail
  refine (cH _).mono ?_
  rintro e w2 ⟨rfl, hb2⟩
  have HB2 := Lib.hid (HB1.out.trans (hb2.mono HB1.out.size))
  clear hb2
  go_wp2_with fail
  refine (cH2 _).mono ?_
  rintro e w3 ⟨rfl, hb3⟩
  have HB3 := Lib.hid (HB2.out.trans (hb3.mono HB2.out.size))
  clear hb3
  go_wp2_with fail
  refine (cP _ (HE.out.below HB3.out)).mono ?_
  rintro e w4 ⟨rfl, hb4⟩
  have HB4 := Lib.hid (HB3.out.trans (hb4.mono HB3.out.size))
  clear hb4
  go_wp2_with fail
  refine (cN _ (HE.out.below HB4.out)).mono ?_
  rintro e w5 ⟨rfl, hb5⟩
  have HB5 := Lib.hid (HB4.out.trans (hb5.mono HB4.out.size))
  clear hb5
  go_wp2_with fail
  go_ret
  exact ⟨rfl, HB5.out⟩

set_option maxRecDepth 100000 in
set_option maxHeartbeats 4000000 in
theorem stays_101 (s1 s2 s3 : ByteArray) (w : World) (z1 : s1.size ≤ 300) (z2 : s2.size ≤ 300) (z3 : s3.size ≤ 300) (hE : Errs w) {hh nn : List UInt8} (h1 : hostL s1.data.toList = some hh) (h2 : pctL s2.data.toList = none) (h3 : normL s1.data.toList s2.data.toList = some nn) :
    Calls Tryd.prog 3 #[.string s1, .string s2, .string s3] w fun e w' => e = .returned (.bool true) ∧ Below w.heap.size w w' := by
  have g1 : ¬ (300 < (s1.size : Int)) := by omega
  have g2 : ¬ (300 < (s2.size : Int)) := by omega
  have g3 : ¬ (300 < (s3.size : Int)) := by omega
  have cA := awake9_any w hE
  have HE := Lib.hid hE
  have cH := fun W => host_any s1 W (by omega)
  have cP := fun W h => percent_any s2 W (by omega) h
  have cN := fun W h => normal_any s1 s2 W (by omega) (by omega) h
  rw [h1] at cH
  rw [h2] at cP
  rw [h3] at cN
  unfold errPost errV at cH cP cN
  dsimp only at cH cP cN
  have l1 := host_len h1
  have cH2 := fun W => host_any (strB hh) W (by rw [strB_size]; rw [← Lib.size_eq] at l1; omega)
  rw [strB_data, host_stays h1] at cH2
  unfold errPost errV at cH2
  dsimp only at cH2
  clear l1
  have l3 := norm_len h3
  have cN2 := fun W h => normal_any s3 (strB nn) W (by omega) (by rw [strB_size]; rw [← Lib.size_eq, ← Lib.size_eq] at l3; omega) h
  rw [strB_data, norm_stays h3] at cN2
  unfold errPost errV at cN2
  dsimp only at cN2
  clear l3
  clear h1 h2 h3 hE
  generalize strB hh = HH at *
  generalize strB nn = NN at *
  go_enter Tryd.func3, Tryd.ntmps3
  go_wp2_with fail
  refine cA.mono ?_
  rintro e w1 ⟨rfl, hb1⟩
  have HB1 := Lib.hid hb1
  clear hb1
  go_wp2_with fail
  refine (cH _).mono ?_
  rintro e w2 ⟨rfl, hb2⟩
  have HB2 := Lib.hid (HB1.out.trans (hb2.mono HB1.out.size))
  clear hb2
  go_wp2_with fail
  refine (cH2 _).mono ?_
  rintro e w3 ⟨rfl, hb3⟩
  have HB3 := Lib.hid (HB2.out.trans (hb3.mono HB2.out.size))
  clear hb3
  go_wp2_with fail
  refine (cP _ (HE.out.below HB3.out)).mono ?_
  rintro e w4 ⟨rfl, hb4⟩
  have HB4 := Lib.hid (HB3.out.trans (hb4.mono HB3.out.size))
  clear hb4
  go_wp2_with fail
  refine (cN _ (HE.out.below HB4.out)).mono ?_
  rintro e w5 ⟨rfl, hb5⟩
  have HB5 := Lib.hid (HB4.out.trans (hb5.mono HB4.out.size))
  clear hb5
  go_wp2_with fail
  refine (cN2 _ (HE.out.below HB5.out)).mono ?_
  rintro e w6 ⟨rfl, hb6⟩
  have HB6 := Lib.hid (HB5.out.trans (hb6.mono HB5.out.size))
  clear hb6
  go_wp2_with fail
  go_ret
  exact ⟨rfl, HB6.out⟩

set_option maxRecDepth 100000 in
set_option maxHeartbeats 4000000 in
theorem stays_110 (s1 s2 s3 : ByteArray) (w : World) (z1 : s1.size ≤ 300) (z2 : s2.size ≤ 300) (z3 : s3.size ≤ 300) (hE : Errs w) {hh pp : List UInt8} (h1 : hostL s1.data.toList = some hh) (h2 : pctL s2.data.toList = some pp) (h3 : normL s1.data.toList s2.data.toList = none) :
    Calls Tryd.prog 3 #[.string s1, .string s2, .string s3] w fun e w' => e = .returned (.bool true) ∧ Below w.heap.size w w' := by
  have g1 : ¬ (300 < (s1.size : Int)) := by omega
  have g2 : ¬ (300 < (s2.size : Int)) := by omega
  have g3 : ¬ (300 < (s3.size : Int)) := by omega
  have cA := awake9_any w hE
  have HE := Lib.hid hE
  have cH := fun W => host_any s1 W (by omega)
  have cP := fun W h => percent_any s2 W (by omega) h
  have cN := fun W h => normal_any s1 s2 W (by omega) (by omega) h
  rw [h1] at cH
  rw [h2] at cP
  rw [h3] at cN
  unfold errPost errV at cH cP cN
  dsimp only at cH cP cN
  have l1 := host_len h1
  have cH2 := fun W => host_any (strB hh) W (by rw [strB_size]; rw [← Lib.size_eq] at l1; omega)
  rw [strB_data, host_stays h1] at cH2
  unfold errPost errV at cH2
  dsimp only at cH2
  clear l1
  obtain ⟨k1, k2⟩ := pct_stays _ _ _ (Nat.le_refl _) h2
  have k3 : ¬ ((s2.size : Int) < ((strB pp).size : Int)) := by rw [strB_size, Lib.size_eq]; omega
  have cP2 := fun W h => percent_any (strB pp) W (by rw [strB_size]; rw [← Lib.size_eq] at k2; omega) h
  rw [strB_data, k1] at cP2
  unfold errPost errV at cP2
  dsimp only at cP2
  clear k1 k2
  clear h1 h2 h3 hE
  generalize strB hh = HH at *
  generalize strB pp = PP at *
  go_enter Tryd.func3, Tryd.ntmps3
  go_wp2_with fail
  refine cA.mono ?_
  rintro e w1 ⟨rfl, hb1⟩
  have HB1 := Lib.hid hb1
  clear hb1
  go_wp2_with fail
  refine (cH _).mono ?_
  rintro e w2 ⟨rfl, hb2⟩
  have HB2 := Lib.hid (HB1.out.trans (hb2.mono HB1.out.size))
  clear hb2
  go_wp2_with fail
  refine (cH2 _).mono ?_
  rintro e w3 ⟨rfl, hb3⟩
  have HB3 := Lib.hid (HB2.out.trans (hb3.mono HB2.out.size))
  clear hb3
  go_wp2_with fail
  refine (cP _ (HE.out.below HB3.out)).mono ?_
  rintro e w4 ⟨rfl, hb4⟩
  have HB4 := Lib.hid (HB3.out.trans (hb4.mono HB3.out.size))
  clear hb4
  go_wp2_with fail
  refine (cP2 _ (HE.out.below HB4.out)).mono ?_
  rintro e w5 ⟨rfl, hb5⟩
  have HB5 := Lib.hid (HB4.out.trans (hb5.mono HB4.out.size))
  clear hb5
  go_wp2_with fail
  refine (cN _ (HE.out.below HB5.out)).mono ?_
  rintro e w6 ⟨rfl, hb6⟩
  have HB6 := Lib.hid (HB5.out.trans (hb6.mono HB5.out.size))
  clear hb6
  go_wp2_with fail
  go_ret
  exact ⟨rfl, HB6.out⟩

set_option maxRecDepth 100000 in
set_option maxHeartbeats 4000000 in
theorem stays_111 (s1 s2 s3 : ByteArray) (w : World) (z1 : s1.size ≤ 300) (z2 : s2.size ≤ 300) (z3 : s3.size ≤ 300) (hE : Errs w) {hh pp nn : List UInt8} (h1 : hostL s1.data.toList = some hh) (h2 : pctL s2.data.toList = some pp) (h3 : normL s1.data.toList s2.data.toList = some nn) :
    Calls Tryd.prog 3 #[.string s1, .string s2, .string s3] w fun e w' => e = .returned (.bool true) ∧ Below w.heap.size w w' := by
  have g1 : ¬ (300 < (s1.size : Int)) := by omega
  have g2 : ¬ (300 < (s2.size : Int)) := by omega
  have g3 : ¬ (300 < (s3.size : Int)) := by omega
  have cA := awake9_any w hE
  have HE := Lib.hid hE
  have cH := fun W => host_any s1 W (by omega)
  have cP := fun W h => percent_any s2 W (by omega) h
  have cN := fun W h => normal_any s1 s2 W (by omega) (by omega) h
  rw [h1] at cH
  rw [h2] at cP
  rw [h3] at cN
  unfold errPost errV at cH cP cN
  dsimp only at cH cP cN
  have l1 := host_len h1
  have cH2 := fun W => host_any (strB hh) W (by rw [strB_size]; rw [← Lib.size_eq] at l1; omega)
  rw [strB_data, host_stays h1] at cH2
  unfold errPost errV at cH2
  dsimp only at cH2
  clear l1
  obtain ⟨k1, k2⟩ := pct_stays _ _ _ (Nat.le_refl _) h2
  have k3 : ¬ ((s2.size : Int) < ((strB pp).size : Int)) := by rw [strB_size, Lib.size_eq]; omega
  have cP2 := fun W h => percent_any (strB pp) W (by rw [strB_size]; rw [← Lib.size_eq] at k2; omega) h
  rw [strB_data, k1] at cP2
  unfold errPost errV at cP2
  dsimp only at cP2
  clear k1 k2
  have l3 := norm_len h3
  have cN2 := fun W h => normal_any s3 (strB nn) W (by omega) (by rw [strB_size]; rw [← Lib.size_eq, ← Lib.size_eq] at l3; omega) h
  rw [strB_data, norm_stays h3] at cN2
  unfold errPost errV at cN2
  dsimp only at cN2
  clear l3
  clear h1 h2 h3 hE
  generalize strB hh = HH at *
  generalize strB pp = PP at *
  generalize strB nn = NN at *
  go_enter Tryd.func3, Tryd.ntmps3
  go_wp2_with fail
  refine cA.mono ?_
  rintro e w1 ⟨rfl, hb1⟩
  have HB1 := Lib.hid hb1
  clear hb1
  go_wp2_with fail
  refine (cH _).mono ?_
  rintro e w2 ⟨rfl, hb2⟩
  have HB2 := Lib.hid (HB1.out.trans (hb2.mono HB1.out.size))
  clear hb2
  go_wp2_with fail
  refine (cH2 _).mono ?_
  rintro e w3 ⟨rfl, hb3⟩
  have HB3 := Lib.hid (HB2.out.trans (hb3.mono HB2.out.size))
  clear hb3
  go_wp2_with fail
  refine (cP _ (HE.out.below HB3.out)).mono ?_
  rintro e w4 ⟨rfl, hb4⟩
  have HB4 := Lib.hid (HB3.out.trans (hb4.mono HB3.out.size))
  clear hb4
  go_wp2_with fail
  refine (cP2 _ (HE.out.below HB4.out)).mono ?_
  rintro e w5 ⟨rfl, hb5⟩
  have HB5 := Lib.hid (HB4.out.trans (hb5.mono HB4.out.size))
  clear hb5
  go_wp2_with fail
  refine (cN _ (HE.out.below HB5.out)).mono ?_
  rintro e w6 ⟨rfl, hb6⟩
  have HB6 := Lib.hid (HB5.out.trans (hb6.mono HB5.out.size))
  clear hb6
  go_wp2_with fail
  refine (cN2 _ (HE.out.below HB6.out)).mono ?_
  rintro e w7 ⟨rfl, hb7⟩
  have HB7 := Lib.hid (HB6.out.trans (hb7.mono HB6.out.size))
  clear hb7
  go_wp2_with fail
  go_ret
  exact ⟨rfl, HB7.out⟩

set_option maxRecDepth 100000 in
set_option maxHeartbeats 4000000 in
theorem stays_walk (s1 s2 s3 : ByteArray) (w : World) (hE : Errs w) :
    Calls Tryd.prog 3 #[.string s1, .string s2, .string s3] w fun e w' => e = .returned (.bool true) ∧ Below w.heap.size w w' := by
  by_cases hz : s1.size ≤ 300 ∧ s2.size ≤ 300 ∧ s3.size ≤ 300
  · obtain ⟨z1, z2, z3⟩ := hz
    cases h1 : hostL s1.data.toList <;> cases h2 : pctL s2.data.toList <;> cases h3 : normL s1.data.toList s2.data.toList
    · exact stays_000 s1 s2 s3 w z1 z2 z3 hE h1 h2 h3
    · exact stays_001 s1 s2 s3 w z1 z2 z3 hE h1 h2 h3
    · exact stays_010 s1 s2 s3 w z1 z2 z3 hE h1 h2 h3
    · exact stays_011 s1 s2 s3 w z1 z2 z3 hE h1 h2 h3
    · exact stays_100 s1 s2 s3 w z1 z2 z3 hE h1 h2 h3
    · exact stays_101 s1 s2 s3 w z1 z2 z3 hE h1 h2 h3
    · exact stays_110 s1 s2 s3 w z1 z2 z3 hE h1 h2 h3
    · exact stays_111 s1 s2 s3 w z1 z2 z3 hE h1 h2 h3
  · have cA := awake9_any w hE
    by_cases h1 : s1.size ≤ 300
    · have g1 : ¬ (300 < (s1.size : Int)) := by omega
      by_cases h2 : s2.size ≤ 300
      · have g2 : ¬ (300 < (s2.size : Int)) := by omega
        have g3 : (300 < (s3.size : Int)) := by omega
        clear hz
        go_enter Tryd.func3, Tryd.ntmps3
        go_wp2_with fail
        refine cA.mono ?_
        rintro e w1 ⟨rfl, hb1⟩
        go_wp2_with fail
        go_ret
        exact ⟨rfl, hb1⟩
      · have g2 : (300 < (s2.size : Int)) := by omega
        clear hz
        go_enter Tryd.func3, Tryd.ntmps3
        go_wp2_with fail
        refine cA.mono ?_
        rintro e w1 ⟨rfl, hb1⟩
        go_wp2_with fail
        go_ret
        exact ⟨rfl, hb1⟩
    · have g1 : (300 < (s1.size : Int)) := by omega
      clear hz
      go_enter Tryd.func3, Tryd.ntmps3
      go_wp2_with fail
      refine cA.mono ?_
      rintro e w1 ⟨rfl, hb1⟩
      go_wp2_with fail
      go_ret
      exact ⟨rfl, hb1⟩

end Go.Proofs.YtbbdifcmhoobaaaDoor
