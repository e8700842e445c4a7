/- The contracts of clockText and Print of package date. -/
import Derived.Test.YtfabkceefigmhaaDoorDatC
namespace Go.Proofs.YtfabkceefigmhaaDoor
open Go.RowKit

theorem pad_size (k n : Nat) : (strB (padL k n)).size = k := by rw [strB_size, padL_length]
theorem eq_strB {s : ByteArray} {l : List UInt8} (h : s.data.toList = l) : s = strB l := by rw [← h, strB_of]

set_option maxRecDepth 100000 in
set_option maxHeartbeats 400000 in
theorem clockText_any (c : Nat) (w : World) (hc : c < 86400) :
    Calls Tryd.prog 24 #[.int .i64 c] w fun e w' => e = .returned (.string (strB (ckT c))) ∧ Below w.heap.size w w' := by
  have c1 := fun W => padded_any (c / 3600) 2 W (by omega) (by omega)
  have c2 := fun W => padded_any (c % 3600 / 60) 2 W (by omega) (by omega)
  have c3 := fun W => padded_any (c % 60) 2 W (by omega) (by omega)
  rw [show ((c / 3600 : Nat) : Int) = (c : Int) / 3600 by omega] at c1
  rw [show ((c % 3600 / 60 : Nat) : Int) = (c : Int) % 3600 / 60 by omega] at c2
  rw [show ((c % 60 : Nat) : Int) = (c : Int) % 60 by omega] at c3
  have z1 := pad_size 2 (c / 3600)
  have z2 := pad_size 2 (c % 3600 / 60)
  have z3 := pad_size 2 (c % 60)
  have hv : strB (ckT c) = strB (padL 2 (c / 3600)) ++ ⟨#[58]⟩ ++ strB (padL 2 (c % 3600 / 60)) ++ ⟨#[58]⟩ ++ strB (padL 2 (c % 60)) := by
    refine (eq_strB ?_).symm
    simp only [append_data, strB_data, ckT, List.append_assoc]
  rw [hv]
  clear hv
  generalize strB (padL 2 (c / 3600)) = s1 at *
  generalize strB (padL 2 (c % 3600 / 60)) = s2 at *
  generalize strB (padL 2 (c % 60)) = s3 at *
  go_enter Tryd.func24, Tryd.ntmps24
  go_wp2_with fail
  refine (c1 _).mono ?_
  rintro e w1 ⟨rfl, hb1⟩
  go_wp2_with fail
  refine (c2 _).mono ?_
  rintro e w2 ⟨rfl, hb2⟩
  have hb2' := hb1.trans (hb2.mono hb1.size)
  clear hb2 hb1
  go_wp2_with fail
  refine (c3 _).mono ?_
  rintro e w3 ⟨rfl, hb3⟩
  have hb3' := hb2'.trans (hb3.mono hb2'.size)
  clear hb3 hb2'
  go_wp2_with fail
  go_ret
  exact ⟨rfl, hb3'⟩

theorem ck_size {c : Nat} (_ : c < 86400) : (strB (ckT c)).size = 8 := by
  rw [strB_size]
  simp [ckT, padL_length]
theorem ws_size (k : Nat) (h : k < 7) : (strB (wsT k)).size = 3 := by
  have : ∀ j : Fin 7, (wsT j.val).length = 3 := by decide
  rw [strB_size]
  exact this ⟨k, h⟩
theorem mo_size (k : Nat) (h1 : 1 ≤ k) (h2 : k ≤ 12) : (strB (moT k)).size = 3 := by
  have : ∀ j : Fin 13, 1 ≤ j.val → (moT j.val).length = 3 := by decide
  rw [strB_size]
  exact this ⟨k, by omega⟩ h1

set_option maxHeartbeats 400000 in
theorem print_no (n : Int) (w : World) (h0 : -9223372036854775808 ≤ n) (h1 : n ≤ 9223372036854775807) (hn : n < 0 ∨ 253402300800 ≤ n) :
    Calls Tryd.prog 9 #[.int .i64 n] w fun e w' => e = .returned (.tuple #[.string ⟨#[]⟩, .int .i64 6]) ∧ w = w' := by
  by_cases h : n < 0
  · have d1 : decide (n < 0) = true := by simpa using h
    clear hn
    go_enter Tryd.func9, Tryd.ntmps9
    go_wp2_with fail
    exact bodyPost_ret (v := .tuple #[.string ⟨#[]⟩, .int .i64 6]) (by simp [results, Tryd.results9, go_sem]) rfl ⟨rfl, rfl⟩
  · obtain ⟨n, rfl⟩ := Int.eq_ofNat_of_zero_le (show 0 ≤ n by omega)
    have d1 : decide ((n : Int) < 0) = false := by simp
    have cB := fun W => daysBefore_any 10000 W (by omega) (by omega)
    rw [db_last] at cB
    have hge : (2932897 : Int) ≤ (n : Int) / 86400 := by omega
    clear h
    go_enter Tryd.func9, Tryd.ntmps9
    go_wp2_with fail
    refine (cB _).mono ?_
    rintro e w1 ⟨rfl, rfl⟩
    go_wp2_with fail
    exact bodyPost_ret (v := .tuple #[.string ⟨#[]⟩, .int .i64 6]) (by simp [results, Tryd.results9, go_sem]) rfl ⟨rfl, rfl⟩

set_option maxRecDepth 100000 in
set_option maxHeartbeats 400000 in
theorem print_any (y m d c : Nat) (hk : DayOk y m d) (hc : c < 86400) (w : World) (hC : Cal w) :
    Calls Tryd.prog 9 #[.int .i64 (86400 * daysN y m d + c : Nat)] w fun e w' => e = .returned (.tuple #[.string (strB (tx0 y m d c)), .int .i64 0]) ∧ Below w.heap.size w w' := by
  have HC := Lib.hid hC
  clear hC
  have cB := fun W => daysBefore_any 10000 W (by omega) (by omega)
  rw [db_last] at cB
  have cD := fun W hW => dayOf_any y m d hk W hW
  have hlt := days_bound hk
  have cW := fun W => weekday_nat (daysN y m d) W (by omega)
  have cS := fun W hW => shortWeekday_any (wdN (daysN y m d)) W (wdN_lt _) hW
  have cM := fun W hW => monthName_any m W hk.m1 hk.m2 hW
  have c1 := fun W => padded_any d 2 W (by have := hk.d2; have := ml_bounds hk.y1 hk.m1 hk.m2; omega) (by omega)
  have c2 := fun W => padded_any y 4 W (by have := hk.y2; omega) (by omega)
  have c3 := fun W => clockText_any c W hc
  have z1 := ws_size _ (wdN_lt (daysN y m d))
  have z2 := pad_size 2 d
  have z3 := mo_size m hk.m1 hk.m2
  have z4 := pad_size 4 y
  have z5 := ck_size hc
  have hv : strB (tx0 y m d c) = strB (wsT (wdN (daysN y m d))) ++ ⟨#[44, 32]⟩ ++ strB (padL 2 d) ++ ⟨#[32]⟩ ++ strB (moT m) ++ ⟨#[32]⟩ ++ strB (padL 4 y) ++ ⟨#[32]⟩ ++ strB (ckT c) ++ ⟨#[32, 71, 77, 84]⟩ := by
    refine (eq_strB ?_).symm
    simp only [append_data, strB_data, tx0, List.append_assoc]
  rw [hv]
  clear hv hk
  generalize strB (wsT (wdN (daysN y m d))) = s1 at *
  generalize strB (padL 2 d) = s2 at *
  generalize strB (moT m) = s3 at *
  generalize strB (padL 4 y) = s4 at *
  generalize strB (ckT c) = s5 at *
  generalize wdN (daysN y m d) = wd at *
  generalize daysN y m d = K at *
  generalize hN : 86400 * K + c = n at *
  have e1 : (n : Int) / 86400 = (K : Int) := by omega
  have e2 : (n : Int) % 86400 = (c : Int) := by omega
  clear hN
  go_enter Tryd.func9, Tryd.ntmps9
  go_wp2_with fail
  refine (cB _).mono ?_
  rintro e w1 ⟨rfl, rfl⟩
  go_wp2_with fail
  refine (cD _ HC.out).mono ?_
  rintro e w2 ⟨rfl, hb2⟩
  have HC2 := Lib.hid (HC.out.below hb2)
  go_wp2_with fail
  refine (cW _).mono ?_
  rintro e w3 ⟨rfl, rfl⟩
  go_wp2_with fail
  refine (cS _ HC2.out).mono ?_
  rintro e w3 ⟨rfl, rfl⟩
  go_wp2_with fail
  refine (c1 _).mono ?_
  rintro e w4 ⟨rfl, hb4⟩
  have HC4 := Lib.hid (HC2.out.below hb4)
  have hb4' := hb2.trans (hb4.mono hb2.size)
  clear hb4 hb2
  go_wp2_with fail
  refine (cM _ HC4.out).mono ?_
  rintro e w5 ⟨rfl, rfl⟩
  go_wp2_with fail
  refine (c2 _).mono ?_
  rintro e w6 ⟨rfl, hb6⟩
  have hb6' := hb4'.trans (hb6.mono hb4'.size)
  clear hb6 hb4'
  go_wp2_with fail
  refine (c3 _).mono ?_
  rintro e w7 ⟨rfl, hb7⟩
  have hb7' := hb6'.trans (hb7.mono hb6'.size)
  clear hb7 hb6'
  go_wp2_with fail
  go_ret2
  exact ⟨rfl, hb7'⟩

end Go.Proofs.YtfabkceefigmhaaDoor
