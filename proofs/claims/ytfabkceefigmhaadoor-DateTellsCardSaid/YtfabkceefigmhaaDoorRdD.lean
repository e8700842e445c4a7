/- The contracts of the document's own day and names (sculleryref05). -/
import Derived.Test.YtfabkceefigmhaaDoorRdC
import Derived.Test.YtfabkceefigmhaaDoorRdP
namespace Go.Proofs.YtfabkceefigmhaaDoor
open Go.RowKit

set_option maxRecDepth 100000 in
set_option maxHeartbeats 4000000 in
theorem rday_any (y m d : Nat) (hk : DayOk y m d) (w : World) :
    Calls Tryd.prog 31 #[.int .i64 (daysN y m d : Nat)] w fun e w' => e = .returned (.tuple #[.int .i64 y, .int .i64 m, .int .i64 d]) ∧ Below w.heap.size w w' := by
  have hy1 := hk.y1
  have hm1 := hk.m1
  have hm2 := hk.m2
  have hd1 := hk.d1
  have hd2 := hk.d2
  have hy2 := hk.y2
  obtain ⟨hl1, hl2⟩ := days_lt hk
  have hb := days_bound hk
  have hrest : daysN y m d = dbN y + msN y (m - 1) + (d - 1) := by unfold daysN; omega
  clear hk
  generalize daysN y m d = K at *
  go_enter Tryd.func31, Tryd.ntmps31
  go_wp2_with fail
  go_loop [0, 5] (fun x z => ∃ k r : Nat, z = .int .i64 k ∧ 1970 ≤ k ∧ k ≤ y ∧ x = .int .i64 r ∧ r + dbN k = K) (fun _ z => y - (intOf z).toNat)
  case atStart => exact ⟨1970, K, rfl, by omega, hy1, rfl, by rw [db_first]; rfl⟩
  case round =>
    obtain ⟨k, r, rfl, hk1, hk2, rfl, hr⟩ := hrel
    have cL := fun W => rleap_any k W
    have hs := db_leapB hk1
    by_cases hlt : k < y
    · have hmo := db_mono (y := k + 1) (z := y) (by omega) hlt
      cases hl : leapB k
      · rw [hl] at cL hs
        have hs2 : dbN (k + 1) = dbN k + 365 := hs
        have hr3 : Hid (r - 365 + dbN (k + 1) = K) := Lib.hid (by omega)
        have hr4 : ¬ r < 365 := by omega
        have hr5 : r ≤ 3000000 := by omega
        clear hs hs2 hmo hr hrest hl2
        go_wp2_with fail
        refine (cL _).mono ?_
        rintro e w1 ⟨rfl, rfl⟩
        go_wp2_with fail
        go_round
        case rel => exact ⟨k + 1, r - 365, by go_num, by omega, by omega, by go_num, hr3.out⟩
        case measure => simp [intOf]; omega
      · rw [hl] at cL hs
        have hs2 : dbN (k + 1) = dbN k + 365 + 1 := hs
        have hr3 : Hid (r - 366 + dbN (k + 1) = K) := Lib.hid (by omega)
        have hr4 : ¬ r < 366 := by omega
        have hr5 : r ≤ 3000000 := by omega
        clear hs hs2 hmo hr hrest hl2
        go_wp2_with fail
        refine (cL _).mono ?_
        rintro e w1 ⟨rfl, rfl⟩
        go_wp2_with fail
        go_round
        case rel => exact ⟨k + 1, r - 366, by go_num, by omega, by omega, by go_num, hr3.out⟩
        case measure => simp [intOf]; omega
    · obtain rfl : k = y := by omega
      have hr6 : Hid (r = msN k (m - 1) + (d - 1)) := Lib.hid (by omega)
      have hr5 : r ≤ 3000000 := by omega
      cases hl : leapB k
      · rw [hl] at cL hs
        have hs2 : dbN (k + 1) = dbN k + 365 := hs
        have hr4 : r < 365 := by omega
        have hr7 : decide ((r : Int) < 365) = true := by simp; omega
        clear hs hs2 hrest hl2 hl1 hr
        go_wp2_with fail
        refine (cL _).mono ?_
        rintro e w1 ⟨rfl, rfl⟩
        go_wp2_with fail
        go_loopw [0, 7] (fun x z wr => ∃ i r : Nat, z = .int .i64 i ∧ 1 ≤ i ∧ i ≤ m ∧ x = .int .i64 r ∧ r + msN k (i - 1) = msN k (m - 1) + (d - 1) ∧ r ≤ 3000000 ∧ Below w.heap.size w wr) (fun _ z _ => m - (intOf z).toNat)
        case atStart => exact ⟨1, r, rfl, by omega, by omega, rfl, hr6.out, hr5, Below.refl _ _⟩
        case round =>
          clear cL hr6 hr5
          obtain ⟨i, r, rfl, hi1, hi2, rfl, hr, hr5, hb1⟩ := hrel
          have cL := fun W => rlong_any k i W (by omega) (by omega) (by omega)
          by_cases hlt : i < m
          · have hs : msN k (i + 1 - 1) = msN k (i - 1) + mlN k i := by
              obtain ⟨j, rfl⟩ : ∃ j, i = j + 1 := ⟨i - 1, by omega⟩
              exact ms_step k j
            have hmo := ms_mono (y := k) (a := i + 1 - 1) (b := m - 1) (by omega)
            have hge : mlN k i ≤ r := by omega
            have hrr : Hid (r - mlN k i + msN k (i + 1 - 1) = msN k (m - 1) + (d - 1)) := Lib.hid (by omega)
            clear hs hmo hr
            generalize mlN k i = l at *
            go_wp2_with fail
            refine (cL _).mono ?_
            rintro e w2 ⟨rfl, hb2⟩
            have hb12 := hb1.trans (hb2.mono hb1.size)
            clear hb2
            go_wp2_with fail
            refine (cL _).mono ?_
            rintro e w3 ⟨rfl, hb3⟩
            go_wp2_with fail
            go_roundw
            case rel => exact ⟨i + 1, r - l, by go_num, by omega, by omega, by go_num, hrr.out, by omega, hb12.trans (hb3.mono hb12.size)⟩
            case measure => simp [intOf]; omega
          · obtain rfl : i = m := by omega
            have hrd : r = d - 1 := by omega
            subst hrd
            have hnl : ¬ (mlN k i ≤ d - 1) := by omega
            have hrr : (((d - 1 : Nat) : Int) + 1) = (d : Int) := by omega
            clear hr
            generalize mlN k i = l at *
            go_wp2_with fail
            refine (cL _).mono ?_
            rintro e w2 ⟨rfl, hb2⟩
            go_wp2_with fail
            exact bodyPost_ret (v := .tuple #[.int .i64 k, .int .i64 i, .int .i64 d]) (by simp [results, Tryd.results31, go_sem]) rfl ⟨rfl, hb1.trans (hb2.mono hb1.size)⟩
      · rw [hl] at cL hs
        have hs2 : dbN (k + 1) = dbN k + 365 + 1 := hs
        have hr4 : r < 366 := by omega
        have hr7 : decide ((r : Int) < 366) = true := by simp; omega
        clear hs hs2 hrest hl2 hl1 hr
        go_wp2_with fail
        refine (cL _).mono ?_
        rintro e w1 ⟨rfl, rfl⟩
        go_wp2_with fail
        go_loopw [0, 7] (fun x z wr => ∃ i r : Nat, z = .int .i64 i ∧ 1 ≤ i ∧ i ≤ m ∧ x = .int .i64 r ∧ r + msN k (i - 1) = msN k (m - 1) + (d - 1) ∧ r ≤ 3000000 ∧ Below w.heap.size w wr) (fun _ z _ => m - (intOf z).toNat)
        case atStart => exact ⟨1, r, rfl, by omega, by omega, rfl, hr6.out, hr5, Below.refl _ _⟩
        case round =>
          clear cL hr6 hr5
          obtain ⟨i, r, rfl, hi1, hi2, rfl, hr, hr5, hb1⟩ := hrel
          have cL := fun W => rlong_any k i W (by omega) (by omega) (by omega)
          by_cases hlt : i < m
          · have hs : msN k (i + 1 - 1) = msN k (i - 1) + mlN k i := by
              obtain ⟨j, rfl⟩ : ∃ j, i = j + 1 := ⟨i - 1, by omega⟩
              exact ms_step k j
            have hmo := ms_mono (y := k) (a := i + 1 - 1) (b := m - 1) (by omega)
            have hge : mlN k i ≤ r := by omega
            have hrr : Hid (r - mlN k i + msN k (i + 1 - 1) = msN k (m - 1) + (d - 1)) := Lib.hid (by omega)
            clear hs hmo hr
            generalize mlN k i = l at *
            go_wp2_with fail
            refine (cL _).mono ?_
            rintro e w2 ⟨rfl, hb2⟩
            have hb12 := hb1.trans (hb2.mono hb1.size)
            clear hb2
            go_wp2_with fail
            refine (cL _).mono ?_
            rintro e w3 ⟨rfl, hb3⟩
            go_wp2_with fail
            go_roundw
            case rel => exact ⟨i + 1, r - l, by go_num, by omega, by omega, by go_num, hrr.out, by omega, hb12.trans (hb3.mono hb12.size)⟩
            case measure => simp [intOf]; omega
          · obtain rfl : i = m := by omega
            have hrd : r = d - 1 := by omega
            subst hrd
            have hnl : ¬ (mlN k i ≤ d - 1) := by omega
            have hrr : (((d - 1 : Nat) : Int) + 1) = (d : Int) := by omega
            clear hr
            generalize mlN k i = l at *
            go_wp2_with fail
            refine (cL _).mono ?_
            rintro e w2 ⟨rfl, hb2⟩
            go_wp2_with fail
            exact bodyPost_ret (v := .tuple #[.int .i64 k, .int .i64 i, .int .i64 d]) (by simp [results, Tryd.results31, go_sem]) rfl ⟨rfl, hb1.trans (hb2.mono hb1.size)⟩

theorem ds_at : ∀ k : Fin 10, (⟨#[48, 49, 50, 51, 52, 53, 54, 55, 56, 57]⟩ : ByteArray).extract k.val (k.val + 1) = strB [digC k.val] := by
  intro k
  refine (one_at _ k.val (by simp [Lib.size_eq])).trans ?_
  match k with
  | ⟨0, _⟩ | ⟨1, _⟩ | ⟨2, _⟩ | ⟨3, _⟩ | ⟨4, _⟩ | ⟨5, _⟩ | ⟨6, _⟩ | ⟨7, _⟩ | ⟨8, _⟩ | ⟨9, _⟩ => rfl
theorem two_pad (a b : Nat) (hb : b < 10) : strB (padL 2 (10 * a + b)) = strB [digC a] ++ strB [digC b] := by
  rw [strB_append]
  congr 1
  have e1 : (10 * a + b) / 10 = a := by omega
  have e2 : digC (10 * a + b) = digC b := by unfold digC; rw [show (10 * a + b) % 10 = b % 10 by omega]
  rw [padL, padL, padL, e1, e2]
  rfl

set_option maxHeartbeats 1000000 in
theorem rtwo_any (n : Nat) (w : World) (hn : n < 100) :
    Calls Tryd.prog 33 #[.int .i64 n] w fun e w' => e = .returned (.string (strB (padL 2 n))) ∧ Below w.heap.size w w' := by
  obtain ⟨a, ha⟩ : ∃ a, a = n / 10 := ⟨_, rfl⟩
  obtain ⟨b, hb⟩ : ∃ b, b = n % 10 := ⟨_, rfl⟩
  have hv : strB (padL 2 n) = (⟨#[48, 49, 50, 51, 52, 53, 54, 55, 56, 57]⟩ : ByteArray).extract a (a + 1) ++ (⟨#[48, 49, 50, 51, 52, 53, 54, 55, 56, 57]⟩ : ByteArray).extract b (b + 1) := by
    rw [show n = 10 * a + b by omega, two_pad a b (by omega), ds_at ⟨a, by omega⟩, ds_at ⟨b, by omega⟩]
  rw [hv]
  have e1 : (n : Int) / 10 = (a : Int) := by omega
  have e2 : (n : Int) % 10 = (b : Int) := by omega
  have b1 : a < 10 := by omega
  have b2 : b < 10 := by omega
  have w1 := wrap_small ((a : Int) + 1) (by omega) (by omega)
  have w2 := wrap_small ((b : Int) + 1) (by omega) (by omega)
  clear ha hb hv hn
  go_enter Tryd.func33, Tryd.ntmps33
  go_wp2_with fail
  go_quiet (fail)
  go_wp2_with fail
  go_ret
  exact ⟨rfl, below_drewN _ _⟩

theorem below_alloc (w : World) (o : Obj) : Below w.heap.size w (w.alloc o) := (Below.refl _ _).alloc (Nat.le_refl _) _
abbrev wkC : Array Value := #[.string ⟨#[83, 117, 110, 100, 97, 121]⟩, .string ⟨#[77, 111, 110, 100, 97, 121]⟩, .string ⟨#[84, 117, 101, 115, 100, 97, 121]⟩, .string ⟨#[87, 101, 100, 110, 101, 115, 100, 97, 121]⟩, .string ⟨#[84, 104, 117, 114, 115, 100, 97, 121]⟩, .string ⟨#[70, 114, 105, 100, 97, 121]⟩, .string ⟨#[83, 97, 116, 117, 114, 100, 97, 121]⟩]
abbrev moC : Array Value := #[.string ⟨#[]⟩, .string ⟨#[74, 97, 110]⟩, .string ⟨#[70, 101, 98]⟩, .string ⟨#[77, 97, 114]⟩, .string ⟨#[65, 112, 114]⟩, .string ⟨#[77, 97, 121]⟩, .string ⟨#[74, 117, 110]⟩, .string ⟨#[74, 117, 108]⟩, .string ⟨#[65, 117, 103]⟩, .string ⟨#[83, 101, 112]⟩, .string ⟨#[79, 99, 116]⟩, .string ⟨#[78, 111, 118]⟩, .string ⟨#[68, 101, 99]⟩]
theorem wk_at : ∀ j : Fin 7, wkC[j.val]? = some (.string (strB (wkT j.val))) := by
  intro j
  match j with
  | ⟨0, _⟩ | ⟨1, _⟩ | ⟨2, _⟩ | ⟨3, _⟩ | ⟨4, _⟩ | ⟨5, _⟩ | ⟨6, _⟩ => rfl
theorem mo_at : ∀ j : Fin 13, 1 ≤ j.val → moC[j.val]? = some (.string (strB (moT j.val))) := by
  intro j h
  match j, h with
  | ⟨1, _⟩, _ | ⟨2, _⟩, _ | ⟨3, _⟩, _ | ⟨4, _⟩, _ | ⟨5, _⟩, _ | ⟨6, _⟩, _ | ⟨7, _⟩, _ | ⟨8, _⟩, _ | ⟨9, _⟩, _ | ⟨10, _⟩, _ | ⟨11, _⟩, _ | ⟨12, _⟩, _ => rfl

set_option maxHeartbeats 1000000 in
theorem rwkname_any (j : Nat) (w : World) (hj : j < 7) :
    Calls Tryd.prog 32 #[.int .i64 j] w fun e w' => e = .returned (.string (strB (wkT j))) ∧ Below w.heap.size w w' := by
  have hb : ∀ o, Below w.heap.size w (w.alloc o) := below_alloc w
  have hc := alloc_at w wkC 9 j _ (wk_at ⟨j, hj⟩)
  dsimp only at hc
  generalize strB (wkT j) = s at *
  go_enter Tryd.func32, Tryd.ntmps32
  go_wp2_with fail
  go_ret
  exact ⟨rfl, hb _⟩

set_option maxHeartbeats 1000000 in
theorem rmoname_any (j : Nat) (w : World) (h1 : 1 ≤ j) (h2 : j < 13) :
    Calls Tryd.prog 34 #[.int .i64 j] w fun e w' => e = .returned (.string (strB (moT j))) ∧ Below w.heap.size w w' := by
  have hb : ∀ o, Below w.heap.size w (w.alloc o) := below_alloc w
  have hc := alloc_at w moC 9 j _ (mo_at ⟨j, h2⟩ h1)
  dsimp only at hc
  generalize strB (moT j) = s at *
  go_enter Tryd.func34, Tryd.ntmps34
  go_wp2_with fail
  go_ret
  exact ⟨rfl, hb _⟩

end Go.Proofs.YtfabkceefigmhaaDoor
