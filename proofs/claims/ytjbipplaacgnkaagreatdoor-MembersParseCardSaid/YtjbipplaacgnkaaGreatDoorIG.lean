/- The walk of the law MembersParse. -/
import Derived.Test.YtjbipplaacgnkaaGreatDoorIF
import Derived.Test.YtjbipplaacgnkaaGreatDoorHB
import Derived.Test.YtjbipplaacgnkaaGreatDoorHC
import Derived.Test.YtjbipplaacgnkaaGreatDoorGS
import Derived.Test.YtjbipplaacgnkaaGreatDoorHG
import Derived.Deep.RegionWith

namespace Go.Proofs.YtjbipplaacgnkaaGreatDoor
open Go.RowKit Go.Maps

theorem sepM_sum : ∀ (f : Nat) (l : List UInt8) (acc xs : List Mem), sepF memL f l acc = some xs → memSum xs ≤ memSum acc + 2 * l.length
  | 0, l, acc, xs, h => by cases h
  | f + 1, l, acc, xs, h => by
    have app : ∀ xs ys : List Mem, memSum (xs ++ ys) = memSum xs + memSum ys := by
      intro xs ys
      induction xs with
      | nil => simp [memSum]
      | cons x xs ih => rw [List.cons_append, memSum, memSum, ih]; omega
    cases hr : memL l with
    | none => rw [sepF_none memL f l acc hr] at h; cases h
    | some x =>
      obtain ⟨E, r⟩ := x
      have hE := (mem_right l E r hr).2
      have e : memSum [E] = memsz E := by simp [memSum]
      by_cases hb : blD r = []
      · rw [sepF_end memL f l r acc E hr hb] at h
        obtain rfl := Option.some.inj h
        rw [app, e]
        omega
      · by_cases hc : (blD r).head? = some 44
        · rw [sepF_more memL f l r acc E hr hb hc] at h
          have h1 := blD_le r
          have h2 := blD_le ((blD r).drop 1)
          rw [List.length_drop] at h2
          have := sepM_sum f _ _ _ h
          rw [app, e] at this
          omega
        · rw [sepF_bad memL f l r acc E hr hb hc] at h; cases h
theorem list_sum (l : List UInt8) (xs : List Mem) (h : sepL memL l = some xs) : memSum xs ≤ 2 * l.length := by
  unfold sepL at h
  split at h
  · obtain rfl := Option.some.inj h
    simp [memSum]
  · have h1 := sepM_sum _ _ _ _ h
    have h2 := spD_le l
    have e : memSum [] = 0 := rfl
    omega
theorem allN_all : ∀ (xs : List Mem) (n : Nat), n + memSum xs ≤ 9000 → (allN (n : Int) xs).1 = xs.length
  | [], _, _ => rfl
  | M :: Ms, n, h => by
    have e : memSum (M :: Ms) = memsz M + memSum Ms := rfl
    have hs := szMem_small M (by omega)
    have ew : wrap64 ((n : Int) + szMem M) = ((n + memsz M : Nat) : Int) := by rw [hs, IntWalk.wrap64_in ((n : Int) + (memsz M : Int)) (by omega)]; omega
    rw [allN, if_pos (by omega), ew]
    dsimp only
    rw [allN_all Ms (n + memsz M) (by omega), List.length_cons]
theorem allE_all : ∀ (xs : List Ent) (n : Nat), n + entSum xs ≤ 9000 → (allE (n : Int) xs).1 = xs.length
  | [], _, _ => rfl
  | E :: Es, n, h => by
    have e : entSum (E :: Es) = E.key.length + memsz E.val + entSum Es := rfl
    have hs := szMem_small E.val (by omega)
    have ew : stepE (n : Int) E = ((n + (E.key.length + memsz E.val) : Nat) : Int) := by
      unfold stepE
      rw [hs, strB_size, IntWalk.wrap64_in ((n : Int) + (memsz E.val : Int)) (by omega), IntWalk.wrap64_in ((n : Int) + (memsz E.val : Int) + (E.key.length : Int)) (by omega)]
      omega
    rw [allE, if_pos (by omega), ew]
    dsimp only
    rw [allE_all Es (n + (E.key.length + memsz E.val)) (by omega), List.length_cons]
theorem all_exact (xs : List Mem) (h : memSum xs ≤ 1000) (v : Value) (W : World) (hg : GOff memR 0 none W v xs) : Calls Tryz.prog 12 #[v] W fun e w' => Below W.heap.size W w' ∧ ∃ u n, e = .returned (.tuple #[u, .int .i64 n]) ∧ GOff memR 0 none w' u xs := by
  have h1 := allN_all xs 0 (by omega)
  have hl := memSum_len xs
  refine (all_any xs v W hg (fun M hm => memsz_ln (by have := memSum_mem xs M hm; omega)) (by omega)).mono fun e w' ⟨hb, u, he, hgo⟩ => ⟨hb, u, _, he, ?_⟩
  rw [show (allN 0 xs).1 = xs.length from h1, List.take_length] at hgo
  exact hgo.low (Nat.zero_le _)
theorem entries_exact (xs : List Ent) (h : entSum xs ≤ 1000) (v : Value) (W : World) (hg : GOff entR 0 none W v xs) : Calls Tryz.prog 13 #[v] W fun e w' => Below W.heap.size W w' ∧ ∃ u n, e = .returned (.tuple #[u, .int .i64 n]) ∧ GOff entR 0 none w' u xs := by
  have h1 := allE_all xs 0 (by omega)
  have hl := entSum_len xs
  refine (entries_any xs v W hg (fun M hm => memsz_ln (by have := entSum_mem xs M hm; have e : entsz M = M.key.length + memsz M.val := rfl; omega)) (by omega)).mono fun e w' ⟨hb, u, he, hgo⟩ => ⟨hb, u, _, he, ?_⟩
  rw [show (allE 0 xs).1 = xs.length from h1, List.take_length] at hgo
  exact hgo.low (Nat.zero_le _)
theorem getM_none : ∀ (es : List Ent) (k : List UInt8), getM es k = none → ∀ (m : Nat) (q : Ent), es[m]? = some q → q.key ≠ k
  | [], k, _, m, q, hq => by simp at hq
  | e :: es, k, h, m, q, hq => by
    rw [getM] at h
    split at h
    · cases h
    · rename_i hn
      cases m with
      | zero =>
        obtain rfl := Option.some.inj hq
        intro e2
        rw [e2] at hn
        simp at hn
      | succ m => exact getM_none es k h m q (by simpa using hq)
theorem getM_some : ∀ (es : List Ent) (k : List UInt8) (M : Mem), getM es k = some M → ∃ (m : Nat) (q : Ent), es[m]? = some q ∧ q.key = k ∧ q.val = M ∧ ∀ (m' : Nat) (q' : Ent), m' < m → es[m']? = some q' → q'.key ≠ k
  | [], k, M, h => by cases h
  | e :: es, k, M, h => by
    rw [getM] at h
    split at h
    · rename_i hk
      obtain rfl := Option.some.inj h
      refine ⟨0, e, rfl, ?_, rfl, fun m' q' hm => absurd hm (Nat.not_lt_zero _)⟩
      have := eq_of_beq hk
      simpa only [Lib.toList_data, strB_data] using this
    · rename_i hn
      obtain ⟨m, q, h1, h2, h3, h4⟩ := getM_some es k M h
      refine ⟨m + 1, q, by simpa using h1, h2, h3, fun m' q' hm hq' => ?_⟩
      cases m' with
      | zero =>
        obtain rfl := Option.some.inj hq'
        intro e2
        rw [e2] at hn
        simp at hn
      | succ m' => exact h4 m' q' (by omega) (by simpa using hq')
def memN : Mem := ⟨false, noItm, [], []⟩
theorem memN_at (W : World) : MemAt 0 none W memN noMem := ⟨_, _, _, rfl, ⟨none, 0, rfl, .inl rfl⟩, ⟨none, 0, rfl, .inl rfl⟩, ⟨none, 0, rfl, .inl rfl⟩⟩

set_option maxRecDepth 100000 in
set_option maxHeartbeats 8000000 in
theorem mparse_walk (s key : ByteArray) (w : World) (hA : Alph w) (hP : Pow w) :
    Calls Tryz.prog 3 #[.string s, .string key] w fun e w' => e = .returned (.bool true) ∧ Below w.heap.size w w' := by
  have cA := awake_any w hA hP
  have HA := Lib.hid hA
  clear hA hP
  by_cases h1 : 300 < s.size
  · have d1 : (300 : Int) < (s.size : Int) := by omega
    go_enter Tryz.func3, Tryz.ntmps3
    go_wp2_with fail
    refine cA.mono ?_
    rintro e w1 ⟨rfl, hb1⟩
    go_wp2_with fail
    go_ret
    exact ⟨rfl, hb1⟩
  · by_cases h2 : 100 < key.size
    · have d2 : (100 : Int) < (key.size : Int) := by omega
      go_enter Tryz.func3, Tryz.ntmps3
      go_wp2_with fail
      refine cA.mono ?_
      rintro e w1 ⟨rfl, hb1⟩
      go_wp2_with fail
      go_ret
      exact ⟨rfl, hb1⟩
    · have hsz : s.data.toList.length = s.size := (Lib.size_eq s).symm
      -- the list: what it is, or none (then as an empty one)
      obtain ⟨xs, er, hxs, cL, cRL⟩ : ∃ (xs : List Mem) (er : Int), memSum xs ≤ 600 ∧ (∀ W, Alph W → Calls Tryz.prog 8 #[.string s] W fun e w' => Below W.heap.size W w' ∧ ∃ ao cap, e = .returned (.tuple #[.slice ao xs.length cap, .int .i64 er]) ∧ GOff memR 0 none w' (.slice ao xs.length cap) xs) ∧ (∀ W, Calls Tryz.prog 9 #[.string s] W fun e w' => Below W.heap.size W w' ∧ ∃ ao cap, e = .returned (.tuple #[.slice ao xs.length cap, .int .i64 er]) ∧ GOff memR 0 none w' (.slice ao xs.length cap) xs) := by
        have c1 := fun W hW => list_any s W (by omega) hW
        have c2 := fun W => rlist_any s W (by omega)
        cases hx : sepL memL s.data.toList with
        | none =>
          rw [hx] at c1 c2
          refine ⟨[], 2, by simp [memSum], fun W hW => (c1 W hW).mono ?_, fun W => (c2 W).mono ?_⟩
          · rintro e w' ⟨hb, rfl⟩
            exact ⟨hb, none, 0, rfl, none, 0, rfl, .inl rfl⟩
          · rintro e w' ⟨hb, rfl⟩
            exact ⟨hb, none, 0, rfl, none, 0, rfl, .inl rfl⟩
        | some xs =>
          have hsum := list_sum _ _ hx
          rw [hx] at c1 c2
          refine ⟨xs, 0, by omega, fun W hW => (c1 W hW).mono ?_, fun W => (c2 W).mono ?_⟩
          · rintro e w' ⟨hb, v, rfl, hv⟩
            obtain ⟨ao, cap, rfl⟩ := owng_form hv
            exact ⟨hb, ao, cap, rfl, hv.off.low (Nat.zero_le _)⟩
          · rintro e w' ⟨hb, v, rfl, ao, cap, rfl, hv⟩
            exact ⟨hb, ao, cap, rfl, ao, cap, rfl, hv⟩
      obtain ⟨es, ed, hes, cD, cRD⟩ : ∃ (es : List Ent) (ed : Int), entSum es ≤ 600 ∧ (∀ W, Alph W → Calls Tryz.prog 10 #[.string s] W fun e w' => Below W.heap.size W w' ∧ ∃ ao cap, e = .returned (.tuple #[.slice ao es.length cap, .int .i64 ed]) ∧ GOff entR 0 none w' (.slice ao es.length cap) es) ∧ (∀ W, Calls Tryz.prog 11 #[.string s] W fun e w' => Below W.heap.size W w' ∧ ∃ ao cap, e = .returned (.tuple #[.slice ao es.length cap, .int .i64 ed]) ∧ GOff entR 0 none w' (.slice ao es.length cap) es) := by
        have c1 := fun W hW => dict_any s W (by omega) hW
        have c2 := fun W => rdict_any s W (by omega)
        cases hx : dicL s.data.toList with
        | none =>
          rw [hx] at c1 c2
          refine ⟨[], 2, by simp [entSum], fun W hW => (c1 W hW).mono ?_, fun W => (c2 W).mono ?_⟩
          · rintro e w' ⟨hb, rfl⟩
            exact ⟨hb, none, 0, rfl, none, 0, rfl, .inl rfl⟩
          · rintro e w' ⟨hb, rfl⟩
            exact ⟨hb, none, 0, rfl, none, 0, rfl, .inl rfl⟩
        | some es =>
          have hsum := (dict_right _ _ hx).2
          rw [hx] at c1 c2
          refine ⟨es, 0, by omega, fun W hW => (c1 W hW).mono ?_, fun W => (c2 W).mono ?_⟩
          · rintro e w' ⟨hb, v, rfl, hv⟩
            have hv := hv.low (Nat.zero_le _)
            obtain ⟨ao, cap, rfl, hc⟩ := hv
            exact ⟨hb, ao, cap, rfl, ao, cap, rfl, hc⟩
          · rintro e w' ⟨hb, v, rfl, ao, cap, rfl, hv⟩
            exact ⟨hb, ao, cap, rfl, ao, cap, rfl, hv⟩
      have hmx : ∀ M ∈ xs, MemSm M := fun M h => memsz_sm (by have := memSum_mem xs M h; omega)
      have hez : ∀ E ∈ es, memsz E.val ≤ 1000 := fun E h => by have := entSum_mem es E h; have e : entsz E = E.key.length + memsz E.val := rfl; omega
      have hme : ∀ E ∈ es, MemSm E.val := fun E h => memsz_sm (hez E h)
      have hxl := memSum_len xs
      have hel := entSum_len es
      have cAll := fun v W h => all_exact xs (by omega) v W h
      have cEnt := fun v W h => entries_exact es (by omega) v W h
      have cSL := fun v1 v2 W h1 h2 => sameList_any xs xs v1 v2 W h1 h2 hmx hmx (by omega)
      have cSD := fun v1 v2 W h1 h2 => same_any es es v1 v2 W h1 h2 hme hme (by omega)
      have cG := fun v W h => get_any v es key.data.toList W h (by omega) hme
      rw [strB_of] at cG
      have Hez := Lib.hid hez
      have hel2 : es.length ≤ 600 := by omega
      clear hsz hmx hez hme hxs hes hxl hel
      cases hgm : getM es key.data.toList with
      | none =>
        have HGN := Lib.hid (getM_none es _ hgm)
        rw [hgm] at cG
        clear hgm
        go_enter Tryz.func3, Tryz.ntmps3
        go_wp2_with fail
        refine cA.mono ?_
        rintro e w1 ⟨rfl, hb1⟩
        have HB1 := Lib.hid hb1
        clear cA hb1
        go_wp2_with fail
        refine (cL _ (HA.out.below HB1.out)).mono ?_
        rintro e w2 ⟨hb2, la, lc, rfl, hl⟩
        have HB2 := Lib.hid (HB1.out.trans (hb2.mono HB1.out.size))
        have HL2 := Lib.hid hl
        clear cL hb2 hl HB1
        go_wp2_with fail
        refine (cRL _).mono ?_
        rintro e w3 ⟨hb3, ra, rc, rfl, hr⟩
        have HB3 := Lib.hid (HB2.out.trans (hb3.mono HB2.out.size))
        have HL3 := Lib.hid (HL2.out.below hb3)
        have HR3 := Lib.hid hr
        clear cRL hb3 hr HB2 HL2
        go_wp2_with fail
        refine (cD _ (HA.out.below HB3.out)).mono ?_
        rintro e w4 ⟨hb4, da, dc, rfl, hd⟩
        have HB4 := Lib.hid (HB3.out.trans (hb4.mono HB3.out.size))
        have HL4 := Lib.hid (HL3.out.below hb4)
        have HR4 := Lib.hid (HR3.out.below hb4)
        have HD4 := Lib.hid hd
        clear cD hb4 hd HB3 HL3 HR3 HA
        go_wp2_with fail
        refine (cRD _).mono ?_
        rintro e w5 ⟨hb5, ca, cc, rfl, hcx⟩
        have HB5 := Lib.hid (HB4.out.trans (hb5.mono HB4.out.size))
        have HL5 := Lib.hid (HL4.out.below hb5)
        have HR5 := Lib.hid (HR4.out.below hb5)
        have HD5 := Lib.hid (HD4.out.below hb5)
        have HCc := Lib.hid hcx
        clear cRD hb5 hcx HB4 HL4 HR4 HD4
        go_wp2_with fail
        refine (cAll _ _ HL5.out).mono ?_
        rintro e w6 ⟨hb6, u6, n6, rfl, hu6⟩
        have HB6 := Lib.hid (HB5.out.trans (hb6.mono HB5.out.size))
        have HR6 := Lib.hid (HR5.out.below hb6)
        have HD6 := Lib.hid (HD5.out.below hb6)
        have HC46 := Lib.hid hb6
        have HU6 := Lib.hid hu6
        clear cAll hb6 hu6 HB5 HL5 HR5 HD5
        go_wp2_with fail
        refine (cEnt _ _ HD6.out).mono ?_
        rintro e w7 ⟨hb7, u7, n7, rfl, hu7⟩
        have HB7 := Lib.hid (HB6.out.trans (hb7.mono HB6.out.size))
        have HR7 := Lib.hid (HR6.out.below hb7)
        have HD7 := Lib.hid (HD6.out.below hb7)
        have HU67 := Lib.hid (HU6.out.below hb7)
        have HC47 := Lib.hid (HC46.out.trans (hb7.mono HC46.out.size))
        have HU7 := Lib.hid hu7
        clear cEnt hb7 hu7 HB6 HR6 HD6 HU6 HC46
        go_wp2_with fail
        refine (cSL _ _ _ HU67.out HR7.out).mono ?_
        rintro e w8 ⟨hb8, b8, rfl, hb8i⟩
        obtain rfl : b8 = true := by simpa using hb8i
        have HB8 := Lib.hid (HB7.out.trans (hb8.mono HB7.out.size))
        have HD8 := Lib.hid (HD7.out.below hb8)
        have HU78 := Lib.hid (HU7.out.below hb8)
        have HC48 := Lib.hid (HC47.out.trans (hb8.mono HC47.out.size))
        have HC8 := Lib.hid (HCc.out.below HC48.out)
        clear cSL hb8 hb8i HB7 HR7 HD7 HU67 HU7 HC47
        go_wp2_with fail
        refine (cSD _ _ _ HU78.out HC8.out).mono ?_
        rintro e w9 ⟨hb9, b9, rfl, hb9i⟩
        obtain rfl : b9 = true := by simpa using hb9i
        have HB9 := Lib.hid (HB8.out.trans (hb9.mono HB8.out.size))
        have HD9 := Lib.hid (HD8.out.below hb9)
        have HC49 := Lib.hid (HC48.out.trans (hb9.mono HC48.out.size))
        clear cSD hb9 hb9i HB8 HD8 HU78 HC48 HC8
        go_wp2_with fail
        refine (cG _ _ HD9.out).mono ?_
        rintro e w10 ⟨hb10, rfl⟩
        have HB10 := Lib.hid (HB9.out.trans (hb10.mono HB9.out.size))
        have HC10 := Lib.hid (HCc.out.below (HC49.out.trans (hb10.mono HC49.out.size)))
        obtain ⟨_, _, hcs, hcc⟩ := HC10.out
        obtain ⟨rfl, _, rfl⟩ := Value.slice.inj hcs
        have HCC := Lib.hid hcc
        have cO : ∀ W, Calls Tryz.prog 18 #[noMem] W fun e w' => Below W.heap.size W w' ∧ ∃ q1 r1 q2 r2 q3 r3, e = .returned (aggM false 0 0 ⟨#[]⟩ (.slice q1 0 r1) (.slice q2 0 r2) (.slice q3 0 r3)) ∧ MemAt 0 none w' memN (aggM false 0 0 ⟨#[]⟩ (.slice q1 0 r1) (.slice q2 0 r2) (.slice q3 0 r3)) := fun W =>
          (own_any memN noMem W (memN_at W) (by decide) (by decide) (by decide) (fun x hx => by cases hx)).mono fun e w' ⟨hb, v', he, u1, u2, u3, hv, f1, f2, f3⟩ => by
            obtain ⟨q1, r1, g1⟩ := f1.form
            obtain ⟨q2, r2, g2⟩ := f2.form
            obtain ⟨q3, r3, g3⟩ := f3.form
            subst hv
            dsimp only [memN] at g1 g2 g3
            subst g1 g2 g3
            exact ⟨hb, q1, r1, q2, r2, q3, r3, he, _, _, _, rfl, f1.low (Nat.zero_le _), f2.low (Nat.zero_le _), f3.low (Nat.zero_le _)⟩
        have cR : ∀ W v', MemAt 0 none W memN v' → Calls Tryz.prog 17 #[v', noMem] W fun e w' => e = .returned (.bool true) ∧ Below W.heap.size W w' := fun W v' h =>
          (r4same_any memN memN v' noMem W h (memN_at W) ⟨by decide, by decide, fun x hx => (by cases hx), by decide⟩ ⟨by decide, by decide, fun x hx => (by cases hx), by decide⟩).mono fun e w' hh => ⟨by rw [hh.1, (sameM_iff memN memN).2 rfl], hh.2⟩
        clear hb10 cG HC10 hcs hcc HB9 HC49 HCc
        go_wp2_with fail
        have hbx : Below w10.heap.size w10 (w10.alloc (memO false 0 0 ⟨#[]⟩ (.slice none 0 0) (.slice none 0 0) (.slice none 0 0))) := (Below.refl _ _).alloc (Nat.le_refl _) _
        have HBX := Lib.hid hbx
        clear hbx
        go_loopw [22] (fun i wx => ∃ m : Nat, i = .int .i64 m ∧ m ≤ es.length ∧ wx = w10.alloc (memO false 0 0 ⟨#[]⟩ (.slice none 0 0) (.slice none 0 0) (.slice none 0 0))) (fun i _ => es.length - (intOf i).toNat)
        case atStart => exact ⟨0, rfl, Nat.zero_le _, rfl⟩
        case round =>
          obtain ⟨m, rfl, hm, rfl⟩ := hrel
          by_cases hlt : m < es.length
          · rcases HCC.out with hnil | ⟨B, off, rfl, _, _, hB, hcell⟩
            · exfalso
              rw [hnil] at hlt
              simp at hlt
            · obtain ⟨E, hE⟩ : ∃ E, es[m]? = some E := ⟨_, List.getElem?_eq_getElem hlt⟩
              obtain ⟨_, hpc, _⟩ := hcell m E hE
              simp only [show entR.size = 8 from rfl] at hpc
              have x0 := cell_next HBX.out (ent8 hpc).1
              have hne := HGN.out m E hE
              have hT : ((strB E.key).toList == key.toList) = false := by
                rw [beq_eq_false_iff_ne]
                intro h
                exact hne (by simpa only [Lib.toList_data, strB_data] using h)
              have mI : (m : Int) < (es.length : Int) := by omega
              have m0 : (0 : Int) ≤ (m : Int) := by omega
              clear hcell hpc hne hE
              generalize strB E.key = EK at *
              go_wp2_with fail
              go_roundw
              case rel => exact ⟨m + 1, by go_num, by omega, by first | rfl | trivial⟩
              case measure => simp [intOf]; omega
          · obtain rfl : m = es.length := by omega
            clear hlt
            go_wp2_with fail
            refine (cO _).mono ?_
            rintro e w11 ⟨hb11, q1, r1, q2, r2, q3, r3, rfl, hma⟩
            have HB11 := Lib.hid (HB10.out.trans ((HBX.out.trans (hb11.mono HBX.out.size)).mono HB10.out.size))
            clear hb11 cO
            go_wp2_with fail
            refine (cR _ _ hma).mono ?_
            rintro e w12 ⟨rfl, hb12⟩
            have hb13 := HB11.out.trans (hb12.mono HB11.out.size)
            go_wp2_with fail
            go_ret
            exact ⟨rfl, hb13⟩
      | some M =>
        obtain ⟨m0, E0, hE0, hk0, hv0, hfirst⟩ := getM_some es _ M hgm
        have hMz := Hez.out E0 (List.mem_of_getElem? hE0)
        rw [hv0] at hMz
        have hMS := memsz_sm hMz
        have hML := memsz_ln hMz
        have HE0 := Lib.hid hE0
        have Hk0 := Lib.hid hk0
        have Hv0 := Lib.hid hv0
        have HFi := Lib.hid hfirst
        have hm0l := (List.getElem?_eq_some_iff.1 hE0).1
        rw [hgm] at cG
        clear hgm hE0 hk0 hv0 hfirst hMz
        go_enter Tryz.func3, Tryz.ntmps3
        go_wp2_with fail
        refine cA.mono ?_
        rintro e w1 ⟨rfl, hb1⟩
        have HB1 := Lib.hid hb1
        clear cA hb1
        go_wp2_with fail
        refine (cL _ (HA.out.below HB1.out)).mono ?_
        rintro e w2 ⟨hb2, la, lc, rfl, hl⟩
        have HB2 := Lib.hid (HB1.out.trans (hb2.mono HB1.out.size))
        have HL2 := Lib.hid hl
        clear cL hb2 hl HB1
        go_wp2_with fail
        refine (cRL _).mono ?_
        rintro e w3 ⟨hb3, ra, rc, rfl, hr⟩
        have HB3 := Lib.hid (HB2.out.trans (hb3.mono HB2.out.size))
        have HL3 := Lib.hid (HL2.out.below hb3)
        have HR3 := Lib.hid hr
        clear cRL hb3 hr HB2 HL2
        go_wp2_with fail
        refine (cD _ (HA.out.below HB3.out)).mono ?_
        rintro e w4 ⟨hb4, da, dc, rfl, hd⟩
        have HB4 := Lib.hid (HB3.out.trans (hb4.mono HB3.out.size))
        have HL4 := Lib.hid (HL3.out.below hb4)
        have HR4 := Lib.hid (HR3.out.below hb4)
        have HD4 := Lib.hid hd
        clear cD hb4 hd HB3 HL3 HR3 HA
        go_wp2_with fail
        refine (cRD _).mono ?_
        rintro e w5 ⟨hb5, ca, cc, rfl, hcx⟩
        have HB5 := Lib.hid (HB4.out.trans (hb5.mono HB4.out.size))
        have HL5 := Lib.hid (HL4.out.below hb5)
        have HR5 := Lib.hid (HR4.out.below hb5)
        have HD5 := Lib.hid (HD4.out.below hb5)
        have HCc := Lib.hid hcx
        clear cRD hb5 hcx HB4 HL4 HR4 HD4
        go_wp2_with fail
        refine (cAll _ _ HL5.out).mono ?_
        rintro e w6 ⟨hb6, u6, n6, rfl, hu6⟩
        have HB6 := Lib.hid (HB5.out.trans (hb6.mono HB5.out.size))
        have HR6 := Lib.hid (HR5.out.below hb6)
        have HD6 := Lib.hid (HD5.out.below hb6)
        have HC46 := Lib.hid hb6
        have HU6 := Lib.hid hu6
        clear cAll hb6 hu6 HB5 HL5 HR5 HD5
        go_wp2_with fail
        refine (cEnt _ _ HD6.out).mono ?_
        rintro e w7 ⟨hb7, u7, n7, rfl, hu7⟩
        have HB7 := Lib.hid (HB6.out.trans (hb7.mono HB6.out.size))
        have HR7 := Lib.hid (HR6.out.below hb7)
        have HD7 := Lib.hid (HD6.out.below hb7)
        have HU67 := Lib.hid (HU6.out.below hb7)
        have HC47 := Lib.hid (HC46.out.trans (hb7.mono HC46.out.size))
        have HU7 := Lib.hid hu7
        clear cEnt hb7 hu7 HB6 HR6 HD6 HU6 HC46
        go_wp2_with fail
        refine (cSL _ _ _ HU67.out HR7.out).mono ?_
        rintro e w8 ⟨hb8, b8, rfl, hb8i⟩
        obtain rfl : b8 = true := by simpa using hb8i
        have HB8 := Lib.hid (HB7.out.trans (hb8.mono HB7.out.size))
        have HD8 := Lib.hid (HD7.out.below hb8)
        have HU78 := Lib.hid (HU7.out.below hb8)
        have HC48 := Lib.hid (HC47.out.trans (hb8.mono HC47.out.size))
        have HC8 := Lib.hid (HCc.out.below HC48.out)
        clear cSL hb8 hb8i HB7 HR7 HD7 HU67 HU7 HC47
        go_wp2_with fail
        refine (cSD _ _ _ HU78.out HC8.out).mono ?_
        rintro e w9 ⟨hb9, b9, rfl, hb9i⟩
        obtain rfl : b9 = true := by simpa using hb9i
        have HB9 := Lib.hid (HB8.out.trans (hb9.mono HB8.out.size))
        have HD9 := Lib.hid (HD8.out.below hb9)
        have HC49 := Lib.hid (HC48.out.trans (hb9.mono HC48.out.size))
        clear cSD hb9 hb9i HB8 HD8 HU78 HC48 HC8
        go_wp2_with fail
        refine (cG _ _ HD9.out).mono ?_
        rintro e w10 ⟨hb10, v10, rfl, u, vi, vp, rfl, f1, f2, f3⟩
        have HB10 := Lib.hid (HB9.out.trans (hb10.mono HB9.out.size))
        have HC10 := Lib.hid (HCc.out.below (HC49.out.trans (hb10.mono HC49.out.size)))
        obtain ⟨_, _, hcs, hcc⟩ := HC10.out
        obtain ⟨rfl, _, rfl⟩ := Value.slice.inj hcs
        have HCC := Lib.hid hcc
        obtain ⟨pa1, pb1, rfl⟩ := f1.form
        obtain ⟨pa2, pb2, rfl⟩ := f2.form
        obtain ⟨pa3, pb3, rfl⟩ := f3.form
        have HMA : Hid (MemAt 0 none w10 M (aggM M.inner M.it.k M.it.n (strB M.it.s) (.slice pa1 M.it.ps.length pb1) (.slice pa2 M.its.length pb2) (.slice pa3 M.ps.length pb3))) := Lib.hid ⟨_, _, _, rfl, f1.low (Nat.zero_le _), f2.low (Nat.zero_le _), f3.low (Nat.zero_le _)⟩
        clear hb10 cG HC10 hcs hcc HB9 HC49 HCc f1 f2 f3
        go_wp2_with fail
        have hbx : Below w10.heap.size w10 (w10.alloc (memO M.inner M.it.k M.it.n (strB M.it.s) (.slice pa1 M.it.ps.length pb1) (.slice pa2 M.its.length pb2) (.slice pa3 M.ps.length pb3))) := (Below.refl _ _).alloc (Nat.le_refl _) _
        have HBX := Lib.hid hbx
        clear hbx
        go_loopw [22] (fun i wx => ∃ m : Nat, i = .int .i64 m ∧ m ≤ m0 ∧ wx = w10.alloc (memO M.inner M.it.k M.it.n (strB M.it.s) (.slice pa1 M.it.ps.length pb1) (.slice pa2 M.its.length pb2) (.slice pa3 M.ps.length pb3))) (fun i _ => es.length - (intOf i).toNat)
        case atStart => exact ⟨0, rfl, Nat.zero_le _, rfl⟩
        case round =>
          obtain ⟨m, rfl, hm, rfl⟩ := hrel
          have hlt : m < es.length := by omega
          rcases HCC.out with hnil | ⟨B, off, rfl, _, _, hB, hcell⟩
          · exfalso
            rw [hnil] at hlt
            simp at hlt
          · obtain ⟨E, hE⟩ : ∃ E, es[m]? = some E := ⟨_, List.getElem?_eq_getElem hlt⟩
            obtain ⟨⟨t1, t2, t3⟩, hpc, g1, g2, g3⟩ := hcell m E hE
            simp only [show entR.size = 8 from rfl] at hpc
            obtain ⟨y0, y1, y2, y3, y4, y5, y6, y7⟩ := ent8 hpc
            have x0 := cell_next HBX.out y0
            have mI : (m : Int) < (es.length : Int) := by omega
            have mz : (0 : Int) ≤ (m : Int) := by omega
            by_cases hmm : m < m0
            · have hne := HFi.out m E hmm hE
              have hT : ((strB E.key).toList == key.toList) = false := by
                rw [beq_eq_false_iff_ne]
                intro h
                exact hne (by simpa only [Lib.toList_data, strB_data] using h)
              clear hcell hpc hne hE y0 y1 y2 y3 y4 y5 y6 y7 g1 g2 g3
              generalize strB E.key = EK at *
              go_wp2_with fail
              go_roundw
              case rel => exact ⟨m + 1, by go_num, by omega, by first | rfl | trivial⟩
              case measure => simp [intOf]; omega
            · obtain rfl : m = m0 := by omega
              have hEE : E0 = E := Option.some.inj (HE0.out.symm.trans hE)
              have hk := Hk0.out
              have hv := Hv0.out
              rw [hEE] at hk hv
              have hT : ((strB E.key).toList == key.toList) = true := by
                rw [beq_iff_eq, Lib.toList_data, Lib.toList_data, strB_data, hk]
              obtain ⟨EK, EV⟩ := E
              dsimp only at hk hv hT x0 y1 y2 y3 y4 y5 y6 y7 g1 g2 g3
              subst hv
              have x1 := cell_next HBX.out y1
              have x2 := cell_next HBX.out y2
              have x3 := cell_next HBX.out y3
              have x4 := cell_next HBX.out y4
              have x5 := cell_next HBX.out y5
              have x6 := cell_next HBX.out y6
              have x7 := cell_next HBX.out y7
              obtain ⟨sa1, sb1, rfl⟩ := g1.form
              obtain ⟨sa2, sb2, rfl⟩ := g2.form
              obtain ⟨sa3, sb3, rfl⟩ := g3.form
              have HMC : Hid (MemAt 0 none w10 EV (aggM EV.inner EV.it.k EV.it.n (strB EV.it.s) (.slice sa1 EV.it.ps.length sb1) (.slice sa2 EV.its.length sb2) (.slice sa3 EV.ps.length sb3))) := Lib.hid ⟨_, _, _, rfl, g1, g2, g3⟩
              obtain ⟨X, hX⟩ : ∃ X, X = w10.alloc (memO EV.inner EV.it.k EV.it.n (strB EV.it.s) (.slice pa1 EV.it.ps.length pb1) (.slice pa2 EV.its.length pb2) (.slice pa3 EV.ps.length pb3)) := ⟨_, rfl⟩
              have cO : Calls Tryz.prog 18 #[aggM EV.inner EV.it.k EV.it.n (strB EV.it.s) (.slice pa1 EV.it.ps.length pb1) (.slice pa2 EV.its.length pb2) (.slice pa3 EV.ps.length pb3)] X.drew fun e w' => ∃ q1 r1 q2 r2 q3 r3, e = .returned (aggM EV.inner EV.it.k EV.it.n (strB EV.it.s) (.slice q1 EV.it.ps.length r1) (.slice q2 EV.its.length r2) (.slice q3 EV.ps.length r3)) ∧ Below X.heap.size X w' ∧ Calls Tryz.prog 17 #[aggM EV.inner EV.it.k EV.it.n (strB EV.it.s) (.slice q1 EV.it.ps.length r1) (.slice q2 EV.its.length r2) (.slice q3 EV.ps.length r3), aggM EV.inner EV.it.k EV.it.n (strB EV.it.s) (.slice sa1 EV.it.ps.length sb1) (.slice sa2 EV.its.length sb2) (.slice sa3 EV.ps.length sb3)] w' fun e w'' => e = .returned (.bool true) ∧ Below X.heap.size X w'' := by
                have hbX : Below w10.heap.size w10 X := hX ▸ HBX.out
                have hbD : Below w10.heap.size w10 X.drew := hbX.trans ((Below.refl X.heap.size X).drew.mono hbX.size)
                refine (own_any EV _ X.drew (HMA.out.below hbD) hML.a hML.b hML.c hML.d).mono fun e w' ⟨hb, v', he, u1, u2, u3, hv, f1, f2, f3⟩ => ?_
                obtain ⟨q1, r1, rfl⟩ := f1.form
                obtain ⟨q2, r2, rfl⟩ := f2.form
                obtain ⟨q3, r3, rfl⟩ := f3.form
                subst hv
                have hb2 : Below X.heap.size X w' := (Below.refl X.heap.size X).drew.trans hb
                refine ⟨q1, r1, q2, r2, q3, r3, he, hb2, (r4same_any EV EV _ _ w' ⟨_, _, _, rfl, f1.low (Nat.zero_le _), f2.low (Nat.zero_le _), f3.low (Nat.zero_le _)⟩ (HMC.out.below (hbX.trans (hb2.mono hbX.size))) hMS hMS).mono fun e w'' hh => ⟨by rw [hh.1, (sameM_iff EV EV).2 rfl], hb2.trans (hh.2.mono hb2.size)⟩⟩
              have b0 : X.cell? ⟨w10.heap.size, 0, none⟩ = some (.bool EV.inner) := by subst hX; simp
              have b1 : X.cell? ⟨w10.heap.size, 1, none⟩ = some (.int .i64 EV.it.k) := by subst hX; simp
              have b2 : X.cell? ⟨w10.heap.size, 2, none⟩ = some (.int .i64 EV.it.n) := by subst hX; simp
              have b3 : X.cell? ⟨w10.heap.size, 3, none⟩ = some (.string (strB EV.it.s)) := by subst hX; simp
              have b4 : X.cell? ⟨w10.heap.size, 4, none⟩ = some (.slice pa1 EV.it.ps.length pb1) := by subst hX; simp
              have b5 : X.cell? ⟨w10.heap.size, 5, none⟩ = some (.slice pa2 EV.its.length pb2) := by subst hX; simp
              have b6 : X.cell? ⟨w10.heap.size, 6, none⟩ = some (.slice pa3 EV.ps.length pb3) := by subst hX; simp
              have HBW : Hid (Below w.heap.size w X) := Lib.hid (HB10.out.trans ((hX ▸ HBX.out : Below w10.heap.size w10 X).mono HB10.out.size))
              rw [← hX] at x0 x1 x2 x3 x4 x5 x6 x7 ⊢
              clear hX hcell hpc hE y0 y1 y2 y3 y4 y5 y6 y7 g1 g2 g3 hk hEE HBX HMA HMC HCC Hk0 Hv0 HE0 HFi HB10 hm
              generalize strB EK = SK at *
              generalize strB EV.it.s = SS at *
              go_wp2_with fail
              go_region_with (first
                | (go_at_call 18; refine cO.mono ?_; rintro e w' ⟨q1, r1, q2, r2, q3, r3, rfl, hbo, cR⟩; have z1 := cell_next hbo x1; have z2 := cell_next hbo x2; have z3 := cell_next hbo x3; have z4 := cell_next hbo x4; have z5 := cell_next hbo x5; have z6 := cell_next hbo x6; have z7 := cell_next hbo x7)
                | (go_at_call 17; refine cR.mono ?_; rintro e w'' ⟨rfl, hbz⟩))
              all_goals
                go_wp2_with fail
                go_ret
                exact ⟨rfl, HBW.out.trans (hbz.mono HBW.out.size)⟩

end Go.Proofs.YtjbipplaacgnkaaGreatDoor
