/- The walk of the law ItemLast. -/
import Derived.Test.YtcjnigmklijjiaaDoorLaw03A
namespace Go.Proofs.YtcjnigmklijjiaaDoor
open Go.RowKit

abbrev paramObj (K : ByteArray) (k n : Int) (s : ByteArray) : Obj := .cells #[.string K, .int .i64 k, .int .i64 n, .string s] 41

/-- The two boxes of the law's arguments, and what was made behind them. -/
theorem two_cells {w W : World} {k n : Int} {s : ByteArray} {v : Value} {K : ByteArray} {pk pn : Int} {t : ByteArray}
    (c : Below (w.heap.size + 2) ((w.alloc (itemObj k n s v)).alloc (paramObj K pk pn t)) W) :
    (W.cell? ⟨w.heap.size, 0, none⟩ = some (.int .i64 k) ∧ W.cell? ⟨w.heap.size, 1, none⟩ = some (.int .i64 n) ∧ W.cell? ⟨w.heap.size, 2, none⟩ = some (.string s) ∧ W.cell? ⟨w.heap.size, 3, none⟩ = some v) ∧
    (W.cell? ⟨w.heap.size + 1, 0, none⟩ = some (.string K) ∧ W.cell? ⟨w.heap.size + 1, 1, none⟩ = some (.int .i64 pk) ∧ W.cell? ⟨w.heap.size + 1, 2, none⟩ = some (.int .i64 pn) ∧ W.cell? ⟨w.heap.size + 1, 3, none⟩ = some (.string t)) ∧ w.heap.size + 1 < W.heap.size := by
  have hz : w.heap.size + 1 < W.heap.size := by have := c.size; simp at this; omega
  have a0 := item_cells w k n s v W (((Below.refl (w.heap.size + 1) (w.alloc (itemObj k n s v))).alloc (by simp) _).trans (c.mono (by omega)))
  have b0 := param_cells (w.alloc (itemObj k n s v)) K pk pn t W (by simpa using c)
  rw [show (w.alloc (itemObj k n s v)).heap.size = w.heap.size + 1 by simp] at b0
  exact ⟨a0, b0, hz⟩

theorem two_later {w W : World} {o1 o2 : Obj} (c : Below (w.heap.size + 2) ((w.alloc o1).alloc o2) W) : Below w.heap.size w W :=
  (((Below.refl w.heap.size w).alloc (Nat.le_refl _) o1).alloc (by simp) o2).trans (c.mono (by omega))
theorem two_next {w W W1 : World} {o1 o2 : Obj} (c : Below (w.heap.size + 2) ((w.alloc o1).alloc o2) W) (hb : Below W.heap.size W W1) : Below (w.heap.size + 2) ((w.alloc o1).alloc o2) W1 :=
  c.trans (hb.mono (by have := c.size; simp at this; omega))
theorem two_made {w W : World} {o1 o2 : Obj} (c : Below (w.heap.size + 2) ((w.alloc o1).alloc o2) W) (o : Obj) : Below (w.heap.size + 2) ((w.alloc o1).alloc o2) (W.alloc o) :=
  c.alloc (by have := c.size; simp at this; omega) o

theorem Prms.form {w : World} {v : Value} {ps : List Prm} (h : Prms w v ps) : ∃ ao cap, v = .slice ao ps.length cap := by
  obtain ⟨ao, cap, hv, _⟩ := h
  exact ⟨ao, cap, hv⟩

theorem Prms.made (W : World) (p : Prm) : Prms (W.alloc (paramObj (strB p.key) p.k p.n (strB p.s))) (.slice (some ⟨W.heap.size, 0, none⟩) 1 1) [p] := by
  refine ⟨_, 1, rfl, .inr ⟨_, _, rfl, fun j u hj => ?_⟩⟩
  have h4 : j < 4 := (List.getElem?_eq_some_iff.1 hj).1
  rw [Nat.zero_add]
  rcases (show j = 0 ∨ j = 1 ∨ j = 2 ∨ j = 3 by omega) with rfl | rfl | rfl | rfl
  · obtain rfl := Option.some.inj hj; simp
  · obtain rfl := Option.some.inj hj; simp
  · obtain rfl := Option.some.inj hj; simp
  · obtain rfl := Option.some.inj hj; simp

set_option maxRecDepth 100000 in
set_option maxHeartbeats 2000000 in
theorem ilast_long (k n : Int) (s : ByteArray) (v : Value) (ps : List Prm) (K : ByteArray) (pk pn : Int) (t : ByteArray) (w : World) (hp : Prms w v ps) (hi : InP ps) (hA : Alph w) (hP : Pow w) (hK : K.size ≤ 140737488355328) (ht : t.size ≤ 140737488355328)
    (hl : 500 < szGo 0 ps ∨ (szGo 0 ps ≤ 500 ∧ (300 < s.size ∨ (s.size ≤ 300 ∧ 300 < K.size + t.size)))) :
    Calls Tryd.prog 4 #[.agg #[.int .i64 k, .int .i64 n, .string s, v], .agg #[.string K, .int .i64 pk, .int .i64 pn, .string t]] w fun e w' => e = .returned (.bool true) ∧ Below w.heap.size w w' := by
  have hb0 : Below w.heap.size w ((w.alloc (itemObj k n s v)).alloc (paramObj K pk pn t)) := ((Below.refl _ _).alloc (Nat.le_refl _) _).alloc (by simp) _
  have cA := awake_any ((w.alloc (itemObj k n s v)).alloc (paramObj K pk pn t)) (hA.below hb0) (hP.below hb0)
  have HPr := Lib.hid hp
  have hlen := hi.1
  clear hA hP hp
  rcases hl with h1 | ⟨h1, h2 | ⟨h2, h3⟩⟩
  all_goals
    have hF := run_field_rparams
    go_enter Tryd.func4, Tryd.ntmps4
    go_wp2_with fail
    refine cA.mono ?_
    rintro e w1 ⟨rfl, hb1⟩
    have c0 : Below (w.heap.size + 2) ((w.alloc (itemObj k n s v)).alloc (paramObj K pk pn t)) w1 := by simpa using hb1
    obtain ⟨⟨p0, p1, p2, p3⟩, ⟨q0, q1, q2, q3⟩, hz⟩ := two_cells c0
    have hp1 := HPr.out.below (two_later c0)
    clear cA hb1
    go_wp2_with fail
    refine (own_any k n s v ps _ hp1 (by omega)).mono ?_
    rintro e w2 ⟨u, rfl, hown, hb2⟩
    have hp2 := Prms.of_own hown
    obtain ⟨ao, cap, rfl⟩ := owns_form hown
    replace c0 := two_next c0 hb2
    clear hown p0 p1 p2 p3 q0 q1 q2 q3 hz hp1
    go_wp2_with fail
    refine (size_any _ ps _ hp2 (by unfold maxLen; omega)).mono ?_
    rintro e w3 ⟨rfl, hb3⟩
    replace c0 := two_next c0 hb3
    obtain ⟨⟨p0, p1, p2, p3⟩, ⟨q0, q1, q2, q3⟩, hz⟩ := two_cells c0
    clear hF hb2 hb3
    go_wp2_with fail
    go_ret
    exact ⟨rfl, two_later c0⟩

set_option maxRecDepth 100000 in
set_option maxHeartbeats 4000000 in
theorem ilast_short (k n : Int) (s : List UInt8) (v : Value) (ps : List Prm) (p : Prm) (w : World) (hp : Prms w v ps) (hi : InP ps) (hn : -9223372036854775808 ≤ n ∧ n ≤ 9223372036854775807) (hA : Alph w) (hP : Pow w) (hpn : -9223372036854775808 ≤ p.n ∧ p.n ≤ 9223372036854775807)
    (h1 : szGo 0 ps ≤ 500) (h2 : s.length ≤ 300) (h3 : p.key.length + p.s.length ≤ 300) :
    Calls Tryd.prog 4 #[.agg #[.int .i64 k, .int .i64 n, .string (strB s), v], .agg #[.string (strB p.key), .int .i64 p.k, .int .i64 p.n, .string (strB p.s)]] w fun e w' => e = .returned (.bool true) ∧ Below w.heap.size w w' := by
  obtain ⟨aoX, capX, rfl⟩ := hp.form
  have hb0 : Below w.heap.size w ((w.alloc (itemObj k n (strB s) (.slice aoX ps.length capX))).alloc (paramObj (strB p.key) p.k p.n (strB p.s))) := ((Below.refl _ _).alloc (Nat.le_refl _) _).alloc (by simp) _
  have cA := awake_any ((w.alloc (itemObj k n (strB s) (.slice aoX ps.length capX))).alloc (paramObj (strB p.key) p.k p.n (strB p.s))) (hA.below hb0) (hP.below hb0)
  have HPr := Lib.hid hp
  have hlen := hi.1
  have hsz := szGo_szN ps 0 (by omega) hi.sum h1
  have hl5 := szN_len ps
  have HA := Lib.hid hA
  have HP := Lib.hid hP
  have cP := fun W (hW : Prms W (.slice aoX ps.length capX) ps) hWA hWP => iprint_any k n s (.slice aoX ps.length capX) ps W hW (by omega) (hi.small (by omega)) (by omega) hn hWA hWP
  have cQ := fun W v1 (hW : Prms W v1 [p]) hWA hWP => printParams_any v1 [p] W hW (by simp) (fun q hq => by rw [List.mem_singleton.1 hq]; exact ⟨by omega, by omega, hpn.1, hpn.2⟩) hWA hWP
  have HMade := Lib.hid (fun (W : World) => Prms.made W p)
  have hs3 : (strB s).size ≤ 300 := by rw [strB_size]; omega
  have hK3 : (strB p.key).size + (strB p.s).size ≤ 300 := by rw [strB_size, strB_size]; omega
  clear hA hP hp
  have hF := run_field_rparams
  generalize hS : strB s = S at *
  have HS := Lib.hid hS
  generalize hK : strB p.key = K at *
  have HK := Lib.hid hK
  generalize hT : strB p.s = T at *
  have HT := Lib.hid hT
  clear hS hK hT
  go_enter Tryd.func4, Tryd.ntmps4
  go_wp2_with fail
  refine cA.mono ?_
  rintro e w1 ⟨rfl, hb1⟩
  have c0 : Below (w.heap.size + 2) ((w.alloc (itemObj k n S (.slice aoX ps.length capX))).alloc (paramObj K p.k p.n T)) w1 := by simpa using hb1
  obtain ⟨⟨p0, p1, p2, p3⟩, ⟨q0, q1, q2, q3⟩, hz⟩ := two_cells c0
  have hp1 := HPr.out.below (two_later c0)
  clear cA hb1
  go_wp2_with fail
  refine (own_any k n S (.slice aoX ps.length capX) ps _ hp1 (by omega)).mono ?_
  rintro e w2 ⟨u, rfl, hown, hb2⟩
  have hp2 := Prms.of_own hown
  obtain ⟨ao, cap, rfl⟩ := owns_form hown
  replace c0 := two_next c0 hb2
  clear hown p0 p1 p2 p3 q0 q1 q2 q3 hz hp1
  go_wp2_with fail
  refine (size_any _ ps _ hp2 (by unfold maxLen; omega)).mono ?_
  rintro e w3 ⟨rfl, hb3⟩
  replace c0 := two_next c0 hb3
  obtain ⟨⟨p0, p1, p2, p3⟩, ⟨q0, q1, q2, q3⟩, hz⟩ := two_cells c0
  clear hF hb2 hb3 hp2
  go_wp2_with fail
  refine (cP _ (HPr.out.below (two_later c0)) (HA.out.below (two_later c0)) (HP.out.below (two_later c0))).mono ?_
  rintro e w4 ⟨rfl, hb4⟩
  replace c0 := two_next c0 hb4
  clear hb4 p0 p1 p2 p3 q0 q1 q2 q3 cP hz
  obtain ⟨⟨p0, p1, p2, p3⟩, ⟨q0, q1, q2, q3⟩, hz⟩ := two_cells c0
  obtain ⟨X, E, hX, hXE⟩ := textV_form (prT k n s ps)
  rw [hX]
  have HXE := Lib.hid hXE
  clear hX hXE
  go_wp2_with fail
  have hpm := HMade.out w4
  refine (cQ _ _ hpm (HA.out.below (two_later (two_made c0 _))) (HP.out.below (two_later (two_made c0 _)))).mono ?_
  rintro e w5 ⟨rfl, hb5⟩
  replace c0 := two_next (two_made c0 _) hb5
  clear p0 p1 p2 p3 q0 q1 q2 q3 hz cQ hpm hb5
  rcases HXE.out with ⟨u, hpr, rfl, rfl⟩ | ⟨_, rfl⟩
  · cases hpp : ppT [p] with
    | none =>
      rw [textV_none]
      go_wp2_with fail
      go_ret
      exact ⟨rfl, two_later c0⟩
    | some z =>
      rw [textV_some]
      have hnod := (prT_some _ _ _ _ _ hpr).2.1
      have hxl := parseL_last k n s u z ps p hpr hpp
      have hq1 := prT_len _ _ _ _ _ hpr
      have hq2 := ppGo_szN _ _ (ppT_some _ _ hpp).2
      have hq3 : szN [p] = p.key.length + p.s.length + 1 := rfl
      have hus := strB_size u
      have hzs := strB_size z
      have e2 : (strB u ++ strB z).data.toList = u ++ z := by rw [append_data, strB_data, strB_data]
      have e3 : (strB u ++ strB z).size = u.length + z.length := by rw [Lib.size_eq, e2, List.length_append]
      have cX := fun W hWA => parse_any (strB u ++ strB z) W (by omega) hWA
      rw [e2, hxl] at cX
      simp only [parsePost_some] at cX
      rw [HS.out] at cX
      have hu3 : (strB u).size ≤ 20000 := by omega
      have hz3 : (strB z).size ≤ 20000 := by omega
      have HN := Lib.hid hnod
      clear hxl hq1 hq2 hq3 hus hzs e2 e3 hpr hpp hnod HXE
      generalize strB u = U at *
      generalize strB z = Z at *
      have hpl := putL_length ps p
      have hix := idxL_le (ps.map Prm.key) p.key
      rw [List.length_map] at hix
      have HPL := Lib.hid hpl
      clear hpl
      have HAt := Lib.hid (putL_at ps p)
      have HOnly := Lib.hid (idx_only ps p.key HN.out)
      generalize idxL (ps.map Prm.key) p.key = I at *
      generalize putL ps p = qs at *
      go_wp2_with fail
      refine (cX _ (HA.out.below (two_later c0))).mono ?_
      rintro e w6 ⟨hb6, v6, rfl, hown6⟩
      have hp6 := Prms.of_own hown6
      obtain ⟨ao6, cap6, rfl⟩ := owns_form hown6
      have HPr6 := Lib.hid hp6
      replace c0 := two_next c0 hb6
      obtain ⟨⟨p0, p1, p2, p3⟩, ⟨q0, q1, q2, q3⟩, hz1⟩ := two_cells c0
      have hz0 : w.heap.size < w6.heap.size := by omega
      replace c0 := two_made c0 (itemObj k n S (.slice ao6 qs.length cap6))
      have d0 : Below (w6.heap.size + 1) (w6.alloc (itemObj k n S (.slice ao6 qs.length cap6))) (w6.alloc (itemObj k n S (.slice ao6 qs.length cap6))) := Below.refl _ _
      clear hb6 hown6 hp6 cX
      go_wp2_with fail
      obtain ⟨W0, hW0⟩ : ∃ W0, w6.alloc (.cells #[.int .i64 k, .int .i64 n, .string S, .slice ao6 qs.length cap6] 26) = W0 := ⟨_, rfl⟩
      have d1 : Below (w6.heap.size + 1) (w6.alloc (itemObj k n S (.slice ao6 qs.length cap6))) W0 := by rw [← hW0]; exact d0
      have hb60 : Below w6.heap.size w6 W0 := item_later d1
      rw [hW0] at c0 ⊢
      clear d0 hW0
      have HPX := Lib.hid (HPr.out.below (two_later c0))
      clear p0 p1 p2 p3 q0 q1 q2 q3 hz0 hz1
      go_loopw [12, 13] (fun a i wr => ∃ j m : Nat, a = .int .i64 m ∧ i = .int .i64 j ∧ j ≤ ps.length ∧ Hid (m = if I < j then I else ps.length) ∧ Below W0.heap.size W0 wr) (fun _ i _ => ps.length - (intOf i).toNat)
      case atStart => exact ⟨0, ps.length, rfl, rfl, Nat.zero_le _, Lib.hid (by simp), Below.refl _ _⟩
      case round =>
        obtain ⟨j, m, rfl, rfl, hj, H, hb⟩ := hrel
        obtain ⟨⟨p0, p1, p2, p3⟩, ⟨q0, q1, q2, q3⟩, hz⟩ := two_cells (two_next c0 hb)
        clear hz
        by_cases hlt : j < ps.length
        · obtain ⟨r, hr⟩ : ∃ r, ps[j]? = some r := ⟨_, List.getElem?_eq_getElem hlt⟩
          obtain ⟨cb, off, rfl, hcl, a0, a1, a2, a3⟩ := (HPX.out.below hb).at_ j r hr
          have jI : (j : Int) < (ps.length : Int) := by omega
          have j0 : (0 : Int) ≤ (j : Int) := by omega
          have ho := HOnly.out j r hr
          have HB := Lib.hid hb
          clear hb hr
          by_cases hkk : r.key = p.key
          · have hIj : I = j := ho.1 hkk
            have hT : (strB r.key).toList == K.toList := by rw [hkk, HK.out]; simp
            clear ho hkk
            generalize strB r.key = RK at *
            go_wp2_with fail
            go_quiet (fail)
            go_wp2_with fail
            go_roundw
            case rel => exact ⟨j + 1, j, rfl, by go_num, by omega, Lib.hid (by rw [if_pos (by omega)]; omega), HB.out.trans ((below_drewN _ _).mono HB.out.size)⟩
            case measure => simp [intOf]; omega
          · have hIj : I ≠ j := fun h => hkk (ho.2 h)
            have hT : ((strB r.key).toList == K.toList) = false := by
              rw [← HK.out]
              rw [beq_eq_false_iff_ne]
              intro h
              exact hkk (by simpa only [Lib.toList_data, strB_data] using h)
            clear ho hkk
            generalize strB r.key = RK at *
            go_wp2_with fail
            go_quiet (fail)
            go_wp2_with fail
            go_roundw
            case rel => exact ⟨j + 1, m, rfl, by go_num, by omega, Lib.hid (by rw [H.out]; split <;> split <;> omega), HB.out.trans ((below_drewN _ _).mono HB.out.size)⟩
            case measure => simp [intOf]; omega
        · obtain rfl : j = ps.length := by omega
          obtain rfl : m = I := by
            have := H.out
            split at this <;> omega
          obtain ⟨y0, y1, y2, y3⟩ := item_cells w6 k n S (.slice ao6 qs.length cap6) _ (item_next d1 hb)
          have hne : ((qs.length : Int) != max (ps.length : Int) ((m : Int) + 1)) = false := by
            have := HPL.out
            simp
            omega
          replace c0 := two_next c0 hb
          replace d1 := item_next d1 hb
          have HPX1 := Lib.hid (HPX.out.below hb)
          have HPY1 := Lib.hid ((HPr6.out.below hb60).below hb)
          have hz6 : w6.heap.size < wr.heap.size := by have := d1.size; simp at this; omega
          clear hb H HPX hb60 HPr6
          rename World => W1
          go_wp2_with fail
          clear hne y0 y1 y2 y3 p0 p1 p2 p3 q0 q1 q2 q3
          go_loopw [14] (fun i wr => ∃ j : Nat, i = .int .i64 j ∧ j ≤ qs.length ∧ Below W1.heap.size W1 wr) (fun i _ => qs.length - (intOf i).toNat)
          case atStart => exact ⟨0, rfl, Nat.zero_le _, Below.refl _ _⟩
          case round =>
            obtain ⟨j, rfl, hj, hb⟩ := hrel
            obtain ⟨⟨p0, p1, p2, p3⟩, ⟨q0, q1, q2, q3⟩, hz1⟩ := two_cells (two_next c0 hb)
            obtain ⟨y0, y1, y2, y3⟩ := item_cells w6 k n S (.slice ao6 qs.length cap6) _ (item_next d1 hb)
            have hzt := hb.size
            have hz0 : w.heap.size < wr.heap.size := by omega
            have hz2 : w6.heap.size < wr.heap.size := by omega
            by_cases hlt : j < qs.length
            · obtain ⟨r, hr⟩ : ∃ r, qs[j]? = some r := ⟨_, List.getElem?_eq_getElem hlt⟩
              obtain ⟨yb, yoff, rfl, hyl, b0, b1, b2, b3⟩ := (HPY1.out.below hb).at_ j r hr
              have jI : (j : Int) < (qs.length : Int) := by omega
              have j0 : (0 : Int) ≤ (j : Int) := by omega
              have hat := HAt.out j
              rw [hr] at hat
              by_cases hjm : j = m
              · rw [if_pos hjm] at hat
                obtain rfl := Option.some.inj hat
                rw [HK.out] at b0
                rw [HT.out] at b3
                have HB := Lib.hid hb
                subst hjm
                clear hb hr hat
                go_wp2_with fail
                go_quiet (fail)
                go_wp2_with fail
                go_roundw
                case rel => exact ⟨j + 1, by go_num, by omega, (HB.out.alloc HB.out.size _).trans ((below_drewN _ _).mono (HB.out.alloc HB.out.size _).size)⟩
                case measure => simp [intOf]; omega
              · rw [if_neg hjm] at hat
                obtain ⟨cb, off, rfl, hcl, a0, a1, a2, a3⟩ := (HPX1.out.below hb).at_ j r hat.symm
                have hjp : j < ps.length := (List.getElem?_eq_some_iff.1 hat.symm).1
                have jP : (j : Int) < (ps.length : Int) := by omega
                have HB := Lib.hid hb
                have jm : ((j : Int) != (m : Int)) = true := by simp; omega
                clear hb hr hat
                generalize strB r.key = RK at *
                generalize strB r.s = RS at *
                go_wp2_with fail
                go_quiet (fail)
                go_wp2_with fail
                go_roundw
                case rel => exact ⟨j + 1, by go_num, by omega, (HB.out.alloc HB.out.size _).trans ((below_drewN _ _).mono (HB.out.alloc HB.out.size _).size)⟩
                case measure => simp [intOf]; omega
            · obtain rfl : j = qs.length := by omega
              go_wp2_with fail
              go_ret
              exact ⟨rfl, two_later (two_next c0 hb)⟩
  · obtain ⟨X2, E2, hX2, _⟩ := textV_form (ppT [p])
    rw [hX2]
    go_wp2_with fail
    go_ret
    exact ⟨rfl, two_later c0⟩

theorem ilast_walk (k n : Int) (s : List UInt8) (v : Value) (ps : List Prm) (p : Prm) (w : World) (hp : Prms w v ps) (hi : InP ps) (hn : -9223372036854775808 ≤ n ∧ n ≤ 9223372036854775807) (hA : Alph w) (hP : Pow w) (hpn : -9223372036854775808 ≤ p.n ∧ p.n ≤ 9223372036854775807)
    (hK : p.key.length ≤ 140737488355328) (hT : p.s.length ≤ 140737488355328) :
    Calls Tryd.prog 4 #[.agg #[.int .i64 k, .int .i64 n, .string (strB s), v], .agg #[.string (strB p.key), .int .i64 p.k, .int .i64 p.n, .string (strB p.s)]] w fun e w' => e = .returned (.bool true) ∧ Below w.heap.size w w' := by
  have e1 := strB_size p.key
  have e2 := strB_size p.s
  by_cases h1 : 500 < szGo 0 ps
  · exact ilast_long k n _ v ps _ _ _ _ w hp hi hA hP (by omega) (by omega) (.inl h1)
  · by_cases h2 : 300 < s.length
    · exact ilast_long k n _ v ps _ _ _ _ w hp hi hA hP (by omega) (by omega) (.inr ⟨by omega, .inl (by rw [strB_size]; exact h2)⟩)
    · by_cases h3 : 300 < p.key.length + p.s.length
      · exact ilast_long k n _ v ps _ _ _ _ w hp hi hA hP (by omega) (by omega) (.inr ⟨by omega, .inr ⟨by rw [strB_size]; omega, by omega⟩⟩)
      · exact ilast_short k n s v ps p w hp hi hn hA hP hpn (by omega) (by omega) (by omega)

end Go.Proofs.YtcjnigmklijjiaaDoor
