/- The walk of the law ItemBack. -/
import Derived.Test.YtcjnigmklijjiaaDoorLaw03A
namespace Go.Proofs.YtcjnigmklijjiaaDoor
open Go.RowKit

set_option maxRecDepth 100000 in
set_option maxHeartbeats 2000000 in
theorem iback_long (k n : Int) (s t : ByteArray) (v : Value) (ps : List Prm) (w : World) (hp : Prms w v ps) (hi : InP ps) (hA : Alph w) (hP : Pow w) (hl : 500 < szGo 0 ps ∨ (szGo 0 ps ≤ 500 ∧ (300 < s.size ∨ (s.size ≤ 300 ∧ 300 < t.size)))) :
    Calls Tryd.prog 3 #[.agg #[.int .i64 k, .int .i64 n, .string s, v], .string t] w fun e w' => e = .returned (.bool true) ∧ Below w.heap.size w w' := by
  have hb0 : Below w.heap.size w (w.alloc (itemObj k n s v)) := (Below.refl _ _).alloc (Nat.le_refl _) _
  have cA := awake_any (w.alloc (itemObj k n s v)) (hA.below hb0) (hP.below hb0)
  have HPr := Lib.hid hp
  have hlen := hi.1
  clear hA hP hp
  rcases hl with h1 | ⟨h1, h2 | ⟨h2, h3⟩⟩
  all_goals
    have hF := run_field_rparams
    go_enter Tryd.func3, Tryd.ntmps3
    go_wp2_with fail
    refine cA.mono ?_
    rintro e w1 ⟨rfl, hb1⟩
    have c0 : Below (w.heap.size + 1) (w.alloc (itemObj k n s v)) w1 := by simpa using hb1
    obtain ⟨p0, p1, p2, p3⟩ := item_cells w k n s v w1 c0
    have hp1 := HPr.out.below (item_later c0)
    clear cA hb1
    go_wp2_with fail
    refine (own_any k n s v ps _ hp1 (by omega)).mono ?_
    rintro e w2 ⟨u, rfl, hown, hb2⟩
    have hp2 := Prms.of_own hown
    obtain ⟨ao, cap, rfl⟩ := owns_form hown
    replace c0 := item_next c0 hb2
    clear hown p0 p1 p2 p3 hp1
    go_wp2_with fail
    refine (size_any _ ps _ hp2 (by unfold maxLen; omega)).mono ?_
    rintro e w3 ⟨rfl, hb3⟩
    replace c0 := item_next c0 hb3
    obtain ⟨p0, p1, p2, p3⟩ := item_cells w k n s v w3 c0
    clear hF hb2 hb3
    go_wp2_with fail
    go_ret
    exact ⟨rfl, item_later c0⟩

set_option maxRecDepth 100000 in
set_option maxHeartbeats 4000000 in
theorem iback_short (k n : Int) (s q : List UInt8) (v : Value) (ps : List Prm) (w : World) (hp : Prms w v ps) (hi : InP ps) (hn : -9223372036854775808 ≤ n ∧ n ≤ 9223372036854775807) (hA : Alph w) (hP : Pow w) (h1 : szGo 0 ps ≤ 500) (h2 : s.length ≤ 300) (h3 : q.length ≤ 300) :
    Calls Tryd.prog 3 #[.agg #[.int .i64 k, .int .i64 n, .string (strB s), v], .string (strB q)] w fun e w' => e = .returned (.bool true) ∧ Below w.heap.size w w' := by
  have hb0 : Below w.heap.size w (w.alloc (itemObj k n (strB s) v)) := (Below.refl _ _).alloc (Nat.le_refl _) _
  have cA := awake_any (w.alloc (itemObj k n (strB s) v)) (hA.below hb0) (hP.below hb0)
  have HPr := Lib.hid hp
  have hlen := hi.1
  have hsz := szGo_szN ps 0 (by omega) hi.sum h1
  have hl5 := szN_len ps
  have HA := Lib.hid hA
  have HP := Lib.hid hP
  have cP := fun W (hW : Prms W v ps) hWA hWP => iprint_any k n s v ps W hW (by omega) (hi.small (by omega)) (by omega) hn hWA hWP
  have hqs := strB_size q
  have cQ := fun W hW => parse_any (strB q) W (by omega) hW
  rw [strB_data] at cQ
  have hss := strB_size s
  have hs3 : (strB s).size ≤ 300 := by omega
  have ht3 : (strB q).size ≤ 300 := by omega
  clear hA hP hp hqs hss
  have hF := run_field_rparams
  generalize hS : strB s = S at *
  generalize hT : strB q = T at *
  have HS := Lib.hid hS
  clear hS hT
  go_enter Tryd.func3, Tryd.ntmps3
  go_wp2_with fail
  refine cA.mono ?_
  rintro e w1 ⟨rfl, hb1⟩
  have c0 : Below (w.heap.size + 1) (w.alloc (itemObj k n S v)) w1 := by simpa using hb1
  obtain ⟨p0, p1, p2, p3⟩ := item_cells w k n S v w1 c0
  have hp1 := HPr.out.below (item_later c0)
  clear cA hb1
  go_wp2_with fail
  refine (own_any k n S v ps _ hp1 (by omega)).mono ?_
  rintro e w2 ⟨u, rfl, hown, hb2⟩
  have hp2 := Prms.of_own hown
  obtain ⟨ao, cap, rfl⟩ := owns_form hown
  replace c0 := item_next c0 hb2
  clear hown p0 p1 p2 p3 hp1
  go_wp2_with fail
  refine (size_any _ ps _ hp2 (by unfold maxLen; omega)).mono ?_
  rintro e w3 ⟨rfl, hb3⟩
  replace c0 := item_next c0 hb3
  obtain ⟨p0, p1, p2, p3⟩ := item_cells w k n S v w3 c0
  clear hF hb2 hb3 hp2
  go_wp2_with fail
  refine (cP _ (HPr.out.below (item_later c0)) (HA.out.below (item_later c0)) (HP.out.below (item_later c0))).mono ?_
  rintro e w4 ⟨rfl, hb4⟩
  replace c0 := item_next c0 hb4
  clear hb4 p0 p1 p2 p3 cP
  cases hpr : prT k n s ps with
  | none =>
    rw [textV_none]
    clear hpr
    go_wp2_with fail
    refine (cQ _ (HA.out.below (item_later c0))).mono ?_
    cases hpl : parseL q with
    | none =>
      clear hpl
      rw [parsePost_none]
      rintro e w5 ⟨hb5, rfl⟩
      replace c0 := item_next c0 hb5
      replace c0 := item_made c0 (itemObj 0 0 ⟨#[]⟩ (.slice none 0 0))
      clear hb5 cQ
      go_wp2_with fail
      go_ret
      exact ⟨rfl, item_later c0⟩
    | some gp =>
      obtain ⟨g, qs⟩ := gp
      rw [parsePost_some]
      rintro e w5 ⟨hb5, v5, rfl, hown5⟩
      obtain ⟨⟨u2, hu2⟩, r2, r3, r4, r5⟩ := parseL_right q g qs hpl
      have hq1 := parseL_used q g qs hpl
      have hq2 := prT_len _ _ _ _ _ hu2
      have hq3 := right_n _ _ _ r5
      have hp5 := Prms.of_own hown5
      obtain ⟨ao5, cap5, rfl⟩ := owns_form hown5
      have cV := fun W hW hWA hWP => iprint_any g.k g.n g.s (.slice ao5 qs.length cap5) qs W hW (by omega) (ok_small (by omega) r3) (by omega) (by omega) hWA hWP
      rw [hu2, textV_some] at cV
      have hUs := strB_size u2
      have cW := fun W hWA => parse_any (strB u2) W (by omega) hWA
      rw [strB_data, (parseL_print _ _ _ _ _ hu2).1] at cW
      simp only [parsePost_some] at cW
      have cS := fun W v8 h1 h2 => isame_any g.k g.n g.k g.n g.s g.s (.slice ao5 qs.length cap5) v8 qs qs W h1 h2 (by omega) (by omega)
      rw [sameI_self] at cS
      clear hpl hu2 r2 r3 r4 r5 hq1 hq2 hq3 hUs hown5
      obtain ⟨gk, gn, gs, gm⟩ := g
      simp only at cV cW cS ⊢
      generalize strB gs = G at *
      generalize strB u2 = U at *
      have HPr5 := Lib.hid hp5
      replace c0 := item_next c0 hb5
      replace c0 := item_made c0 (itemObj gk gn G (.slice ao5 qs.length cap5))
      clear hb5 cQ hp5
      have d0 : Below (w5.heap.size + 1) (w5.alloc (itemObj gk gn G (.slice ao5 qs.length cap5))) (w5.alloc (itemObj gk gn G (.slice ao5 qs.length cap5))) := Below.refl _ _
      go_wp2_with fail
      refine (cV _ (HPr5.out.below (item_later d0)) (HA.out.below (item_later c0)) (HP.out.below (item_later c0))).mono ?_
      rintro e w6 ⟨rfl, hb6⟩
      replace c0 := item_next c0 hb6
      replace d0 := item_next d0 hb6
      clear hb6 cV
      go_wp2_with fail
      refine (cW _ (HA.out.below (item_later c0))).mono ?_
      rintro e w7 ⟨hb7, v7, rfl, hown7⟩
      have hp7 := Prms.of_own hown7
      obtain ⟨ao7, cap7, rfl⟩ := owns_form hown7
      replace c0 := item_next c0 hb7
      replace d0 := item_next d0 hb7
      have HPr7 := Lib.hid hp7
      replace c0 := item_made c0 (itemObj gk gn G (.slice ao7 qs.length cap7))
      replace d0 := item_made d0 (itemObj gk gn G (.slice ao7 qs.length cap7))
      have f0 : Below (w7.heap.size + 1) (w7.alloc (itemObj gk gn G (.slice ao7 qs.length cap7))) (w7.alloc (itemObj gk gn G (.slice ao7 qs.length cap7))) := Below.refl _ _
      obtain ⟨q0, q1, q2, q3⟩ := item_cells w5 gk gn G (.slice ao5 qs.length cap5) _ d0
      obtain ⟨y0, y1, y2, y3⟩ := item_cells w7 gk gn G (.slice ao7 qs.length cap7) _ f0
      clear hb7 cW hown7 hp7
      go_wp2_with fail
      refine (cS _ _ (HPr5.out.below (item_later d0)) (HPr7.out.below (item_later f0))).mono ?_
      rintro e w8 ⟨rfl, hb8⟩
      replace c0 := item_next c0 hb8
      clear hb8 cS d0 f0 q0 q1 q2 q3 y0 y1 y2 y3
      go_wp2_with fail
      go_ret
      exact ⟨rfl, item_later c0⟩
  | some u =>
    rw [textV_some]
    obtain ⟨x1, x2⟩ := parseL_print k n s u ps hpr
    have hq2 := prT_len _ _ _ _ _ hpr
    have hus := strB_size u
    have cX := fun W hWA => parse_any (strB u) W (by omega) hWA
    rw [strB_data, x1] at cX
    simp only [parsePost_some] at cX
    have e2 : ((⟨#[32, 32]⟩ : ByteArray) ++ strB u ++ (⟨#[32]⟩ : ByteArray)).data.toList = 32 :: 32 :: (u ++ [32]) := by simp only [append_data, strB_data]; rfl
    have e3 : ((⟨#[32, 32]⟩ : ByteArray) ++ strB u ++ (⟨#[32]⟩ : ByteArray)).size = u.length + 3 := by rw [Lib.size_eq, e2]; simp
    have cY := fun W hWA => parse_any ((⟨#[32, 32]⟩ : ByteArray) ++ strB u ++ (⟨#[32]⟩ : ByteArray)) W (by omega) hWA
    rw [e2, x2] at cY
    simp only [parsePost_some] at cY
    have cS := fun W v8 h1 h2 => isame_any k n k n s s v v8 ps ps W h1 h2 (by omega) (by omega)
    rw [sameI_self] at cS
    rw [HS.out] at cX cY cS
    have hu3 : (strB u).size ≤ 20000 := by omega
    clear x1 x2 e2 e3 hq2 hpr hus
    generalize strB u = U at *
    go_wp2_with fail
    refine (cX _ (HA.out.below (item_later c0))).mono ?_
    rintro e w5 ⟨hb5, v5, rfl, hown5⟩
    have hp5 := Prms.of_own hown5
    obtain ⟨ao5, cap5, rfl⟩ := owns_form hown5
    have HPr5 := Lib.hid hp5
    replace c0 := item_next c0 hb5
    replace c0 := item_made c0 (itemObj k n S (.slice ao5 ps.length cap5))
    have d0 : Below (w5.heap.size + 1) (w5.alloc (itemObj k n S (.slice ao5 ps.length cap5))) (w5.alloc (itemObj k n S (.slice ao5 ps.length cap5))) := Below.refl _ _
    clear hb5 hown5 hp5 cX
    go_wp2_with fail
    refine (cY _ (HA.out.below (item_later c0))).mono ?_
    rintro e w6 ⟨hb6, v6, rfl, hown6⟩
    have hp6 := Prms.of_own hown6
    obtain ⟨ao6, cap6, rfl⟩ := owns_form hown6
    have HPr6 := Lib.hid hp6
    replace c0 := item_next c0 hb6
    replace d0 := item_next d0 hb6
    replace c0 := item_made c0 (itemObj k n S (.slice ao6 ps.length cap6))
    replace d0 := item_made d0 (itemObj k n S (.slice ao6 ps.length cap6))
    have f0 : Below (w6.heap.size + 1) (w6.alloc (itemObj k n S (.slice ao6 ps.length cap6))) (w6.alloc (itemObj k n S (.slice ao6 ps.length cap6))) := Below.refl _ _
    obtain ⟨p0, p1, p2, p3⟩ := item_cells w k n S v _ c0
    obtain ⟨q0, q1, q2, q3⟩ := item_cells w5 k n S (.slice ao5 ps.length cap5) _ d0
    clear hb6 hown6 hp6 cY
    go_wp2_with fail
    refine (cS _ _ (HPr.out.below (item_later c0)) (HPr5.out.below (item_later d0))).mono ?_
    rintro e w7 ⟨rfl, hb7⟩
    replace c0 := item_next c0 hb7
    replace f0 := item_next f0 hb7
    clear hb7 p0 p1 p2 p3 q0 q1 q2 q3 d0
    obtain ⟨p0, p1, p2, p3⟩ := item_cells w k n S v _ c0
    obtain ⟨q0, q1, q2, q3⟩ := item_cells w6 k n S (.slice ao6 ps.length cap6) _ f0
    go_wp2_with fail
    refine (cS _ _ (HPr.out.below (item_later c0)) (HPr6.out.below (item_later f0))).mono ?_
    rintro e w8 ⟨rfl, hb8⟩
    replace c0 := item_next c0 hb8
    clear hb8 cS f0 p0 p1 p2 p3 q0 q1 q2 q3 HPr5 HPr6
    go_wp2_with fail
    refine (cQ _ (HA.out.below (item_later c0))).mono ?_
    cases hpl : parseL q with
    | none =>
      clear hpl
      rw [parsePost_none]
      rintro e w5 ⟨hb5, rfl⟩
      replace c0 := item_next c0 hb5
      replace c0 := item_made c0 (itemObj 0 0 ⟨#[]⟩ (.slice none 0 0))
      clear hb5 cQ
      go_wp2_with fail
      go_ret
      exact ⟨rfl, item_later c0⟩
    | some gp =>
      obtain ⟨g, qs⟩ := gp
      rw [parsePost_some]
      rintro e w5 ⟨hb5, v5, rfl, hown5⟩
      obtain ⟨⟨u2, hu2⟩, r2, r3, r4, r5⟩ := parseL_right q g qs hpl
      have hq1 := parseL_used q g qs hpl
      have hq2 := prT_len _ _ _ _ _ hu2
      have hq3 := right_n _ _ _ r5
      have hp5 := Prms.of_own hown5
      obtain ⟨ao5, cap5, rfl⟩ := owns_form hown5
      have cV := fun W hW hWA hWP => iprint_any g.k g.n g.s (.slice ao5 qs.length cap5) qs W hW (by omega) (ok_small (by omega) r3) (by omega) (by omega) hWA hWP
      rw [hu2, textV_some] at cV
      have hUs := strB_size u2
      have cW := fun W hWA => parse_any (strB u2) W (by omega) hWA
      rw [strB_data, (parseL_print _ _ _ _ _ hu2).1] at cW
      simp only [parsePost_some] at cW
      have cS := fun W v8 h1 h2 => isame_any g.k g.n g.k g.n g.s g.s (.slice ao5 qs.length cap5) v8 qs qs W h1 h2 (by omega) (by omega)
      rw [sameI_self] at cS
      clear hpl hu2 r2 r3 r4 r5 hq1 hq2 hq3 hUs hown5
      obtain ⟨gk, gn, gs, gm⟩ := g
      simp only at cV cW cS ⊢
      generalize strB gs = G at *
      generalize strB u2 = U at *
      have HPr5 := Lib.hid hp5
      replace c0 := item_next c0 hb5
      replace c0 := item_made c0 (itemObj gk gn G (.slice ao5 qs.length cap5))
      clear hb5 cQ hp5
      have d0 : Below (w5.heap.size + 1) (w5.alloc (itemObj gk gn G (.slice ao5 qs.length cap5))) (w5.alloc (itemObj gk gn G (.slice ao5 qs.length cap5))) := Below.refl _ _
      go_wp2_with fail
      refine (cV _ (HPr5.out.below (item_later d0)) (HA.out.below (item_later c0)) (HP.out.below (item_later c0))).mono ?_
      rintro e w6 ⟨rfl, hb6⟩
      replace c0 := item_next c0 hb6
      replace d0 := item_next d0 hb6
      clear hb6 cV
      go_wp2_with fail
      refine (cW _ (HA.out.below (item_later c0))).mono ?_
      rintro e w7 ⟨hb7, v7, rfl, hown7⟩
      have hp7 := Prms.of_own hown7
      obtain ⟨ao7, cap7, rfl⟩ := owns_form hown7
      replace c0 := item_next c0 hb7
      replace d0 := item_next d0 hb7
      have HPr7 := Lib.hid hp7
      replace c0 := item_made c0 (itemObj gk gn G (.slice ao7 qs.length cap7))
      replace d0 := item_made d0 (itemObj gk gn G (.slice ao7 qs.length cap7))
      have f0 : Below (w7.heap.size + 1) (w7.alloc (itemObj gk gn G (.slice ao7 qs.length cap7))) (w7.alloc (itemObj gk gn G (.slice ao7 qs.length cap7))) := Below.refl _ _
      obtain ⟨q0, q1, q2, q3⟩ := item_cells w5 gk gn G (.slice ao5 qs.length cap5) _ d0
      obtain ⟨y0, y1, y2, y3⟩ := item_cells w7 gk gn G (.slice ao7 qs.length cap7) _ f0
      clear hb7 cW hown7 hp7
      go_wp2_with fail
      refine (cS _ _ (HPr5.out.below (item_later d0)) (HPr7.out.below (item_later f0))).mono ?_
      rintro e w8 ⟨rfl, hb8⟩
      replace c0 := item_next c0 hb8
      clear hb8 cS d0 f0 q0 q1 q2 q3 y0 y1 y2 y3
      go_wp2_with fail
      go_ret
      exact ⟨rfl, item_later c0⟩

theorem iback_walk (k n : Int) (s q : List UInt8) (v : Value) (ps : List Prm) (w : World) (hp : Prms w v ps) (hi : InP ps) (hn : -9223372036854775808 ≤ n ∧ n ≤ 9223372036854775807) (hA : Alph w) (hP : Pow w) :
    Calls Tryd.prog 3 #[.agg #[.int .i64 k, .int .i64 n, .string (strB s), v], .string (strB q)] w fun e w' => e = .returned (.bool true) ∧ Below w.heap.size w w' := by
  by_cases h1 : 500 < szGo 0 ps
  · exact iback_long k n _ _ v ps w hp hi hA hP (.inl h1)
  · by_cases h2 : 300 < s.length
    · exact iback_long k n _ _ v ps w hp hi hA hP (.inr ⟨by omega, .inl (by rw [strB_size]; exact h2)⟩)
    · by_cases h3 : 300 < q.length
      · exact iback_long k n _ _ v ps w hp hi hA hP (.inr ⟨by omega, .inr ⟨by rw [strB_size]; omega, by rw [strB_size]; exact h3⟩⟩)
      · exact iback_short k n s q v ps w hp hi hn hA hP (by omega) (by omega) (by omega)

end Go.Proofs.YtcjnigmklijjiaaDoor
