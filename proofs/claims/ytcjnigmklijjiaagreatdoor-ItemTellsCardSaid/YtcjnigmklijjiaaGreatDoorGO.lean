/- The walk of the law ItemTells. -/
import Derived.Test.YtcjnigmklijjiaaGreatDoorGN
import Derived.Test.YtcjnigmklijjiaaGreatDoorGG

namespace Go.Proofs.YtcjnigmklijjiaaGreatDoor
open Go.RowKit

abbrev pairObj (k n : Int) (s : ByteArray) (v : Value) (k' n' : Int) (s' : ByteArray) (v' : Value) : Obj := .cells #[.int .i64 k, .int .i64 n, .string s, v, .int .i64 k', .int .i64 n', .string s', v'] 27

set_option maxRecDepth 100000 in
set_option maxHeartbeats 2000000 in
theorem itells_long (k n k' n' : Int) (s s' t : ByteArray) (v v' : Value) (ps qs : List Prm) (w : World) (hp : Prms w v ps) (hq : Prms w v' qs) (hi : InP ps) (hi' : InP qs) (hA : Alph w) (hP : Pow w)
    (hl : 500 < szGo 0 ps ∨ (szGo 0 ps ≤ 500 ∧ (500 < szGo 0 qs ∨ (szGo 0 qs ≤ 500 ∧ (300 < s.size ∨ (s.size ≤ 300 ∧ 300 < t.size)))))) :
    Calls Tryz.prog 3 #[.agg #[.int .i64 k, .int .i64 n, .string s, v, .int .i64 k', .int .i64 n', .string s', v'], .string t] w fun e w' => e = .returned (.bool true) ∧ Below w.heap.size w w' := by
  have hb0 : Below w.heap.size w (w.alloc (pairObj k n s v k' n' s' v')) := (Below.refl _ _).alloc (Nat.le_refl _) _
  have cA := awake_any (w.alloc (pairObj k n s v k' n' s' v')) (hA.below hb0) (hP.below hb0)
  have HPr := Lib.hid hp
  have HQr := Lib.hid hq
  have hlen := hi.1
  have hlen' := hi'.1
  clear hA hP hp hq
  rcases hl with h1 | ⟨h1, h2 | ⟨h2, h3 | ⟨h3, h4⟩⟩⟩
  · have hF := run_field_rparams
    go_enter Tryz.func3, Tryz.ntmps3
    go_wp2_with fail
    refine cA.mono ?_
    rintro e w1 ⟨rfl, hb1⟩
    have c0 := box_next (Below.refl _ _) hb1
    obtain ⟨⟨p0, p1, p2, p3⟩, q0, q1, q2, q3⟩ := box8 c0
    clear cA hb1
    go_wp2_with fail
    refine (own_any k n s v ps _ (HPr.out.below (box_later c0)) (by omega)).mono ?_
    rintro e w2 ⟨u, rfl, hown, hb2⟩
    have hp2 := Prms.of_own hown
    obtain ⟨ao, cap, rfl⟩ := owns_form hown
    replace c0 := box_next c0 hb2
    clear hown p0 p1 p2 p3 q0 q1 q2 q3
    go_wp2_with fail
    refine (size_any _ ps _ hp2 (by unfold maxLen; omega)).mono ?_
    rintro e w3 ⟨rfl, hb3⟩
    replace c0 := box_next c0 hb3
    clear hF hb2 hb3
    go_wp2_with fail
    go_ret
    exact ⟨rfl, box_later c0⟩
  all_goals
    have hF := run_field_rparams
    go_enter Tryz.func3, Tryz.ntmps3
    go_wp2_with fail
    refine cA.mono ?_
    rintro e w1 ⟨rfl, hb1⟩
    have c0 := box_next (Below.refl _ _) hb1
    obtain ⟨⟨p0, p1, p2, p3⟩, q0, q1, q2, q3⟩ := box8 c0
    clear cA hb1
    go_wp2_with fail
    refine (own_any k n s v ps _ (HPr.out.below (box_later c0)) (by omega)).mono ?_
    rintro e w2 ⟨u, rfl, hown, hb2⟩
    have hp2 := Prms.of_own hown
    obtain ⟨ao, cap, rfl⟩ := owns_form hown
    replace c0 := box_next c0 hb2
    clear hown p0 p1 p2 p3 q0 q1 q2 q3
    go_wp2_with fail
    refine (size_any _ ps _ hp2 (by unfold maxLen; omega)).mono ?_
    rintro e w3 ⟨rfl, hb3⟩
    replace c0 := box_next c0 hb3
    clear hb2 hb3
    obtain ⟨⟨p0, p1, p2, p3⟩, q0, q1, q2, q3⟩ := box8 c0
    go_wp2_with fail
    refine (own_any k' n' s' v' qs _ (HQr.out.below (box_later c0)) (by omega)).mono ?_
    rintro e w4 ⟨u, rfl, hown, hb4⟩
    have hp4 := Prms.of_own hown
    obtain ⟨ao4, cap4, rfl⟩ := owns_form hown
    replace c0 := box_next c0 hb4
    clear hown p0 p1 p2 p3 q0 q1 q2 q3
    go_wp2_with fail
    refine (size_any _ qs _ hp4 (by unfold maxLen; omega)).mono ?_
    rintro e w5 ⟨rfl, hb5⟩
    replace c0 := box_next c0 hb5
    obtain ⟨⟨p0, p1, p2, p3⟩, q0, q1, q2, q3⟩ := box8 c0
    clear hF hb4 hb5
    go_wp2_with fail
    go_ret
    exact ⟨rfl, box_later c0⟩

/-- SHORT -/
theorem rd_eta (r : Rd) : r = ⟨r.k, r.n, r.s, r.ps, r.m, r.E⟩ := rfl

set_option maxRecDepth 100000 in
set_option maxHeartbeats 8000000 in
theorem itells_short (k n k' n' : Int) (s s' q : List UInt8) (v v' : Value) (ps qs : List Prm) (w : World) (hp : Prms w v ps) (hq : Prms w v' qs) (hi : InP ps) (hi' : InP qs) (hn : -9223372036854775808 ≤ n ∧ n ≤ 9223372036854775807) (hA : Alph w) (hP : Pow w)
    (h1 : szGo 0 ps ≤ 500) (h2 : szGo 0 qs ≤ 500) (h3 : s.length ≤ 300) (h4 : q.length ≤ 300) :
    Calls Tryz.prog 3 #[.agg #[.int .i64 k, .int .i64 n, .string (strB s), v, .int .i64 k', .int .i64 n', .string (strB s'), v'], .string (strB q)] w fun e w' => e = .returned (.bool true) ∧ Below w.heap.size w w' := by
  have hb0 : Below w.heap.size w (w.alloc (pairObj k n (strB s) v k' n' (strB s') v')) := (Below.refl _ _).alloc (Nat.le_refl _) _
  have cA := awake_any (w.alloc (pairObj k n (strB s) v k' n' (strB s') v')) (hA.below hb0) (hP.below hb0)
  have HPr := Lib.hid hp
  have HQr := Lib.hid hq
  have HA := Lib.hid hA
  have HP := Lib.hid hP
  have hsz := szGo_szN ps 0 (by omega) hi.sum h1
  have hsz' := szGo_szN qs 0 (by omega) hi'.sum h2
  have hl5 := szN_len ps
  have hl5' := szN_len qs
  have hqs := strB_size q
  -- the calls over the text
  have cK := fun W => readKey_any (strB q) W (by unfold maxLen; omega)
  have cK2 := fun W => rreadKey_any (strB q) W (by unfold maxLen; omega)
  have cR := fun W hW => (iread_any (strB q) W (by omega) hW).mono fun e w' h => iread_all h
  have cR2 := fun W => (rread_any (strB q) W (by omega)).mono fun e w' h => rread_all h
  have cP := fun W hW => (parse_any (strB q) W (by omega) hW).mono fun e w' h => iparse_all h
  have cP2 := fun W => (rparse_any (strB q) W (by omega)).mono fun e w' h => rparse_all h
  have cS := fun W hW => (iparams_any (strB q) W (by omega) hW).mono fun e w' h => iparams_all h
  have cS2 := fun W => (rparams_any (strB q) W (by omega)).mono fun e w' h => rparams_all h
  have cY := fun W => key_any (strB q) W (by unfold maxLen; omega)
  have cY2 := fun W => rkey_any (strB q) W (by unfold maxLen; omega)
  rw [strB_data] at cK cK2 cR cR2 cP cP2 cS cS2 cY cY2
  obtain ⟨KX, KN, KE, hK⟩ := rkV_form q
  rw [hK] at cK cK2
  have l1 := rdI_len q
  have l2 := rdP_len q
  have l3 := rdS_len q
  generalize rdI (itmL q) = a at *
  generalize rdP (parseL q) = b at *
  generalize rdS (psL q [] 0) = c at *
  generalize keyL q = KB at *
  obtain ⟨ak, an, al, aps, am, aE⟩ := a
  obtain ⟨bk, bn, bl, bps, bm, bE⟩ := b
  obtain ⟨ck, cn, cl, cps, cm, cE⟩ := c
  simp only [threeV, twoV, psV] at cR cR2 cP cP2 cS cS2 l1 l2 l3
  have hss := strB_size s
  have hs3 : (strB s).size ≤ 300 := by omega
  have ht3 : (strB q).size ≤ 300 := by omega
  -- the calls over the items
  have cI := fun W u (hW : Prms W u ps) hWA hWP => iprint_any k n s u ps W hW (by omega) (hi.small (by omega)) (by omega) hn hWA hWP
  have cI2 := fun W u (hW : Prms W u ps) => rprint_any k n s u ps W hW (by omega) (hi.small (by omega)) (by omega)
  have cJ := fun W u (hW : Prms W u qs) hWA hWP => printParams_any u qs W hW (by omega) (hi'.small (by omega)) hWA hWP
  have cJ2 := fun W u (hW : Prms W u qs) => rprintParams_any u qs W hW (by omega) (hi'.small (by omega))
  obtain ⟨PX, PE, hPX, _⟩ := textV_form (prT k n s ps)
  obtain ⟨QX, QE, hQX, _⟩ := textV_form (ppT qs)
  rw [hPX] at cI cI2
  rw [hQX] at cJ cJ2
  have cL := fun W u1 u2 (hW : Prms W u1 ps) (hW2 : Prms W u2 qs) => lsame_any k n k' n' s s' u1 u2 ps qs W hW hW2 (by omega) (by omega)
  have cM := fun W u1 u2 (hW : Prms W u1 ps) (hW2 : Prms W u2 qs) => isame_any k n k' n' s s' u1 u2 ps qs W hW hW2 (by omega) (by omega)
  generalize sameI k n s ps k' n' s' qs = LB at *
  have cX := fun W u1 u2 (hW : Prms W u1 aps) (hW2 : Prms W u2 aps) => lsame_any ak an ak an al al u1 u2 aps aps W hW hW2 (by omega) (by omega)
  rw [sameI_self] at cX
  have cZ := fun W u1 u2 (hW : Prms W u1 bps) (hW2 : Prms W u2 bps) => lsame_any bk bn bk bn bl bl u1 u2 bps bps W hW hW2 (by omega) (by omega)
  rw [sameI_self] at cZ
  have cW := fun W u1 u2 (hW : Prms W u1 cps) (hW2 : Prms W u2 cps) => rsameParams_any u1 u2 cps cps W hW hW2 (by omega) (by omega)
  rw [(samePs_iff cps cps).2 rfl] at cW
  have cO := fun W u (hW : Prms W u ps) => own_any k n (strB s) u ps W hW (by omega)
  have cO2 := fun W u (hW : Prms W u qs) => own_any k' n' (strB s') u qs W hW (by omega)
  have cO3 := fun W u (hW : Prms W u cps) => own_any 0 0 ⟨#[]⟩ u cps W hW (by omega)
  have cZ1 := fun W u (hW : Prms W u ps) => size_any u ps W hW (by unfold maxLen; omega)
  have cZ2 := fun W u (hW : Prms W u qs) => size_any u qs W hW (by unfold maxLen; omega)
  obtain ⟨av, acap, rfl, hc⟩ := hp
  obtain ⟨av', acap', rfl, hc'⟩ := hq
  clear hc hc' hA hP hK hPX hQX hss hqs hi hi' hn h3 h4 hl5 hl5' hsz hsz'
  have hF := run_field_rparams
  generalize strB al = AS at *
  generalize strB bl = BS at *
  generalize strB s = S at *
  generalize strB s' = S' at *
  generalize strB q = T at *
  clear al bl cl
  go_enter Tryz.func3, Tryz.ntmps3
  go_wp2_with fail
  refine cA.mono ?_
  rintro e w1 ⟨rfl, hb1⟩
  have c0 := box_next (Below.refl _ _) hb1
  obtain ⟨⟨p0, p1, p2, p3⟩, q0, q1, q2, q3⟩ := box8 c0
  clear cA hb1 hb0
  go_wp2_with fail
  refine (cO _ _ (HPr.out.below (box_later c0))).mono ?_
  rintro e w2 ⟨u, rfl, hown, hb2⟩
  have hp2 := Prms.of_own hown
  obtain ⟨ao, cap, rfl⟩ := owns_form hown
  replace c0 := box_next c0 hb2
  clear hown p0 p1 p2 p3 q0 q1 q2 q3
  go_wp2_with fail
  refine (cZ1 _ _ hp2).mono ?_
  rintro e w3 ⟨rfl, hb3⟩
  replace c0 := box_next c0 hb3
  clear hb2 hb3 hp2 cZ1
  obtain ⟨⟨p0, p1, p2, p3⟩, q0, q1, q2, q3⟩ := box8 c0
  go_wp2_with fail
  refine (cO2 _ _ (HQr.out.below (box_later c0))).mono ?_
  rintro e w4 ⟨u, rfl, hown, hb4⟩
  have hp4 := Prms.of_own hown
  obtain ⟨ao4, cap4, rfl⟩ := owns_form hown
  replace c0 := box_next c0 hb4
  clear hown p0 p1 p2 p3 q0 q1 q2 q3
  go_wp2_with fail
  refine (cZ2 _ _ hp4).mono ?_
  rintro e w5 ⟨rfl, hb5⟩
  replace c0 := box_next c0 hb5
  clear hb4 hb5 hp4 cZ2
  obtain ⟨⟨p0, p1, p2, p3⟩, q0, q1, q2, q3⟩ := box8 c0
  go_wp2_with fail
  refine (cK _).mono ?_
  rintro e w6 ⟨rfl, rfl⟩
  clear p0 p1 p2 p3 q0 q1 q2 q3 cK
  go_wp2_with fail
  refine (cK2 _).mono ?_
  rintro e w6 ⟨rfl, rfl⟩
  clear cK2
  go_wp2_with fail
  refine (cR _ (HA.out.below (box_later c0))).mono ?_
  rintro e wx ⟨aox, capx, rfl, hpx, hbx⟩
  replace c0 := box_made (box_next c0 hbx) (itemObj ak an AS (.slice aox aps.length capx))
  have d1 : Below (wx.heap.size + 1) (wx.alloc (itemObj ak an AS (.slice aox aps.length capx))) (wx.alloc (itemObj ak an AS (.slice aox aps.length capx))) := Below.refl _ _
  have HX := Lib.hid hpx
  clear hbx hpx cR
  go_wp2_with fail
  refine (cR2 _).mono ?_
  rintro e wy ⟨aoy, capy, rfl, hpy, hby⟩
  replace c0 := box_made (box_next c0 hby) (ritemObj ak an AS (.slice aoy aps.length capy))
  replace d1 := box_made (box_next d1 hby) (ritemObj ak an AS (.slice aoy aps.length capy))
  have d2 : Below (wy.heap.size + 1) (wy.alloc (ritemObj ak an AS (.slice aoy aps.length capy))) (wy.alloc (ritemObj ak an AS (.slice aoy aps.length capy))) := Below.refl _ _
  have HY := Lib.hid hpy
  clear hby hpy cR2
  go_wp2_with fail
  refine (cP _ (HA.out.below (box_later c0))).mono ?_
  rintro e wu ⟨aou, capu, rfl, hpu, hbu⟩
  replace c0 := box_made (box_next c0 hbu) (itemObj bk bn BS (.slice aou bps.length capu))
  replace d1 := box_made (box_next d1 hbu) (itemObj bk bn BS (.slice aou bps.length capu))
  replace d2 := box_made (box_next d2 hbu) (itemObj bk bn BS (.slice aou bps.length capu))
  have d3 : Below (wu.heap.size + 1) (wu.alloc (itemObj bk bn BS (.slice aou bps.length capu))) (wu.alloc (itemObj bk bn BS (.slice aou bps.length capu))) := Below.refl _ _
  have HU := Lib.hid hpu
  clear hbu hpu cP
  go_wp2_with fail
  refine (cP2 _).mono ?_
  rintro e wv ⟨aov, capv, rfl, hpv, hbv⟩
  replace c0 := box_made (box_next c0 hbv) (ritemObj bk bn BS (.slice aov bps.length capv))
  replace d1 := box_made (box_next d1 hbv) (ritemObj bk bn BS (.slice aov bps.length capv))
  replace d2 := box_made (box_next d2 hbv) (ritemObj bk bn BS (.slice aov bps.length capv))
  replace d3 := box_made (box_next d3 hbv) (ritemObj bk bn BS (.slice aov bps.length capv))
  have d4 : Below (wv.heap.size + 1) (wv.alloc (ritemObj bk bn BS (.slice aov bps.length capv))) (wv.alloc (ritemObj bk bn BS (.slice aov bps.length capv))) := Below.refl _ _
  have HV := Lib.hid hpv
  clear hbv hpv cP2
  go_wp2_with fail
  refine (cS _ (HA.out.below (box_later c0))).mono ?_
  rintro e w7 ⟨aoc, capc, rfl, hpc, hb7⟩
  replace c0 := box_next c0 hb7
  replace d1 := box_next d1 hb7
  replace d2 := box_next d2 hb7
  replace d3 := box_next d3 hb7
  replace d4 := box_next d4 hb7
  have HC := Lib.hid hpc
  clear hb7 hpc cS
  go_wp2_with fail
  refine (cS2 _).mono ?_
  rintro e w8 ⟨aoe, cape, rfl, hpe, hb8⟩
  have hc8 := HC.out.below hb8
  replace c0 := box_next c0 hb8
  replace d1 := box_next d1 hb8
  replace d2 := box_next d2 hb8
  replace d3 := box_next d3 hb8
  replace d4 := box_next d4 hb8
  have HE := Lib.hid hpe
  clear hb8 hpe cS2 HC
  go_wp2_with fail
  refine (cO3 _ _ hc8).mono ?_
  rintro e w9 ⟨u, rfl, hown, hb9⟩
  have hp9 := Prms.of_own hown
  obtain ⟨ao9, cap9, rfl⟩ := owns_form hown
  have he9 := HE.out.below hb9
  replace c0 := box_next c0 hb9
  replace d1 := box_next d1 hb9
  replace d2 := box_next d2 hb9
  replace d3 := box_next d3 hb9
  replace d4 := box_next d4 hb9
  clear hb9 hown cO3 hc8 HE
  go_wp2_with fail
  refine (cW _ _ _ hp9 he9).mono ?_
  rintro e w10 ⟨rfl, hb10⟩
  replace c0 := box_next c0 hb10
  replace d1 := box_next d1 hb10
  replace d2 := box_next d2 hb10
  replace d3 := box_next d3 hb10
  replace d4 := box_next d4 hb10
  clear hb10 hp9 he9 cW
  obtain ⟨p0, p1, p2, p3⟩ := box4 d1
  obtain ⟨q0, q1, q2, q3⟩ := box4 d2
  go_wp2_with fail
  refine (cX _ _ _ (HX.out.below (box_later d1)) (HY.out.below (box_later d2))).mono ?_
  rintro e w11 ⟨rfl, hb11⟩
  replace c0 := box_next c0 hb11
  replace d3 := box_next d3 hb11
  replace d4 := box_next d4 hb11
  clear hb11 cX p0 p1 p2 p3 q0 q1 q2 q3 d1 d2 HX HY
  obtain ⟨p0, p1, p2, p3⟩ := box4 d3
  obtain ⟨q0, q1, q2, q3⟩ := box4 d4
  go_wp2_with fail
  refine (cZ _ _ _ (HU.out.below (box_later d3)) (HV.out.below (box_later d4))).mono ?_
  rintro e w12 ⟨rfl, hb12⟩
  replace c0 := box_next c0 hb12
  clear hb12 cZ p0 p1 p2 p3 q0 q1 q2 q3 d3 d4 HU HV
  go_wp2_with fail
  refine (cY _).mono ?_
  rintro e w13 ⟨rfl, rfl⟩
  go_wp2_with fail
  refine (cY2 _).mono ?_
  rintro e w13 ⟨rfl, rfl⟩
  clear cY cY2
  obtain ⟨⟨p0, p1, p2, p3⟩, q0, q1, q2, q3⟩ := box8 c0
  go_wp2_with fail
  refine (cI _ _ (HPr.out.below (box_later c0)) (HA.out.below (box_later c0)) (HP.out.below (box_later c0))).mono ?_
  rintro e w14 ⟨rfl, hb14⟩
  replace c0 := box_next c0 hb14
  clear hb14 cI p0 p1 p2 p3 q0 q1 q2 q3
  obtain ⟨⟨p0, p1, p2, p3⟩, q0, q1, q2, q3⟩ := box8 c0
  go_wp2_with fail
  refine (cO _ _ (HPr.out.below (box_later c0))).mono ?_
  rintro e w15 ⟨u, rfl, hown, hb15⟩
  have hp15 := Prms.of_own hown
  obtain ⟨ao15, cap15, rfl⟩ := owns_form hown
  replace c0 := box_next c0 hb15
  clear hown hb15 p0 p1 p2 p3 q0 q1 q2 q3 cO
  go_wp2_with fail
  refine (cI2 _ _ hp15).mono ?_
  rintro e w16 ⟨rfl, hb16⟩
  replace c0 := box_next c0 hb16
  clear hb16 hp15 cI2
  obtain ⟨⟨p0, p1, p2, p3⟩, q0, q1, q2, q3⟩ := box8 c0
  go_wp2_with fail
  refine (cJ _ _ (HQr.out.below (box_later c0)) (HA.out.below (box_later c0)) (HP.out.below (box_later c0))).mono ?_
  rintro e w17 ⟨rfl, hb17⟩
  replace c0 := box_next c0 hb17
  clear hb17 cJ p0 p1 p2 p3 q0 q1 q2 q3
  obtain ⟨⟨p0, p1, p2, p3⟩, q0, q1, q2, q3⟩ := box8 c0
  go_wp2_with fail
  refine (cO2 _ _ (HQr.out.below (box_later c0))).mono ?_
  rintro e w18 ⟨u, rfl, hown, hb18⟩
  have hp18 := Prms.of_own hown
  obtain ⟨ao18, cap18, rfl⟩ := owns_form hown
  replace c0 := box_next c0 hb18
  clear hown hb18 p0 p1 p2 p3 q0 q1 q2 q3
  go_wp2_with fail
  refine (cJ2 _ _ hp18).mono ?_
  rintro e w19 ⟨rfl, hb19⟩
  replace c0 := box_next c0 hb19
  clear hb19 hp18 cJ2
  obtain ⟨⟨p0, p1, p2, p3⟩, q0, q1, q2, q3⟩ := box8 c0
  have hKd : Below (w.heap.size + 1) (w.alloc (pairObj k n S (.slice av ps.length acap) k' n' S' (.slice av' qs.length acap'))) w19.drew := box_next c0 (Below.refl _ _).drew
  go_wp2_with fail
  go_region_with (first
    | (go_at_call 10; refine (cO2 _ _ ?_).mono ?_; exact HQr.out.below (box_later hKd); rintro e w20 ⟨u, rfl, hown, hb20⟩; have hp20 := Prms.of_own hown; obtain ⟨ao20, cap20, rfl⟩ := owns_form hown; have hK := box_next hKd hb20; obtain ⟨⟨x0, x1, x2, x3⟩, y0, y1, y2, y3⟩ := box8 hK; clear hown)
    | (go_at_call 20; refine (cL _ _ _ ?_ ?_).mono ?_; exact HPr.out.below (box_later (by assumption)); assumption; rintro e w21 ⟨rfl, hb21⟩; have hK2 := box_next (by assumption) hb21))
  all_goals
    clear x0 x1 x2 x3 y0 y1 y2 y3 p0 p1 p2 p3 q0 q1 q2 q3 cL cO2 c0 hKd hF
    obtain ⟨⟨x0, x1, x2, x3⟩, y0, y1, y2, y3⟩ := box8 hK2
    go_wp2_with fail
    refine (cM _ _ _ (HPr.out.below (box_later hK2)) (HQr.out.below (box_later hK2))).mono ?_
    rintro e w22 ⟨rfl, hb22⟩
    replace hK2 := box_next hK2 hb22
    clear x0 x1 x2 x3 y0 y1 y2 y3
    go_wp2_with fail
    go_ret
    exact ⟨ret_eq (bool_eq (by simp)), box_later hK2⟩

theorem itells_walk (k n k' n' : Int) (s s' q : List UInt8) (v v' : Value) (ps qs : List Prm) (w : World) (hp : Prms w v ps) (hq : Prms w v' qs) (hi : InP ps) (hi' : InP qs) (hn : -9223372036854775808 ≤ n ∧ n ≤ 9223372036854775807) (hA : Alph w) (hP : Pow w) :
    Calls Tryz.prog 3 #[.agg #[.int .i64 k, .int .i64 n, .string (strB s), v, .int .i64 k', .int .i64 n', .string (strB s'), v'], .string (strB q)] w fun e w' => e = .returned (.bool true) ∧ Below w.heap.size w w' := by
  by_cases h1 : 500 < szGo 0 ps
  · exact itells_long k n k' n' _ _ _ v v' ps qs w hp hq hi hi' hA hP (.inl h1)
  · by_cases h2 : 500 < szGo 0 qs
    · exact itells_long k n k' n' _ _ _ v v' ps qs w hp hq hi hi' hA hP (.inr ⟨by omega, .inl h2⟩)
    · by_cases h3 : 300 < s.length
      · exact itells_long k n k' n' _ _ _ v v' ps qs w hp hq hi hi' hA hP (.inr ⟨by omega, .inr ⟨by omega, .inl (by rw [strB_size]; exact h3)⟩⟩)
      · by_cases h4 : 300 < q.length
        · exact itells_long k n k' n' _ _ _ v v' ps qs w hp hq hi hi' hA hP (.inr ⟨by omega, .inr ⟨by omega, .inr ⟨by rw [strB_size]; omega, by rw [strB_size]; exact h4⟩⟩⟩)
        · exact itells_short k n k' n' s s' q v v' ps qs w hp hq hi hi' hn hA hP (by omega) (by omega) (by omega) (by omega)

end Go.Proofs.YtcjnigmklijjiaaGreatDoor
