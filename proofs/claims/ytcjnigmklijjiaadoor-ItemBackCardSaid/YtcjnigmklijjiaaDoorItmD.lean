/- The contract of the parser's param. -/
import Derived.Test.YtcjnigmklijjiaaDoorItmC
namespace Go.Proofs.YtcjnigmklijjiaaDoor
open Go.RowKit

theorem Par.moved {w W : World} {b c : Nat} {t : ByteArray} {k : Nat} (h : Par w b t k) (hm : Moved c w W) (hc : b ≠ c) : Par W b t k :=
  ⟨(hm.cell (p := ⟨b, 0, none⟩) h.lt hc).trans h.text, (hm.cell (p := ⟨b, 1, none⟩) h.lt hc).trans h.at_, (hm.frozen (p := ⟨b, 0, none⟩) h.lt hc).trans h.f0, (hm.frozen (p := ⟨b, 1, none⟩) h.lt hc).trans h.f1⟩

/-- The cells of a parameter that is none yet. -/
structure Res4 (W : World) (c : Nat) : Prop where
  r0 : W.cell? ⟨c, 0, none⟩ = some (.string ⟨#[]⟩)
  r1 : W.cell? ⟨c, 1, none⟩ = some (.int .i64 0)
  r2 : W.cell? ⟨c, 2, none⟩ = some (.int .i64 0)
  r3 : W.cell? ⟨c, 3, none⟩ = some (.string ⟨#[]⟩)
  g0 : W.frozen? ⟨c, 0, none⟩ = false
  g1 : W.frozen? ⟨c, 1, none⟩ = false
  g2 : W.frozen? ⟨c, 2, none⟩ = false
  g3 : W.frozen? ⟨c, 3, none⟩ = false
abbrev zeroParam : Obj := .cells #[.string ⟨#[]⟩, .int .i64 0, .int .i64 0, .string ⟨#[]⟩] 41
theorem Res4.made (w : World) : Res4 (w.alloc zeroParam) w.heap.size := ⟨by simp, by simp, by simp, by simp, by simp, by simp, by simp, by simp⟩
theorem Res4.lt {W : World} {c : Nat} (h : Res4 W c) : c < W.heap.size := lt_of_cell h.r0
theorem Res4.moved {W W1 : World} {b c : Nat} (h : Res4 W c) (hm : Moved b W W1) (hc : c ≠ b) : Res4 W1 c :=
  ⟨(hm.cell (p := ⟨c, 0, none⟩) h.lt hc).trans h.r0, (hm.cell (p := ⟨c, 1, none⟩) h.lt hc).trans h.r1, (hm.cell (p := ⟨c, 2, none⟩) h.lt hc).trans h.r2, (hm.cell (p := ⟨c, 3, none⟩) h.lt hc).trans h.r3, (hm.frozen (p := ⟨c, 0, none⟩) h.lt hc).trans h.g0, (hm.frozen (p := ⟨c, 1, none⟩) h.lt hc).trans h.g1, (hm.frozen (p := ⟨c, 2, none⟩) h.lt hc).trans h.g2, (hm.frozen (p := ⟨c, 3, none⟩) h.lt hc).trans h.g3⟩

/-- A parameter. -/
structure Prm where
  key : List UInt8
  k : Int
  n : Int
  s : List UInt8

def spcL (l : List UInt8) : Nat := (l.takeWhile (· == 32)).length

/-- A parameter from behind its semicolon on, and how long it is. -/
def parL (l : List UInt8) : Option (Prm × Nat) :=
  if klen (l.drop (spcL l)) = 0 then none
  else if (l.drop (spcL l + klen (l.drop (spcL l)))).head? = some 61 then
    match readL (l.drop (spcL l + klen (l.drop (spcL l)) + 1)) with
    | none => none
    | some g => some (⟨(l.drop (spcL l)).take (klen (l.drop (spcL l))), g.k, g.n, g.s⟩, spcL l + klen (l.drop (spcL l)) + 1 + g.m)
  else some (⟨(l.drop (spcL l)).take (klen (l.drop (spcL l))), 6, 1, []⟩, spcL l + klen (l.drop (spcL l)))

def prmV (o : Option (Prm × Nat)) : Value := match o with
  | some p => .tuple #[.agg #[.string (strB p.1.key), .int .i64 p.1.k, .int .i64 p.1.n, .string (strB p.1.s)], .int .i64 0]
  | none => .tuple #[.agg #[.string ⟨#[]⟩, .int .i64 0, .int .i64 0, .string ⟨#[]⟩], .int .i64 2]

/-- What param leaves: where it answers none, the parser stands anywhere. -/
def prmPost (o : Option (Prm × Nat)) (b : Nat) (t : ByteArray) (k : Nat) (w : World) (e : Ending) (w' : World) : Prop :=
  e = .returned (prmV o) ∧ Moved b w w' ∧ ∃ k', k' ≤ t.size ∧ Par w' b t k' ∧ ∀ p, o = some p → k' = k + p.2

theorem spc_at : ∀ (l : List UInt8) (j : Nat), j ≤ spcL l → ((l.drop j).head? = some 32 ↔ j < spcL l)
  | [], j, h => by
    simp [spcL] at h ⊢
  | c :: l, 0, _ => by
    rw [List.drop_zero, List.head?_cons, spcL, List.takeWhile_cons]
    by_cases hc : c = 32
    · subst hc; simp
    · have : (c == 32) = false := by simpa using hc
      rw [this]; simp [hc]
  | c :: l, j + 1, h => by
    rw [List.drop_succ_cons]
    rw [spcL, List.takeWhile_cons] at h ⊢
    by_cases hc : (c == 32) = true
    · rw [hc] at h ⊢
      simp only [if_true, List.length_cons] at h ⊢
      have := spc_at l j (by unfold spcL; omega)
      rw [this]
      unfold spcL
      omega
    · rw [Bool.not_eq_true] at hc
      rw [hc] at h
      simp at h
theorem spc_le (l : List UInt8) : spcL l ≤ l.length := takeWhile_len_le _ l

def atOf (w : World) (b : Nat) : Nat := match w.cell? ⟨b, 1, none⟩ with
  | some (.int _ z) => z.toNat
  | _ => 0
theorem Par.atOf {w : World} {b : Nat} {t : ByteArray} {k : Nat} (h : Par w b t k) : atOf w b = k := by
  unfold Proofs.YtcjnigmklijjiaaDoor.atOf
  rw [h.at_]; simp

theorem Alph.moved {w W : World} {b : Nat} (h : Alph w) (hm : Moved b w W) (hb : 0 ≠ b) : Alph W := fun j hj => by
  have := h j hj
  rw [hm.cell (p := ⟨_, j, none⟩) (lt_of_cell this) hb]
  exact this

theorem parL_at (l : List UInt8) (k ns K1 n : Nat) (h1 : spcL (l.drop k) = ns) (h2 : k + ns = K1) (h3 : klen (l.drop K1) = n) :
    parL (l.drop k) = if n = 0 then none else if (l.drop (K1 + n)).head? = some 61 then
      match readL (l.drop (K1 + n + 1)) with
      | none => none
      | some g => some (⟨(l.drop K1).take n, g.k, g.n, g.s⟩, ns + n + 1 + g.m)
    else some (⟨(l.drop K1).take n, 6, 1, []⟩, ns + n) := by
  rw [parL, h1]
  simp only [List.drop_drop]
  rw [h2, h3, show k + (ns + n) = K1 + n by omega, show k + (ns + n + 1) = K1 + n + 1 by omega]

set_option maxRecDepth 100000 in
set_option maxHeartbeats 2000000 in
theorem param_any (b : Nat) (t : ByteArray) (k : Nat) (w : World) (h : Par w b t k) (ht : t.size ≤ 100000) (hk : k ≤ t.size) (hA : Alph w) (hAb : 0 ≠ b) :
    Calls Tryd.prog 54 #[.pointer (some ⟨b, 0, none⟩)] w (prmPost (parL (t.data.toList.drop k)) b t k w) := by
  have hbl := h.lt
  have HA := Lib.hid hA
  have hbn : b ≠ w.heap.size := by omega
  have hm0 : Moved b w (w.alloc zeroParam) := (Moved.refl b w).alloc _
  have HP0 := Lib.hid (h.alloc zeroParam)
  have HR0 := Lib.hid (Res4.made w)
  clear hA h
  obtain ⟨ns, hns⟩ : ∃ ns, spcL (t.data.toList.drop k) = ns := ⟨_, rfl⟩
  have hspc := spc_at (t.data.toList.drop k)
  have hnl := spc_le (t.data.toList.drop k)
  rw [List.length_drop, ← Lib.size_eq] at hnl
  rw [hns] at hspc hnl
  simp only [List.drop_drop] at hspc
  have Hspc := Lib.hid hspc
  clear hspc
  have hM0 := Lib.hid hm0
  clear hm0
  go_enter Tryd.func54, Tryd.ntmps54
  go_wp2_with fail
  go_loopw [] (fun wr => ∃ j : Nat, j ≤ ns ∧ Par wr b t (k + j) ∧ Moved b w wr ∧ Res4 wr w.heap.size) (fun wr => t.size - atOf wr b)
  case atStart => exact ⟨0, by omega, HP0.out, hM0.out, HR0.out⟩
  case round =>
    obtain ⟨j, hj, hP, hM, hR⟩ := hrel
    clear HP0 hM0 HR0
    by_cases hlt : j < ns
    · have cT := take_yes b t (k + j) 32 wr hP ht ((Hspc.out j hj).2 hlt)
      have hR1 := Lib.hid hR
      have hM1 := Lib.hid hM
      have hP1 := Lib.hid hP
      clear hP hM hR
      go_wp2_with fail
      refine cT.mono ?_
      rintro e w1 ⟨rfl, hP2, hM2⟩
      go_wp2_with fail
      go_roundw
      case rel => exact ⟨j + 1, by omega, hP2, hM1.out.trans hM2, hR1.out.moved hM2 (Ne.symm hbn)⟩
      case measure => rw [hP2.atOf, hP1.out.atOf]; omega
    · obtain rfl : j = ns := by omega
      have cT := take_no b t (k + j) 32 wr hP ht (by omega) (by
        intro e
        exact hlt ((Hspc.out j hj).1 e))
      have hk1 : k + j ≤ t.size := by omega
      obtain ⟨K1, hK1⟩ : ∃ K1, k + j = K1 := ⟨_, rfl⟩
      obtain ⟨n, hn⟩ : ∃ n, klen (t.data.toList.drop K1) = n := ⟨_, rfl⟩
      have HL := Lib.hid (parL_at t.data.toList k j K1 n hns hK1 hn)
      have HK := Lib.hid hK1
      rw [hK1] at cT hP hk1
      have hxd : (t.extract K1 t.size).data.toList = t.data.toList.drop K1 := Lib.extract_to_end t K1
      have hxs : (t.extract K1 t.size).size ≤ maxLen := by rw [Lib.size_eq, hxd, List.length_drop, ← Lib.size_eq]; unfold maxLen; omega
      have hn2 : K1 + n ≤ t.size := by
        have := klen_le (t.data.toList.drop K1)
        rw [hn, List.length_drop, ← Lib.size_eq] at this; omega
      have cK : ∀ W, Calls Tryd.prog 12 #[.string (t.extract K1 t.size)] W fun e w' => e = .returned (rkV (t.data.toList.drop K1)) ∧ w' = W := fun W => by
        have := readKey_any (t.extract K1 t.size) W hxs
        rw [hxd] at this
        exact this.mono (fun _ _ h => ⟨h.1, h.2.symm⟩)
      rw [rkV, hn] at cK
      have hM1 := Lib.hid hM
      have hR1 := Lib.hid hR
      clear hP hM hR hlt hj hns hnl Hspc hxd hxs hK1 hn
      go_wp2_with fail
      refine cT.mono ?_
      rintro e w1 ⟨rfl, hP1, hM2⟩
      have hMw := hM1.out.trans hM2
      have hRw := hR1.out.moved hM2 (Ne.symm hbn)
      have HP1 := Lib.hid hP1
      have c0 := hP1.text
      have c1 := hP1.at_
      have f1 := hP1.f1
      have j1 : (0 : Int) ≤ (K1 : Int) := by omega
      have j2 : (K1 : Int) ≤ (t.size : Int) := by omega
      clear cT hM2 hM1 hR1 hP1
      have HM := Lib.hid hMw
      have HR := Lib.hid hRw
      clear hMw hRw
      by_cases hn0 : n = 0
      · rw [if_pos hn0] at cK HL
        have r0 := HR.out.r0
        have r1 := HR.out.r1
        have r2 := HR.out.r2
        have r3 := HR.out.r3
        have g0 := HR.out.g0
        have g1 := HR.out.g1
        have g2 := HR.out.g2
        have g3 := HR.out.g3
        clear hn0
        go_wp2_with fail
        go_quiet ((go_at_call 12; exact Calls.quiet_of_same (cK _)))
        go_wp2_with fail
        have n1 : ¬ b = w.heap.size := hbn
        refine bodyPost_ret (v := prmV none) (by simp [results, Tryd.results54, go_sem, prmV, r0, r1, r2, r3]) rfl ⟨by rw [HL.out], ?_, K1, hk1, ?_, fun p h => by rw [HL.out] at h; cases h⟩
        · repeat (first | with_reducible refine Moved.alloc ?_ _ | (with_reducible refine Moved.setNew ?_ (by omega) _) | with_reducible refine Moved.setCell ?_ _)
          exact HM.out.drew _
        · repeat (first | with_reducible refine Par.alloc ?_ _ | with_reducible refine Par.other ?_ (by omega) _)
          exact HP1.out.drew _
      · rw [if_neg hn0] at cK HL
        obtain ⟨K2, hK2⟩ : ∃ K2, K1 + n = K2 := ⟨_, rfl⟩
        rw [hK2] at HL hn2
        have q1 : (K1 : Int) + (n : Int) = (K2 : Int) := by omega
        have HK2 := Lib.hid hK2
        obtain ⟨X, hX⟩ : ∃ X, strB ((t.data.toList.drop K1).take n) = X := ⟨_, rfl⟩
        rw [hX] at cK
        have HX := Lib.hid hX
        clear hK2 hX
        go_wp2_with fail
        go_quiet ((go_at_call 12; exact Calls.quiet_of_same (cK _)))
        clear cK c0
        by_cases h61 : (t.data.toList.drop K2).head? = some 61
        · rw [if_pos h61] at HL
          have hK2s : K2 + 1 ≤ t.size := by
            by_cases hlt : K2 < t.size
            · omega
            · rw [List.drop_of_length_le (by rw [← Lib.size_eq]; omega)] at h61; cases h61
          go_wp2_with fail
          refine (take_yes b t K2 61 _ ?_ ht h61).mono ?_
          · exact (HP1.out.drew _).setI K2 _ rfl
          rintro e w2 ⟨rfl, hP2, hM2⟩
          have hMw2 := ((HM.out.drew _).setCell _).trans hM2
          have hRw2 := (HR.out.moved (((Moved.refl b w1).drew _).setCell _) (Ne.symm hbn)).moved hM2 (Ne.symm hbn)
          clear hM2 c1 f1 q1
          have cV := value_any b t (K2 + 1) w2 hP2 ht hK2s (HA.out.moved hMw2 hAb)
          have HM2 := Lib.hid hMw2
          have HR2 := Lib.hid hRw2
          clear hMw2 hRw2 hP2
          cases ho : readL (t.data.toList.drop (K2 + 1)) with
          | none =>
            rw [ho] at HL cV
            simp only [advL, Nat.add_zero] at cV
            simp only [valV] at cV
            clear ho
            go_wp2_with fail
            refine cV.mono ?_
            rintro e w3 ⟨rfl, hP3, hM3⟩
            have hR3 := HR2.out.moved hM3 (Ne.symm hbn)
            have hMw3 := HM2.out.trans hM3
            have hlt3 : w.heap.size < w3.heap.size := hR3.lt
            obtain ⟨r0, r1, r2, r3, g0, g1, g2, g3⟩ := hR3
            clear hM3 cV
            go_wp2_with fail
            refine bodyPost_ret (v := prmV none) (by simp [results, Tryd.results54, go_sem, prmV, r0, r1, r2, r3, hlt3]) rfl ⟨by rw [HL.out], ?_, K2 + 1, hK2s, ?_, fun p h => by rw [HL.out] at h; cases h⟩
            · repeat (first | with_reducible refine Moved.alloc ?_ _ | (with_reducible refine Moved.setNew ?_ (by omega) _) | with_reducible refine Moved.setCell ?_ _)
              exact hMw3
            · repeat (first | with_reducible refine Par.alloc ?_ _ | with_reducible refine Par.other ?_ (by omega) _)
              exact hP3
          | some g =>
            have hgm := (readL_right _ g ho).2.2.1
            rw [List.length_drop, ← Lib.size_eq] at hgm
            rw [ho] at HL cV
            simp only [advL] at cV
            simp only [valV] at cV
            clear ho
            obtain ⟨gk, gn, gs, gm⟩ := g
            simp only at cV hgm
            have HV : Hid (prmV (some (⟨(t.data.toList.drop K1).take n, gk, gn, gs⟩, j + n + 1 + gm)) = .tuple #[.agg #[.string X, .int .i64 gk, .int .i64 gn, .string (strB gs)], .int .i64 0]) := Lib.hid (by rw [prmV, HX.out])
            generalize strB gs = S at cV HV
            go_wp2_with fail
            refine cV.mono ?_
            rintro e w3 ⟨rfl, hP3, hM3⟩
            have hR3 := HR2.out.moved hM3 (Ne.symm hbn)
            have hMw3 := HM2.out.trans hM3
            have hlt3 : w.heap.size < w3.heap.size := hR3.lt
            obtain ⟨r0, r1, r2, r3, g0, g1, g2, g3⟩ := hR3
            clear hM3 cV
            go_wp2_with fail
            refine bodyPost_ret (v := .tuple #[.agg #[.string X, .int .i64 gk, .int .i64 gn, .string S], .int .i64 0]) (by simp [results, Tryd.results54, go_sem, r0, r1, r2, r3, hlt3]) rfl ⟨by rw [HL.out, HV.out], ?_, K2 + 1 + gm, by omega, ?_, fun p h => by rw [HL.out] at h; obtain rfl := Option.some.inj h; have := HK.out; have := HK2.out; show _ = k + (j + n + 1 + gm); omega⟩
            · repeat (first | with_reducible refine Moved.alloc ?_ _ | (with_reducible refine Moved.setNew ?_ (by omega) _) | with_reducible refine Moved.setCell ?_ _)
              exact hMw3
            · repeat (first | with_reducible refine Par.alloc ?_ _ | with_reducible refine Par.other ?_ (by omega) _)
              exact hP3
        · rw [if_neg h61] at HL
          have HV : Hid (prmV (some (⟨(t.data.toList.drop K1).take n, 6, 1, []⟩, j + n)) = .tuple #[.agg #[.string X, .int .i64 6, .int .i64 1, .string ⟨#[]⟩], .int .i64 0]) := Lib.hid (by rw [prmV, HX.out]; rfl)
          go_wp2_with fail
          refine (take_no b t K2 61 _ ?_ ht hn2 h61).mono ?_
          · exact (HP1.out.drew _).setI K2 _ rfl
          rintro e w2 ⟨rfl, hP2, hM2⟩
          have hMw2 := ((HM.out.drew _).setCell _).trans hM2
          have hRw2 := (HR.out.moved (((Moved.refl b w1).drew _).setCell _) (Ne.symm hbn)).moved hM2 (Ne.symm hbn)
          clear hM2 c1 f1 q1
          have HM2 := Lib.hid hMw2
          have HR2 := Lib.hid hRw2
          clear hMw2 hRw2
          have cU := unspoken_any w2
          go_wp2_with fail
          refine cU.mono ?_
          rintro e w3 ⟨rfl, hb3⟩
          have hM3 : Moved b w2 w3 := Moved.of_below hb3
          have hP3 := hP2.below hb3
          have hR3 := HR2.out.moved hM3 (Ne.symm hbn)
          have hMw3 := HM2.out.trans hM3
          have hlt3 : w.heap.size < w3.heap.size := hR3.lt
          obtain ⟨r0, r1, r2, r3, g0, g1, g2, g3⟩ := hR3
          clear hM3 cU hb3 hP2
          go_wp2_with fail
          refine bodyPost_ret (v := .tuple #[.agg #[.string X, .int .i64 6, .int .i64 1, .string ⟨#[]⟩], .int .i64 0]) (by simp [results, Tryd.results54, go_sem, r0, r1, r2, r3, hlt3]) rfl ⟨by rw [HL.out, HV.out], ?_, K2, hn2, ?_, fun p h => by rw [HL.out] at h; obtain rfl := Option.some.inj h; have := HK.out; have := HK2.out; show _ = k + (j + n); omega⟩
          · repeat (first | with_reducible refine Moved.alloc ?_ _ | (with_reducible refine Moved.setNew ?_ (by omega) _) | with_reducible refine Moved.setCell ?_ _)
            exact hMw3
          · repeat (first | with_reducible refine Par.alloc ?_ _ | with_reducible refine Par.other ?_ (by omega) _)
            exact hP3

end Go.Proofs.YtcjnigmklijjiaaDoor
