/- The contracts of the document's own functions (sculleryref03): first, later. · The contract of the document's SameParams (sculleryref03). · The contracts of the document's ReadKey and Key (sculleryref03). · The contract of the document's Put (sculleryref03): a parameter more, or another value of one. -/
import Derived.Test.YtcjnigmklijjiaaGreatDoorGD
import Derived.Test.YtcjnigmklijjiaaGreatDoorGF
import Derived.Test.YtcjnigmklijjiaaGreatDoorGG

namespace Go.Proofs.YtcjnigmklijjiaaGreatDoor
open Go.RowKit

set_option maxHeartbeats 400000 in
theorem rfirst_any (c : Int) (w : World) :
    Calls Tryz.prog 46 #[.int .u8 c] w fun e w' => e = .returned (.bool (bkI c)) ∧ w = w' := by
  have hd : bkI c = ((decide (97 ≤ c) && decide (c ≤ 122)) || c == 42) := rfl
  cases h1 : decide (97 ≤ c) <;> cases h2 : decide (c ≤ 122) <;> cases h3 : (c == 42)
  all_goals
    first
    | (exfalso; simp only [decide_eq_true_eq, decide_eq_false_iff_not, beq_iff_eq] at h1 h2 h3; omega)
    | (rw [h1, h2, h3] at hd
       simp only [Bool.and_true, Bool.and_false, Bool.or_true, Bool.or_false] at hd
       rw [hd]
       clear hd
       go_enter Tryz.func46, Tryz.ntmps46
       go_wp2
       go_ret
       exact ⟨rfl, rfl⟩)

set_option maxHeartbeats 1000000 in
theorem rlater_any (c : Int) (w : World) :
    Calls Tryz.prog 47 #[.int .u8 c] w fun e w' => e = .returned (.bool (ikI c)) ∧ w = w' := by
  have cB := rfirst_any c w
  have hd : ikI c = (bkI c || (decide (48 ≤ c) && decide (c ≤ 57)) || c == 95 || c == 45 || c == 46) := rfl
  rw [hd]
  clear hd
  generalize bkI c = b at *
  cases b
  · cases h1 : decide (48 ≤ c) <;> cases h2 : decide (c ≤ 57) <;> cases h3 : (c == 95) <;> cases h4 : (c == 45) <;> cases h5 : (c == 46)
    all_goals
      first
      | (exfalso; simp only [decide_eq_true_eq, decide_eq_false_iff_not, beq_iff_eq] at h1 h2 h3 h4 h5; omega)
      | (go_enter Tryz.func47, Tryz.ntmps47
         go_wp2_with (go_at_call 46; refine cB.mono ?_; rintro e w' ⟨rfl, rfl⟩)
         go_ret
         exact ⟨rfl, rfl⟩)
  · go_enter Tryz.func47, Tryz.ntmps47
    go_wp2_with (go_at_call 46; refine cB.mono ?_; rintro e w' ⟨rfl, rfl⟩)
    go_ret
    exact ⟨by simp, rfl⟩

end Go.Proofs.YtcjnigmklijjiaaGreatDoor

namespace Go.Proofs.YtcjnigmklijjiaaGreatDoor
open Go.RowKit

set_option maxRecDepth 100000 in
set_option maxHeartbeats 2000000 in
theorem rsameParams_any (v1 v2 : Value) (ps qs : List Prm) (w : World) (h1 : Prms w v1 ps) (h2 : Prms w v2 qs) (hl1 : ps.length ≤ 100000) (_ : qs.length ≤ 100000) :
    Calls Tryz.prog 19 #[v1, v2] w fun e w' => e = .returned (.bool (samePs ps qs)) ∧ Below w.heap.size w w' := by
  obtain ⟨ao1, cap1, rfl, hc1⟩ := h1
  obtain ⟨ao2, cap2, rfl, hc2⟩ := h2
  have HC1 := Lib.hid hc1
  have HC2 := Lib.hid hc2
  clear hc1 hc2
  by_cases hll : ps.length = qs.length
  · have HL := Lib.hid hll
    rw [← hll]
    clear hll
    go_enter Tryz.func19, Tryz.ntmps19
    go_wp2_with fail
    go_loopw [5] (fun i wr => ∃ j : Nat, i = .int .i64 j ∧ j ≤ ps.length ∧ Hid (∀ m, m < j → ps[m]? = qs[m]?) ∧ Below w.heap.size w wr) (fun i _ => ps.length - (intOf i).toNat)
    case atStart => exact ⟨0, rfl, Nat.zero_le _, Lib.hid (fun m h => absurd h (by omega)), Below.refl _ _⟩
    case round =>
      obtain ⟨j, rfl, hj, H, hb⟩ := hrel
      have HB := Lib.hid hb
      by_cases hlt : j < ps.length
      · rcases HC1.out with hnil | ⟨c, off, rfl, hcell⟩
        · exfalso
          rw [hnil] at hlt
          simp at hlt
        · rcases HC2.out with hnil2 | ⟨d, off2, rfl, hcell2⟩
          · exfalso
            have h0 := HL.out
            rw [hnil2, List.length_nil] at h0
            omega
          · obtain ⟨p, hp⟩ : ∃ p, ps[j]? = some p := ⟨_, List.getElem?_eq_getElem hlt⟩
            obtain ⟨q, hq⟩ : ∃ q, qs[j]? = some q := ⟨_, List.getElem?_eq_getElem (by have := HL.out; omega)⟩
            obtain ⟨x0, x1, x2, x3⟩ := rowP_at ps j p hp
            obtain ⟨y0, y1, y2, y3⟩ := rowP_at qs j q hq
            have hcl : c < w.heap.size := lt_of_cell (hcell _ _ x0)
            have hdl : d < w.heap.size := lt_of_cell (hcell2 _ _ y0)
            have a0 := (hb.cell (p := ⟨c, off + j * 4, none⟩) hcl).trans (hcell _ _ x0)
            have a1 := (hb.cell (p := ⟨c, off + (j * 4 + 1), none⟩) hcl).trans (hcell _ _ x1)
            have a2 := (hb.cell (p := ⟨c, off + (j * 4 + 2), none⟩) hcl).trans (hcell _ _ x2)
            have a3 := (hb.cell (p := ⟨c, off + (j * 4 + 3), none⟩) hcl).trans (hcell _ _ x3)
            have b0 := (hb.cell (p := ⟨d, off2 + j * 4, none⟩) hdl).trans (hcell2 _ _ y0)
            have b1 := (hb.cell (p := ⟨d, off2 + (j * 4 + 1), none⟩) hdl).trans (hcell2 _ _ y1)
            have b2 := (hb.cell (p := ⟨d, off2 + (j * 4 + 2), none⟩) hdl).trans (hcell2 _ _ y2)
            have b3 := (hb.cell (p := ⟨d, off2 + (j * 4 + 3), none⟩) hdl).trans (hcell2 _ _ y3)
            simp only [← Nat.add_assoc] at a1 a2 a3 b1 b2 b3
            have jI : (j : Int) < (ps.length : Int) := by omega
            have j0 : (0 : Int) ≤ (j : Int) := by omega
            clear hcell hcell2 x0 x1 x2 x3 y0 y1 y2 y3 hb
            by_cases hpq : p = q
            · subst hpq
              have Hn : Hid (∀ m, m < j + 1 → ps[m]? = qs[m]?) := Lib.hid (fun m hm => by
                by_cases e : m = j
                · subst e; rw [hp, hq]
                · exact H.out m (by omega))
              clear hp hq H
              generalize strB p.key = K at *
              generalize strB p.s = S at *
              go_wp2_with fail
              go_quiet (fail)
              go_wp2_with fail
              go_roundw
              case rel => exact ⟨j + 1, by go_num, by omega, Lib.hid Hn.out, HB.out.trans ((below_drewN _ _).mono HB.out.size)⟩
              case measure => simp [intOf]; omega
            · have hs : sameP p q = false := by
                cases hs : sameP p q
                · rfl
                · exact absurd ((sameP_iff p q).1 hs) hpq
              have HS : Hid (samePs ps qs = false) := Lib.hid (samePs_at ps qs j p q hp hq hs)
              rw [sameP] at hs
              clear hpq hp hq H
              go_wp2_with fail
              cases g1 : ((strB p.key).toList == (strB q.key).toList)
              · go_quiet (fail)
                go_wp2_with fail
                go_ret
                exact ⟨ret_eq (bool_eq HS.out.symm), HB.out.trans ((below_drewN _ _).mono HB.out.size)⟩
              · cases g2 : (p.k == q.k)
                · go_quiet (fail)
                  go_wp2_with fail
                  go_ret
                  exact ⟨ret_eq (bool_eq HS.out.symm), HB.out.trans ((below_drewN _ _).mono HB.out.size)⟩
                · cases g3 : (p.n == q.n)
                  · go_quiet (fail)
                    go_wp2_with fail
                    go_ret
                    exact ⟨ret_eq (bool_eq HS.out.symm), HB.out.trans ((below_drewN _ _).mono HB.out.size)⟩
                  · have g4 : ((strB p.s).toList == (strB q.s).toList) = false := by
                      rw [g1, g2, g3] at hs; simpa using hs
                    go_quiet (fail)
                    go_wp2_with fail
                    go_ret
                    exact ⟨ret_eq (bool_eq HS.out.symm), HB.out.trans ((below_drewN _ _).mono HB.out.size)⟩
      · obtain rfl : j = ps.length := by omega
        have HS : Hid (samePs ps qs = true) := Lib.hid (samePs_all ps qs HL.out (fun m hm => H.out m hm))
        clear H hb
        go_wp2_with fail
        go_ret
        exact ⟨ret_eq (bool_eq HS.out.symm), HB.out⟩
  · have HS : Hid (samePs ps qs = false) := Lib.hid (samePs_len ps qs hll)
    have n1 : ((ps.length : Int) != (qs.length : Int)) = true := by simp; omega
    clear hll
    go_enter Tryz.func19, Tryz.ntmps19
    go_wp2_with fail
    go_ret
    exact ⟨ret_eq (bool_eq HS.out.symm), Below.refl _ _⟩

end Go.Proofs.YtcjnigmklijjiaaGreatDoor

namespace Go.Proofs.YtcjnigmklijjiaaGreatDoor
open Go.RowKit

theorem rkV_at (s : ByteArray) (k : Nat) (h : klen s.data.toList = k) (hk : 1 ≤ k) : rkV s.data.toList = .tuple #[.string (s.extract 0 k), .int .i64 (k : Int), .int .i64 0] := by
  rw [rkV, if_neg (by omega), h, ← extract_take, strB_of]
theorem rkV_zero (l : List UInt8) (h : klen l = 0) : rkV l = .tuple #[.string ⟨#[]⟩, .int .i64 0, .int .i64 2] := by rw [rkV, if_pos h]

set_option maxHeartbeats 1000000 in
theorem rreadKey_any (s : ByteArray) (w : World) (hs : s.size ≤ maxLen) :
    Calls Tryz.prog 12 #[.string s] w (rkPost (rkV s.data.toList) w) := by
  unfold maxLen at hs
  by_cases h0 : 0 < s.size
  · have hemp : s.toList.isEmpty = false := by rw [Lib.toList_data]; exact isEmpty_false_of s h0
    have cB := rfirst_any ((s[0]'h0).toNat : Int) w
    have Hdr := Lib.hid (drop_cons_at s 0 h0)
    cases hb : bkI ((s[0]'h0).toNat : Int)
    · have Hz : Hid (klen s.data.toList = 0) := Lib.hid (by
        have := Hdr.out
        rw [List.drop_zero] at this
        rw [this, klen, hb]; rfl)
      rw [hb] at cB
      clear hb
      rw [rkV_zero _ Hz.out]
      go_enter Tryz.func12, Tryz.ntmps12
      go_wp2_with (go_at_call 46; refine cB.mono ?_; rintro e w' ⟨rfl, rfl⟩)
      exact bodyPost_ret (v := .tuple #[.string ⟨#[]⟩, .int .i64 0, .int .i64 2]) (by simp [results, Tryz.results12, go_sem]) rfl ⟨rfl, rfl⟩
    · have Hz : Hid (klen s.data.toList = 1 + ((s.data.toList.drop 1).takeWhile (fun c => ikI c.toNat)).length) := Lib.hid (by
        have := Hdr.out
        rw [List.drop_zero] at this
        rw [this, klen, hb]; rfl)
      rw [hb] at cB
      have HV := Lib.hid (fun k => rkV_at s k)
      generalize rkV s.data.toList = V at *
      clear hb Hdr
      go_enter Tryz.func12, Tryz.ntmps12
      go_wp2_with (go_at_call 46; refine cB.mono ?_; rintro e w' ⟨rfl, rfl⟩)
      go_loop [5] (fun i => ∃ k : Nat, 1 ≤ k ∧ k ≤ s.size ∧ i = .int .i64 k ∧ Hid (klen s.data.toList = k + ((s.data.toList.drop k).takeWhile (fun c => ikI c.toNat)).length)) (fun i => s.size - (intOf i).toNat)
      case atStart => exact ⟨1, by omega, by omega, rfl, Hz⟩
      case round =>
        clear Hz cB
        obtain ⟨k, hk1, hk, rfl, H⟩ := hrel
        by_cases hlt : k < s.size
        · have Hdr := Lib.hid (drop_cons_at s k hlt)
          have cT := rlater_any ((s[k]'hlt).toNat : Int) w
          cases hd : ikI (s[k].toNat : Int)
          · have Hf := Lib.hid hd
            rw [hd] at cT
            clear hd
            go_wp2_with (go_at_call 47; refine cT.mono ?_; rintro e w' ⟨rfl, rfl⟩)
            refine bodyPost_ret (v := .tuple #[.string (s.extract 0 k), .int .i64 (k : Int), .int .i64 0]) (by simp [results, Tryz.results12, go_sem]) rfl ⟨?_, rfl⟩
            rw [HV.out k (by rw [H.out, Hdr.out, List.takeWhile_cons, Hf.out]; simp) hk1]
          · have Hf := Lib.hid hd
            rw [hd] at cT
            clear hd
            go_wp2_with (go_at_call 47; refine cT.mono ?_; rintro e w' ⟨rfl, rfl⟩)
            go_round
            case rel => exact ⟨k + 1, by omega, by omega, by go_num, Lib.hid (by rw [H.out, Hdr.out, List.takeWhile_cons, Hf.out]; simp; omega)⟩
            case measure => simp [intOf]; omega
        · obtain rfl : k = s.size := by omega
          have Hd : Hid (s.data.toList.drop s.size = []) := Lib.hid (List.drop_of_length_le (by rw [← Lib.size_eq]; omega))
          go_wp2
          refine bodyPost_ret (v := .tuple #[.string (s.extract 0 s.size), .int .i64 (s.size : Int), .int .i64 0]) (by simp [results, Tryz.results12, go_sem]) rfl ⟨?_, rfl⟩
          rw [HV.out _ (by rw [H.out, Hd.out]; simp) hk1]
  · have he : s.data.toList = [] := List.eq_nil_of_length_eq_zero (by rw [← Lib.size_eq]; omega)
    have hemp : s.toList.isEmpty = true := by rw [Lib.toList_data, he]; rfl
    rw [rkV_zero _ (by rw [he]; rfl)]
    clear he
    go_enter Tryz.func12, Tryz.ntmps12
    go_wp2
    exact bodyPost_ret (v := .tuple #[.string ⟨#[]⟩, .int .i64 0, .int .i64 2]) (by simp [results, Tryz.results12, go_sem]) rfl ⟨rfl, rfl⟩

set_option maxHeartbeats 1000000 in
theorem rkey_any (s : ByteArray) (w : World) (hs : s.size ≤ maxLen) :
    Calls Tryz.prog 22 #[.string s] w fun e w' => e = .returned (.bool (keyL s.data.toList)) ∧ w = w' := by
  have cK := fun W => rreadKey_any s W hs
  unfold maxLen at hs
  have hn := klen_le s.data.toList
  rw [← Lib.size_eq] at hn
  by_cases h0 : klen s.data.toList = 0
  · have Hk : Hid (keyL s.data.toList = false) := Lib.hid (by
      rw [keyL, h0]
      cases hl : s.data.toList with
      | nil => rfl
      | cons c r => rfl)
    rw [rkV_zero _ h0] at cK
    clear h0 hn
    go_enter Tryz.func22, Tryz.ntmps22
    go_wp2_with (go_at_call 12; refine (cK _).mono ?_; rintro e w' ⟨rfl, rfl⟩)
    go_ret
    exact ⟨ret_eq (bool_eq (by rw [Hk.out])), rfl⟩
  · have Hk : Hid (keyL s.data.toList = ((klen s.data.toList : Int) == (s.size : Int))) := Lib.hid (by
      have hne : s.data.toList.isEmpty = false := by
        cases hl : s.data.toList with
        | nil => rw [hl] at h0; exact absurd rfl h0
        | cons c r => rfl
      rw [keyL, hne, Lib.size_eq, Bool.eq_iff_iff]
      simp
      omega)
    rw [rkV_at s _ rfl (by omega)] at cK
    generalize keyL s.data.toList = K at *
    generalize klen s.data.toList = n at *
    go_enter Tryz.func22, Tryz.ntmps22
    go_wp2_with (go_at_call 12; refine (cK _).mono ?_; rintro e w' ⟨rfl, rfl⟩)
    go_ret
    exact ⟨ret_eq (bool_eq (by rw [Hk.out])), rfl⟩

end Go.Proofs.YtcjnigmklijjiaaGreatDoor

namespace Go.Proofs.YtcjnigmklijjiaaGreatDoor
open Go.RowKit Go.Maps

abbrev rparamObj (p : Prm) : Obj := .cells #[.string (strB p.key), .int .i64 p.k, .int .i64 p.n, .string (strB p.s)] 98

def rputPost (acc : List Prm) (p : Prm) (base : Nat) (w : World) (e : Ending) (w' : World) : Prop :=
  Below base w w' ∧ ∃ v, e = .returned v ∧ w'.ownsRow base 98 4 v (putL acc p).length (rowP (putL acc p))

theorem box4 {w W : World} {a b c d : Value} {T : TypeId} (hb : Below (w.heap.size + 1) (w.alloc (.cells #[a, b, c, d] T)) W) :
    W.cell? ⟨w.heap.size, 0, none⟩ = some a ∧ W.cell? ⟨w.heap.size, 1, none⟩ = some b ∧ W.cell? ⟨w.heap.size, 2, none⟩ = some c ∧ W.cell? ⟨w.heap.size, 3, none⟩ = some d := by
  refine ⟨?_, ?_, ?_, ?_⟩
  · rw [hb.cell (p := ⟨w.heap.size, 0, none⟩) (by simp)]; simp
  · rw [hb.cell (p := ⟨w.heap.size, 1, none⟩) (by simp)]; simp
  · rw [hb.cell (p := ⟨w.heap.size, 2, none⟩) (by simp)]; simp
  · rw [hb.cell (p := ⟨w.heap.size, 3, none⟩) (by simp)]; simp
theorem box_next {w W W1 : World} {o : Obj} (c : Below (w.heap.size + 1) (w.alloc o) W) (hb : Below W.heap.size W W1) : Below (w.heap.size + 1) (w.alloc o) W1 :=
  c.trans (hb.mono (by simpa using c.size))
theorem box_later {w W : World} {o : Obj} (c : Below (w.heap.size + 1) (w.alloc o) W) : Below w.heap.size w W :=
  ((Below.refl w.heap.size w).alloc (Nat.le_refl _) o).trans (c.mono (Nat.le_succ _))

/-- The cells of one row of an owned slice of parameters. -/
theorem owns_at {w : World} {base : Nat} {e : TypeId} {ao : Option Addr} {m cap : Nat} {ps : List Prm} (h : w.ownsRow base e 4 (.slice ao m cap) ps.length (rowP ps)) (j : Nat) (p : Prm) (hp : ps[j]? = some p) :
    ∃ g, ao = some ⟨g, 0, none⟩ ∧ base ≤ g ∧ g < w.heap.size ∧ (w.cell? ⟨g, j * 4, none⟩ = some (.string (strB p.key)) ∧ w.cell? ⟨g, j * 4 + 1, none⟩ = some (.int .i64 p.k) ∧ w.cell? ⟨g, j * 4 + 2, none⟩ = some (.int .i64 p.n) ∧ w.cell? ⟨g, j * 4 + 3, none⟩ = some (.string (strB p.s))) ∧
      w.frozen? ⟨g, j * 4 + 1, none⟩ = false ∧ w.frozen? ⟨g, j * 4 + 2, none⟩ = false ∧ w.frozen? ⟨g, j * 4 + 3, none⟩ = false := by
  have hj : j < ps.length := (List.getElem?_eq_some_iff.1 hp).1
  obtain ⟨g, cap1, hv, hg, hg2, _⟩ := owns_slice h (by omega)
  obtain ⟨rfl, _, rfl⟩ := Value.slice.inj hv
  obtain ⟨ao2, cap2, hv2, hc⟩ := Prms.of_own h
  obtain ⟨rfl, rfl, rfl⟩ := Value.slice.inj hv2
  rcases hc with hnil | ⟨c, off, hao, hcell⟩
  · rw [hnil] at hp; cases hp
  · obtain ⟨rfl, rfl, _⟩ := Addr.mk.inj (Option.some.inj hao)
    obtain ⟨x0, x1, x2, x3⟩ := rowP_at ps j p hp
    have c0 := hcell _ _ x0
    have c1 := hcell _ _ x1
    have c2 := hcell _ _ x2
    have c3 := hcell _ _ x3
    simp only [Nat.zero_add] at c0 c1 c2 c3
    obtain ⟨_, _, f1⟩ := owns_cell h (j * 4 + 1) (by omega)
    obtain ⟨_, _, f2⟩ := owns_cell h (j * 4 + 2) (by omega)
    obtain ⟨_, _, f3⟩ := owns_cell h (j * 4 + 3) (by omega)
    exact ⟨g, rfl, hg, hg2, ⟨c0, c1, c2, c3⟩, f1, f2, f3⟩

theorem idx_first (acc : List Prm) (p r : Prm) (j : Nat) (hr : acc[j]? = some r) (hk : r.key = p.key) (hb : ∀ (m : Nat) (q : Prm), m < j → acc[m]? = some q → q.key ≠ p.key) : idxL (acc.map Prm.key) p.key = j := by
  have hj : j < acc.length := (List.getElem?_eq_some_iff.1 hr).1
  have hjm : j < (acc.map Prm.key).length := by rw [List.length_map]; exact hj
  unfold idxL
  rw [List.findIdx_eq hjm]
  constructor
  · have : (acc.map Prm.key)[j]? = some r.key := by rw [List.getElem?_map, hr]; rfl
    rw [List.getElem?_eq_getElem hjm, Option.some.injEq] at this
    rw [this, hk]; simp
  · intro m hm
    have hml : m < acc.length := by omega
    have := hb m _ hm (List.getElem?_eq_getElem hml)
    simpa using this

theorem idx_none (acc : List Prm) (p : Prm) (hb : ∀ (m : Nat) (q : Prm), m < acc.length → acc[m]? = some q → q.key ≠ p.key) : ¬ idxL (acc.map Prm.key) p.key < acc.length := by
  intro h
  have hm : p.key ∈ acc.map Prm.key := (idxL_lt _ _).1 (by rw [List.length_map]; exact h)
  obtain ⟨q, hq, hk⟩ := List.mem_map.1 hm
  obtain ⟨m, hm⟩ := List.getElem?_of_mem hq
  exact hb m q (List.getElem?_eq_some_iff.1 hm).1 hm hk

theorem set_same {α : Type} (l : List α) (i : Nat) (a : α) (h : l[i]? = some a) : l.set i a = l := by
  obtain ⟨hi, rfl⟩ := List.getElem?_eq_some_iff.1 h
  exact List.set_getElem_self hi

set_option maxRecDepth 100000 in
set_option maxHeartbeats 2000000 in
theorem rput_any (v : Value) (acc : List Prm) (p : Prm) (base : Nat) (w : World) (h : w.ownsRow base 98 4 v acc.length (rowP acc)) (hb : base ≤ w.heap.size) (hl : acc.length ≤ 100000) :
    Calls Tryz.prog 54 #[v, .agg #[.string (strB p.key), .int .i64 p.k, .int .i64 p.n, .string (strB p.s)]] w (rputPost acc p base w) := by
  obtain ⟨i0, hi, hz0, hz1, hz2⟩ := info_parts info_rparam
  obtain ⟨ao, cap, rfl⟩ := owns_form h
  have HO := Lib.hid (ownsRow_later h ((Below.refl w.heap.size w).alloc (Nat.le_refl _) (rparamObj p)))
  have HB := Lib.hid hb
  clear h hb
  go_enter Tryz.func54, Tryz.ntmps54
  go_wp2_with fail
  obtain ⟨W0, hW0⟩ : ∃ W0, w.alloc (rparamObj p) = W0 := ⟨_, rfl⟩
  have c0 : Below (w.heap.size + 1) (w.alloc (rparamObj p)) W0 := by rw [← hW0]; exact Below.refl _ _
  rw [hW0] at HO
  rw [show w.alloc (.cells #[.string (strB p.key), .int .i64 p.k, .int .i64 p.n, .string (strB p.s)] 98) = W0 from hW0]
  clear hW0
  go_loopw [5] (fun i wr => ∃ j : Nat, i = .int .i64 j ∧ j ≤ acc.length ∧ Hid (∀ (m : Nat) (q : Prm), m < j → acc[m]? = some q → q.key ≠ p.key) ∧ Below W0.heap.size W0 wr) (fun i _ => acc.length - (intOf i).toNat)
  case atStart => exact ⟨0, rfl, Nat.zero_le _, Lib.hid (fun m q hm => absurd hm (Nat.not_lt_zero _)), Below.refl _ _⟩
  case round =>
    obtain ⟨j, rfl, hj, H, hb⟩ := hrel
    obtain ⟨p0, p1, p2, p3⟩ := box4 (box_next c0 hb)
    have HB2 := Lib.hid hb
    have HOw := Lib.hid (ownsRow_later HO.out hb)
    have HBw : Hid (Below base w wr) := Lib.hid ((box_later (box_next c0 hb)).mono HB.out)
    have hbs : base ≤ wr.heap.size := Nat.le_trans HB.out HBw.out.size
    clear hb
    by_cases hlt : j < acc.length
    · obtain ⟨r, hr⟩ : ∃ r, acc[j]? = some r := ⟨_, List.getElem?_eq_getElem hlt⟩
      obtain ⟨g, rfl, hg, hg2, ⟨a0, a1, a2, a3⟩, f1, f2, f3⟩ := owns_at HOw.out j r hr
      have jI : (j : Int) < (acc.length : Int) := by omega
      have j0 : (0 : Int) ≤ (j : Int) := by omega
      have HR := Lib.hid hr
      by_cases hkk : r.key = p.key
      · have HI := Lib.hid (idx_first acc p r j hr hkk H.out)
        rw [hkk] at a0
        have hx0 := Lib.hid (rowP_at acc j r hr).1
        rw [hkk] at hx0
        clear hr
        go_wp2_with fail
        go_quiet (fail)
        go_wp2_with fail
        refine bodyPost_ret (v := .slice (some ⟨g, 0, none⟩) acc.length cap) (by simp [results, Tryz.results54, go_sem]) rfl ⟨?_, _, rfl, ?_⟩
        · exact (((HBw.out.trans ((below_drewN _ _).mono hbs)).setCell hg _).setCell hg _).setCell hg _
        · have s0 := (ownsRow_later HOw.out (below_drewN wr nq)).stored (j * 4 + 1) (.int .i64 p.k)
          have s1 := s0.1.stored (j * 4 + 1 + 1) (.int .i64 p.n)
          have s2 := s1.1.stored (j * 4 + 1 + 2) (.string (strB p.s))
          rw [putL, HI.out, if_pos hlt, List.length_set, rowP_set acc j p hlt, set_same (rowP acc) (j * 4) (.string (strB p.key)) hx0.out]
          exact s2.1
      · have hT : ((strB r.key).toList == (strB p.key).toList) = false := by
          rw [beq_eq_false_iff_ne]
          intro h
          exact hkk (by simpa only [Lib.toList_data, strB_data] using h)
        have HN : Hid (∀ (m : Nat) (q : Prm), m < j + 1 → acc[m]? = some q → q.key ≠ p.key) := Lib.hid (fun m q hm hq => by
          by_cases e : m = j
          · subst e
            rw [HR.out] at hq
            obtain rfl := Option.some.inj hq
            exact hkk
          · exact H.out m q (by omega) hq)
        clear hr hkk
        generalize strB r.key = RK at *
        go_wp2_with fail
        go_quiet (fail)
        go_wp2_with fail
        go_roundw
        case rel => exact ⟨j + 1, by go_num, by omega, HN, HB2.out.trans ((below_drewN _ _).mono HB2.out.size)⟩
        case measure => simp [intOf]; omega
    · obtain rfl : j = acc.length := by omega
      have HI := Lib.hid (idx_none acc p H.out)
      go_wp2_with (at_builtin; refine wpList_append_own _ rfl _ _ 30 rfl base 98 i0 (.agg #[.string ⟨#[]⟩, .int .i64 0, .int .i64 0, .string ⟨#[]⟩]) 4 48 Tryz.underlying30 hi hz0 hz1 hz2 rfl (by decide) _ _ _ rfl (HOw.out.alloc _) ⟨_, 0, none⟩ 1 1 (cellsP p) rfl rfl (cells_new _ _ _) (by simp [Value.oneCell', cellsP]) (by unfold maxLen; omega) (by omega) (by simp; omega) ?_; intro v' w5 hown5 hgrow5 _)
      refine bodyPost_ret (v := v') (by simp [results, Tryz.results54, go_sem]) rfl ⟨?_, _, rfl, ?_⟩
      · have h1 := HBw.out.alloc hbs (.cells #[.string (strB p.key), .int .i64 p.k, .int .i64 p.n, .string (strB p.s)] 98)
        exact ⟨hgrow5.os.trans h1.os, hgrow5.tape.trans h1.tape, hgrow5.output.trans h1.output, Nat.le_trans h1.size hgrow5.size, fun i hi => (hgrow5.block i (Nat.lt_of_lt_of_le hi (by simp; omega)) (own_ne HOw.out hi)).trans (h1.block i hi)⟩
      · rw [putL, if_neg HI.out, List.length_append, rowP_snoc]
        exact hown5

end Go.Proofs.YtcjnigmklijjiaaGreatDoor
