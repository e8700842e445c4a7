/- TargetDots walked. -/
import Derived.Test.YtbbdifcmhoobaaaDoorAwk9
import Derived.Test.YtbbdifcmhoobaaaDoorTgS
namespace Go.Proofs.YtbbdifcmhoobaaaDoor
open Go.RowKit Go.Shelf Go.Lib

theorem at_get {S : ByteArray} {l : List UInt8} (hS : S.data.toList = l) (k : Nat) (h : k < S.size) : l[k]? = some (S[k]'h) := by
  have hl : k < S.data.toList.length := by rw [← Lib.size_eq]; exact h
  rw [← hS, List.getElem?_eq_getElem hl]
  rfl
theorem byte_true {c d : UInt8} (h : ((c.toNat : Int) == (d.toNat : Int)) = true) : c = d := by
  rw [byte_beq] at h
  exact beq_iff_eq.1 h

set_option maxRecDepth 100000 in
set_option maxHeartbeats 4000000 in
theorem dots_main (s1 s2 : ByteArray) (r : List UInt8) (w : World) (z1 : s1.size ≤ 300) (z2 : s2.size ≤ 100) (hr : s1.data.toList = 47 :: r) (hE : Errs w) :
    Calls Tryd.prog 4 #[.string s1, .string s2] w fun e w' => e = .returned (.bool true) ∧ Below w.heap.size w w' := by
  have hsz : s1.size = r.length + 1 := by rw [Lib.size_eq, hr, List.length_cons]
  have g1 : ¬ (300 < (s1.size : Int)) := by omega
  have g2 : ¬ (100 < (s2.size : Int)) := by omega
  have h0 : 0 < s1.size := by omega
  have g3 : ((s1.size : Int) == 0) = false := by
    have : ¬ (s1.size : Int) = 0 := by omega
    simpa using this
  have g3b : ¬ (s1.size : Int) = 0 := by omega
  have x0 : s1[0]'h0 = 47 := by
    have := at_get hr 0 h0
    exact (Option.some.inj this).symm
  have g4 : (((s1[0]'h0).toNat : Int) == 47) = true := by rw [x0]; rfl
  have g4b : (((s1[0]'h0).toNat : Int) != 47) = false := by rw [x0]; rfl
  have g4c : ((s1[0]'h0).toNat : Int) = 47 := by rw [x0]; rfl
  have cA := awake9_any w hE
  have cD := fun W => dots_any s1 W (by omega)
  rw [hr] at cD
  unfold dtsPost at cD
  have hdl := dots_len (47 :: r)
  rw [List.length_cons] at hdl
  obtain ⟨q, hq⟩ := dots_head r
  obtain ⟨D, hD⟩ : ∃ D, strB (dotsL (47 :: r)) = D := ⟨_, rfl⟩
  have hDd : D.data.toList = dotsL (47 :: r) := by rw [← hD, strB_data]
  have hDz : D.size ≤ 302 := by rw [Lib.size_eq, hDd]; omega
  have hD0 : 0 < D.size := by rw [Lib.size_eq, hDd, hq, List.length_cons]; omega
  have y0 : D[0]'hD0 = 47 := by
    have := at_get hDd 0 hD0
    rw [hq] at this
    exact (Option.some.inj this).symm
  have k1 : D.toList.isEmpty = false := by rw [Lib.toList_data, hDd, hq]; rfl
  have k1b : ¬ D.toList = [] := by rw [Lib.toList_data, hDd, hq]; simp
  have k2 : (((D[0]'hD0).toNat : Int) == 47) = true := by rw [y0]; rfl
  have k2b : (((D[0]'hD0).toNat : Int) != 47) = false := by rw [y0]; rfl
  have k2c : ((D[0]'hD0).toNat : Int) = 47 := by rw [y0]; rfl
  have cD1 := fun W => dots_any D W (by omega)
  unfold dtsPost at cD1
  rw [hDd, dots_stays r, hD] at cD1
  rw [hD] at cD
  obtain ⟨S, hS⟩ : ∃ S, D ++ (⟨#[47]⟩ : ByteArray) = S := ⟨_, rfl⟩
  have hSd : S.data.toList = dotsL (47 :: r) ++ [47] := by rw [← hS, append_data, hDd]
  have hSz : S.size ≤ 303 := by rw [Lib.size_eq, hSd, List.length_append, ← hDd, ← Lib.size_eq]; simp; omega
  have HSd := Lib.hid hSd
  have cU : (∀ c ∈ s2.data.toList, c ≠ 47) → dotS s2.data.toList = false → ∀ W, Calls Tryd.prog 10 #[.string ((⟨#[47]⟩ : ByteArray) ++ s2 ++ (⟨#[47, 46, 46]⟩ : ByteArray) ++ s1)] W fun e w' => e = .returned (.string D) ∧ Below W.heap.size W w' := by
    intro h1 h2 W
    have hd : ((⟨#[47]⟩ : ByteArray) ++ s2 ++ (⟨#[47, 46, 46]⟩ : ByteArray) ++ s1).data.toList = 47 :: s2.data.toList ++ [47, 46, 46] ++ 47 :: r := by
      rw [append_data, append_data, append_data, hr]
      rfl
    have hz : ((⟨#[47]⟩ : ByteArray) ++ s2 ++ (⟨#[47, 46, 46]⟩ : ByteArray) ++ s1).size ≤ 100000 := by
      rw [Lib.size_eq, hd]
      have := Lib.size_eq s2
      simp only [List.length_append, List.length_cons, List.length_nil]
      omega
    have := dots_any _ W hz
    unfold dtsPost at this
    rw [hd, dots_up s2.data.toList r h1 h2, hD] at this
    exact this
  have cO : ∀ W, Calls Tryd.prog 10 #[.string ((⟨#[47, 46]⟩ : ByteArray) ++ s1)] W fun e w' => e = .returned (.string D) ∧ Below W.heap.size W w' := by
    intro W
    have hd : ((⟨#[47, 46]⟩ : ByteArray) ++ s1).data.toList = 47 :: 46 :: 47 :: r := by
      rw [append_data, hr]
      rfl
    have hz : ((⟨#[47, 46]⟩ : ByteArray) ++ s1).size ≤ 100000 := by
      rw [Lib.size_eq, hd]
      simp only [List.length_cons]
      omega
    have := dots_any _ W hz
    unfold dtsPost at this
    rw [hd, dots_one r, hD] at this
    exact this
  have HCU := Lib.hid cU
  have HS := Lib.hid hS
  clear hS hSd hD hDd hq cU hE hdl hr x0 y0 hsz
  go_enter Tryd.func4, Tryd.ntmps4
  go_wp2_with fail
  refine cA.mono ?_
  rintro e w1 ⟨rfl, hb1⟩
  go_wp2_with fail
  refine (cD _).mono ?_
  rintro e w2 ⟨rfl, hb2⟩
  have hb12 := hb1.trans (hb2.mono hb1.size)
  go_wp2_with fail
  refine (cD1 _).mono ?_
  rintro e w3 ⟨rfl, hb3⟩
  have HB3 := Lib.hid (hb12.trans (hb3.mono hb12.size))
  clear hb1 hb2 hb12 hb3 cA cD cD1
  go_wp2_with fail
  rw [HS.out]
  go_loop [8] (fun i => ∃ k : Nat, k ≤ S.size ∧ i = .int .i64 k) (fun i => S.size - (intOf i).toNat)
  case atStart => exact ⟨0, Nat.zero_le _, rfl⟩
  case round =>
    obtain ⟨k, hk, rfl⟩ := hrel
    by_cases hlt : k + 2 < S.size
    · have a0 : k < S.size := by omega
      have a1 : k + 1 < S.size := by omega
      have a2 : k + 2 < S.size := hlt
      have p0 := at_get HSd.out k a0
      have p1 := at_get HSd.out (k + 1) a1
      have p2 := at_get HSd.out (k + 2) a2
      have c2 : (k : Int) + 2 < (S.size : Int) := by omega
      cases e0 : (((S[k]'a0).toNat : Int) == 47)
      · clear p0 p1 p2
        go_wp2
        go_round
        case rel => exact ⟨k + 1, by omega, by go_num⟩
        case measure => simp [intOf]; omega
      · have b0 : S[k]'a0 = 47 := byte_true (d := 47) e0
        rw [b0] at p0
        cases e1 : (((S[k + 1]'a1).toNat : Int) == 46)
        · clear p0 p1 p2 b0
          go_wp2
          go_round
          case rel => exact ⟨k + 1, by omega, by go_num⟩
          case measure => simp [intOf]; omega
        · have b1 : S[k + 1]'a1 = 46 := byte_true (d := 46) e1
          rw [b1] at p1
          have n1 := no_dot_one r k p0 p1
          cases e2 : (((S[k + 2]'a2).toNat : Int) == 47)
          · cases e3 : (((S[k + 2]'a2).toNat : Int) == 46)
            · clear p0 p1 p2 b0 b1 n1
              go_wp2
              go_round
              case rel => exact ⟨k + 1, by omega, by go_num⟩
              case measure => simp [intOf]; omega
            · have b2 : S[k + 2]'a2 = 46 := byte_true (d := 46) e3
              rw [b2] at p2
              have n2 := no_dot_two r k p0 p1 p2
              by_cases hl3 : k + 3 < S.size
              · have p3 := at_get HSd.out (k + 3) hl3
                have c3 : (k : Int) + 3 < (S.size : Int) := by omega
                have e4 : (((S[k + 3]'hl3).toNat : Int) == 47) = false := by
                  cases h : (((S[k + 3]'hl3).toNat : Int) == 47)
                  · rfl
                  · exfalso
                    rw [byte_true (d := 47) h] at p3
                    exact n2 p3
                clear p0 p1 p2 p3 b0 b1 b2 n1 n2
                go_wp2
                go_round
                case rel => exact ⟨k + 1, by omega, by go_num⟩
                case measure => simp [intOf]; omega
              · have c3 : ¬ (k : Int) + 3 < (S.size : Int) := by omega
                clear p0 p1 p2 b0 b1 b2 n1 n2
                go_wp2
                go_round
                case rel => exact ⟨k + 1, by omega, by go_num⟩
                case measure => simp [intOf]; omega
          · exfalso
            rw [byte_true (d := 47) e2] at p2
            exact n1 p2
    · have c2 : ¬ (k : Int) + 2 < (S.size : Int) := by omega
      clear hlt
      go_wp2_with fail
      go_loop [9] (fun i => ∃ j : Nat, j ≤ s2.size ∧ i = .int .i64 j ∧ Hid (∀ c ∈ s2.data.toList.take j, c ≠ 47)) (fun i => s2.size - (intOf i).toNat)
      case atStart => exact ⟨0, Nat.zero_le _, rfl, Lib.hid (by simp)⟩
      case round =>
        obtain ⟨j, hj, rfl, H⟩ := hrel
        by_cases hjl : j < s2.size
        · cases e0 : (((s2[j]'hjl).toNat : Int) == 47)
          · have Hn : Hid (∀ c ∈ s2.data.toList.take (j + 1), c ≠ 47) := Lib.hid (by
              intro c hc
              rw [take_snoc s2 j hjl] at hc
              rcases List.mem_append.1 hc with hc | hc
              · exact H.out c hc
              · rw [List.mem_singleton] at hc
                subst hc
                intro h
                rw [h] at e0
                exact absurd e0 (by decide))
            go_wp2
            go_round
            case rel => exact ⟨j + 1, by omega, by go_num, Hn⟩
            case measure => simp [intOf]; omega
          · go_wp2
            go_ret
            exact ⟨rfl, HB3.out⟩
        · have c9 : ¬ (j : Int) < (s2.size : Int) := by omega
          have H47 := H.out
          rw [take_all s2 j (by omega)] at H47
          have H47 := Lib.hid H47
          clear H
          cases hd : dotS s2.data.toList
          · have hd2 := hd
            rw [dotS, Bool.or_eq_false_iff, ← Lib.toList_data] at hd2
            obtain ⟨d1, d2⟩ := hd2
            have f1 : ¬ s2.toList = [46] := by simpa using d1
            have f2 : ¬ s2.toList = [46, 46] := by simpa using d2
            have cU := HCU.out H47.out hd
            clear hd H47
            go_wp2_with fail
            refine (cU _).mono ?_
            rintro e w4 ⟨rfl, hb4⟩
            have HB4 := Lib.hid (HB3.out.trans (hb4.mono HB3.out.size))
            clear hb4 cU
            go_wp2_with fail
            refine (cO _).mono ?_
            rintro e w5 ⟨rfl, hb5⟩
            go_wp2_with fail
            go_ret
            exact ⟨rfl, HB4.out.trans (hb5.mono HB4.out.size)⟩
          · have hd2 := hd
            rw [dotS, ← Lib.toList_data] at hd2
            clear hd H47
            cases d1 : (s2.toList == [46])
            · rw [d1, Bool.false_or] at hd2
              have f2 : s2.toList = [46, 46] := by simpa using hd2
              clear hd2 d1
              go_wp2_with fail
              go_ret
              exact ⟨rfl, HB3.out⟩
            · have f1 : s2.toList = [46] := by simpa using d1
              clear hd2 d1
              go_wp2_with fail
              go_ret
              exact ⟨rfl, HB3.out⟩

set_option maxRecDepth 100000 in
set_option maxHeartbeats 4000000 in
theorem dots_walk (s1 s2 : ByteArray) (w : World) (hE : Errs w) :
    Calls Tryd.prog 4 #[.string s1, .string s2] w fun e w' => e = .returned (.bool true) ∧ Below w.heap.size w w' := by
  have cA := awake9_any w hE
  by_cases z1 : s1.size ≤ 300
  · have g1 : ¬ (300 < (s1.size : Int)) := by omega
    by_cases z2 : s2.size ≤ 100
    · have g2 : ¬ (100 < (s2.size : Int)) := by omega
      by_cases h0 : 0 < s1.size
      · cases h47 : (((s1[0]'h0).toNat : Int) == 47)
        · have g3 : ((s1.size : Int) == 0) = false := by
            have : ¬ (s1.size : Int) = 0 := by omega
            simpa using this
          have g3b : ¬ (s1.size : Int) = 0 := by omega
          have g4b : (((s1[0]'h0).toNat : Int) != 47) = true := by rw [bne, h47]; rfl
          have g4c : ¬ ((s1[0]'h0).toNat : Int) = 47 := by simpa using h47
          go_enter Tryd.func4, Tryd.ntmps4
          go_wp2_with fail
          refine cA.mono ?_
          rintro e w1 ⟨rfl, hb1⟩
          go_wp2_with fail
          go_ret
          exact ⟨rfl, hb1⟩
        · have x0 : s1[0]'h0 = 47 := byte_true (d := 47) h47
          have hl : 0 < s1.data.toList.length := by rw [← Lib.size_eq]; exact h0
          have hg := at_get (S := s1) rfl 0 h0
          rw [x0] at hg
          cases hl1 : s1.data.toList with
          | nil => rw [hl1] at hl; simp at hl
          | cons c r =>
            rw [hl1] at hg
            obtain rfl := Option.some.inj hg
            exact dots_main s1 s2 r w z1 z2 hl1 hE
      · have g3 : ((s1.size : Int) == 0) = true := by
          have : (s1.size : Int) = 0 := by omega
          simpa using this
        have g3c : (s1.size : Int) = 0 := by omega
        go_enter Tryd.func4, Tryd.ntmps4
        go_wp2_with fail
        refine cA.mono ?_
        rintro e w1 ⟨rfl, hb1⟩
        go_wp2_with fail
        go_ret
        exact ⟨rfl, hb1⟩
    · have g2 : (100 < (s2.size : Int)) := by omega
      go_enter Tryd.func4, Tryd.ntmps4
      go_wp2_with fail
      refine cA.mono ?_
      rintro e w1 ⟨rfl, hb1⟩
      go_wp2_with fail
      go_ret
      exact ⟨rfl, hb1⟩
  · have g1 : (300 < (s1.size : Int)) := by omega
    go_enter Tryd.func4, Tryd.ntmps4
    go_wp2_with fail
    refine cA.mono ?_
    rintro e w1 ⟨rfl, hb1⟩
    go_wp2_with fail
    go_ret
    exact ⟨rfl, hb1⟩

end Go.Proofs.YtbbdifcmhoobaaaDoor
