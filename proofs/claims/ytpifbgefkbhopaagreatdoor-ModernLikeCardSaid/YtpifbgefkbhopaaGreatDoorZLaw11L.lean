/- The walk of the law ModernLike. -/
import Derived.Test.YtpifbgefkbhopaaGreatDoorZMMoB
import Derived.Test.YtpifbgefkbhopaaGreatDoorZLikP
import Derived.Test.YtpifbgefkbhopaaGreatDoorZMBasP
import Derived.Deep.RegionHeld3
import Derived.Deep.DeepCutAuto

namespace Go.Proofs.YtpifbgefkbhopaaGreatDoor
open Go.RowKit Go.Lib

theorem dig_ext : ∀ d : Fin 10, (⟨#[48, 49, 50, 51, 52, 53, 54, 55, 56, 57]⟩ : ByteArray).extract d.val (d.val + 1) = ⟨#[digU d]⟩
  | ⟨0, _⟩ => rfl | ⟨1, _⟩ => rfl | ⟨2, _⟩ => rfl | ⟨3, _⟩ => rfl | ⟨4, _⟩ => rfl | ⟨5, _⟩ => rfl | ⟨6, _⟩ => rfl | ⟨7, _⟩ => rfl | ⟨8, _⟩ => rfl | ⟨9, _⟩ => rfl
  | ⟨n + 10, h⟩ => by omega
theorem is_name (N n : List UInt8) : ((strB N).toList == n) = decide (n = N) := by
  have := name_eq N n
  rwa [Lib.toList_data (strB n), strB_data] at this
theorem tlK_len : ∀ r : List (List UInt8), (∀ q ∈ r, q.length ≤ 18) → (tlK r).length ≤ 20 * r.length
  | [], _ => Nat.le_refl _
  | q :: r, h => by
    have h1 := h q (List.mem_cons_self ..)
    have h2 := tlK_len r (fun x hx => h x (List.mem_cons_of_mem _ hx))
    rw [tlK, List.length_cons, List.length_cons, List.length_append, List.length_cons]
    omega
theorem jnK_len (r : List (List UInt8)) (h : ∀ q ∈ r, q.length ≤ 18) : (jnK r).length ≤ 20 * r.length := by
  cases r with
  | nil => exact Nat.le_refl _
  | cons q r =>
    have h1 := h q (List.mem_cons_self ..)
    have h2 := tlK_len r (fun x hx => h x (List.mem_cons_of_mem _ hx))
    rw [jnK, List.length_append, List.length_cons]
    omega
set_option maxRecDepth 100000 in
theorem txt_len {p : Pc} (h : PcOk p) : (txtP p).length ≤ 18 := by
  obtain ⟨n, o⟩ := p
  rcases h with ⟨ho, hn⟩ | ⟨ho, hn⟩
  · dsimp only at ho hn
    subst ho
    have hall : (sgnN.all fun n => decide ((txtP (n, none)).length ≤ 18)) = true := by rfl
    exact of_decide_eq_true (List.all_eq_true.1 hall n hn)
  · cases o with
    | none => cases ho
    | some d =>
      have hall : (nmsN.all fun n => decide (n.length ≤ 16)) = true := by rfl
      have := of_decide_eq_true (List.all_eq_true.1 hall n hn)
      show (n ++ [61, digU d]).length ≤ 18
      rw [List.length_append]
      simp
      omega

set_option maxRecDepth 100000 in
set_option maxHeartbeats 16000000 in
theorem mlike_walk (v v2 : Value) (ns : List (List UInt8)) (xs : List Int) (w : World) (h : StrsF w v ns) (h2 : IntsF w v2 xs) (hn : ns.length ≤ maxLen) (hA : Alph w) (hT : Tabs w) :
    Calls Tryz.prog 5 #[v, v2] w fun e w' => e = .returned (.bool true) ∧ Below w.heap.size w w' := by
  have cA := awake11_any w hA hT
  have HT := Lib.hid hT
  have HA := Lib.hid hA
  obtain ⟨ao, cap, rfl, hc⟩ := h
  obtain ⟨bo, bcap, rfl, hc2⟩ := h2
  have HC := Lib.hid hc
  have HC2 := Lib.hid hc2
  clear hA hT hc hc2
  unfold maxLen at hn
  by_cases hbig : 12 < ns.length
  · have d1 : (12 : Int) < (ns.length : Int) := by omega
    go_enter Tryz.func5, Tryz.ntmps5
    go_wp2_with fail
    refine cA.mono ?_
    rintro e w1 ⟨rfl, hb1⟩
    clear cA
    go_wp2_with fail
    go_ret
    exact ⟨rfl, hb1⟩
  · have d1 : ¬ (12 : Int) < (ns.length : Int) := by omega
    by_cases hsh : xs.length < ns.length
    · have d2 : (xs.length : Int) < (ns.length : Int) := by omega
      go_enter Tryz.func5, Tryz.ntmps5
      go_wp2_with fail
      refine cA.mono ?_
      rintro e w1 ⟨rfl, hb1⟩
      clear cA
      go_wp2_with fail
      go_ret
      exact ⟨rfl, hb1⟩
    · have d2 : ¬ (xs.length : Int) < (ns.length : Int) := by omega
      go_enter Tryz.func5, Tryz.ntmps5
      go_wp2_with fail
      refine cA.mono ?_
      rintro e w1 ⟨rfl, hb1⟩
      have HB1 := Lib.hid hb1
      clear cA hb1
      go_wp2_with fail
      go_loopw [6, 7] (fun s i wr => ∃ (j : Nat) (ps : List Pc), s = .string (strB (jnK (ps.map txtP))) ∧ i = .int .i64 j ∧ j ≤ ns.length ∧ ps.length = j ∧ Hid (ns.take j = ps.map (·.1)) ∧ Hid (∀ p ∈ ps, PcOk p) ∧ Hid ((ps.map (·.1)).Nodup) ∧ Hid (Below w.heap.size w wr)) (fun _ i _ => ns.length - (intOf i).toNat)
      case atStart => exact ⟨0, [], rfl, rfl, Nat.zero_le _, rfl, Lib.hid rfl, Lib.hid (fun p hp => by cases hp), Lib.hid List.nodup_nil, HB1⟩
      case round =>
        obtain ⟨j, ps, rfl, rfl, hj, hps, HT1, HOK, HND, HB⟩ := hrel
        have hsl := jnK_len (ps.map txtP) (fun q hq => by
          obtain ⟨p, hp, rfl⟩ := List.mem_map.1 hq
          exact txt_len (HOK.out p hp))
        rw [List.length_map, hps] at hsl
        by_cases hlt : j < ns.length
        · have jI : (j : Int) < (ns.length : Int) := by omega
          have jI2 : (j : Int) < (xs.length : Int) := by omega
          have j0 : (0 : Int) ≤ (j : Int) := by omega
          obtain ⟨NN, hp⟩ : ∃ NN, ns[j]? = some NN := ⟨_, List.getElem?_eq_getElem hlt⟩
          obtain ⟨X, hx⟩ : ∃ X, xs[j]? = some X := ⟨_, List.getElem?_eq_getElem (by omega)⟩
          rcases HC.out with hnil | ⟨c, off, rfl, hcl, hcell⟩
          · exfalso
            rw [hnil] at hlt
            simp at hlt
          rcases HC2.out with hnil | ⟨c2, off2, rfl, hcl2, hcell2⟩
          · exfalso
            rw [hnil] at jI2
            simp at jI2
            omega
          obtain ⟨SN, hSN⟩ : ∃ SN, strB NN = SN := ⟨_, rfl⟩
          have a0 := (HB.out.cell (p := ⟨c, off + j, none⟩) hcl).trans (hcell j NN hp)
          have b0 := (HB.out.cell (p := ⟨c2, off2 + j, none⟩) hcl2).trans (hcell2 j X hx)
          rw [hSN] at a0
          have q0 := is_name NN [109, 97, 120, 45, 97, 103, 101]
          have q1 := is_name NN [115, 45, 109, 97, 120, 97, 103, 101]
          have q2 := is_name NN [109, 105, 110, 45, 102, 114, 101, 115, 104]
          have q3 := is_name NN [115, 116, 97, 108, 101, 45, 105, 102, 45, 101, 114, 114, 111, 114]
          have q4 := is_name NN [110, 111, 45, 115, 116, 111, 114, 101]
          have q5 := is_name NN [110, 111, 45, 99, 97, 99, 104, 101]
          have q6 := is_name NN [112, 114, 105, 118, 97, 116, 101]
          have q7 := is_name NN [112, 117, 98, 108, 105, 99]
          have q8 := is_name NN [109, 117, 115, 116, 45, 114, 101, 118, 97, 108, 105, 100, 97, 116, 101]
          have q9 := is_name NN [112, 114, 111, 120, 121, 45, 114, 101, 118, 97, 108, 105, 100, 97, 116, 101]
          have q10 := is_name NN [105, 109, 109, 117, 116, 97, 98, 108, 101]
          have q11 := is_name NN [111, 110, 108, 121, 45, 105, 102, 45, 99, 97, 99, 104, 101, 100]
          have q12 := is_name NN [109, 97, 120, 45, 115, 116, 97, 108, 101]
          rw [hSN] at q0 q1 q2 q3 q4 q5 q6 q7 q8 q9 q10 q11 q12
          have HSN := Lib.hid hSN
          have HP := Lib.hid hp
          have HX := Lib.hid hx
          clear hSN hp hx hcell2 hcl2
          obtain ⟨B1, hB1⟩ : ∃ B, B = decide (NN ∈ nmsN) := ⟨_, rfl⟩
          obtain ⟨B2, hB2⟩ : ∃ B, B = decide (NN ∈ sgnN) := ⟨_, rfl⟩
          have HB1' := Lib.hid hB1
          have HB2' := Lib.hid hB2
          have HC' := Lib.hid hcell
          clear hB1 hB2 hcell
          obtain ⟨S, hSS⟩ : ∃ S, strB (jnK (ps.map txtP)) = S := ⟨_, rfl⟩
          rw [hSS]
          have hSz : S.size ≤ 300 := by rw [← hSS, strB_size]; omega
          have HSS := Lib.hid hSS
          clear hSS
          go_upto_region 9 with fail
          go_cut [9] (fun x wx => x = .bool B1 ∧ wx = wr)
          case first =>
            by_cases e0 : ([109, 97, 120, 45, 97, 103, 101] : List UInt8) = NN
            · rw [decide_eq_true e0] at q0
              obtain rfl : B1 = true := by rw [HB1'.out]; exact decide_eq_true (by rw [← e0]; decide)
              clear e0
              go_wp2_with fail
              go_meet
              exact ⟨rfl, rfl⟩
            rw [decide_eq_false e0] at q0
            by_cases e1 : ([115, 45, 109, 97, 120, 97, 103, 101] : List UInt8) = NN
            · rw [decide_eq_true e1] at q1
              obtain rfl : B1 = true := by rw [HB1'.out]; exact decide_eq_true (by rw [← e1]; decide)
              clear e1
              go_wp2_with fail
              go_meet
              exact ⟨rfl, rfl⟩
            rw [decide_eq_false e1] at q1
            by_cases e2 : ([109, 105, 110, 45, 102, 114, 101, 115, 104] : List UInt8) = NN
            · rw [decide_eq_true e2] at q2
              obtain rfl : B1 = true := by rw [HB1'.out]; exact decide_eq_true (by rw [← e2]; decide)
              clear e2
              go_wp2_with fail
              go_meet
              exact ⟨rfl, rfl⟩
            rw [decide_eq_false e2] at q2
            by_cases e3 : ([115, 116, 97, 108, 101, 45, 105, 102, 45, 101, 114, 114, 111, 114] : List UInt8) = NN
            · rw [decide_eq_true e3] at q3
              obtain rfl : B1 = true := by rw [HB1'.out]; exact decide_eq_true (by rw [← e3]; decide)
              clear e3
              go_wp2_with fail
              go_meet
              exact ⟨rfl, rfl⟩
            rw [decide_eq_false e3] at q3
            obtain rfl : B1 = false := by
              rw [HB1'.out]
              refine decide_eq_false (fun h => ?_)
              simp only [nmsN, List.mem_cons, List.not_mem_nil, or_false] at h
              rcases h with h | h | h | h
              · exact e0 h.symm
              · exact e1 h.symm
              · exact e2 h.symm
              · exact e3 h.symm
            clear e0 e1 e2 e3
            go_wp2_with fail
            go_meet
            exact ⟨rfl, rfl⟩
          case rest =>
            obtain ⟨rfl, rfl⟩ := hcut
            clear q0 q1 q2 q3
            go_upto_region 10 with fail
            go_cut [10] (fun x wx => x = .bool B2 ∧ wx = wc)
            case first =>
              by_cases e0 : ([110, 111, 45, 115, 116, 111, 114, 101] : List UInt8) = NN
              · rw [decide_eq_true e0] at q4
                obtain rfl : B2 = true := by rw [HB2'.out]; exact decide_eq_true (by rw [← e0]; decide)
                clear e0
                go_wp2_with fail
                go_meet
                exact ⟨rfl, rfl⟩
              rw [decide_eq_false e0] at q4
              by_cases e1 : ([110, 111, 45, 99, 97, 99, 104, 101] : List UInt8) = NN
              · rw [decide_eq_true e1] at q5
                obtain rfl : B2 = true := by rw [HB2'.out]; exact decide_eq_true (by rw [← e1]; decide)
                clear e1
                go_wp2_with fail
                go_meet
                exact ⟨rfl, rfl⟩
              rw [decide_eq_false e1] at q5
              by_cases e2 : ([112, 114, 105, 118, 97, 116, 101] : List UInt8) = NN
              · rw [decide_eq_true e2] at q6
                obtain rfl : B2 = true := by rw [HB2'.out]; exact decide_eq_true (by rw [← e2]; decide)
                clear e2
                go_wp2_with fail
                go_meet
                exact ⟨rfl, rfl⟩
              rw [decide_eq_false e2] at q6
              by_cases e3 : ([112, 117, 98, 108, 105, 99] : List UInt8) = NN
              · rw [decide_eq_true e3] at q7
                obtain rfl : B2 = true := by rw [HB2'.out]; exact decide_eq_true (by rw [← e3]; decide)
                clear e3
                go_wp2_with fail
                go_meet
                exact ⟨rfl, rfl⟩
              rw [decide_eq_false e3] at q7
              by_cases e4 : ([109, 117, 115, 116, 45, 114, 101, 118, 97, 108, 105, 100, 97, 116, 101] : List UInt8) = NN
              · rw [decide_eq_true e4] at q8
                obtain rfl : B2 = true := by rw [HB2'.out]; exact decide_eq_true (by rw [← e4]; decide)
                clear e4
                go_wp2_with fail
                go_meet
                exact ⟨rfl, rfl⟩
              rw [decide_eq_false e4] at q8
              by_cases e5 : ([112, 114, 111, 120, 121, 45, 114, 101, 118, 97, 108, 105, 100, 97, 116, 101] : List UInt8) = NN
              · rw [decide_eq_true e5] at q9
                obtain rfl : B2 = true := by rw [HB2'.out]; exact decide_eq_true (by rw [← e5]; decide)
                clear e5
                go_wp2_with fail
                go_meet
                exact ⟨rfl, rfl⟩
              rw [decide_eq_false e5] at q9
              by_cases e6 : ([105, 109, 109, 117, 116, 97, 98, 108, 101] : List UInt8) = NN
              · rw [decide_eq_true e6] at q10
                obtain rfl : B2 = true := by rw [HB2'.out]; exact decide_eq_true (by rw [← e6]; decide)
                clear e6
                go_wp2_with fail
                go_meet
                exact ⟨rfl, rfl⟩
              rw [decide_eq_false e6] at q10
              by_cases e7 : ([111, 110, 108, 121, 45, 105, 102, 45, 99, 97, 99, 104, 101, 100] : List UInt8) = NN
              · rw [decide_eq_true e7] at q11
                obtain rfl : B2 = true := by rw [HB2'.out]; exact decide_eq_true (by rw [← e7]; decide)
                clear e7
                go_wp2_with fail
                go_meet
                exact ⟨rfl, rfl⟩
              rw [decide_eq_false e7] at q11
              by_cases e8 : ([109, 97, 120, 45, 115, 116, 97, 108, 101] : List UInt8) = NN
              · rw [decide_eq_true e8] at q12
                obtain rfl : B2 = true := by rw [HB2'.out]; exact decide_eq_true (by rw [← e8]; decide)
                clear e8
                go_wp2_with fail
                go_meet
                exact ⟨rfl, rfl⟩
              rw [decide_eq_false e8] at q12
              obtain rfl : B2 = false := by
                rw [HB2'.out]
                refine decide_eq_false (fun h => ?_)
                simp only [sgnN, List.mem_cons, List.not_mem_nil, or_false] at h
                rcases h with h | h | h | h | h | h | h | h | h
                · exact e0 h.symm
                · exact e1 h.symm
                · exact e2 h.symm
                · exact e3 h.symm
                · exact e4 h.symm
                · exact e5 h.symm
                · exact e6 h.symm
                · exact e7 h.symm
                · exact e8 h.symm
              clear e0 e1 e2 e3 e4 e5 e6 e7 e8
              go_wp2_with fail
              go_meet
              exact ⟨rfl, rfl⟩
            case rest =>
              obtain ⟨rfl, rfl⟩ := hcut
              clear q4 q5 q6 q7 q8 q9 q10 q11 q12
              cases B1
              · cases B2
                · go_wp2_with fail
                  go_ret
                  exact ⟨rfl, HB.out⟩
                · have hmem : NN ∈ sgnN := of_decide_eq_true HB2'.out.symm
                  have hz1 : SN.size ≤ 20 := by
                    have hall : (sgnN.all fun n => decide (n.length ≤ 16)) = true := by rfl
                    have := of_decide_eq_true (List.all_eq_true.1 hall NN hmem)
                    rw [← HSN.out, strB_size]
                    omega
                  by_cases hx0 : X < 0
                  · go_wp2_with fail
                    go_ret
                    exact ⟨rfl, HB.out⟩
                  by_cases hx9 : 9 < X
                  · go_wp2_with fail
                    go_ret
                    exact ⟨rfl, HB.out⟩
                  obtain ⟨d, rfl⟩ : ∃ d : Fin 10, X = (d.val : Int) := ⟨⟨X.toNat, by omega⟩, by simp; omega⟩
                  have hpk : PcOk (NN, none) := .inl ⟨rfl, hmem⟩
                  have HE : Hid (strB (jnK ((ps ++ ([(NN, none)] : List Pc)).map txtP)) = if j = 0 then S ++ SN else S ++ ⟨#[44, 32]⟩ ++ SN) := Lib.hid (by
                    rw [List.map_append, List.map_cons, List.map_nil, jnK_snoc, ← HSN.out, ← HSS.out]
                    by_cases hj0 : j = 0
                    · have hps0 : ps = [] := List.eq_nil_of_length_eq_zero (by omega)
                      rw [if_pos hj0, if_pos (by rw [hps0]; rfl), hps0, show strB (jnK (List.map txtP [])) = strB [] from rfl]
                      rw [strB_append]
                      simp [txtP]
                    · rw [if_neg hj0, if_neg (by rw [List.map_eq_nil_iff]; intro e; rw [e] at hps; exact hj0 hps.symm)]
                      rw [show (⟨#[44, 32]⟩ : ByteArray) = strB [44, 32] from rfl, strB_append, strB_append]
                      simp [txtP])
                  go_wp2_with fail
                  rename World => W1
                  go_loopw [11] (fun i wv => ∃ k : Nat, i = .int .i64 k ∧ k ≤ j ∧ Hid (∀ b, b < k → ∀ M, ns[b]? = some M → M ≠ NN) ∧ wv = W1) (fun i _ => j - (intOf i).toNat)
                  case atStart => exact ⟨0, rfl, Nat.zero_le _, Lib.hid (fun b hb => absurd hb (Nat.not_lt_zero _)), rfl⟩
                  case round =>
                    obtain ⟨k, rfl, hkj, HN, rfl⟩ := hrel
                    by_cases hkl : k < j
                    · have kI : (k : Int) < (j : Int) := by omega
                      have kI2 : (k : Int) < (ns.length : Int) := by omega
                      have k0 : (0 : Int) ≤ (k : Int) := by omega
                      obtain ⟨MM, hm⟩ : ∃ MM, ns[k]? = some MM := ⟨_, List.getElem?_eq_getElem (by omega)⟩
                      have p0 := (HB.out.cell (p := ⟨c, off + k, none⟩) hcl).trans (HC'.out k MM hm)
                      have hqe := name_eq MM NN
                      rw [HSN.out] at hqe
                      by_cases he : MM = NN
                      · rw [decide_eq_true he.symm] at hqe
                        clear hm he
                        generalize strB MM = SM at *
                        go_wp2_with fail
                        go_ret
                        exact ⟨rfl, HB.out⟩
                      · rw [decide_eq_false (fun e => he e.symm)] at hqe
                        have HN2 : Hid (∀ b, b < k + 1 → ∀ M, ns[b]? = some M → M ≠ NN) := Lib.hid (fun b hb M heq => by
                          by_cases hbk : b = k
                          · subst hbk
                            rw [hm] at heq
                            rw [← Option.some.inj heq]
                            exact he
                          · exact HN.out b (by omega) M heq)
                        clear hm he
                        generalize strB MM = SM at *
                        go_wp2_with fail
                        go_roundw
                        case rel => exact ⟨k + 1, by go_num, by omega, HN2, trivial⟩
                        case measure => simp [intOf]; omega
                    · obtain rfl : k = j := by omega
                      have kI : ¬ (k : Int) < (k : Int) := by omega
                      have HT2 : Hid (ns.take (k + 1) = (ps ++ ([(NN, none)] : List Pc)).map (·.1)) := Lib.hid (by rw [List.take_add_one, HP.out, HT1.out, List.map_append]; rfl)
                      have HOK2 : Hid (∀ p ∈ ps ++ ([(NN, none)] : List Pc), PcOk p) := Lib.hid (fun p hp => (List.mem_append.1 hp).elim (HOK.out p) (fun h => by rw [List.mem_singleton.1 h]; exact hpk))
                      have HND2 : Hid (((ps ++ ([(NN, none)] : List Pc)).map (·.1)).Nodup) := Lib.hid (by
                        rw [List.map_append, List.nodup_append]
                        refine ⟨HND.out, by simp, fun a ha b hb e => ?_⟩
                        simp only [List.map_cons, List.map_nil, List.mem_singleton] at hb
                        rw [← HT1.out] at ha
                        obtain ⟨i, hi⟩ := List.getElem?_of_mem ha
                        rw [List.getElem?_take] at hi
                        split at hi
                        · rename_i hik
                          exact HN.out i hik a hi (e.trans hb)
                        · cases hi)
                      clear hpk HN
                      by_cases hj0 : k = 0
                      · rw [if_pos hj0] at HE
                        have g0 : ¬ (0 : Int) < (k : Int) := by omega
                        go_wp2_with fail
                        go_roundw
                        case rel => first | exact ⟨k + 1, ps ++ ([(NN, none)] : List Pc), by rw [HE.out], by go_num, by omega, by rw [List.length_append, List.length_singleton, hps], HT2, HOK2, HND2, HB⟩ | ((repeat apply Exists.intro); exact ⟨⟨k + 1, ps ++ ([(NN, none)] : List Pc), by rw [HE.out], by go_num, by omega, by rw [List.length_append, List.length_singleton, hps], HT2, HOK2, HND2, HB⟩, rfl⟩)
                        case measure => simp [intOf]; omega
                      · rw [if_neg hj0] at HE
                        have g0 : (0 : Int) < (k : Int) := by omega
                        go_wp2_with fail
                        go_roundw
                        case rel => first | exact ⟨k + 1, ps ++ ([(NN, none)] : List Pc), by rw [HE.out], by go_num, by omega, by rw [List.length_append, List.length_singleton, hps], HT2, HOK2, HND2, HB⟩ | ((repeat apply Exists.intro); exact ⟨⟨k + 1, ps ++ ([(NN, none)] : List Pc), by rw [HE.out], by go_num, by omega, by rw [List.length_append, List.length_singleton, hps], HT2, HOK2, HND2, HB⟩, rfl⟩)
                        case measure => simp [intOf]; omega
              · have hmem : NN ∈ nmsN := of_decide_eq_true HB1'.out.symm
                have hz1 : SN.size ≤ 20 := by
                  have hall : (nmsN.all fun n => decide (n.length ≤ 16)) = true := by rfl
                  have := of_decide_eq_true (List.all_eq_true.1 hall NN hmem)
                  rw [← HSN.out, strB_size]
                  omega
                by_cases hx0 : X < 0
                · go_wp2_with fail
                  go_ret
                  exact ⟨rfl, HB.out⟩
                by_cases hx9 : 9 < X
                · go_wp2_with fail
                  go_ret
                  exact ⟨rfl, HB.out⟩
                obtain ⟨d, rfl⟩ : ∃ d : Fin 10, X = (d.val : Int) := ⟨⟨X.toNat, by omega⟩, by simp; omega⟩
                have hpk : PcOk (NN, (some d)) := .inr ⟨rfl, hmem⟩
                have HE : Hid (strB (jnK ((ps ++ ([(NN, (some d))] : List Pc)).map txtP)) = if j = 0 then S ++ SN ++ ⟨#[61]⟩ ++ ⟨#[digU d]⟩ else S ++ ⟨#[44, 32]⟩ ++ SN ++ ⟨#[61]⟩ ++ ⟨#[digU d]⟩) := Lib.hid (by
                  rw [List.map_append, List.map_cons, List.map_nil, jnK_snoc, ← HSN.out, ← HSS.out]
                  by_cases hj0 : j = 0
                  · have hps0 : ps = [] := List.eq_nil_of_length_eq_zero (by omega)
                    rw [if_pos hj0, if_pos (by rw [hps0]; rfl), hps0, show strB (jnK (List.map txtP [])) = strB [] from rfl]
                    rw [show (⟨#[61]⟩ : ByteArray) = strB [61] from rfl, show (⟨#[digU d]⟩ : ByteArray) = strB [digU d] from rfl, strB_append, strB_append, strB_append]
                    simp [txtP]
                  · rw [if_neg hj0, if_neg (by rw [List.map_eq_nil_iff]; intro e; rw [e] at hps; exact hj0 hps.symm)]
                    rw [show (⟨#[61]⟩ : ByteArray) = strB [61] from rfl, show (⟨#[digU d]⟩ : ByteArray) = strB [digU d] from rfl, show (⟨#[44, 32]⟩ : ByteArray) = strB [44, 32] from rfl, strB_append, strB_append, strB_append, strB_append]
                    simp [txtP])
                go_wp2_with fail
                rename World => W1
                go_loopw [11] (fun i wv => ∃ k : Nat, i = .int .i64 k ∧ k ≤ j ∧ Hid (∀ b, b < k → ∀ M, ns[b]? = some M → M ≠ NN) ∧ wv = W1) (fun i _ => j - (intOf i).toNat)
                case atStart => exact ⟨0, rfl, Nat.zero_le _, Lib.hid (fun b hb => absurd hb (Nat.not_lt_zero _)), rfl⟩
                case round =>
                  obtain ⟨k, rfl, hkj, HN, rfl⟩ := hrel
                  by_cases hkl : k < j
                  · have kI : (k : Int) < (j : Int) := by omega
                    have kI2 : (k : Int) < (ns.length : Int) := by omega
                    have k0 : (0 : Int) ≤ (k : Int) := by omega
                    obtain ⟨MM, hm⟩ : ∃ MM, ns[k]? = some MM := ⟨_, List.getElem?_eq_getElem (by omega)⟩
                    have p0 := (HB.out.cell (p := ⟨c, off + k, none⟩) hcl).trans (HC'.out k MM hm)
                    have hqe := name_eq MM NN
                    rw [HSN.out] at hqe
                    by_cases he : MM = NN
                    · rw [decide_eq_true he.symm] at hqe
                      clear hm he
                      generalize strB MM = SM at *
                      go_wp2_with fail
                      go_ret
                      exact ⟨rfl, HB.out⟩
                    · rw [decide_eq_false (fun e => he e.symm)] at hqe
                      have HN2 : Hid (∀ b, b < k + 1 → ∀ M, ns[b]? = some M → M ≠ NN) := Lib.hid (fun b hb M heq => by
                        by_cases hbk : b = k
                        · subst hbk
                          rw [hm] at heq
                          rw [← Option.some.inj heq]
                          exact he
                        · exact HN.out b (by omega) M heq)
                      clear hm he
                      generalize strB MM = SM at *
                      go_wp2_with fail
                      go_roundw
                      case rel => exact ⟨k + 1, by go_num, by omega, HN2, trivial⟩
                      case measure => simp [intOf]; omega
                  · obtain rfl : k = j := by omega
                    have kI : ¬ (k : Int) < (k : Int) := by omega
                    have HT2 : Hid (ns.take (k + 1) = (ps ++ ([(NN, (some d))] : List Pc)).map (·.1)) := Lib.hid (by rw [List.take_add_one, HP.out, HT1.out, List.map_append]; rfl)
                    have HOK2 : Hid (∀ p ∈ ps ++ ([(NN, (some d))] : List Pc), PcOk p) := Lib.hid (fun p hp => (List.mem_append.1 hp).elim (HOK.out p) (fun h => by rw [List.mem_singleton.1 h]; exact hpk))
                    have HND2 : Hid (((ps ++ ([(NN, (some d))] : List Pc)).map (·.1)).Nodup) := Lib.hid (by
                      rw [List.map_append, List.nodup_append]
                      refine ⟨HND.out, by simp, fun a ha b hb e => ?_⟩
                      simp only [List.map_cons, List.map_nil, List.mem_singleton] at hb
                      rw [← HT1.out] at ha
                      obtain ⟨i, hi⟩ := List.getElem?_of_mem ha
                      rw [List.getElem?_take] at hi
                      split at hi
                      · rename_i hik
                        exact HN.out i hik a hi (e.trans hb)
                      · cases hi)
                    clear hpk HN
                    by_cases hj0 : k = 0
                    · rw [if_pos hj0] at HE
                      have g0 : ¬ (0 : Int) < (k : Int) := by omega
                      go_wp2_with fail
                      have hz9 : (S ++ SN).size ≤ 400 := by simp only [ByteArray.size_append]; omega
                      generalize S ++ SN = S9 at *
                      have W1 : IntKind.i64.wrap ((d.val : Int) + 1) = (d.val : Int) + 1 := IntWalk.i64_in _ (by omega)
                      have T1 : ((d.val : Int) + 1).toNat = d.val + 1 := by omega
                      have L0 : (0 : Int) ≤ (d.val : Int) := by omega
                      have L1 : (0 : Int) ≤ (d.val : Int) + 1 := by omega
                      have L2 : (d.val : Int) + 1 ≤ 10 := by omega
                      have L3 : (d.val : Int) ≤ 10 := by omega
                      have L4 : (d.val : Int) ≤ (d.val : Int) + 1 := by omega
                      have L5 : ¬ 9223372036854775807 < S9.size + 1 := by omega
                      have jI3 : (k : Int) < (xs.length : Int) := by omega
                      have b00 : wr.cell? ⟨c2, off2, none⟩ = some (.int .i64 (d.val : Int)) := by
                        have := b0
                        rw [hj0, Nat.add_zero] at this
                        exact this
                      have jx : 0 < xs.length := by omega
                      go_region
                      all_goals go_wp2_with fail
                      all_goals go_roundw
                      case rel => first | exact ⟨k + 1, ps ++ ([(NN, (some d))] : List Pc), by rw [HE.out, dig_ext], by go_num, by omega, by rw [List.length_append, List.length_singleton, hps], HT2, HOK2, HND2, Lib.hid HB.out.drew⟩ | ((repeat apply Exists.intro); exact ⟨⟨k + 1, ps ++ ([(NN, (some d))] : List Pc), by rw [HE.out, dig_ext], by go_num, by omega, by rw [List.length_append, List.length_singleton, hps], HT2, HOK2, HND2, Lib.hid HB.out.drew⟩, rfl⟩)
                      case measure => simp [intOf]; omega
                    · rw [if_neg hj0] at HE
                      have g0 : (0 : Int) < (k : Int) := by omega
                      go_wp2_with fail
                      have hz9 : (S ++ ⟨#[44, 32]⟩ ++ SN).size ≤ 400 := by simp only [ByteArray.size_append]; have e2 : (⟨#[44, 32]⟩ : ByteArray).size = 2 := rfl; omega
                      generalize S ++ ⟨#[44, 32]⟩ ++ SN = S9 at *
                      have W1 : IntKind.i64.wrap ((d.val : Int) + 1) = (d.val : Int) + 1 := IntWalk.i64_in _ (by omega)
                      have T1 : ((d.val : Int) + 1).toNat = d.val + 1 := by omega
                      have L0 : (0 : Int) ≤ (d.val : Int) := by omega
                      have L1 : (0 : Int) ≤ (d.val : Int) + 1 := by omega
                      have L2 : (d.val : Int) + 1 ≤ 10 := by omega
                      have L3 : (d.val : Int) ≤ 10 := by omega
                      have L4 : (d.val : Int) ≤ (d.val : Int) + 1 := by omega
                      have L5 : ¬ 9223372036854775807 < S9.size + 1 := by omega
                      have jI3 : (k : Int) < (xs.length : Int) := by omega
                      go_region
                      all_goals go_wp2_with fail
                      all_goals go_roundw
                      case rel => first | exact ⟨k + 1, ps ++ ([(NN, (some d))] : List Pc), by rw [HE.out, dig_ext], by go_num, by omega, by rw [List.length_append, List.length_singleton, hps], HT2, HOK2, HND2, Lib.hid HB.out.drew⟩ | ((repeat apply Exists.intro); exact ⟨⟨k + 1, ps ++ ([(NN, (some d))] : List Pc), by rw [HE.out, dig_ext], by go_num, by omega, by rw [List.length_append, List.length_singleton, hps], HT2, HOK2, HND2, Lib.hid HB.out.drew⟩, rfl⟩)
                      case measure => simp [intOf]; omega
        · obtain rfl : j = ns.length := by omega
          have jI : ¬ (ns.length : Int) < (ns.length : Int) := by omega
          obtain ⟨hq, hr⟩ := lik_all HOK.out HND.out
          have hTz : (jnK (ps.map txtP)).length ≤ 240 := by omega
          have hTn : (jnK (ps.map txtP)).isEmpty = decide (ps = []) := by
            cases ps with
            | nil => rfl
            | cons p r =>
              rw [decide_eq_false (by simp), List.map_cons, jnK, List.isEmpty_eq_false_iff]
              have := (plB_facts (pc_facts (HOK.out p (List.mem_cons_self ..))).1).1
              simp [this]
          have cM := fun W h => mparse_any (strB (jnK (ps.map txtP))) W (by rw [strB_size]; omega) h
          have cL := fun W h => lparse_any (strB (jnK (ps.map txtP))) W (by rw [strB_size]; omega) h
          simp only [strB_data] at cM cL
          have cO := fun u W (h : Dirs 0 W u (dirsL (jnK (ps.map txtP)))) => of_any 0 u (dirsL (jnK (ps.map txtP))) W h (dirsL_ok _ (by omega))
          unfold modA_ModA at cM
          rw [hq, hr] at cM
          obtain ⟨b0, b1, b2, b3, b4, b5, b6, b7, k0, k1, k2, k3, k4, hR⟩ := rulV_form (dirsL (jnK (ps.map txtP)))
          rw [hR] at cM cO
          have hTe : (strB (jnK (ps.map txtP))).toList.isEmpty = decide (ps = []) := by rw [Lib.toList_data, strB_data]; exact hTn
          generalize dirsL (jnK (ps.map txtP)) = DL at *
          generalize strB (jnK (ps.map txtP)) = S at *
          clear hq hr hR hTn hTz hsl HND HOK HT1 HC HC2
          by_cases hps0 : ps = []
          · rw [decide_eq_true hps0] at hTe
            rw [decide_eq_false (fun e => e hps0)] at cM
            clear hps0
            go_wp2_with fail
            refine (cM _ (HA.out.below HB.out)).mono ?_
            rintro e w2 ⟨rfl, hb⟩
            have HB := Lib.hid (HB.out.trans (hb.mono HB.out.size))
            have H1 := Lib.hid (BoxN.made w2 [.bool b0, .bool b1, .bool b2, .bool b3, .bool b4, .bool b5, .bool b6, .bool b7, .int .i64 k0, .int .i64 k1, .int .i64 k2, .int .i64 k3, .int .i64 k4] 26)
            have HB := Lib.hid (HB.out.alloc HB.out.size (.cells #[.bool b0, .bool b1, .bool b2, .bool b3, .bool b4, .bool b5, .bool b6, .bool b7, .int .i64 k0, .int .i64 k1, .int .i64 k2, .int .i64 k3, .int .i64 k4] 26))
            clear hb cM
            go_wp2_with fail
            generalize w2.alloc (.cells #[.bool b0, .bool b1, .bool b2, .bool b3, .bool b4, .bool b5, .bool b6, .bool b7, .int .i64 k0, .int .i64 k1, .int .i64 k2, .int .i64 k3, .int .i64 k4] 26) = U1 at *
            generalize w2.heap.size = C1 at *
            have H1d := Lib.hid (H1.out.next ((Below.refl U1.heap.size U1).drew))
            have HBd := Lib.hid HB.out.drew
            go_region_held3 (fun w' => w'.cell? ⟨C1, 0, none⟩ = some (.bool b0) ∧ w'.cell? ⟨C1, 1, none⟩ = some (.bool b1) ∧ w'.cell? ⟨C1, 2, none⟩ = some (.bool b2) ∧ w'.cell? ⟨C1, 3, none⟩ = some (.bool b3) ∧ w'.cell? ⟨C1, 4, none⟩ = some (.bool b4) ∧ w'.cell? ⟨C1, 5, none⟩ = some (.bool b5) ∧ w'.cell? ⟨C1, 6, none⟩ = some (.bool b6) ∧ w'.cell? ⟨C1, 7, none⟩ = some (.bool b7) ∧ w'.cell? ⟨C1, 8, none⟩ = some (.int .i64 k0) ∧ w'.cell? ⟨C1, 9, none⟩ = some (.int .i64 k1) ∧ w'.cell? ⟨C1, 10, none⟩ = some (.int .i64 k2) ∧ w'.cell? ⟨C1, 11, none⟩ = some (.int .i64 k3) ∧ w'.cell? ⟨C1, 12, none⟩ = some (.int .i64 k4))
              (first | exact ⟨(H14.out.2 0 _ rfl).1, (H14.out.2 1 _ rfl).1, (H14.out.2 2 _ rfl).1, (H14.out.2 3 _ rfl).1, (H14.out.2 4 _ rfl).1, (H14.out.2 5 _ rfl).1, (H14.out.2 6 _ rfl).1, (H14.out.2 7 _ rfl).1, (H14.out.2 8 _ rfl).1, (H14.out.2 9 _ rfl).1, (H14.out.2 10 _ rfl).1, (H14.out.2 11 _ rfl).1, (H14.out.2 12 _ rfl).1⟩ | exact ⟨(H13.out.2 0 _ rfl).1, (H13.out.2 1 _ rfl).1, (H13.out.2 2 _ rfl).1, (H13.out.2 3 _ rfl).1, (H13.out.2 4 _ rfl).1, (H13.out.2 5 _ rfl).1, (H13.out.2 6 _ rfl).1, (H13.out.2 7 _ rfl).1, (H13.out.2 8 _ rfl).1, (H13.out.2 9 _ rfl).1, (H13.out.2 10 _ rfl).1, (H13.out.2 11 _ rfl).1, (H13.out.2 12 _ rfl).1⟩ | exact ⟨(H1d.out.2 0 _ rfl).1, (H1d.out.2 1 _ rfl).1, (H1d.out.2 2 _ rfl).1, (H1d.out.2 3 _ rfl).1, (H1d.out.2 4 _ rfl).1, (H1d.out.2 5 _ rfl).1, (H1d.out.2 6 _ rfl).1, (H1d.out.2 7 _ rfl).1, (H1d.out.2 8 _ rfl).1, (H1d.out.2 9 _ rfl).1, (H1d.out.2 10 _ rfl).1, (H1d.out.2 11 _ rfl).1, (H1d.out.2 12 _ rfl).1⟩ | exact ⟨(H1.out.2 0 _ rfl).1, (H1.out.2 1 _ rfl).1, (H1.out.2 2 _ rfl).1, (H1.out.2 3 _ rfl).1, (H1.out.2 4 _ rfl).1, (H1.out.2 5 _ rfl).1, (H1.out.2 6 _ rfl).1, (H1.out.2 7 _ rfl).1, (H1.out.2 8 _ rfl).1, (H1.out.2 9 _ rfl).1, (H1.out.2 10 _ rfl).1, (H1.out.2 11 _ rfl).1, (H1.out.2 12 _ rfl).1⟩)
              (first | (go_at_call 16; refine (cL _ (Utf8Tabs_below HT.out HBd.out)).mono ?_; rintro e w3 ⟨⟨u, rfl, hD⟩, hb⟩; have HB3 := Lib.hid (HBd.out.trans (hb.mono HBd.out.size)); have H13 := Lib.hid (H1d.out.next hb); have cO3 := cO _ _ (hD.low (Nat.zero_le _)); obtain ⟨uo, uc, rfl, _⟩ := hD; clear hb) | (go_at_call 15; refine cO3.mono ?_; rintro e w4 ⟨rfl, hb4⟩; have HB4 := Lib.hid (HB3.out.trans (hb4.mono HB3.out.size)); have H14 := Lib.hid (H13.out.next hb4); clear hb4 cO3))
            clear H1 H1d H13 H14 HB HBd HB3 cL cO
            go_wp2_with fail
            go_ret
            exact ⟨rfl, HB4.out⟩
          · rw [decide_eq_false hps0] at hTe
            rw [decide_eq_true hps0] at cM
            clear hps0
            go_wp2_with fail
            refine (cM _ (HA.out.below HB.out)).mono ?_
            rintro e w2 ⟨rfl, hb⟩
            have HB := Lib.hid (HB.out.trans (hb.mono HB.out.size))
            have H1 := Lib.hid (BoxN.made w2 [.bool b0, .bool b1, .bool b2, .bool b3, .bool b4, .bool b5, .bool b6, .bool b7, .int .i64 k0, .int .i64 k1, .int .i64 k2, .int .i64 k3, .int .i64 k4] 26)
            have HB := Lib.hid (HB.out.alloc HB.out.size (.cells #[.bool b0, .bool b1, .bool b2, .bool b3, .bool b4, .bool b5, .bool b6, .bool b7, .int .i64 k0, .int .i64 k1, .int .i64 k2, .int .i64 k3, .int .i64 k4] 26))
            clear hb cM
            go_wp2_with fail
            generalize w2.alloc (.cells #[.bool b0, .bool b1, .bool b2, .bool b3, .bool b4, .bool b5, .bool b6, .bool b7, .int .i64 k0, .int .i64 k1, .int .i64 k2, .int .i64 k3, .int .i64 k4] 26) = U1 at *
            generalize w2.heap.size = C1 at *
            have H1d := Lib.hid (H1.out.next ((Below.refl U1.heap.size U1).drew))
            have HBd := Lib.hid HB.out.drew
            go_region_held3 (fun w' => w'.cell? ⟨C1, 0, none⟩ = some (.bool b0) ∧ w'.cell? ⟨C1, 1, none⟩ = some (.bool b1) ∧ w'.cell? ⟨C1, 2, none⟩ = some (.bool b2) ∧ w'.cell? ⟨C1, 3, none⟩ = some (.bool b3) ∧ w'.cell? ⟨C1, 4, none⟩ = some (.bool b4) ∧ w'.cell? ⟨C1, 5, none⟩ = some (.bool b5) ∧ w'.cell? ⟨C1, 6, none⟩ = some (.bool b6) ∧ w'.cell? ⟨C1, 7, none⟩ = some (.bool b7) ∧ w'.cell? ⟨C1, 8, none⟩ = some (.int .i64 k0) ∧ w'.cell? ⟨C1, 9, none⟩ = some (.int .i64 k1) ∧ w'.cell? ⟨C1, 10, none⟩ = some (.int .i64 k2) ∧ w'.cell? ⟨C1, 11, none⟩ = some (.int .i64 k3) ∧ w'.cell? ⟨C1, 12, none⟩ = some (.int .i64 k4))
              (first | exact ⟨(H14.out.2 0 _ rfl).1, (H14.out.2 1 _ rfl).1, (H14.out.2 2 _ rfl).1, (H14.out.2 3 _ rfl).1, (H14.out.2 4 _ rfl).1, (H14.out.2 5 _ rfl).1, (H14.out.2 6 _ rfl).1, (H14.out.2 7 _ rfl).1, (H14.out.2 8 _ rfl).1, (H14.out.2 9 _ rfl).1, (H14.out.2 10 _ rfl).1, (H14.out.2 11 _ rfl).1, (H14.out.2 12 _ rfl).1⟩ | exact ⟨(H13.out.2 0 _ rfl).1, (H13.out.2 1 _ rfl).1, (H13.out.2 2 _ rfl).1, (H13.out.2 3 _ rfl).1, (H13.out.2 4 _ rfl).1, (H13.out.2 5 _ rfl).1, (H13.out.2 6 _ rfl).1, (H13.out.2 7 _ rfl).1, (H13.out.2 8 _ rfl).1, (H13.out.2 9 _ rfl).1, (H13.out.2 10 _ rfl).1, (H13.out.2 11 _ rfl).1, (H13.out.2 12 _ rfl).1⟩ | exact ⟨(H1d.out.2 0 _ rfl).1, (H1d.out.2 1 _ rfl).1, (H1d.out.2 2 _ rfl).1, (H1d.out.2 3 _ rfl).1, (H1d.out.2 4 _ rfl).1, (H1d.out.2 5 _ rfl).1, (H1d.out.2 6 _ rfl).1, (H1d.out.2 7 _ rfl).1, (H1d.out.2 8 _ rfl).1, (H1d.out.2 9 _ rfl).1, (H1d.out.2 10 _ rfl).1, (H1d.out.2 11 _ rfl).1, (H1d.out.2 12 _ rfl).1⟩ | exact ⟨(H1.out.2 0 _ rfl).1, (H1.out.2 1 _ rfl).1, (H1.out.2 2 _ rfl).1, (H1.out.2 3 _ rfl).1, (H1.out.2 4 _ rfl).1, (H1.out.2 5 _ rfl).1, (H1.out.2 6 _ rfl).1, (H1.out.2 7 _ rfl).1, (H1.out.2 8 _ rfl).1, (H1.out.2 9 _ rfl).1, (H1.out.2 10 _ rfl).1, (H1.out.2 11 _ rfl).1, (H1.out.2 12 _ rfl).1⟩)
              (first | (go_at_call 16; refine (cL _ (Utf8Tabs_below HT.out HBd.out)).mono ?_; rintro e w3 ⟨⟨u, rfl, hD⟩, hb⟩; have HB3 := Lib.hid (HBd.out.trans (hb.mono HBd.out.size)); have H13 := Lib.hid (H1d.out.next hb); have cO3 := cO _ _ (hD.low (Nat.zero_le _)); obtain ⟨uo, uc, rfl, _⟩ := hD; clear hb) | (go_at_call 15; refine cO3.mono ?_; rintro e w4 ⟨rfl, hb4⟩; have HB4 := Lib.hid (HB3.out.trans (hb4.mono HB3.out.size)); have H14 := Lib.hid (H13.out.next hb4); clear hb4 cO3))
            clear H1 H1d H13 H14 HB HBd HB3 cL cO
            go_wp2_with fail
            go_ret
            exact ⟨rfl, HB4.out⟩

end Go.Proofs.YtpifbgefkbhopaaGreatDoor
