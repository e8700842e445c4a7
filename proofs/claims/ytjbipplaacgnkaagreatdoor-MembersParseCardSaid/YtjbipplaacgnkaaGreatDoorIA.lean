/- The contract of the document's own Decode (sculleryref02). · The contract of the document's own readNumber (sculleryref02). -/
import Derived.Test.YtjbipplaacgnkaaGreatDoorGP

namespace Go.Proofs.YtjbipplaacgnkaaGreatDoor
open Go.RowKit

/-- What the document's own Decode gathers: the last bits, how many of them wait, the bytes. -/
def dgo : List UInt8 → Nat → Nat → List UInt8 → Option (List UInt8)
  | [], _, _, acc => some acc
  | c :: r, v, m, acc =>
    if c = 61 then some acc
    else if placeI c < 0 then none
    else if m + 6 < 8 then dgo r (v % 4096 * 64 + (placeI c).toNat) (m + 6) acc
    else dgo r (v % 4096 * 64 + (placeI c).toNat) (m - 2) (acc ++ [UInt8.ofNat ((v % 4096 * 64 + (placeI c).toNat) / 2 ^ (m - 2))])

theorem placeI_lt (c : UInt8) : placeI c < 64 := by
  have := all_bytes (fun c => decide (placeI c < 64)) (by decide +kernel) c
  simpa using this
theorem placeI_alp (i : Nat) (h : i < 64) : placeI (alp i) = (i : Int) := by
  have : ∀ i : Fin 64, placeI (alp i.val) = (i.val : Int) := by decide +kernel
  exact this ⟨i, h⟩

theorem dgo_0 (i : Nat) (h : i < 64) (r : List UInt8) (v : Nat) (acc : List UInt8) : dgo (alp i :: r) v 0 acc = dgo r (v % 4096 * 64 + i) 6 acc := by
  rw [dgo, if_neg (alp_61 i).1, placeI_alp i h, if_neg (by omega), if_pos (by omega), Int.toNat_natCast]
theorem dgo_6 (i : Nat) (h : i < 64) (r : List UInt8) (v : Nat) (acc : List UInt8) : dgo (alp i :: r) v 6 acc = dgo r (v % 4096 * 64 + i) 4 (acc ++ [UInt8.ofNat ((v % 4096 * 64 + i) / 16)]) := by
  rw [dgo, if_neg (alp_61 i).1, placeI_alp i h, if_neg (by omega), if_neg (by omega), Int.toNat_natCast]
theorem dgo_4 (i : Nat) (h : i < 64) (r : List UInt8) (v : Nat) (acc : List UInt8) : dgo (alp i :: r) v 4 acc = dgo r (v % 4096 * 64 + i) 2 (acc ++ [UInt8.ofNat ((v % 4096 * 64 + i) / 4)]) := by
  rw [dgo, if_neg (alp_61 i).1, placeI_alp i h, if_neg (by omega), if_neg (by omega), Int.toNat_natCast]
theorem dgo_2 (i : Nat) (h : i < 64) (r : List UInt8) (v : Nat) (acc : List UInt8) : dgo (alp i :: r) v 2 acc = dgo r (v % 4096 * 64 + i) 0 (acc ++ [UInt8.ofNat ((v % 4096 * 64 + i) / 1)]) := by
  rw [dgo, if_neg (alp_61 i).1, placeI_alp i h, if_neg (by omega), if_neg (by omega), Int.toNat_natCast]
theorem dgo_61 (r : List UInt8) (v m : Nat) (acc : List UInt8) : dgo (61 :: r) v m acc = some acc := by rw [dgo, if_pos rfl]

theorem byte_of (n : Nat) (x : UInt8) (h : n % 256 = x.toNat) : UInt8.ofNat n = x := by
  apply UInt8.toNat_inj.1
  rw [UInt8.toNat_ofNat']; exact h

theorem dgo_enc : ∀ (d : List UInt8) (v : Nat) (acc : List UInt8), dgo (encL d) v 0 acc = some (acc ++ d)
  | [], v, acc => by rw [encL, dgo, List.append_nil]
  | [x], v, acc => by
    have h1 := x.toNat_lt
    rw [encL, c0, c1, z0]
    rw [dgo_0 _ (by omega), dgo_6 _ (by omega), dgo_61]
    rw [byte_of _ x (by omega)]
  | [x, y], v, acc => by
    have h1 := x.toNat_lt
    have h2 := y.toNat_lt
    rw [encL, c0, c1, c2, z0]
    rw [dgo_0 _ (by omega), dgo_6 _ (by omega), dgo_4 _ (by omega), dgo_61]
    rw [byte_of _ x (by omega), byte_of _ y (by omega), List.append_assoc]
    rfl
  | x :: y :: z :: r, v, acc => by
    have h1 := x.toNat_lt
    have h2 := y.toNat_lt
    have h3 := z.toNat_lt
    rw [encL, c0, c1, c2, c3]
    rw [dgo_0 _ (by omega), dgo_6 _ (by omega), dgo_4 _ (by omega), dgo_2 _ (by omega), dgo_enc r]
    rw [byte_of _ x (by omega), byte_of _ y (by omega), byte_of _ z (by omega)]
    simp only [List.append_assoc, List.cons_append, List.nil_append]

theorem decL_none (s : List UInt8) (h : dgo s 0 0 [] = none) : decL s = none := by
  cases hd : decL s with
  | none => rfl
  | some d =>
    have := dgo_enc d 0 []
    rw [decL_some s d hd, h] at this; cases this
theorem decL_dgo (s b : List UInt8) (h : dgo s 0 0 [] = some b) : decL s = if encL b = s then some b else none := by
  split
  · rename_i e
    rw [← e]; exact decL_encL b
  · rename_i e
    cases hd : decL s with
    | none => rfl
    | some d =>
      have e1 := decL_some s d hd
      have := dgo_enc d 0 []
      rw [e1, h, List.nil_append] at this
      rw [Option.some.inj this] at e
      exact absurd e1 e

set_option maxRecDepth 100000 in
set_option maxHeartbeats 1000000 in
theorem fdecode_any (s : ByteArray) (w : World) (hs : s.size ≤ 100000) :
    Calls Tryz.prog 121 #[.string s] w fun e w' => e = .returned (decV (decL s.data.toList)) ∧ Below w.heap.size w w' := by
  obtain ⟨i0, hi, hz0, hz1, hz2⟩ := info_parts info_u8
  have hb0 : Below w.heap.size w (w.alloc (.cells #[] 5)) := (Below.refl _ _).alloc (Nat.le_refl _) _
  have hown0 : (w.alloc (.cells #[] 5)).ownsRow w.heap.size 5 1 (.slice (some ⟨w.heap.size, 0, none⟩) 0 0) 0 [] := World.ownsRow_lit w #[] 0 (Nat.le_refl _) (by decide) rfl
  have Hown0 := Lib.hid hown0
  clear hown0
  go_enter Tryz.func121, Tryz.ntmps121
  go_wp2_with fail
  go_loopw [4, 5, 6, 7] (fun bits many b i wr => ∃ (V M k : Nat) (acc : List UInt8), bits = .int .i64 V ∧ many = .int .i64 M ∧ i = .int .i64 k ∧ k ≤ s.size ∧ V < 262144 ∧ M ≤ 7 ∧ acc.length ≤ k ∧ Hid (dgo s.data.toList 0 0 [] = dgo (s.data.toList.drop k) V M acc) ∧ wr.ownsRow w.heap.size 5 1 b acc.length (acc.map u8V) ∧ Below w.heap.size w wr) (fun _ _ _ i _ => s.size - (intOf i).toNat)
  case atStart => exact ⟨0, 0, 0, [], rfl, rfl, rfl, by omega, by omega, by omega, by simp, Lib.hid rfl, Hown0.out, hb0⟩
  case round =>
    obtain ⟨V, M, k, acc, rfl, rfl, rfl, hk, hV, hM, hal, H, hown, hb⟩ := hrel
    clear hb0 Hown0
    by_cases hend : k < s.size → s.data.toList[k]? = some 61
    · have Hd : Hid (decL s.data.toList = if encL acc = s.data.toList then some acc else none) := Lib.hid (decL_dgo _ _ (by
        rw [H.out]
        by_cases hlt : k < s.size
        · have e := hend hlt
          rw [drop_cons_at s k hlt]
          have : s[k] = 61 := by
            have e2 : s.data.toList[k]? = some s[k] := List.getElem?_eq_getElem (by rw [← Lib.size_eq]; exact hlt)
            rw [e2] at e; exact Option.some.inj e
          rw [this, dgo_61]
        · rw [List.drop_of_length_le (by rw [← Lib.size_eq]; omega), dgo]))
      have hcv := run_owned_str (P := Tryz.prog) Tryz.underlying118 Tryz.underlying5 Tryz.underlying9 hown
      have cE := fencode_any (strB acc) wr (by rw [strB_size]; omega)
      rw [strB_data] at cE
      have htest : (∃ hlt : k < s.size, (((s[k]'hlt).toNat : Int) == 61) = true) ∨ ¬ k < s.size := by
        by_cases hlt : k < s.size
        · refine .inl ⟨hlt, ?_⟩
          have e := hend hlt
          have e2 : s.data.toList[k]? = some s[k] := List.getElem?_eq_getElem (by rw [← Lib.size_eq]; exact hlt)
          rw [e2] at e
          rw [Option.some.inj e]; decide
        · exact .inr hlt
      clear hend H
      by_cases he : encL acc = s.data.toList
      · have Hd2 : Hid (decL s.data.toList = some acc) := Lib.hid (by rw [Hd.out, if_pos he])
        have heq2 : ((strB (encL acc)).toList == s.toList) = true := by rw [Lib.toList_data, Lib.toList_data, strB_data, he]; simp
        have heq3 : ((strB (encL acc)).toList != s.toList) = false := by rw [bne, heq2]; rfl
        clear he Hd
        generalize strB (encL acc) = z at cE heq2 heq3
        rcases htest with ⟨hlt, h61⟩ | hlt
        all_goals
          go_wp2_with fail
          refine cE.mono ?_
          rintro e w1 ⟨rfl, hb1⟩
          have hcv2 := run_owned_str (P := Tryz.prog) Tryz.underlying118 Tryz.underlying5 Tryz.underlying9 (ownsRow_later hown hb1)
          clear hcv
          go_wp2_with fail
          go_ret2
          exact ⟨by rw [Hd2.out]; rfl, hb.trans (hb1.mono hb.size)⟩
      · have Hd2 : Hid (decL s.data.toList = none) := Lib.hid (by rw [Hd.out, if_neg he])
        have heq2 : ((strB (encL acc)).toList == s.toList) = false := by
          have : ¬ (strB (encL acc)).toList = s.toList := by rw [Lib.toList_data, Lib.toList_data, strB_data]; exact he
          simpa using this
        have heq3 : ((strB (encL acc)).toList != s.toList) = true := by rw [bne, heq2]; rfl
        clear he Hd
        generalize strB (encL acc) = z at cE heq2 heq3
        rcases htest with ⟨hlt, h61⟩ | hlt
        all_goals
          go_wp2_with fail
          refine cE.mono ?_
          rintro e w1 ⟨rfl, hb1⟩
          clear hcv
          go_wp2_with fail
          go_ret2
          exact ⟨by rw [Hd2.out]; rfl, hb.trans (hb1.mono hb.size)⟩
    · have hlt : k < s.size := by
        by_cases h : k < s.size
        · exact h
        · exact absurd (fun h2 => absurd h2 h) hend
      have h61 : s[k]'hlt ≠ 61 := by
        intro e
        refine hend (fun _ => ?_)
        have e2 : s.data.toList[k]? = some s[k] := List.getElem?_eq_getElem (by rw [← Lib.size_eq]; exact hlt)
        rw [e2, e]
      clear hend
      have g61 : (((s[k]'hlt).toNat : Int) == 61) = false := by
        have := byte_beq (s[k]'hlt) 61
        rw [show ((61 : UInt8).toNat : Int) = 61 from rfl] at this
        rw [this]; simpa using h61
      have n61 : (((s[k]'hlt).toNat : Int) != 61) = true := by rw [bne, g61]; rfl
      have Hdr := Lib.hid (drop_cons_at s k hlt)
      have cP := fun W => fplace_any (s[k]'hlt) W
      have hp64 := placeI_lt (s[k]'hlt)
      rw [drop_cons_at s k hlt, dgo, if_neg h61] at H
      generalize placeI (s[k]'hlt) = p at cP H hp64
      clear Hdr h61 g61
      by_cases hp : p < 0
      · have Hd : Hid (decL s.data.toList = none) := Lib.hid (decL_none _ (by rw [H.out, if_pos hp]))
        clear H
        have d1 : decide (p < 0) = true := by simpa using hp
        go_wp2_with fail
        refine (cP _).mono ?_
        rintro e w' ⟨rfl, rfl⟩
        go_wp2_with fail
        go_ret2
        exact ⟨by rw [Hd.out]; rfl, hb⟩
      · obtain ⟨P, rfl⟩ : ∃ P : Nat, p = (P : Int) := ⟨p.toNat, by omega⟩
        rw [if_neg hp, Int.toNat_natCast] at H
        obtain ⟨V2, hV2⟩ : ∃ V2, V % 4096 * 64 + P = V2 := ⟨_, rfl⟩
        rw [hV2] at H
        have hV3 : V2 < 262144 := by omega
        have q1 : (V : Int) % 4096 * 64 + (P : Int) = (V2 : Int) := by omega
        clear hV2
        have d1 : decide ((P : Int) < 0) = false := by simp
        by_cases hm : M + 6 < 8
        · rw [if_pos hm] at H
          have d2 : decide ((8 : Int) ≤ (M : Int) + 6) = false := by simp; omega
          go_wp2_with fail
          refine (cP _).mono ?_
          rintro e w' ⟨rfl, rfl⟩
          go_wp2_with fail
          go_roundw
          case rel => exact ⟨V2, M + 6, k + 1, acc, rfl, by go_num, by go_num, by omega, hV3, by omega, by omega, Lib.hid H.out, hown, hb⟩
          case measure => simp [intOf]; omega
        · rw [if_neg hm] at H
          obtain ⟨M2, hM2⟩ : ∃ M2, M - 2 = M2 := ⟨_, rfl⟩
          rw [hM2] at H
          have d2 : decide ((8 : Int) ≤ (M : Int) + 6) = true := by simp; omega
          have q2 : (M : Int) + 6 - 8 = (M2 : Int) := by omega
          have hM3 : M2 ≤ 7 := by omega
          clear hM2
          go_wp2_with fail
          refine (cP _).mono ?_
          rintro e w' ⟨rfl, rfl⟩
          go_wp2_with fail
          clear q1 q2
          go_loop [9, 10] (fun x j => ∃ J : Nat, J ≤ M2 ∧ j = .int .i64 J ∧ x = .int .i64 ((V2 / 2 ^ J : Nat) : Int)) (fun _ j => M2 - (intOf j).toNat)
          case atStart => exact ⟨0, Nat.zero_le _, rfl, by simp⟩
          case round =>
            obtain ⟨J, hJ, rfl, rfl⟩ := hrel
            have hX : V2 / 2 ^ J ≤ V2 := Nat.div_le_self _ _
            have HY : Hid (V2 / 2 ^ (J + 1) = V2 / 2 ^ J / 2) := Lib.hid (by rw [Nat.pow_succ, Nat.div_div_eq_div_mul])
            by_cases hJlt : J < M2
            · obtain ⟨Y, hY⟩ : ∃ Y, V2 / 2 ^ (J + 1) = Y := ⟨_, rfl⟩
              rw [hY] at HY
              generalize V2 / 2 ^ J = X at *
              have q3 : (X : Int) / 2 = (Y : Int) := by have := HY.out; omega
              have HYe := Lib.hid hY
              clear hY
              go_wp2_with fail
              go_round
              case rel => exact ⟨J + 1, by omega, by go_num, by rw [HYe.out]⟩
              case measure => simp [intOf]; omega
            · obtain rfl : J = M2 := by omega
              clear HY
              obtain ⟨B, hB⟩ : ∃ B, UInt8.ofNat (V2 / 2 ^ J) = B := ⟨_, rfl⟩
              rw [hB] at H
              have hBn : B.toNat = V2 / 2 ^ J % 256 := by rw [← hB, UInt8.toNat_ofNat']
              generalize V2 / 2 ^ J = X at *
              have q4 : (X : Int) % 256 = (B.toNat : Int) := by omega
              have hB2 := B.toNat_lt
              clear hB hBn
              go_wp2_with (at_builtin; refine wpList_append_own _ rfl _ _ 118 rfl w.heap.size 5 i0 (.int .u8 0) 1 1 Tryz.underlying118 hi hz0 hz1 hz2 rfl (by decide) _ _ _ rfl (hown.alloc _) ⟨_, 0, none⟩ 1 1 [.int .u8 (B.toNat : Int)] rfl rfl (cells_new _ _ _) (by simp [Value.oneCell']) (by unfold maxLen; omega) (by omega) (by have := hb.size; simp; omega) ?_; intro v' w2 hown' hgrow _)
              go_roundw
              case rel =>
                have hz3 := hb.size
                refine ⟨V2, J, k + 1, acc ++ [B], rfl, rfl, by go_num, by omega, hV3, by omega, by simp; omega, Lib.hid H.out, by simpa [u8V] using hown', ?_⟩
                exact (hb.alloc (by omega) _).grown hgrow (by simp; omega) (fun k e => (World.ownsRow.lt hown k e).1)
              case measure => simp [intOf]; omega

end Go.Proofs.YtjbipplaacgnkaaGreatDoor

namespace Go.Proofs.YtjbipplaacgnkaaGreatDoor
open Go.RowKit

theorem numL_app3 (z q : List UInt8) (h : q.length = 3) : numL (z ++ q) = 1000 * numL z + numL q := by
  match q, h with
  | [a, b, c], _ =>
    rw [numL_three]
    simp only [numL, List.foldl_cons, List.foldl_nil]
    omega

theorem extract_lst (s : ByteArray) (i n : Nat) : (s.extract i (i + n)).data.toList = (s.data.toList.drop i).take n := by
  rw [Lib.extract_data, Nat.add_sub_cancel_left]

set_option maxRecDepth 100000 in
set_option maxHeartbeats 1000000 in
theorem fnum0 (s : ByteArray) (w : World) (h0 : 0 < s.size) (hs : s.size ≤ 100000) (hm : (((s[0]'h0).toNat : Int) == 45) = false) :
    Calls Tryz.prog 119 #[.string s] w (gotPost (gotV (numTail 0 (1) s.data.toList)) w) := by
  have hb0 : Below w.heap.size w (w.alloc zeroBare) := (Below.refl _ _).alloc (Nat.le_refl _) _
  have hbb : ∀ o : Obj, Below w.heap.size w ((w.alloc o).alloc zeroBare) := fun o => ((Below.refl _ _).alloc (Nat.le_refl _) o).alloc (by simp) _
  have cD : ∀ W, Calls Tryz.prog 140 #[.string s, .int .i64 0] W fun e w' => e = .returned (.int .i64 ((ldig (s.data.toList.drop 0)).length : Int)) ∧ W = w' := fun W => fdigits_any s 0 W hs (by omega)
  have cV := fun W n h1 h2 => fvalue_any (s.extract 0 (0 + n)) W h1 h2
  have hex : ∀ n, (s.extract 0 (0 + n)).data.toList = (s.data.toList.drop 0).take n := extract_lst s 0
  have zall := ldig_all (s.data.toList.drop 0)
  have zle := ldig_len_le (s.data.toList.drop 0)
  rw [List.length_drop, ← Lib.size_eq] at zle
  have ztk : (s.data.toList.drop 0).take (ldig (s.data.toList.drop 0)).length = ldig (s.data.toList.drop 0) := take_takeWhile _ _
  generalize hz : ldig (s.data.toList.drop 0) = z at cD zall zle ztk
  obtain ⟨N, hN⟩ : ∃ N, z.length = N := ⟨_, rfl⟩
  rw [hN] at cD zle ztk
  by_cases hA : N = 0
  · rw [numTail_none hz (.inl (by omega))]
    rw [hA] at cD
    clear hz zall zle hN hA cV hex ztk hb0
    go_enter Tryz.func119, Tryz.ntmps119
    go_wp2_with fail
    refine (cD _).mono ?_
    rintro e w1 ⟨rfl, rfl⟩
    go_wp2
    exact bodyPost_ret (v := gotV none) (by simp [results, Tryz.results119, go_sem, gotV]) rfl ⟨rfl, hbb _⟩
  · by_cases hB : 15 < N
    · rw [numTail_none hz (.inr (by omega))]
      clear hz zall hN cV hex ztk hb0
      go_enter Tryz.func119, Tryz.ntmps119
      go_wp2_with fail
      refine (cD _).mono ?_
      rintro e w1 ⟨rfl, rfl⟩
      go_wp2
      exact bodyPost_ret (v := gotV none) (by simp [results, Tryz.results119, go_sem, gotV]) rfl ⟨rfl, hbb _⟩
    · have hN1 : 1 ≤ N := by omega
      have hN15 : N ≤ 15 := by omega
      clear hA hB
      have hXd := hex N
      rw [ztk] at hXd
      have cV1 := fun W => cV W N (by rw [Lib.size_eq, hXd]; omega) (by rw [hXd]; exact zall)
      rw [hXd] at cV1
      obtain ⟨v0, v1⟩ := numL_in z zall (by omega)
      clear cV hXd ztk
      rw [Nat.zero_add] at cV1
      by_cases hE : N < s.size
      · cases hd : (((s[N]'hE).toNat : Int) == 46)
        · have h3 : (s.data.toList.drop (0 + z.length)).head? ≠ some 46 := by
            rw [hN, Nat.zero_add, head_at s _ hE]
            intro e
            rw [Option.some.inj e] at hd
            exact absurd hd (by decide)
          rw [numTail_int hz (by omega) (by omega) h3, hN]
          have n46 : (((s[N]'hE).toNat : Int) != 46) = true := by rw [bne, hd]; rfl
          clear h3 hz zall hN hex hd
          generalize numL z = V at *
          go_enter Tryz.func119, Tryz.ntmps119
          go_wp2_with fail
          refine (cD _).mono ?_
          rintro e w1 ⟨rfl, rfl⟩
          go_wp2_with fail
          refine (cV1 _).mono ?_
          rintro e w1 ⟨rfl, rfl⟩
          go_wp2
          exact bodyPost_ret (v := gotV (some ⟨1, 1 * V, [], 0 + N⟩)) (by simp [results, Tryz.results119, go_sem, gotV, strB]) rfl ⟨by first | rfl | rw [Int.neg_one_mul], ((Below.refl _ _).alloc (Nat.le_refl _) _).alloc (by simp) _⟩
        · have h3 : (s.data.toList.drop (0 + z.length)).head? = some 46 := by
            rw [hN, Nat.zero_add, head_at s _ hE]
            congr 1
            have := byte_beq (s[N]'hE) 46
            rw [show ((46 : UInt8).toNat : Int) = 46 from rfl, hd] at this
            simpa using this.symm
          have n46 : (((s[N]'hE).toNat : Int) != 46) = false := by rw [bne, hd]; rfl
          have cP := fun W => fdigits_any s (N + 1) W hs (by omega)
          have pall := ldig_all (s.data.toList.drop (N + 1))
          have ple := ldig_len_le (s.data.toList.drop (N + 1))
          rw [List.length_drop, ← Lib.size_eq] at ple
          have ptk : (s.data.toList.drop (N + 1)).take (ldig (s.data.toList.drop (N + 1))).length = ldig (s.data.toList.drop (N + 1)) := take_takeWhile _ _
          generalize hp : ldig (s.data.toList.drop (N + 1)) = p at cP pall ple ptk
          have hp' : ldig (s.data.toList.drop (0 + z.length + 1)) = p := by rw [hN, Nat.zero_add]; exact hp
          obtain ⟨M, hM⟩ : ∃ M, p.length = M := ⟨_, rfl⟩
          rw [hM] at cP ple ptk
          have hpx : (s.extract (N + 1) (N + 1 + M)).data.toList = p := by rw [extract_lst, ptk]
          clear ptk hd
          by_cases d1 : 12 < N
          · rw [numTail_bad hz (by omega) (by omega) h3 hp' (.inl (by omega))]
            clear hz zall hN hex h3 hp hp' pall hM hpx
            generalize numL z = V at *
            go_enter Tryz.func119, Tryz.ntmps119
            go_wp2_with fail
            refine (cD _).mono ?_
            rintro e w1 ⟨rfl, rfl⟩
            go_wp2_with fail
            refine (cV1 _).mono ?_
            rintro e w1 ⟨rfl, rfl⟩
            go_wp2_with fail
            refine (cP _).mono ?_
            rintro e w1 ⟨rfl, rfl⟩
            go_wp2
            exact bodyPost_ret (v := gotV none) (by simp [results, Tryz.results119, go_sem, gotV]) rfl ⟨rfl, hbb _⟩
          · by_cases d2 : M = 0
            · rw [numTail_bad hz (by omega) (by omega) h3 hp' (.inr (.inl (by omega)))]
              rw [d2] at cP
              clear hz zall hN hex h3 hp hp' pall hM hpx ple d2
              generalize numL z = V at *
              go_enter Tryz.func119, Tryz.ntmps119
              go_wp2_with fail
              refine (cD _).mono ?_
              rintro e w1 ⟨rfl, rfl⟩
              go_wp2_with fail
              refine (cV1 _).mono ?_
              rintro e w1 ⟨rfl, rfl⟩
              go_wp2_with fail
              refine (cP _).mono ?_
              rintro e w1 ⟨rfl, rfl⟩
              go_wp2
              exact bodyPost_ret (v := gotV none) (by simp [results, Tryz.results119, go_sem, gotV]) rfl ⟨rfl, hbb _⟩
            · by_cases d3 : 3 < M
              · rw [numTail_bad hz (by omega) (by omega) h3 hp' (.inr (.inr (by omega)))]
                clear hz zall hN hex h3 hp hp' pall hM hpx d2
                generalize numL z = V at *
                go_enter Tryz.func119, Tryz.ntmps119
                go_wp2_with fail
                refine (cD _).mono ?_
                rintro e w1 ⟨rfl, rfl⟩
                go_wp2_with fail
                refine (cV1 _).mono ?_
                rintro e w1 ⟨rfl, rfl⟩
                go_wp2_with fail
                refine (cP _).mono ?_
                rintro e w1 ⟨rfl, rfl⟩
                go_wp2
                exact bodyPost_ret (v := gotV none) (by simp [results, Tryz.results119, go_sem, gotV]) rfl ⟨rfl, hbb _⟩
              · rw [numTail_dec hz (by omega) (by omega) h3 hp' (by omega) (by omega), hN, hM]
                have hq3 : ((p ++ [48, 48]).take 3).length = 3 := by rw [List.length_take, List.length_append, hM]; simp; omega
                rw [numL_app3 z _ hq3]
                have qall : ((p ++ [48, 48]).take 3).all (fun c => digI c.toNat) = true := pad_all p pall
                have hqd : ((s.extract (N + 1) (N + 1 + M) ++ (⟨#[48, 48]⟩ : ByteArray)).extract 0 3).data.toList = (p ++ [48, 48]).take 3 := by rw [extract_take, append_data, hpx]
                have cQ := fun W => fvalue_any ((s.extract (N + 1) (N + 1 + M) ++ (⟨#[48, 48]⟩ : ByteArray)).extract 0 3) W (by rw [Lib.size_eq, hqd]; omega) (by rw [hqd]; exact qall)
                rw [hqd] at cQ
                obtain ⟨u0, u1⟩ := numL_bd ((p ++ [48, 48]).take 3) 0 0 (by omega) (by decide) qall
                rw [hq3] at u1
                have z12 := numL_bd z 0 0 (by omega) (by decide) zall
                rw [hN] at z12
                have z13 : numL z < 1000000000000 := Int.lt_of_lt_of_le z12.2 (pow_mono (0 + N) 12 (by omega))
                have u2 : numL ((p ++ [48, 48]).take 3) < 1000 := u1
                have u3 : 0 ≤ numL ((p ++ [48, 48]).take 3) := u0
                have hps : (s.extract (N + 1) (N + 1 + M)).size = M := by rw [Lib.size_eq, hpx, hM]
                clear hz zall hN hex h3 hp hp' pall hM hpx hqd qall hq3 u0 u1 z12 hbb hb0
                generalize numL z = V at *
                generalize numL ((p ++ [48, 48]).take 3) = U at *
                go_enter Tryz.func119, Tryz.ntmps119
                go_wp2_with fail
                refine (cD _).mono ?_
                rintro e w1 ⟨rfl, rfl⟩
                go_wp2_with fail
                refine (cV1 _).mono ?_
                rintro e w1 ⟨rfl, rfl⟩
                go_wp2_with fail
                refine (cP _).mono ?_
                rintro e w1 ⟨rfl, rfl⟩
                go_wp2_with fail
                refine (cQ _).mono ?_
                rintro e w1 ⟨rfl, rfl⟩
                go_wp2
                exact bodyPost_ret (v := gotV (some ⟨2, 1 * (1000 * V + U), [], 0 + N + 1 + M⟩)) (by simp [results, Tryz.results119, go_sem, gotV, strB]) rfl ⟨by first | rfl | rw [Int.neg_one_mul], ((Below.refl _ _).alloc (Nat.le_refl _) _).alloc (by simp) _⟩
      · have h3 : (s.data.toList.drop (0 + z.length)).head? ≠ some 46 := by
          rw [List.drop_of_length_le (by rw [← Lib.size_eq]; omega)]
          simp
        rw [numTail_int hz (by omega) (by omega) h3, hN]
        clear h3 hz zall hN hex
        generalize numL z = V at *
        go_enter Tryz.func119, Tryz.ntmps119
        go_wp2_with fail
        refine (cD _).mono ?_
        rintro e w1 ⟨rfl, rfl⟩
        go_wp2_with fail
        refine (cV1 _).mono ?_
        rintro e w1 ⟨rfl, rfl⟩
        go_wp2
        exact bodyPost_ret (v := gotV (some ⟨1, 1 * V, [], 0 + N⟩)) (by simp [results, Tryz.results119, go_sem, gotV, strB]) rfl ⟨by first | rfl | rw [Int.neg_one_mul], ((Below.refl _ _).alloc (Nat.le_refl _) _).alloc (by simp) _⟩

set_option maxRecDepth 100000 in
set_option maxHeartbeats 1000000 in
theorem fnum1 (s : ByteArray) (w : World) (h0 : 0 < s.size) (hs : s.size ≤ 100000) (hm : (((s[0]'h0).toNat : Int) == 45) = true) :
    Calls Tryz.prog 119 #[.string s] w (gotPost (gotV (numTail 1 (-1) s.data.toList)) w) := by
  have hb0 : Below w.heap.size w (w.alloc zeroBare) := (Below.refl _ _).alloc (Nat.le_refl _) _
  have hbb : ∀ o : Obj, Below w.heap.size w ((w.alloc o).alloc zeroBare) := fun o => ((Below.refl _ _).alloc (Nat.le_refl _) o).alloc (by simp) _
  have cD : ∀ W, Calls Tryz.prog 140 #[.string s, .int .i64 1] W fun e w' => e = .returned (.int .i64 ((ldig (s.data.toList.drop 1)).length : Int)) ∧ W = w' := fun W => fdigits_any s 1 W hs (by omega)
  have cV := fun W n h1 h2 => fvalue_any (s.extract 1 (1 + n)) W h1 h2
  have hex : ∀ n, (s.extract 1 (1 + n)).data.toList = (s.data.toList.drop 1).take n := extract_lst s 1
  have zall := ldig_all (s.data.toList.drop 1)
  have zle := ldig_len_le (s.data.toList.drop 1)
  rw [List.length_drop, ← Lib.size_eq] at zle
  have ztk : (s.data.toList.drop 1).take (ldig (s.data.toList.drop 1)).length = ldig (s.data.toList.drop 1) := take_takeWhile _ _
  generalize hz : ldig (s.data.toList.drop 1) = z at cD zall zle ztk
  obtain ⟨N, hN⟩ : ∃ N, z.length = N := ⟨_, rfl⟩
  rw [hN] at cD zle ztk
  by_cases hA : N = 0
  · rw [numTail_none hz (.inl (by omega))]
    rw [hA] at cD
    clear hz zall zle hN hA cV hex ztk hb0
    go_enter Tryz.func119, Tryz.ntmps119
    go_wp2_with fail
    refine (cD _).mono ?_
    rintro e w1 ⟨rfl, rfl⟩
    go_wp2
    exact bodyPost_ret (v := gotV none) (by simp [results, Tryz.results119, go_sem, gotV]) rfl ⟨rfl, hbb _⟩
  · by_cases hB : 15 < N
    · rw [numTail_none hz (.inr (by omega))]
      clear hz zall hN cV hex ztk hb0
      go_enter Tryz.func119, Tryz.ntmps119
      go_wp2_with fail
      refine (cD _).mono ?_
      rintro e w1 ⟨rfl, rfl⟩
      go_wp2
      exact bodyPost_ret (v := gotV none) (by simp [results, Tryz.results119, go_sem, gotV]) rfl ⟨rfl, hbb _⟩
    · have hN1 : 1 ≤ N := by omega
      have hN15 : N ≤ 15 := by omega
      clear hA hB
      have hXd := hex N
      rw [ztk] at hXd
      have cV1 := fun W => cV W N (by rw [Lib.size_eq, hXd]; omega) (by rw [hXd]; exact zall)
      rw [hXd] at cV1
      obtain ⟨v0, v1⟩ := numL_in z zall (by omega)
      clear cV hXd ztk
      skip
      by_cases hE : (1 + N) < s.size
      · cases hd : (((s[(1 + N)]'hE).toNat : Int) == 46)
        · have h3 : (s.data.toList.drop (1 + z.length)).head? ≠ some 46 := by
            rw [hN, head_at s _ hE]
            intro e
            rw [Option.some.inj e] at hd
            exact absurd hd (by decide)
          rw [numTail_int hz (by omega) (by omega) h3, hN]
          have n46 : (((s[(1 + N)]'hE).toNat : Int) != 46) = true := by rw [bne, hd]; rfl
          clear h3 hz zall hN hex hd
          generalize numL z = V at *
          go_enter Tryz.func119, Tryz.ntmps119
          go_wp2_with fail
          refine (cD _).mono ?_
          rintro e w1 ⟨rfl, rfl⟩
          go_wp2_with fail
          refine (cV1 _).mono ?_
          rintro e w1 ⟨rfl, rfl⟩
          go_wp2
          exact bodyPost_ret (v := gotV (some ⟨1, -1 * V, [], 1 + N⟩)) (by simp [results, Tryz.results119, go_sem, gotV, strB]) rfl ⟨by first | rfl | rw [Int.neg_one_mul], ((Below.refl _ _).alloc (Nat.le_refl _) _).alloc (by simp) _⟩
        · have h3 : (s.data.toList.drop (1 + z.length)).head? = some 46 := by
            rw [hN, head_at s _ hE]
            congr 1
            have := byte_beq (s[(1 + N)]'hE) 46
            rw [show ((46 : UInt8).toNat : Int) = 46 from rfl, hd] at this
            simpa using this.symm
          have n46 : (((s[(1 + N)]'hE).toNat : Int) != 46) = false := by rw [bne, hd]; rfl
          have cP := fun W => fdigits_any s ((1 + N) + 1) W hs (by omega)
          have pall := ldig_all (s.data.toList.drop ((1 + N) + 1))
          have ple := ldig_len_le (s.data.toList.drop ((1 + N) + 1))
          rw [List.length_drop, ← Lib.size_eq] at ple
          have ptk : (s.data.toList.drop ((1 + N) + 1)).take (ldig (s.data.toList.drop ((1 + N) + 1))).length = ldig (s.data.toList.drop ((1 + N) + 1)) := take_takeWhile _ _
          generalize hp : ldig (s.data.toList.drop ((1 + N) + 1)) = p at cP pall ple ptk
          have hp' : ldig (s.data.toList.drop (1 + z.length + 1)) = p := by rw [hN]; exact hp
          obtain ⟨M, hM⟩ : ∃ M, p.length = M := ⟨_, rfl⟩
          rw [hM] at cP ple ptk
          have hpx : (s.extract ((1 + N) + 1) ((1 + N) + 1 + M)).data.toList = p := by rw [extract_lst, ptk]
          clear ptk hd
          by_cases d1 : 12 < N
          · rw [numTail_bad hz (by omega) (by omega) h3 hp' (.inl (by omega))]
            clear hz zall hN hex h3 hp hp' pall hM hpx
            generalize numL z = V at *
            go_enter Tryz.func119, Tryz.ntmps119
            go_wp2_with fail
            refine (cD _).mono ?_
            rintro e w1 ⟨rfl, rfl⟩
            go_wp2_with fail
            refine (cV1 _).mono ?_
            rintro e w1 ⟨rfl, rfl⟩
            go_wp2_with fail
            refine (cP _).mono ?_
            rintro e w1 ⟨rfl, rfl⟩
            go_wp2
            exact bodyPost_ret (v := gotV none) (by simp [results, Tryz.results119, go_sem, gotV]) rfl ⟨rfl, hbb _⟩
          · by_cases d2 : M = 0
            · rw [numTail_bad hz (by omega) (by omega) h3 hp' (.inr (.inl (by omega)))]
              rw [d2] at cP
              clear hz zall hN hex h3 hp hp' pall hM hpx ple d2
              generalize numL z = V at *
              go_enter Tryz.func119, Tryz.ntmps119
              go_wp2_with fail
              refine (cD _).mono ?_
              rintro e w1 ⟨rfl, rfl⟩
              go_wp2_with fail
              refine (cV1 _).mono ?_
              rintro e w1 ⟨rfl, rfl⟩
              go_wp2_with fail
              refine (cP _).mono ?_
              rintro e w1 ⟨rfl, rfl⟩
              go_wp2
              exact bodyPost_ret (v := gotV none) (by simp [results, Tryz.results119, go_sem, gotV]) rfl ⟨rfl, hbb _⟩
            · by_cases d3 : 3 < M
              · rw [numTail_bad hz (by omega) (by omega) h3 hp' (.inr (.inr (by omega)))]
                clear hz zall hN hex h3 hp hp' pall hM hpx d2
                generalize numL z = V at *
                go_enter Tryz.func119, Tryz.ntmps119
                go_wp2_with fail
                refine (cD _).mono ?_
                rintro e w1 ⟨rfl, rfl⟩
                go_wp2_with fail
                refine (cV1 _).mono ?_
                rintro e w1 ⟨rfl, rfl⟩
                go_wp2_with fail
                refine (cP _).mono ?_
                rintro e w1 ⟨rfl, rfl⟩
                go_wp2
                exact bodyPost_ret (v := gotV none) (by simp [results, Tryz.results119, go_sem, gotV]) rfl ⟨rfl, hbb _⟩
              · rw [numTail_dec hz (by omega) (by omega) h3 hp' (by omega) (by omega), hN, hM]
                have hq3 : ((p ++ [48, 48]).take 3).length = 3 := by rw [List.length_take, List.length_append, hM]; simp; omega
                rw [numL_app3 z _ hq3]
                have qall : ((p ++ [48, 48]).take 3).all (fun c => digI c.toNat) = true := pad_all p pall
                have hqd : ((s.extract ((1 + N) + 1) ((1 + N) + 1 + M) ++ (⟨#[48, 48]⟩ : ByteArray)).extract 0 3).data.toList = (p ++ [48, 48]).take 3 := by rw [extract_take, append_data, hpx]
                have cQ := fun W => fvalue_any ((s.extract ((1 + N) + 1) ((1 + N) + 1 + M) ++ (⟨#[48, 48]⟩ : ByteArray)).extract 0 3) W (by rw [Lib.size_eq, hqd]; omega) (by rw [hqd]; exact qall)
                rw [hqd] at cQ
                obtain ⟨u0, u1⟩ := numL_bd ((p ++ [48, 48]).take 3) 0 0 (by omega) (by decide) qall
                rw [hq3] at u1
                have z12 := numL_bd z 0 0 (by omega) (by decide) zall
                rw [hN] at z12
                have z13 : numL z < 1000000000000 := Int.lt_of_lt_of_le z12.2 (pow_mono (0 + N) 12 (by omega))
                have u2 : numL ((p ++ [48, 48]).take 3) < 1000 := u1
                have u3 : 0 ≤ numL ((p ++ [48, 48]).take 3) := u0
                have hps : (s.extract ((1 + N) + 1) ((1 + N) + 1 + M)).size = M := by rw [Lib.size_eq, hpx, hM]
                clear hz zall hN hex h3 hp hp' pall hM hpx hqd qall hq3 u0 u1 z12 hbb hb0
                generalize numL z = V at *
                generalize numL ((p ++ [48, 48]).take 3) = U at *
                go_enter Tryz.func119, Tryz.ntmps119
                go_wp2_with fail
                refine (cD _).mono ?_
                rintro e w1 ⟨rfl, rfl⟩
                go_wp2_with fail
                refine (cV1 _).mono ?_
                rintro e w1 ⟨rfl, rfl⟩
                go_wp2_with fail
                refine (cP _).mono ?_
                rintro e w1 ⟨rfl, rfl⟩
                go_wp2_with fail
                refine (cQ _).mono ?_
                rintro e w1 ⟨rfl, rfl⟩
                go_wp2
                exact bodyPost_ret (v := gotV (some ⟨2, -1 * (1000 * V + U), [], 1 + N + 1 + M⟩)) (by simp [results, Tryz.results119, go_sem, gotV, strB]) rfl ⟨by first | rfl | rw [Int.neg_one_mul], ((Below.refl _ _).alloc (Nat.le_refl _) _).alloc (by simp) _⟩
      · have h3 : (s.data.toList.drop (1 + z.length)).head? ≠ some 46 := by
          rw [List.drop_of_length_le (by rw [← Lib.size_eq]; omega)]
          simp
        rw [numTail_int hz (by omega) (by omega) h3, hN]
        clear h3 hz zall hN hex
        generalize numL z = V at *
        go_enter Tryz.func119, Tryz.ntmps119
        go_wp2_with fail
        refine (cD _).mono ?_
        rintro e w1 ⟨rfl, rfl⟩
        go_wp2_with fail
        refine (cV1 _).mono ?_
        rintro e w1 ⟨rfl, rfl⟩
        go_wp2
        exact bodyPost_ret (v := gotV (some ⟨1, -1 * V, [], 1 + N⟩)) (by simp [results, Tryz.results119, go_sem, gotV, strB]) rfl ⟨by first | rfl | rw [Int.neg_one_mul], ((Below.refl _ _).alloc (Nat.le_refl _) _).alloc (by simp) _⟩

theorem freadNumber_any (s : ByteArray) (w : World) (h0 : 0 < s.size) (hs : s.size ≤ 100000) :
    Calls Tryz.prog 119 #[.string s] w (gotPost (gotV (readNumL s.data.toList)) w) := by
  have hh : s.data.toList.head? = some (s[0]'h0) := by have := head_at s 0 h0; rwa [List.drop_zero] at this
  have hb : (((s[0]'h0).toNat : Int) == 45) = (s[0]'h0 == 45) := byte_beq _ 45
  cases hm : (((s[0]'h0).toNat : Int) == 45)
  · have hr : readNumL s.data.toList = numTail 0 1 s.data.toList := by
      rw [hm] at hb
      have : ¬ s[0]'h0 = 45 := by simpa using hb.symm
      rw [readNumL, hh, if_neg (by simpa using this)]
    rw [hr]
    exact fnum0 s w h0 hs hm
  · have hr : readNumL s.data.toList = numTail 1 (-1) s.data.toList := by
      rw [hm] at hb
      have : s[0]'h0 = 45 := by simpa using hb.symm
      rw [readNumL, hh, if_pos (by rw [this])]
    rw [hr]
    exact fnum1 s w h0 hs hm

end Go.Proofs.YtjbipplaacgnkaaGreatDoor
