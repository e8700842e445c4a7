/- The contract of the document's own Decode (sculleryref02). · The contract of the document's own readNumber (sculleryref02). · The contract of the document's own Read (sculleryref02). · The contract of the document's own Read (sculleryref02), walked. -/
import Derived.Test.YtpifbgefkbhopaaGreatDoorZMBarG

namespace Go.Proofs.YtpifbgefkbhopaaGreatDoor
open Go.RowKit

/-- What the document's own Decode gathers: the last bits, how many of them wait, the bytes. -/
def dgo : List UInt8 → Nat → Nat → List UInt8 → Option (List UInt8)
  | [], _, _, acc => some acc
  | c :: r, v, m, acc =>
    if c = 61 then some acc
    else if placeI c < 0 then none
    else if m + 6 < 8 then dgo r (v % 4096 * 64 + (placeI c).toNat) (m + 6) acc
    else dgo r (v % 4096 * 64 + (placeI c).toNat) (m - 2) (acc ++ [UInt8.ofNat ((v % 4096 * 64 + (placeI c).toNat) / 2 ^ (m - 2))])

theorem placeI_lt (c : UInt8) : placeI c < 64 := by
  have := all_bytes (fun c => decide (placeI c < 64)) (by decide +kernel) c
  simpa using this
theorem placeI_alp (i : Nat) (h : i < 64) : placeI (alp i) = (i : Int) := by
  have : ∀ i : Fin 64, placeI (alp i.val) = (i.val : Int) := by decide +kernel
  exact this ⟨i, h⟩

theorem dgo_0 (i : Nat) (h : i < 64) (r : List UInt8) (v : Nat) (acc : List UInt8) : dgo (alp i :: r) v 0 acc = dgo r (v % 4096 * 64 + i) 6 acc := by
  rw [dgo, if_neg (alp_61 i).1, placeI_alp i h, if_neg (by omega), if_pos (by omega), Int.toNat_natCast]
theorem dgo_6 (i : Nat) (h : i < 64) (r : List UInt8) (v : Nat) (acc : List UInt8) : dgo (alp i :: r) v 6 acc = dgo r (v % 4096 * 64 + i) 4 (acc ++ [UInt8.ofNat ((v % 4096 * 64 + i) / 16)]) := by
  rw [dgo, if_neg (alp_61 i).1, placeI_alp i h, if_neg (by omega), if_neg (by omega), Int.toNat_natCast]
theorem dgo_4 (i : Nat) (h : i < 64) (r : List UInt8) (v : Nat) (acc : List UInt8) : dgo (alp i :: r) v 4 acc = dgo r (v % 4096 * 64 + i) 2 (acc ++ [UInt8.ofNat ((v % 4096 * 64 + i) / 4)]) := by
  rw [dgo, if_neg (alp_61 i).1, placeI_alp i h, if_neg (by omega), if_neg (by omega), Int.toNat_natCast]
theorem dgo_2 (i : Nat) (h : i < 64) (r : List UInt8) (v : Nat) (acc : List UInt8) : dgo (alp i :: r) v 2 acc = dgo r (v % 4096 * 64 + i) 0 (acc ++ [UInt8.ofNat ((v % 4096 * 64 + i) / 1)]) := by
  rw [dgo, if_neg (alp_61 i).1, placeI_alp i h, if_neg (by omega), if_neg (by omega), Int.toNat_natCast]
theorem dgo_61 (r : List UInt8) (v m : Nat) (acc : List UInt8) : dgo (61 :: r) v m acc = some acc := by rw [dgo, if_pos rfl]

theorem byte_of (n : Nat) (x : UInt8) (h : n % 256 = x.toNat) : UInt8.ofNat n = x := by
  apply UInt8.toNat_inj.1
  rw [UInt8.toNat_ofNat']; exact h

theorem dgo_enc : ∀ (d : List UInt8) (v : Nat) (acc : List UInt8), dgo (encL d) v 0 acc = some (acc ++ d)
  | [], v, acc => by rw [encL, dgo, List.append_nil]
  | [x], v, acc => by
    have h1 := x.toNat_lt
    rw [encL, c0, c1, z0]
    rw [dgo_0 _ (by omega), dgo_6 _ (by omega), dgo_61]
    rw [byte_of _ x (by omega)]
  | [x, y], v, acc => by
    have h1 := x.toNat_lt
    have h2 := y.toNat_lt
    rw [encL, c0, c1, c2, z0]
    rw [dgo_0 _ (by omega), dgo_6 _ (by omega), dgo_4 _ (by omega), dgo_61]
    rw [byte_of _ x (by omega), byte_of _ y (by omega), List.append_assoc]
    rfl
  | x :: y :: z :: r, v, acc => by
    have h1 := x.toNat_lt
    have h2 := y.toNat_lt
    have h3 := z.toNat_lt
    rw [encL, c0, c1, c2, c3]
    rw [dgo_0 _ (by omega), dgo_6 _ (by omega), dgo_4 _ (by omega), dgo_2 _ (by omega), dgo_enc r]
    rw [byte_of _ x (by omega), byte_of _ y (by omega), byte_of _ z (by omega)]
    simp only [List.append_assoc, List.cons_append, List.nil_append]

theorem decL_none (s : List UInt8) (h : dgo s 0 0 [] = none) : decL s = none := by
  cases hd : decL s with
  | none => rfl
  | some d =>
    have := dgo_enc d 0 []
    rw [decL_some s d hd, h] at this; cases this
theorem decL_dgo (s b : List UInt8) (h : dgo s 0 0 [] = some b) : decL s = if encL b = s then some b else none := by
  split
  · rename_i e
    rw [← e]; exact decL_encL b
  · rename_i e
    cases hd : decL s with
    | none => rfl
    | some d =>
      have e1 := decL_some s d hd
      have := dgo_enc d 0 []
      rw [e1, h, List.nil_append] at this
      rw [Option.some.inj this] at e
      exact absurd e1 e

set_option maxRecDepth 100000 in
set_option maxHeartbeats 1000000 in
theorem fdecode_any (s : ByteArray) (w : World) (hs : s.size ≤ 100000) :
    Calls Tryz.prog 144 #[.string s] w fun e w' => e = .returned (decV (decL s.data.toList)) ∧ Below w.heap.size w w' := by
  obtain ⟨i0, hi, hz0, hz1, hz2⟩ := info_parts info_u8
  have hb0 : Below w.heap.size w (w.alloc (.cells #[] 5)) := (Below.refl _ _).alloc (Nat.le_refl _) _
  have hown0 : (w.alloc (.cells #[] 5)).ownsRow w.heap.size 5 1 (.slice (some ⟨w.heap.size, 0, none⟩) 0 0) 0 [] := World.ownsRow_lit w #[] 0 (Nat.le_refl _) (by decide) rfl
  have Hown0 := Lib.hid hown0
  clear hown0
  go_enter Tryz.func144, Tryz.ntmps144
  go_wp2_with fail
  go_loopw [4, 5, 6, 7] (fun bits many b i wr => ∃ (V M k : Nat) (acc : List UInt8), bits = .int .i64 V ∧ many = .int .i64 M ∧ i = .int .i64 k ∧ k ≤ s.size ∧ V < 262144 ∧ M ≤ 7 ∧ acc.length ≤ k ∧ Hid (dgo s.data.toList 0 0 [] = dgo (s.data.toList.drop k) V M acc) ∧ wr.ownsRow w.heap.size 5 1 b acc.length (acc.map u8V) ∧ Below w.heap.size w wr) (fun _ _ _ i _ => s.size - (intOf i).toNat)
  case atStart => exact ⟨0, 0, 0, [], rfl, rfl, rfl, by omega, by omega, by omega, by simp, Lib.hid rfl, Hown0.out, hb0⟩
  case round =>
    obtain ⟨V, M, k, acc, rfl, rfl, rfl, hk, hV, hM, hal, H, hown, hb⟩ := hrel
    clear hb0 Hown0
    by_cases hend : k < s.size → s.data.toList[k]? = some 61
    · have Hd : Hid (decL s.data.toList = if encL acc = s.data.toList then some acc else none) := Lib.hid (decL_dgo _ _ (by
        rw [H.out]
        by_cases hlt : k < s.size
        · have e := hend hlt
          rw [drop_cons_at s k hlt]
          have : s[k] = 61 := by
            have e2 : s.data.toList[k]? = some s[k] := List.getElem?_eq_getElem (by rw [← Lib.size_eq]; exact hlt)
            rw [e2] at e; exact Option.some.inj e
          rw [this, dgo_61]
        · rw [List.drop_of_length_le (by rw [← Lib.size_eq]; omega), dgo]))
      have hcv := run_owned_str (P := Tryz.prog) Tryz.underlying136 Tryz.underlying5 Tryz.underlying9 hown
      have cE := fencode_any (strB acc) wr (by rw [strB_size]; omega)
      rw [strB_data] at cE
      have htest : (∃ hlt : k < s.size, (((s[k]'hlt).toNat : Int) == 61) = true) ∨ ¬ k < s.size := by
        by_cases hlt : k < s.size
        · refine .inl ⟨hlt, ?_⟩
          have e := hend hlt
          have e2 : s.data.toList[k]? = some s[k] := List.getElem?_eq_getElem (by rw [← Lib.size_eq]; exact hlt)
          rw [e2] at e
          rw [Option.some.inj e]; decide
        · exact .inr hlt
      clear hend H
      by_cases he : encL acc = s.data.toList
      · have Hd2 : Hid (decL s.data.toList = some acc) := Lib.hid (by rw [Hd.out, if_pos he])
        have heq2 : ((strB (encL acc)).toList == s.toList) = true := by rw [Lib.toList_data, Lib.toList_data, strB_data, he]; simp
        have heq3 : ((strB (encL acc)).toList != s.toList) = false := by rw [bne, heq2] <;> rfl
        clear he Hd
        generalize strB (encL acc) = z at cE heq2 heq3
        rcases htest with ⟨hlt, h61⟩ | hlt
        all_goals
          go_wp2_with fail
          refine cE.mono ?_
          rintro e w1 ⟨rfl, hb1⟩
          have hcv2 := run_owned_str (P := Tryz.prog) Tryz.underlying136 Tryz.underlying5 Tryz.underlying9 (ownsRow_later hown hb1)
          clear hcv
          go_wp2_with fail
          go_ret2
          exact ⟨by rw [Hd2.out] <;> rfl, hb.trans (hb1.mono hb.size)⟩
      · have Hd2 : Hid (decL s.data.toList = none) := Lib.hid (by rw [Hd.out, if_neg he])
        have heq2 : ((strB (encL acc)).toList == s.toList) = false := by
          have : ¬ (strB (encL acc)).toList = s.toList := by rw [Lib.toList_data, Lib.toList_data, strB_data]; exact he
          simpa using this
        have heq3 : ((strB (encL acc)).toList != s.toList) = true := by rw [bne, heq2] <;> rfl
        clear he Hd
        generalize strB (encL acc) = z at cE heq2 heq3
        rcases htest with ⟨hlt, h61⟩ | hlt
        all_goals
          go_wp2_with fail
          refine cE.mono ?_
          rintro e w1 ⟨rfl, hb1⟩
          clear hcv
          go_wp2_with fail
          go_ret2
          exact ⟨by rw [Hd2.out] <;> rfl, hb.trans (hb1.mono hb.size)⟩
    · have hlt : k < s.size := by
        by_cases h : k < s.size
        · exact h
        · exact absurd (fun h2 => absurd h2 h) hend
      have h61 : s[k]'hlt ≠ 61 := by
        intro e
        refine hend (fun _ => ?_)
        have e2 : s.data.toList[k]? = some s[k] := List.getElem?_eq_getElem (by rw [← Lib.size_eq]; exact hlt)
        rw [e2, e]
      clear hend
      have g61 : (((s[k]'hlt).toNat : Int) == 61) = false := by
        have := byte_beq (s[k]'hlt) 61
        rw [show ((61 : UInt8).toNat : Int) = 61 from rfl] at this
        rw [this]; simpa using h61
      have n61 : (((s[k]'hlt).toNat : Int) != 61) = true := by rw [bne, g61] <;> rfl
      have Hdr := Lib.hid (drop_cons_at s k hlt)
      have cP := fun W => fplace_any (s[k]'hlt) W
      have hp64 := placeI_lt (s[k]'hlt)
      rw [drop_cons_at s k hlt, dgo, if_neg h61] at H
      generalize placeI (s[k]'hlt) = p at cP H hp64
      clear Hdr h61 g61
      by_cases hp : p < 0
      · have Hd : Hid (decL s.data.toList = none) := Lib.hid (decL_none _ (by rw [H.out, if_pos hp]))
        clear H
        have d1 : decide (p < 0) = true := by simpa using hp
        go_wp2_with fail
        refine (cP _).mono ?_
        rintro e w' ⟨rfl, rfl⟩
        go_wp2_with fail
        go_ret2
        exact ⟨by rw [Hd.out] <;> rfl, hb⟩
      · obtain ⟨P, rfl⟩ : ∃ P : Nat, p = (P : Int) := ⟨p.toNat, by omega⟩
        rw [if_neg hp, Int.toNat_natCast] at H
        obtain ⟨V2, hV2⟩ : ∃ V2, V % 4096 * 64 + P = V2 := ⟨_, rfl⟩
        rw [hV2] at H
        have hV3 : V2 < 262144 := by omega
        have q1 : (V : Int) % 4096 * 64 + (P : Int) = (V2 : Int) := by omega
        clear hV2
        have d1 : decide ((P : Int) < 0) = false := by simp
        by_cases hm : M + 6 < 8
        · rw [if_pos hm] at H
          have d2 : decide ((8 : Int) ≤ (M : Int) + 6) = false := by simp; omega
          go_wp2_with fail
          refine (cP _).mono ?_
          rintro e w' ⟨rfl, rfl⟩
          go_wp2_with fail
          go_roundw
          case rel => exact ⟨V2, M + 6, k + 1, acc, rfl, by go_num, by go_num, by omega, hV3, by omega, by omega, Lib.hid H.out, hown, hb⟩
          case measure => simp [intOf]; omega
        · rw [if_neg hm] at H
          obtain ⟨M2, hM2⟩ : ∃ M2, M - 2 = M2 := ⟨_, rfl⟩
          rw [hM2] at H
          have d2 : decide ((8 : Int) ≤ (M : Int) + 6) = true := by simp; omega
          have q2 : (M : Int) + 6 - 8 = (M2 : Int) := by omega
          have hM3 : M2 ≤ 7 := by omega
          clear hM2
          go_wp2_with fail
          refine (cP _).mono ?_
          rintro e w' ⟨rfl, rfl⟩
          go_wp2_with fail
          clear q1 q2
          go_loop [9, 10] (fun x j => ∃ J : Nat, J ≤ M2 ∧ j = .int .i64 J ∧ x = .int .i64 ((V2 / 2 ^ J : Nat) : Int)) (fun _ j => M2 - (intOf j).toNat)
          case atStart => exact ⟨0, Nat.zero_le _, rfl, by simp⟩
          case round =>
            obtain ⟨J, hJ, rfl, rfl⟩ := hrel
            have hX : V2 / 2 ^ J ≤ V2 := Nat.div_le_self _ _
            have HY : Hid (V2 / 2 ^ (J + 1) = V2 / 2 ^ J / 2) := Lib.hid (by rw [Nat.pow_succ, Nat.div_div_eq_div_mul])
            by_cases hJlt : J < M2
            · obtain ⟨Y, hY⟩ : ∃ Y, V2 / 2 ^ (J + 1) = Y := ⟨_, rfl⟩
              rw [hY] at HY
              generalize V2 / 2 ^ J = X at *
              have q3 : (X : Int) / 2 = (Y : Int) := by have := HY.out; omega
              have HYe := Lib.hid hY
              clear hY
              go_wp2_with fail
              go_round
              case rel => exact ⟨J + 1, by omega, by go_num, by rw [HYe.out]⟩
              case measure => simp [intOf]; omega
            · obtain rfl : J = M2 := by omega
              clear HY
              obtain ⟨B, hB⟩ : ∃ B, UInt8.ofNat (V2 / 2 ^ J) = B := ⟨_, rfl⟩
              rw [hB] at H
              have hBn : B.toNat = V2 / 2 ^ J % 256 := by rw [← hB, UInt8.toNat_ofNat']
              generalize V2 / 2 ^ J = X at *
              have q4 : (X : Int) % 256 = (B.toNat : Int) := by omega
              have hB2 := B.toNat_lt
              clear hB hBn
              go_wp2_with (at_builtin; refine wpList_append_own _ rfl _ _ 136 rfl w.heap.size 5 i0 (.int .u8 0) 1 1 Tryz.underlying136 hi hz0 hz1 hz2 rfl (by decide) _ _ _ rfl (hown.alloc _) ⟨_, 0, none⟩ 1 1 [.int .u8 (B.toNat : Int)] rfl rfl (cells_new _ _ _) (by simp [Value.oneCell']) (by unfold maxLen; omega) (by omega) (by have := hb.size; simp; omega) ?_; intro v' w2 hown' hgrow _)
              go_roundw
              case rel =>
                have hz3 := hb.size
                refine ⟨V2, J, k + 1, acc ++ [B], rfl, rfl, by go_num, by omega, hV3, by omega, by simp; omega, Lib.hid H.out, by simpa [u8V] using hown', ?_⟩
                exact (hb.alloc (by omega) _).grown hgrow (by simp; omega) (fun k e => (World.ownsRow.lt hown k e).1)
              case measure => simp [intOf]; omega

end Go.Proofs.YtpifbgefkbhopaaGreatDoor

namespace Go.Proofs.YtpifbgefkbhopaaGreatDoor
open Go.RowKit

theorem numL_app3 (z q : List UInt8) (h : q.length = 3) : numL (z ++ q) = 1000 * numL z + numL q := by
  match q, h with
  | [a, b, c], _ =>
    rw [numL_three]
    simp only [numL, List.foldl_cons, List.foldl_nil]
    omega

theorem extract_lst (s : ByteArray) (i n : Nat) : (s.extract i (i + n)).data.toList = (s.data.toList.drop i).take n := by
  rw [Lib.extract_data, Nat.add_sub_cancel_left]

set_option maxRecDepth 100000 in
set_option maxHeartbeats 1000000 in
theorem fnum0 (s : ByteArray) (w : World) (h0 : 0 < s.size) (hs : s.size ≤ 100000) (hm : (((s[0]'h0).toNat : Int) == 45) = false) :
    Calls Tryz.prog 140 #[.string s] w (gotPost (gotV (numTail 0 (1) s.data.toList)) w) := by
  have hb0 : Below w.heap.size w (w.alloc zeroBare) := (Below.refl _ _).alloc (Nat.le_refl _) _
  have hbb : ∀ o : Obj, Below w.heap.size w ((w.alloc o).alloc zeroBare) := fun o => ((Below.refl _ _).alloc (Nat.le_refl _) o).alloc (by simp) _
  have cD : ∀ W, Calls Tryz.prog 154 #[.string s, .int .i64 0] W fun e w' => e = .returned (.int .i64 ((ldig (s.data.toList.drop 0)).length : Int)) ∧ W = w' := fun W => fdigits_any s 0 W hs (by omega)
  have cV := fun W n h1 h2 => fvalue_any (s.extract 0 (0 + n)) W h1 h2
  have hex : ∀ n, (s.extract 0 (0 + n)).data.toList = (s.data.toList.drop 0).take n := extract_lst s 0
  have zall := ldig_all (s.data.toList.drop 0)
  have zle := ldig_len_le (s.data.toList.drop 0)
  rw [List.length_drop, ← Lib.size_eq] at zle
  have ztk : (s.data.toList.drop 0).take (ldig (s.data.toList.drop 0)).length = ldig (s.data.toList.drop 0) := take_takeWhile _ _
  generalize hz : ldig (s.data.toList.drop 0) = z at cD zall zle ztk
  obtain ⟨N, hN⟩ : ∃ N, z.length = N := ⟨_, rfl⟩
  rw [hN] at cD zle ztk
  by_cases hA : N = 0
  · rw [numTail_none hz (.inl (by omega))]
    rw [hA] at cD
    clear hz zall zle hN hA cV hex ztk hb0
    go_enter Tryz.func140, Tryz.ntmps140
    go_wp2_with fail
    refine (cD _).mono ?_
    rintro e w1 ⟨rfl, rfl⟩
    go_wp2
    exact bodyPost_ret (v := gotV none) (by simp [results, Tryz.results140, go_sem, gotV]) rfl ⟨rfl, hbb _⟩
  · by_cases hB : 15 < N
    · rw [numTail_none hz (.inr (by omega))]
      clear hz zall hN cV hex ztk hb0
      go_enter Tryz.func140, Tryz.ntmps140
      go_wp2_with fail
      refine (cD _).mono ?_
      rintro e w1 ⟨rfl, rfl⟩
      go_wp2
      exact bodyPost_ret (v := gotV none) (by simp [results, Tryz.results140, go_sem, gotV]) rfl ⟨rfl, hbb _⟩
    · have hN1 : 1 ≤ N := by omega
      have hN15 : N ≤ 15 := by omega
      clear hA hB
      have hXd := hex N
      rw [ztk] at hXd
      have cV1 := fun W => cV W N (by rw [Lib.size_eq, hXd]; omega) (by rw [hXd]; exact zall)
      rw [hXd] at cV1
      obtain ⟨v0, v1⟩ := numL_in z zall (by omega)
      clear cV hXd ztk
      rw [Nat.zero_add] at cV1
      by_cases hE : N < s.size
      · cases hd : (((s[N]'hE).toNat : Int) == 46)
        · have h3 : (s.data.toList.drop (0 + z.length)).head? ≠ some 46 := by
            rw [hN, Nat.zero_add, head_at s _ hE]
            intro e
            rw [Option.some.inj e] at hd
            exact absurd hd (by decide)
          rw [numTail_int hz (by omega) (by omega) h3, hN]
          have n46 : (((s[N]'hE).toNat : Int) != 46) = true := by rw [bne, hd] <;> rfl
          clear h3 hz zall hN hex hd
          generalize numL z = V at *
          go_enter Tryz.func140, Tryz.ntmps140
          go_wp2_with fail
          refine (cD _).mono ?_
          rintro e w1 ⟨rfl, rfl⟩
          go_wp2_with fail
          refine (cV1 _).mono ?_
          rintro e w1 ⟨rfl, rfl⟩
          go_wp2
          exact bodyPost_ret (v := gotV (some ⟨1, 1 * V, [], 0 + N⟩)) (by simp [results, Tryz.results140, go_sem, gotV, strB]) rfl ⟨by first | rfl | rw [Int.neg_one_mul], ((Below.refl _ _).alloc (Nat.le_refl _) _).alloc (by simp) _⟩
        · have h3 : (s.data.toList.drop (0 + z.length)).head? = some 46 := by
            rw [hN, Nat.zero_add, head_at s _ hE]
            congr 1
            have := byte_beq (s[N]'hE) 46
            rw [show ((46 : UInt8).toNat : Int) = 46 from rfl, hd] at this
            simpa using this.symm
          have n46 : (((s[N]'hE).toNat : Int) != 46) = false := by rw [bne, hd] <;> rfl
          have cP := fun W => fdigits_any s (N + 1) W hs (by omega)
          have pall := ldig_all (s.data.toList.drop (N + 1))
          have ple := ldig_len_le (s.data.toList.drop (N + 1))
          rw [List.length_drop, ← Lib.size_eq] at ple
          have ptk : (s.data.toList.drop (N + 1)).take (ldig (s.data.toList.drop (N + 1))).length = ldig (s.data.toList.drop (N + 1)) := take_takeWhile _ _
          generalize hp : ldig (s.data.toList.drop (N + 1)) = p at cP pall ple ptk
          have hp' : ldig (s.data.toList.drop (0 + z.length + 1)) = p := by rw [hN, Nat.zero_add]; exact hp
          obtain ⟨M, hM⟩ : ∃ M, p.length = M := ⟨_, rfl⟩
          rw [hM] at cP ple ptk
          have hpx : (s.extract (N + 1) (N + 1 + M)).data.toList = p := by rw [extract_lst, ptk]
          clear ptk hd
          by_cases d1 : 12 < N
          · rw [numTail_bad hz (by omega) (by omega) h3 hp' (.inl (by omega))]
            clear hz zall hN hex h3 hp hp' pall hM hpx
            generalize numL z = V at *
            go_enter Tryz.func140, Tryz.ntmps140
            go_wp2_with fail
            refine (cD _).mono ?_
            rintro e w1 ⟨rfl, rfl⟩
            go_wp2_with fail
            refine (cV1 _).mono ?_
            rintro e w1 ⟨rfl, rfl⟩
            go_wp2_with fail
            refine (cP _).mono ?_
            rintro e w1 ⟨rfl, rfl⟩
            go_wp2
            exact bodyPost_ret (v := gotV none) (by simp [results, Tryz.results140, go_sem, gotV]) rfl ⟨rfl, hbb _⟩
          · by_cases d2 : M = 0
            · rw [numTail_bad hz (by omega) (by omega) h3 hp' (.inr (.inl (by omega)))]
              rw [d2] at cP
              clear hz zall hN hex h3 hp hp' pall hM hpx ple d2
              generalize numL z = V at *
              go_enter Tryz.func140, Tryz.ntmps140
              go_wp2_with fail
              refine (cD _).mono ?_
              rintro e w1 ⟨rfl, rfl⟩
              go_wp2_with fail
              refine (cV1 _).mono ?_
              rintro e w1 ⟨rfl, rfl⟩
              go_wp2_with fail
              refine (cP _).mono ?_
              rintro e w1 ⟨rfl, rfl⟩
              go_wp2
              exact bodyPost_ret (v := gotV none) (by simp [results, Tryz.results140, go_sem, gotV]) rfl ⟨rfl, hbb _⟩
            · by_cases d3 : 3 < M
              · rw [numTail_bad hz (by omega) (by omega) h3 hp' (.inr (.inr (by omega)))]
                clear hz zall hN hex h3 hp hp' pall hM hpx d2
                generalize numL z = V at *
                go_enter Tryz.func140, Tryz.ntmps140
                go_wp2_with fail
                refine (cD _).mono ?_
                rintro e w1 ⟨rfl, rfl⟩
                go_wp2_with fail
                refine (cV1 _).mono ?_
                rintro e w1 ⟨rfl, rfl⟩
                go_wp2_with fail
                refine (cP _).mono ?_
                rintro e w1 ⟨rfl, rfl⟩
                go_wp2
                exact bodyPost_ret (v := gotV none) (by simp [results, Tryz.results140, go_sem, gotV]) rfl ⟨rfl, hbb _⟩
              · rw [numTail_dec hz (by omega) (by omega) h3 hp' (by omega) (by omega), hN, hM]
                have hq3 : ((p ++ [48, 48]).take 3).length = 3 := by rw [List.length_take, List.length_append, hM]; simp; omega
                rw [numL_app3 z _ hq3]
                have qall : ((p ++ [48, 48]).take 3).all (fun c => digI c.toNat) = true := pad_all p pall
                have hqd : ((s.extract (N + 1) (N + 1 + M) ++ (⟨#[48, 48]⟩ : ByteArray)).extract 0 3).data.toList = (p ++ [48, 48]).take 3 := by rw [extract_take, append_data, hpx]
                have cQ := fun W => fvalue_any ((s.extract (N + 1) (N + 1 + M) ++ (⟨#[48, 48]⟩ : ByteArray)).extract 0 3) W (by rw [Lib.size_eq, hqd]; omega) (by rw [hqd]; exact qall)
                rw [hqd] at cQ
                obtain ⟨u0, u1⟩ := numL_bd ((p ++ [48, 48]).take 3) 0 0 (by omega) (by decide) qall
                rw [hq3] at u1
                have z12 := numL_bd z 0 0 (by omega) (by decide) zall
                rw [hN] at z12
                have z13 : numL z < 1000000000000 := Int.lt_of_lt_of_le z12.2 (pow_mono (0 + N) 12 (by omega))
                have u2 : numL ((p ++ [48, 48]).take 3) < 1000 := u1
                have u3 : 0 ≤ numL ((p ++ [48, 48]).take 3) := u0
                have hps : (s.extract (N + 1) (N + 1 + M)).size = M := by rw [Lib.size_eq, hpx, hM]
                clear hz zall hN hex h3 hp hp' pall hM hpx hqd qall hq3 u0 u1 z12 hbb hb0
                generalize numL z = V at *
                generalize numL ((p ++ [48, 48]).take 3) = U at *
                go_enter Tryz.func140, Tryz.ntmps140
                go_wp2_with fail
                refine (cD _).mono ?_
                rintro e w1 ⟨rfl, rfl⟩
                go_wp2_with fail
                refine (cV1 _).mono ?_
                rintro e w1 ⟨rfl, rfl⟩
                go_wp2_with fail
                refine (cP _).mono ?_
                rintro e w1 ⟨rfl, rfl⟩
                go_wp2_with fail
                refine (cQ _).mono ?_
                rintro e w1 ⟨rfl, rfl⟩
                go_wp2
                exact bodyPost_ret (v := gotV (some ⟨2, 1 * (1000 * V + U), [], 0 + N + 1 + M⟩)) (by simp [results, Tryz.results140, go_sem, gotV, strB]) rfl ⟨by first | rfl | rw [Int.neg_one_mul], ((Below.refl _ _).alloc (Nat.le_refl _) _).alloc (by simp) _⟩
      · have h3 : (s.data.toList.drop (0 + z.length)).head? ≠ some 46 := by
          rw [List.drop_of_length_le (by rw [← Lib.size_eq]; omega)]
          simp
        rw [numTail_int hz (by omega) (by omega) h3, hN]
        clear h3 hz zall hN hex
        generalize numL z = V at *
        go_enter Tryz.func140, Tryz.ntmps140
        go_wp2_with fail
        refine (cD _).mono ?_
        rintro e w1 ⟨rfl, rfl⟩
        go_wp2_with fail
        refine (cV1 _).mono ?_
        rintro e w1 ⟨rfl, rfl⟩
        go_wp2
        exact bodyPost_ret (v := gotV (some ⟨1, 1 * V, [], 0 + N⟩)) (by simp [results, Tryz.results140, go_sem, gotV, strB]) rfl ⟨by first | rfl | rw [Int.neg_one_mul], ((Below.refl _ _).alloc (Nat.le_refl _) _).alloc (by simp) _⟩

set_option maxRecDepth 100000 in
set_option maxHeartbeats 1000000 in
theorem fnum1 (s : ByteArray) (w : World) (h0 : 0 < s.size) (hs : s.size ≤ 100000) (hm : (((s[0]'h0).toNat : Int) == 45) = true) :
    Calls Tryz.prog 140 #[.string s] w (gotPost (gotV (numTail 1 (-1) s.data.toList)) w) := by
  have hb0 : Below w.heap.size w (w.alloc zeroBare) := (Below.refl _ _).alloc (Nat.le_refl _) _
  have hbb : ∀ o : Obj, Below w.heap.size w ((w.alloc o).alloc zeroBare) := fun o => ((Below.refl _ _).alloc (Nat.le_refl _) o).alloc (by simp) _
  have cD : ∀ W, Calls Tryz.prog 154 #[.string s, .int .i64 1] W fun e w' => e = .returned (.int .i64 ((ldig (s.data.toList.drop 1)).length : Int)) ∧ W = w' := fun W => fdigits_any s 1 W hs (by omega)
  have cV := fun W n h1 h2 => fvalue_any (s.extract 1 (1 + n)) W h1 h2
  have hex : ∀ n, (s.extract 1 (1 + n)).data.toList = (s.data.toList.drop 1).take n := extract_lst s 1
  have zall := ldig_all (s.data.toList.drop 1)
  have zle := ldig_len_le (s.data.toList.drop 1)
  rw [List.length_drop, ← Lib.size_eq] at zle
  have ztk : (s.data.toList.drop 1).take (ldig (s.data.toList.drop 1)).length = ldig (s.data.toList.drop 1) := take_takeWhile _ _
  generalize hz : ldig (s.data.toList.drop 1) = z at cD zall zle ztk
  obtain ⟨N, hN⟩ : ∃ N, z.length = N := ⟨_, rfl⟩
  rw [hN] at cD zle ztk
  by_cases hA : N = 0
  · rw [numTail_none hz (.inl (by omega))]
    rw [hA] at cD
    clear hz zall zle hN hA cV hex ztk hb0
    go_enter Tryz.func140, Tryz.ntmps140
    go_wp2_with fail
    refine (cD _).mono ?_
    rintro e w1 ⟨rfl, rfl⟩
    go_wp2
    exact bodyPost_ret (v := gotV none) (by simp [results, Tryz.results140, go_sem, gotV]) rfl ⟨rfl, hbb _⟩
  · by_cases hB : 15 < N
    · rw [numTail_none hz (.inr (by omega))]
      clear hz zall hN cV hex ztk hb0
      go_enter Tryz.func140, Tryz.ntmps140
      go_wp2_with fail
      refine (cD _).mono ?_
      rintro e w1 ⟨rfl, rfl⟩
      go_wp2
      exact bodyPost_ret (v := gotV none) (by simp [results, Tryz.results140, go_sem, gotV]) rfl ⟨rfl, hbb _⟩
    · have hN1 : 1 ≤ N := by omega
      have hN15 : N ≤ 15 := by omega
      clear hA hB
      have hXd := hex N
      rw [ztk] at hXd
      have cV1 := fun W => cV W N (by rw [Lib.size_eq, hXd]; omega) (by rw [hXd]; exact zall)
      rw [hXd] at cV1
      obtain ⟨v0, v1⟩ := numL_in z zall (by omega)
      clear cV hXd ztk
      skip
      by_cases hE : (1 + N) < s.size
      · cases hd : (((s[(1 + N)]'hE).toNat : Int) == 46)
        · have h3 : (s.data.toList.drop (1 + z.length)).head? ≠ some 46 := by
            rw [hN, head_at s _ hE]
            intro e
            rw [Option.some.inj e] at hd
            exact absurd hd (by decide)
          rw [numTail_int hz (by omega) (by omega) h3, hN]
          have n46 : (((s[(1 + N)]'hE).toNat : Int) != 46) = true := by rw [bne, hd] <;> rfl
          clear h3 hz zall hN hex hd
          generalize numL z = V at *
          go_enter Tryz.func140, Tryz.ntmps140
          go_wp2_with fail
          refine (cD _).mono ?_
          rintro e w1 ⟨rfl, rfl⟩
          go_wp2_with fail
          refine (cV1 _).mono ?_
          rintro e w1 ⟨rfl, rfl⟩
          go_wp2
          exact bodyPost_ret (v := gotV (some ⟨1, -1 * V, [], 1 + N⟩)) (by simp [results, Tryz.results140, go_sem, gotV, strB]) rfl ⟨by first | rfl | rw [Int.neg_one_mul], ((Below.refl _ _).alloc (Nat.le_refl _) _).alloc (by simp) _⟩
        · have h3 : (s.data.toList.drop (1 + z.length)).head? = some 46 := by
            rw [hN, head_at s _ hE]
            congr 1
            have := byte_beq (s[(1 + N)]'hE) 46
            rw [show ((46 : UInt8).toNat : Int) = 46 from rfl, hd] at this
            simpa using this.symm
          have n46 : (((s[(1 + N)]'hE).toNat : Int) != 46) = false := by rw [bne, hd] <;> rfl
          have cP := fun W => fdigits_any s ((1 + N) + 1) W hs (by omega)
          have pall := ldig_all (s.data.toList.drop ((1 + N) + 1))
          have ple := ldig_len_le (s.data.toList.drop ((1 + N) + 1))
          rw [List.length_drop, ← Lib.size_eq] at ple
          have ptk : (s.data.toList.drop ((1 + N) + 1)).take (ldig (s.data.toList.drop ((1 + N) + 1))).length = ldig (s.data.toList.drop ((1 + N) + 1)) := take_takeWhile _ _
          generalize hp : ldig (s.data.toList.drop ((1 + N) + 1)) = p at cP pall ple ptk
          have hp' : ldig (s.data.toList.drop (1 + z.length + 1)) = p := by rw [hN]; exact hp
          obtain ⟨M, hM⟩ : ∃ M, p.length = M := ⟨_, rfl⟩
          rw [hM] at cP ple ptk
          have hpx : (s.extract ((1 + N) + 1) ((1 + N) + 1 + M)).data.toList = p := by rw [extract_lst, ptk]
          clear ptk hd
          by_cases d1 : 12 < N
          · rw [numTail_bad hz (by omega) (by omega) h3 hp' (.inl (by omega))]
            clear hz zall hN hex h3 hp hp' pall hM hpx
            generalize numL z = V at *
            go_enter Tryz.func140, Tryz.ntmps140
            go_wp2_with fail
            refine (cD _).mono ?_
            rintro e w1 ⟨rfl, rfl⟩
            go_wp2_with fail
            refine (cV1 _).mono ?_
            rintro e w1 ⟨rfl, rfl⟩
            go_wp2_with fail
            refine (cP _).mono ?_
            rintro e w1 ⟨rfl, rfl⟩
            go_wp2
            exact bodyPost_ret (v := gotV none) (by simp [results, Tryz.results140, go_sem, gotV]) rfl ⟨rfl, hbb _⟩
          · by_cases d2 : M = 0
            · rw [numTail_bad hz (by omega) (by omega) h3 hp' (.inr (.inl (by omega)))]
              rw [d2] at cP
              clear hz zall hN hex h3 hp hp' pall hM hpx ple d2
              generalize numL z = V at *
              go_enter Tryz.func140, Tryz.ntmps140
              go_wp2_with fail
              refine (cD _).mono ?_
              rintro e w1 ⟨rfl, rfl⟩
              go_wp2_with fail
              refine (cV1 _).mono ?_
              rintro e w1 ⟨rfl, rfl⟩
              go_wp2_with fail
              refine (cP _).mono ?_
              rintro e w1 ⟨rfl, rfl⟩
              go_wp2
              exact bodyPost_ret (v := gotV none) (by simp [results, Tryz.results140, go_sem, gotV]) rfl ⟨rfl, hbb _⟩
            · by_cases d3 : 3 < M
              · rw [numTail_bad hz (by omega) (by omega) h3 hp' (.inr (.inr (by omega)))]
                clear hz zall hN hex h3 hp hp' pall hM hpx d2
                generalize numL z = V at *
                go_enter Tryz.func140, Tryz.ntmps140
                go_wp2_with fail
                refine (cD _).mono ?_
                rintro e w1 ⟨rfl, rfl⟩
                go_wp2_with fail
                refine (cV1 _).mono ?_
                rintro e w1 ⟨rfl, rfl⟩
                go_wp2_with fail
                refine (cP _).mono ?_
                rintro e w1 ⟨rfl, rfl⟩
                go_wp2
                exact bodyPost_ret (v := gotV none) (by simp [results, Tryz.results140, go_sem, gotV]) rfl ⟨rfl, hbb _⟩
              · rw [numTail_dec hz (by omega) (by omega) h3 hp' (by omega) (by omega), hN, hM]
                have hq3 : ((p ++ [48, 48]).take 3).length = 3 := by rw [List.length_take, List.length_append, hM]; simp; omega
                rw [numL_app3 z _ hq3]
                have qall : ((p ++ [48, 48]).take 3).all (fun c => digI c.toNat) = true := pad_all p pall
                have hqd : ((s.extract ((1 + N) + 1) ((1 + N) + 1 + M) ++ (⟨#[48, 48]⟩ : ByteArray)).extract 0 3).data.toList = (p ++ [48, 48]).take 3 := by rw [extract_take, append_data, hpx]
                have cQ := fun W => fvalue_any ((s.extract ((1 + N) + 1) ((1 + N) + 1 + M) ++ (⟨#[48, 48]⟩ : ByteArray)).extract 0 3) W (by rw [Lib.size_eq, hqd]; omega) (by rw [hqd]; exact qall)
                rw [hqd] at cQ
                obtain ⟨u0, u1⟩ := numL_bd ((p ++ [48, 48]).take 3) 0 0 (by omega) (by decide) qall
                rw [hq3] at u1
                have z12 := numL_bd z 0 0 (by omega) (by decide) zall
                rw [hN] at z12
                have z13 : numL z < 1000000000000 := Int.lt_of_lt_of_le z12.2 (pow_mono (0 + N) 12 (by omega))
                have u2 : numL ((p ++ [48, 48]).take 3) < 1000 := u1
                have u3 : 0 ≤ numL ((p ++ [48, 48]).take 3) := u0
                have hps : (s.extract ((1 + N) + 1) ((1 + N) + 1 + M)).size = M := by rw [Lib.size_eq, hpx, hM]
                clear hz zall hN hex h3 hp hp' pall hM hpx hqd qall hq3 u0 u1 z12 hbb hb0
                generalize numL z = V at *
                generalize numL ((p ++ [48, 48]).take 3) = U at *
                go_enter Tryz.func140, Tryz.ntmps140
                go_wp2_with fail
                refine (cD _).mono ?_
                rintro e w1 ⟨rfl, rfl⟩
                go_wp2_with fail
                refine (cV1 _).mono ?_
                rintro e w1 ⟨rfl, rfl⟩
                go_wp2_with fail
                refine (cP _).mono ?_
                rintro e w1 ⟨rfl, rfl⟩
                go_wp2_with fail
                refine (cQ _).mono ?_
                rintro e w1 ⟨rfl, rfl⟩
                go_wp2
                exact bodyPost_ret (v := gotV (some ⟨2, -1 * (1000 * V + U), [], 1 + N + 1 + M⟩)) (by simp [results, Tryz.results140, go_sem, gotV, strB]) rfl ⟨by first | rfl | rw [Int.neg_one_mul], ((Below.refl _ _).alloc (Nat.le_refl _) _).alloc (by simp) _⟩
      · have h3 : (s.data.toList.drop (1 + z.length)).head? ≠ some 46 := by
          rw [List.drop_of_length_le (by rw [← Lib.size_eq]; omega)]
          simp
        rw [numTail_int hz (by omega) (by omega) h3, hN]
        clear h3 hz zall hN hex
        generalize numL z = V at *
        go_enter Tryz.func140, Tryz.ntmps140
        go_wp2_with fail
        refine (cD _).mono ?_
        rintro e w1 ⟨rfl, rfl⟩
        go_wp2_with fail
        refine (cV1 _).mono ?_
        rintro e w1 ⟨rfl, rfl⟩
        go_wp2
        exact bodyPost_ret (v := gotV (some ⟨1, -1 * V, [], 1 + N⟩)) (by simp [results, Tryz.results140, go_sem, gotV, strB]) rfl ⟨by first | rfl | rw [Int.neg_one_mul], ((Below.refl _ _).alloc (Nat.le_refl _) _).alloc (by simp) _⟩

theorem freadNumber_any (s : ByteArray) (w : World) (h0 : 0 < s.size) (hs : s.size ≤ 100000) :
    Calls Tryz.prog 140 #[.string s] w (gotPost (gotV (readNumL s.data.toList)) w) := by
  have hh : s.data.toList.head? = some (s[0]'h0) := by have := head_at s 0 h0; rwa [List.drop_zero] at this
  have hb : (((s[0]'h0).toNat : Int) == 45) = (s[0]'h0 == 45) := byte_beq _ 45
  cases hm : (((s[0]'h0).toNat : Int) == 45)
  · have hr : readNumL s.data.toList = numTail 0 1 s.data.toList := by
      rw [hm] at hb
      have : ¬ s[0]'h0 = 45 := by simpa using hb.symm
      rw [readNumL, hh, if_neg (by simpa using this)]
    rw [hr]
    exact fnum0 s w h0 hs hm
  · have hr : readNumL s.data.toList = numTail 1 (-1) s.data.toList := by
      rw [hm] at hb
      have : s[0]'h0 = 45 := by simpa using hb.symm
      rw [readNumL, hh, if_pos (by rw [this])]
    rw [hr]
    exact fnum1 s w h0 hs hm

end Go.Proofs.YtpifbgefkbhopaaGreatDoor

namespace Go.Proofs.YtpifbgefkbhopaaGreatDoor
open Go.RowKit

theorem no_cells3 (w : World) (o : Obj) (w1 : World) (hb : Below ((w.alloc zeroBare).alloc o).heap.size ((w.alloc zeroBare).alloc o) w1) : (w1.cell? ⟨w.heap.size, 0, none⟩ = some (.int .i64 0) ∧ w1.cell? ⟨w.heap.size, 1, none⟩ = some (.int .i64 0) ∧ w1.cell? ⟨w.heap.size, 2, none⟩ = some (.string ⟨#[]⟩)) ∧ (w1.frozen? ⟨w.heap.size, 0, none⟩ = false ∧ w1.frozen? ⟨w.heap.size, 1, none⟩ = false ∧ w1.frozen? ⟨w.heap.size, 2, none⟩ = false) := by
  have h1 : Below (w.alloc zeroBare).heap.size (w.alloc zeroBare) ((w.alloc zeroBare).alloc o) := (Below.refl _ _).alloc (Nat.le_refl _) _
  exact no_cells w w1 (h1.trans (hb.mono h1.size))

theorem none_cells (w w1 : World) (hb : Below ((w.alloc zeroBare).alloc zeroBare).heap.size ((w.alloc zeroBare).alloc zeroBare) w1) : w1.cell? ⟨w.heap.size + 1, 0, none⟩ = some (.int .i64 0) ∧ w1.cell? ⟨w.heap.size + 1, 1, none⟩ = some (.int .i64 0) ∧ w1.cell? ⟨w.heap.size + 1, 2, none⟩ = some (.string ⟨#[]⟩) := by
  have := no_cells (w.alloc zeroBare) w1 hb
  simpa using this.1

theorem indexByte_drop (l : List UInt8) (k : Nat) (hk : 1 ≤ k) (hno : ∀ j, 1 ≤ j → j < k → l[j]? ≠ some 58) (h : l[k]? = some 58) : Lib.indexByte (l.drop 1) 58 = ((k - 1 : Nat) : Int) := by
  have hl : k < l.length := (List.getElem?_eq_some_iff.1 h).1
  have e : l.drop 1 = (l.drop 1).take (k - 1) ++ 58 :: (l.drop 1).drop (k - 1 + 1) := by
    have h2 : (l.drop 1).drop (k - 1) = 58 :: (l.drop 1).drop (k - 1 + 1) := by
      rw [List.drop_drop, List.drop_drop, show 1 + (k - 1) = k by omega, show 1 + (k - 1 + 1) = k + 1 by omega, List.drop_eq_getElem_cons hl]
      congr 1
      have := List.getElem?_eq_getElem hl
      rw [this] at h
      exact Option.some.inj h
    rw [← h2, List.take_append_drop]
  have hlen : ((l.drop 1).take (k - 1)).length = k - 1 := by rw [List.length_take, List.length_drop]; omega
  rw [e, indexByte_at 58 _ _ (fun x hx => ?_), hlen]
  intro ex
  subst ex
  obtain ⟨j, hj, hx2⟩ := List.mem_iff_getElem.1 hx
  rw [hlen] at hj
  rw [List.getElem_take, List.getElem_drop] at hx2
  refine hno (1 + j) (by omega) (by omega) ?_
  rw [List.getElem?_eq_getElem (by omega), hx2]

theorem indexByte_no (l : List UInt8) (hno : ∀ j, 1 ≤ j → j < l.length → l[j]? ≠ some 58) : Lib.indexByte (l.drop 1) 58 = -1 := by
  by_cases h : Lib.indexByte (l.drop 1) 58 = -1
  · exact h
  · exfalso
    obtain ⟨h0, h1⟩ := index_le _ _ h
    obtain ⟨o, ho⟩ := Int.eq_ofNat_of_zero_le h0
    obtain ⟨h3, _⟩ := Lib.indexByte_some (l := l.drop 1) (c := 58) (o := o) ho
    rw [ho, Int.toNat_natCast, List.length_drop] at h1
    rw [List.getElem?_drop] at h3
    exact hno (1 + o) (by omega) (by omega) h3

theorem tlen_scan (s : ByteArray) (k : Nat) (h0 : 0 < s.size) (hb : btI (s[0]'h0).toNat = true) (hk : 1 ≤ k) (hks : k ≤ s.size) (hall : ∀ j (hj : j < s.size), 1 ≤ j → j < k → ttI (s[j]'hj).toNat = true) (hend : ∀ hlt : k < s.size, ttI (s[k]'hlt).toNat = false) : tlen s.data.toList = k := by
  have e0 := drop_cons_at s 0 h0
  rw [List.drop_zero] at e0
  have hr : (s.data.toList.drop 1).takeWhile (fun c => ttI c.toNat) = (s.data.toList.drop 1).take (k - 1) := by
    have hsplit : s.data.toList.drop 1 = (s.data.toList.drop 1).take (k - 1) ++ s.data.toList.drop k := by
      conv => lhs; rw [← List.take_append_drop (k - 1) (s.data.toList.drop 1)]
      rw [List.drop_drop, show 1 + (k - 1) = k by omega]
    have hta : ((s.data.toList.drop 1).take (k - 1)).all (fun c => ttI c.toNat) = true := by
      rw [List.all_eq_true]
      intro x hx
      obtain ⟨j, hj, rfl⟩ := List.mem_iff_getElem.1 hx
      rw [List.length_take, List.length_drop] at hj
      rw [List.getElem_take, List.getElem_drop]
      exact hall (1 + j) (by rw [Lib.size_eq]; omega) (by omega) (by omega)
    conv => lhs; rw [hsplit]
    rw [takeWhile_all _ _ _ hta]
    have : (s.data.toList.drop k).takeWhile (fun c => ttI c.toNat) = [] := by
      by_cases hlt : k < s.size
      · rw [drop_cons_at s k hlt, List.takeWhile_cons, hend hlt] <;> rfl
      · rw [List.drop_of_length_le (by rw [← Lib.size_eq]; omega)] <;> rfl
    rw [this, List.append_nil]
  rw [e0, tlen, if_pos hb, show (0 + 1) = 1 from rfl, hr, List.length_take, List.length_drop, ← Lib.size_eq]
  omega

end Go.Proofs.YtpifbgefkbhopaaGreatDoor

namespace Go.Proofs.YtpifbgefkbhopaaGreatDoor
open Go.RowKit

abbrev twoBare (w : World) : World := (w.alloc zeroBare).alloc zeroBare
theorem below_two (w : World) : Below w.heap.size w (twoBare w) := ((Below.refl _ _).alloc (Nat.le_refl _) _).alloc (by simp) _

set_option maxRecDepth 100000 in
set_option maxHeartbeats 1000000 in
/-- The ways that hand on what another reader answers. -/
theorem fread_on (s : ByteArray) (w : World) (h0 : 0 < s.size) (hs : s.size ≤ 100000) (hw : (((s[0]'h0).toNat : Int) == 45 || digI (s[0]'h0).toNat) = true ∨ ((((s[0]'h0).toNat : Int) == 45 || digI (s[0]'h0).toNat) = false ∧ (((s[0]'h0).toNat : Int) == 34) = true)) :
    Calls Tryz.prog 121 #[.string s] w (gotPost (gotV (readL s.data.toList)) w) := by
  have hemp : s.toList.isEmpty = false := by rw [Lib.toList_data]; exact isEmpty_false_of s h0
  have hr := readL_at s h0
  have cD := fun W => fdigit_any ((s[0]'h0).toNat : Int) W
  have cM := fun W => freadNumber_any s W h0 hs
  have cS := fun W => freadString_any s W h0 hs
  have hb0 := below_two w
  rcases hw with h | ⟨h, h34⟩
  · rw [h] at hr
    simp only [ite_true] at hr
    rw [hr]
    obtain ⟨a, b, t, m, x, hv⟩ := gotV_is (readNumL s.data.toList)
    rw [hv] at cM ⊢
    clear hr hv cS
    cases g1 : (((s[0]'h0).toNat : Int) == 45)
    · have g2 : digI ((s[0]'h0).toNat : Int) = true := by rw [g1] at h; exact h
      rw [g2] at cD
      clear h g2
      go_enter Tryz.func121, Tryz.ntmps121
      go_wp2_with fail
      refine (cD _).mono ?_
      rintro e w1 ⟨rfl, rfl⟩
      go_wp2_with fail
      refine (cM _).mono ?_
      rintro e w2 ⟨rfl, hb2⟩
      obtain ⟨⟨p0, p1, p2⟩, f0, f1, f2⟩ := no_cells3 w zeroBare w2 hb2
      have hb3 := hb0.trans (hb2.mono hb0.size)
      clear hb2
      go_wp2
      exact bodyPost_ret (v := .tuple #[.agg #[.int .i64 a, .int .i64 b, .string t], .int .i64 m, .int .i64 x]) (by simp [results, Tryz.results121, go_sem, p0, p1, p2]) rfl ⟨rfl, ((hb3.setCell (by simp) _).setCell (by simp) _).setCell (by simp) _⟩
    · clear h cD
      go_enter Tryz.func121, Tryz.ntmps121
      go_wp2_with fail
      refine (cM _).mono ?_
      rintro e w2 ⟨rfl, hb2⟩
      obtain ⟨⟨p0, p1, p2⟩, f0, f1, f2⟩ := no_cells3 w zeroBare w2 hb2
      have hb3 := hb0.trans (hb2.mono hb0.size)
      clear hb2
      go_wp2
      exact bodyPost_ret (v := .tuple #[.agg #[.int .i64 a, .int .i64 b, .string t], .int .i64 m, .int .i64 x]) (by simp [results, Tryz.results121, go_sem, p0, p1, p2]) rfl ⟨rfl, ((hb3.setCell (by simp) _).setCell (by simp) _).setCell (by simp) _⟩
  · rw [h, h34] at hr
    simp only [ite_true, Bool.false_eq_true, if_false] at hr
    rw [hr]
    obtain ⟨a, b, t, m, x, hv⟩ := gotV_is (readStrL s.data.toList)
    rw [hv] at cS ⊢
    rw [Bool.or_eq_false_iff] at h
    obtain ⟨g1, g2⟩ := h
    rw [g2] at cD
    clear hr hv cM g2
    go_enter Tryz.func121, Tryz.ntmps121
    go_wp2_with fail
    refine (cD _).mono ?_
    rintro e w1 ⟨rfl, rfl⟩
    go_wp2_with fail
    refine (cS _).mono ?_
    rintro e w2 ⟨rfl, hb2⟩
    obtain ⟨⟨p0, p1, p2⟩, f0, f1, f2⟩ := no_cells3 w zeroBare w2 hb2
    have hb3 := hb0.trans (hb2.mono hb0.size)
    clear hb2
    go_wp2
    exact bodyPost_ret (v := .tuple #[.agg #[.int .i64 a, .int .i64 b, .string t], .int .i64 m, .int .i64 x]) (by simp [results, Tryz.results121, go_sem, p0, p1, p2]) rfl ⟨rfl, ((hb3.setCell (by simp) _).setCell (by simp) _).setCell (by simp) _⟩

set_option maxRecDepth 100000 in
set_option maxHeartbeats 1000000 in
theorem fread_tok (s : ByteArray) (w : World) (h0 : 0 < s.size) (hs : s.size ≤ 100000) (g1 : (((s[0]'h0).toNat : Int) == 45) = false) (g2 : digI (s[0]'h0).toNat = false) (g3 : (((s[0]'h0).toNat : Int) == 34) = false) (g4 : btI (s[0]'h0).toNat = true) :
    Calls Tryz.prog 121 #[.string s] w (gotPost (gotV (readL s.data.toList)) w) := by
  have hemp : s.toList.isEmpty = false := by rw [Lib.toList_data]; exact isEmpty_false_of s h0
  have hr := readL_at s h0
  rw [g1, g2, g3, g4] at hr
  simp only [Bool.or_false, ite_true, Bool.false_eq_true, if_false] at hr
  have Hr := Lib.hid hr
  have Hbt := Lib.hid g4
  have cD := fun W => fdigit_any ((s[0]'h0).toNat : Int) W
  have cA := fun W => falpha_any ((s[0]'h0).toNat : Int) W
  rw [g2] at cD
  rw [btI_is] at g4
  clear hr g2
  cases g5 : ltrI ((s[0]'h0).toNat : Int) <;> cases g6 : (((s[0]'h0).toNat : Int) == 42)
  · rw [g5, g6] at g4; cases g4
  all_goals
    rw [g5] at cA
    clear g4 g5
    go_enter Tryz.func121, Tryz.ntmps121
    go_wp2_with fail
    refine (cD _).mono ?_
    rintro e w1 ⟨rfl, rfl⟩
    go_wp2_with fail
    refine (cA _).mono ?_
    rintro e w1 ⟨rfl, rfl⟩
    go_wp2_with fail
    clear cA cD
    go_loop [7] (fun i => ∃ k : Nat, 1 ≤ k ∧ k ≤ s.size ∧ i = .int .i64 k ∧ Hid (∀ j (hj : j < s.size), 1 ≤ j → j < k → ttI (s[j]'hj).toNat = true)) (fun i => s.size - (intOf i).toNat)
    case atStart => exact ⟨1, by omega, by omega, rfl, Lib.hid (fun j _ h1 h2 => by omega)⟩
    case round =>
      obtain ⟨k, hk1, hk, rfl, H⟩ := hrel
      by_cases hlt : k < s.size
      · have cT := fun W => ftoken_any (s[k]'hlt) W
        cases hd : ttI ((s[k]'hlt).toNat : Int)
        · have Ht : Hid (gotV (readL s.data.toList) = .tuple #[.agg #[.int .i64 4, .int .i64 0, .string (s.extract 0 k)], .int .i64 (k : Int), .int .i64 0]) := Lib.hid (by
            rw [Hr.out, tlen_scan s k h0 Hbt.out hk1 hk H.out (fun _ => hd), gotV, ← extract_take, strB_of])
          rw [hd] at cT
          clear hd H
          go_wp2_with fail
          refine (cT _).mono ?_
          rintro e w1 ⟨rfl, rfl⟩
          go_wp2
          exact bodyPost_ret (v := .tuple #[.agg #[.int .i64 4, .int .i64 0, .string (s.extract 0 k)], .int .i64 (k : Int), .int .i64 0]) (by simp [results, Tryz.results121, go_sem]) rfl ⟨by rw [Ht.out], ((Below.refl _ _).alloc (Nat.le_refl _) _).alloc (by simp) _⟩
        · have Hn : Hid (∀ j (hj : j < s.size), 1 ≤ j → j < k + 1 → ttI (s[j]'hj).toNat = true) := Lib.hid (fun j hj h1 h2 => by
            by_cases e : j = k
            · subst e; exact hd
            · exact H.out j hj h1 (by omega))
          rw [hd] at cT
          clear hd
          go_wp2_with fail
          refine (cT _).mono ?_
          rintro e w1 ⟨rfl, rfl⟩
          go_wp2_with fail
          go_round
          case rel => exact ⟨k + 1, by omega, by omega, by go_num, Lib.hid Hn.out⟩
          case measure => simp [intOf]; omega
      · have Ht : Hid (gotV (readL s.data.toList) = .tuple #[.agg #[.int .i64 4, .int .i64 0, .string (s.extract 0 k)], .int .i64 (k : Int), .int .i64 0]) := Lib.hid (by
          rw [Hr.out, tlen_scan s k h0 Hbt.out hk1 hk H.out (fun h => absurd h hlt), gotV, ← extract_take, strB_of])
        clear H
        go_wp2
        exact bodyPost_ret (v := .tuple #[.agg #[.int .i64 4, .int .i64 0, .string (s.extract 0 k)], .int .i64 (k : Int), .int .i64 0]) (by simp [results, Tryz.results121, go_sem]) rfl ⟨by rw [Ht.out], ((Below.refl _ _).alloc (Nat.le_refl _) _).alloc (by simp) _⟩

set_option maxRecDepth 100000 in
set_option maxHeartbeats 1000000 in
theorem fread_bytes (s : ByteArray) (w : World) (h0 : 0 < s.size) (hs : s.size ≤ 100000) (g1 : (((s[0]'h0).toNat : Int) == 45) = false) (g2 : digI (s[0]'h0).toNat = false) (g3 : (((s[0]'h0).toNat : Int) == 34) = false) (g4 : ltrI (s[0]'h0).toNat = false) (g5 : (((s[0]'h0).toNat : Int) == 42) = false) (g6 : (((s[0]'h0).toNat : Int) == 58) = true) (g7 : (((s[0]'h0).toNat : Int) == 63) = false) :
    Calls Tryz.prog 121 #[.string s] w (gotPost (gotV (readL s.data.toList)) w) := by
  have hemp : s.toList.isEmpty = false := by rw [Lib.toList_data]; exact isEmpty_false_of s h0
  have hr := readL_at s h0
  rw [g1, g2, g3, btI_is, g4, g5, g6] at hr
  simp only [Bool.or_false, ite_true, Bool.false_eq_true, if_false] at hr
  have Hr := Lib.hid hr
  have cD := fun W => fdigit_any ((s[0]'h0).toNat : Int) W
  have cA := fun W => falpha_any ((s[0]'h0).toNat : Int) W
  rw [g2] at cD
  rw [g4] at cA
  have Hb0 := Lib.hid (below_two w)
  clear hr g2 g4
  go_enter Tryz.func121, Tryz.ntmps121
  go_wp2_with fail
  refine (cD _).mono ?_
  rintro e w1 ⟨rfl, rfl⟩
  go_wp2_with fail
  refine (cA _).mono ?_
  rintro e w1 ⟨rfl, rfl⟩
  go_wp2_with fail
  clear cA cD
  go_loop [8] (fun i => ∃ k : Nat, 1 ≤ k ∧ k ≤ s.size ∧ i = .int .i64 k ∧ Hid (∀ j, 1 ≤ j → j < k → s.data.toList[j]? ≠ some 58)) (fun i => s.size - (intOf i).toNat)
  case atStart => exact ⟨1, by omega, by omega, rfl, Lib.hid (fun j h1 h2 => by omega)⟩
  case round =>
    obtain ⟨k, hk1, hk, rfl, H⟩ := hrel
    by_cases hlt : k < s.size
    · have hat : s.data.toList[k]? = some (s[k]'hlt) := List.getElem?_eq_getElem (by rw [← Lib.size_eq]; exact hlt)
      have B := byte_beq (s[k]'hlt) 58
      rw [show ((58 : UInt8).toNat : Int) = 58 from rfl] at B
      cases hd : (((s[k]'hlt).toNat : Int) == 58)
      · have Hn : Hid (∀ j, 1 ≤ j → j < k + 1 → s.data.toList[j]? ≠ some 58) := Lib.hid (fun j h1 h2 => by
          by_cases e : j = k
          · subst e
            rw [hat]
            intro e2
            rw [hd] at B
            rw [Option.some.inj e2] at B
            exact absurd B (by decide)
          · exact H.out j h1 (by omega))
        clear hat B
        go_wp2_with fail
        go_round
        case rel => exact ⟨k + 1, by omega, by omega, by go_num, Lib.hid Hn.out⟩
        case measure => simp [intOf]; omega
      · have e58 : s.data.toList[k]? = some 58 := by
          rw [hat]
          rw [hd] at B
          have : s[k] = 58 := by simpa using B.symm
          rw [this]
        have hi := indexByte_drop s.data.toList k hk1 H.out e58
        have hxd : (s.extract 1 k).data.toList = (s.data.toList.drop 1).take (k - 1) := Lib.extract_data s 1 k
        have cY := fun W => fdecode_any (s.extract 1 k) W (by rw [Lib.size_eq, hxd, List.length_take, List.length_drop, ← Lib.size_eq]; omega)
        rw [hxd] at cY
        cases hdd : decL ((s.data.toList.drop 1).take (k - 1)) with
        | none =>
          have HR : Hid (readL s.data.toList = none) := Lib.hid (by rw [Hr.out, readBytesL, hi, if_neg (by omega), Int.toNat_natCast, hdd])
          rw [hdd, decV] at cY
          clear hat B e58 hi hxd hdd H
          go_wp2_with fail
          refine (cY _).mono ?_
          rintro e w2 ⟨rfl, hb2⟩
          obtain ⟨⟨p0, p1, p2⟩, f0, f1, f2⟩ := no_cells3 w zeroBare w2 hb2
          obtain ⟨r0, r1, r2⟩ := none_cells w w2 hb2
          have hb3 := Hb0.out.trans (hb2.mono Hb0.out.size)
          clear hb2
          go_wp2
          exact bodyPost_ret (v := gotV none) (by simp [results, Tryz.results121, go_sem, gotV, p0, p1, p2]) rfl ⟨by rw [HR.out], ((hb3.setCell (by simp) _).setCell (by simp) _).setCell (by simp) _⟩
        | some b =>
          have HR : Hid (readL s.data.toList = some ⟨5, 0, b, k + 1⟩) := Lib.hid (by
            rw [Hr.out, readBytesL, hi, if_neg (by omega), Int.toNat_natCast, hdd]
            simp only [Option.some.injEq, Got.mk.injEq, true_and]
            omega)
          rw [hdd, decV] at cY
          clear hat B e58 hi hxd hdd H
          go_wp2_with fail
          refine (cY _).mono ?_
          rintro e w2 ⟨rfl, hb2⟩
          obtain ⟨⟨p0, p1, p2⟩, f0, f1, f2⟩ := no_cells3 w zeroBare w2 hb2
          have hb3 := Hb0.out.trans (hb2.mono Hb0.out.size)
          clear hb2
          go_wp2
          exact bodyPost_ret (v := gotV (some ⟨5, 0, b, k + 1⟩)) (by simp [results, Tryz.results121, go_sem, gotV, p0, p1, p2]) rfl ⟨by rw [HR.out], ((hb3.setCell (by simp) _).setCell (by simp) _).setCell (by simp) _⟩
    · have HR : Hid (readL s.data.toList = none) := Lib.hid (by rw [Hr.out, readBytesL, indexByte_no _ (fun j h1 h2 => H.out j h1 (by rw [← Lib.size_eq] at h2; omega)), if_pos rfl])
      clear H
      go_wp2
      exact bodyPost_ret (v := gotV none) (by simp [results, Tryz.results121, go_sem, gotV]) rfl ⟨by rw [HR.out], Hb0.out⟩

set_option maxRecDepth 100000 in
set_option maxHeartbeats 1000000 in
theorem fread_last (s : ByteArray) (w : World) (h0 : 0 < s.size) (hs : s.size ≤ 100000) (g1 : (((s[0]'h0).toNat : Int) == 45) = false) (g2 : digI (s[0]'h0).toNat = false) (g3 : (((s[0]'h0).toNat : Int) == 34) = false) (g4 : ltrI (s[0]'h0).toNat = false) (g5 : (((s[0]'h0).toNat : Int) == 42) = false) (g6 : (((s[0]'h0).toNat : Int) == 58) = false) :
    Calls Tryz.prog 121 #[.string s] w (gotPost (gotV (readL s.data.toList)) w) := by
  have hemp : s.toList.isEmpty = false := by rw [Lib.toList_data]; exact isEmpty_false_of s h0
  have hr := readL_at s h0
  rw [g1, g2, g3, btI_is, g4, g5, g6] at hr
  simp only [Bool.or_false, Bool.false_eq_true, if_false] at hr
  have cD := fun W => fdigit_any ((s[0]'h0).toNat : Int) W
  have cA := fun W => falpha_any ((s[0]'h0).toNat : Int) W
  rw [g2] at cD
  rw [g4] at cA
  have Hb0 := Lib.hid (below_two w)
  clear g2 g4
  cases g7 : (((s[0]'h0).toNat : Int) == 63)
  · rw [g7] at hr
    simp only [Bool.false_eq_true, if_false] at hr
    rw [hr]
    clear hr
    go_enter Tryz.func121, Tryz.ntmps121
    go_wp2_with fail
    refine (cD _).mono ?_
    rintro e w1 ⟨rfl, rfl⟩
    go_wp2_with fail
    refine (cA _).mono ?_
    rintro e w1 ⟨rfl, rfl⟩
    go_wp2
    exact bodyPost_ret (v := gotV none) (by simp [results, Tryz.results121, go_sem, gotV]) rfl ⟨rfl, Hb0.out⟩
  · rw [g7] at hr
    simp only [if_true] at hr
    rw [hr]
    clear hr
    by_cases h2 : 1 < s.size
    · have e0 := drop_cons_at s 0 h0
      have e1 := drop_cons_at s 1 h2
      rw [List.drop_zero] at e0
      have b0 : (((s[1]'h2).toNat : Int) == 48) = (s[1]'h2 == 48) := byte_beq _ 48
      have b1 : (((s[1]'h2).toNat : Int) == 49) = (s[1]'h2 == 49) := byte_beq _ 49
      rw [e0, e1, readBoolL, ← b0, ← b1]
      clear e0 e1 b0 b1
      cases k0 : (((s[1]'h2).toNat : Int) == 48) <;> cases k1 : (((s[1]'h2).toNat : Int) == 49)
      · show Calls _ _ _ _ (gotPost (gotV none) w)
        go_enter Tryz.func121, Tryz.ntmps121
        go_wp2_with fail
        refine (cD _).mono ?_
        rintro e w1 ⟨rfl, rfl⟩
        go_wp2_with fail
        refine (cA _).mono ?_
        rintro e w1 ⟨rfl, rfl⟩
        go_wp2
        exact bodyPost_ret (v := gotV none) (by simp [results, Tryz.results121, go_sem, gotV]) rfl ⟨rfl, Hb0.out⟩
      all_goals
        show Calls _ _ _ _ (gotPost (gotV (some ⟨6, ((s[1]'h2).toNat : Int) - 48, [], 2⟩)) w)
        have hbd : ((s[1]'h2).toNat : Int) ≤ 255 := by have := (s[1]'h2).toNat_lt; omega
        go_enter Tryz.func121, Tryz.ntmps121
        go_wp2_with fail
        refine (cD _).mono ?_
        rintro e w1 ⟨rfl, rfl⟩
        go_wp2_with fail
        refine (cA _).mono ?_
        rintro e w1 ⟨rfl, rfl⟩
        go_wp2
        exact bodyPost_ret (v := gotV (some ⟨6, ((s[1]'h2).toNat : Int) - 48, [], 2⟩)) (by simp [results, Tryz.results121, go_sem, gotV, strB]) rfl ⟨rfl, ((Below.refl _ _).alloc (Nat.le_refl _) _).alloc (by simp) _⟩
    · have hn : readBoolL s.data.toList = none := by
        have hl : s.data.toList.length < 2 := by rw [← Lib.size_eq]; omega
        match hq : s.data.toList, hl with
        | [], _ => rfl
        | [_], _ => rfl
      rw [hn]
      clear hn
      go_enter Tryz.func121, Tryz.ntmps121
      go_wp2_with fail
      refine (cD _).mono ?_
      rintro e w1 ⟨rfl, rfl⟩
      go_wp2_with fail
      refine (cA _).mono ?_
      rintro e w1 ⟨rfl, rfl⟩
      go_wp2
      exact bodyPost_ret (v := gotV none) (by simp [results, Tryz.results121, go_sem, gotV]) rfl ⟨rfl, Hb0.out⟩

set_option maxRecDepth 100000 in
set_option maxHeartbeats 1000000 in
theorem fread_any (s : ByteArray) (w : World) (hs : s.size ≤ 100000) :
    Calls Tryz.prog 121 #[.string s] w (gotPost (gotV (readL s.data.toList)) w) := by
  by_cases h0 : 0 < s.size
  · cases h1 : (((s[0]'h0).toNat : Int) == 45 || digI (s[0]'h0).toNat)
    · cases h2 : (((s[0]'h0).toNat : Int) == 34)
      · have h3 := h1
        rw [Bool.or_eq_false_iff] at h3
        cases h4 : btI ((s[0]'h0).toNat : Int)
        · rw [btI_is, Bool.or_eq_false_iff] at h4
          cases h5 : (((s[0]'h0).toNat : Int) == 58)
          · exact fread_last s w h0 hs h3.1 h3.2 h2 h4.1 h4.2 h5
          · exact fread_bytes s w h0 hs h3.1 h3.2 h2 h4.1 h4.2 h5 (by simp only [beq_iff_eq] at h5; rw [h5] <;> rfl)
        · exact fread_tok s w h0 hs h3.1 h3.2 h2 h4
      · exact fread_on s w h0 hs (.inr ⟨h1, h2⟩)
    · exact fread_on s w h0 hs (.inl h1)
  · have he : s.data.toList = [] := List.eq_nil_of_length_eq_zero (by rw [← Lib.size_eq]; omega)
    have hemp : s.toList.isEmpty = true := by rw [Lib.toList_data, he] <;> rfl
    rw [he]
    show Calls _ _ _ _ (gotPost (gotV none) w)
    clear he
    go_enter Tryz.func121, Tryz.ntmps121
    go_wp2
    exact bodyPost_ret (v := gotV none) (by simp [results, Tryz.results121, go_sem, gotV]) rfl ⟨rfl, ((Below.refl _ _).alloc (Nat.le_refl _) _).alloc (by simp) _⟩

end Go.Proofs.YtpifbgefkbhopaaGreatDoor
