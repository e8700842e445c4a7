/- The contract of the document's own readNumber (sculleryref02). -/
import Derived.Test.YtopfallmpbjbaaaDoorRfA
namespace Go.Proofs.YtopfallmpbjbaaaDoor
open Go.RowKit

theorem numL_app3 (z q : List UInt8) (h : q.length = 3) : numL (z ++ q) = 1000 * numL z + numL q := by
  match q, h with
  | [a, b, c], _ =>
    rw [numL_three]
    simp only [numL, List.foldl_cons, List.foldl_nil]
    omega

theorem extract_lst (s : ByteArray) (i n : Nat) : (s.extract i (i + n)).data.toList = (s.data.toList.drop i).take n := by
  rw [Lib.extract_data, Nat.add_sub_cancel_left]

set_option maxRecDepth 100000 in
set_option maxHeartbeats 1000000 in
theorem fnum0 (s : ByteArray) (w : World) (h0 : 0 < s.size) (hs : s.size ≤ 100000) (hm : (((s[0]'h0).toNat : Int) == 45) = false) :
    Calls Tryd.prog 40 #[.string s] w (gotPost (gotV (numTail 0 (1) s.data.toList)) w) := by
  have hb0 : Below w.heap.size w (w.alloc zeroBare) := (Below.refl _ _).alloc (Nat.le_refl _) _
  have hbb : ∀ o : Obj, Below w.heap.size w ((w.alloc o).alloc zeroBare) := fun o => ((Below.refl _ _).alloc (Nat.le_refl _) o).alloc (by simp) _
  have cD : ∀ W, Calls Tryd.prog 67 #[.string s, .int .i64 0] W fun e w' => e = .returned (.int .i64 ((ldig (s.data.toList.drop 0)).length : Int)) ∧ W = w' := fun W => fdigits_any s 0 W hs (by omega)
  have cV := fun W n h1 h2 => fvalue_any (s.extract 0 (0 + n)) W h1 h2
  have hex : ∀ n, (s.extract 0 (0 + n)).data.toList = (s.data.toList.drop 0).take n := extract_lst s 0
  have zall := ldig_all (s.data.toList.drop 0)
  have zle := ldig_len_le (s.data.toList.drop 0)
  rw [List.length_drop, ← Lib.size_eq] at zle
  have ztk : (s.data.toList.drop 0).take (ldig (s.data.toList.drop 0)).length = ldig (s.data.toList.drop 0) := take_takeWhile _ _
  generalize hz : ldig (s.data.toList.drop 0) = z at cD zall zle ztk
  obtain ⟨N, hN⟩ : ∃ N, z.length = N := ⟨_, rfl⟩
  rw [hN] at cD zle ztk
  by_cases hA : N = 0
  · rw [numTail_none hz (.inl (by omega))]
    rw [hA] at cD
    clear hz zall zle hN hA cV hex ztk hb0
    go_enter Tryd.func40, Tryd.ntmps40
    go_wp2_with fail
    refine (cD _).mono ?_
    rintro e w1 ⟨rfl, rfl⟩
    go_wp2
    exact bodyPost_ret (v := gotV none) (by simp [results, Tryd.results40, go_sem, gotV]) rfl ⟨rfl, hbb _⟩
  · by_cases hB : 15 < N
    · rw [numTail_none hz (.inr (by omega))]
      clear hz zall hN cV hex ztk hb0
      go_enter Tryd.func40, Tryd.ntmps40
      go_wp2_with fail
      refine (cD _).mono ?_
      rintro e w1 ⟨rfl, rfl⟩
      go_wp2
      exact bodyPost_ret (v := gotV none) (by simp [results, Tryd.results40, go_sem, gotV]) rfl ⟨rfl, hbb _⟩
    · have hN1 : 1 ≤ N := by omega
      have hN15 : N ≤ 15 := by omega
      clear hA hB
      have hXd := hex N
      rw [ztk] at hXd
      have cV1 := fun W => cV W N (by rw [Lib.size_eq, hXd]; omega) (by rw [hXd]; exact zall)
      rw [hXd] at cV1
      obtain ⟨v0, v1⟩ := numL_in z zall (by omega)
      clear cV hXd ztk
      rw [Nat.zero_add] at cV1
      by_cases hE : N < s.size
      · cases hd : (((s[N]'hE).toNat : Int) == 46)
        · have h3 : (s.data.toList.drop (0 + z.length)).head? ≠ some 46 := by
            rw [hN, Nat.zero_add, head_at s _ hE]
            intro e
            rw [Option.some.inj e] at hd
            exact absurd hd (by decide)
          rw [numTail_int hz (by omega) (by omega) h3, hN]
          have n46 : (((s[N]'hE).toNat : Int) != 46) = true := by rw [bne, hd]; rfl
          clear h3 hz zall hN hex hd
          generalize numL z = V at *
          go_enter Tryd.func40, Tryd.ntmps40
          go_wp2_with fail
          refine (cD _).mono ?_
          rintro e w1 ⟨rfl, rfl⟩
          go_wp2_with fail
          refine (cV1 _).mono ?_
          rintro e w1 ⟨rfl, rfl⟩
          go_wp2
          exact bodyPost_ret (v := gotV (some ⟨1, 1 * V, [], 0 + N⟩)) (by simp [results, Tryd.results40, go_sem, gotV, strB]) rfl ⟨by first | rfl | rw [Int.neg_one_mul], ((Below.refl _ _).alloc (Nat.le_refl _) _).alloc (by simp) _⟩
        · have h3 : (s.data.toList.drop (0 + z.length)).head? = some 46 := by
            rw [hN, Nat.zero_add, head_at s _ hE]
            congr 1
            have := byte_beq (s[N]'hE) 46
            rw [show ((46 : UInt8).toNat : Int) = 46 from rfl, hd] at this
            simpa using this.symm
          have n46 : (((s[N]'hE).toNat : Int) != 46) = false := by rw [bne, hd]; rfl
          have cP := fun W => fdigits_any s (N + 1) W hs (by omega)
          have pall := ldig_all (s.data.toList.drop (N + 1))
          have ple := ldig_len_le (s.data.toList.drop (N + 1))
          rw [List.length_drop, ← Lib.size_eq] at ple
          have ptk : (s.data.toList.drop (N + 1)).take (ldig (s.data.toList.drop (N + 1))).length = ldig (s.data.toList.drop (N + 1)) := take_takeWhile _ _
          generalize hp : ldig (s.data.toList.drop (N + 1)) = p at cP pall ple ptk
          have hp' : ldig (s.data.toList.drop (0 + z.length + 1)) = p := by rw [hN, Nat.zero_add]; exact hp
          obtain ⟨M, hM⟩ : ∃ M, p.length = M := ⟨_, rfl⟩
          rw [hM] at cP ple ptk
          have hpx : (s.extract (N + 1) (N + 1 + M)).data.toList = p := by rw [extract_lst, ptk]
          clear ptk hd
          by_cases d1 : 12 < N
          · rw [numTail_bad hz (by omega) (by omega) h3 hp' (.inl (by omega))]
            clear hz zall hN hex h3 hp hp' pall hM hpx
            generalize numL z = V at *
            go_enter Tryd.func40, Tryd.ntmps40
            go_wp2_with fail
            refine (cD _).mono ?_
            rintro e w1 ⟨rfl, rfl⟩
            go_wp2_with fail
            refine (cV1 _).mono ?_
            rintro e w1 ⟨rfl, rfl⟩
            go_wp2_with fail
            refine (cP _).mono ?_
            rintro e w1 ⟨rfl, rfl⟩
            go_wp2
            exact bodyPost_ret (v := gotV none) (by simp [results, Tryd.results40, go_sem, gotV]) rfl ⟨rfl, hbb _⟩
          · by_cases d2 : M = 0
            · rw [numTail_bad hz (by omega) (by omega) h3 hp' (.inr (.inl (by omega)))]
              rw [d2] at cP
              clear hz zall hN hex h3 hp hp' pall hM hpx ple d2
              generalize numL z = V at *
              go_enter Tryd.func40, Tryd.ntmps40
              go_wp2_with fail
              refine (cD _).mono ?_
              rintro e w1 ⟨rfl, rfl⟩
              go_wp2_with fail
              refine (cV1 _).mono ?_
              rintro e w1 ⟨rfl, rfl⟩
              go_wp2_with fail
              refine (cP _).mono ?_
              rintro e w1 ⟨rfl, rfl⟩
              go_wp2
              exact bodyPost_ret (v := gotV none) (by simp [results, Tryd.results40, go_sem, gotV]) rfl ⟨rfl, hbb _⟩
            · by_cases d3 : 3 < M
              · rw [numTail_bad hz (by omega) (by omega) h3 hp' (.inr (.inr (by omega)))]
                clear hz zall hN hex h3 hp hp' pall hM hpx d2
                generalize numL z = V at *
                go_enter Tryd.func40, Tryd.ntmps40
                go_wp2_with fail
                refine (cD _).mono ?_
                rintro e w1 ⟨rfl, rfl⟩
                go_wp2_with fail
                refine (cV1 _).mono ?_
                rintro e w1 ⟨rfl, rfl⟩
                go_wp2_with fail
                refine (cP _).mono ?_
                rintro e w1 ⟨rfl, rfl⟩
                go_wp2
                exact bodyPost_ret (v := gotV none) (by simp [results, Tryd.results40, go_sem, gotV]) rfl ⟨rfl, hbb _⟩
              · rw [numTail_dec hz (by omega) (by omega) h3 hp' (by omega) (by omega), hN, hM]
                have hq3 : ((p ++ [48, 48]).take 3).length = 3 := by rw [List.length_take, List.length_append, hM]; simp; omega
                rw [numL_app3 z _ hq3]
                have qall : ((p ++ [48, 48]).take 3).all (fun c => digI c.toNat) = true := pad_all p pall
                have hqd : ((s.extract (N + 1) (N + 1 + M) ++ (⟨#[48, 48]⟩ : ByteArray)).extract 0 3).data.toList = (p ++ [48, 48]).take 3 := by rw [extract_take, append_data, hpx]
                have cQ := fun W => fvalue_any ((s.extract (N + 1) (N + 1 + M) ++ (⟨#[48, 48]⟩ : ByteArray)).extract 0 3) W (by rw [Lib.size_eq, hqd]; omega) (by rw [hqd]; exact qall)
                rw [hqd] at cQ
                obtain ⟨u0, u1⟩ := numL_bd ((p ++ [48, 48]).take 3) 0 0 (by omega) (by decide) qall
                rw [hq3] at u1
                have z12 := numL_bd z 0 0 (by omega) (by decide) zall
                rw [hN] at z12
                have z13 : numL z < 1000000000000 := Int.lt_of_lt_of_le z12.2 (pow_mono (0 + N) 12 (by omega))
                have u2 : numL ((p ++ [48, 48]).take 3) < 1000 := u1
                have u3 : 0 ≤ numL ((p ++ [48, 48]).take 3) := u0
                have hps : (s.extract (N + 1) (N + 1 + M)).size = M := by rw [Lib.size_eq, hpx, hM]
                clear hz zall hN hex h3 hp hp' pall hM hpx hqd qall hq3 u0 u1 z12 hbb hb0
                generalize numL z = V at *
                generalize numL ((p ++ [48, 48]).take 3) = U at *
                go_enter Tryd.func40, Tryd.ntmps40
                go_wp2_with fail
                refine (cD _).mono ?_
                rintro e w1 ⟨rfl, rfl⟩
                go_wp2_with fail
                refine (cV1 _).mono ?_
                rintro e w1 ⟨rfl, rfl⟩
                go_wp2_with fail
                refine (cP _).mono ?_
                rintro e w1 ⟨rfl, rfl⟩
                go_wp2_with fail
                refine (cQ _).mono ?_
                rintro e w1 ⟨rfl, rfl⟩
                go_wp2
                exact bodyPost_ret (v := gotV (some ⟨2, 1 * (1000 * V + U), [], 0 + N + 1 + M⟩)) (by simp [results, Tryd.results40, go_sem, gotV, strB]) rfl ⟨by first | rfl | rw [Int.neg_one_mul], ((Below.refl _ _).alloc (Nat.le_refl _) _).alloc (by simp) _⟩
      · have h3 : (s.data.toList.drop (0 + z.length)).head? ≠ some 46 := by
          rw [List.drop_of_length_le (by rw [← Lib.size_eq]; omega)]
          simp
        rw [numTail_int hz (by omega) (by omega) h3, hN]
        clear h3 hz zall hN hex
        generalize numL z = V at *
        go_enter Tryd.func40, Tryd.ntmps40
        go_wp2_with fail
        refine (cD _).mono ?_
        rintro e w1 ⟨rfl, rfl⟩
        go_wp2_with fail
        refine (cV1 _).mono ?_
        rintro e w1 ⟨rfl, rfl⟩
        go_wp2
        exact bodyPost_ret (v := gotV (some ⟨1, 1 * V, [], 0 + N⟩)) (by simp [results, Tryd.results40, go_sem, gotV, strB]) rfl ⟨by first | rfl | rw [Int.neg_one_mul], ((Below.refl _ _).alloc (Nat.le_refl _) _).alloc (by simp) _⟩

set_option maxRecDepth 100000 in
set_option maxHeartbeats 1000000 in
theorem fnum1 (s : ByteArray) (w : World) (h0 : 0 < s.size) (hs : s.size ≤ 100000) (hm : (((s[0]'h0).toNat : Int) == 45) = true) :
    Calls Tryd.prog 40 #[.string s] w (gotPost (gotV (numTail 1 (-1) s.data.toList)) w) := by
  have hb0 : Below w.heap.size w (w.alloc zeroBare) := (Below.refl _ _).alloc (Nat.le_refl _) _
  have hbb : ∀ o : Obj, Below w.heap.size w ((w.alloc o).alloc zeroBare) := fun o => ((Below.refl _ _).alloc (Nat.le_refl _) o).alloc (by simp) _
  have cD : ∀ W, Calls Tryd.prog 67 #[.string s, .int .i64 1] W fun e w' => e = .returned (.int .i64 ((ldig (s.data.toList.drop 1)).length : Int)) ∧ W = w' := fun W => fdigits_any s 1 W hs (by omega)
  have cV := fun W n h1 h2 => fvalue_any (s.extract 1 (1 + n)) W h1 h2
  have hex : ∀ n, (s.extract 1 (1 + n)).data.toList = (s.data.toList.drop 1).take n := extract_lst s 1
  have zall := ldig_all (s.data.toList.drop 1)
  have zle := ldig_len_le (s.data.toList.drop 1)
  rw [List.length_drop, ← Lib.size_eq] at zle
  have ztk : (s.data.toList.drop 1).take (ldig (s.data.toList.drop 1)).length = ldig (s.data.toList.drop 1) := take_takeWhile _ _
  generalize hz : ldig (s.data.toList.drop 1) = z at cD zall zle ztk
  obtain ⟨N, hN⟩ : ∃ N, z.length = N := ⟨_, rfl⟩
  rw [hN] at cD zle ztk
  by_cases hA : N = 0
  · rw [numTail_none hz (.inl (by omega))]
    rw [hA] at cD
    clear hz zall zle hN hA cV hex ztk hb0
    go_enter Tryd.func40, Tryd.ntmps40
    go_wp2_with fail
    refine (cD _).mono ?_
    rintro e w1 ⟨rfl, rfl⟩
    go_wp2
    exact bodyPost_ret (v := gotV none) (by simp [results, Tryd.results40, go_sem, gotV]) rfl ⟨rfl, hbb _⟩
  · by_cases hB : 15 < N
    · rw [numTail_none hz (.inr (by omega))]
      clear hz zall hN cV hex ztk hb0
      go_enter Tryd.func40, Tryd.ntmps40
      go_wp2_with fail
      refine (cD _).mono ?_
      rintro e w1 ⟨rfl, rfl⟩
      go_wp2
      exact bodyPost_ret (v := gotV none) (by simp [results, Tryd.results40, go_sem, gotV]) rfl ⟨rfl, hbb _⟩
    · have hN1 : 1 ≤ N := by omega
      have hN15 : N ≤ 15 := by omega
      clear hA hB
      have hXd := hex N
      rw [ztk] at hXd
      have cV1 := fun W => cV W N (by rw [Lib.size_eq, hXd]; omega) (by rw [hXd]; exact zall)
      rw [hXd] at cV1
      obtain ⟨v0, v1⟩ := numL_in z zall (by omega)
      clear cV hXd ztk
      skip
      by_cases hE : (1 + N) < s.size
      · cases hd : (((s[(1 + N)]'hE).toNat : Int) == 46)
        · have h3 : (s.data.toList.drop (1 + z.length)).head? ≠ some 46 := by
            rw [hN, head_at s _ hE]
            intro e
            rw [Option.some.inj e] at hd
            exact absurd hd (by decide)
          rw [numTail_int hz (by omega) (by omega) h3, hN]
          have n46 : (((s[(1 + N)]'hE).toNat : Int) != 46) = true := by rw [bne, hd]; rfl
          clear h3 hz zall hN hex hd
          generalize numL z = V at *
          go_enter Tryd.func40, Tryd.ntmps40
          go_wp2_with fail
          refine (cD _).mono ?_
          rintro e w1 ⟨rfl, rfl⟩
          go_wp2_with fail
          refine (cV1 _).mono ?_
          rintro e w1 ⟨rfl, rfl⟩
          go_wp2
          exact bodyPost_ret (v := gotV (some ⟨1, -1 * V, [], 1 + N⟩)) (by simp [results, Tryd.results40, go_sem, gotV, strB]) rfl ⟨by first | rfl | rw [Int.neg_one_mul], ((Below.refl _ _).alloc (Nat.le_refl _) _).alloc (by simp) _⟩
        · have h3 : (s.data.toList.drop (1 + z.length)).head? = some 46 := by
            rw [hN, head_at s _ hE]
            congr 1
            have := byte_beq (s[(1 + N)]'hE) 46
            rw [show ((46 : UInt8).toNat : Int) = 46 from rfl, hd] at this
            simpa using this.symm
          have n46 : (((s[(1 + N)]'hE).toNat : Int) != 46) = false := by rw [bne, hd]; rfl
          have cP := fun W => fdigits_any s ((1 + N) + 1) W hs (by omega)
          have pall := ldig_all (s.data.toList.drop ((1 + N) + 1))
          have ple := ldig_len_le (s.data.toList.drop ((1 + N) + 1))
          rw [List.length_drop, ← Lib.size_eq] at ple
          have ptk : (s.data.toList.drop ((1 + N) + 1)).take (ldig (s.data.toList.drop ((1 + N) + 1))).length = ldig (s.data.toList.drop ((1 + N) + 1)) := take_takeWhile _ _
          generalize hp : ldig (s.data.toList.drop ((1 + N) + 1)) = p at cP pall ple ptk
          have hp' : ldig (s.data.toList.drop (1 + z.length + 1)) = p := by rw [hN]; exact hp
          obtain ⟨M, hM⟩ : ∃ M, p.length = M := ⟨_, rfl⟩
          rw [hM] at cP ple ptk
          have hpx : (s.extract ((1 + N) + 1) ((1 + N) + 1 + M)).data.toList = p := by rw [extract_lst, ptk]
          clear ptk hd
          by_cases d1 : 12 < N
          · rw [numTail_bad hz (by omega) (by omega) h3 hp' (.inl (by omega))]
            clear hz zall hN hex h3 hp hp' pall hM hpx
            generalize numL z = V at *
            go_enter Tryd.func40, Tryd.ntmps40
            go_wp2_with fail
            refine (cD _).mono ?_
            rintro e w1 ⟨rfl, rfl⟩
            go_wp2_with fail
            refine (cV1 _).mono ?_
            rintro e w1 ⟨rfl, rfl⟩
            go_wp2_with fail
            refine (cP _).mono ?_
            rintro e w1 ⟨rfl, rfl⟩
            go_wp2
            exact bodyPost_ret (v := gotV none) (by simp [results, Tryd.results40, go_sem, gotV]) rfl ⟨rfl, hbb _⟩
          · by_cases d2 : M = 0
            · rw [numTail_bad hz (by omega) (by omega) h3 hp' (.inr (.inl (by omega)))]
              rw [d2] at cP
              clear hz zall hN hex h3 hp hp' pall hM hpx ple d2
              generalize numL z = V at *
              go_enter Tryd.func40, Tryd.ntmps40
              go_wp2_with fail
              refine (cD _).mono ?_
              rintro e w1 ⟨rfl, rfl⟩
              go_wp2_with fail
              refine (cV1 _).mono ?_
              rintro e w1 ⟨rfl, rfl⟩
              go_wp2_with fail
              refine (cP _).mono ?_
              rintro e w1 ⟨rfl, rfl⟩
              go_wp2
              exact bodyPost_ret (v := gotV none) (by simp [results, Tryd.results40, go_sem, gotV]) rfl ⟨rfl, hbb _⟩
            · by_cases d3 : 3 < M
              · rw [numTail_bad hz (by omega) (by omega) h3 hp' (.inr (.inr (by omega)))]
                clear hz zall hN hex h3 hp hp' pall hM hpx d2
                generalize numL z = V at *
                go_enter Tryd.func40, Tryd.ntmps40
                go_wp2_with fail
                refine (cD _).mono ?_
                rintro e w1 ⟨rfl, rfl⟩
                go_wp2_with fail
                refine (cV1 _).mono ?_
                rintro e w1 ⟨rfl, rfl⟩
                go_wp2_with fail
                refine (cP _).mono ?_
                rintro e w1 ⟨rfl, rfl⟩
                go_wp2
                exact bodyPost_ret (v := gotV none) (by simp [results, Tryd.results40, go_sem, gotV]) rfl ⟨rfl, hbb _⟩
              · rw [numTail_dec hz (by omega) (by omega) h3 hp' (by omega) (by omega), hN, hM]
                have hq3 : ((p ++ [48, 48]).take 3).length = 3 := by rw [List.length_take, List.length_append, hM]; simp; omega
                rw [numL_app3 z _ hq3]
                have qall : ((p ++ [48, 48]).take 3).all (fun c => digI c.toNat) = true := pad_all p pall
                have hqd : ((s.extract ((1 + N) + 1) ((1 + N) + 1 + M) ++ (⟨#[48, 48]⟩ : ByteArray)).extract 0 3).data.toList = (p ++ [48, 48]).take 3 := by rw [extract_take, append_data, hpx]
                have cQ := fun W => fvalue_any ((s.extract ((1 + N) + 1) ((1 + N) + 1 + M) ++ (⟨#[48, 48]⟩ : ByteArray)).extract 0 3) W (by rw [Lib.size_eq, hqd]; omega) (by rw [hqd]; exact qall)
                rw [hqd] at cQ
                obtain ⟨u0, u1⟩ := numL_bd ((p ++ [48, 48]).take 3) 0 0 (by omega) (by decide) qall
                rw [hq3] at u1
                have z12 := numL_bd z 0 0 (by omega) (by decide) zall
                rw [hN] at z12
                have z13 : numL z < 1000000000000 := Int.lt_of_lt_of_le z12.2 (pow_mono (0 + N) 12 (by omega))
                have u2 : numL ((p ++ [48, 48]).take 3) < 1000 := u1
                have u3 : 0 ≤ numL ((p ++ [48, 48]).take 3) := u0
                have hps : (s.extract ((1 + N) + 1) ((1 + N) + 1 + M)).size = M := by rw [Lib.size_eq, hpx, hM]
                clear hz zall hN hex h3 hp hp' pall hM hpx hqd qall hq3 u0 u1 z12 hbb hb0
                generalize numL z = V at *
                generalize numL ((p ++ [48, 48]).take 3) = U at *
                go_enter Tryd.func40, Tryd.ntmps40
                go_wp2_with fail
                refine (cD _).mono ?_
                rintro e w1 ⟨rfl, rfl⟩
                go_wp2_with fail
                refine (cV1 _).mono ?_
                rintro e w1 ⟨rfl, rfl⟩
                go_wp2_with fail
                refine (cP _).mono ?_
                rintro e w1 ⟨rfl, rfl⟩
                go_wp2_with fail
                refine (cQ _).mono ?_
                rintro e w1 ⟨rfl, rfl⟩
                go_wp2
                exact bodyPost_ret (v := gotV (some ⟨2, -1 * (1000 * V + U), [], 1 + N + 1 + M⟩)) (by simp [results, Tryd.results40, go_sem, gotV, strB]) rfl ⟨by first | rfl | rw [Int.neg_one_mul], ((Below.refl _ _).alloc (Nat.le_refl _) _).alloc (by simp) _⟩
      · have h3 : (s.data.toList.drop (1 + z.length)).head? ≠ some 46 := by
          rw [List.drop_of_length_le (by rw [← Lib.size_eq]; omega)]
          simp
        rw [numTail_int hz (by omega) (by omega) h3, hN]
        clear h3 hz zall hN hex
        generalize numL z = V at *
        go_enter Tryd.func40, Tryd.ntmps40
        go_wp2_with fail
        refine (cD _).mono ?_
        rintro e w1 ⟨rfl, rfl⟩
        go_wp2_with fail
        refine (cV1 _).mono ?_
        rintro e w1 ⟨rfl, rfl⟩
        go_wp2
        exact bodyPost_ret (v := gotV (some ⟨1, -1 * V, [], 1 + N⟩)) (by simp [results, Tryd.results40, go_sem, gotV, strB]) rfl ⟨by first | rfl | rw [Int.neg_one_mul], ((Below.refl _ _).alloc (Nat.le_refl _) _).alloc (by simp) _⟩

theorem freadNumber_any (s : ByteArray) (w : World) (h0 : 0 < s.size) (hs : s.size ≤ 100000) :
    Calls Tryd.prog 40 #[.string s] w (gotPost (gotV (readNumL s.data.toList)) w) := by
  have hh : s.data.toList.head? = some (s[0]'h0) := by have := head_at s 0 h0; rwa [List.drop_zero] at this
  have hb : (((s[0]'h0).toNat : Int) == 45) = (s[0]'h0 == 45) := byte_beq _ 45
  cases hm : (((s[0]'h0).toNat : Int) == 45)
  · have hr : readNumL s.data.toList = numTail 0 1 s.data.toList := by
      rw [hm] at hb
      have : ¬ s[0]'h0 = 45 := by simpa using hb.symm
      rw [readNumL, hh, if_neg (by simpa using this)]
    rw [hr]
    exact fnum0 s w h0 hs hm
  · have hr : readNumL s.data.toList = numTail 1 (-1) s.data.toList := by
      rw [hm] at hb
      have : s[0]'h0 = 45 := by simpa using hb.symm
      rw [readNumL, hh, if_pos (by rw [this])]
    rw [hr]
    exact fnum1 s w h0 hs hm

end Go.Proofs.YtopfallmpbjbaaaDoor
