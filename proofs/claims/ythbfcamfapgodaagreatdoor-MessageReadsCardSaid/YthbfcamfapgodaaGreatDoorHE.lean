/- The document's own Decode of chunks (sculleryref07). -/
import Derived.Test.YthbfcamfapgodaaGreatDoorHD
import Derived.Test.YthbfcamfapgodaaGreatDoorHC
import Derived.Test.YthbfcamfapgodaaGreatDoorGE

namespace Go.Proofs.YthbfcamfapgodaaGreatDoor
open Go.RowKit Go.Shelf Go.Lib

theorem pre_two (x y : UInt8) (t : List UInt8) : Lib.hasPrefix (x :: y :: t) [13, 10] = ((x == 13) && (y == 10)) := by
  unfold Lib.hasPrefix
  simp [List.isPrefixOf]
  rw [Bool.beq_comm, Bool.beq_comm (a := (10 : UInt8))]
theorem drop_two (s : ByteArray) (k : Nat) (h : k + 1 < s.size) : ∃ t, s.data.toList.drop k = s[k] :: s[k + 1] :: t := by
  refine ⟨s.data.toList.drop (k + 2), ?_⟩
  rw [drop_cons_at s k (by omega), drop_cons_at s (k + 1) h]

set_option maxRecDepth 100000 in
set_option maxHeartbeats 16000000 in
theorem rdecode_any (s : ByteArray) (w : World) (hs : s.size ≤ 90000) :
    Calls Tryz.prog 65 #[.string s] w fun e w' => e = .returned (decV (decL s.data.toList)) ∧ Below w.heap.size w w' := by
  have hsz := Lib.size_eq s
  have HSt : Hid (decL s.data.toList = decG (s.size + 1) s.data.toList 0 []) := Lib.hid (by rw [decL, hsz])
  have HSz := Lib.hid hsz
  clear hsz
  go_enter Tryz.func65, Tryz.ntmps65
  go_wp2_with fail
  go_loopw [5, 6] (fun v a wr => ∃ (K f : Nat) (A : ByteArray), v = .string A ∧ a = .int .i64 (K : Int) ∧ K ≤ s.size ∧ s.size < f + K ∧ A.size ≤ 100000 ∧ Hid (decL s.data.toList = decG f s.data.toList K A.data.toList) ∧ Below w.heap.size w wr) (fun _ a _ => s.size - (intOf a).toNat)
  case atStart => exact ⟨0, s.size + 1, ⟨#[]⟩, rfl, rfl, Nat.zero_le _, by omega, by decide, HSt, Below.refl _ _⟩
  case round =>
    obtain ⟨K, f, A, rfl, rfl, hK, hf, hal, H, hb⟩ := hrel
    clear HSt
    have HB := Lib.hid hb
    have hbs := hb.size
    clear hb
    obtain ⟨f, rfl⟩ : ∃ f', f = f' + 1 := ⟨f - 1, by omega⟩
    have hxd : (s.extract K s.size).data.toList = s.data.toList.drop K := Lib.extract_to_end s K
    have hxs : (s.extract K s.size).size = s.size - K := by rw [Lib.size_eq, hxd, List.length_drop, ← HSz.out]
    have cL := fun W => rline_any (s.extract K s.size) W (by omega)
    rw [hxd] at cL
    have hH := H.out
    rw [decG, rdL] at hH
    have hle := lineL_le (s.data.toList.drop K)
    rw [List.length_drop, ← HSz.out] at hle
    have hll := lineL_len (s.data.toList.drop K)
    have hKI : (K : Int) ≤ (s.size : Int) := by omega
    obtain ⟨⟨ln, er⟩, hp⟩ : ∃ p, lineL (s.data.toList.drop K) = p := ⟨_, rfl⟩
    have herr := lineL_errs (s.data.toList.drop K)
    rw [hp] at cL hH hle hll herr
    dsimp only at hH hle hll herr
    clear H hp hxd hxs
    by_cases he : er = 0
    · subst he
      have hln := hle rfl
      rw [if_pos rfl] at hH
      rw [rlnV_ok] at cL
      have hSz := strB_size ln
      have cS := fun W => rsize7_any (strB ln) W (by omega)
      rw [strB_data] at cS
      obtain ⟨K1, hK1⟩ : ∃ K1, K + (ln.length + 2) = K1 := ⟨_, rfl⟩
      have q1 : (K : Int) + ((ln.length : Int) + 2) = (K1 : Int) := by omega
      have hK1s : K1 ≤ s.size := by omega
      have hK1I : (K1 : Int) ≤ (s.size : Int) := by omega
      clear hle herr
      cases ho : sizeL ln with
      | none =>
        rw [ho] at hH cS
        have HR : Hid (decV (decL s.data.toList) = .tuple #[.string ⟨#[]⟩, .int .i64 0, .int .i64 2]) := Lib.hid (by rw [hH] <;> rfl)
        clear hH ho hSz
        generalize strB ln = SL at *
        go_wp2_with fail
        refine (cL _).mono ?_
        rintro e w2 ⟨rfl, rfl⟩
        go_wp2_with fail
        refine (cS _).mono ?_
        rintro e w2 ⟨rfl, x, b, rfl, rfl⟩
        go_wp2_with fail
        exact bodyPost_ret (v := .tuple #[.string ⟨#[]⟩, .int .i64 0, .int .i64 2]) (by simp [results, Tryz.results65, go_sem]) rfl ⟨by rw [HR.out], HB.out⟩
      | some k =>
        rw [ho] at hH cS
        have hk := sizeL_lt _ _ ho
        dsimp only at hH
        rw [hK1, ← Lib.size_eq] at hH
        clear ho hSz
        generalize strB ln = SL at *
        by_cases hbig : 100000 < A.size + k
        · rw [if_pos hbig] at hH
          have HR : Hid (decV (decL s.data.toList) = .tuple #[.string ⟨#[]⟩, .int .i64 0, .int .i64 4]) := Lib.hid (by rw [hH] <;> rfl)
          have d : (100000 : Int) < (A.size : Int) + (k : Int) := by omega
          clear hH hbig
          go_wp2_with fail
          refine (cL _).mono ?_
          rintro e w2 ⟨rfl, rfl⟩
          go_wp2_with fail
          refine (cS _).mono ?_
          rintro e w2 ⟨rfl, x, b, rfl, rfl, rfl⟩
          go_wp2_with fail
          exact bodyPost_ret (v := .tuple #[.string ⟨#[]⟩, .int .i64 0, .int .i64 4]) (by simp [results, Tryz.results65, go_sem]) rfl ⟨by rw [HR.out], HB.out⟩
        · rw [if_neg hbig] at hH
          have d : ¬ (100000 : Int) < (A.size : Int) + (k : Int) := by omega
          have hyd : (s.extract K1 s.size).data.toList = s.data.toList.drop K1 := Lib.extract_to_end s K1
          have hys : (s.extract K1 s.size).size = s.size - K1 := by rw [Lib.size_eq, hyd, List.length_drop, ← HSz.out]
          by_cases hk0 : k = 0
          · rw [if_pos hk0] at hH
            subst hk0
            have cH := fun W => rparse_any (s.extract K1 s.size) W (by omega)
            rw [hyd] at cH
            have d0 : ¬ (100000 : Int) < (A.size : Int) := by omega
            cases hp : parseH (s.data.toList.drop K1) with
            | error n =>
              rw [hp] at hH cH
              have HR : Hid (decV (decL s.data.toList) = .tuple #[.string ⟨#[]⟩, .int .i64 0, .int .i64 n]) := Lib.hid (by rw [hH] <;> rfl)
              have de : (n != 0) = true := by
                have := parH_errs _ 65 0 [] n hp
                have h0 : ¬ n = 0 := by omega
                simpa using h0
              clear hH hbig hp hyd hys
              go_wp2_with fail
              refine (cL _).mono ?_
              rintro e w2 ⟨rfl, rfl⟩
              go_wp2_with fail
              refine (cS _).mono ?_
              rintro e w2 ⟨rfl, x, b, rfl, rfl, rfl⟩
              go_wp2_with fail
              refine (cH _).mono ?_
              rintro e w3 ⟨hb3, rfl⟩
              have HB3 := Lib.hid (HB.out.trans (hb3.mono hbs))
              clear hb3
              go_wp2_with fail
              exact bodyPost_ret (v := .tuple #[.string ⟨#[]⟩, .int .i64 0, .int .i64 n]) (by simp [results, Tryz.results65, go_sem]) rfl ⟨by rw [HR.out], HB3.out⟩
            | ok q =>
              obtain ⟨fs, m⟩ := q
              have hml := parH_lens _ 65 0 [] fs m hp (Nat.zero_le _)
              rw [List.length_drop, ← HSz.out] at hml
              rw [hp] at hH cH
              have HR : Hid (decV (decL s.data.toList) = .tuple #[.string A, .int .i64 ((K1 : Int) + (m : Int)), .int .i64 0]) := Lib.hid (by
                rw [hH, decV, strB_of, show ((K1 + m : Nat) : Int) = (K1 : Int) + (m : Int) by omega])
              clear hH hbig hp hyd hys
              go_wp2_with fail
              refine (cL _).mono ?_
              rintro e w2 ⟨rfl, rfl⟩
              go_wp2_with fail
              refine (cS _).mono ?_
              rintro e w2 ⟨rfl, x, b, rfl, rfl, rfl⟩
              go_wp2_with fail
              refine (cH _).mono ?_
              rintro e w3 ⟨hb3, v3, rfl, hown3⟩
              obtain ⟨a3, c3, rfl⟩ := owns_formF hown3
              have HB3 := Lib.hid (HB.out.trans (hb3.mono hbs))
              clear hb3 hown3 cH
              go_wp2_with fail
              exact bodyPost_ret (v := .tuple #[.string A, .int .i64 ((K1 : Int) + (m : Int)), .int .i64 0]) (by simp [results, Tryz.results65, go_sem]) rfl ⟨by rw [HR.out], HB3.out⟩
          · rw [if_neg hk0] at hH
            have dk : ((k : Int) == 0) = false := by simpa using (by omega : ¬ (k : Int) = 0)
            by_cases hsh : s.size < K1 + k + 2
            · have hdt : datL (s.data.toList.drop K1) k = ([], 3) := by rw [datL, if_pos (by rewrite [List.length_drop, ← HSz.out]; omega)]
              rw [hdt] at hH
              have HR : Hid (decV (decL s.data.toList) = .tuple #[.string ⟨#[]⟩, .int .i64 0, .int .i64 3]) := Lib.hid (by rw [hH] <;> rfl)
              have d3 : (s.size : Int) - (K1 : Int) < (k : Int) + 2 := by omega
              clear hH hbig hdt hyd hys hsh
              go_wp2_with fail
              refine (cL _).mono ?_
              rintro e w2 ⟨rfl, rfl⟩
              go_wp2_with fail
              refine (cS _).mono ?_
              rintro e w2 ⟨rfl, x, b, rfl, rfl, rfl⟩
              go_wp2_with fail
              exact bodyPost_ret (v := .tuple #[.string ⟨#[]⟩, .int .i64 0, .int .i64 3]) (by simp [results, Tryz.results65, go_sem]) rfl ⟨by rw [HR.out], HB.out⟩
            · have d3 : ¬ (s.size : Int) - (K1 : Int) < (k : Int) + 2 := by omega
              obtain ⟨m, hm⟩ : ∃ m, K1 + k = m := ⟨_, rfl⟩
              have hmI : (K1 : Int) + (k : Int) = (m : Int) := by omega
              have hms : m + 1 < s.size := by omega
              obtain ⟨t, ht⟩ := drop_two s m hms
              have hdd : (s.data.toList.drop K1).drop k = s[m] :: s[m + 1] :: t := by rw [List.drop_drop, hm, ht]
              have hdt : datL (s.data.toList.drop K1) k = if ((s[m] == 13) && (s[m + 1] == 10)) = false then ([], 2) else ((s.data.toList.drop K1).take k, 0) := by
                rw [datL, if_neg (by rewrite [List.length_drop, ← HSz.out]; omega), hdd, pre_two]
              rw [hdt] at hH
              have B1 : ((s[m].toNat : Int) == 13) = (s[m] == 13) := byte_beq s[m] 13
              have B2 : ((s[m + 1].toNat : Int) == 10) = (s[m + 1] == 10) := byte_beq s[m + 1] 10
              have C1 : ((s[m].toNat : Int) != 13) = !(s[m] == 13) := by rw [← B1] <;> rfl
              have C2 : ((s[m + 1].toNat : Int) != 10) = !(s[m + 1] == 10) := by rw [← B2] <;> rfl
              have j1 : (m : Int) < (s.size : Int) := by omega
              have j2 : (m : Int) + 1 < (s.size : Int) := by omega
              have j3 : m < s.size := by omega
              clear hdd ht hdt hyd hys B1 B2
              cases hx : (s[m] == 13)
              · rw [hx] at hH C1
                rw [Bool.false_and, if_pos rfl] at hH
                have HR : Hid (decV (decL s.data.toList) = .tuple #[.string ⟨#[]⟩, .int .i64 0, .int .i64 2]) := Lib.hid (by rw [hH] <;> rfl)
                clear hH hbig C2 hx
                go_wp2_with fail
                refine (cL _).mono ?_
                rintro e w2 ⟨rfl, rfl⟩
                go_wp2_with fail
                refine (cS _).mono ?_
                rintro e w2 ⟨rfl, x, b, rfl, rfl, rfl⟩
                go_wp2_with fail
                exact bodyPost_ret (v := .tuple #[.string ⟨#[]⟩, .int .i64 0, .int .i64 2]) (by simp [results, Tryz.results65, go_sem]) rfl ⟨by rw [HR.out], HB.out⟩
              · rw [hx] at hH C1
                rw [Bool.true_and] at hH
                cases hy : (s[m + 1] == 10)
                · rw [hy] at hH C2
                  rw [if_pos rfl] at hH
                  have HR : Hid (decV (decL s.data.toList) = .tuple #[.string ⟨#[]⟩, .int .i64 0, .int .i64 2]) := Lib.hid (by rw [hH] <;> rfl)
                  clear hH hbig hx hy
                  go_wp2_with fail
                  refine (cL _).mono ?_
                  rintro e w2 ⟨rfl, rfl⟩
                  go_wp2_with fail
                  refine (cS _).mono ?_
                  rintro e w2 ⟨rfl, x, b, rfl, rfl, rfl⟩
                  go_wp2_with fail
                  exact bodyPost_ret (v := .tuple #[.string ⟨#[]⟩, .int .i64 0, .int .i64 2]) (by simp [results, Tryz.results65, go_sem]) rfl ⟨by rw [HR.out], HB.out⟩
                · rw [hy] at hH C2
                  rw [if_neg (show ¬ (true = false) from (by decide))] at hH
                  dsimp only at hH
                  rw [if_pos rfl] at hH
                  have hxe : (s.extract K1 m).data.toList = (s.data.toList.drop K1).take k := by rw [Lib.extract_data, ← hm, show K1 + k - K1 = k by omega]
                  have hxz : (s.extract K1 m).size = k := by rewrite [Lib.size_eq, hxe, List.length_take, List.length_drop, ← HSz.out]; omega
                  have hA2 : (A ++ s.extract K1 m).data.toList = A.data.toList ++ (s.data.toList.drop K1).take k := by rw [append_data, hxe]
                  have hA2z : (A ++ s.extract K1 m).size ≤ 100000 := by rewrite [ByteArray.size_append, hxz]; omega
                  obtain ⟨K2, hK2⟩ : ∃ K2, K1 + k + 2 = K2 := ⟨_, rfl⟩
                  rw [hK2, ← hA2] at hH
                  have HH2 := Lib.hid hH
                  have q2 : (m : Int) + 2 = (K2 : Int) := by omega
                  have j4 : K1 ≤ m := by omega
                  have j5 : (K1 : Int) ≤ (m : Int) := by omega
                  have j6 : (m : Int) ≤ (s.size : Int) := by omega
                  have s1 : ¬ 9223372036854775807 < A.size + (s.extract K1 m).size := by omega
                  have s2 : ¬ 9223372036854775807 < A.size + k := by omega
                  have s3 : ¬ 9223372036854775807 < A.size + (m - K1) := by omega
                  have s4 : ¬ 9223372036854775807 < A.size + (min m s.size - K1) := by omega
                  have HA2z := Lib.hid hA2z
                  clear hH hbig hx hy hxe hxz hA2 hA2z
                  go_wp2_with fail
                  refine (cL _).mono ?_
                  rintro e w2 ⟨rfl, rfl⟩
                  go_wp2_with fail
                  refine (cS _).mono ?_
                  rintro e w2 ⟨rfl, x, b, rfl, rfl, rfl⟩
                  go_wp2_with fail
                  go_roundw
                  case rel => exact ⟨K2, f, A ++ s.extract K1 m, rfl, by go_num, by omega, by omega, HA2z.out, Lib.hid HH2.out, HB.out⟩
                  case measure => simp [intOf]; omega
    · rw [if_neg he] at hH
      have HR : Hid (decV (decL s.data.toList) = .tuple #[.string ⟨#[]⟩, .int .i64 0, .int .i64 er]) := Lib.hid (by rw [hH] <;> rfl)
      have e1 : (er != 0) = true := by simpa using he
      rw [rlnV_no _ _ he] at cL
      clear hH hle hll herr
      generalize strB ln = SL at *
      go_wp2_with fail
      refine (cL _).mono ?_
      rintro e w2 ⟨rfl, rfl⟩
      go_wp2_with fail
      exact bodyPost_ret (v := .tuple #[.string ⟨#[]⟩, .int .i64 0, .int .i64 er]) (by simp [results, Tryz.results65, go_sem]) rfl ⟨by rw [HR.out], HB.out⟩

end Go.Proofs.YthbfcamfapgodaaGreatDoor
