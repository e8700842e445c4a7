/- The contract of chunk.Decode. -/
import Derived.Test.YtfhpgobdnhlpcaaDoorChE
import Derived.Test.YtfhpgobdnhlpcaaDoorChF
namespace Go.Proofs.YtfhpgobdnhlpcaaDoor
open Go.RowKit Go.Shelf Go.Lib

/-- The body of the chunks with which a text begins, from a place on, behind a body so far; by so many rounds. -/
def decG : Nat → List UInt8 → Nat → List UInt8 → Except Int (List UInt8 × Nat)
  | 0, _, _, _ => .error 4
  | f + 1, l, K, acc => match rdL (l.drop K) with
    | .error e => .error e
    | .ok (k, n) =>
      if 100000 < acc.length + k then .error 4
      else if k = 0 then (match parseH (l.drop (K + n)) with | .error e => .error e | .ok (_, m) => .ok (acc, K + n + m))
      else if (datL (l.drop (K + n)) k).2 = 0 then decG f l (K + n + k + 2) (acc ++ (datL (l.drop (K + n)) k).1)
      else .error (datL (l.drop (K + n)) k).2
def decL (l : List UInt8) : Except Int (List UInt8 × Nat) := decG (l.length + 1) l 0 []
def decV : Except Int (List UInt8 × Nat) → Value
  | .error e => .tuple #[.string ⟨#[]⟩, .int .i64 0, .int .i64 e]
  | .ok (b, n) => .tuple #[.string (strB b), .int .i64 (n : Int), .int .i64 0]

theorem rdL_ok {l : List UInt8} {k n : Nat} (h : rdL l = .ok (k, n)) : k < 4294967296 ∧ 2 ≤ n ∧ n ≤ l.length := by
  unfold rdL at h
  by_cases h0 : (lineL l).2 = 0
  · rw [if_pos h0] at h
    have := lineL_le l h0
    cases hs : sizeL (lineL l).1 with
    | none => rw [hs] at h; cases h
    | some m =>
      rw [hs] at h
      simp only [Except.ok.injEq, Prod.mk.injEq] at h
      obtain ⟨rfl, rfl⟩ := h
      exact ⟨sizeL_lt _ _ hs, by omega, by omega⟩
  · rw [if_neg h0] at h; cases h
theorem lineL_errs (l : List UInt8) : (lineL l).2 = 0 ∨ (lineL l).2 = 2 ∨ (lineL l).2 = 3 ∨ (lineL l).2 = 4 := by
  unfold lineL
  split
  · dsimp only
    split <;> simp
  · split
    · simp
    · split <;> simp
theorem rdL_err {l : List UInt8} {e : Int} (h : rdL l = .error e) : e = 2 ∨ e = 3 ∨ e = 4 := by
  unfold rdL at h
  by_cases h0 : (lineL l).2 = 0
  · rw [if_pos h0] at h
    cases hs : sizeL (lineL l).1 with
    | none => rw [hs] at h; simp only [Except.error.injEq] at h; omega
    | some m => rw [hs] at h; cases h
  · rw [if_neg h0] at h
    simp only [Except.error.injEq] at h
    rcases lineL_errs l with h1 | h1 | h1 | h1 <;> omega
theorem parH_errs (l : List UInt8) : ∀ (f K : Nat) (acc : List Fld) (e : Int), parH f l K acc = .error e → e = 2 ∨ e = 3 ∨ e = 4
  | 0, _, _, e, h => by simp only [parH, Except.error.injEq] at h; omega
  | f + 1, K, acc, e, h => by
    rw [parH] at h
    split at h
    · simp only [Except.error.injEq] at h
      rcases lineL_errs (l.drop K) with h1 | h1 | h1 | h1 <;> omega
    · split at h
      · cases h
      · split at h
        · simp only [Except.error.injEq] at h; omega
        · split at h
          · simp only [Except.error.injEq] at h; omega
          · exact parH_errs l f _ _ e h
theorem parH_lens (l : List UInt8) : ∀ (f K : Nat) (acc fs : List Fld) (n : Nat), parH f l K acc = .ok (fs, n) → K ≤ l.length → n ≤ l.length
  | 0, _, _, _, _, h, _ => by cases h
  | f + 1, K, acc, fs, n, h, hK => by
    rw [parH] at h
    split at h
    · cases h
    · rename_i h0
      have := lineL_le (l.drop K) (by simpa using h0)
      rw [List.length_drop] at this
      split at h
      · simp only [Except.ok.injEq, Prod.mk.injEq] at h
        omega
      · split at h
        · cases h
        · split at h
          · cases h
          · exact parH_lens l f _ _ fs n h (by omega)
theorem datL_cases (l : List UInt8) (k : Nat) : (k + 2 ≤ l.length ∧ datL l k = (l.take k, 0)) ∨ ∃ e : Int, datL l k = ([], e) ∧ (e = 2 ∨ e = 3) := by
  unfold datL
  split
  · exact .inr ⟨3, rfl, .inr rfl⟩
  · rename_i h
    split
    · exact .inr ⟨2, rfl, .inl rfl⟩
    · exact .inl ⟨by omega, rfl⟩

set_option maxRecDepth 100000 in
set_option maxHeartbeats 16000000 in
theorem decode_any (s : ByteArray) (w : World) (hs : s.size ≤ 90000) (hT : Tabs w) (hE : Errs w) :
    Calls Tryd.prog 28 #[.string s] w fun e w' => e = .returned (decV (decL s.data.toList)) ∧ Below w.heap.size w w' := by
  have hsz := Lib.size_eq s
  have hfr : Lib.IsBuilder 57 5 w.heap.size w.heap.size (Lib.byteCells []) (w.alloc (.cells #[.pointer none, .slice none 0 0] 57)) :=
    .inl ⟨Nat.le_refl _, .slice none 0 0, heap_alloc_new w _, World.ownsRow_nil _ _ _ _, by simp [Value.ownBlock]⟩
  have Hfr := Lib.hid hfr
  have HT := Lib.hid hT
  have HE := Lib.hid hE
  have HSt : Hid (decL s.data.toList = decG (s.size + 1) s.data.toList 0 []) := Lib.hid (by rw [decL, hsz])
  have HSz := Lib.hid hsz
  clear hfr hT hE hsz
  go_enter Tryd.func28, Tryd.ntmps28
  go_wp2_with fail
  go_step3
  go_wp2_with fail
  go_step3
  go_wp2_with fail
  go_loopw [6] (fun v wr => ∃ (K f : Nat) (acc : List UInt8), v = .int .i64 (K : Int) ∧ K ≤ s.size ∧ s.size < f + K ∧ acc.length ≤ 100000 ∧ Hid (decL s.data.toList = decG f s.data.toList K acc) ∧ heldC w acc wr) (fun v _ => s.size - (intOf v).toNat)
  case atStart =>
    exact ⟨0, s.size + 1, [], rfl, Nat.zero_le _, by omega, by simp, HSt, Hfr.out, (Below.refl _ _).alloc (Nat.le_refl _) _, by simp⟩
  case round =>
    obtain ⟨K, f, acc, rfl, hK, hf, hal, H, hh⟩ := hrel
    clear Hfr HSt
    obtain ⟨f, rfl⟩ : ∃ f', f = f' + 1 := ⟨f - 1, by omega⟩
    have hxd : (s.extract K s.size).data.toList = s.data.toList.drop K := Lib.extract_to_end s K
    have hxs : (s.extract K s.size).size = s.size - K := by rw [Lib.size_eq, hxd, List.length_drop, ← HSz.out]
    have cR := fun W h1 h2 => readLine_any (s.extract K s.size) W (by omega) h1 h2
    rw [hxd] at cR
    have hH := H.out
    rw [decG] at hH
    have HH := Lib.hid hh
    have hKI : (K : Int) ≤ (s.size : Int) := by omega
    clear H hh
    cases hr : rdL (s.data.toList.drop K) with
    | error e =>
      rw [hr] at hH cR
      have HR : Hid (decV (decL s.data.toList) = .tuple #[.string ⟨#[]⟩, .int .i64 0, .int .i64 e]) := Lib.hid (by rw [hH]; rfl)
      have d : (e != 0) = true := by
        have := rdL_err hr
        have h0 : ¬ e = 0 := by omega
        simpa using h0
      unfold rdV at cR
      clear hr hH hxd hxs
      go_wp2_with fail
      refine (cR _ (Utf8Tabs_below HT.out HH.out.2.1) (HE.out.below HH.out.2.1)).mono ?_
      rintro e' w2 ⟨rfl, hb2⟩
      have H2 := Lib.hid (heldC_next HH.out hb2)
      clear hb2 cR
      go_wp2_with fail
      rw [Exit.noGoto_ret]
      exact bodyPost_ret (v := .tuple #[.string ⟨#[]⟩, .int .i64 0, .int .i64 e]) (by simp [results, Tryd.results28, go_sem]) rfl ⟨by rw [HR.out], H2.out.2.1⟩
    | ok q =>
      obtain ⟨k, n⟩ := q
      rw [hr] at hH cR
      obtain ⟨hk, hn2, hnl⟩ := rdL_ok hr
      rw [List.length_drop, ← HSz.out] at hnl
      dsimp only at hH
      unfold rdV at cR
      obtain ⟨K1, hK1⟩ : ∃ K1, K + n = K1 := ⟨_, rfl⟩
      rw [hK1] at hH
      have q1 : (K : Int) + (n : Int) = (K1 : Int) := by omega
      have hK1s : K1 ≤ s.size := by omega
      have hK1I : (K1 : Int) ≤ (s.size : Int) := by omega
      have cN := fun W h => (Tryd.Builder_Len w.heap.size w.heap.size (Lib.byteCells acc) W h).mono (R' := fun e w' => e = .returned (.int .i64 (Lib.byteCells acc).length) ∧ W = w') (fun e w' h => ⟨h.1, h.2.symm⟩)
      rw [Lib.byteCells_length] at cN
      clear hr hxd hxs
      by_cases hbig : 100000 < acc.length + k
      · rw [if_pos hbig] at hH
        have HR : Hid (decV (decL s.data.toList) = .tuple #[.string ⟨#[]⟩, .int .i64 0, .int .i64 4]) := Lib.hid (by rw [hH]; rfl)
        have d : (100000 : Int) < (acc.length : Int) + (k : Int) := by omega
        clear hH hbig
        generalize acc.length = aln at *
        go_wp2_with fail
        refine (cR _ (Utf8Tabs_below HT.out HH.out.2.1) (HE.out.below HH.out.2.1)).mono ?_
        rintro e' w2 ⟨rfl, hb2⟩
        have H2 := Lib.hid (heldC_next HH.out hb2)
        clear hb2 cR
        go_wp2_with fail
        refine (cN _ H2.out.1).mono ?_
        rintro e' w3 ⟨rfl, rfl⟩
        go_wp2_with fail
        rw [Exit.noGoto_ret]
        exact bodyPost_ret (v := .tuple #[.string ⟨#[]⟩, .int .i64 0, .int .i64 4]) (by simp [results, Tryd.results28, go_sem]) rfl ⟨by rw [HR.out], H2.out.2.1⟩
      · rw [if_neg hbig] at hH
        have d : ¬ (100000 : Int) < (acc.length : Int) + (k : Int) := by omega
        have hyd : (s.extract K1 s.size).data.toList = s.data.toList.drop K1 := Lib.extract_to_end s K1
        have hys : (s.extract K1 s.size).size = s.size - K1 := by rw [Lib.size_eq, hyd, List.length_drop, ← HSz.out]
        by_cases hk0 : k = 0
        · rw [if_pos hk0] at hH
          subst hk0
          have cH := fun W h => hparse_any (s.extract K1 s.size) W (by omega) h
          rw [hyd] at cH
          have d0 : ¬ (100000 : Int) < (acc.length : Int) := by omega
          cases hp : parseH (s.data.toList.drop K1) with
          | error e =>
            rw [hp] at hH cH
            have HR : Hid (decV (decL s.data.toList) = .tuple #[.string ⟨#[]⟩, .int .i64 0, .int .i64 e]) := Lib.hid (by rw [hH]; rfl)
            have de : (e != 0) = true := by
              have := parH_errs _ 65 0 [] e hp
              have h0 : ¬ e = 0 := by omega
              simpa using h0
            clear hH hbig hp hyd hys
            generalize acc.length = aln at *
            go_wp2_with fail
            refine (cR _ (Utf8Tabs_below HT.out HH.out.2.1) (HE.out.below HH.out.2.1)).mono ?_
            rintro e' w2 ⟨rfl, hb2⟩
            have H2 := Lib.hid (heldC_next HH.out hb2)
            clear hb2 cR
            go_wp2_with fail
            refine (cN _ H2.out.1).mono ?_
            rintro e' w3 ⟨rfl, rfl⟩
            go_wp2_with fail
            refine (cH _ (Utf8Tabs_below HT.out H2.out.2.1)).mono ?_
            rintro e' w3 ⟨hb3, rfl⟩
            have H3 := Lib.hid (heldC_next H2.out hb3)
            go_wp2_with fail
            rw [Exit.noGoto_ret]
            exact bodyPost_ret (v := .tuple #[.string ⟨#[]⟩, .int .i64 0, .int .i64 e]) (by simp [results, Tryd.results28, go_sem]) rfl ⟨by rw [HR.out], H3.out.2.1⟩
          | ok q =>
            obtain ⟨fs, m⟩ := q
            have hml := parH_lens _ 65 0 [] fs m hp (Nat.zero_le _)
            rw [List.length_drop, ← HSz.out] at hml
            rw [hp] at hH cH
            have HR : Hid (decV (decL s.data.toList) = .tuple #[.string ⟨acc.toArray⟩, .int .i64 ((K1 : Int) + (m : Int)), .int .i64 0]) := Lib.hid (by
              rw [hH, decV, show ((K1 + m : Nat) : Int) = (K1 : Int) + (m : Int) by omega]
              rfl)
            clear hH hbig hp hyd hys
            go_wp2_with fail
            refine (cR _ (Utf8Tabs_below HT.out HH.out.2.1) (HE.out.below HH.out.2.1)).mono ?_
            rintro e' w2 ⟨rfl, hb2⟩
            have H2 := Lib.hid (heldC_next HH.out hb2)
            clear hb2 cR
            go_wp2_with fail
            refine (cN _ H2.out.1).mono ?_
            rintro e' w3 ⟨rfl, rfl⟩
            go_wp2_with fail
            refine (cH _ (Utf8Tabs_below HT.out H2.out.2.1)).mono ?_
            rintro e' w3 ⟨hb3, v3, rfl, hown3⟩
            obtain ⟨a3, c3, rfl⟩ := owns_formF hown3
            have H3 := Lib.hid (heldC_next H2.out hb3)
            have cS := Tryd.Builder_String_any w.heap.size w.heap.size acc w3 H3.out.1 (Nat.le_of_lt H3.out.2.2)
            clear hb3 hown3 cH cN
            go_wp2_with fail
            refine cS.mono ?_
            rintro e' w4 ⟨rfl, hb4⟩
            go_wp2_with fail
            rw [Exit.noGoto_ret]
            exact bodyPost_ret (v := .tuple #[.string ⟨acc.toArray⟩, .int .i64 ((K1 : Int) + (m : Int)), .int .i64 0]) (by simp [results, Tryd.results28, go_sem]) rfl ⟨by rw [HR.out], H3.out.2.1.trans hb4⟩
        · rw [if_neg hk0] at hH
          have dk : ((k : Int) == 0) = false := by simpa using (by omega : ¬ (k : Int) = 0)
          have cD := fun W => dataOf_any (s.extract K1 s.size) k W (by omega) (by omega)
          rw [hyd] at cD
          rcases datL_cases (s.data.toList.drop K1) k with ⟨hdl, hdt⟩ | ⟨e, hdt, hde⟩
          · rw [hdt] at hH cD
            rw [if_pos rfl] at hH
            rw [List.length_drop, ← HSz.out] at hdl
            obtain ⟨K2, hK2⟩ : ∃ K2, K1 + k + 2 = K2 := ⟨_, rfl⟩
            rw [hK2] at hH
            have q2 : (K1 : Int) + ((k : Int) + 2) = (K2 : Int) := by omega
            have htl : ((s.data.toList.drop K1).take k).length = k := by rw [List.length_take, List.length_drop, ← HSz.out]; omega
            have hac : (acc ++ (s.data.toList.drop K1).take k).length ≤ 100000 := by rw [List.length_append, htl]; omega
            have cW := fun W (h : heldC w acc W) => (writeString_any w.heap.size w.heap.size (Lib.byteCells acc) (strB ((s.data.toList.drop K1).take k)) W h.1 (by rw [Lib.byteCells_length, strB_size, htl]; omega) (Nat.le_of_lt h.2.2)).mono (R' := fun e w' => e = .returned (.tuple #[.int .i64 (strB ((s.data.toList.drop K1).take k)).size, .nilIface]) ∧ heldC w (acc ++ (s.data.toList.drop K1).take k) w') (fun e w' hq => by
              obtain ⟨he, hbd, hb⟩ := hq
              rw [show Lib.byteCells acc ++ Lib.strCells (strB ((s.data.toList.drop K1).take k)) = Lib.byteCells (acc ++ (s.data.toList.drop K1).take k) by
                rw [show Lib.strCells (strB ((s.data.toList.drop K1).take k)) = Lib.byteCells ((s.data.toList.drop K1).take k) from rfl]
                simp [Lib.byteCells]] at hbd
              exact ⟨he, .inr hbd, h.2.1.trans hb, by have := hbd.lt; omega⟩)
            have HH2 := Lib.hid hH
            unfold lineV at cD
            dsimp only at cD
            generalize acc ++ (s.data.toList.drop K1).take k = acc2 at *
            generalize strB ((s.data.toList.drop K1).take k) = P at *
            clear hH hbig hyd hys hdt htl
            go_wp2_with fail
            refine (cR _ (Utf8Tabs_below HT.out HH.out.2.1) (HE.out.below HH.out.2.1)).mono ?_
            rintro e' w2 ⟨rfl, hb2⟩
            have H2 := Lib.hid (heldC_next HH.out hb2)
            clear hb2 cR
            go_wp2_with fail
            refine (cN _ H2.out.1).mono ?_
            rintro e' w3 ⟨rfl, rfl⟩
            go_wp2_with fail
            refine (cD _).mono ?_
            rintro e' w3 ⟨rfl, rfl⟩
            go_wp2_with fail
            refine (cW _ H2.out).mono ?_
            rintro e' w3 ⟨rfl, h3⟩
            go_wp2_with fail
            go_roundw
            case rel => exact ⟨K2, f, acc2, by go_num, by omega, by omega, hac, Lib.hid HH2.out, h3⟩
            case measure => simp [intOf]; omega
          · rw [hdt] at hH cD
            have he0 : ¬ e = 0 := by omega
            rw [if_neg he0] at hH
            have HR : Hid (decV (decL s.data.toList) = .tuple #[.string ⟨#[]⟩, .int .i64 0, .int .i64 e]) := Lib.hid (by rw [hH]; rfl)
            have de : (e != 0) = true := by simpa using he0
            unfold lineV at cD
            dsimp only at cD
            rw [show strB [] = (⟨#[]⟩ : ByteArray) from rfl] at cD
            clear hH hbig hyd hys hdt hde he0
            generalize acc.length = aln at *
            go_wp2_with fail
            refine (cR _ (Utf8Tabs_below HT.out HH.out.2.1) (HE.out.below HH.out.2.1)).mono ?_
            rintro e' w2 ⟨rfl, hb2⟩
            have H2 := Lib.hid (heldC_next HH.out hb2)
            clear hb2 cR
            go_wp2_with fail
            refine (cN _ H2.out.1).mono ?_
            rintro e' w3 ⟨rfl, rfl⟩
            go_wp2_with fail
            refine (cD _).mono ?_
            rintro e' w3 ⟨rfl, rfl⟩
            go_wp2_with fail
            rw [Exit.noGoto_ret]
            exact bodyPost_ret (v := .tuple #[.string ⟨#[]⟩, .int .i64 0, .int .i64 e]) (by simp [results, Tryd.results28, go_sem]) rfl ⟨by rw [HR.out], H2.out.2.1⟩

end Go.Proofs.YtfhpgobdnhlpcaaDoor
