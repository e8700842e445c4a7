/- The document's own directive of a text (sculleryref10.one). -/
import Derived.Test.YtjnagifolheloaaDoorMDirP
import Derived.Test.YtjnagifolheloaaDoorMRoA
import Derived.Test.YtjnagifolheloaaDoorMRjD
import Derived.Test.YtjnagifolheloaaDoorMRjA
import Derived.WalkKit
import Derived.WalkSpells
import Derived.WalkLawsBesides
import Derived.Deep.RegionWith
import Derived.Deep.RegionLaw

namespace Go.Proofs.YtjnagifolheloaaDoor
open Go.RowKit Go.Lib

/-- What one answers: a directive where there is one. -/
def onePost (o : Option Dir) (w : World) (e : Ending) (w' : World) : Prop := (∃ N V H, e = .returned (.tuple #[.agg #[.string (strB N), .string (strB V), .bool H], .bool o.isSome]) ∧ ∀ d, o = some d → d = (N, V, H)) ∧ Below w.heap.size w w'

set_option maxRecDepth 100000 in
set_option maxHeartbeats 4000000 in
/-- No sign of a value in it. -/
theorem rone_no (s : ByteArray) (w : World) (hs : s.size ≤ 100000) (h0 : Lib.indexByte s.data.toList 61 = -1) :
    Calls Tryd.prog 21 #[.string s] w (onePost (oneL s.data.toList) w) := by
  have cT := fun W => rtoken_any s W (by unfold maxLen; omega)
  have cL := fun W => rlower_any s W (by omega)
  have HO : Hid ((oneL s.data.toList).isSome = tokL s.data.toList ∧ ∀ d, oneL s.data.toList = some d → d = (lowL s.data.toList, [], false)) := Lib.hid (by
    rw [oneL, if_pos h0]
    cases tokL s.data.toList
    · exact ⟨rfl, fun d h => by cases h⟩
    · exact ⟨rfl, fun d h => (Option.some.inj h).symm⟩)
  generalize oneL s.data.toList = O at *
  have HI := Lib.hid h0
  clear h0
  go_enter Tryd.func21, Tryd.ntmps21
  go_wp2_with fail
  go_loopw [4] (fun i wr => ∃ k : Nat, k ≤ s.size ∧ i = .int .i64 k ∧ wr = w.alloc (.cells #[.string ⟨#[]⟩, .string ⟨#[]⟩, .bool false] 48)) (fun i _ => s.size - (intOf i).toNat)
  case atStart => exact ⟨0, Nat.zero_le _, rfl, rfl⟩
  case round =>
    obtain ⟨k, hk, rfl, rfl⟩ := hrel
    by_cases hlt : k < s.size
    · have hne : (((s[k]'hlt).toNat : Int) != 61) = true := by
        have h1 := byte_beq (s[k]'hlt) 61
        have h2 : ((s[k]'hlt) == 61) = false := by
          rw [beq_eq_false_iff_ne]
          intro h
          exact Lib.indexByte_none HI.out k (by rw [List.getElem?_eq_getElem (by rw [← Lib.size_eq]; exact hlt)]; exact congrArg some h)
        rw [h2] at h1
        rw [bne, show (61 : Int) = (((61 : UInt8).toNat : Int)) from rfl, h1]
        rfl
      go_wp2_with fail
      go_roundw
      case rel => exact ⟨k + 1, by omega, by go_num, trivial⟩
      case measure => simp [intOf]; omega
    · have hkI : ¬ (k : Int) < (s.size : Int) := by omega
      have HB0 := Lib.hid (BoxD.made w (.string ⟨#[]⟩) (.string ⟨#[]⟩) (.bool false) 48)
      have hz1 : w.heap.size ≤ (w.alloc (.cells #[.string ⟨#[]⟩, .string ⟨#[]⟩, .bool false] 48)).heap.size := by simp
      have HB1 := Lib.hid ((Below.refl w.heap.size w).alloc (Nat.le_refl _) (.cells #[.string ⟨#[]⟩, .string ⟨#[]⟩, .bool false] 48))
      generalize w.alloc (.cells #[.string ⟨#[]⟩, .string ⟨#[]⟩, .bool false] 48) = w1 at *
      go_wp2_with (first | (go_at_call 38; refine (cL _).mono ?_; rintro e w2 ⟨rfl, hb2⟩; obtain ⟨r0, r1, r2, g0, g1, g2⟩ := HB0.out.next hb2) | (go_at_call 39; refine (cT _).mono ?_; rintro e w3 ⟨rfl, rfl⟩))
      obtain ⟨p0, p1, p2, _, _, _⟩ := (HB0.out.next hb2).put (.string (strB (lowL s.data.toList))) (.string ⟨#[]⟩) (.bool false)
      have HX := Lib.hid (below_put (HB1.out.trans (hb2.mono hz1)) (Nat.le_refl w.heap.size) (.string (strB (lowL s.data.toList))) (.string ⟨#[]⟩) (.bool false))
      generalize ((w2.setCell ⟨w.heap.size, 0, none⟩ (.string (strB (lowL s.data.toList)))).setCell ⟨w.heap.size, 1, none⟩ (.string ⟨#[]⟩)).setCell ⟨w.heap.size, 2, none⟩ (.bool false) = W9 at *
      refine bodyPost_ret (v := .tuple #[.agg #[.string (strB (lowL s.data.toList)), .string ⟨#[]⟩, .bool false], .bool (tokL s.data.toList)]) (by simp [results, Tryd.results21, go_sem, p0, p1, p2]) rfl ⟨⟨lowL s.data.toList, [], false, by rw [HO.out.1]; rfl, HO.out.2⟩, HX.out⟩

set_option maxRecDepth 100000 in
set_option maxHeartbeats 4000000 in
/-- There is one. -/
theorem rone_yes (s : ByteArray) (o : Nat) (w : World) (hs : s.size ≤ 100000) (h0 : Lib.indexByte s.data.toList 61 = o) :
    Calls Tryd.prog 21 #[.string s] w (onePost (oneL s.data.toList) w) := by
  have ho : o < s.size := by
    have := (Lib.indexByte_some h0).1
    rw [Lib.size_eq]
    exact (List.getElem?_eq_some_iff.1 this).1
  have hN1 : (s.extract 0 o).size ≤ 100000 := by rw [ByteArray.size_extract]; omega
  have hV1 : (s.extract (o + 1) s.size).size ≤ 100000 := by rw [ByteArray.size_extract]; omega
  have eN : (s.extract 0 o).data.toList = s.data.toList.take o := by rw [Lib.extract_data]; rfl
  have eV : (s.extract (o + 1) s.size).data.toList = s.data.toList.drop (o + 1) := by
    rw [Lib.extract_data]
    exact List.take_of_length_le (by rw [List.length_drop, ← Lib.size_eq]; exact Nat.le_refl _)
  have cN := fun W => rtoken_any (s.extract 0 o) W (by unfold maxLen; omega)
  have cV := fun W => rtoken_any (s.extract (o + 1) s.size) W (by unfold maxLen; omega)
  have cL := fun W => rlower_any (s.extract 0 o) W (by omega)
  have cU := fun W => unquoted_any (s.extract (o + 1) s.size) W hV1
  rw [eN] at cN cL
  rw [eV] at cV cU
  have HO : Hid (oneL s.data.toList = if tokL (s.data.toList.take o) = true then (if tokL (s.data.toList.drop (o + 1)) = true then some (lowL (s.data.toList.take o), s.data.toList.drop (o + 1), true) else (unqL (s.data.toList.drop (o + 1))).map fun t => (lowL (s.data.toList.take o), t, true)) else none) := Lib.hid (by
    have h1 : ¬ Lib.indexByte s.data.toList 61 = -1 := by omega
    rw [oneL, if_neg h1, h0]
    rfl)
  have HI := Lib.hid h0
  have hSV : s.extract (o + 1) s.size = strB (s.data.toList.drop (o + 1)) := by rw [← eV, strB_of]
  rw [hSV] at cV cU
  have HSV := Lib.hid hSV
  clear h0 eN eV hN1 hV1 hSV
  obtain ⟨tn, htn⟩ : ∃ tn, tokL (s.data.toList.take o) = tn := ⟨_, rfl⟩
  obtain ⟨tv, htv⟩ : ∃ tv, tokL (s.data.toList.drop (o + 1)) = tv := ⟨_, rfl⟩
  rw [htn] at HO cN
  rw [htv] at HO cV
  clear htn htv
  generalize oneL s.data.toList = O at *
  generalize lowL (s.data.toList.take o) = LN at *
  obtain ⟨LV, hLV⟩ : ∃ LV, s.data.toList.drop (o + 1) = LV := ⟨_, rfl⟩
  rw [hLV] at cV cU HO HSV
  clear hLV
  obtain ⟨U, hU⟩ : ∃ U, unqL LV = U := ⟨_, rfl⟩
  rw [hU] at cU HO
  clear hU
  go_enter Tryd.func21, Tryd.ntmps21
  go_wp2_with fail
  go_loopw [4] (fun i wr => ∃ k : Nat, k ≤ o ∧ i = .int .i64 k ∧ wr = w.alloc (.cells #[.string ⟨#[]⟩, .string ⟨#[]⟩, .bool false] 48)) (fun i _ => s.size - (intOf i).toNat)
  case atStart => exact ⟨0, Nat.zero_le _, rfl, rfl⟩
  case round =>
    obtain ⟨k, hk, rfl, rfl⟩ := hrel
    have hlt : k < s.size := by omega
    have h1 := byte_beq (s[k]'hlt) 61
    rw [show ((61 : UInt8).toNat : Int) = 61 from rfl] at h1
    by_cases hko : k < o
    · have hne : (((s[k]'hlt).toNat : Int) != 61) = true := by
        have h2 : ((s[k]'hlt) == 61) = false := by
          rw [beq_eq_false_iff_ne]
          intro h
          exact (Lib.indexByte_some HI.out).2 k hko (by rw [List.getElem?_eq_getElem (by rw [← Lib.size_eq]; exact hlt)]; exact congrArg some h)
        rw [h2] at h1
        rw [bne, h1]
        rfl
      clear h1
      go_wp2_with fail
      go_roundw
      case rel => exact ⟨k + 1, by omega, by go_num, trivial⟩
      case measure => simp [intOf]; omega
    · obtain rfl : k = o := by omega
      have hne : (((s[k]'hlt).toNat : Int) != 61) = false := by
        have h2 : ((s[k]'hlt) == 61) = true := by
          have := (Lib.indexByte_some HI.out).1
          rw [List.getElem?_eq_getElem (by rw [← Lib.size_eq]; exact hlt)] at this
          exact beq_iff_eq.2 (Option.some.inj this)
        rw [h2] at h1
        rw [bne, h1]
        rfl
      have HB0 := Lib.hid (BoxD.made w (.string ⟨#[]⟩) (.string ⟨#[]⟩) (.bool false) 48)
      have HB1 := Lib.hid ((Below.refl w.heap.size w).alloc (Nat.le_refl _) (.cells #[.string ⟨#[]⟩, .string ⟨#[]⟩, .bool false] 48))
      have HZ1 := Lib.hid (show w.heap.size + 1 = (w.alloc (.cells #[.string ⟨#[]⟩, .string ⟨#[]⟩, .bool false] 48)).heap.size by simp)
      generalize w.alloc (.cells #[.string ⟨#[]⟩, .string ⟨#[]⟩, .bool false] 48) = w1 at *
      clear h1 hko hk
      cases tv
      · cases U with
        | none =>
          have cU0 : ∀ W, Calls Tryd.prog 40 #[.string (strB LV)] W (fun e w' => (∃ X, e = .returned (.tuple #[.string X, .bool false])) ∧ Below W.heap.size W w') := fun W => (cU W).mono fun e w' h => ⟨⟨h.1.choose, h.1.choose_spec.1⟩, h.2⟩
          clear cU
          have HO2 : Hid (O = none) := Lib.hid (by rw [HO.out]; cases tn <;> rfl)
          go_wp2_with (first | (go_at_call 38; refine (cL _).mono ?_; rintro e w2 ⟨rfl, hb2⟩; have HB2 := Lib.hid (HB0.out.next hb2); have HX := Lib.hid (Below.trans HB1.out (hb2.mono (by have := HZ1.out; omega)))) | (go_at_call 39; rw [HSV.out]; refine (cV _).mono ?_; rintro e w3 ⟨rfl, hw3⟩; have HB3 := Lib.hid (HB2.out.next (hw3 ▸ (Below.refl _ _).alloc (Nat.le_refl _) _)); have HX3 := Lib.hid (hw3 ▸ HX.out.alloc HX.out.size _); have HQ3 := Lib.hid (hw3 ▸ BoxD.made w2 _ _ _ _); clear hw3) | (go_at_call 40; refine (cU0 _).mono ?_; rintro e w4 ⟨⟨X, rfl⟩, hb4⟩; have HX4 := Lib.hid (HX3.out.trans (hb4.mono HX3.out.size)); have HQ4 := Lib.hid (HQ3.out.next hb4); have HB4 := Lib.hid (HB3.out.next hb4); have HD4 := Lib.hid (show w2.heap.size ≠ w.heap.size by have := HZ1.out; have := hb2.size; omega); have q1 := HQ4.out.r1; have f1 := HQ4.out.g1))
          have HQ5 := Lib.hid (HQ4.out.put1 (.string X))
          have HB5 := Lib.hid (HB4.out.other HD4.out (k := 1) (.string X))
          have HX5 := Lib.hid (below_set HX4.out HX.out.size 1 (.string X))
          clear q1 f1
          generalize w4.setCell ⟨w2.heap.size, 1, none⟩ (.string X) = w6 at *
          obtain ⟨q0, q1, q2, f0, f1, f2⟩ := HQ5.out
          obtain ⟨r0, r1, r2, g0, g1, g2⟩ := HB5.out
          go_region
          all_goals go_wp2_with fail
          all_goals
            obtain ⟨p0, p1, p2, _, _, _⟩ := HB5.out.put (.string (strB LN)) (.string X) (.bool true)
            have HX9 := Lib.hid (below_put HX5.out (Nat.le_refl w.heap.size) (.string (strB LN)) (.string X) (.bool true))
            generalize ((w6.setCell ⟨w.heap.size, 0, none⟩ (.string (strB LN))).setCell ⟨w.heap.size, 1, none⟩ (.string X)).setCell ⟨w.heap.size, 2, none⟩ (.bool true) = W9 at *
            refine bodyPost_ret (v := .tuple #[.agg #[.string (strB LN), .string X, .bool true], .bool false]) (by simp [results, Tryd.results21, go_sem, p0, p1, p2]) rfl ⟨⟨LN, X.data.toList, true, by rw [HO2.out, strB_of]; rfl, fun d h => by rw [HO2.out] at h; cases h⟩, HX9.out.drew⟩
        | some t =>
          have cU1 : ∀ W, Calls Tryd.prog 40 #[.string (strB LV)] W (fun e w' => e = .returned (.tuple #[.string (strB t), .bool true]) ∧ Below W.heap.size W w') := fun W => (cU W).mono fun e w' h => ⟨by rw [h.1.choose_spec.1, h.1.choose_spec.2 t rfl]; rfl, h.2⟩
          clear cU
          have HO2 : Hid (O.isSome = tn ∧ ∀ d, O = some d → d = (LN, t, true)) := Lib.hid (by
            rw [HO.out]
            cases tn
            · exact ⟨rfl, fun d h => by cases h⟩
            · exact ⟨rfl, fun d h => (Option.some.inj h).symm⟩)
          go_wp2_with (first | (go_at_call 38; refine (cL _).mono ?_; rintro e w2 ⟨rfl, hb2⟩; have HB2 := Lib.hid (HB0.out.next hb2); have HX := Lib.hid (Below.trans HB1.out (hb2.mono (by have := HZ1.out; omega)))) | (go_at_call 39; rw [HSV.out]; refine (cV _).mono ?_; rintro e w3 ⟨rfl, hw3⟩; have HB3 := Lib.hid (HB2.out.next (hw3 ▸ (Below.refl _ _).alloc (Nat.le_refl _) _)); have HX3 := Lib.hid (hw3 ▸ HX.out.alloc HX.out.size _); have HQ3 := Lib.hid (hw3 ▸ BoxD.made w2 _ _ _ _); clear hw3) | (go_at_call 40; refine (cU1 _).mono ?_; rintro e w4 ⟨rfl, hb4⟩; have HX4 := Lib.hid (HX3.out.trans (hb4.mono HX3.out.size)); have HQ4 := Lib.hid (HQ3.out.next hb4); have HB4 := Lib.hid (HB3.out.next hb4); have HD4 := Lib.hid (show w2.heap.size ≠ w.heap.size by have := HZ1.out; have := hb2.size; omega); have q1 := HQ4.out.r1; have f1 := HQ4.out.g1))
          have HQ5 := Lib.hid (HQ4.out.put1 (.string (strB t)))
          have HB5 := Lib.hid (HB4.out.other HD4.out (k := 1) (.string (strB t)))
          have HX5 := Lib.hid (below_set HX4.out HX.out.size 1 (.string (strB t)))
          clear q1 f1
          generalize w4.setCell ⟨w2.heap.size, 1, none⟩ (.string (strB t)) = w6 at *
          obtain ⟨q0, q1, q2, f0, f1, f2⟩ := HQ5.out
          obtain ⟨r0, r1, r2, g0, g1, g2⟩ := HB5.out
          go_region_law ((go_simp; go_at_call 39; refine (cN _).mono ?_; rintro e w7 ⟨rfl, rfl⟩))
          all_goals go_wp2_with fail
          all_goals
            obtain ⟨p0, p1, p2, _, _, _⟩ := HB5.out.put (.string (strB LN)) (.string (strB t)) (.bool true)
            have HX9 := Lib.hid (below_put HX5.out (Nat.le_refl w.heap.size) (.string (strB LN)) (.string (strB t)) (.bool true))
            generalize ((w6.setCell ⟨w.heap.size, 0, none⟩ (.string (strB LN))).setCell ⟨w.heap.size, 1, none⟩ (.string (strB t))).setCell ⟨w.heap.size, 2, none⟩ (.bool true) = W9 at *
            refine bodyPost_ret (v := .tuple #[.agg #[.string (strB LN), .string (strB t), .bool true], .bool tn]) (by simp [results, Tryd.results21, go_sem, p0, p1, p2]) rfl ⟨⟨LN, t, true, by rw [HO2.out.1], HO2.out.2⟩, HX9.out.drew⟩
      · go_wp2_with (first | (go_at_call 38; refine (cL _).mono ?_; rintro e w2 ⟨rfl, hb2⟩; have HB2 := Lib.hid (HB0.out.next hb2); have HX := Lib.hid (Below.trans HB1.out (hb2.mono (by have := HZ1.out; omega)))) | (go_at_call 39; rw [HSV.out]; refine (cV _).mono ?_; rintro e w3 ⟨rfl, hw3⟩; have HB3 := Lib.hid (HB2.out.next (hw3 ▸ (Below.refl _ _).alloc (Nat.le_refl _) _)); have HX3 := Lib.hid (hw3 ▸ HX.out.alloc HX.out.size _); obtain ⟨q0, q1, q2, f0, f1, f2⟩ := hw3 ▸ BoxD.made w2 _ _ _ _; obtain ⟨r0, r1, r2, g0, g1, g2⟩ := HB3.out; clear hw3))
        go_region_with (go_at_call 39; refine (cN _).mono ?_; rintro e w5 ⟨rfl, rfl⟩)
        all_goals go_wp2_with fail
        all_goals
          obtain ⟨p0, p1, p2, _, _, _⟩ := HB3.out.put (.string (strB LN)) (.string (strB LV)) (.bool true)
          have HX9 := Lib.hid (below_put HX3.out (Nat.le_refl w.heap.size) (.string (strB LN)) (.string (strB LV)) (.bool true))
          generalize ((w3.setCell ⟨w.heap.size, 0, none⟩ (.string (strB LN))).setCell ⟨w.heap.size, 1, none⟩ (.string (strB LV))).setCell ⟨w.heap.size, 2, none⟩ (.bool true) = W9 at *
          refine bodyPost_ret (v := .tuple #[.agg #[.string (strB LN), .string (strB LV), .bool true], .bool tn]) (by simp [results, Tryd.results21, go_sem, p0, p1, p2]) rfl ⟨⟨LN, LV, true, ?_, ?_⟩, HX9.out.drew⟩
          · rw [HO.out]
            cases tn <;> rfl
          · rw [HO.out]
            cases tn
            · exact fun d h => by cases h
            · exact fun d h => (Option.some.inj h).symm

theorem rone_any (s : ByteArray) (w : World) (hs : s.size ≤ 100000) :
    Calls Tryd.prog 21 #[.string s] w (onePost (oneL s.data.toList) w) := by
  by_cases h0 : Lib.indexByte s.data.toList 61 = -1
  · exact rone_no s w hs h0
  · have h1 := Lib.indexByte_ge s.data.toList 61
    obtain ⟨o, ho⟩ := Int.eq_ofNat_of_zero_le (show 0 ≤ Lib.indexByte s.data.toList 61 by omega)
    exact rone_yes s o w hs ho

end Go.Proofs.YtjnagifolheloaaDoor
