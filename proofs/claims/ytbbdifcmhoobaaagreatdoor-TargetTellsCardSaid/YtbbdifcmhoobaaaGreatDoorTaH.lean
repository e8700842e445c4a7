/- The contracts of strings.Split at a slash, and of target.Dots. -/
import Derived.Test.YtbbdifcmhoobaaaGreatDoorTaG
import Derived.Test.YtbbdifcmhoobaaaGreatDoorShelf
import Derived.Lib.SplitLaws
namespace Go.Proofs.YtbbdifcmhoobaaaGreatDoor
open Go.RowKit Go.Shelf Go.Lib

theorem split_data (s : ByteArray) : (Lib.splitB ⟨#[47]⟩ 0 (Lib.countB s ⟨#[47]⟩) s).map Value.string = rowT (partsL s.data.toList) := by
  have h := Lib.splitB_data ⟨#[47]⟩ 0 (Lib.countB s ⟨#[47]⟩) s
  have h2 : Lib.splitK (⟨#[47]⟩ : ByteArray).data.toList 0 (Lib.countB s ⟨#[47]⟩) s.data.toList = partsL s.data.toList := split_parts s.data.toList
  rw [h2] at h
  rw [rowT, ← h, List.map_map]
  refine List.map_congr_left fun x _ => ?_
  show Value.string x = Value.string (strB x.data.toList)
  rw [strB_of]

set_option maxRecDepth 100000 in
set_option maxHeartbeats 2000000 in
theorem genSplit_any (s : ByteArray) (w : World) (hs : s.size ≤ 100000) :
    Calls Tryz.prog 45 #[.string s, .string ⟨#[47]⟩, .int .i64 0, .int .i64 (-1)] w fun e w' => e = .returned (.slice (some ⟨w.heap.size, 0, none⟩) (partsL s.data.toList).length (partsL s.data.toList).length) ∧ w' = w.alloc (.cells (rowT (partsL s.data.toList)).toArray 9) := by
  have hle := Lib.countB_le ⟨#[47]⟩ (by decide) s.size s (Nat.le_refl _)
  have hlen := Lib.splitB_all ⟨#[47]⟩ (by decide) 0 _ s rfl
  have c := Any.strings_genSplit_core Tryz.lays221 (by kernel_rfl) s ⟨#[47]⟩ 0 (-1) (Lib.countB s ⟨#[47]⟩ + 1) w (by omega) (by decide) (Nat.zero_le _)
    (fun x c hx => by
      refine (Tryz.strings_Index_one x 47 _).mono fun e w' h => ⟨?_, h.2⟩
      rw [h.1]
      show _ = Ending.returned (Value.int .i64 (Lib.index x.data.toList [47]))
      rw [Lib.index_one])
    (by
      refine (Tryz.strings_Count_one s 47 w).mono fun e w' h => ⟨?_, h.2⟩
      rw [h.1]
      show _ = Ending.returned (Value.int .i64 ((Lib.count s.data.toList [47] : Nat) : Int))
      rw [Lib.count_one]
      rfl)
    (by decide) (by decide) (by rw [if_pos (by decide)]; omega)
  have hd := split_data s
  have hpl : (partsL s.data.toList).length = Lib.countB s ⟨#[47]⟩ + 1 := by
    have := congrArg List.length hd
    rw [rowT_len, List.length_map, hlen] at this
    exact this.symm
  rw [Nat.add_sub_cancel, hlen] at c
  have e2 : Lib.cellsOf (Lib.splitB ⟨#[47]⟩ 0 (Lib.countB s ⟨#[47]⟩) s) (Lib.countB s ⟨#[47]⟩ + 1) = (rowT (partsL s.data.toList)).toArray := by
    rw [← hlen, Lib.cellsOf_full, hd]
  rw [e2] at c
  rw [hpl]
  exact c

set_option maxRecDepth 100000 in
set_option maxHeartbeats 2000000 in
theorem split_any (s : ByteArray) (w : World) (hs : s.size ≤ 100000) :
    Calls Tryz.prog 31 #[.string s, .string ⟨#[47]⟩] w fun e w' => e = .returned (.slice (some ⟨w.heap.size, 0, none⟩) (partsL s.data.toList).length (partsL s.data.toList).length) ∧ w' = w.alloc (.cells (rowT (partsL s.data.toList)).toArray 9) := by
  have c := genSplit_any s w hs
  generalize partsL s.data.toList = ps at *
  go_enter Tryz.func31, Tryz.ntmps31
  go_wp2_with (go_at_call 45; refine c.mono ?_; rintro e w' ⟨rfl, hw⟩; rw [hw])
  go_ret
  exact ⟨rfl, rfl⟩

theorem cutSlash (l : List UInt8) : (∃ r, l = 47 :: r ∧ Lib.hasPrefix l [47] = true ∧ Lib.trimPrefix l [47] = r) ∨ (Lib.hasPrefix l [47] = false ∧ dotsL l = l) := by
  cases l with
  | nil => exact .inr ⟨rfl, rfl⟩
  | cons c r =>
    by_cases hc : c = 47
    · subst hc
      exact .inl ⟨r, rfl, by simp [Lib.hasPrefix], by simp [Lib.trimPrefix, Lib.hasPrefix]⟩
    · refine .inr ⟨?_, by rw [dotsL, if_neg hc]⟩
      have h2 : ((47 : UInt8) == c) = false := by
        have : ¬ (47 : UInt8) = c := fun h => hc h.symm
        simpa using this
      rw [Lib.hasPrefix, List.isPrefixOf, h2]
      rfl

theorem remL_len (ps : List (List UInt8)) : (remL ps).length ≤ ps.length + 1 := by
  have := kept_len ps []
  rw [remL, List.length_append, keepL]
  simp only [List.length_nil, Nat.zero_add] at this
  split
  · simp; omega
  · simp; omega

def dtsPost (v : List UInt8) (w : World) (e : Ending) (w' : World) : Prop := e = .returned (.string (strB v)) ∧ Below w.heap.size w w'

set_option maxRecDepth 100000 in
set_option maxHeartbeats 2000000 in
theorem join_any (b g cap : Nat) (ks : List (List UInt8)) (w : World) (h : KRow w b 9 g ks.length cap (rowT ks)) (hl : (47 :: Lib.join ks [47]).length ≤ 1000000) :
    Calls Tryz.prog 29 #[.slice (some ⟨g, 0, none⟩) ks.length cap, .string ⟨#[47]⟩] w fun e w' => e = .returned (.string (strB (Lib.join ks [47]))) ∧ Below w.heap.size w w' := by
  have hm : (ks.map strB).map (·.data.toList) = ks := by
    rw [List.map_map]
    exact List.map_id' ks
  have hj : Lib.join ((ks.map strB).map (·.data.toList)) (⟨#[47]⟩ : ByteArray).data.toList = Lib.join ks [47] := by rw [hm]
  have hc := h.2.2.1
  have hcm := h.2.2.2.1
  have hlt := h.lt.2
  unfold maxLen at hcm
  have hkl : ks.length ≤ 1000000 := by
    have h1 := outL_len ks
    have h2 : ks.length ≤ lensP ks := by
      clear hm hj h hl hc hcm h1
      induction ks with
      | nil => simp
      | cons p ps ih => rw [lensP, List.length_cons]; omega
    cases ks with
    | nil => simp
    | cons p ps =>
      rw [join_out] at hl
      omega
  have cJ := Tryz.strings_Join g 0 cap (ks.map strB) ⟨#[47]⟩ w (fun j x hx => by
    rw [Nat.zero_add]
    rw [List.getElem?_map, Option.map_eq_some_iff] at hx
    obtain ⟨q, hq, rfl⟩ := hx
    exact h.cell j _ (by rw [rowT, List.getElem?_map, hq]; rfl)) hlt (by rw [List.length_map]; omega) (by rw [List.length_map]; exact hc) (by rw [hj]; simp only [List.length_cons] at hl; omega)
  rw [hj, List.length_map] at cJ
  exact cJ

set_option maxRecDepth 100000 in
set_option maxHeartbeats 2000000 in
theorem dots_any (s : ByteArray) (w : World) (hs : s.size ≤ 100000) :
    Calls Tryz.prog 11 #[.string s] w (dtsPost (dotsL s.data.toList) w) := by
  have cP := fun W => (Tryz.strings_CutPrefix s ⟨#[47]⟩ W).mono (R' := fun e w' => e = .returned (.tuple #[.string ⟨(Lib.trimPrefix s.data.toList [47]).toArray⟩, .bool (Lib.hasPrefix s.data.toList [47])]) ∧ W = w') (fun e w' h => ⟨h.1, h.2.symm⟩)
  rcases cutSlash s.data.toList with ⟨r, hr, hpre, htr⟩ | ⟨hpre, hd⟩
  · rw [hpre, htr] at cP
    have hzr : s.size = r.length + 1 := by rw [Lib.size_eq, hr, List.length_cons]
    have hjd := dots_join r
    have hdl := dots_len (47 :: r)
    rw [← hjd] at hdl
    rw [hr, ← hjd]
    have zr : (strB r).size ≤ 100000 := by rw [strB_size]; omega
    have cS := fun W => split_any (strB r) W zr
    rw [strB_data] at cS
    have hpl := partsG_len r []
    have hp0 : 0 < (partsL r).length := List.length_pos_iff.2 (partsG_ne r [])
    have cR := fun (W : World) h => remaining_any W.heap.size (partsL r) (W.alloc (.cells (rowT (partsL r)).toArray 9)) h hp0 (by rw [partsL]; omega)
    rw [remL_kpt] at cR
    have hj : (47 :: Lib.join (kptL r) [47]).length ≤ 1000000 := by simp only [List.length_cons] at hdl ⊢; omega
    have Hcat : Hid ((⟨#[47]⟩ : ByteArray) ++ strB (Lib.join (kptL r) [47]) = strB (47 :: Lib.join (kptL r) [47])) := Lib.hid (strB_append [47] _)
    have cJ := fun b g cap (W : World) h => join_any b g cap (kptL r) W h hj
    have hpos63 : ((strB (Lib.join (kptL r) [47])).size : Int) + 1 ≤ 9223372036854775807 := by rw [strB_size]; simp only [List.length_cons] at hj; omega
    have hpos62 : 1 + (strB (Lib.join (kptL r) [47])).size ≤ 9223372036854775807 := by rw [strB_size]; simp only [List.length_cons] at hj; omega
    clear hr hpre htr hjd hdl hpl hp0 hj
    generalize 47 :: Lib.join (kptL r) [47] = OUT at *
    generalize strB (Lib.join (kptL r) [47]) = J at *
    generalize kptL r = ks at *
    generalize partsL r = ps at *
    have hR : (⟨r.toArray⟩ : ByteArray) = strB r := rfl
    rw [hR] at cP
    generalize strB r = R at *
    go_enter Tryz.func11, Tryz.ntmps11
    go_wp2_with fail
    refine (cP _).mono ?_
    rintro e w1 ⟨rfl, rfl⟩
    go_wp2_with fail
    refine (cS _).mono ?_
    rintro e w2 ⟨rfl, rfl⟩
    go_wp2_with fail
    refine (cR _ (heap_alloc_new w _)).mono ?_
    rintro e w3 ⟨g, cap, rfl, hkr, hb3⟩
    go_wp2_with fail
    refine (cJ _ _ _ _ hkr).mono ?_
    rintro e w4 ⟨rfl, hb4⟩
    have hb1 := ((Below.refl w.heap.size w).alloc (Nat.le_refl _) (.cells (rowT ps).toArray 9)).trans hb3
    go_wp2
    go_ret
    exact ⟨by rw [← Hcat.out] <;> rfl, hb1.trans (hb4.mono hb1.size)⟩
  · rw [hpre] at cP
    have HD : Hid (strB (dotsL s.data.toList) = s) := Lib.hid (by rw [hd, strB_of])
    clear hpre hd
    generalize (⟨(Lib.trimPrefix s.data.toList [47]).toArray⟩ : ByteArray) = T at *
    go_enter Tryz.func11, Tryz.ntmps11
    go_wp2_with (go_at_call 28; refine (cP _).mono ?_; rintro e w1 ⟨rfl, rfl⟩)
    go_ret
    exact ⟨by rw [HD.out] <;> rfl, Below.refl _ _⟩

end Go.Proofs.YtbbdifcmhoobaaaGreatDoor
