/- The contracts of message.ReadRequest and message.ReadResponse: what a text begins with, and is. -/
import Derived.Test.YthbfcamfapgodaaGreatDoorGM
import Derived.Test.YthbfcamfapgodaaGreatDoorGN
import Derived.Test.YthbfcamfapgodaaGreatDoorGB

namespace Go.Proofs.YthbfcamfapgodaaGreatDoor
open Go.RowKit Go.Shelf Go.Lib

theorem bodM_zero (l : List UInt8) : bodM l 0 = .ok ([], 0) := by
  rewrite [bodM_eq l 0 (by decide), bodL, if_neg (by decide), if_neg (by decide), if_neg (by omega)]
  rfl
theorem bodL_none (l : List UInt8) : bodL l (-1) = .ok ([], 0) := by
  rewrite [bodL, if_neg (by decide), if_neg (by decide), if_neg (by omega)]
  rfl
theorem ne0_of {x : Int} (h : x = 2 ∨ x = 3 ∨ x = 4) : x ≠ 0 := by omega

theorem mreadq_any (s : ByteArray) (w : World) (hs : s.size ≤ 90000) (hT : Tabs w) (hE : Errs w) :
    Calls Tryz.prog 8 #[.string s] w (rqPost (rdQ s.data.toList) w) := by
  have hz := Lib.size_eq s
  have hsh := lineL_short s.data.toList
  by_cases h1 : (lineL s.data.toList).2 = 0
  · have hle := lineL_le _ h1
    have hv := lnx_ok h1
    cases h2 : frL (lineL s.data.toList).1 with
    | none =>
      have hr : rdQ s.data.toList = .error 2 := by rw [rdQ, if_neg (fun h => h h1), h2]
      rewrite [hr]
      exact mreadq_e1 s w hs hT hE _ _ 0 2 hv (by omega) h2 (by decide) rfl
    | some p =>
      obtain ⟨m, t⟩ := p
      cases h3 : parseH (s.data.toList.drop ((lineL s.data.toList).1.length + 2)) with
      | error x =>
        have hr : rdQ s.data.toList = .error x := by rewrite [rdQ, if_neg (fun h => h h1), h2]; simp only [h3]
        rewrite [hr]
        exact mreadq_e2 s w hs hT hE _ _ m t x hv (by omega) h2 (by rewrite [List.length_drop]; omega) h3 (ne0_of (parseH_no h3))
      | ok p =>
        obtain ⟨fs, n⟩ := p
        have hn := (parseH_ok h3).1
        rw [List.length_drop] at hn
        by_cases h4 : (allH fs hoN).length = 1
        · cases h5 : lngL fs with
          | error x =>
            have hr : rdQ s.data.toList = .error x := by rewrite [rdQ, if_neg (fun h => h h1), h2]; simp only [h3, if_neg (show ¬ (allH fs hoN).length ≠ 1 from fun h => h h4), h5]
            obtain ⟨rfl, hm⟩ := lnM_err h5
            rewrite [hr]
            exact mreadq_e34 s w hs hT hE _ _ m t fs n true false (lnM fs).1 hv (by omega) h2 (by rewrite [List.length_drop]; omega) h3 (decide_eq_true h4) (Prod.ext rfl hm) rfl
          | ok k =>
            obtain ⟨hm, hk⟩ := lnM_ok h5
            obtain ⟨z, hz0, hz1, hz2⟩ : ∃ z, (((lnM fs).1 = -2 ∧ z = 0) ∨ ((lnM fs).1 ≠ -2 ∧ z = (lnM fs).1)) ∧ -1 ≤ z ∧ ∀ l, bodM l z = bodL l k := by
              rcases hk with ⟨rfl, hk⟩ | ⟨rfl, hk⟩ | ⟨hk0, hk⟩
              · exact ⟨-1, .inr ⟨by omega, by omega⟩, by omega, fun l => bodM_dec l⟩
              · exact ⟨0, .inl ⟨hk, rfl⟩, by omega, fun l => by rw [bodM_zero, bodL_none]⟩
              · exact ⟨k, .inr ⟨by omega, by omega⟩, by omega, fun l => bodM_eq l k hk0⟩
            have hM : lnM fs = ((lnM fs).1, true) := Prod.ext rfl hm
            have hdd : (s.data.toList.drop ((lineL s.data.toList).1.length + 2)).drop n = s.data.toList.drop ((lineL s.data.toList).1.length + 2 + n) := by rw [List.drop_drop]
            cases h6 : bodL (s.data.toList.drop ((lineL s.data.toList).1.length + 2 + n)) k with
            | error x =>
              have hr : rdQ s.data.toList = .error x := by rewrite [rdQ, if_neg (fun h => h h1), h2]; simp only [h3, if_neg (show ¬ (allH fs hoN).length ≠ 1 from fun h => h h4), h5, h6]
              rewrite [hr]
              exact mreadq_e5 s w hs hT hE _ _ m t fs n _ z x hv (by omega) h2 (by rewrite [List.length_drop]; omega) h3 (decide_eq_true h4) hM hz0 hz1 (by rw [hdd, hz2, h6]) (ne0_of (bodL_no h6))
            | ok p =>
              obtain ⟨b, u⟩ := p
              have hu := (bodL_ok h6).1
              rw [List.length_drop] at hu
              have hr : rdQ s.data.toList = .ok (⟨m, t, lesL fs, b⟩, (lineL s.data.toList).1.length + 2 + n + u) := by rewrite [rdQ, if_neg (fun h => h h1), h2]; simp only [h3, if_neg (show ¬ (allH fs hoN).length ≠ 1 from fun h => h h4), h5, h6]
              rewrite [hr]
              exact mreadq_ok s w hs hT hE _ _ m t b fs n u _ _ z hv (by omega) h2 (by rewrite [List.length_drop]; omega) h3 (decide_eq_true h4) hM hz0 hz1 (by rw [hdd, hz2, h6]) (by rewrite [List.length_drop, List.length_drop, List.length_drop]; omega)
        · have hr : rdQ s.data.toList = .error 2 := by rewrite [rdQ, if_neg (fun h => h h1), h2]; simp only [h3, if_pos (show (allH fs hoN).length ≠ 1 from h4)]
          rewrite [hr]
          exact mreadq_e34 s w hs hT hE _ _ m t fs n false (lnM fs).2 (lnM fs).1 hv (by omega) h2 (by rewrite [List.length_drop]; omega) h3 (decide_eq_false h4) rfl (by cases (lnM fs).2 <;> rfl)
  · have hr : rdQ s.data.toList = .error (lineL s.data.toList).2 := by rw [rdQ, if_pos h1]
    rewrite [hr]
    exact mreadq_e1 s w hs hT hE [] [] (lineL s.data.toList).2 _ (lnx_no h1) (by decide) rfl h1 (reqE_keep h1 false)

theorem mreadp_any (s me : ByteArray) (w : World) (hs : s.size ≤ 90000) (hT : Tabs w) (hE : Errs w) :
    Calls Tryz.prog 10 #[.string s, .string me] w (rpPost (rdP s.data.toList me) w) := by
  have hz := Lib.size_eq s
  have hsh := lineL_short s.data.toList
  by_cases h1 : (lineL s.data.toList).2 = 0
  · have hle := lineL_le _ h1
    have hv := lnx_ok h1
    cases h2 : frP (lineL s.data.toList).1 with
    | none =>
      have hr : rdP s.data.toList me = .error 2 := by rw [rdP, if_neg (fun h => h h1), h2]
      rewrite [hr]
      exact mreadp_e1 s me w hs hT hE _ _ 0 2 hv (by omega) h2 (by decide) rfl
    | some nn =>
      cases h3 : parseH (s.data.toList.drop ((lineL s.data.toList).1.length + 2)) with
      | error x =>
        have hr : rdP s.data.toList me = .error x := by rewrite [rdP, if_neg (fun h => h h1), h2]; simp only [h3]
        rewrite [hr]
        exact mreadp_e2 s me w hs hT hE _ _ nn x hv (by omega) h2 (by rewrite [List.length_drop]; omega) h3 (ne0_of (parseH_no h3))
      | ok p =>
        obtain ⟨fs, n⟩ := p
        have hn := (parseH_ok h3).1
        rw [List.length_drop] at hn
        cases h5 : lngL fs with
        | error x =>
          have hr : rdP s.data.toList me = .error x := by rewrite [rdP, if_neg (fun h => h h1), h2]; simp only [h3, h5]
          obtain ⟨rfl, hm⟩ := lnM_err h5
          rewrite [hr]
          exact mreadp_e4 s me w hs hT hE _ _ nn fs n (lnM fs).1 hv (by omega) h2 (by rewrite [List.length_drop]; omega) h3 (Prod.ext rfl hm)
        | ok k =>
          obtain ⟨hm, hk⟩ := lnM_ok h5
          have hM : lnM fs = ((lnM fs).1, true) := Prod.ext rfl hm
          have hdd : (s.data.toList.drop ((lineL s.data.toList).1.length + 2)).drop n = s.data.toList.drop ((lineL s.data.toList).1.length + 2 + n) := by rw [List.drop_drop]
          have hl1 : (s.data.toList.drop ((lineL s.data.toList).1.length + 2)).length ≤ 90000 := by rewrite [List.length_drop]; omega
          cases hba : bareB nn me with
          | true =>
            by_cases h7 : s.data.toList.drop ((lineL s.data.toList).1.length + 2 + n) = []
            · have hr : rdP s.data.toList me = .ok ⟨nn, lesL fs, []⟩ := by rewrite [rdP, if_neg (fun h => h h1), h2]; simp only [h3, h5, hba, if_pos h7, if_true]
              rewrite [hr]
              exact mreadp_ok s me w hs hT hE _ _ nn fs n 0 [] (lnM fs).1 0 hv (by omega) h2 hl1 h3 hM (.inl ⟨hba, rfl⟩) (by decide) (by rw [bodM_zero]) (by rw [hdd, h7] <;> rfl)
            · have hr : rdP s.data.toList me = .error 2 := by rewrite [rdP, if_neg (fun h => h h1), h2]; simp only [h3, h5, hba, if_neg h7, if_true]
              rewrite [hr]
              exact mreadp_e8 s me w hs hT hE _ _ nn fs n 0 [] (lnM fs).1 0 hv (by omega) h2 hl1 h3 hM (.inl ⟨hba, rfl⟩) (by decide) (by rw [bodM_zero]) (by rewrite [hdd]; exact h7)
          | false =>
            obtain ⟨z, hz0, hz1, hz2⟩ : ∃ z, ((bareB nn me = true ∧ z = 0) ∨ (bareB nn me = false ∧ (lnM fs).1 = -2 ∧ z = ((strB ((s.data.toList.drop ((lineL s.data.toList).1.length + 2)).drop n)).size : Int)) ∨ (bareB nn me = false ∧ (lnM fs).1 ≠ -2 ∧ z = (lnM fs).1)) ∧ -1 ≤ z ∧ bodM (s.data.toList.drop ((lineL s.data.toList).1.length + 2 + n)) z = bodL (s.data.toList.drop ((lineL s.data.toList).1.length + 2 + n)) (if k = -1 then ((s.data.toList.drop ((lineL s.data.toList).1.length + 2 + n)).length : Int) else k) := by
              rcases hk with ⟨rfl, hk⟩ | ⟨rfl, hk⟩ | ⟨hk0, hk⟩
              · exact ⟨-1, .inr (.inr ⟨hba, by omega, by omega⟩), by omega, by rewrite [if_neg (by decide)]; exact bodM_dec _⟩
              · refine ⟨_, .inr (.inl ⟨hba, hk, rfl⟩), by omega, ?_⟩
                rewrite [if_pos rfl, hdd, strB_size]
                exact bodM_eq _ _ (by omega)
              · exact ⟨k, .inr (.inr ⟨hba, by omega, by omega⟩), by omega, by rewrite [if_neg (by omega)]; exact bodM_eq _ k hk0⟩
            cases h6 : bodL (s.data.toList.drop ((lineL s.data.toList).1.length + 2 + n)) (if k = -1 then ((s.data.toList.drop ((lineL s.data.toList).1.length + 2 + n)).length : Int) else k) with
            | error x =>
              have hr : rdP s.data.toList me = .error x := by rewrite [rdP, if_neg (fun h => h h1), h2]; simp only [h3, h5, hba, Bool.false_eq_true, if_false, h6]
              rewrite [hr]
              exact mreadp_e7 s me w hs hT hE _ _ nn fs n (lnM fs).1 z x hv (by omega) h2 hl1 h3 hM hz0 hz1 (by rw [hdd, hz2, h6]) (ne0_of (bodL_no h6))
            | ok p =>
              obtain ⟨b, u⟩ := p
              have hu := (bodL_ok h6).1
              by_cases h7 : u = (s.data.toList.drop ((lineL s.data.toList).1.length + 2 + n)).length
              · have hr : rdP s.data.toList me = .ok ⟨nn, lesL fs, b⟩ := by rewrite [rdP, if_neg (fun h => h h1), h2]; simp only [h3, h5, hba, Bool.false_eq_true, if_false, h6, if_pos h7]
                rewrite [hr]
                exact mreadp_ok s me w hs hT hE _ _ nn fs n u b (lnM fs).1 z hv (by omega) h2 hl1 h3 hM hz0 hz1 (by rw [hdd, hz2, h6]) (by rw [hdd, h7, List.drop_length])
              · have hr : rdP s.data.toList me = .error 2 := by rewrite [rdP, if_neg (fun h => h h1), h2]; simp only [h3, h5, hba, Bool.false_eq_true, if_false, h6, if_neg h7]
                rewrite [hr]
                exact mreadp_e8 s me w hs hT hE _ _ nn fs n u b (lnM fs).1 z hv (by omega) h2 hl1 h3 hM hz0 hz1 (by rw [hdd, hz2, h6]) (fun he => h7 (by
                  rw [hdd, List.drop_eq_nil_iff] at he
                  omega))
  · have hr : rdP s.data.toList me = .error (lineL s.data.toList).2 := by rw [rdP, if_pos h1]
    rewrite [hr]
    exact mreadp_e1 s me w hs hT hE [] [] (lineL s.data.toList).2 _ (lnx_no h1) (by decide) rfl h1 (reqE_keep h1 false)

end Go.Proofs.YthbfcamfapgodaaGreatDoor
