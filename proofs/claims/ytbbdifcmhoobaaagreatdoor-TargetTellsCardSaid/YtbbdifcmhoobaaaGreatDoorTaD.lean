/- The contract of target.Host. -/
import Derived.Test.YtbbdifcmhoobaaaGreatDoorTaC
import Derived.Test.YtbbdifcmhoobaaaGreatDoorLowA
namespace Go.Proofs.YtbbdifcmhoobaaaGreatDoor
open Go.RowKit Go.Shelf Go.Lib

set_option maxRecDepth 100000 in
set_option maxHeartbeats 4000000 in
theorem host_any (s : ByteArray) (w : World) (hs : s.size ≤ 100000) :
    Calls Tryz.prog 5 #[.string s] w (errPost (hostL s.data.toList) w) := by
  have cC := cut_any s 58 w hs
  obtain ⟨p, r, f, hcv, hcf⟩ := cut_form s.data.toList 58
  rw [hcv] at cC
  have hh := host_cut (l := s.data.toList) (p := p) (r := r) (by
    rcases hcf with ⟨_, a, b, c⟩ | ⟨_, i, a, b, c⟩
    · exact .inl ⟨a, b, c⟩
    · exact .inr ⟨i, a, b, c⟩)
  have hpl : p.length ≤ s.size ∧ r.length ≤ s.size := by
    rw [Lib.size_eq]
    rcases hcf with ⟨_, rfl, rfl, _⟩ | ⟨_, i, _, rfl, rfl⟩
    · exact ⟨Nat.le_refl _, by simp⟩
    · exact ⟨by rw [List.length_take]; omega, by rw [List.length_drop]; omega⟩
  obtain ⟨hpz, hrz⟩ := hpl
  clear hcv hcf
  have zp : (strB p).size ≤ maxLen := by rw [strB_size]; unfold maxLen; omega
  have zr : (strB r).size ≤ maxLen := by rw [strB_size]; unfold maxLen; omega
  have zs : s.size ≤ maxLen := by unfold maxLen; omega
  have cN := fun W => isName_any (strB p) W zp
  have cP := fun W => isPort_any (strB r) W zr
  rw [strB_data] at cN cP
  have hRl := strB_toList r
  have hRe : (strB r).toList.isEmpty = r.isEmpty := by rw [hRl]
  cases hn : nmL p
  · rw [hn] at cN
    have HR : Hid (errV (hostL s.data.toList) = .tuple #[.string ⟨#[]⟩, .int .i64 2]) := Lib.hid (by rw [hh, hn, if_neg (by simp)]; rfl)
    clear hh hn hRl hRe
    generalize strB p = P at *
    generalize strB r = R at *
    go_enter Tryz.func5, Tryz.ntmps5
    go_wp2_with (first | (go_at_call 13; refine cC.mono ?_; rintro e w1 ⟨rfl, hb1⟩) | (go_at_call 14; refine (cN _).mono ?_; rintro e w2 ⟨rfl, rfl⟩) | (go_at_call 15; refine (cP _).mono ?_; rintro e w2 ⟨rfl, rfl⟩))
    exact bodyPost_ret (v := .tuple #[.string ⟨#[]⟩, .int .i64 2]) (by simp [results, Tryz.results5, go_sem]) rfl ⟨by rw [HR.out], hb1⟩
  · rw [hn] at cN
    cases hq : prtL r
    · rw [hq] at cP
      have HR : Hid (errV (hostL s.data.toList) = .tuple #[.string ⟨#[]⟩, .int .i64 2]) := Lib.hid (by rw [hh, hq, if_neg (by simp)]; rfl)
      clear hh hn hq hRl hRe
      generalize strB p = P at *
      generalize strB r = R at *
      go_enter Tryz.func5, Tryz.ntmps5
      go_wp2_with (first | (go_at_call 13; refine cC.mono ?_; rintro e w1 ⟨rfl, hb1⟩) | (go_at_call 14; refine (cN _).mono ?_; rintro e w2 ⟨rfl, rfl⟩) | (go_at_call 15; refine (cP _).mono ?_; rintro e w2 ⟨rfl, rfl⟩))
      exact bodyPost_ret (v := .tuple #[.string ⟨#[]⟩, .int .i64 2]) (by simp [results, Tryz.results5, go_sem]) rfl ⟨by rw [HR.out], hb1⟩
    · rw [hq] at cP
      rw [hn, hq, if_pos ⟨rfl, rfl⟩] at hh
      by_cases hr0 : r = []
      · have HR : Hid (errV (hostL s.data.toList) = .tuple #[.string ⟨(lowL p).toArray⟩, .int .i64 0]) := Lib.hid (by rw [hh, if_pos (.inl hr0)]; rfl)
        have he : (strB r).toList.isEmpty = true := by rw [hRe, hr0]; rfl
        have cL := fun W => lower_any (strB p) W zp
        rw [strB_data] at cL
        clear hh hn hq hRl hRe hr0
        generalize strB p = P at *
        generalize strB r = R at *
        generalize lowL p = LP at *
        go_enter Tryz.func5, Tryz.ntmps5
        go_wp2_with (first | (go_at_call 13; refine cC.mono ?_; rintro e w1 ⟨rfl, hb1⟩) | (go_at_call 14; refine (cN _).mono ?_; rintro e w2 ⟨rfl, rfl⟩) | (go_at_call 15; refine (cP _).mono ?_; rintro e w2 ⟨rfl, rfl⟩) | (go_at_call 16; refine (cL _).mono ?_; rintro e w3 ⟨rfl, hb3⟩))
        exact bodyPost_ret (v := .tuple #[.string ⟨LP.toArray⟩, .int .i64 0]) (by simp [results, Tryz.results5, go_sem]) rfl ⟨by rw [HR.out], hb1.trans (hb3.mono hb1.size)⟩
      · have he : (strB r).toList.isEmpty = false := by
          rw [hRe]
          cases r with
          | nil => exact absurd rfl hr0
          | cons c t => rfl
        by_cases hr8 : r = [56, 48]
        · have HR : Hid (errV (hostL s.data.toList) = .tuple #[.string ⟨(lowL p).toArray⟩, .int .i64 0]) := Lib.hid (by rw [hh, if_pos (.inr hr8)]; rfl)
          have h80 : (strB r).toList = [56, 48] := by rw [hRl, hr8]
          have cL := fun W => lower_any (strB p) W zp
          rw [strB_data] at cL
          clear hh hn hq hRl hRe hr0 hr8
          generalize strB p = P at *
          generalize strB r = R at *
          generalize lowL p = LP at *
          go_enter Tryz.func5, Tryz.ntmps5
          go_wp2_with (first | (go_at_call 13; refine cC.mono ?_; rintro e w1 ⟨rfl, hb1⟩) | (go_at_call 14; refine (cN _).mono ?_; rintro e w2 ⟨rfl, rfl⟩) | (go_at_call 15; refine (cP _).mono ?_; rintro e w2 ⟨rfl, rfl⟩) | (go_at_call 16; refine (cL _).mono ?_; rintro e w3 ⟨rfl, hb3⟩))
          exact bodyPost_ret (v := .tuple #[.string ⟨LP.toArray⟩, .int .i64 0]) (by simp [results, Tryz.results5, go_sem]) rfl ⟨by rw [HR.out], hb1.trans (hb3.mono hb1.size)⟩
        · have HR : Hid (errV (hostL s.data.toList) = .tuple #[.string ⟨(lowL s.data.toList).toArray⟩, .int .i64 0]) := Lib.hid (by rw [hh, if_neg (fun h => h.elim hr0 hr8)]; rfl)
          have h80 : ((strB r).toList == [56, 48]) = false := by rw [hRl]; simpa using hr8
          have h81 : ¬ (strB r).toList = [56, 48] := by rw [hRl]; exact hr8
          have cL := fun W => lower_any s W zs
          clear hh hn hq hRl hRe hr0 hr8
          generalize strB p = P at *
          generalize strB r = R at *
          generalize lowL s.data.toList = LP at *
          go_enter Tryz.func5, Tryz.ntmps5
          go_wp2_with (first | (go_at_call 13; refine cC.mono ?_; rintro e w1 ⟨rfl, hb1⟩) | (go_at_call 14; refine (cN _).mono ?_; rintro e w2 ⟨rfl, rfl⟩) | (go_at_call 15; refine (cP _).mono ?_; rintro e w2 ⟨rfl, rfl⟩) | (go_at_call 16; refine (cL _).mono ?_; rintro e w3 ⟨rfl, hb3⟩))
          exact bodyPost_ret (v := .tuple #[.string ⟨LP.toArray⟩, .int .i64 0]) (by simp [results, Tryz.results5, go_sem]) rfl ⟨by rw [HR.out], hb1.trans (hb3.mono hb1.size)⟩

end Go.Proofs.YtbbdifcmhoobaaaGreatDoor
