/- The document's own Host (sculleryref09). -/
import Derived.Test.YtbbdifcmhoobaaaGreatDoorRnA
import Derived.Test.YtbbdifcmhoobaaaGreatDoorRjD
import Derived.Test.YtbbdifcmhoobaaaGreatDoorRjE
import Derived.Test.YtbbdifcmhoobaaaGreatDoorErvP
namespace Go.Proofs.YtbbdifcmhoobaaaGreatDoor
open Go.RowKit Go.Lib

/-- Where a host's name ends. -/
theorem host_at {l : List UInt8} {k : Nat} (hk : k ≤ l.length) (h : ∀ c ∈ l.take k, hstB c = true) (he : k = l.length ∨ ∃ c r, l.drop k = c :: r ∧ hstB c = false) : l.takeWhile hstB = l.take k ∧ l.dropWhile hstB = l.drop k := by
  rcases he with rfl | ⟨c, r, hd, hc⟩
  · rw [List.take_length] at h
    obtain ⟨a, b⟩ := takeWhile_all l h
    rw [a, b, List.take_length, List.drop_length]
    exact ⟨rfl, rfl⟩
  · have hs : l = l.take k ++ c :: r := by rw [← hd, List.take_append_drop]
    obtain ⟨a, b⟩ := takeWhile_mid (l.take k) c r h hc
    rw [hd]
    conv => lhs; lhs; rw [hs]
    conv => rhs; lhs; rw [hs]
    exact ⟨a, b⟩

set_option maxRecDepth 100000 in
set_option maxHeartbeats 4000000 in
theorem nhost_any (s : ByteArray) (w : World) (hs : s.size ≤ 100000) :
    Calls Tryz.prog 6 #[.string s] w (errPost (hostL s.data.toList) w) := by
  have hz := Lib.size_eq s
  go_enter Tryz.func6, Tryz.ntmps6
  go_wp2
  go_loop [4] (fun i => ∃ k : Nat, k ≤ s.size ∧ i = .int .i64 k ∧ Hid (∀ c ∈ s.data.toList.take k, hstB c = true)) (fun i => s.size - (intOf i).toNat)
  case atStart => exact ⟨0, Nat.zero_le _, rfl, Lib.hid (by simp)⟩
  case round =>
    obtain ⟨k, hk, rfl, H⟩ := hrel
    have cLow := fun W => rlower_any (s.extract 0 k) W (by rw [Lib.size_eq, extract_take, List.length_take]; omega)
    rw [extract_take] at cLow
    have hlw : (s.data.toList.take k).length = k := by rw [List.length_take]; omega
    by_cases hlt : k < s.size
    · have cL := nletter_any ((s[k]'hlt).toNat : Int) w
      have hb : hstB (s[k]'hlt) = ((ltrI ((s[k]'hlt).toNat : Int) || digI ((s[k]'hlt).toNat : Int)) || ((s[k]'hlt).toNat : Int) == 46 || ((s[k]'hlt).toNat : Int) == 45) := by
        have h1 : (((s[k]'hlt).toNat : Int) == 46) = ((s[k]'hlt) == 46) := byte_beq _ 46
        have h2 : (((s[k]'hlt).toNat : Int) == 45) = ((s[k]'hlt) == 45) := byte_beq _ 45
        rw [hstB, h1, h2]
      have hd := Lib.hid (drop_cons_at s k hlt)
      have Hsn : Hid (hstB (s[k]'hlt) = true → ∀ c ∈ s.data.toList.take (k + 1), hstB c = true) := Lib.hid (fun h c hc => by
        rw [take_snoc s k hlt] at hc
        rcases List.mem_append.1 hc with hc | hc
        · exact H.out c hc
        · rw [List.mem_singleton] at hc
          rw [hc]; exact h)
      cases h0 : (ltrI ((s[k]'hlt).toNat : Int) || digI ((s[k]'hlt).toNat : Int))
      · cases h1 : (((s[k]'hlt).toNat : Int) == 46)
        · cases h2 : (((s[k]'hlt).toNat : Int) == 45)
          · have hbad : hstB (s[k]'hlt) = false := by rw [hb, h0, h1, h2]; rfl
            obtain ⟨ht, hdw⟩ := host_at (l := s.data.toList) (k := k) (by omega) H.out (.inr ⟨_, _, hd.out, hbad⟩)
            rw [hd.out] at hdw
            rw [h0] at cL
            have b3 : (k : Int) ≤ (s.size : Int) := by omega
            have b5 : ((k : Int) == (s.size : Int)) = false := by
              have : ¬ (k : Int) = (s.size : Int) := by omega
              simpa using this
            by_cases hk0 : k = 0
            · have HR : Hid (errV (hostL s.data.toList) = .tuple #[.string ⟨#[]⟩, .int .i64 2]) := Lib.hid (by rw [hostL, ht, hk0, List.take_zero, if_pos rfl]; rfl)
              have b4 : ((k : Int) == 0) = true := by rw [hk0]; rfl
              clear hb hd Hsn hbad ht hdw hz H hlw hk0
              go_wp2_with fail
              refine cL.mono ?_
              rintro e w1 ⟨rfl, rfl⟩
              go_wp2_with fail
              refine (cLow _).mono ?_
              rintro e w1 ⟨rfl, hb1⟩
              go_wp2_with fail
              refine bodyPost_ret (v := .tuple #[.string ⟨#[]⟩, .int .i64 2]) (by simp [results, Tryz.results6, go_sem]) rfl ⟨by rw [HR.out] <;> rfl, hb1⟩
            · have b4 : ((k : Int) == 0) = false := by
                have : ¬ (k : Int) = 0 := by omega
                simpa using this
              have hne : s.data.toList.take k ≠ [] := fun h => by rw [h] at hlw; simp at hlw; omega
              have b6 : k + 1 ≤ s.size := by omega
              have b7 : (k : Int) + 1 ≤ (s.size : Int) := by omega
              have b8 : ((k : Int) + 1).toNat = k + 1 := by omega
              have hh : hostL s.data.toList = if ((s[k]'hlt) != 58 || (!(s.data.toList.drop (k + 1)).isEmpty && !digitsB (s.data.toList.drop (k + 1))) || decide (5 < (s.data.toList.drop (k + 1)).length)) = true then none
                  else if s.data.toList.drop (k + 1) = [] ∨ s.data.toList.drop (k + 1) = [56, 48] then some (lowL (s.data.toList.take k)) else some (lowL (s.data.toList.take k) ++ 58 :: s.data.toList.drop (k + 1)) := by
                rw [hostL, ht, hdw, if_neg hne]
              obtain ⟨P, hP⟩ : ∃ P, s.extract (k + 1) s.size = P := ⟨_, rfl⟩
              have hPd : P.data.toList = s.data.toList.drop (k + 1) := by rw [← hP, Lib.extract_to_end]
              have zP : P.size ≤ maxLen := by rw [Lib.size_eq, hPd, List.length_drop]; unfold maxLen; omega
              have zP2 : P.size ≤ 100000 := by rw [Lib.size_eq, hPd, List.length_drop]; omega
              have zL : (strB (lowL (s.data.toList.take k))).size ≤ 100000 := by rw [strB_size, lowL_length, hlw]; omega
              have cDg := fun W => rdigits_any P W zP
              rw [← hPd] at hh
              have h58 : (((s[k]'hlt).toNat : Int) == 58) = ((s[k]'hlt) == 58) := byte_beq _ 58
              have hPe := Lib.toList_data P
              have h5 : decide (5 < P.data.toList.length) = decide (5 < (P.size : Int)) := by
                rw [← Lib.size_eq]
                by_cases h : 5 < P.size
                · rw [decide_eq_true h, decide_eq_true (by omega)]
                · rw [decide_eq_false h, decide_eq_false (by omega)]
              rw [h5, ← hPe] at hh
              rw [← hPe] at cDg
              have Hcat : Hid (strB (lowL (s.data.toList.take k)) ++ (⟨#[58]⟩ : ByteArray) ++ P = strB (lowL (s.data.toList.take k) ++ 58 :: P.toList)) := Lib.hid (by
                rw [show (⟨#[58]⟩ : ByteArray) = strB [58] from rfl, strB_append, hPe]
                conv => lhs; rhs; rw [← strB_of P]
                rw [strB_append, List.append_assoc]
                rfl)
              generalize lowL (s.data.toList.take k) = LW at *
              generalize digitsN P.toList = dn at *
              clear hb hd Hsn hbad ht hdw hz H hlw hne hPd hPe h5 zP
              cases hc : ((s[k]'hlt) == 58)
              · rw [hc] at h58
                have h58b : (((s[k]'hlt).toNat : Int) != 58) = true := by rw [bne, h58]; rfl
                have HR : Hid (errV (hostL s.data.toList) = .tuple #[.string ⟨#[]⟩, .int .i64 2]) := Lib.hid (by
                  rw [hh, bne, hc]
                  rfl)
                clear hh Hcat
                generalize digitsB P.toList = db at *
                go_wp2_with fail
                refine cL.mono ?_
                rintro e w1 ⟨rfl, rfl⟩
                go_wp2_with fail
                refine (cLow _).mono ?_
                rintro e w1 ⟨rfl, hb1⟩
                go_wp2_with fail
                refine (cDg _).mono ?_
                rintro e w2 ⟨rfl, rfl⟩
                go_wp2_with fail
                refine bodyPost_ret (v := .tuple #[.string ⟨#[]⟩, .int .i64 2]) (by simp [results, Tryz.results6, go_sem]) rfl ⟨by rw [HR.out] <;> rfl, hb1⟩
              · rw [hc] at h58
                have h58b : (((s[k]'hlt).toNat : Int) != 58) = false := by rw [bne, h58]; rfl
                rw [bne, hc] at hh
                cases hpe : P.toList.isEmpty
                · cases hdb : digitsB P.toList
                  · rw [hpe, hdb] at hh
                    rw [hdb] at cDg
                    have HR : Hid (errV (hostL s.data.toList) = .tuple #[.string ⟨#[]⟩, .int .i64 2]) := Lib.hid (by rw [hh]; rfl)
                    clear hh Hcat hdb
                    go_wp2_with fail
                    refine cL.mono ?_
                    rintro e w1 ⟨rfl, rfl⟩
                    go_wp2_with fail
                    refine (cLow _).mono ?_
                    rintro e w1 ⟨rfl, hb1⟩
                    go_wp2_with fail
                    refine (cDg _).mono ?_
                    rintro e w2 ⟨rfl, rfl⟩
                    go_wp2_with fail
                    refine bodyPost_ret (v := .tuple #[.string ⟨#[]⟩, .int .i64 2]) (by simp [results, Tryz.results6, go_sem]) rfl ⟨by rw [HR.out] <;> rfl, hb1⟩
                  · rw [hpe, hdb] at hh
                    rw [hdb] at cDg
                    cases h5 : decide (5 < (P.size : Int))
                    · rw [h5, if_neg (by decide)] at hh
                      by_cases hp8 : P.toList = [56, 48]
                      · have HR : Hid (errV (hostL s.data.toList) = .tuple #[.string (strB LW), .int .i64 0]) := Lib.hid (by rw [hh, if_pos (.inr hp8)]; rfl)
                        clear hh Hcat hdb
                        generalize strB LW = SL at *
                        go_wp2_with fail
                        refine cL.mono ?_
                        rintro e w1 ⟨rfl, rfl⟩
                        go_wp2_with fail
                        refine (cLow _).mono ?_
                        rintro e w1 ⟨rfl, hb1⟩
                        go_wp2_with fail
                        refine (cDg _).mono ?_
                        rintro e w2 ⟨rfl, rfl⟩
                        go_wp2_with fail
                        refine bodyPost_ret (v := .tuple #[.string SL, .int .i64 0]) (by simp [results, Tryz.results6, go_sem]) rfl ⟨by rw [HR.out] <;> rfl, hb1⟩
                      · have hpn : P.toList ≠ [] := fun h => by rw [h] at hpe; cases hpe
                        have HR : Hid (errV (hostL s.data.toList) = .tuple #[.string (strB LW ++ (⟨#[58]⟩ : ByteArray) ++ P), .int .i64 0]) := Lib.hid (by rw [hh, if_neg (fun h => h.elim hpn hp8), Hcat.out]; rfl)
                        have hp8b : (P.toList == [56, 48]) = false := by simpa using hp8
                        clear hh Hcat hdb hpn
                        generalize strB LW = SL at *
                        go_wp2_with fail
                        refine cL.mono ?_
                        rintro e w1 ⟨rfl, rfl⟩
                        go_wp2_with fail
                        refine (cLow _).mono ?_
                        rintro e w1 ⟨rfl, hb1⟩
                        go_wp2_with fail
                        refine (cDg _).mono ?_
                        rintro e w2 ⟨rfl, rfl⟩
                        go_wp2_with fail
                        refine bodyPost_ret (v := .tuple #[.string (SL ++ (⟨#[58]⟩ : ByteArray) ++ P), .int .i64 0]) (by simp [results, Tryz.results6, go_sem]) rfl ⟨by rw [HR.out] <;> rfl, hb1⟩
                    · rw [h5] at hh
                      have HR : Hid (errV (hostL s.data.toList) = .tuple #[.string ⟨#[]⟩, .int .i64 2]) := Lib.hid (by rw [hh]; rfl)
                      clear hh Hcat hdb
                      go_wp2_with fail
                      refine cL.mono ?_
                      rintro e w1 ⟨rfl, rfl⟩
                      go_wp2_with fail
                      refine (cLow _).mono ?_
                      rintro e w1 ⟨rfl, hb1⟩
                      go_wp2_with fail
                      refine (cDg _).mono ?_
                      rintro e w2 ⟨rfl, rfl⟩
                      go_wp2_with fail
                      refine bodyPost_ret (v := .tuple #[.string ⟨#[]⟩, .int .i64 2]) (by simp [results, Tryz.results6, go_sem]) rfl ⟨by rw [HR.out] <;> rfl, hb1⟩
                · have hpn : P.toList = [] := List.isEmpty_iff.1 hpe
                  have hz0 : P.size = 0 := by rw [Lib.size_eq, ← Lib.toList_data, hpn]; rfl
                  have h5 : decide (5 < (P.size : Int)) = false := decide_eq_false (by omega)
                  rw [hpe, h5, if_neg (by simp), if_pos (.inl hpn)] at hh
                  have HR : Hid (errV (hostL s.data.toList) = .tuple #[.string (strB LW), .int .i64 0]) := Lib.hid (by rw [hh]; rfl)
                  clear hh Hcat hpn hz0
                  generalize digitsB P.toList = db at *
                  generalize strB LW = SL at *
                  go_wp2_with fail
                  refine cL.mono ?_
                  rintro e w1 ⟨rfl, rfl⟩
                  go_wp2_with fail
                  refine (cLow _).mono ?_
                  rintro e w1 ⟨rfl, hb1⟩
                  go_wp2_with fail
                  refine (cDg _).mono ?_
                  rintro e w2 ⟨rfl, rfl⟩
                  go_wp2_with fail
                  refine bodyPost_ret (v := .tuple #[.string SL, .int .i64 0]) (by simp [results, Tryz.results6, go_sem]) rfl ⟨by rw [HR.out] <;> rfl, hb1⟩
          · have Hn := Lib.hid (Hsn.out (by rw [hb, h0, h1, h2]; rfl))
            rw [h0] at cL
            clear hb hd Hsn hz cLow hlw
            go_wp2_with (go_at_call 17; refine cL.mono ?_; rintro e w' ⟨rfl, rfl⟩)
            go_round
            case rel => exact ⟨k + 1, by omega, by go_num, Hn⟩
            case measure => simp [intOf]; omega
        · have Hn := Lib.hid (Hsn.out (by rw [hb, h0, h1]; rfl))
          rw [h0] at cL
          clear hb hd Hsn hz cLow hlw
          go_wp2_with (go_at_call 17; refine cL.mono ?_; rintro e w' ⟨rfl, rfl⟩)
          go_round
          case rel => exact ⟨k + 1, by omega, by go_num, Hn⟩
          case measure => simp [intOf]; omega
      · have Hn := Lib.hid (Hsn.out (by rw [hb, h0]; rfl))
        rw [h0] at cL
        clear hb hd Hsn hz cLow hlw
        go_wp2_with (go_at_call 17; refine cL.mono ?_; rintro e w' ⟨rfl, rfl⟩)
        go_round
        case rel => exact ⟨k + 1, by omega, by go_num, Hn⟩
        case measure => simp [intOf]; omega
    · have hkk : k = s.data.toList.length := by omega
      obtain ⟨ht, hdw⟩ := host_at (l := s.data.toList) (k := k) (by omega) H.out (.inl hkk)
      have b3 : (k : Int) ≤ (s.size : Int) := by omega
      have b9 : ¬ (k : Int) < (s.size : Int) := by omega
      have b5 : ((k : Int) == (s.size : Int)) = true := by
        have : (k : Int) = (s.size : Int) := by omega
        simpa using this
      rw [hkk, List.drop_length] at hdw
      by_cases hk0 : k = 0
      · have HR : Hid (errV (hostL s.data.toList) = .tuple #[.string ⟨#[]⟩, .int .i64 2]) := Lib.hid (by rw [hostL, ht, hk0, List.take_zero, if_pos rfl]; rfl)
        have b4 : ((k : Int) == 0) = true := by rw [hk0]; rfl
        clear ht hdw hz H hlw hk0 hkk hlt
        go_wp2_with fail
        refine (cLow _).mono ?_
        rintro e w1 ⟨rfl, hb1⟩
        go_wp2_with fail
        refine bodyPost_ret (v := .tuple #[.string ⟨#[]⟩, .int .i64 2]) (by simp [results, Tryz.results6, go_sem]) rfl ⟨by rw [HR.out] <;> rfl, hb1⟩
      · have b4 : ((k : Int) == 0) = false := by
          have : ¬ (k : Int) = 0 := by omega
          simpa using this
        have hne : s.data.toList.take k ≠ [] := fun h => by rw [h] at hlw; simp at hlw; omega
        have HR : Hid (errV (hostL s.data.toList) = .tuple #[.string (strB (lowL (s.data.toList.take k))), .int .i64 0]) := Lib.hid (by rw [hostL, ht, hdw, if_neg hne]; rfl)
        clear ht hdw hz H hlw hk0 hkk hlt hne
        generalize strB (lowL (s.data.toList.take k)) = SL at *
        go_wp2_with fail
        refine (cLow _).mono ?_
        rintro e w1 ⟨rfl, hb1⟩
        go_wp2_with fail
        refine bodyPost_ret (v := .tuple #[.string SL, .int .i64 0]) (by simp [results, Tryz.results6, go_sem]) rfl ⟨by rw [HR.out] <;> rfl, hb1⟩

end Go.Proofs.YtbbdifcmhoobaaaGreatDoor
