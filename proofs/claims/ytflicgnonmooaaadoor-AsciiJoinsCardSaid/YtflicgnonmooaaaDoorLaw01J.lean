/- The walk of the law AsciiJoins. -/
import Derived.Test.YtflicgnonmooaaaDoorJoinP
import Derived.Test.YtflicgnonmooaaaDoorRefC
namespace Go.Proofs.YtflicgnonmooaaaDoor
open Go.RowKit

theorem spaces_of : ∀ b : Fin 4, ((⟨#[32, 32, 32]⟩ : ByteArray).extract 0 b.val).data.toList = List.replicate b.val 32 := by decide
theorem tabs_of : ∀ a : Fin 4, ((⟨#[9, 9, 9]⟩ : ByteArray).extract 0 a.val).data.toList = List.replicate a.val 9 := by decide

set_option maxHeartbeats 4000000 in
theorem joins_walk (v : Value) (ps : List (List UInt8)) (a b : Int) (w : World) (hT : Tabs w) (hS : Strs w v ps) :
    Calls Tryd.prog 5 #[v, .agg #[.int .i64 a, .int .i64 b]] w fun e w' => e = .returned (.bool true) ∧ Below w.heap.size w w' := by
  have hb0 : Below w.heap.size w (w.alloc (.cells #[.int .i64 a, .int .i64 b] 30)) := (Below.refl _ _).alloc (Nat.le_refl _) _
  have cA := awake_any (w.alloc (.cells #[.int .i64 a, .int .i64 b] 30)) (Utf8Tabs_below hT hb0)
  obtain ⟨ad, cap, rfl, hl, hcs⟩ := hS
  have Hcs := Lib.hid hcs
  have HT := Lib.hid hT
  clear hcs hT
  go_enter Tryd.func5, Tryd.ntmps5
  go_wp2_with fail
  refine cA.mono ?_
  rintro e w1 ⟨rfl, hb1⟩
  have k0 : w1.cell? ⟨w.heap.size, 0, none⟩ = some (.int .i64 a) := (hb1.cell (p := ⟨w.heap.size, 0, none⟩) (by simp)).trans (by simp)
  have k1 : w1.cell? ⟨w.heap.size, 1, none⟩ = some (.int .i64 b) := (hb1.cell (p := ⟨w.heap.size, 1, none⟩) (by simp)).trans (by simp)
  replace hb1 := hb0.trans (hb1.mono hb0.size)
  clear hb0 cA
  by_cases hbad : 40 < ps.length ∨ a < 0 ∨ b < 0 ∨ 3 < a ∨ 3 < b
  · by_cases h0 : 40 < ps.length
    · have d0 : decide (40 < ps.length) = true := by simpa using h0
      clear hbad
      go_wp2_with fail
      go_ret
      exact ⟨rfl, hb1⟩
    · have d0 : decide (40 < ps.length) = false := by simpa using h0
      by_cases h1 : a < 0
      · have d1 : decide (a < 0) = true := by simpa using h1
        clear hbad
        go_wp2_with fail
        go_ret
        exact ⟨rfl, hb1⟩
      · have d1 : decide (a < 0) = false := by simpa using h1
        by_cases h2 : b < 0
        · have d2 : decide (b < 0) = true := by simpa using h2
          clear hbad
          go_wp2_with fail
          go_ret
          exact ⟨rfl, hb1⟩
        · have d2 : decide (b < 0) = false := by simpa using h2
          by_cases h3 : 3 < a
          · have d3 : decide (3 < a) = true := by simpa using h3
            clear hbad
            go_wp2_with fail
            go_ret
            exact ⟨rfl, hb1⟩
          · have d3 : decide (3 < a) = false := by simpa using h3
            have d4 : decide (3 < b) = true := by simp; omega
            clear hbad
            go_wp2_with fail
            go_ret
            exact ⟨rfl, hb1⟩
  · obtain ⟨a, rfl⟩ := Int.eq_ofNat_of_zero_le (show 0 ≤ a by omega)
    obtain ⟨b, rfl⟩ := Int.eq_ofNat_of_zero_le (show 0 ≤ b by omega)
    have ha3 : a < 4 := by omega
    have hb3 : b < 4 := by omega
    have hn : ps.length ≤ 40 := by omega
    have Hsp := Lib.hid (spaces_of ⟨b, hb3⟩)
    have Htb := Lib.hid (tabs_of ⟨a, ha3⟩)
    clear hbad
    go_wp2_with fail
    go_loopw [6, 7] (fun x i wr => ∃ (t : ByteArray) (k m : Nat), x = .string t ∧ i = .int .i64 k ∧ k ≤ ps.length ∧ wr = w1.drewN m ∧ t.size ≤ 50 * k ∧ Hid (t.data.toList = fullJ a b (ps.take k)) ∧ Hid (∀ q ∈ ps.take k, tokL q = true)) (fun _ i _ => ps.length - (intOf i).toNat)
    case atStart => exact ⟨_, 0, 0, rfl, rfl, by omega, rfl, (show 0 ≤ 50 * 0 by omega), Lib.hid rfl, Lib.hid (fun q hq => by simp at hq)⟩
    case round =>
      obtain ⟨t, k, m, rfl, rfl, hk, rfl, hts, HJ, HK⟩ := hrel
      by_cases hlt : k < ps.length
      · obtain ⟨bb, off, rfl, hbb, hcells⟩ : ∃ bb off, ad = some ⟨bb, off, none⟩ ∧ bb < w.heap.size ∧ ∀ j (h : j < ps.length), w.cell? ⟨bb, off + j, none⟩ = some (.string (strB ps[j])) := by
          rcases Hcs.out with h | h
          · rw [h] at hlt; simp at hlt
          · exact h
        have e1 := (hb1.cell (p := ⟨bb, off + k, none⟩) hbb).trans (hcells k hlt)
        clear hcells
        have Hp : Hid (ps.take (k + 1) = ps.take k ++ [ps[k]]) := Lib.hid (List.take_succ_eq_append_getElem hlt)
        generalize ps[k] = p at e1 Hp
        have hpz := strB_size p
        by_cases hlong : 40 < p.length
        · have hl2 : 40 < (strB p).size := by omega
          clear hpz
          go_wp2_with fail
          go_ret
          exact ⟨rfl, hb1.trans ((below_of_drewN w1 m).mono hb1.size)⟩
        · have hl2 : (strB p).size ≤ 40 := by omega
          have cK := token_any (strB p) (w1.drewN m) (by unfold maxLen; omega)
          rw [strB_data] at cK
          clear hpz
          cases htok : tokL p
          · rw [htok] at cK
            clear htok
            go_wp2_with fail
            refine cK.mono ?_
            rintro e w' ⟨rfl, rfl⟩
            go_wp2_with fail
            go_ret
            exact ⟨rfl, hb1.trans ((below_of_drewN w1 m).mono hb1.size)⟩
          · rw [htok] at cK
            have Htok := Lib.hid htok
            clear htok
            by_cases hk0 : 0 < k
            · go_wp2_with fail
              refine cK.mono ?_
              rintro e w' ⟨rfl, rfl⟩
              go_wp2_with fail
              have HT1 : Hid ((t ++ (⟨#[44]⟩ : ByteArray) ++ (⟨#[32, 32, 32]⟩ : ByteArray).extract 0 b).data.toList = fullJ a b (ps.take k) ++ (44 :: List.replicate b 32)) := Lib.hid (by
                rw [append_data, append_data, HJ.out, Hsp.out]; simp)
              have hT1 : (t ++ (⟨#[44]⟩ : ByteArray) ++ (⟨#[32, 32, 32]⟩ : ByteArray).extract 0 b).size ≤ 50 * k + 4 := by
                have h1 := Lib.size_eq t
                rw [Lib.size_eq, append_data, append_data, Hsp.out]
                simp only [List.length_append, List.length_replicate, List.length_cons, List.length_nil]
                omega
              generalize (t ++ (⟨#[44]⟩ : ByteArray) ++ (⟨#[32, 32, 32]⟩ : ByteArray).extract 0 b) = T at HT1 hT1
              have hex : ((⟨#[9, 9, 9]⟩ : ByteArray).extract 0 a).size ≤ 3 := by rw [Lib.size_eq, Htb.out, List.length_replicate]; omega
              go_quiet (fail)
              go_wp2_with fail
              go_roundw
              case rel =>
                have hd : (T ++ strB p ++ (⟨#[9, 9, 9]⟩ : ByteArray).extract 0 a).data.toList = fullJ a b (ps.take (k + 1)) := by
                  rw [append_data, append_data, HT1.out, strB_data, Htb.out, Hp.out, fullJ_snoc]
                  rw [if_neg (by intro e; have := congrArg List.length e; rw [List.length_take, List.length_nil] at this; omega)]
                have hz : (T ++ strB p ++ (⟨#[9, 9, 9]⟩ : ByteArray).extract 0 a).size ≤ 50 * (k + 1) := by
                  have h1 := Lib.size_eq T
                  have h2 := Lib.size_eq (strB p)
                  rw [Lib.size_eq, append_data, append_data, Htb.out]
                  simp only [List.length_append, List.length_replicate]
                  omega
                refine ⟨_, k + 1, _, rfl, by go_num, by omega, rfl, hz, Lib.hid hd, Lib.hid (fun q hq => ?_)⟩
                rw [Hp.out, List.mem_append, List.mem_singleton] at hq
                rcases hq with hq | rfl
                · exact HK.out q hq
                · exact Htok.out
              case measure => simp [intOf] <;> omega
            · obtain rfl : k = 0 := by omega
              rw [Nat.add_zero] at e1
              have HT1 : Hid (t.data.toList = []) := Lib.hid (by rw [HJ.out]; rfl)
              have hT1 : t.size ≤ 0 := by omega
              have hex : ((⟨#[9, 9, 9]⟩ : ByteArray).extract 0 a).size ≤ 3 := by rw [Lib.size_eq, Htb.out, List.length_replicate]; omega
              go_wp2_with fail
              refine cK.mono ?_
              rintro e w' ⟨rfl, rfl⟩
              go_wp2_with fail
              go_quiet (fail)
              go_wp2_with fail
              go_roundw
              case rel =>
                have hd : (t ++ strB p ++ (⟨#[9, 9, 9]⟩ : ByteArray).extract 0 a).data.toList = fullJ a b (ps.take (0 + 1)) := by
                  rw [append_data, append_data, HT1.out, strB_data, Htb.out, Hp.out, fullJ_snoc]
                  rfl
                have hz : (t ++ strB p ++ (⟨#[9, 9, 9]⟩ : ByteArray).extract 0 a).size ≤ 50 * (0 + 1) := by
                  have h1 := Lib.size_eq t
                  have h2 := Lib.size_eq (strB p)
                  rw [Lib.size_eq, append_data, append_data, Htb.out]
                  simp only [List.length_append, List.length_replicate]
                  omega
                refine ⟨_, 0 + 1, _, rfl, by go_num, by omega, rfl, hz, Lib.hid hd, Lib.hid (fun q hq => ?_)⟩
                rw [Hp.out, List.mem_append, List.mem_singleton] at hq
                rcases hq with hq | rfl
                · exact HK.out q hq
                · exact Htok.out
              case measure => simp [intOf] <;> omega
      · have Hps : Hid (splitL t.data.toList = ps) := Lib.hid (by
          have h1 := HJ.out
          have h2 := HK.out
          rw [List.take_of_length_le (by omega)] at h1 h2
          rw [h1]
          exact split_full a b ps h2)
        have hbm : Below w.heap.size w (w1.drewN m) := hb1.trans ((below_of_drewN w1 m).mono hb1.size)
        generalize w1.drewN m = w2 at hbm
        clear hb1 k0 k1
        go_wp2_with fail
        refine (split_any t w2 (by omega) (Utf8Tabs_below HT.out hbm)).mono ?_
        rintro e w3 ⟨v1, rfl, hown1, hb3⟩
        rw [Hps.out] at hown1
        have hS1 := Strs.of_owns hown1 hl
        replace hb3 := hbm.trans (hb3.mono hbm.size)
        have hS2 : Strs w (.slice ad ps.length cap) ps := ⟨ad, cap, rfl, hl, Hcs.out⟩
        replace hS2 := hS2.later hb3
        clear hbm hown1
        go_wp2_with fail
        refine (same_any _ _ _ _ _ hS1 hS2).mono ?_
        rintro e w4 ⟨rfl, nd, rfl⟩
        rw [beq_self_eq_true]
        clear hS1 hS2
        go_wp2_with fail
        go_ret
        exact ⟨rfl, hb3.trans ((below_of_drewN w3 nd).mono hb3.size)⟩

end Go.Proofs.YtflicgnonmooaaaDoor
