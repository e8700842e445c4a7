/- The document's own first line (sculleryref06.Line). -/
import Derived.Test.YtfhpgobdnhlpcaaDoorHdW
import Derived.BigQuiet
import Derived.Deep.QuietTactic
namespace Go.Proofs.YtfhpgobdnhlpcaaDoor
open Go.RowKit

/-- A first line, how long it is with its end, and its error. -/
def rlnV (p : List UInt8 × Int) : Value := .tuple #[.string (strB p.1), .int .i64 (if p.2 = 0 then (p.1.length : Int) + 2 else 0), .int .i64 p.2]

set_option maxRecDepth 100000 in
set_option maxHeartbeats 4000000 in
theorem rline_any (s : ByteArray) (w : World) (hs : s.size ≤ 100000) :
    Calls Tryd.prog 31 #[.string s] w fun e w' => e = .returned (rlnV (lineL s.data.toList)) ∧ w = w' := by
  have hsz := Lib.size_eq s
  go_enter Tryd.func31, Tryd.ntmps31
  go_wp2_with fail
  go_loop [5] (fun i => ∃ k : Nat, k ≤ s.size ∧ i = .int .i64 k ∧ Hid (∀ x ∈ s.data.toList.take k, x ≠ 10)) (fun i => s.size - (intOf i).toNat)
  case atStart => exact ⟨0, Nat.zero_le _, rfl, Lib.hid (by simp)⟩
  case round =>
    obtain ⟨k, hk, rfl, H⟩ := hrel
    by_cases hlt : k < s.size
    · have B := byte_beq s[k] 10
      have B2 : ((s[k].toNat : Int) != 10) = !(s[k] == 10) := by rw [← B]; rfl
      by_cases hc : s[k] = 10
      · have e1 : ((s[k].toNat : Int) != 10) = false := by rw [B2, hc]; rfl
        by_cases h0 : k = 0
        · subst h0
          have HV : Hid (rlnV (lineL s.data.toList) = .tuple #[.string ⟨#[]⟩, .int .i64 0, .int .i64 2]) := Lib.hid (by rw [lineL_zero s hlt hc]; rfl)
          clear B B2 hc H hsz
          go_wp2_with fail
          refine bodyPost_ret (v := .tuple #[.string ⟨#[]⟩, .int .i64 0, .int .i64 2]) (by simp [results, Tryd.results31, go_sem]) rfl ⟨by rw [HV.out], rfl⟩
        · have e0 : ((k : Int) == 0) = false := by simpa using h0
          have hk1 : k - 1 < s.size := by omega
          have hk2 : k - 1 + 1 = k := by omega
          have hL := lineL_at s (k - 1) (by rw [hk2]; exact H.out) (by omega) (by simpa only [hk2] using hc)
          have C := byte_beq (s[k - 1]'hk1) 13
          have C2 : (((s[k - 1]'hk1).toNat : Int) != 13) = !((s[k - 1]'hk1) == 13) := by rw [← C]; rfl
          by_cases h13 : s[k - 1]'hk1 = 13
          · have e2 : (((s[k - 1]'hk1).toNat : Int) != 13) = false := by rw [C2, h13]; rfl
            rw [if_pos h13] at hL
            by_cases h2 : 2000 < k - 1
            · rw [if_pos h2] at hL
              have HV : Hid (rlnV (lineL s.data.toList) = .tuple #[.string ⟨#[]⟩, .int .i64 0, .int .i64 4]) := Lib.hid (by rw [hL]; rfl)
              have d : (2000 : Int) < (k : Int) - 1 := by omega
              clear B B2 hc H hsz hL C C2 h13 hk2
              go_wp2_with fail
              refine bodyPost_ret (v := .tuple #[.string ⟨#[]⟩, .int .i64 0, .int .i64 4]) (by simp [results, Tryd.results31, go_sem]) rfl ⟨by rw [HV.out], rfl⟩
            · rw [if_neg h2] at hL
              have HV : Hid (rlnV (lineL s.data.toList) = .tuple #[.string (s.extract 0 (k - 1)), .int .i64 ((k : Int) + 1), .int .i64 0]) := Lib.hid (by
                have h1 : strB (s.data.toList.take (k - 1)) = s.extract 0 (k - 1) := by rw [← extract_take, strB_of]
                have h2' : ((s.data.toList.take (k - 1)).length : Int) + 2 = (k : Int) + 1 := by rw [List.length_take, ← hsz]; omega
                rw [hL, rlnV]
                dsimp only
                rw [if_pos rfl, h1, h2'])
              have d : ¬ (2000 : Int) < (k : Int) - 1 := by omega
              clear B B2 hc H hsz hL C C2 h13 hk2
              go_wp2_with fail
              refine bodyPost_ret (v := .tuple #[.string (s.extract 0 (k - 1)), .int .i64 ((k : Int) + 1), .int .i64 0]) (by simp [results, Tryd.results31, go_sem]) rfl ⟨by rw [HV.out], rfl⟩
          · have e2 : (((s[k - 1]'hk1).toNat : Int) != 13) = true := by rw [C2]; simpa using h13
            rw [if_neg h13] at hL
            have HV : Hid (rlnV (lineL s.data.toList) = .tuple #[.string ⟨#[]⟩, .int .i64 0, .int .i64 2]) := Lib.hid (by rw [hL]; rfl)
            clear B B2 hc H hsz hL C C2 h13 hk2
            go_wp2_with fail
            refine bodyPost_ret (v := .tuple #[.string ⟨#[]⟩, .int .i64 0, .int .i64 2]) (by simp [results, Tryd.results31, go_sem]) rfl ⟨by rw [HV.out], rfl⟩
      · have e1 : ((s[k].toNat : Int) != 10) = true := by rw [B2]; simpa using hc
        have Hn := Lib.hid (not_snoc H.out hlt hc)
        clear B B2 hc hsz
        go_wp2_with fail
        go_round
        case rel => exact ⟨k + 1, by omega, by go_num, Lib.hid Hn.out⟩
        case measure => simp [intOf]; omega
    · have hall : s.data.toList.take k = s.data.toList := take_all s k (by omega)
      have hH := H.out
      rw [hall] at hH
      have hL := lineL_no s hH
      by_cases h2 : 2002 < s.size
      · rw [if_pos h2] at hL
        have HV : Hid (rlnV (lineL s.data.toList) = .tuple #[.string ⟨#[]⟩, .int .i64 0, .int .i64 4]) := Lib.hid (by rw [hL]; rfl)
        have d : (2002 : Int) < (s.size : Int) := by omega
        clear hL hH H hall hsz
        go_wp2_with fail
        refine bodyPost_ret (v := .tuple #[.string ⟨#[]⟩, .int .i64 0, .int .i64 4]) (by simp [results, Tryd.results31, go_sem]) rfl ⟨by rw [HV.out], rfl⟩
      · rw [if_neg h2] at hL
        have HV : Hid (rlnV (lineL s.data.toList) = .tuple #[.string ⟨#[]⟩, .int .i64 0, .int .i64 3]) := Lib.hid (by rw [hL]; rfl)
        have d : ¬ (2002 : Int) < (s.size : Int) := by omega
        clear hL hH H hall hsz
        go_wp2_with fail
        refine bodyPost_ret (v := .tuple #[.string ⟨#[]⟩, .int .i64 0, .int .i64 3]) (by simp [results, Tryd.results31, go_sem]) rfl ⟨by rw [HV.out], rfl⟩

end Go.Proofs.YtfhpgobdnhlpcaaDoor
