/- The contracts of ascii.partEnd and ascii.Lower. -/
import Derived.Test.YtflicgnonmooaaaDoorAscB
import Derived.Lib.IndexBytes
namespace Go.Proofs.YtflicgnonmooaaaDoor
open Go.RowKit

/-- How far it is to the first comma outside of quoted parts: 'none' outside, 'some odd' inside of one. -/
def peS : Option Bool → List UInt8 → Nat
  | _, [] => 0
  | none, c :: r => if c == 44 then 0 else if c == 34 then 1 + peS (some false) r else 1 + peS none r
  | some o, c :: r => if c == 92 then 1 + peS (some (!o)) r else if c == 34 && !o then 1 + peS none r else 1 + peS (some false) r
def peL (l : List UInt8) : Nat := peS none l

theorem peS_le : ∀ (o : Option Bool) (l : List UInt8), peS o l ≤ l.length
  | none, [] => Nat.le_refl _
  | some _, [] => Nat.le_refl _
  | none, c :: r => by
    unfold peS
    have h1 := peS_le (some false) r
    have h2 := peS_le none r
    simp only [List.length_cons]
    split
    · omega
    · split <;> omega
  | some o, c :: r => by
    unfold peS
    have h1 := peS_le (some false) r
    have h2 := peS_le none r
    have h3 := peS_le (some (!o)) r
    simp only [List.length_cons]
    split
    · omega
    · split <;> omega

theorem peS_in : ∀ (o : Bool) (l : List UInt8), peS (some o) l = qgo o l + peS none (l.drop (qgo o l))
  | _, [] => rfl
  | o, c :: r => by
    have h1 := peS_in (!o) r
    have h2 := peS_in false r
    rw [peS, qgo]
    by_cases a : (c == 92) = true
    · rw [if_pos a, if_pos a, h1, Nat.add_comm 1 (qgo (!o) r), List.drop_succ_cons]; omega
    · rw [if_neg a, if_neg a]
      by_cases b : (c == 34 && !o) = true
      · rw [if_pos b, if_pos b, List.drop_one, List.tail_cons]
      · rw [if_neg b, if_neg b, h2, Nat.add_comm 1 (qgo false r), List.drop_succ_cons]; omega

theorem peS_quoted (r : List UInt8) : peS none (34 :: r) = quoL (34 :: r) + peS none ((34 :: r).drop (quoL (34 :: r))) := by
  have e : peS none (34 :: r) = 1 + peS (some false) r := by rw [peS]; simp
  rw [e, peS_in, quoL, List.drop_one, List.tail_cons, Nat.add_comm 1 (qgo false r), List.drop_succ_cons]
  omega

theorem quoL_le (l : List UInt8) (h : 0 < l.length) : quoL l ≤ l.length := by
  have := qgo_le false (l.drop 1)
  rw [List.length_drop] at this
  unfold quoL
  omega

set_option maxHeartbeats 400000 in
theorem partEnd_any (s : ByteArray) (w : World) (hs : s.size ≤ maxLen) :
    Calls Tryd.prog 22 #[.string s] w fun e w' => e = .returned (.int .i64 (peL s.data.toList : Int)) ∧ w = w' := by
  unfold maxLen at hs
  go_enter Tryd.func22, Tryd.ntmps22
  go_wp2
  go_loop [3] (fun i => ∃ k : Nat, k ≤ s.size ∧ i = .int .i64 k ∧ Hid (peL s.data.toList = k + peS none (s.data.toList.drop k))) (fun i => s.size - (intOf i).toNat)
  case atStart => exact ⟨0, by omega, rfl, Lib.hid (by simp [peL])⟩
  case round =>
    obtain ⟨k, hk, rfl, H⟩ := hrel
    by_cases hlt : k < s.size
    · have Hdr := Lib.hid (drop_cons_at s k hlt)
      have B44 : Hid (((s[k].toNat : Int) == 44) = (s[k] == 44)) := Lib.hid (byte_beq s[k] 44)
      have B34 : Hid (((s[k].toNat : Int) == 34) = (s[k] == 34)) := Lib.hid (byte_beq s[k] 34)
      cases h44 : ((s[k].toNat : Int) != 44)
      · have P44 : Hid ((s[k] == 44) = true) := Lib.hid (by rw [← B44.out]; simpa using h44)
        go_wp2
        go_ret
        exact ⟨ret_eq (int_eq (by rw [H.out, Hdr.out, peS, P44.out]; simp)), rfl⟩
      · have P44 : Hid ((s[k] == 44) = false) := Lib.hid (by rw [← B44.out]; simpa using h44)
        cases h34 : ((s[k].toNat : Int) == 34)
        · have P34 := Lib.hid (B34.out.symm.trans h34)
          go_wp2
          go_round
          case rel => exact ⟨k + 1, by omega, by go_num, Lib.hid (by rw [H.out, Hdr.out, peS, P44.out, P34.out]; simp; omega)⟩
          case measure => simp [intOf]; omega
        · have P34 := Lib.hid (B34.out.symm.trans h34)
          have hsz : (s.extract k s.size).size = s.size - k := by rw [Lib.size_eq, Lib.extract_to_end, List.length_drop, ← Lib.size_eq]
          have cQ := quotedLength_any (s.extract k s.size) w (by unfold maxLen; omega) (by omega)
          clear hsz
          have Hx := Lib.hid (Lib.extract_to_end s k)
          have hqle : quoL (s.extract k s.size).data.toList ≤ s.size - k := by
            have := quoL_le (s.extract k s.size).data.toList (by rw [Hx.out, List.length_drop, ← Lib.size_eq]; omega)
            rw [Hx.out, List.length_drop, ← Lib.size_eq] at this
            rw [Hx.out]
            exact this
          have hq1 : 1 ≤ quoL (s.extract k s.size).data.toList := by unfold quoL; omega
          have Hq : Hid (peS none (s.data.toList.drop k) = quoL (s.extract k s.size).data.toList + peS none (s.data.toList.drop (k + quoL (s.extract k s.size).data.toList))) := Lib.hid (by
            have e : s[k] = 34 := by simpa using P34.out
            rw [Hx.out, ← List.drop_drop, Hdr.out, e]
            exact peS_quoted _)
          generalize quoL (s.extract k s.size).data.toList = q at cQ hqle hq1 Hq
          go_wp2_with (go_at_call 30; refine cQ.mono ?_; rintro e w' ⟨rfl, rfl⟩)
          go_round
          case rel => exact ⟨k + q, by omega, by go_num, Lib.hid (by rw [H.out, Hq.out]; omega)⟩
          case measure => simp [intOf]; omega
    · have Hd : Hid (s.data.toList.drop k = []) := Lib.hid (List.drop_of_length_le (by rw [← Lib.size_eq]; omega))
      go_wp2
      go_ret
      exact ⟨ret_eq (int_eq (by rw [H.out, Hd.out, peS]; omega)), rfl⟩

end Go.Proofs.YtflicgnonmooaaaDoor
