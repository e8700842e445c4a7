/- The contracts of package etag: inTag, Tag.isValid, Like. -/
import Derived.Test.YtclgdmcbbphbcaaGreatDoorZEvP
import Derived.Test.YtclgdmcbbphbcaaGreatDoorZMBasP
import Derived.Test.YtclgdmcbbphbcaaGreatDoorRows
import Derived.BigQuiet
import Derived.Deep.QuietTactic
import Derived.WalkKit
import Derived.WalkSpells
import Derived.WalkLawsBesides
import Derived.Lib.Hide

namespace Go.Proofs.YtclgdmcbbphbcaaGreatDoor
open Go.RowKit Go.Lib

theorem insE_form (c : UInt8) : insE c = ((c == 33) || ((decide (35 ≤ c.toNat) && decide (c.toNat ≤ 126)) || decide (128 ≤ c.toNat))) := by
  have h : ∀ i : Fin 256, insE (UInt8.ofNat i.val) = (((UInt8.ofNat i.val) == 33) || ((decide (35 ≤ (UInt8.ofNat i.val).toNat) && decide ((UInt8.ofNat i.val).toNat ≤ 126)) || decide (128 ≤ (UInt8.ofNat i.val).toNat))) := by decide +kernel
  have h2 := h ⟨c.toNat, UInt8.toNat_lt c⟩
  rwa [UInt8.ofNat_toNat] at h2

set_option maxHeartbeats 1000000 in
theorem inTag_any (c : UInt8) (w : World) :
    Calls Tryz.prog 41 #[.int .u8 (c.toNat : Int)] w fun e w' => e = .returned (.bool (insE c)) ∧ w = w' := by
  have e1 : ((c.toNat : Int) == 33) = (c == 33) := byte_beq c 33
  rw [insE_form]
  cases h1 : c == 33
  · rw [h1] at e1
    clear h1
    by_cases h2 : 35 ≤ c.toNat
    · have g2 : (35 : Int) ≤ (c.toNat : Int) := by omega
      by_cases h3 : c.toNat ≤ 126
      · have g3 : (c.toNat : Int) ≤ 126 := by omega
        have h4 : ¬ 128 ≤ c.toNat := by omega
        rw [decide_eq_true h2, decide_eq_true h3, decide_eq_false h4]
        clear h2 h3 h4
        go_enter Tryz.func41, Tryz.ntmps41
        go_wp2_with fail
        go_ret
        exact ⟨rfl, rfl⟩
      · have g3 : ¬ (c.toNat : Int) ≤ 126 := by omega
        by_cases h4 : 128 ≤ c.toNat
        · have g4 : (128 : Int) ≤ (c.toNat : Int) := by omega
          rw [decide_eq_true h2, decide_eq_false h3, decide_eq_true h4]
          clear h2 h3 h4
          go_enter Tryz.func41, Tryz.ntmps41
          go_wp2_with fail
          go_ret
          exact ⟨rfl, rfl⟩
        · have g4 : ¬ (128 : Int) ≤ (c.toNat : Int) := by omega
          rw [decide_eq_true h2, decide_eq_false h3, decide_eq_false h4]
          clear h2 h3 h4
          go_enter Tryz.func41, Tryz.ntmps41
          go_wp2_with fail
          go_ret
          exact ⟨rfl, rfl⟩
    · have g2 : ¬ (35 : Int) ≤ (c.toNat : Int) := by omega
      have h3 : c.toNat ≤ 126 := by omega
      have h4 : ¬ 128 ≤ c.toNat := by omega
      have g4 : ¬ (128 : Int) ≤ (c.toNat : Int) := by omega
      rw [decide_eq_false h2, decide_eq_true h3, decide_eq_false h4]
      clear h2 h3 h4
      go_enter Tryz.func41, Tryz.ntmps41
      go_wp2_with fail
      go_ret
      exact ⟨rfl, rfl⟩
  · rw [h1] at e1
    clear h1
    go_enter Tryz.func41, Tryz.ntmps41
    go_wp2_with fail
    go_ret
    exact ⟨rfl, rfl⟩

set_option maxRecDepth 100000 in
set_option maxHeartbeats 4000000 in
theorem isValid_any (wk : Bool) (t : List UInt8) (w : World) (ht : t.length ≤ 140737488355328) :
    Calls Tryz.prog 24 #[.agg #[.bool wk, .string (strB t)]] w fun e w' => e = .returned (.bool (t.all insE)) ∧ Below w.heap.size w w' := by
  have HB := Lib.hid ((Below.refl w.heap.size w).alloc (Nat.le_refl _) (.cells #[.bool wk, .string (strB t)] 23))
  have hsz : (strB t).size = t.length := strB_size t
  have hdat : (strB t).data.toList = t := strB_data t
  have HZ := Lib.hid hsz
  have HD := Lib.hid hdat
  have hs : (strB t).size ≤ 140737488355328 := by rw [hsz]; exact ht
  clear hsz hdat
  generalize strB t = S at *
  go_enter Tryz.func24, Tryz.ntmps24
  go_wp2_with fail
  go_loopw [7] (fun i wr => ∃ k : Nat, k ≤ S.size ∧ i = .int .i64 k ∧ Hid (t.all insE = (t.drop k).all insE) ∧ wr = w.alloc (.cells #[.bool wk, .string S] 23)) (fun i _ => S.size - (intOf i).toNat)
  case atStart => exact ⟨0, Nat.zero_le _, rfl, Lib.hid (by rw [List.drop_zero]), rfl⟩
  case round =>
    obtain ⟨k, hk, rfl, HA, rfl⟩ := hrel
    by_cases hlt : k < S.size
    · have hd := drop_cons_at S k hlt
      rw [HD.out] at hd
      have g0 : (k : Int) < (S.size : Int) := by omega
      have cI2 := fun W => inTag_any (S[k]'hlt) W
      cases h2 : insE (S[k]'hlt)
      · rw [h2] at cI2
        have HV : Hid (t.all insE = false) := Lib.hid (by rw [HA.out, hd, List.all_cons, h2, Bool.false_and])
        clear h2 hd
        go_wp2_with (go_at_call 41; refine (cI2 _).mono ?_; rintro e w2 ⟨rfl, rfl⟩)
        go_ret
        exact ⟨by rw [HV.out]; rfl, HB.out⟩
      · rw [h2] at cI2
        have HA2 : Hid (t.all insE = (t.drop (k + 1)).all insE) := Lib.hid (by rw [HA.out, hd, List.all_cons, h2, Bool.true_and])
        clear h2 hd
        go_wp2_with (go_at_call 41; refine (cI2 _).mono ?_; rintro e w2 ⟨rfl, rfl⟩)
        go_roundw
        case rel => first | exact ⟨k + 1, by omega, by go_num, HA2, rfl⟩ | exact ⟨k + 1, by omega, by go_num, HA2, trivial⟩
        case measure => simp [intOf]; omega
    · obtain rfl : k = S.size := by omega
      have g0 : ¬ (S.size : Int) < (S.size : Int) := by omega
      have HV : Hid (t.all insE = true) := Lib.hid (by rw [HA.out, List.drop_eq_nil_of_le (by rw [HZ.out]; omega)]; rfl)
      go_wp2_with fail
      go_ret
      exact ⟨by rw [HV.out]; rfl, HB.out⟩

set_option maxRecDepth 100000 in
set_option maxHeartbeats 4000000 in
theorem elike_any (a b : Tg) (st : Bool) (w : World) :
    Calls Tryz.prog 14 #[tgV a, tgV b, .bool st] w fun e w' => e = .returned (.bool (likE a b st)) ∧ Below w.heap.size w w' := by
  obtain ⟨wa, ta⟩ := a
  obtain ⟨wb, tb⟩ := b
  have hq := name_eq ta tb
  have hd : likE (wa, ta) (wb, tb) st = (decide (tb = ta) && (!st || (!wa && !wb))) := by
    unfold likE
    rw [show decide (ta = tb) = decide (tb = ta) from by simp [eq_comm]]
  unfold tgV
  rw [hd]
  clear hd
  dsimp only
  generalize decide (tb = ta) = D at *
  generalize strB ta = SA at *
  generalize strB tb = SB at *
  have HB := fun (x y : Bool) => ((Below.refl w.heap.size w).alloc (Nat.le_refl _) (.cells #[.bool x, .string SA] 23)).alloc (by simp) (.cells #[.bool y, .string SB] 23)
  have HBH := Lib.hid HB
  clear HB
  cases st
  · cases D
    all_goals
      go_enter Tryz.func14, Tryz.ntmps14
      go_wp2_with fail
      go_ret
      exact ⟨rfl, HBH.out _ _⟩
  · cases D <;> cases wa <;> cases wb
    all_goals
      go_enter Tryz.func14, Tryz.ntmps14
      go_wp2_with fail
      go_ret
      exact ⟨rfl, HBH.out _ _⟩

end Go.Proofs.YtclgdmcbbphbcaaGreatDoor
