/- The document's own inside and blanks (sculleryref12). · The document's own Take (sculleryref12). · The document's own Parse, Print, Like (sculleryref12). · The document's own Print and Like (sculleryref12). -/
import Derived.Test.YtclgdmcbbphbcaaGreatDoorZMBasP
import Derived.Test.YtclgdmcbbphbcaaGreatDoorRows
import Derived.WalkKit
import Derived.WalkSpells
import Derived.WalkLawsBesides
import Derived.Lib.Hide

namespace Go.Proofs.YtclgdmcbbphbcaaGreatDoor
open Go.RowKit Go.Lib

set_option maxHeartbeats 1000000 in
theorem uinside_any (c : UInt8) (w : World) :
    Calls Tryz.prog 25 #[.int .u8 (c.toNat : Int)] w fun e w' => e = .returned (.bool (insE c)) ∧ w = w' := by
  have e1 : ((c.toNat : Int) == 34) = (c == 34) := byte_beq c 34
  have e2 : ((c.toNat : Int) == 127) = (c == 127) := byte_beq c 127
  have e3 : ((c.toNat : Int) != 34) = (c != 34) := by rw [bne, bne, e1]
  have e4 : ((c.toNat : Int) != 127) = (c != 127) := by rw [bne, bne, e2]
  have hd : insE c = (decide (33 ≤ c.toNat) && ((c != 34) && (c != 127))) := rfl
  rw [hd]
  clear hd e1 e2
  by_cases h : 33 ≤ c.toNat
  · have g : (33 : Int) ≤ (c.toNat : Int) := by omega
    rw [decide_eq_true h]
    generalize (c != 34) = b1 at *
    generalize (c != 127) = b2 at *
    cases b1 <;> cases b2
    all_goals
      go_enter Tryz.func25, Tryz.ntmps25
      go_wp2_with fail
      go_ret
      exact ⟨rfl, rfl⟩
  · have g : ¬ (33 : Int) ≤ (c.toNat : Int) := by omega
    rw [decide_eq_false h]
    go_enter Tryz.func25, Tryz.ntmps25
    go_wp2_with fail
    go_ret
    exact ⟨rfl, rfl⟩

theorem bnE_more {l : List UInt8} {k : Nat} {c : UInt8} (h : bnE l = k + bnE (l.drop k)) (hd : l.drop k = c :: l.drop (k + 1)) (hb : blkE c = true) : bnE l = (k + 1) + bnE (l.drop (k + 1)) := by
  rw [h, hd]
  unfold bnE
  rw [List.takeWhile_cons, if_pos hb, List.length_cons]
  omega
theorem bnE_stop {l : List UInt8} {k : Nat} {c : UInt8} (h : bnE l = k + bnE (l.drop k)) (hd : l.drop k = c :: l.drop (k + 1)) (hb : blkE c = false) : bnE l = k := by
  rw [h, hd]
  unfold bnE
  rw [List.takeWhile_cons, if_neg (by rw [hb]; decide)]
  rfl

set_option maxRecDepth 100000 in
set_option maxHeartbeats 2000000 in
theorem ublanks_any (s : ByteArray) (w : World) (hs : s.size ≤ 100000) :
    Calls Tryz.prog 23 #[.string s] w fun e w' => e = .returned (.int .i64 (bnE s.data.toList)) ∧ w = w' := by
  have hz := Lib.hid (Lib.size_eq s)
  go_enter Tryz.func23, Tryz.ntmps23
  go_wp2_with fail
  go_loopw [3] (fun i wr => ∃ k : Nat, k ≤ s.size ∧ i = .int .i64 k ∧ Hid (bnE s.data.toList = k + bnE (s.data.toList.drop k)) ∧ wr = w) (fun i _ => s.size - (intOf i).toNat)
  case atStart => exact ⟨0, Nat.zero_le _, rfl, Lib.hid (by rw [List.drop_zero, Nat.zero_add]), rfl⟩
  case round =>
    obtain ⟨k, hk, rfl, HB, rfl⟩ := hrel
    by_cases hlt : k < s.size
    · have hd := Lib.hid (drop_cons_at s k hlt)
      have g0 : (k : Int) < (s.size : Int) := by omega
      have e1 : (((s[k]'hlt).toNat : Int) == 32) = ((s[k]'hlt) == 32) := byte_beq _ 32
      have e2 : (((s[k]'hlt).toNat : Int) == 9) = ((s[k]'hlt) == 9) := byte_beq _ 9
      cases h1 : ((s[k]'hlt) == 32)
      · rw [h1] at e1
        cases h2 : ((s[k]'hlt) == 9)
        · rw [h2] at e2
          have HS := Lib.hid (bnE_stop HB.out hd.out (by unfold blkE; rw [h1, h2] <;> rfl))
          clear h1 h2
          go_wp2_with fail
          go_ret
          exact ⟨by rw [HS.out] <;> rfl, rfl⟩
        · rw [h2] at e2
          have HS := Lib.hid (bnE_more HB.out hd.out (by unfold blkE; rw [h1, h2] <;> rfl))
          clear h1 h2
          go_wp2_with fail
          go_roundw
          case rel => exact ⟨k + 1, by omega, by go_num, HS, trivial⟩
          case measure => simp [intOf]; omega
      · rw [h1] at e1
        have HS := Lib.hid (bnE_more HB.out hd.out (by unfold blkE; rw [h1] <;> rfl))
        clear h1 e2
        go_wp2_with fail
        go_roundw
        case rel => exact ⟨k + 1, by omega, by go_num, HS, trivial⟩
        case measure => simp [intOf]; omega
    · obtain rfl : k = s.size := by omega
      have g0 : ¬ (s.size : Int) < (s.size : Int) := by omega
      have HS : Hid (bnE s.data.toList = s.size) := Lib.hid (by
        rw [HB.out, hz.out, List.drop_length]
        rfl)
      go_wp2_with fail
      go_ret
      exact ⟨by rw [HS.out] <;> rfl, rfl⟩

end Go.Proofs.YtclgdmcbbphbcaaGreatDoor

namespace Go.Proofs.YtclgdmcbbphbcaaGreatDoor
open Go.RowKit Go.Lib

theorem taV_some (l : List UInt8) (s : ByteArray) (hl : s.data.toList = l) (wk : Bool) (o k : Nat) (hk : k < s.size) (h : takE l = some ((wk, (l.drop o).take (k - o)), l.drop (k + 1))) :
    taV (takE l) s.size = .tuple #[.agg #[.bool wk, .string (s.extract o k)], .int .i64 ((k : Int) + 1), .bool true] := by
  have hz := Lib.size_eq s
  rw [hl] at hz
  have e : s.size - (l.drop (k + 1)).length = k + 1 := by rw [List.length_drop]; omega
  rw [h]
  show Value.tuple #[.agg #[.bool wk, .string (strB ((l.drop o).take (k - o)))], .int .i64 ((s.size - (l.drop (k + 1)).length : Nat) : Int), .bool true] = _
  rw [e, strB_part s o k, hl]
  rfl
theorem taV_none (l : List UInt8) (n : Nat) (h : takE l = none) : taV (takE l) n = .tuple #[.agg #[.bool false, .string ⟨#[]⟩], .int .i64 0, .bool false] := by rw [h] <;> rfl

set_option maxRecDepth 100000 in
set_option maxHeartbeats 8000000 in
theorem utake_any (s : ByteArray) (w : World) (hs : s.size ≤ 100000) :
    Calls Tryz.prog 19 #[.string s] w fun e w' => e = .returned (taV (takE s.data.toList) s.size) ∧ Below w.heap.size w w' := by
  have hz := Lib.hid (Lib.size_eq s)
  obtain ⟨L, hL⟩ : ∃ L, s.data.toList = L := ⟨_, rfl⟩
  have HL := Lib.hid hL
  have cI := fun (c : UInt8) W => uinside_any c W
  have HN := fun (h : takE L = none) => taV_none L s.size h
  have HY := fun (wk : Bool) (o k : Nat) (hk : k < s.size) h => taV_some L s hL wk o k hk h
  rw [hL]
  clear hL
  obtain ⟨R, hR⟩ : ∃ R, taV (takE L) s.size = R := ⟨_, rfl⟩
  rw [hR]
  rw [hR] at HN
  simp only [hR] at HY
  have HNH := Lib.hid HN
  have HYH := Lib.hid HY
  clear HN HY hR
  by_cases h0 : s.size = 0
  · have hL0 : L = [] := by rw [← HL.out]; exact List.eq_nil_of_length_eq_zero (by rw [← hz.out]; exact h0)
    have g1 : ¬ (2 : Int) ≤ (s.size : Int) := by omega
    have g2 : (s.size : Int) ≤ (0 : Int) := by omega
    have HR : Hid (R = .tuple #[.agg #[.bool false, .string ⟨#[]⟩], .int .i64 0, .bool false]) := Lib.hid (HNH.out (by rw [hL0] <;> rfl))
    clear HNH HYH cI
    go_enter Tryz.func19, Tryz.ntmps19
    go_wp2_with fail
    refine bodyPost_ret (v := .tuple #[.agg #[.bool false, .string ⟨#[]⟩], .int .i64 0, .bool false]) (by simp [results, Tryz.results19, go_sem]) rfl ⟨by rw [HR.out], ((Below.refl _ _).alloc (Nat.le_refl _) _).alloc (by simp) _⟩
  have p0 : 0 < s.size := by omega
  have d0 := drop_cons_at s 0 p0
  rw [List.drop_zero, HL.out] at d0
  have D0 := Lib.hid d0
  clear d0
  have a87 : (((s[0]'p0).toNat : Int) == 87) = ((s[0]'p0) == 87) := byte_beq _ 87
  have a34 : (((s[0]'p0).toNat : Int) == 34) = ((s[0]'p0) == 34) := byte_beq _ 34
  have a34n : (((s[0]'p0).toNat : Int) != 34) = ((s[0]'p0) != 34) := by rw [bne, bne, a34]
  have g2 : ¬ (s.size : Int) ≤ (0 : Int) := by omega
  by_cases hw : L.take 2 = [87, 47]
  · have p1 : 1 < s.size := by
        have := congrArg List.length hw
        rw [List.length_take] at this
        have h3 := hz.out
        rw [HL.out] at h3
        simp only [List.length_cons, List.length_nil] at this
        omega
    have d1 := drop_cons_at s 1 p1
    rw [HL.out] at d1
    have hb : (s[0]'p0) = 87 ∧ (s[1]'p1) = 47 := by
      have h3 := D0.out
      rw [d1] at h3
      rw [h3] at hw
      simp only [List.take_succ_cons, List.take_zero, List.cons.injEq, and_true] at hw
      exact hw
    have a47 : (((s[1]'p1).toNat : Int) == 47) = ((s[1]'p1) == 47) := byte_beq _ 47
    have b87 : (((s[0]'p0).toNat : Int) == 87) = true := by rw [a87, hb.1] <;> rfl
    have b47 : (((s[1]'p1).toNat : Int) == 47) = true := by rw [a47, hb.2] <;> rfl
    have g1 : (2 : Int) ≤ (s.size : Int) := by omega
    clear a87 a47 a34 a34n d1 hb
    by_cases h2 : s.size = 2
    · have hd2 : (L.drop 2).head? ≠ some 34 := by
        rw [List.drop_eq_nil_of_le (by rw [← HL.out, ← hz.out]; omega)]
        exact fun e => by cases e
      have g3 : (s.size : Int) ≤ (2 : Int) := by omega
      have HR : Hid (R = .tuple #[.agg #[.bool false, .string ⟨#[]⟩], .int .i64 0, .bool false]) := Lib.hid (HNH.out (takE_weakno hw hd2))
      clear HNH HYH cI
      go_enter Tryz.func19, Tryz.ntmps19
      go_wp2_with fail
      refine bodyPost_ret (v := .tuple #[.agg #[.bool false, .string ⟨#[]⟩], .int .i64 0, .bool false]) (by simp [results, Tryz.results19, go_sem]) rfl ⟨by rw [HR.out], ((Below.refl _ _).alloc (Nat.le_refl _) _).alloc (by simp) _⟩
    have p2 : 2 < s.size := by omega
    have g3 : ¬ (s.size : Int) ≤ (2 : Int) := by omega
    have d2 := drop_cons_at s 2 p2
    rw [HL.out] at d2
    have c34 : (((s[2]'p2).toNat : Int) == 34) = ((s[2]'p2) == 34) := byte_beq _ 34
    have c34n : (((s[2]'p2).toNat : Int) != 34) = ((s[2]'p2) != 34) := by rw [bne, bne, c34]
    by_cases h34 : (s[2]'p2) = 34
    · have m34 : (((s[2]'p2).toNat : Int) != 34) = false := by rw [c34n, h34] <;> rfl
      have hd2 : (L.drop 2).head? = some 34 := by rw [d2, h34] <;> rfl
      clear c34 c34n d2 h34
      have HT : Hid (takE L = (quoE (L.drop 3)).map fun p => ((true, p.1), p.2)) := Lib.hid (takE_weak hw hd2)
      go_enter Tryz.func19, Tryz.ntmps19
      go_wp2_with fail
      go_loopw [7] (fun i wr => ∃ k : Nat, 3 ≤ k ∧ k ≤ s.size ∧ i = .int .i64 k ∧ Hid (quI L 3 k) ∧ wr = (w.alloc (.cells #[.bool false, .string ⟨#[]⟩] 32)).alloc (.cells #[.bool true, .string ⟨#[]⟩] 32)) (fun i _ => s.size - (intOf i).toNat)
      case atStart => exact ⟨3, Nat.le_refl _, by omega, rfl, Lib.hid (quI_start L 3), rfl⟩
      case round =>
        obtain ⟨k, hok, hk, rfl, HQ, rfl⟩ := hrel
        by_cases hlt : k < s.size
        · have hd := Lib.hid (drop_cons_at s k hlt)
          rw [HL.out] at hd
          have g0 : (k : Int) < (s.size : Int) := by omega
          have e1 : (((s[k]'hlt).toNat : Int) == 34) = ((s[k]'hlt) == 34) := byte_beq _ 34
          cases h1 : ((s[k]'hlt) == 34)
          · rw [h1] at e1
            have hne : (s[k]'hlt) ≠ 34 := fun e => by rw [e] at h1; cases h1
            cases h2 : insE (s[k]'hlt)
            · have HR : Hid (R = .tuple #[.agg #[.bool false, .string ⟨#[]⟩], .int .i64 0, .bool false]) := Lib.hid (HNH.out (by rw [HT.out, quI_bad HQ.out hd.out hne h2] <;> rfl))
              have cI2 := cI (s[k]'hlt)
              rw [h2] at cI2
              clear cI h1 h2 hne HNH HYH
              go_wp2_with (go_at_call 25; refine (cI2 _).mono ?_; rintro e w2 ⟨rfl, rfl⟩)
              refine bodyPost_ret (v := .tuple #[.agg #[.bool false, .string ⟨#[]⟩], .int .i64 0, .bool false]) (by simp [results, Tryz.results19, go_sem]) rfl ⟨by rw [HR.out], ((Below.refl _ _).alloc (Nat.le_refl _) _).alloc (by simp) _⟩
            · have HQ2 := Lib.hid (quI_next HQ.out hd.out hne h2)
              have cI2 := cI (s[k]'hlt)
              rw [h2] at cI2
              clear cI h1 h2 hne HNH HYH
              go_wp2_with (go_at_call 25; refine (cI2 _).mono ?_; rintro e w2 ⟨rfl, rfl⟩)
              go_roundw
              case rel => first | exact ⟨k + 1, by omega, by omega, by go_num, HQ2, rfl⟩ | exact ⟨k + 1, by omega, by omega, by go_num, HQ2, trivial⟩
              case measure => simp [intOf]; omega
          · rw [h1] at e1
            have he : (s[k]'hlt) = 34 := eq_of_beq h1
            have HR : Hid (R = .tuple #[.agg #[.bool true, .string (s.extract 3 k)], .int .i64 ((k : Int) + 1), .bool true]) := Lib.hid (HYH.out true 3 k hlt (by
              have h3 := hd.out
              rw [he] at h3
              rw [HT.out, quI_end HQ.out h3]
              rfl))
            have g2 : (3 : Int) ≤ (k : Int) := by omega
            have g3 : (k : Int) ≤ (s.size : Int) := by omega
            clear cI h1 he HNH HYH hd
            go_wp2_with fail
            refine bodyPost_ret (v := .tuple #[.agg #[.bool true, .string (s.extract 3 k)], .int .i64 ((k : Int) + 1), .bool true]) (by simp [results, Tryz.results19, go_sem]) rfl ⟨by rw [HR.out], ((Below.refl _ _).alloc (Nat.le_refl _) _).alloc (by simp) _⟩
        · obtain rfl : k = s.size := by omega
          have g0 : ¬ (s.size : Int) < (s.size : Int) := by omega
          have HR : Hid (R = .tuple #[.agg #[.bool false, .string ⟨#[]⟩], .int .i64 0, .bool false]) := Lib.hid (HNH.out (by
            rw [HT.out, quI_none HQ.out (by rw [hz.out, HL.out, List.drop_length])]
            rfl))
          clear cI HNH HYH
          go_wp2_with fail
          refine bodyPost_ret (v := .tuple #[.agg #[.bool false, .string ⟨#[]⟩], .int .i64 0, .bool false]) (by simp [results, Tryz.results19, go_sem]) rfl ⟨by rw [HR.out], ((Below.refl _ _).alloc (Nat.le_refl _) _).alloc (by simp) _⟩
    · have m34 : (((s[2]'p2).toNat : Int) != 34) = true := by rw [c34n, bne_iff_ne]; exact h34
      have hd2 : (L.drop 2).head? ≠ some 34 := by rw [d2]; exact fun e => h34 (Option.some.inj e)
      clear c34 c34n d2 h34
      have HR : Hid (R = .tuple #[.agg #[.bool false, .string ⟨#[]⟩], .int .i64 0, .bool false]) := Lib.hid (HNH.out (takE_weakno hw hd2))
      clear HNH HYH cI
      go_enter Tryz.func19, Tryz.ntmps19
      go_wp2_with fail
      refine bodyPost_ret (v := .tuple #[.agg #[.bool false, .string ⟨#[]⟩], .int .i64 0, .bool false]) (by simp [results, Tryz.results19, go_sem]) rfl ⟨by rw [HR.out], ((Below.refl _ _).alloc (Nat.le_refl _) _).alloc (by simp) _⟩
  · by_cases h34 : (s[0]'p0) = 34
    · have m34 : (((s[0]'p0).toNat : Int) != 34) = false := by rw [a34n, h34] <;> rfl
      have m87 : (((s[0]'p0).toNat : Int) == 87) = false := by rw [a87, h34] <;> rfl
      have hh : L.head? = some 34 := by rw [D0.out, h34] <;> rfl
      clear a87 a34 a34n h34
      by_cases g1 : (2 : Int) ≤ (s.size : Int)
      · skip
        have HT : Hid (takE L = (quoE (L.drop 1)).map fun p => ((false, p.1), p.2)) := Lib.hid (takE_strong hw hh)
        go_enter Tryz.func19, Tryz.ntmps19
        go_wp2_with fail
        go_loopw [7] (fun i wr => ∃ k : Nat, 1 ≤ k ∧ k ≤ s.size ∧ i = .int .i64 k ∧ Hid (quI L 1 k) ∧ wr = (w.alloc (.cells #[.bool false, .string ⟨#[]⟩] 32)).alloc (.cells #[.bool false, .string ⟨#[]⟩] 32)) (fun i _ => s.size - (intOf i).toNat)
        case atStart => exact ⟨1, Nat.le_refl _, by omega, rfl, Lib.hid (quI_start L 1), rfl⟩
        case round =>
          obtain ⟨k, hok, hk, rfl, HQ, rfl⟩ := hrel
          by_cases hlt : k < s.size
          · have hd := Lib.hid (drop_cons_at s k hlt)
            rw [HL.out] at hd
            have g0 : (k : Int) < (s.size : Int) := by omega
            have e1 : (((s[k]'hlt).toNat : Int) == 34) = ((s[k]'hlt) == 34) := byte_beq _ 34
            cases h1 : ((s[k]'hlt) == 34)
            · rw [h1] at e1
              have hne : (s[k]'hlt) ≠ 34 := fun e => by rw [e] at h1; cases h1
              cases h2 : insE (s[k]'hlt)
              · have HR : Hid (R = .tuple #[.agg #[.bool false, .string ⟨#[]⟩], .int .i64 0, .bool false]) := Lib.hid (HNH.out (by rw [HT.out, quI_bad HQ.out hd.out hne h2] <;> rfl))
                have cI2 := cI (s[k]'hlt)
                rw [h2] at cI2
                clear cI h1 h2 hne HNH HYH
                go_wp2_with (go_at_call 25; refine (cI2 _).mono ?_; rintro e w2 ⟨rfl, rfl⟩)
                refine bodyPost_ret (v := .tuple #[.agg #[.bool false, .string ⟨#[]⟩], .int .i64 0, .bool false]) (by simp [results, Tryz.results19, go_sem]) rfl ⟨by rw [HR.out], ((Below.refl _ _).alloc (Nat.le_refl _) _).alloc (by simp) _⟩
              · have HQ2 := Lib.hid (quI_next HQ.out hd.out hne h2)
                have cI2 := cI (s[k]'hlt)
                rw [h2] at cI2
                clear cI h1 h2 hne HNH HYH
                go_wp2_with (go_at_call 25; refine (cI2 _).mono ?_; rintro e w2 ⟨rfl, rfl⟩)
                go_roundw
                case rel => first | exact ⟨k + 1, by omega, by omega, by go_num, HQ2, rfl⟩ | exact ⟨k + 1, by omega, by omega, by go_num, HQ2, trivial⟩
                case measure => simp [intOf]; omega
            · rw [h1] at e1
              have he : (s[k]'hlt) = 34 := eq_of_beq h1
              have HR : Hid (R = .tuple #[.agg #[.bool false, .string (s.extract 1 k)], .int .i64 ((k : Int) + 1), .bool true]) := Lib.hid (HYH.out false 1 k hlt (by
                have h3 := hd.out
                rw [he] at h3
                rw [HT.out, quI_end HQ.out h3]
                rfl))
              have g2 : (1 : Int) ≤ (k : Int) := by omega
              have g3 : (k : Int) ≤ (s.size : Int) := by omega
              clear cI h1 he HNH HYH hd
              go_wp2_with fail
              refine bodyPost_ret (v := .tuple #[.agg #[.bool false, .string (s.extract 1 k)], .int .i64 ((k : Int) + 1), .bool true]) (by simp [results, Tryz.results19, go_sem]) rfl ⟨by rw [HR.out], ((Below.refl _ _).alloc (Nat.le_refl _) _).alloc (by simp) _⟩
          · obtain rfl : k = s.size := by omega
            have g0 : ¬ (s.size : Int) < (s.size : Int) := by omega
            have HR : Hid (R = .tuple #[.agg #[.bool false, .string ⟨#[]⟩], .int .i64 0, .bool false]) := Lib.hid (HNH.out (by
              rw [HT.out, quI_none HQ.out (by rw [hz.out, HL.out, List.drop_length])]
              rfl))
            clear cI HNH HYH
            go_wp2_with fail
            refine bodyPost_ret (v := .tuple #[.agg #[.bool false, .string ⟨#[]⟩], .int .i64 0, .bool false]) (by simp [results, Tryz.results19, go_sem]) rfl ⟨by rw [HR.out], ((Below.refl _ _).alloc (Nat.le_refl _) _).alloc (by simp) _⟩
      · skip
        have HT : Hid (takE L = (quoE (L.drop 1)).map fun p => ((false, p.1), p.2)) := Lib.hid (takE_strong hw hh)
        go_enter Tryz.func19, Tryz.ntmps19
        go_wp2_with fail
        go_loopw [7] (fun i wr => ∃ k : Nat, 1 ≤ k ∧ k ≤ s.size ∧ i = .int .i64 k ∧ Hid (quI L 1 k) ∧ wr = (w.alloc (.cells #[.bool false, .string ⟨#[]⟩] 32)).alloc (.cells #[.bool false, .string ⟨#[]⟩] 32)) (fun i _ => s.size - (intOf i).toNat)
        case atStart => exact ⟨1, Nat.le_refl _, by omega, rfl, Lib.hid (quI_start L 1), rfl⟩
        case round =>
          obtain ⟨k, hok, hk, rfl, HQ, rfl⟩ := hrel
          by_cases hlt : k < s.size
          · exfalso
            omega
          · obtain rfl : k = s.size := by omega
            have g0 : ¬ (s.size : Int) < (s.size : Int) := by omega
            have HR : Hid (R = .tuple #[.agg #[.bool false, .string ⟨#[]⟩], .int .i64 0, .bool false]) := Lib.hid (HNH.out (by
              rw [HT.out, quI_none HQ.out (by rw [hz.out, HL.out, List.drop_length])]
              rfl))
            clear cI HNH HYH
            go_wp2_with fail
            refine bodyPost_ret (v := .tuple #[.agg #[.bool false, .string ⟨#[]⟩], .int .i64 0, .bool false]) (by simp [results, Tryz.results19, go_sem]) rfl ⟨by rw [HR.out], ((Below.refl _ _).alloc (Nat.le_refl _) _).alloc (by simp) _⟩
    · have m34 : (((s[0]'p0).toNat : Int) != 34) = true := by rw [a34n, bne_iff_ne]; exact h34
      have hh : L.head? ≠ some 34 := by rw [D0.out]; exact fun e => h34 (Option.some.inj e)
      clear a34 a34n h34
      by_cases g1 : (2 : Int) ≤ (s.size : Int)
      · have p1 : 1 < s.size := by omega
        have a47 : (((s[1]'p1).toNat : Int) == 47) = ((s[1]'p1) == 47) := byte_beq _ 47
        cases h87 : ((s[0]'p0) == 87)
        · rw [h87] at a87
          clear h87 a47
          have HR : Hid (R = .tuple #[.agg #[.bool false, .string ⟨#[]⟩], .int .i64 0, .bool false]) := Lib.hid (HNH.out (takE_no hw hh))
          clear HNH HYH cI
          go_enter Tryz.func19, Tryz.ntmps19
          go_wp2_with fail
          refine bodyPost_ret (v := .tuple #[.agg #[.bool false, .string ⟨#[]⟩], .int .i64 0, .bool false]) (by simp [results, Tryz.results19, go_sem]) rfl ⟨by rw [HR.out], ((Below.refl _ _).alloc (Nat.le_refl _) _).alloc (by simp) _⟩
        · rw [h87] at a87
          have h47 : ((s[1]'p1) == 47) = false := by
            cases h47 : ((s[1]'p1) == 47)
            · rfl
            · exfalso
              have d1 := drop_cons_at s 1 p1
              rw [HL.out] at d1
              refine hw ?_
              rw [D0.out, d1, eq_of_beq h87, eq_of_beq h47]
              rfl
          rw [h47] at a47
          clear h87 h47
          have HR : Hid (R = .tuple #[.agg #[.bool false, .string ⟨#[]⟩], .int .i64 0, .bool false]) := Lib.hid (HNH.out (takE_no hw hh))
          clear HNH HYH cI
          go_enter Tryz.func19, Tryz.ntmps19
          go_wp2_with fail
          refine bodyPost_ret (v := .tuple #[.agg #[.bool false, .string ⟨#[]⟩], .int .i64 0, .bool false]) (by simp [results, Tryz.results19, go_sem]) rfl ⟨by rw [HR.out], ((Below.refl _ _).alloc (Nat.le_refl _) _).alloc (by simp) _⟩
      · skip
        have HR : Hid (R = .tuple #[.agg #[.bool false, .string ⟨#[]⟩], .int .i64 0, .bool false]) := Lib.hid (HNH.out (takE_no hw hh))
        clear HNH HYH cI
        go_enter Tryz.func19, Tryz.ntmps19
        go_wp2_with fail
        refine bodyPost_ret (v := .tuple #[.agg #[.bool false, .string ⟨#[]⟩], .int .i64 0, .bool false]) (by simp [results, Tryz.results19, go_sem]) rfl ⟨by rw [HR.out], ((Below.refl _ _).alloc (Nat.le_refl _) _).alloc (by simp) _⟩

end Go.Proofs.YtclgdmcbbphbcaaGreatDoor

namespace Go.Proofs.YtclgdmcbbphbcaaGreatDoor
open Go.RowKit Go.Lib

/-- A tag or why there is none; a text or why there is none. -/
def prV (o : Option Tg) : Value := match o with
  | none => .tuple #[tgV (false, []), .int .i64 2]
  | some t => .tuple #[tgV t, .int .i64 0]
def txV (t : Tg) : Value := if vldE t = true then .tuple #[.string (strB (txtE t)), .int .i64 0] else .tuple #[.string ⟨#[]⟩, .int .i64 2]

set_option maxRecDepth 100000 in
set_option maxHeartbeats 4000000 in
theorem uparse_any (s : ByteArray) (w : World) (hs : s.size ≤ 100000) :
    Calls Tryz.prog 7 #[.string s] w fun e w' => e = .returned (prV (prsE s.data.toList)) ∧ Below w.heap.size w w' := by
  have hb0 : Below w.heap.size w (w.alloc (.cells #[.bool false, .string ⟨#[]⟩] 32)) := (Below.refl _ _).alloc (Nat.le_refl _) _
  have HB0 := Lib.hid hb0
  have HX0 := Lib.hid (BoxN.made w [.bool false, .string ⟨#[]⟩] 32)
  have cT := fun W => utake_any s W hs
  have hz := Lib.size_eq s
  obtain ⟨L, hL⟩ : ∃ L, s.data.toList = L := ⟨_, rfl⟩
  rw [hL] at cT hz ⊢
  obtain ⟨R, hR⟩ : ∃ R, prV (prsE L) = R := ⟨_, rfl⟩
  have HR := Lib.hid hR
  rw [hR]
  clear hR hb0 hL
  cases ht : takE L with
  | none =>
    have HV : Hid (R = .tuple #[.agg #[.bool false, .string ⟨#[]⟩], .int .i64 2]) := Lib.hid (by rw [← HR.out, prsE, ht] <;> rfl)
    rw [ht] at cT
    simp only [taV, tgV] at cT
    rw [show strB [] = (⟨#[]⟩ : ByteArray) from rfl] at cT
    clear ht HR hz
    go_enter Tryz.func7, Tryz.ntmps7
    go_wp2_with fail
    refine (cT _).mono ?_
    rintro e w2 ⟨rfl, hb⟩
    have HX := Lib.hid (HX0.out.next hb)
    have HB := Lib.hid (HB0.out.trans (hb.mono HB0.out.size))
    have hlt := HX.out.1
    have x0 := (HX.out.2 0 _ rfl).1
    have g0 := (HX.out.2 0 _ rfl).2
    have x1 := (HX.out.2 1 _ rfl).1
    have g1 := (HX.out.2 1 _ rfl).2
    have HP := Lib.hid ((HX.out.set 0 (.bool false) (by simp)).set 1 (.string ⟨#[]⟩) (by simp))
    have HQ := Lib.hid ((HB.out.setCell (p := ⟨w.heap.size, 0, none⟩) (Nat.le_refl _) (.bool false)).setCell (p := ⟨w.heap.size, 1, none⟩) (Nat.le_refl _) (.string ⟨#[]⟩))
    clear hb cT HX0 HB0
    go_wp2_with fail
    clear x0 g0 x1 g1 hlt
    generalize (w2.setCell ⟨w.heap.size, 0, none⟩ (.bool false)).setCell ⟨w.heap.size, 1, none⟩ (.string ⟨#[]⟩) = U at *
    have hal := (Below.refl U.heap.size U).alloc (Nat.le_refl _) (.cells #[.bool false, .string ⟨#[]⟩] 32)
    have HP9 := Lib.hid (HP.out.next hal)
    have HQ9 := Lib.hid (HQ.out.trans (hal.mono HQ.out.size))
    have p0 := (HP9.out.2 0 _ rfl).1
    have p1 := (HP9.out.2 1 _ rfl).1
    refine bodyPost_ret (v := .tuple #[.agg #[.bool false, .string ⟨#[]⟩], .int .i64 2]) (by simp [results, Tryz.results7, go_sem, p0, p1]) rfl ⟨by rw [HV.out], HQ9.out⟩
  | some p =>
    obtain ⟨⟨wk, tx⟩, r⟩ := p
    have hle := takE_suffix ht
    rw [ht] at cT
    simp only [taV, tgV] at cT
    obtain ⟨n, hn⟩ : ∃ n, s.size - r.length = n := ⟨_, rfl⟩
    rw [hn] at cT
    obtain ⟨X, hX⟩ : ∃ X, strB tx = X := ⟨_, rfl⟩
    rw [hX] at cT
    by_cases hr : r = []
    · have HV : Hid (R = .tuple #[.agg #[.bool wk, .string X], .int .i64 0]) := Lib.hid (by rw [← HR.out, prsE, ht, ← hX]; dsimp only; rw [if_pos hr] <;> rfl)
      have hnl : n = s.size := by rw [← hn, hr]; simp
      subst hnl
      have k1 : ((s.size : Int) != (s.size : Int)) = false := bne_self_eq_false _
      clear ht HR hz hr hle hn hX
      go_enter Tryz.func7, Tryz.ntmps7
      go_wp2_with fail
      refine (cT _).mono ?_
      rintro e w2 ⟨rfl, hb⟩
      have HX := Lib.hid (HX0.out.next hb)
      have HB := Lib.hid (HB0.out.trans (hb.mono HB0.out.size))
      have hlt := HX.out.1
      have x0 := (HX.out.2 0 _ rfl).1
      have g0 := (HX.out.2 0 _ rfl).2
      have x1 := (HX.out.2 1 _ rfl).1
      have g1 := (HX.out.2 1 _ rfl).2
      have HP := Lib.hid ((HX.out.set 0 (.bool wk) (by simp)).set 1 (.string X) (by simp))
      have HQ := Lib.hid ((HB.out.setCell (p := ⟨w.heap.size, 0, none⟩) (Nat.le_refl _) (.bool wk)).setCell (p := ⟨w.heap.size, 1, none⟩) (Nat.le_refl _) (.string X))
      clear hb cT HX0 HB0
      go_wp2_with fail
      clear x0 g0 x1 g1 hlt
      generalize (w2.setCell ⟨w.heap.size, 0, none⟩ (.bool wk)).setCell ⟨w.heap.size, 1, none⟩ (.string X) = U at *
      have hal := (Below.refl U.heap.size U).alloc (Nat.le_refl _) (.cells #[.bool wk, .string X] 32)
      have HP9 := Lib.hid (HP.out.next hal)
      have HQ9 := Lib.hid (HQ.out.trans (hal.mono HQ.out.size))
      have p0 := (HP9.out.2 0 _ rfl).1
      have p1 := (HP9.out.2 1 _ rfl).1
      refine bodyPost_ret (v := .tuple #[.agg #[.bool wk, .string X], .int .i64 0]) (by simp [results, Tryz.results7, go_sem, p0, p1]) rfl ⟨by rw [HV.out], HQ9.out⟩
    · have HV : Hid (R = .tuple #[.agg #[.bool false, .string ⟨#[]⟩], .int .i64 2]) := Lib.hid (by rw [← HR.out, prsE, ht]; dsimp only; rw [if_neg hr] <;> rfl)
      have hrl : r.length ≠ 0 := fun e => hr (List.eq_nil_of_length_eq_zero e)
      have k1 : ((n : Int) != (s.size : Int)) = true := by
        rw [bne_iff_ne]
        omega
      clear ht HR hz hr hle hn hX hrl
      go_enter Tryz.func7, Tryz.ntmps7
      go_wp2_with fail
      refine (cT _).mono ?_
      rintro e w2 ⟨rfl, hb⟩
      have HX := Lib.hid (HX0.out.next hb)
      have HB := Lib.hid (HB0.out.trans (hb.mono HB0.out.size))
      have hlt := HX.out.1
      have x0 := (HX.out.2 0 _ rfl).1
      have g0 := (HX.out.2 0 _ rfl).2
      have x1 := (HX.out.2 1 _ rfl).1
      have g1 := (HX.out.2 1 _ rfl).2
      have HP := Lib.hid ((HX.out.set 0 (.bool false) (by simp)).set 1 (.string ⟨#[]⟩) (by simp))
      have HQ := Lib.hid ((HB.out.setCell (p := ⟨w.heap.size, 0, none⟩) (Nat.le_refl _) (.bool false)).setCell (p := ⟨w.heap.size, 1, none⟩) (Nat.le_refl _) (.string ⟨#[]⟩))
      clear hb cT HX0 HB0
      go_wp2_with fail
      clear x0 g0 x1 g1 hlt
      generalize (w2.setCell ⟨w.heap.size, 0, none⟩ (.bool false)).setCell ⟨w.heap.size, 1, none⟩ (.string ⟨#[]⟩) = U at *
      have hal := (Below.refl U.heap.size U).alloc (Nat.le_refl _) (.cells #[.bool wk, .string X] 32)
      have HP9 := Lib.hid (HP.out.next hal)
      have HQ9 := Lib.hid (HQ.out.trans (hal.mono HQ.out.size))
      have p0 := (HP9.out.2 0 _ rfl).1
      have p1 := (HP9.out.2 1 _ rfl).1
      refine bodyPost_ret (v := .tuple #[.agg #[.bool false, .string ⟨#[]⟩], .int .i64 2]) (by simp [results, Tryz.results7, go_sem, p0, p1]) rfl ⟨by rw [HV.out], HQ9.out⟩

end Go.Proofs.YtclgdmcbbphbcaaGreatDoor

namespace Go.Proofs.YtclgdmcbbphbcaaGreatDoor
open Go.RowKit Go.Lib

set_option maxRecDepth 100000 in
set_option maxHeartbeats 4000000 in
theorem uprint_any (wk : Bool) (t : List UInt8) (w : World) (ht : t.length ≤ 100000) :
    Calls Tryz.prog 13 #[.agg #[.bool wk, .string (strB t)]] w fun e w' => e = .returned (txV (wk, t)) ∧ Below w.heap.size w w' := by
  have cI := fun (c : UInt8) W => uinside_any c W
  have HB := Lib.hid ((Below.refl w.heap.size w).alloc (Nat.le_refl _) (.cells #[.bool wk, .string (strB t)] 32))
  obtain ⟨R, hR⟩ : ∃ R, txV (wk, t) = R := ⟨_, rfl⟩
  have HR := Lib.hid hR
  rw [hR]
  clear hR
  have hsz : (strB t).size = t.length := strB_size t
  have hdat : (strB t).data.toList = t := strB_data t
  have HZ := Lib.hid hsz
  have HD := Lib.hid hdat
  have hs : (strB t).size ≤ 100000 := by rw [hsz]; exact ht
  have HE : Hid (strB (txtE (wk, t)) = if wk = true then ⟨#[87, 47, 34]⟩ ++ strB t ++ ⟨#[34]⟩ else ⟨#[34]⟩ ++ strB t ++ ⟨#[34]⟩) := Lib.hid (by
    rw [show (⟨#[87, 47, 34]⟩ : ByteArray) = strB [87, 47, 34] from rfl, show (⟨#[34]⟩ : ByteArray) = strB [34] from rfl, strB_append, strB_append, strB_append, strB_append]
    cases wk <;> simp [txtE])
  clear hsz hdat
  generalize strB t = S at *
  go_enter Tryz.func13, Tryz.ntmps13
  go_wp2_with fail
  go_loopw [4] (fun i wr => ∃ k : Nat, k ≤ S.size ∧ i = .int .i64 k ∧ Hid (t.all insE = (t.drop k).all insE) ∧ wr = w.alloc (.cells #[.bool wk, .string S] 32)) (fun i _ => S.size - (intOf i).toNat)
  case atStart => exact ⟨0, Nat.zero_le _, rfl, Lib.hid (by rw [List.drop_zero]), rfl⟩
  case round =>
    obtain ⟨k, hk, rfl, HA, rfl⟩ := hrel
    by_cases hlt : k < S.size
    · have hd := drop_cons_at S k hlt
      rw [HD.out] at hd
      have g0 : (k : Int) < (S.size : Int) := by omega
      have cI2 := cI (S[k]'hlt)
      cases h2 : insE (S[k]'hlt)
      · rw [h2] at cI2
        have HV : Hid (R = .tuple #[.string ⟨#[]⟩, .int .i64 2]) := Lib.hid (by
          rw [← HR.out, txV, if_neg]
          show ¬ (t.all insE) = true
          rw [HA.out, hd, List.all_cons, h2]
          simp)
        clear h2 hd cI
        go_wp2_with (go_at_call 25; refine (cI2 _).mono ?_; rintro e w2 ⟨rfl, rfl⟩)
        go_ret2
        exact ⟨by rw [HV.out] <;> rfl, HB.out⟩
      · rw [h2] at cI2
        have HA2 : Hid (t.all insE = (t.drop (k + 1)).all insE) := Lib.hid (by rw [HA.out, hd, List.all_cons, h2, Bool.true_and])
        clear h2 hd cI
        go_wp2_with (go_at_call 25; refine (cI2 _).mono ?_; rintro e w2 ⟨rfl, rfl⟩)
        go_roundw
        case rel => first | exact ⟨k + 1, by omega, by go_num, HA2, rfl⟩ | exact ⟨k + 1, by omega, by go_num, HA2, trivial⟩
        case measure => simp [intOf]; omega
    · obtain rfl : k = S.size := by omega
      have g0 : ¬ (S.size : Int) < (S.size : Int) := by omega
      have hv : vldE (wk, t) = true := by
        show t.all insE = true
        rw [HA.out, List.drop_eq_nil_of_le (by rw [HZ.out]; omega)]
        rfl
      have z1 : ¬ 9223372036854775807 < 3 + S.size := by omega
      have z2 : ¬ 9223372036854775807 < 1 + S.size := by omega
      cases wk
      · have HV : Hid (R = .tuple #[.string (⟨#[34]⟩ ++ S ++ ⟨#[34]⟩), .int .i64 0]) := Lib.hid (by
          rw [← HR.out, txV, if_pos hv, HE.out]
          rfl)
        clear cI hv
        go_wp2_with fail
        go_ret2
        exact ⟨by rw [HV.out] <;> rfl, HB.out⟩
      · have HV : Hid (R = .tuple #[.string (⟨#[87, 47, 34]⟩ ++ S ++ ⟨#[34]⟩), .int .i64 0]) := Lib.hid (by
          rw [← HR.out, txV, if_pos hv, HE.out]
          rfl)
        clear cI hv
        go_wp2_with fail
        go_ret2
        exact ⟨by rw [HV.out] <;> rfl, HB.out⟩

set_option maxRecDepth 100000 in
set_option maxHeartbeats 4000000 in
theorem ulike_any (a b : Tg) (st : Bool) (w : World) :
    Calls Tryz.prog 15 #[tgV a, tgV b, .bool st] w fun e w' => e = .returned (.bool (likE a b st)) ∧ Below w.heap.size w w' := by
  obtain ⟨wa, ta⟩ := a
  obtain ⟨wb, tb⟩ := b
  have HB := Lib.hid (((Below.refl w.heap.size w).alloc (Nat.le_refl _) (.cells #[.bool wa, .string (strB ta)] 32)).alloc (by simp) (.cells #[.bool wb, .string (strB tb)] 32))
  have hq := name_eq ta tb
  have hd : likE (wa, ta) (wb, tb) st = (decide (tb = ta) && (!st || (!wa && !wb))) := by
    unfold likE
    rw [show decide (ta = tb) = decide (tb = ta) from by simp [eq_comm]]
  unfold tgV
  rw [hd]
  clear hd
  dsimp only
  generalize decide (tb = ta) = D at *
  generalize strB ta = SA at *
  generalize strB tb = SB at *
  cases D <;> cases st <;> cases wa <;> cases wb
  all_goals
    go_enter Tryz.func15, Tryz.ntmps15
    go_wp2_with fail
    go_ret
    exact ⟨rfl, HB.out⟩

end Go.Proofs.YtclgdmcbbphbcaaGreatDoor
