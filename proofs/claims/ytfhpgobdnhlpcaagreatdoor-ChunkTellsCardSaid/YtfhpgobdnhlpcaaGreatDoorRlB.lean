/- The document's own size of a chunk's line (sculleryref07). -/
import Derived.Test.YtfhpgobdnhlpcaaGreatDoorRlA
import Derived.Test.YtfhpgobdnhlpcaaGreatDoorChF
namespace Go.Proofs.YtfhpgobdnhlpcaaGreatDoor
open Go.RowKit Go.Shelf Go.Lib

/-- What it answers beside a size that is told. -/
def sizPost (o : Option Nat) (w : World) (e : Ending) (w' : World) : Prop := w = w' ∧ ∃ (x : Int) (b : Bool), e = .returned (.tuple #[.int .i64 x, .bool b]) ∧ match o with
  | none => b = false
  | some n => b = true ∧ x = (n : Int)

theorem digV_yes {c : UInt8} {d : Nat} (h : hexD c = some d) : digV c = (d : Int) := by rw [digV, h]
theorem digV_no {c : UInt8} (h : hexD c = none) : digV c = -1 := by rw [digV, h]
theorem hv_take_succ (s : ByteArray) (k : Nat) (h : k < s.size) : hv 0 (s.data.toList.take (k + 1)) = hv 0 (s.data.toList.take k) * 16 + (hexD s[k]).getD 0 := by
  rw [take_snoc s k h, hv_snoc]

set_option maxRecDepth 100000 in
set_option maxHeartbeats 8000000 in
theorem rsize7_any (s : ByteArray) (w : World) (hs : s.size ≤ 100000) :
    Calls Tryz.prog 18 #[.string s] w (sizPost (sizeL s.data.toList) w) := by
  have hsz := Lib.size_eq s
  have HSz := Lib.hid hsz
  clear hsz
  go_enter Tryz.func18, Tryz.ntmps18
  go_wp2_with fail
  go_loop [4, 5] (fun n i => ∃ k a : Nat, n = .int .i64 (a : Int) ∧ i = .int .i64 k ∧ k ≤ s.size ∧ a ≤ 1099511627776 ∧ Hid (∀ c ∈ s.data.toList.take k, hexB c = true) ∧ Hid (k ≤ 8 → a = hv 0 (s.data.toList.take k))) (fun _ i => s.size - (intOf i).toNat)
  case atStart => exact ⟨0, 0, rfl, rfl, Nat.zero_le _, by omega, Lib.hid (by simp), Lib.hid (fun _ => rfl)⟩
  case round =>
    obtain ⟨k, a, rfl, rfl, hk, ha, H1, H2⟩ := hrel
    by_cases hgo : ∃ h : k < s.size, ∃ d, hexD s[k] = some d
    · obtain ⟨hlt, d, hd⟩ := hgo
      have cG := fun W => rdigit_any s[k] W
      rw [digV_yes hd] at cG
      have hd16 := hexD_lt _ _ hd
      obtain ⟨a2, ha2⟩ : ∃ a2, min (16 * a + d) 1099511627776 = a2 := ⟨_, rfl⟩
      have hmin : min (16 * (a : Int) + (d : Int)) 1099511627776 = (a2 : Int) := by omega
      have hkI : (k : Int) < (s.size : Int) := by omega
      have hk0 : (0 : Int) ≤ (k : Int) := by omega
      have Hn1 : Hid (∀ c ∈ s.data.toList.take (k + 1), hexB c = true) := Lib.hid fun c hc => by
        rw [take_snoc s k hlt] at hc
        rcases List.mem_append.1 hc with hc | hc
        · exact H1.out c hc
        · rw [List.mem_singleton] at hc
          rw [hc, hexB, hd]
          rfl
      have Hn2 : Hid (k + 1 ≤ 8 → a2 = hv 0 (s.data.toList.take (k + 1))) := Lib.hid fun h8 => by
        have h := H2.out (by omega)
        have hb := hv_lt (s.data.toList.take k) 0 0 (by decide)
        rw [List.length_take, Nat.zero_add] at hb
        have hb2 : hv 0 (s.data.toList.take k) < 16 ^ 7 := Nat.lt_of_lt_of_le hb (Nat.pow_le_pow_right (by omega) (by omega))
        have h7 : (16 : Nat) ^ 7 = 268435456 := by decide
        rw [hv_take_succ s k hlt, hd, ← h, Option.getD_some, ← ha2]
        omega
      have d0 : (0 : Int) ≤ (d : Int) := by omega
      have hm1 : 16 * (a : Int) ≤ 17592186044416 := by omega
      have ha2' : a2 ≤ 1099511627776 := by omega
      clear hd ha2 H1 H2
      go_wp2_with fail
      refine (cG _).mono ?_
      rintro e w1 ⟨rfl, rfl⟩
      go_wp2_with fail
      refine (cG _).mono ?_
      rintro e w1 ⟨rfl, rfl⟩
      go_wp2_with fail
      go_round
      case rel => exact ⟨k + 1, a2, by go_num, by go_num, by omega, ha2', Lib.hid Hn1.out, Lib.hid Hn2.out⟩
      case measure => simp [intOf]; omega
    · have HS : Hid (sizeL s.data.toList = sizR s.data.toList k) := Lib.hid (sizeL_eq _ k (by rw [← HSz.out]; exact hk) H1.out (fun c hc => by
        obtain ⟨h, hcc⟩ := List.getElem?_eq_some_iff.1 hc
        have hks : k < s.size := by rw [HSz.out]; exact h
        cases hd : hexD c with
        | none => rw [hexB, hd]; rfl
        | some d =>
          exfalso
          refine hgo ⟨hks, d, ?_⟩
          rw [show s[k] = c from hcc]
          exact hd))
      have hgo2 : k = s.size ∨ ∃ h : k < s.size, hexD s[k] = none := by
        by_cases h : k < s.size
        · right
          refine ⟨h, ?_⟩
          cases hd : hexD s[k] with
          | none => rfl
          | some d => exact absurd ⟨h, d, hd⟩ hgo
        · left; omega
      by_cases hA : k < 1 ∨ 8 < k
      · have HN : Hid (sizeL s.data.toList = none) := Lib.hid (by rw [HS.out, sizR, if_pos hA])
        rcases hA with hA | hA
        · have dA : (k : Int) < 1 := by omega
          rcases hgo2 with hk2 | ⟨hlt, hd⟩
          · have dk : ¬ (k : Int) < (s.size : Int) := by omega
            clear H1 H2 hgo HS hA hk2
            go_wp2_with fail
            refine bodyPost_ret (v := .tuple #[.int .i64 0, .bool false]) (by simp [results, Tryz.results18, go_sem]) rfl ⟨rfl, 0, false, rfl, ?_⟩
            rw [HN.out]
          · have cG := fun W => rdigit_any s[k] W
            rw [digV_no hd] at cG
            have dk : (k : Int) < (s.size : Int) := by omega
            have dk0 : (0 : Int) ≤ (k : Int) := by omega
            clear H1 H2 hgo HS hA hd
            go_wp2_with fail
            refine (cG _).mono ?_
            rintro e w1 ⟨rfl, rfl⟩
            go_wp2_with fail
            refine bodyPost_ret (v := .tuple #[.int .i64 0, .bool false]) (by simp [results, Tryz.results18, go_sem]) rfl ⟨rfl, 0, false, rfl, ?_⟩
            rw [HN.out]
        · have dA : ¬ (k : Int) < 1 := by omega
          have dB : (8 : Int) < (k : Int) := by omega
          rcases hgo2 with hk2 | ⟨hlt, hd⟩
          · have dk : ¬ (k : Int) < (s.size : Int) := by omega
            clear H1 H2 hgo HS hA hk2
            go_wp2_with fail
            refine bodyPost_ret (v := .tuple #[.int .i64 0, .bool false]) (by simp [results, Tryz.results18, go_sem]) rfl ⟨rfl, 0, false, rfl, ?_⟩
            rw [HN.out]
          · have cG := fun W => rdigit_any s[k] W
            rw [digV_no hd] at cG
            have dk : (k : Int) < (s.size : Int) := by omega
            have dk0 : (0 : Int) ≤ (k : Int) := by omega
            clear H1 H2 hgo HS hA hd
            go_wp2_with fail
            refine (cG _).mono ?_
            rintro e w1 ⟨rfl, rfl⟩
            go_wp2_with fail
            refine bodyPost_ret (v := .tuple #[.int .i64 0, .bool false]) (by simp [results, Tryz.results18, go_sem]) rfl ⟨rfl, 0, false, rfl, ?_⟩
            rw [HN.out]
      · have dA : ¬ (k : Int) < 1 := by omega
        have dB : ¬ (8 : Int) < (k : Int) := by omega
        have hav := H2.out (by omega)
        have HN : Hid (sizeL s.data.toList = if extR (s.data.toList.drop k) then some a else none) := Lib.hid (by rw [HS.out, sizR, if_neg hA, hav])
        obtain ⟨q, hq, hq2⟩ : ∃ q : Bool, ((k : Int) == (s.size : Int)) = q ∧ (s.data.toList.drop k).isEmpty = q := by
          refine ⟨_, rfl, ?_⟩
          by_cases hk2 : k = s.size
          · rw [List.drop_of_length_le (by rw [← HSz.out]; omega)]
            simp [hk2]
          · have h1 : s.data.toList.drop k ≠ [] := fun e => by
              have := congrArg List.length e
              rw [List.length_drop, ← HSz.out, List.length_nil] at this
              omega
            have h2 : (s.data.toList.drop k).isEmpty = false := by
              cases hx : s.data.toList.drop k with
              | nil => exact absurd hx h1
              | cons _ _ => rfl
            rw [h2]
            have h3 : ¬ (k : Int) = (s.size : Int) := by omega
            simpa using h3
        have HQ := Lib.hid hq2
        have hkI : (k : Int) ≤ (s.size : Int) := by omega
        have hxl : (s.extract k s.size).data.toList = s.data.toList.drop k := Lib.extract_to_end s k
        have hxs : (s.extract k s.size).size ≤ 100000 := by rw [Lib.size_eq, hxl, List.length_drop, ← HSz.out]; omega
        have HXL := Lib.hid (congrArg tlL hxl)
        generalize hXD : s.data.toList.drop k = XD at *
        clear hav H1 H2 hgo HS hA hq2 hxl hXD
        rcases hgo2 with hk2 | ⟨hlt, hd⟩
        · have dk : ¬ (k : Int) < (s.size : Int) := by omega
          clear hk2
          go_wp2_with fail
          generalize s.extract k s.size = r0 at *
          go_loop [6] (fun v => ∃ b : ByteArray, v = .string b ∧ b.size ≤ 100000 ∧ Hid (tlL b.data.toList = tlL XD)) (fun v => lenV v)
          case atStart => exact ⟨r0, rfl, hxs, Lib.hid HXL.out⟩
          case round =>
            obtain ⟨b, rfl, hbs, HB⟩ := hrel
            clear HXL hxs
            by_cases hb0 : b.size = 0
            · have hbl : b.data.toList = [] := List.eq_nil_of_length_eq_zero (by rw [← Lib.size_eq, hb0])
              have e1 : b.toList.isEmpty = true := by rw [Lib.toList_data, hbl]; rfl
              have HX : Hid (extR XD = q) := Lib.hid (by
                have h := HB.out
                rw [hbl] at h
                rw [extR, ← h]
                exact HQ.out)
              clear hbl hb0
              go_wp2_with fail
              refine bodyPost_ret (v := .tuple #[.int .i64 (a : Int), .bool q]) (by simp [results, Tryz.results18, go_sem]) rfl ⟨rfl, a, q, rfl, ?_⟩
              rw [HN.out, HX.out]
              cases q
              · rfl
              · exact ⟨rfl, rfl⟩
            · have hpos : 0 < b.size := by omega
              have hbl : b.data.toList = b[0] :: (b.extract 1 b.size).data.toList := by
                have := drop_cons_at b 0 hpos
                rw [List.drop_zero] at this
                rw [Lib.extract_to_end]
                exact this
              have e1 : b.toList.isEmpty = false := by rw [Lib.toList_data, hbl]; rfl
              have hes : (b.extract 1 b.size).size = b.size - 1 := by rw [Lib.size_eq, Lib.extract_to_end, List.length_drop, ← Lib.size_eq]
              have hI0 : (0 : Int) < (b.size : Int) := by omega
              have hI1 : (1 : Int) ≤ (b.size : Int) := by omega
              have B1 : ((b[0].toNat : Int) == 32) = (b[0] == 32) := byte_beq b[0] 32
              have B2 : ((b[0].toNat : Int) == 9) = (b[0] == 9) := byte_beq b[0] 9
              have B3 : ((b[0].toNat : Int) == 59) = (b[0] == 59) := byte_beq b[0] 59
              by_cases hc : blkB b[0] = true
              · have Hn : Hid (tlL (b.extract 1 b.size).data.toList = tlL XD) := Lib.hid (by
                  rw [← HB.out, hbl, show tlL (b[0] :: (b.extract 1 b.size).data.toList) = tlL (b.extract 1 b.size).data.toList by rw [tlL, List.dropWhile_cons_of_pos hc]; rfl])
                have HES := Lib.hid hes
                have hcc : (b[0] == 32 || b[0] == 9) = true := hc
                cases h32 : (b[0] == 32)
                · have h9 : (b[0] == 9) = true := by rw [h32, Bool.false_or] at hcc; exact hcc
                  rw [h32] at B1
                  rw [h9] at B2
                  clear hcc h32 h9 hc hbl hes B3
                  go_wp2_with fail
                  go_round
                  case rel => exact ⟨b.extract 1 b.size, rfl, by rw [HES.out]; omega, Lib.hid Hn.out⟩
                  case measure => simp only [lenV]; rw [HES.out]; omega
                · rw [h32] at B1
                  clear hcc h32 hc hbl hes B2 B3
                  go_wp2_with fail
                  go_round
                  case rel => exact ⟨b.extract 1 b.size, rfl, by rw [HES.out]; omega, Lib.hid Hn.out⟩
                  case measure => simp only [lenV]; rw [HES.out]; omega
              · have hcf : blkB b[0] = false := by simpa using hc
                have hcc : (b[0] == 32 || b[0] == 9) = false := hcf
                rw [Bool.or_eq_false_iff] at hcc
                rw [hcc.1] at B1
                rw [hcc.2] at B2
                have HX : Hid (extR XD = (b[0] == 59 && txtL (trimL (b.extract 1 b.size).data.toList))) := Lib.hid (by
                  rw [extR, ← HB.out]
                  conv => lhs; rw [hbl, show tlL (b[0] :: (b.extract 1 b.size).data.toList) = b[0] :: (b.extract 1 b.size).data.toList by rw [tlL, List.dropWhile_cons_of_neg (by rw [hcf]; decide)]])
                have cM := fun W => rtrim_any 100000 (b.extract 1 b.size) W (by omega) (by unfold maxLen; omega)
                have hml := trimL_le (b.extract 1 b.size).data.toList
                rw [← Lib.size_eq] at hml
                have cX := fun W => rtext_any (strB (trimL (b.extract 1 b.size).data.toList)) W (by unfold maxLen; rw [strB_size]; omega)
                rw [strB_data] at cX
                generalize txtL (trimL (b.extract 1 b.size).data.toList) = tx at *
                generalize strB (trimL (b.extract 1 b.size).data.toList) = TM at *
                generalize hz : (b[0] == 59) = z at *
                clear hbl hes hcc hcf hc hml hz HB
                cases z
                · go_wp2_with fail
                  refine bodyPost_ret (v := .tuple #[.int .i64 (a : Int), .bool false]) (by simp [results, Tryz.results18, go_sem]) rfl ⟨rfl, a, false, rfl, ?_⟩
                  rw [HN.out, HX.out]
                  rfl
                · go_wp2_with fail
                  refine (cM _).mono ?_
                  rintro e w2 ⟨rfl, rfl⟩
                  go_wp2_with fail
                  refine (cX _).mono ?_
                  rintro e w2 ⟨rfl, rfl⟩
                  go_wp2_with fail
                  refine bodyPost_ret (v := .tuple #[.int .i64 (a : Int), .bool tx]) (by simp [results, Tryz.results18, go_sem]) rfl ⟨rfl, a, tx, rfl, ?_⟩
                  rw [HN.out, HX.out]
                  cases tx
                  · rfl
                  · exact ⟨rfl, rfl⟩
        · have cG := fun W => rdigit_any s[k] W
          rw [digV_no hd] at cG
          have dk : (k : Int) < (s.size : Int) := by omega
          have dk0 : (0 : Int) ≤ (k : Int) := by omega
          clear hd
          go_wp2_with fail
          refine (cG _).mono ?_
          rintro e w1 ⟨rfl, rfl⟩
          clear cG
          go_wp2_with fail
          generalize s.extract k s.size = r0 at *
          go_loop [6] (fun v => ∃ b : ByteArray, v = .string b ∧ b.size ≤ 100000 ∧ Hid (tlL b.data.toList = tlL XD)) (fun v => lenV v)
          case atStart => exact ⟨r0, rfl, hxs, Lib.hid HXL.out⟩
          case round =>
            obtain ⟨b, rfl, hbs, HB⟩ := hrel
            clear HXL hxs
            by_cases hb0 : b.size = 0
            · have hbl : b.data.toList = [] := List.eq_nil_of_length_eq_zero (by rw [← Lib.size_eq, hb0])
              have e1 : b.toList.isEmpty = true := by rw [Lib.toList_data, hbl]; rfl
              have HX : Hid (extR XD = q) := Lib.hid (by
                have h := HB.out
                rw [hbl] at h
                rw [extR, ← h]
                exact HQ.out)
              clear hbl hb0
              go_wp2_with fail
              refine bodyPost_ret (v := .tuple #[.int .i64 (a : Int), .bool q]) (by simp [results, Tryz.results18, go_sem]) rfl ⟨rfl, a, q, rfl, ?_⟩
              rw [HN.out, HX.out]
              cases q
              · rfl
              · exact ⟨rfl, rfl⟩
            · have hpos : 0 < b.size := by omega
              have hbl : b.data.toList = b[0] :: (b.extract 1 b.size).data.toList := by
                have := drop_cons_at b 0 hpos
                rw [List.drop_zero] at this
                rw [Lib.extract_to_end]
                exact this
              have e1 : b.toList.isEmpty = false := by rw [Lib.toList_data, hbl]; rfl
              have hes : (b.extract 1 b.size).size = b.size - 1 := by rw [Lib.size_eq, Lib.extract_to_end, List.length_drop, ← Lib.size_eq]
              have hI0 : (0 : Int) < (b.size : Int) := by omega
              have hI1 : (1 : Int) ≤ (b.size : Int) := by omega
              have B1 : ((b[0].toNat : Int) == 32) = (b[0] == 32) := byte_beq b[0] 32
              have B2 : ((b[0].toNat : Int) == 9) = (b[0] == 9) := byte_beq b[0] 9
              have B3 : ((b[0].toNat : Int) == 59) = (b[0] == 59) := byte_beq b[0] 59
              by_cases hc : blkB b[0] = true
              · have Hn : Hid (tlL (b.extract 1 b.size).data.toList = tlL XD) := Lib.hid (by
                  rw [← HB.out, hbl, show tlL (b[0] :: (b.extract 1 b.size).data.toList) = tlL (b.extract 1 b.size).data.toList by rw [tlL, List.dropWhile_cons_of_pos hc]; rfl])
                have HES := Lib.hid hes
                have hcc : (b[0] == 32 || b[0] == 9) = true := hc
                cases h32 : (b[0] == 32)
                · have h9 : (b[0] == 9) = true := by rw [h32, Bool.false_or] at hcc; exact hcc
                  rw [h32] at B1
                  rw [h9] at B2
                  clear hcc h32 h9 hc hbl hes B3
                  go_wp2_with fail
                  go_round
                  case rel => exact ⟨b.extract 1 b.size, rfl, by rw [HES.out]; omega, Lib.hid Hn.out⟩
                  case measure => simp only [lenV]; rw [HES.out]; omega
                · rw [h32] at B1
                  clear hcc h32 hc hbl hes B2 B3
                  go_wp2_with fail
                  go_round
                  case rel => exact ⟨b.extract 1 b.size, rfl, by rw [HES.out]; omega, Lib.hid Hn.out⟩
                  case measure => simp only [lenV]; rw [HES.out]; omega
              · have hcf : blkB b[0] = false := by simpa using hc
                have hcc : (b[0] == 32 || b[0] == 9) = false := hcf
                rw [Bool.or_eq_false_iff] at hcc
                rw [hcc.1] at B1
                rw [hcc.2] at B2
                have HX : Hid (extR XD = (b[0] == 59 && txtL (trimL (b.extract 1 b.size).data.toList))) := Lib.hid (by
                  rw [extR, ← HB.out]
                  conv => lhs; rw [hbl, show tlL (b[0] :: (b.extract 1 b.size).data.toList) = b[0] :: (b.extract 1 b.size).data.toList by rw [tlL, List.dropWhile_cons_of_neg (by rw [hcf]; decide)]])
                have cM := fun W => rtrim_any 100000 (b.extract 1 b.size) W (by omega) (by unfold maxLen; omega)
                have hml := trimL_le (b.extract 1 b.size).data.toList
                rw [← Lib.size_eq] at hml
                have cX := fun W => rtext_any (strB (trimL (b.extract 1 b.size).data.toList)) W (by unfold maxLen; rw [strB_size]; omega)
                rw [strB_data] at cX
                generalize txtL (trimL (b.extract 1 b.size).data.toList) = tx at *
                generalize strB (trimL (b.extract 1 b.size).data.toList) = TM at *
                generalize hz : (b[0] == 59) = z at *
                clear hbl hes hcc hcf hc hml hz HB
                cases z
                · go_wp2_with fail
                  refine bodyPost_ret (v := .tuple #[.int .i64 (a : Int), .bool false]) (by simp [results, Tryz.results18, go_sem]) rfl ⟨rfl, a, false, rfl, ?_⟩
                  rw [HN.out, HX.out]
                  rfl
                · go_wp2_with fail
                  refine (cM _).mono ?_
                  rintro e w2 ⟨rfl, rfl⟩
                  go_wp2_with fail
                  refine (cX _).mono ?_
                  rintro e w2 ⟨rfl, rfl⟩
                  go_wp2_with fail
                  refine bodyPost_ret (v := .tuple #[.int .i64 (a : Int), .bool tx]) (by simp [results, Tryz.results18, go_sem]) rfl ⟨rfl, a, tx, rfl, ?_⟩
                  rw [HN.out, HX.out]
                  cases tx
                  · rfl
                  · exact ⟨rfl, rfl⟩

end Go.Proofs.YtfhpgobdnhlpcaaGreatDoor
