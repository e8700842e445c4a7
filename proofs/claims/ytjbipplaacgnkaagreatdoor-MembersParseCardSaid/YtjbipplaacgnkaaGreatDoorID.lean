/- The contracts of the document's blanks and entry (sculleryref04). · What the walk of the document's parse (sculleryref04) needs: entries put in place, the rest of a text. -/
import Derived.Test.YtjbipplaacgnkaaGreatDoorIC
import Derived.Test.YtjbipplaacgnkaaGreatDoorGK
import Derived.Test.YtjbipplaacgnkaaGreatDoorGN

namespace Go.Proofs.YtjbipplaacgnkaaGreatDoor
open Go.RowKit Go.Maps

def blcL (l : List UInt8) : Nat := (l.takeWhile (fun c => c == 32 || c == 9)).length
theorem blcL_le (l : List UInt8) : blcL l ≤ l.length := takeWhile_len_le _ l
theorem blD_drop (l : List UInt8) : blD l = l.drop (blcL l) := by
  unfold blD blcL
  induction l with
  | nil => rfl
  | cons c l ih =>
    rw [List.dropWhile_cons, List.takeWhile_cons]
    cases h : (c == 32 || c == 9)
    · rfl
    · simpa using ih
theorem blc_at : ∀ (l : List UInt8) (j : Nat), j ≤ blcL l → (((l.drop j).head? = some 32 ∨ (l.drop j).head? = some 9) ↔ j < blcL l)
  | [], j, h => by
    simp [blcL] at h ⊢
  | c :: l, 0, _ => by
    unfold blcL
    rw [List.takeWhile_cons, List.drop_zero, List.head?_cons]
    cases h : (c == 32 || c == 9)
    · simp only [Bool.or_eq_false_iff, beq_eq_false_iff_ne] at h
      simp [h.1, h.2]
    · simp only [Bool.or_eq_true, beq_iff_eq] at h
      simp [h]
  | c :: l, j + 1, h => by
    unfold blcL at h ⊢
    rw [List.takeWhile_cons] at h ⊢
    cases hc : (c == 32 || c == 9)
    · rw [hc] at h
      simp at h
    · rw [hc] at h
      simp only [if_true, List.length_cons] at h ⊢
      have := blc_at l j (by unfold blcL; omega)
      unfold blcL at this
      rw [List.drop_succ_cons, this]
      omega

set_option maxRecDepth 100000 in
set_option maxHeartbeats 2000000 in
theorem rblanks_any (s : ByteArray) (K : Nat) (w : World) (hs : s.size ≤ 100000) (hK : K ≤ s.size) :
    Calls Tryz.prog 52 #[.string s, .int .i64 (K : Int)] w fun e w' => e = .returned (.int .i64 ((K + blcL (s.data.toList.drop K) : Nat) : Int)) ∧ w = w' := by
  obtain ⟨ns, hns⟩ : ∃ ns, blcL (s.data.toList.drop K) = ns := ⟨_, rfl⟩
  have hspc := blc_at (s.data.toList.drop K)
  have hnl := blcL_le (s.data.toList.drop K)
  rw [List.length_drop, ← Lib.size_eq] at hnl
  rw [hns] at hspc hnl
  simp only [List.drop_drop] at hspc
  have Hspc := Lib.hid hspc
  rw [hns]
  clear hspc hns
  go_enter Tryz.func52, Tryz.ntmps52
  go_wp2_with fail
  go_loopw [1] (fun a wr => ∃ j : Nat, j ≤ ns ∧ a = .int .i64 ((K + j : Nat) : Int) ∧ wr = w) (fun a _ => s.size - (intOf a).toNat)
  case atStart => exact ⟨0, Nat.zero_le _, by go_num, rfl⟩
  case round =>
    obtain ⟨j, hj, rfl, rfl⟩ := hrel
    have hjs : K + j ≤ s.size := by omega
    have hjn := Hspc.out j hj
    obtain ⟨J, hJ⟩ : ∃ J, K + j = J := ⟨_, rfl⟩
    rw [hJ] at hjs hjn
    rw [hJ]
    by_cases hlt2 : J < s.size
    · have hh := head_is s J hlt2 32
      have hh9 := head_is s J hlt2 9
      cases hc : (((s[J]'hlt2).toNat : Int) == 32)
      · cases hc9 : (((s[J]'hlt2).toNat : Int) == 9)
        · have hjn2 : j = ns := by
            by_cases h : j < ns
            · rcases hjn.2 h with h | h
              · rw [hh.1 h] at hc
                exact absurd hc (by decide)
              · rw [hh9.1 h] at hc9
                exact absurd hc9 (by decide)
            · omega
          clear hh hh9 hjn
          go_wp2_with fail
          go_ret
          exact ⟨by rw [← hjn2, hJ] <;> rfl, rfl⟩
        · have hjn2 : j < ns := hjn.1 (.inr (hh9.2 (by simpa using hc9)))
          clear hh hh9 hjn
          go_wp2_with fail
          go_roundw
          case rel => exact ⟨j + 1, hjn2, by rw [← hJ]; go_num, by first | rfl | trivial⟩
          case measure => simp [intOf]; omega
      · have hjn2 : j < ns := hjn.1 (.inl (hh.2 (by simpa using hc)))
        clear hh hh9 hjn
        go_wp2_with fail
        go_roundw
        case rel => exact ⟨j + 1, hjn2, by rw [← hJ]; go_num, by first | rfl | trivial⟩
        case measure => simp [intOf]; omega
    · have hjn2 : j = ns := by omega
      clear hjn
      go_wp2_with fail
      go_ret
      exact ⟨by rw [← hjn2, hJ] <;> rfl, rfl⟩

abbrev rzeroE : Obj := .cells #[.string ⟨#[]⟩, .bool false, .int .i64 0, .int .i64 0, .string ⟨#[]⟩, .slice none 0 0, .slice none 0 0, .slice none 0 0] 59
theorem ResE.rmade (w : World) : ResE (w.alloc rzeroE) w.heap.size := ⟨by simp, by simp, by simp, by simp, by simp, by simp, by simp, by simp, by simp, by simp, by simp, by simp, by simp, by simp, by simp, by simp⟩

/-- The entry with which a text begins; without keys it is a member alone. -/
def entK (keys : Bool) (l : List UInt8) : Option (Ent × List UInt8) := if keys then entL l else (memL l).map (fun p => (⟨[], p.1⟩, p.2))
def rentPost (o : Option (Ent × List UInt8)) (z : Nat) (w : World) (e : Ending) (w' : World) : Prop :=
  Below w.heap.size w w' ∧ match o with
    | none => ∃ (K : ByteArray) (m : Int), e = .returned (.tuple #[aggE K false 0 0 ⟨#[]⟩ (.slice none 0 0) (.slice none 0 0) (.slice none 0 0), .int .i64 m, .int .i64 2])
    | some (E, r) => ∃ v, e = .returned (.tuple #[v, .int .i64 ((z - r.length : Nat) : Int), .int .i64 0]) ∧ EntAt w.heap.size none w' E v

set_option maxRecDepth 100000 in
set_option maxHeartbeats 4000000 in
theorem rent_off (s : ByteArray) (w : World) (hs : s.size ≤ 100000) :
    Calls Tryz.prog 51 #[.string s, .bool false] w (rentPost (entK false s.data.toList) s.size w) := by
  have cM := fun W => rmember_any s W hs
  have hb0 : Below w.heap.size w (w.alloc rzeroE) := (Below.refl _ _).alloc (Nat.le_refl _) _
  have HR0 := Lib.hid (ResE.rmade w)
  have hE : entK false s.data.toList = (memL s.data.toList).map (fun p => (⟨[], p.1⟩, p.2)) := rfl
  cases hm : memL s.data.toList with
  | none =>
    have HL : Hid (entK false s.data.toList = none) := Lib.hid (by rw [hE, hm] <;> rfl)
    rw [hm] at cM
    clear hm hE
    go_enter Tryz.func51, Tryz.ntmps51
    go_wp2_with fail
    refine (cM _).mono ?_
    rintro e w1 ⟨hb1, rfl⟩
    have hR1 := HR0.out.next (by simpa using hb1)
    have hB1 := hb0.trans (hb1.mono hb0.size)
    have hlt := hR1.lt
    obtain ⟨r0, r1, r2, r3, r4, r5, r6, r7, g0, g1, g2, g3, g4, g5, g6, g7⟩ := hR1
    clear hb1 cM
    go_wp2_with fail
    refine bodyPost_ret (v := .tuple #[aggE ⟨#[]⟩ false 0 0 ⟨#[]⟩ (.slice none 0 0) (.slice none 0 0) (.slice none 0 0), .int .i64 0, .int .i64 2]) (by simp [results, Tryz.results51, go_sem, r0, r1, r2, r3, r4, r5, r6, r7, hlt]) rfl ?_
    rw [HL.out]
    refine ⟨?_, _, _, rfl⟩
    repeat (first | with_reducible refine Below.alloc ?_ (by simp; omega) _ | with_reducible refine Below.setCell ?_ (by simp) _)
    exact hB1
  | some x =>
    obtain ⟨M, r⟩ := x
    have HL : Hid (entK false s.data.toList = some (⟨[], M⟩, r)) := Lib.hid (by rw [hE, hm] <;> rfl)
    rw [hm] at cM
    clear hm hE
    generalize hz : s.size - r.length = z at *
    have HZ := Lib.hid hz
    clear hz
    go_enter Tryz.func51, Tryz.ntmps51
    go_wp2_with fail
    refine (cM _).mono ?_
    rintro e w1 ⟨hb1, v, h1, hv⟩
    rw [HZ.out] at h1
    subst h1
    have hR1 := HR0.out.next (by simpa using hb1)
    have hB1 := hb0.trans (hb1.mono hb0.size)
    have hlt := hR1.lt
    obtain ⟨r0, r1, r2, r3, r4, r5, r6, r7, g0, g1, g2, g3, g4, g5, g6, g7⟩ := hR1
    obtain ⟨u, vi, vp, rfl, hu, hvi, hvp⟩ := hv
    obtain ⟨ao1, cap1, rfl⟩ := hu.form
    obtain ⟨ao2, cap2, rfl⟩ := hvi.form
    obtain ⟨ao3, cap3, rfl⟩ := hvp.form
    have HU := Lib.hid (hu.low (show w.heap.size + 1 ≤ _ by simp))
    have HV := Lib.hid (hvi.low (show w.heap.size + 1 ≤ _ by simp))
    have HW := Lib.hid (hvp.low (show w.heap.size + 1 ≤ _ by simp))
    clear hb1 cM hu hvi hvp
    go_wp2_with fail
    refine bodyPost_ret (v := .tuple #[aggE ⟨#[]⟩ M.inner M.it.k M.it.n (strB M.it.s) (.slice ao1 M.it.ps.length cap1) (.slice ao2 M.its.length cap2) (.slice ao3 M.ps.length cap3), .int .i64 (z : Int), .int .i64 0]) (by simp [results, Tryz.results51, go_sem, r0, r1, r2, r3, r4, r5, r6, r7, hlt]) rfl ?_
    rw [HL.out]
    refine ⟨?_, _, by rw [HZ.out] <;> rfl, .slice ao1 M.it.ps.length cap1, .slice ao2 M.its.length cap2, .slice ao3 M.ps.length cap3, rfl, (HU.out.moved (c := w.heap.size) ?_ (Nat.lt_succ_self _)).low (Nat.le_succ _), (HV.out.moved (c := w.heap.size) ?_ (Nat.lt_succ_self _)).low (Nat.le_succ _), (HW.out.moved (c := w.heap.size) ?_ (Nat.lt_succ_self _)).low (Nat.le_succ _)⟩
    · repeat (first | with_reducible refine Below.alloc ?_ (by simp; omega) _ | with_reducible refine Below.setCell ?_ (by simp) _)
      exact hB1
    all_goals
      repeat (first | with_reducible refine Moved.drew1 ?_ | with_reducible refine Moved.alloc ?_ _ | with_reducible refine Moved.setCell ?_ _)
      exact Moved.refl _ _

set_option maxRecDepth 100000 in
set_option maxHeartbeats 4000000 in
theorem rent_on (s : ByteArray) (w : World) (hs : s.size ≤ 100000) :
    Calls Tryz.prog 51 #[.string s, .bool true] w (rentPost (entK true s.data.toList) s.size w) := by
  have hb0 : Below w.heap.size w (w.alloc rzeroE) := (Below.refl _ _).alloc (Nat.le_refl _) _
  have HR0 := Lib.hid (ResE.rmade w)
  have cK := fun W => rreadKey_any s W (by unfold maxLen; omega)
  have hk := klen_le s.data.toList
  rw [← Lib.size_eq] at hk
  rw [rkV] at cK
  have hE : entK true s.data.toList = (if klen s.data.toList = 0 then none else match valM (s.data.toList.drop (klen s.data.toList)) with
    | none => none
    | some (M, r) => some (⟨s.data.toList.take (klen s.data.toList), M⟩, r)) := rfl
  obtain ⟨n, hn⟩ : ∃ n, klen s.data.toList = n := ⟨_, rfl⟩
  rw [hn] at cK hE hk
  clear hn
  by_cases h0 : n = 0
  · have HL : Hid (entK true s.data.toList = none) := Lib.hid (by rw [hE, if_pos h0])
    rw [if_pos h0] at cK
    have hlt := HR0.out.lt
    obtain ⟨r0, r1, r2, r3, r4, r5, r6, r7, g0, g1, g2, g3, g4, g5, g6, g7⟩ := HR0.out
    clear h0 hE
    go_enter Tryz.func51, Tryz.ntmps51
    go_wp2_with fail
    refine (cK _).mono ?_
    rintro e w1 ⟨rfl, rfl⟩
    go_wp2_with fail
    refine bodyPost_ret (v := .tuple #[aggE ⟨#[]⟩ false 0 0 ⟨#[]⟩ (.slice none 0 0) (.slice none 0 0) (.slice none 0 0), .int .i64 0, .int .i64 2]) (by simp [results, Tryz.results51, go_sem, r0, r1, r2, r3, r4, r5, r6, r7]) rfl ?_
    rw [HL.out]
    refine ⟨?_, _, _, rfl⟩
    repeat (first | with_reducible refine Below.alloc ?_ (by simp; omega) _ | with_reducible refine Below.setCell ?_ (by simp) _)
    exact hb0
  · rw [if_neg h0] at cK hE
    have HKn : Hid ((s.data.toList.take n).length = n) := Lib.hid (by rw [List.length_take, ← Lib.size_eq]; omega)
    generalize hKey : s.data.toList.take n = K at *
    clear hKey
    unfold valM at hE
    rw [List.drop_drop] at hE
    by_cases h61 : (s.data.toList.drop n).head? = some 61
    · have hns : n < s.size := by
        by_cases h : n < s.size
        · exact h
        · rw [List.drop_of_length_le (by rw [← Lib.size_eq]; omega)] at h61
          cases h61
      rw [if_pos h61] at hE
      have e61 : (((s[n]'hns).toNat : Int) == 61) = true := by simpa using (head_is s n hns 61).1 h61
      have hxd : (s.extract (n + 1) s.size).data.toList = s.data.toList.drop (n + 1) := Lib.extract_to_end s (n + 1)
      have hxs : (s.extract (n + 1) s.size).size = s.size - (n + 1) := by rw [Lib.size_eq, hxd, List.length_drop, ← Lib.size_eq]
      have cM := fun W => rmember_any (s.extract (n + 1) s.size) W (by omega)
      rw [hxd, hxs] at cM
      have j1 : (n : Int) + 1 ≤ (s.size : Int) := by omega
      clear h61 hxd hxs h0
      cases hm : memL (s.data.toList.drop (n + 1)) with
      | none =>
        have HL : Hid (entK true s.data.toList = none) := Lib.hid (by rw [hE, hm])
        rw [hm] at cM
        clear hm hE
        go_enter Tryz.func51, Tryz.ntmps51
        go_wp2_with fail
        refine (cK _).mono ?_
        rintro e w1 ⟨rfl, rfl⟩
        go_wp2_with fail
        refine (cM _).mono ?_
        rintro e w1 ⟨hb1, rfl⟩
        have hR1 := HR0.out.next (by simpa using hb1)
        have hB1 := hb0.trans (hb1.mono hb0.size)
        have hlt := hR1.lt
        obtain ⟨r0, r1, r2, r3, r4, r5, r6, r7, g0, g1, g2, g3, g4, g5, g6, g7⟩ := hR1
        clear hb1 cM cK
        go_wp2_with fail
        refine bodyPost_ret (v := .tuple #[aggE (strB K) false 0 0 ⟨#[]⟩ (.slice none 0 0) (.slice none 0 0) (.slice none 0 0), .int .i64 ((n : Int) + 1), .int .i64 2]) (by simp [results, Tryz.results51, go_sem, r0, r1, r2, r3, r4, r5, r6, r7, hlt]) rfl ?_
        rw [HL.out]
        refine ⟨?_, _, _, rfl⟩
        repeat (first | with_reducible refine Below.alloc ?_ (by simp; omega) _ | with_reducible refine Below.setCell ?_ (by simp) _)
        exact hB1
      | some x =>
        obtain ⟨M, r⟩ := x
        have hrl := memL_le _ _ _ hm
        rw [List.length_drop, ← Lib.size_eq] at hrl
        have HL : Hid (entK true s.data.toList = some (⟨K, M⟩, r)) := Lib.hid (by rw [hE, hm])
        rw [hm] at cM
        obtain ⟨z, hz⟩ : ∃ z, s.size - (n + 1) - r.length = z := ⟨_, rfl⟩
        have HZ1 := Lib.hid hz
        have hz2 : z ≤ s.size - (n + 1) := by omega
        have HZ : Hid (s.size - r.length = n + 1 + z) := Lib.hid (by omega)
        clear hm hE hz hrl
        go_enter Tryz.func51, Tryz.ntmps51
        go_wp2_with fail
        refine (cK _).mono ?_
        rintro e w1 ⟨rfl, rfl⟩
        go_wp2_with fail
        refine (cM _).mono ?_
        rintro e w1 ⟨hb1, v, h1, hv⟩
        rw [HZ1.out] at h1
        subst h1
        have hR1 := HR0.out.next (by simpa using hb1)
        have hB1 := hb0.trans (hb1.mono hb0.size)
        have hlt := hR1.lt
        obtain ⟨r0, r1, r2, r3, r4, r5, r6, r7, g0, g1, g2, g3, g4, g5, g6, g7⟩ := hR1
        obtain ⟨u, vi, vp, rfl, hu, hvi, hvp⟩ := hv
        obtain ⟨ao1, cap1, rfl⟩ := hu.form
        obtain ⟨ao2, cap2, rfl⟩ := hvi.form
        obtain ⟨ao3, cap3, rfl⟩ := hvp.form
        have HU := Lib.hid (hu.low (show w.heap.size + 1 ≤ _ by simp))
        have HV := Lib.hid (hvi.low (show w.heap.size + 1 ≤ _ by simp))
        have HW := Lib.hid (hvp.low (show w.heap.size + 1 ≤ _ by simp))
        clear hb1 cM cK hu hvi hvp
        go_wp2_with fail
        refine bodyPost_ret (v := .tuple #[aggE (strB K) M.inner M.it.k M.it.n (strB M.it.s) (.slice ao1 M.it.ps.length cap1) (.slice ao2 M.its.length cap2) (.slice ao3 M.ps.length cap3), .int .i64 ((n + 1 + z : Nat) : Int), .int .i64 0]) (by simp [results, Tryz.results51, go_sem, r0, r1, r2, r3, r4, r5, r6, r7, hlt]) rfl ?_
        rw [HL.out]
        refine ⟨?_, _, by rw [HZ.out] <;> rfl, .slice ao1 M.it.ps.length cap1, .slice ao2 M.its.length cap2, .slice ao3 M.ps.length cap3, rfl, (HU.out.moved (c := w.heap.size) ?_ (Nat.lt_succ_self _)).low (Nat.le_succ _), (HV.out.moved (c := w.heap.size) ?_ (Nat.lt_succ_self _)).low (Nat.le_succ _), (HW.out.moved (c := w.heap.size) ?_ (Nat.lt_succ_self _)).low (Nat.le_succ _)⟩
        · repeat (first | with_reducible refine Below.alloc ?_ (by simp; omega) _ | with_reducible refine Below.setCell ?_ (by simp) _)
          exact hB1
        all_goals
          repeat (first | with_reducible refine Moved.drew1 ?_ | with_reducible refine Moved.alloc ?_ _ | with_reducible refine Moved.setCell ?_ _)
          exact Moved.refl _ _
    · rw [if_neg h61] at hE
      have hxd : (s.extract n s.size).data.toList = s.data.toList.drop n := Lib.extract_to_end s n
      have cP := fun W => rparams_any (s.extract n s.size) W (by rw [Lib.size_eq, hxd, List.length_drop, ← Lib.size_eq]; omega)
      rw [hxd] at cP
      have j1 : (n : Int) ≤ (s.size : Int) := by omega
      have hcase : (¬ n < s.size) ∨ ∃ h : n < s.size, (((s[n]'h).toNat : Int) == 61) = false := by
        by_cases h : n < s.size
        · exact .inr ⟨h, by simpa using fun e => h61 ((head_is s n h 61).2 e)⟩
        · exact .inl h
      clear h61 hxd h0
      cases hps : psL (s.data.toList.drop n) [] 0 with
      | none =>
        have HL : Hid (entK true s.data.toList = none) := Lib.hid (by rw [hE, hps])
        rw [hps] at cP
        clear hps hE
        rcases hcase with q1 | ⟨q1, q2⟩
        all_goals
          go_enter Tryz.func51, Tryz.ntmps51
          go_wp2_with fail
          refine (cK _).mono ?_
          rintro e w1 ⟨rfl, rfl⟩
          go_wp2_with fail
          refine (cP _).mono ?_
          rintro e w1 ⟨hb1, rfl⟩
          have hR1 := HR0.out.next (by simpa using hb1)
          have hB1 := hb0.trans (hb1.mono hb0.size)
          have hlt := hR1.lt
          obtain ⟨r0, r1, r2, r3, r4, r5, r6, r7, g0, g1, g2, g3, g4, g5, g6, g7⟩ := hR1
          clear hb1 cP cK
          go_wp2_with fail
          refine bodyPost_ret (v := .tuple #[aggE ⟨#[]⟩ false 0 0 ⟨#[]⟩ (.slice none 0 0) (.slice none 0 0) (.slice none 0 0), .int .i64 0, .int .i64 2]) (by simp [results, Tryz.results51, go_sem, r0, r1, r2, r3, r4, r5, r6, r7]) rfl ?_
          rw [HL.out]
          refine ⟨?_, _, _, rfl⟩
          repeat (first | with_reducible refine Below.alloc ?_ (by simp; omega) _ | with_reducible refine Below.setCell ?_ (by simp) _)
          exact hB1
      | some y =>
        obtain ⟨ps, m⟩ := y
        have hm := psL_le _ _ _ _ _ _ (Nat.le_refl _) hps
        rw [List.length_drop, ← Lib.size_eq, Nat.zero_add] at hm
        have HL : Hid (entK true s.data.toList = some (⟨K, ⟨false, ⟨6, 1, [], ps⟩, [], []⟩⟩, s.data.toList.drop (n + m))) := Lib.hid (by rw [hE, hps]; dsimp only; rw [List.drop_drop])
        have HZ : Hid (s.size - (s.data.toList.drop (n + m)).length = n + m) := Lib.hid (by rw [List.length_drop, ← Lib.size_eq]; omega)
        rw [hps] at cP
        clear hps hE
        rcases hcase with q1 | ⟨q1, q2⟩
        all_goals
          go_enter Tryz.func51, Tryz.ntmps51
          go_wp2_with fail
          refine (cK _).mono ?_
          rintro e w1 ⟨rfl, rfl⟩
          go_wp2_with fail
          refine (cP _).mono ?_
          rintro e w1 ⟨hb1, v1, rfl, ho⟩
          have hR1 := HR0.out.next (by simpa using hb1)
          have hB1 := hb0.trans (hb1.mono hb0.size)
          have hlt := hR1.lt
          obtain ⟨r0, r1, r2, r3, r4, r5, r6, r7, g0, g1, g2, g3, g4, g5, g6, g7⟩ := hR1
          obtain ⟨ao, cap, rfl⟩ := owns_form ho
          have HU : Hid (PrmsOff (w.heap.size + 1) none w1 (.slice ao ps.length cap) ps) := Lib.hid (PrmsOff.made ho (by simp) (fun g e => by cases e))
          clear hb1 cP cK ho
          go_wp2_with fail
          refine bodyPost_ret (v := .tuple #[aggE (strB K) false 6 1 ⟨#[]⟩ (.slice ao ps.length cap) (.slice none 0 0) (.slice none 0 0), .int .i64 ((n + m : Nat) : Int), .int .i64 0]) (by simp [results, Tryz.results51, go_sem, r0, r1, r2, r3, r4, r5, r6, r7]) rfl ?_
          rw [HL.out]
          refine ⟨?_, _, by rw [HZ.out] <;> rfl, .slice ao ps.length cap, .slice none 0 0, .slice none 0 0, rfl, (HU.out.moved (c := w.heap.size) ?_ (Nat.lt_succ_self _)).low (Nat.le_succ _), ⟨none, 0, rfl, .inl rfl⟩, ⟨none, 0, rfl, .inl rfl⟩⟩
          · repeat (first | with_reducible refine Below.alloc ?_ (by simp; omega) _ | with_reducible refine Below.setCell ?_ (by simp) _)
            exact hB1
          · repeat (first | with_reducible refine Moved.drew1 ?_ | with_reducible refine Moved.alloc ?_ _ | with_reducible refine Moved.setCell ?_ _)
            exact Moved.refl _ _

theorem rentry_any (s : ByteArray) (keys : Bool) (w : World) (hs : s.size ≤ 100000) :
    Calls Tryz.prog 51 #[.string s, .bool keys] w (rentPost (entK keys s.data.toList) s.size w) := by
  cases keys
  · exact rent_off s w hs
  · exact rent_on s w hs

end Go.Proofs.YtjbipplaacgnkaaGreatDoor

namespace Go.Proofs.YtjbipplaacgnkaaGreatDoor
open Go.RowKit Go.Maps

theorem ItmsOff.other {lo g : Nat} {w w' : World} {v : Value} {xs : List Itm} (h : ItmsOff lo (some g) w v xs) (hm : Moved g w w') : ItmsOff lo (some g) w' v xs := by
  obtain ⟨ao, cap, hv, hh⟩ := h
  rcases hh with hh | ⟨b, off, h1, h0, h2, h3, h4⟩
  · exact ⟨ao, cap, hv, .inl hh⟩
  · have hbg : b ≠ g := fun e => h2 (by rw [e])
    refine ⟨ao, cap, hv, .inr ⟨b, off, h1, h0, h2, Nat.lt_of_lt_of_le h3 hm.size, fun j x hx => ?_⟩⟩
    obtain ⟨u, ⟨c0, c1, c2, c3⟩, hp⟩ := h4 j x hx
    have k : ∀ {i : Nat} {y : Value}, w.cell? ⟨b, i, none⟩ = some y → w'.cell? ⟨b, i, none⟩ = some y := fun {i y} hc => (hm.cell (p := ⟨b, i, none⟩) h3 hbg).trans hc
    exact ⟨u, ⟨k c0, k c1, k c2, k c3⟩, hp.other hm⟩

/-- An entry in the place of another one. -/
theorem OwnE.put {T : TypeId} {w : World} {base g cap i : Nat} {xs : List Ent} {x : Ent} {u u2 u3 : Value} (h : OwnG entR T w base (.slice (some ⟨g, 0, none⟩) xs.length cap) xs) (hi : i < xs.length) (hu : entR.F base (some g) w x (u, u2, u3)) :
    OwnG entR T ((((((((w.setCell ⟨g, i * 8, none⟩ (.string (strB x.key))).setCell ⟨g, i * 8 + 1, none⟩ (.bool x.val.inner)).setCell ⟨g, i * 8 + 2, none⟩ (.int .i64 x.val.it.k)).setCell ⟨g, i * 8 + 3, none⟩ (.int .i64 x.val.it.n)).setCell ⟨g, i * 8 + 4, none⟩ (.string (strB x.val.it.s))).setCell ⟨g, i * 8 + 5, none⟩ u).setCell ⟨g, i * 8 + 6, none⟩ u2).setCell ⟨g, i * 8 + 7, none⟩ u3) base (.slice (some ⟨g, 0, none⟩) xs.length cap) (xs.set i x) := by
  obtain ⟨us, h1, h2, h3⟩ := h
  have s0 := h2.stored (i * 8) (.string (strB x.key))
  have s1 := s0.1.stored (i * 8 + 1) (.bool x.val.inner)
  have s2 := s1.1.stored (i * 8 + 2) (.int .i64 x.val.it.k)
  have s3 := s2.1.stored (i * 8 + 3) (.int .i64 x.val.it.n)
  have s4 := s3.1.stored (i * 8 + 4) (.string (strB x.val.it.s))
  have s5 := s4.1.stored (i * 8 + 5) u
  have s6 := s5.1.stored (i * 8 + 6) u2
  have s7 := s6.1.stored (i * 8 + 7) u3
  have hm : Moved g w ((((((((w.setCell ⟨g, i * 8, none⟩ (.string (strB x.key))).setCell ⟨g, i * 8 + 1, none⟩ (.bool x.val.inner)).setCell ⟨g, i * 8 + 2, none⟩ (.int .i64 x.val.it.k)).setCell ⟨g, i * 8 + 3, none⟩ (.int .i64 x.val.it.n)).setCell ⟨g, i * 8 + 4, none⟩ (.string (strB x.val.it.s))).setCell ⟨g, i * 8 + 5, none⟩ u).setCell ⟨g, i * 8 + 6, none⟩ u2).setCell ⟨g, i * 8 + 7, none⟩ u3) := (((((((((Moved.refl g w).setCell _).setCell _).setCell _).setCell _).setCell _).setCell _).setCell _).setCell _)
  have hF : ∀ {y : Ent} {v : Value × Value × Value}, entR.F base (some g) w y v → entR.F base (some g) _ y v := fun {y v} hy => ⟨hy.1.other hm, hy.2.1.other hm, hy.2.2.other hm⟩
  refine ⟨us.set i (u, u2, u3), by rw [List.length_set, List.length_set]; exact h1, ?_, ?_⟩
  · rw [List.length_set, zip_set, rowG_set8 _ _ _ _ (by rw [List.length_zip, h1, Nat.min_self]; exact hi)]
    exact s7.1
  · intro k v y hv hy
    exact set_F (P := fun y v => entR.F base (some g) _ y v) (fun k v y hv hy => hF (h3 k v y hv hy)) (hF hu) k v y hv hy

/-- What is left of a text is its end. -/
theorem itsF_rest : ∀ (f : Nat) (l : List UInt8) (acc xs : List Itm) (r : List UInt8), itsF f l acc = some (xs, r) → ∃ k, k ≤ l.length ∧ r = l.drop k
  | 0, l, acc, xs, r, h => by cases h
  | f + 1, l, acc, xs, r, h => by
    by_cases h41 : l.head? = some 41
    · rw [itsF_end f l acc h41] at h
      obtain ⟨_, rfl⟩ := Prod.mk.inj (Option.some.inj h)
      exact ⟨1, by cases l with | nil => cases h41 | cons c l => simp, rfl⟩
    · cases hi : itmL l with
      | none => rw [itsF_none f l acc h41 hi] at h; cases h
      | some x =>
        obtain ⟨g, ps, m⟩ := x
        cases he : endI (l.drop m) with
        | false => rw [itsF_bad f l acc g ps m h41 hi he] at h; cases h
        | true =>
          rw [itsF_some f l acc g ps m h41 hi he] at h
          have hm := itmL_le l g ps m hi
          obtain ⟨k, hk, rfl⟩ := itsF_rest f _ _ _ _ h
          have h1 := spc_le (l.drop m)
          rw [List.length_drop] at h1
          rw [spD_drop, List.length_drop, List.length_drop] at hk
          exact ⟨m + spcL (l.drop m) + k, by omega, by rw [spD_drop, List.drop_drop, List.drop_drop]; congr 1; omega⟩
theorem mem_rest (l : List UInt8) (M : Mem) (r : List UInt8) (h : memL l = some (M, r)) : ∃ k, k ≤ l.length ∧ r = l.drop k := by
  unfold memL at h
  split at h
  · rename_i h40
    have hl1 : 1 ≤ l.length := by cases l with | nil => cases h40 | cons c l => simp
    unfold innL itsL at h
    cases hi : itsF ((l.drop 1).length + 1) (spD (l.drop 1)) [] with
    | none => rw [hi] at h; cases h
    | some x =>
      obtain ⟨xs, q⟩ := x
      rw [hi] at h
      dsimp only at h
      obtain ⟨k, hk, hq⟩ := itsF_rest _ _ _ _ _ hi
      have h1 := spc_le (l.drop 1)
      rw [List.length_drop] at h1
      rw [spD_drop, List.length_drop, List.length_drop] at hk
      cases hp : psL q [] 0 with
      | none => rw [hp] at h; cases h
      | some y =>
        obtain ⟨ps, m⟩ := y
        rw [hp] at h
        have p2 := psL_le _ _ _ _ _ _ (Nat.le_refl _) hp
        rw [hq, spD_drop, List.length_drop, List.length_drop, List.length_drop] at p2
        obtain ⟨_, rfl⟩ := Prod.mk.inj (Option.some.inj h)
        exact ⟨1 + spcL (l.drop 1) + k + m, by omega, by rw [hq, spD_drop, List.drop_drop, List.drop_drop, List.drop_drop]; congr 1; omega⟩
  · cases hi : itmL l with
    | none => rw [hi] at h; cases h
    | some x =>
      obtain ⟨g, ps, m⟩ := x
      rw [hi] at h
      obtain ⟨_, rfl⟩ := Prod.mk.inj (Option.some.inj h)
      exact ⟨m, itmL_le _ _ _ _ hi, rfl⟩
theorem entK_rest (keys : Bool) (l : List UInt8) (E : Ent) (r : List UInt8) (h : entK keys l = some (E, r)) : ∃ k, 1 ≤ k ∧ k ≤ l.length ∧ r = l.drop k := by
  have one : ∀ (l : List UInt8) (M : Mem) (r : List UInt8), memL l = some (M, r) → ∃ k, 1 ≤ k ∧ k ≤ l.length ∧ r = l.drop k := fun l M r h => by
    obtain ⟨k, hk, rfl⟩ := mem_rest l M r h
    have h2 := (mem_right l M _ h).2
    have h3 : 1 ≤ memsz M := by unfold memsz; omega
    rw [List.length_drop] at h2
    exact ⟨k, by omega, hk, rfl⟩
  cases keys
  · unfold entK at h
    rw [if_neg (by decide)] at h
    cases hm : memL l with
    | none => rw [hm] at h; cases h
    | some x =>
      obtain ⟨M, q⟩ := x
      rw [hm] at h
      obtain ⟨_, rfl⟩ := Prod.mk.inj (Option.some.inj h)
      exact one l M q hm
  · unfold entK at h
    rw [if_pos rfl] at h
    unfold entL at h
    split at h
    · cases h
    · rename_i h0
      have hkl := klen_le l
      cases hv : valM (l.drop (klen l)) with
      | none => rw [hv] at h; cases h
      | some x =>
        obtain ⟨M, q⟩ := x
        rw [hv] at h
        dsimp only at h
        obtain ⟨_, rfl⟩ := Prod.mk.inj (Option.some.inj h)
        unfold valM at hv
        split at hv
        · rename_i h61
          have hl1 : 1 ≤ (l.drop (klen l)).length := by
            cases hd : l.drop (klen l) with
            | nil => rw [hd] at h61; cases h61
            | cons c q => simp
          rw [List.length_drop] at hl1
          obtain ⟨k, hk1, hk, rfl⟩ := one _ _ _ hv
          rw [List.length_drop, List.length_drop] at hk
          exact ⟨klen l + 1 + k, by omega, by omega, by rw [List.drop_drop, List.drop_drop]; congr 1; omega⟩
        · cases hp : psL (l.drop (klen l)) [] 0 with
          | none => rw [hp] at hv; cases hv
          | some y =>
            obtain ⟨ps, m⟩ := y
            rw [hp] at hv
            have p2 := psL_le _ _ _ _ _ _ (Nat.le_refl _) hp
            rw [List.length_drop] at p2
            obtain ⟨_, rfl⟩ := Prod.mk.inj (Option.some.inj hv)
            exact ⟨klen l + m, by omega, by omega, by rw [List.drop_drop]⟩
theorem entK_nil (keys : Bool) : entK keys [] = none := by cases keys <;> rfl

/-- What is kept of the entries that came. -/
def shK (keys : Bool) (l : List Ent) : List Ent := if keys then oeK l else l
theorem shK_on (l : List Ent) (E : Ent) : shK true (l ++ [E]) = putE (shK true l) E := by
  show oeK (l ++ [E]) = putE (oeK l) E
  unfold oeK
  rw [List.foldl_append]
  rfl
theorem shK_off (l : List Ent) (E : Ent) : shK false (l ++ [E]) = shK false l ++ [E] := rfl
theorem putE_len (acc : List Ent) (E : Ent) : (putE acc E).length ≤ acc.length + 1 := by
  unfold putE
  split
  · rw [List.length_set]; omega
  · simp
theorem shK_len (keys : Bool) : ∀ l : List Ent, (shK keys l).length ≤ l.length := by
  cases keys
  · intro l; exact Nat.le_refl _
  · intro l
    have : ∀ (es acc : List Ent), (es.foldl putE acc).length ≤ acc.length + es.length := by
      intro es
      induction es with
      | nil => intro acc; simp
      | cons e es ih =>
        intro acc
        have h1 := ih (putE acc e)
        have h2 := putE_len acc e
        rw [List.foldl_cons, List.length_cons]
        omega
    have h := this l []
    simpa [shK, oeK] using h
theorem shK_nodup (l : List Ent) : ((shK true l).map Ent.key).Nodup := foldE_nodup l [] (by simp)

end Go.Proofs.YtjbipplaacgnkaaGreatDoor
