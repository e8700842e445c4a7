/- The contract of members.Get. · The contract of members.PrintList. · The contracts of the document's own answers for one byte, and of its small functions (sculleryref01, sculleryref02). · The contract of the document's own Encode (sculleryref02). · The contract of the document's own answer to Right (sculleryref02). -/
import Derived.Test.YtjbipplaacgnkaaGreatDoorGN
import Derived.Test.YtjbipplaacgnkaaGreatDoorGO
import Derived.Test.YtjbipplaacgnkaaGreatDoorGM
import Derived.Test.YtjbipplaacgnkaaGreatDoorGE
import Derived.Deep.QuietTactic
import Derived.BigQuiet
import Derived.IntWalk

namespace Go.Proofs.YtjbipplaacgnkaaGreatDoor
open Go.RowKit Go.Maps

theorem MemAt.moved {lo c : Nat} {blk : Option Nat} {w w' : World} {M : Mem} {v : Value} (h : MemAt lo blk w M v) (hm : Moved c w w') (hc : c < lo) : MemAt lo blk w' M v := by
  obtain ⟨u, vi, vp, rfl, h1, h2, h3⟩ := h
  exact ⟨u, vi, vp, rfl, h1.moved hm hc, h2.moved hm hc, h3.moved hm hc⟩
theorem MemAt.low {lo lo' : Nat} {blk : Option Nat} {w : World} {M : Mem} {v : Value} (h : MemAt lo blk w M v) (hl : lo' ≤ lo) : MemAt lo' blk w M v := by
  obtain ⟨u, vi, vp, rfl, h1, h2, h3⟩ := h
  exact ⟨u, vi, vp, rfl, h1.low hl, h2.low hl, h3.low hl⟩
theorem MemIn.sm {N : Nat} {M : Mem} (h : MemIn N M) (hN : N ≤ 100000) : MemSm M :=
  ⟨by have := szN_len M.it.ps; have := h.ip; omega, by have := h.len; omega, fun x hx => by have := szN_len x.ps; have := (h.its x hx).1; omega, by have := szN_len M.ps; have := h.ps; omega⟩

/-- The member of the first entry of a key. -/
def getM (es : List Ent) (k : List UInt8) : Option Mem := match es with
  | [] => none
  | e :: es => if (strB e.key).toList == (strB k).toList then some e.val else getM es k
def getPost (o : Option Mem) (w : World) (e : Ending) (w' : World) : Prop :=
  Below w.heap.size w w' ∧ match o with
    | none => e = .returned (.tuple #[noMem, .bool false])
    | some M => ∃ v, e = .returned (.tuple #[v, .bool true]) ∧ MemAt w.heap.size none w' M v

set_option maxRecDepth 100000 in
set_option maxHeartbeats 2000000 in
theorem get_any (v : Value) (es : List Ent) (k : List UInt8) (w : World) (h : GOff entR 0 none w v es) (hl : es.length ≤ 100000) (hk : ∀ p ∈ es, MemSm p.val) :
    Calls Tryz.prog 16 #[v, .string (strB k)] w (getPost (getM es k) w) := by
  obtain ⟨ao, cap, rfl, hc⟩ := h
  have HK := Lib.hid hk
  have HC := Lib.hid hc
  have HB0 : Hid (Below (w.heap.size + 1) (w.alloc zeroMem) (w.alloc zeroMem)) := Lib.hid (Below.refl _ _)
  clear hk hc
  go_enter Tryz.func16, Tryz.ntmps16
  go_wp2_with fail
  go_loopw [10] (fun i wr => ∃ (j : Nat), i = .int .i64 j ∧ j ≤ es.length ∧ Hid (getM es k = getM (es.drop j) k) ∧ Below (w.heap.size + 1) (w.alloc zeroMem) wr) (fun i _ => es.length - (intOf i).toNat)
  case atStart => exact ⟨0, rfl, Nat.zero_le _, Lib.hid rfl, HB0.out⟩
  case round =>
    obtain ⟨j, rfl, hj, HG, hkb⟩ := hrel
    clear HB0
    have hR := (ResM.made w).next hkb
    have hRl := hR.lt
    have hb : Below w.heap.size w wr := ((Below.refl w.heap.size w).alloc (Nat.le_refl _) zeroMem).trans (Below.mono hkb (by omega))
    by_cases hlt : j < es.length
    · rcases HC.out with hnil | ⟨c, off, rfl, _, _, hcl, hcell⟩
      · exfalso
        rw [hnil] at hlt
        simp at hlt
      · obtain ⟨p, hp⟩ : ∃ p, es[j]? = some p := ⟨_, List.getElem?_eq_getElem hlt⟩
        obtain ⟨⟨u, u2, u3⟩, hcs, hF⟩ := hcell j p hp
        have HF := Lib.hid hF
        obtain ⟨au, cu, rfl⟩ := hF.1.form
        obtain ⟨av, cv, rfl⟩ := hF.2.1.form
        obtain ⟨aw, cw, rfl⟩ := hF.2.2.form
        have q0 := hcs 0 (by decide)
        have q1 := hcs 1 (by decide)
        have q2 := hcs 2 (by decide)
        have q3 := hcs 3 (by decide)
        have q4 := hcs 4 (by decide)
        have q5 := hcs 5 (by decide)
        have q6 := hcs 6 (by decide)
        have q7 := hcs 7 (by decide)
        have hck : ∀ i, wr.cell? ⟨c, i, none⟩ = w.cell? ⟨c, i, none⟩ := fun i => hb.cell (p := ⟨c, i, none⟩) hcl
        have a0 := (hck _).trans q0
        have a1 := (hck _).trans q1
        have a2 := (hck _).trans q2
        have a3 := (hck _).trans q3
        have a4 := (hck _).trans q4
        have a5 := (hck _).trans q5
        have a6 := (hck _).trans q6
        have a7 := (hck _).trans q7
        simp only [Nat.add_zero, entR, memR, List.getElem?_cons_zero, List.getElem?_cons_succ] at a0 a1 a2 a3 a4 a5 a6 a7
        rw [drop_at es j p hp, getM] at HG
        have hbA : Below wr.heap.size wr (wr.alloc (entO (strB p.key) p.val.inner p.val.it.k p.val.it.n (strB p.val.it.s) (.slice au p.val.it.ps.length cu) (.slice av p.val.its.length cv) (.slice aw p.val.ps.length cw))) := (Below.refl _ _).alloc (Nat.le_refl _) _
        have hbw := hb.trans (hbA.mono hb.size)
        have cM := memberCopy_any p.val _ _ (show MemAt 0 none (wr.alloc (entO (strB p.key) p.val.inner p.val.it.k p.val.it.n (strB p.val.it.s) (.slice au p.val.it.ps.length cu) (.slice av p.val.its.length cv) (.slice aw p.val.ps.length cw))) p.val (aggM p.val.inner p.val.it.k p.val.it.n (strB p.val.it.s) (.slice au p.val.it.ps.length cu) (.slice av p.val.its.length cv) (.slice aw p.val.ps.length cw)) from ⟨_, _, _, rfl, HF.out.1.below hbw, HF.out.2.1.below hbw, HF.out.2.2.below hbw⟩) (HK.out p (List.mem_of_getElem? hp))
        have HKA := Lib.hid (hkb.trans (hbA.mono (Nat.succ_le_of_lt hRl)))
        clear hcell q0 q1 q2 q3 q4 q5 q6 q7 hcs hF hck hp hR hkb hb hbw
        cases he : ((strB p.key).toList == (strB k).toList)
        · rw [he, if_neg (by simp)] at HG
          clear cM
          generalize strB p.key = PK at *
          generalize strB p.val.it.s = SB at *
          generalize strB k = KB at *
          go_wp2_with fail
          go_roundw
          case rel => exact ⟨j + 1, by go_num, by omega, Lib.hid HG.out, HKA.out⟩
          case measure => simp [intOf]; omega
        · rw [he, if_pos rfl] at HG
          generalize strB p.key = PK at *
          generalize hSB : strB p.val.it.s = SB at *
          have HSB := Lib.hid hSB
          clear hSB
          generalize strB k = KB at *
          go_wp2_with fail
          refine cM.mono ?_
          rintro e w2 ⟨hb2, v', rfl, hMA⟩
          have hkb2 := HKA.out.trans (hb2.mono (by simp; omega))
          have hR2 := (ResM.made w).next hkb2
          have hRl2 := hR2.lt
          have HB2 : Hid (Below w.heap.size w w2) := Lib.hid (((Below.refl w.heap.size w).alloc (Nat.le_refl _) zeroMem).trans (Below.mono hkb2 (by omega)))
          have HMA := Lib.hid hMA
          obtain ⟨u', vi', vp', rfl, h1, h2, h3⟩ := hMA
          obtain ⟨b1, c1, rfl⟩ := h1.form
          obtain ⟨b2, c2, rfl⟩ := h2.form
          obtain ⟨b3, c3, rfl⟩ := h3.form
          obtain ⟨r0, r1, r2, r3, r4, r5, r6, g0, g1, g2, g3, g4, g5, g6⟩ := hR2
          clear h1 h2 h3 hb2 hkb2 cM
          go_wp2_with fail
          have hm : Moved w.heap.size w2 (((((((w2.setCell ⟨w.heap.size, 0, none⟩ (.bool p.val.inner)).setCell ⟨w.heap.size, 1, none⟩ (.int .i64 p.val.it.k)).setCell ⟨w.heap.size, 2, none⟩ (.int .i64 p.val.it.n)).setCell ⟨w.heap.size, 3, none⟩ (.string (strB p.val.it.s))).setCell ⟨w.heap.size, 4, none⟩ (.slice b1 p.val.it.ps.length c1)).setCell ⟨w.heap.size, 5, none⟩ (.slice b2 p.val.its.length c2)).setCell ⟨w.heap.size, 6, none⟩ (.slice b3 p.val.ps.length c3)) := by
            repeat (first | with_reducible refine Moved.setCell ?_ _)
            exact Moved.refl _ _
          have hml := (HMA.out.moved hm (by simp; omega)).low (lo' := w.heap.size) (by simp; omega)
          refine bodyPost_ret (v := .tuple #[aggM p.val.inner p.val.it.k p.val.it.n (strB p.val.it.s) (.slice b1 p.val.it.ps.length c1) (.slice b2 p.val.its.length c2) (.slice b3 p.val.ps.length c3), .bool true]) (by simp [results, Tryz.results16, go_sem, r0, r1, r2, r3, r4, r5, r6]) rfl ?_
          rw [HG.out]
          refine ⟨?_, _, rfl, hml⟩
          repeat (first | with_reducible refine Below.setCell ?_ (by simp) _)
          exact HB2.out
    · obtain rfl : j = es.length := by omega
      have HN : Hid (getM es k = none) := Lib.hid (by rw [HG.out, List.drop_length] <;> rfl)
      obtain ⟨r0, r1, r2, r3, r4, r5, r6, g0, g1, g2, g3, g4, g5, g6⟩ := hR
      have HB := Lib.hid hb
      clear HG hkb hb
      go_wp2_with fail
      refine bodyPost_ret (v := .tuple #[noMem, .bool false]) (by simp [results, Tryz.results16, go_sem, r0, r1, r2, r3, r4, r5, r6]) rfl ?_
      rw [HN.out]
      refine ⟨?_, rfl⟩
      repeat (first | with_reducible refine Below.setCell ?_ (by simp) _)
      exact HB.out

end Go.Proofs.YtjbipplaacgnkaaGreatDoor

namespace Go.Proofs.YtjbipplaacgnkaaGreatDoor
open Go.RowKit Go.Maps

/-- The text of a list, if it may be. -/
def lsT (xs : List Mem) : Option (List UInt8) := jnGo memT [44, 32] true xs

set_option maxRecDepth 100000 in
set_option maxHeartbeats 1000000 in
theorem printList_any (v : Value) (xs : List Mem) (w : World) (h : GOff memR 0 none w v xs) (hl : xs.length ≤ 1000) (hk : ∀ x ∈ xs, MemOk x) (hT : ∀ x ∈ xs, ∀ t, memT x = some t → t.length ≤ 1000000000) (hA : Alph w) (hP : Pow w) :
    Calls Tryz.prog 19 #[v] w (printPost (textV (lsT xs)) w) := by
  have cJ := joinedM_any v xs [44, 32] w h hl hk (by decide) hT hA hP
  rw [show strB [44, 32] = ⟨#[44, 32]⟩ from rfl] at cJ
  obtain ⟨ao, cap, rfl, _⟩ := h
  clear hA hP hk hT
  cases hx : jnGo memT [44, 32] true xs with
  | none =>
    have HV : Hid (textV (lsT xs) = .tuple #[.string ⟨#[]⟩, .int .i64 2]) := Lib.hid (by rw [lsT, hx] <;> rfl)
    rw [hx, show textV none = .tuple #[.string ⟨#[]⟩, .int .i64 2] from rfl] at cJ
    go_enter Tryz.func19, Tryz.ntmps19
    go_wp2_with fail
    refine cJ.mono ?_
    rintro e w1 ⟨rfl, hb⟩
    go_wp2_with fail
    exact bodyPost_ret (v := .tuple #[.string ⟨#[]⟩, .int .i64 2]) (by simp [results, Tryz.results19, go_sem]) rfl ⟨by rw [HV.out], hb⟩
  | some t =>
    have HV : Hid (textV (lsT xs) = .tuple #[.string (strB t), .int .i64 0]) := Lib.hid (by rw [lsT, hx] <;> rfl)
    rw [hx, show textV (some t) = .tuple #[.string (strB t), .int .i64 0] from rfl] at cJ
    go_enter Tryz.func19, Tryz.ntmps19
    go_wp2_with fail
    refine cJ.mono ?_
    rintro e w1 ⟨rfl, hb⟩
    go_wp2_with fail
    exact bodyPost_ret (v := .tuple #[.string (strB t), .int .i64 0]) (by simp [results, Tryz.results19, go_sem]) rfl ⟨by rw [HV.out], hb⟩

end Go.Proofs.YtjbipplaacgnkaaGreatDoor

namespace Go.Proofs.YtjbipplaacgnkaaGreatDoor
open Go.RowKit

set_option maxHeartbeats 1000000 in
theorem rletter_any (c : Int) (w : World) :
    Calls Tryz.prog 152 #[.int .u8 c] w fun e w' => e = .returned (.bool (ltrI c || digI c)) ∧ w = w' := by
  have hd : (ltrI c || digI c) = ((decide (97 ≤ c) && decide (c ≤ 122)) || (decide (65 ≤ c) && decide (c ≤ 90)) || (decide (48 ≤ c) && decide (c ≤ 57))) := by
    simp only [ltrI, upI, lowI, digI]
    rw [Bool.or_comm (decide (65 ≤ c) && decide (c ≤ 90))]
  rw [hd]
  clear hd
  rcases (show c < 48 ∨ (48 ≤ c ∧ c ≤ 57) ∨ (57 < c ∧ c < 65) ∨ (65 ≤ c ∧ c ≤ 90) ∨ (90 < c ∧ c < 97) ∨ (97 ≤ c ∧ c ≤ 122) ∨ 122 < c by omega) with h | h | h | h | h | h | h
  all_goals
    have a1 : ∃ b, decide (97 ≤ c) = b := ⟨_, rfl⟩
    have a2 : ∃ b, decide (c ≤ 122) = b := ⟨_, rfl⟩
    have a3 : ∃ b, decide (65 ≤ c) = b := ⟨_, rfl⟩
    have a4 : ∃ b, decide (c ≤ 90) = b := ⟨_, rfl⟩
    have a5 : ∃ b, decide (48 ≤ c) = b := ⟨_, rfl⟩
    have a6 : ∃ b, decide (c ≤ 57) = b := ⟨_, rfl⟩
    obtain ⟨b1, h1⟩ := a1
    obtain ⟨b2, h2⟩ := a2
    obtain ⟨b3, h3⟩ := a3
    obtain ⟨b4, h4⟩ := a4
    obtain ⟨b5, h5⟩ := a5
    obtain ⟨b6, h6⟩ := a6
    cases b1 <;> cases b2 <;> cases b3 <;> cases b4 <;> cases b5 <;> cases b6 <;> first | (exfalso; simp only [decide_eq_true_eq, decide_eq_false_iff_not] at h1 h2 h3 h4 h5 h6; omega) | skip
    all_goals
      clear h
      go_enter Tryz.func152, Tryz.ntmps152
      go_wp2
      go_ret
      exact ⟨by rw [h1, h2, h3, h4, h5, h6]; rfl, rfl⟩

theorem mark_at (c : UInt8) (k : Nat) (h : k < 15) (e : marksL[k]'h = c) : markI c.toNat = true := by
  subst e
  have : ∀ j : Fin 15, markI (marksL[j.val]'j.isLt).toNat = true := by decide +kernel
  exact this ⟨k, h⟩

theorem mark_none (c : UInt8) (h : ∀ j (hj : j < 15), (marksL[j]'hj == c) = false) : markI c.toNat = false := by
  have hn : ∀ l : List UInt8, (∀ j (hj : j < l.length), (l[j] == c) = false) → Lib.indexByte l c = -1 := by
    intro l
    induction l with
    | nil => intro _; rfl
    | cons a r ih =>
      intro h
      have h0 := h 0 (by simp)
      have hr := ih (fun j hj => h (j + 1) (by simpa using hj))
      simp only [List.getElem_cons_zero] at h0
      rw [Lib.indexByte, h0, hr]
      rfl
  have e : (c.toNat : Int).toNat.toUInt8 = c := by simp
  unfold markI
  rw [e, hn marksL h]
  rfl

set_option maxHeartbeats 1000000 in
theorem rtchar_any (c : UInt8) (w : World) :
    Calls Tryz.prog 128 #[.int .u8 c.toNat] w fun e w' => e = .returned (.bool (tchI c.toNat)) ∧ w = w' := by
  have cL := rletter_any (c.toNat : Int) w
  go_enter Tryz.func128, Tryz.ntmps128
  go_wp2
  go_loop [4] (fun i => ∃ k : Nat, k ≤ 15 ∧ i = .int .i64 k ∧ Hid (∀ j (hj : j < 15), j < k → (marksL[j]'hj == c) = false)) (fun i => 15 - (intOf i).toNat)
  case atStart => exact ⟨0, by omega, rfl, Lib.hid (fun j _ h => by omega)⟩
  case round =>
    obtain ⟨k, hk, rfl, H⟩ := hrel
    by_cases hlt : k < 15
    · have hls : k < (⟨#[33, 35, 36, 37, 38, 39, 42, 43, 45, 46, 94, 95, 96, 124, 126]⟩ : ByteArray).size := hlt
      have hg : (⟨#[33, 35, 36, 37, 38, 39, 42, 43, 45, 46, 94, 95, 96, 124, 126]⟩ : ByteArray)[k]'hls = marksL[k]'hlt := rfl
      have B := byte_beq (marksL[k]'hlt) c
      cases he : (marksL[k]'hlt == c)
      · have hb : ((((⟨#[33, 35, 36, 37, 38, 39, 42, 43, 45, 46, 94, 95, 96, 124, 126]⟩ : ByteArray)[k]'hls).toNat : Int) == (c.toNat : Int)) = false := by rw [hg, B, he]
        have He := Lib.hid he
        clear hg B he
        go_wp2
        go_round
        case rel =>
          refine ⟨k + 1, by omega, by go_num, Lib.hid (fun j hj h => ?_)⟩
          by_cases e : j = k
          · subst e; exact He.out
          · exact H.out j hj (by omega)
        case measure => simp [intOf]; omega
      · have hb : ((((⟨#[33, 35, 36, 37, 38, 39, 42, 43, 45, 46, 94, 95, 96, 124, 126]⟩ : ByteArray)[k]'hls).toNat : Int) == (c.toNat : Int)) = true := by rw [hg, B, he]
        have Hm := Lib.hid (mark_at c k hlt (by simpa using he))
        clear hg B he
        go_wp2
        go_ret
        exact ⟨ret_eq (bool_eq (by rw [tchI, Hm.out, Bool.or_true])), rfl⟩
    · have Hm := Lib.hid (mark_none c (fun j hj => H.out j hj (by omega)))
      go_wp2_with (go_at_call 152; refine cL.mono ?_; rintro e w' ⟨rfl, rfl⟩)
      go_ret
      exact ⟨ret_eq (bool_eq (by rw [tchI, Hm.out, Bool.or_false])), rfl⟩


set_option maxHeartbeats 1000000 in
theorem falpha_any (c : Int) (w : World) :
    Calls Tryz.prog 111 #[.int .u8 c] w fun e w' => e = .returned (.bool (ltrI c)) ∧ w = w' := by
  have hd : ltrI c = ((decide (97 ≤ c) && decide (c ≤ 122)) || (decide (65 ≤ c) && decide (c ≤ 90))) := by
    simp only [ltrI, upI, lowI]
    rw [Bool.or_comm]
  rw [hd]
  clear hd
  rcases (show c < 65 ∨ (65 ≤ c ∧ c ≤ 90) ∨ (90 < c ∧ c < 97) ∨ (97 ≤ c ∧ c ≤ 122) ∨ 122 < c by omega) with h | h | h | h | h
  all_goals
    have a1 : ∃ b, decide (97 ≤ c) = b := ⟨_, rfl⟩
    have a2 : ∃ b, decide (c ≤ 122) = b := ⟨_, rfl⟩
    have a3 : ∃ b, decide (65 ≤ c) = b := ⟨_, rfl⟩
    have a4 : ∃ b, decide (c ≤ 90) = b := ⟨_, rfl⟩
    obtain ⟨b1, h1⟩ := a1
    obtain ⟨b2, h2⟩ := a2
    obtain ⟨b3, h3⟩ := a3
    obtain ⟨b4, h4⟩ := a4
    cases b1 <;> cases b2 <;> cases b3 <;> cases b4 <;> first | (exfalso; simp only [decide_eq_true_eq, decide_eq_false_iff_not] at h1 h2 h3 h4; omega) | skip
    all_goals
      clear h
      go_enter Tryz.func111, Tryz.ntmps111
      go_wp2
      go_ret
      exact ⟨by rw [h1, h2, h3, h4]; rfl, rfl⟩

set_option maxHeartbeats 400000 in
theorem fdigit_any (c : Int) (w : World) :
    Calls Tryz.prog 118 #[.int .u8 c] w fun e w' => e = .returned (.bool (digI c)) ∧ w = w' := by
  cases h1 : decide (48 ≤ c) <;> cases h2 : decide (c ≤ 57)
  all_goals
    have hd : digI c = (decide (48 ≤ c) && decide (c ≤ 57)) := rfl
    simp only [h1, h2, Bool.and_true, Bool.and_false] at hd
    rw [hd]
    clear hd
    go_enter Tryz.func118, Tryz.ntmps118
    go_wp2
    go_ret
    exact ⟨rfl, rfl⟩

set_option maxHeartbeats 1000000 in
theorem ftoken_any (c : UInt8) (w : World) :
    Calls Tryz.prog 110 #[.int .u8 c.toNat] w fun e w' => e = .returned (.bool (ttI c.toNat)) ∧ w = w' := by
  have cT := rtchar_any c w
  have hd : ttI c.toNat = (tchI c.toNat || ((c.toNat : Int) == 58) || ((c.toNat : Int) == 47)) := rfl
  generalize (c.toNat : Int) = x at *
  generalize tchI x = a at cT hd
  generalize ttI x = r at hd
  cases h1 : (x == 58) <;> cases h2 : (x == 47)
  all_goals
    rw [h1, h2] at hd
    subst hd
    cases a
    all_goals
      go_enter Tryz.func110, Tryz.ntmps110
      go_wp2_with (go_at_call 128; refine cT.mono ?_; rintro e w' ⟨rfl, rfl⟩)
      go_ret
      exact ⟨rfl, rfl⟩

/-- The alphabet as the document's own answer has it. -/
def alphB : ByteArray := ⟨alphL.toArray⟩
theorem alphB_at (n : Nat) (h : n < 64) : alphB.extract n (n + 1) = strB [alp n] := by
  have : ∀ i : Fin 64, alphB.extract i.val (i.val + 1) = strB [alp i.val] := by
    intro i
    have hi : i.val < alphB.size := i.isLt
    rw [one_at alphB i.val hi]
    congr 2
    rw [alp, List.getD_eq_getElem?_getD, List.getElem?_eq_getElem (by exact hi)]
    rfl
  exact this ⟨n, h⟩

set_option maxRecDepth 10000 in
set_option maxHeartbeats 400000 in
theorem fsign_any (n : Nat) (w : World) (h : n < 64) :
    Calls Tryz.prog 112 #[.int .i64 (n : Int)] w fun e w' => e = .returned (.string (strB [alp n])) ∧ w = w' := by
  have H := Lib.hid (alphB_at n h)
  go_enter Tryz.func112, Tryz.ntmps112
  go_wp2
  go_ret
  exact ⟨by rw [← H.out]; rfl, rfl⟩

/-- The place of a character in the alphabet; none: -1. -/
def pgo : List UInt8 → Nat → UInt8 → Int
  | [], _, _ => -1
  | x :: r, k, c => if x == c then (k : Int) else pgo r (k + 1) c
def placeI (c : UInt8) : Int := pgo alphL 0 c

set_option maxHeartbeats 1000000 in
theorem fplace_any (c : UInt8) (w : World) :
    Calls Tryz.prog 142 #[.int .u8 c.toNat] w fun e w' => e = .returned (.int .i64 (placeI c)) ∧ w = w' := by
  go_enter Tryz.func142, Tryz.ntmps142
  go_wp2
  go_loop [3] (fun i => ∃ k : Nat, k ≤ 64 ∧ i = .int .i64 k ∧ Hid (placeI c = pgo (alphL.drop k) k c)) (fun i => 64 - (intOf i).toNat)
  case atStart => exact ⟨0, by omega, rfl, Lib.hid rfl⟩
  case round =>
    obtain ⟨k, hk, rfl, H⟩ := hrel
    by_cases hlt : k < 64
    · have cS := fsign_any k w hlt
      have Hd := Lib.hid (alp_drop k hlt)
      have B : Hid ((((alp k).toNat : Int) == (c.toNat : Int)) = (alp k == c)) := Lib.hid (byte_beq _ _)
      have hone : (strB [alp k]).size = 1 := rfl
      have h0 : 0 < (strB [alp k]).size := by rw [hone]; decide
      have hat : (strB [alp k])[0]'h0 = alp k := rfl
      generalize strB [alp k] = S at *
      cases he : (((alp k).toNat : Int) == (c.toNat : Int))
      · have He := Lib.hid (B.out.symm.trans he)
        rw [← hat] at he
        clear hat
        go_wp2_with (go_at_call 112; refine cS.mono ?_; rintro e w' ⟨rfl, rfl⟩)
        go_round
        case rel => exact ⟨k + 1, by omega, by go_num, Lib.hid (by rw [H.out, Hd.out, pgo, He.out]; rfl)⟩
        case measure => simp [intOf]; omega
      · have He := Lib.hid (B.out.symm.trans he)
        rw [← hat] at he
        clear hat
        go_wp2_with (go_at_call 112; refine cS.mono ?_; rintro e w' ⟨rfl, rfl⟩)
        go_ret
        exact ⟨ret_eq (int_eq (by rw [H.out, Hd.out, pgo, He.out]; rfl)), rfl⟩
    · obtain rfl : k = 64 := by omega
      go_wp2
      go_ret
      exact ⟨ret_eq (int_eq (by rw [H.out]; rfl)), rfl⟩

set_option maxHeartbeats 1000000 in
theorem fdigits_any (s : ByteArray) (a : Nat) (w : World) (hs : s.size ≤ 100000) (ha : a ≤ s.size) :
    Calls Tryz.prog 140 #[.string s, .int .i64 (a : Int)] w fun e w' => e = .returned (.int .i64 ((ldig (s.data.toList.drop a)).length : Int)) ∧ w = w' := by
  go_enter Tryz.func140, Tryz.ntmps140
  go_wp2
  go_loop [5] (fun i => ∃ k : Nat, a + k ≤ s.size ∧ i = .int .i64 k ∧ Hid ((ldig (s.data.toList.drop a)).length = k + (ldig (s.data.toList.drop (a + k))).length)) (fun i => s.size - (intOf i).toNat)
  case atStart => exact ⟨0, by omega, rfl, Lib.hid (by simp)⟩
  case round =>
    obtain ⟨k, hk, rfl, H⟩ := hrel
    by_cases hlt : a + k < s.size
    · have Hdr := Lib.hid (drop_cons_at s (a + k) hlt)
      have cT := fdigit_any (s[a + k].toNat : Int) w
      cases hd : digI (s[a + k].toNat : Int)
      · have Hf : Hid ((ldig (s.data.toList.drop a)).length = k) := Lib.hid (by rw [H.out, Hdr.out, ldig, List.takeWhile_cons, hd]; simp)
        rw [hd] at cT
        clear hd H Hdr
        go_wp2_with (go_at_call 118; refine cT.mono ?_; rintro e w' ⟨rfl, rfl⟩)
        go_ret
        exact ⟨ret_eq (int_eq (by rw [Hf.out])), rfl⟩
      · have Hf := Lib.hid hd
        rw [hd] at cT
        clear hd
        go_wp2_with (go_at_call 118; refine cT.mono ?_; rintro e w' ⟨rfl, rfl⟩)
        go_round
        case rel => exact ⟨k + 1, by omega, by go_num, Lib.hid (by rw [show a + (k + 1) = a + k + 1 by omega, H.out, Hdr.out, ldig, List.takeWhile_cons, Hf.out, ldig]; simp; omega)⟩
        case measure => simp [intOf]; omega
    · have Hd : Hid (s.data.toList.drop (a + k) = []) := Lib.hid (List.drop_of_length_le (by rw [← Lib.size_eq]; omega))
      go_wp2
      go_ret
      exact ⟨ret_eq (int_eq (by rw [H.out, Hd.out]; simp [ldig])), rfl⟩

set_option maxHeartbeats 1000000 in
theorem fvalue_any (s : ByteArray) (w : World) (hs : s.size ≤ 15) (hall : s.data.toList.all (fun c => digI c.toNat) = true) :
    Calls Tryz.prog 141 #[.string s] w fun e w' => e = .returned (.int .i64 (numL s.data.toList)) ∧ w = w' := by
  have Hall := Lib.hid hall
  clear hall
  go_enter Tryz.func141, Tryz.ntmps141
  go_wp2
  go_loop [3, 4] (fun n i => ∃ k : Nat, k ≤ s.size ∧ i = .int .i64 k ∧ n = .int .i64 (numL (s.data.toList.take k))) (fun _ i => s.size - (intOf i).toNat)
  case atStart => exact ⟨0, by omega, rfl, rfl⟩
  case round =>
    obtain ⟨k, hk, rfl, rfl⟩ := hrel
    by_cases hlt : k < s.size
    · obtain ⟨n0, n1⟩ := numL_in (s.data.toList.take k) (by
        rw [List.all_eq_true]
        intro x hx
        exact List.all_eq_true.1 Hall.out x (List.mem_of_mem_take hx)) (by rw [List.length_take]; omega)
      have Hs : Hid (numL (s.data.toList.take (k + 1)) = 10 * numL (s.data.toList.take k) + ((s[k].toNat : Int)) - 48) := Lib.hid (by rw [take_snoc s k hlt, numL_snoc]; omega)
      have hd : digI (s[k].toNat : Int) = true := List.all_eq_true.1 Hall.out s[k] (Array.getElem_mem_toList hlt)
      obtain ⟨h48, h57⟩ := (digI_iff _).1 hd
      clear hd
      generalize numL (s.data.toList.take k) = m at n0 n1 Hs
      go_wp2
      go_round
      case rel => exact ⟨k + 1, by omega, by go_num, by rw [Hs.out]⟩
      case measure => simp [intOf]; omega
    · have Hk : Hid (s.data.toList.take k = s.data.toList) := Lib.hid (take_all s k (by omega))
      go_wp2
      go_ret
      exact ⟨ret_eq (int_eq (by rw [Hk.out])), rfl⟩

theorem digB_at (n : Nat) (h : n < 10) : (⟨#[48, 49, 50, 51, 52, 53, 54, 55, 56, 57]⟩ : ByteArray).extract n (n + 1) = strB (Lib.decDigits n) := by
  have : ∀ i : Fin 10, (⟨#[48, 49, 50, 51, 52, 53, 54, 55, 56, 57]⟩ : ByteArray).extract i.val (i.val + 1) = strB [UInt8.ofNat (48 + i.val)] := by decide +kernel
  rw [Lib.decDigits_one h]
  exact this ⟨n, h⟩

set_option maxRecDepth 100000 in
set_option maxHeartbeats 1000000 in
theorem fnumber_any (w : World) : ∀ (n : Nat), n < 1000000000000000000 →
    Calls Tryz.prog 88 #[.int .i64 (n : Int)] w fun e w' => e = .returned (.string (strB (Lib.decDigits n))) ∧ w = w' := by
  intro n
  induction n using Nat.strongRecOn with
  | _ n ih =>
    intro hn
    by_cases h : n < 10
    · have H := Lib.hid (digB_at n h)
      have hd : decide ((n : Int) < 10) = true := by simp; omega
      clear ih
      go_enter Tryz.func88, Tryz.ntmps88
      go_wp2
      go_ret
      exact ⟨by rw [← H.out]; rfl, rfl⟩
    · have hd : decide ((n : Int) < 10) = false := by simp; omega
      have c1 := ih (n / 10) (by omega) (by omega)
      have c2 := ih (n % 10) (by omega) (by omega)
      have H : Hid (strB (Lib.decDigits n) = strB (Lib.decDigits (n / 10)) ++ strB (Lib.decDigits (n % 10))) := Lib.hid (by
        rw [strB_append, Lib.decDigits_one (i := n % 10) (by omega), Lib.decDigits, dif_neg h])
      have q1 : (n : Int) / 10 = ((n / 10 : Nat) : Int) := by omega
      have q2 : (n : Int) % 10 = ((n % 10 : Nat) : Int) := by omega
      have l1 : (strB (Lib.decDigits (n / 10))).size ≤ 20 := by
        rw [strB_size, Lib.decDigits_length]; exact nDigits_lt 20 _ (by omega) (by omega)
      have l2 : (strB (Lib.decDigits (n % 10))).size ≤ 20 := by
        rw [strB_size, Lib.decDigits_length]; exact nDigits_lt 20 _ (by omega) (by omega)
      clear ih
      rw [H.out]
      clear H
      generalize strB (Lib.decDigits (n / 10)) = A at *
      generalize strB (Lib.decDigits (n % 10)) = B at *
      generalize n / 10 = m1 at q1 c1
      generalize n % 10 = m2 at q2 c2
      go_enter Tryz.func88, Tryz.ntmps88
      go_wp2_with fail
      refine c1.mono ?_
      rintro e w' ⟨rfl, rfl⟩
      go_wp2_with fail
      refine c2.mono ?_
      rintro e w' ⟨rfl, rfl⟩
      go_wp2_with fail
      go_ret
      exact ⟨rfl, rfl⟩

end Go.Proofs.YtjbipplaacgnkaaGreatDoor

namespace Go.Proofs.YtjbipplaacgnkaaGreatDoor
open Go.RowKit

def groupN (x y z : UInt8) : Nat := 65536 * x.toNat + 256 * y.toNat + z.toNat
theorem groupN_lt (x y z : UInt8) : groupN x y z < 16777216 := by
  have h1 := x.toNat_lt
  have h2 := y.toNat_lt
  have h3 := z.toNat_lt
  unfold groupN; omega

theorem list3 (t : ByteArray) (h : 3 ≤ t.size) : t.data.toList = t[0] :: t[1] :: t[2] :: t.data.toList.drop 3 := by
  have e0 := drop_cons_at t 0 (by omega)
  have e1 := drop_cons_at t 1 (by omega)
  have e2 := drop_cons_at t 2 (by omega)
  rw [List.drop_zero] at e0
  rw [← e2, ← e1]; exact e0

theorem cat4 (acc : List UInt8) (a b c d : UInt8) : strB acc ++ strB [a] ++ strB [b] ++ strB [c] ++ strB [d] = strB (acc ++ [a, b, c, d]) := by
  simp only [strB_append, List.append_assoc, List.cons_append, List.nil_append]

theorem wrap_sum2 (x y : UInt8) : wrap64 (wrap64 ((65536 : Int) * wrap64 (x.toNat : Int)) + wrap64 ((256 : Int) * wrap64 (y.toNat : Int))) = (65536 : Int) * (x.toNat : Int) + 256 * (y.toNat : Int) := by
  have b0 := x.toNat_lt
  have b1 := y.toNat_lt
  rw [IntWalk.wrap64_in (x.toNat : Int) (by omega), IntWalk.wrap64_in (y.toNat : Int) (by omega), IntWalk.wrap64_in ((65536 : Int) * (x.toNat : Int)) (by omega), IntWalk.wrap64_in ((256 : Int) * (y.toNat : Int)) (by omega)]
  exact IntWalk.wrap64_in _ (by omega)
theorem wrap_sum3 (x y z : UInt8) : wrap64 (wrap64 (wrap64 ((65536 : Int) * wrap64 (x.toNat : Int)) + wrap64 ((256 : Int) * wrap64 (y.toNat : Int))) + wrap64 (z.toNat : Int)) = (65536 : Int) * (x.toNat : Int) + 256 * (y.toNat : Int) + (z.toNat : Int) := by
  have b0 := x.toNat_lt
  have b1 := y.toNat_lt
  have b2 := z.toNat_lt
  rw [wrap_sum2, IntWalk.wrap64_in (z.toNat : Int) (by omega)]
  exact IntWalk.wrap64_in _ (by omega)

set_option maxRecDepth 100000 in
set_option maxHeartbeats 1000000 in
theorem fencode_any (s : ByteArray) (w : World) (hs : s.size ≤ 1000000) :
    Calls Tryz.prog 89 #[.string s] w fun e w' => e = .returned (.string (strB (encL s.data.toList))) ∧ Below w.heap.size w w' := by
  go_enter Tryz.func89, Tryz.ntmps89
  go_wp2
  go_loopw [0, 3] (fun x v wr => ∃ (t : ByteArray) (acc : List UInt8), x = .string t ∧ v = .string (strB acc) ∧ 3 * acc.length + 4 * t.size ≤ 4 * s.size ∧ t.size ≤ s.size ∧ Hid (encL s.data.toList = acc ++ encL t.data.toList) ∧ Below w.heap.size w wr) (fun x _ _ => strLen x)
  case atStart => exact ⟨s, [], rfl, rfl, by simp, by omega, Lib.hid rfl, Below.refl _ _⟩
  case round =>
    obtain ⟨t, acc, rfl, rfl, hle, hts, H, hb⟩ := hrel
    have haz : (strB acc).size ≤ 2000000 := by rw [strB_size]; omega
    by_cases h3 : 3 ≤ t.size
    · have Hl := Lib.hid (list3 t h3)
      have k0 : 0 < t.size := by omega
      have k1 : 1 < t.size := by omega
      have k2 : 2 < t.size := by omega
      have j0 : (0 : Int) < (t.size : Int) := by omega
      have j1 : (1 : Int) < (t.size : Int) := by omega
      have j2 : (2 : Int) < (t.size : Int) := by omega
      obtain ⟨N, hN⟩ : ∃ N : Nat, groupN t[0] t[1] t[2] = N := ⟨_, rfl⟩
      have hN2 : N < 16777216 := by rw [← hN]; exact groupN_lt _ _ _
      have Hsum : Hid ((65536 : Int) * (t[0].toNat : Int) + (256 : Int) * (t[1].toNat : Int) + (t[2].toNat : Int) = (N : Int)) := Lib.hid (by rw [← hN, groupN]; omega)
      have b0 := t[0].toNat_lt
      have b1 := t[1].toNat_lt
      have b2 := t[2].toNat_lt
      have W := Lib.hid (wrap_sum3 t[0] t[1] t[2])
      rw [Hsum.out] at W
      clear b0 b1 b2
      have HN := Lib.hid hN
      clear hN
      go_wp2_with fail
      go_quiet (fail)
      rw [W.out]
      obtain ⟨a, ha⟩ : ∃ a, N / 262144 = a := ⟨_, rfl⟩
      obtain ⟨b, hbb⟩ : ∃ b, N / 4096 % 64 = b := ⟨_, rfl⟩
      obtain ⟨c, hc⟩ : ∃ c, N / 64 % 64 = c := ⟨_, rfl⟩
      obtain ⟨d, hd⟩ : ∃ d, N % 64 = d := ⟨_, rfl⟩
      have He : Hid (encL s.data.toList = (acc ++ [alp a, alp b, alp c, alp d]) ++ encL (t.data.toList.drop 3)) := Lib.hid (by
        rw [H.out, Hl.out, encL, c0, c1, c2, c3]
        simp only [groupN] at HN
        rw [HN.out, ha, hbb, hc, hd, List.append_assoc]
        rfl)
      have Hx : Hid ((t.extract 3 t.size).data.toList = t.data.toList.drop 3) := Lib.hid (Lib.extract_to_end t 3)
      have Hxs : Hid ((t.extract 3 t.size).size + 3 = t.size) := Lib.hid (by rw [Lib.size_eq, Hx.out, List.length_drop, ← Lib.size_eq]; omega)
      have qa : (N : Int) / 262144 = (a : Int) := by omega
      have qb : (N : Int) / 4096 % 64 = (b : Int) := by omega
      have qc : (N : Int) / 64 % 64 = (c : Int) := by omega
      have qd : (N : Int) % 64 = (d : Int) := by omega
      have cA := fun W => fsign_any a W (by omega)
      have cB := fun W => fsign_any b W (by omega)
      have cC := fun W => fsign_any c W (by omega)
      have cD := fun W => fsign_any d W (by omega)
      have HS := Lib.hid (cat4 acc (alp a) (alp b) (alp c) (alp d))
      have z1 : (strB [alp a]).size = 1 := rfl
      have z2 : (strB [alp b]).size = 1 := rfl
      have z3 : (strB [alp c]).size = 1 := rfl
      have z4 : (strB [alp d]).size = 1 := rfl
      generalize strB [alp a] = A at *
      generalize strB [alp b] = B at *
      generalize strB [alp c] = C at *
      generalize strB [alp d] = D at *
      generalize hSe : strB acc = S at *
      have HSe := Lib.hid hSe
      clear ha hbb hc hd hSe H Hl Hsum HN
      go_wp2_with fail
      refine (cA _).mono ?_
      rintro e w' ⟨rfl, rfl⟩
      go_wp2_with fail
      refine (cB _).mono ?_
      rintro e w' ⟨rfl, rfl⟩
      go_wp2_with fail
      refine (cC _).mono ?_
      rintro e w' ⟨rfl, rfl⟩
      go_wp2_with fail
      refine (cD _).mono ?_
      rintro e w' ⟨rfl, rfl⟩
      go_wp2_with fail
      go_roundw
      case rel =>
        refine ⟨_, acc ++ [alp a, alp b, alp c, alp d], rfl, by rw [← HS.out], ?_, ?_, Lib.hid (by rw [Hx.out]; exact He.out), hb.trans ((below_drewN _ _).mono hb.size)⟩
        · have := Hxs.out; simp only [List.length_append, List.length_cons, List.length_nil]; omega
        · have := Hxs.out; omega
      case measure => have := Hxs.out; simp only [strLen]; omega
    · by_cases hz2 : t.size = 2
      · have k0 : 0 < t.size := by omega
        have k1 : 1 < t.size := by omega
        have Hl : Hid (t.data.toList = [t[0], t[1]]) := Lib.hid (by
          have e0 := drop_cons_at t 0 k0
          have e1 := drop_cons_at t 1 k1
          rw [List.drop_zero] at e0
          have e2 : t.data.toList.drop (1 + 1) = [] := List.drop_of_length_le (by rw [← Lib.size_eq]; omega)
          rw [e0, e1, e2])
        have j0 : (0 : Int) < (t.size : Int) := by omega
        have j1 : (1 : Int) < (t.size : Int) := by omega
        obtain ⟨N, hN⟩ : ∃ N : Nat, groupN t[0] t[1] 0 = N := ⟨_, rfl⟩
        have hN2 : N < 16777216 := by rw [← hN]; exact groupN_lt _ _ _
        have Hsum : Hid ((65536 : Int) * (t[0].toNat : Int) + (256 : Int) * (t[1].toNat : Int) = (N : Int)) := Lib.hid (by rw [← hN, groupN, z0]; omega)
        have b0 := t[0].toNat_lt
        have b1 := t[1].toNat_lt
        have W := Lib.hid (wrap_sum2 t[0] t[1])
        rw [Hsum.out] at W
        have g2 : ((t.size : Int) == 2) = true := by simp; omega
        have g1 : ((t.size : Int) == 1) = false := by simp; omega
        clear b0 b1
        have HN := Lib.hid hN
        have Hz2 := Lib.hid hz2
        clear hN hz2
        go_wp2_with fail
        go_quiet (fail)
        rw [W.out]
        obtain ⟨a, ha⟩ : ∃ a, N / 262144 = a := ⟨_, rfl⟩
        obtain ⟨b, hbb⟩ : ∃ b, N / 4096 % 64 = b := ⟨_, rfl⟩
        obtain ⟨c, hc⟩ : ∃ c, N / 64 % 64 = c := ⟨_, rfl⟩
        have He : Hid (encL s.data.toList = acc ++ [alp a, alp b, alp c, 61]) := Lib.hid (by
          rw [H.out, Hl.out, encL, c0, c1, c2]
          simp only [groupN] at HN
          rw [HN.out, ha, hbb, hc])
        have qa : (N : Int) / 262144 = (a : Int) := by omega
        have qb : (N : Int) / 4096 % 64 = (b : Int) := by omega
        have qc : (N : Int) / 64 % 64 = (c : Int) := by omega
        have cA := fun W => fsign_any a W (by omega)
        have cB := fun W => fsign_any b W (by omega)
        have cC := fun W => fsign_any c W (by omega)
        have HS := Lib.hid (cat4 acc (alp a) (alp b) (alp c) 61)
        rw [show strB [61] = (⟨#[61]⟩ : ByteArray) from rfl, ← He.out] at HS
        have z1 : (strB [alp a]).size = 1 := rfl
        have z2 : (strB [alp b]).size = 1 := rfl
        have z3 : (strB [alp c]).size = 1 := rfl
        generalize strB [alp a] = A at *
        generalize strB [alp b] = B at *
        generalize strB [alp c] = C at *
        generalize strB acc = S at *
        clear ha hbb hc H Hl Hsum HN He
        go_wp2_with fail
        refine (cA _).mono ?_
        rintro e w' ⟨rfl, rfl⟩
        go_wp2_with fail
        refine (cB _).mono ?_
        rintro e w' ⟨rfl, rfl⟩
        go_wp2_with fail
        refine (cC _).mono ?_
        rintro e w' ⟨rfl, rfl⟩
        go_wp2_with fail
        go_ret
        exact ⟨by rw [← HS.out]; rfl, hb.trans ((below_drewN _ _).mono hb.size)⟩
      · by_cases hz1 : t.size = 1
        · have k0 : 0 < t.size := by omega
          have Hl : Hid (t.data.toList = [t[0]]) := Lib.hid (by
            have e0 := drop_cons_at t 0 k0
            rw [List.drop_zero] at e0
            have e2 : t.data.toList.drop (0 + 1) = [] := List.drop_of_length_le (by rw [← Lib.size_eq]; omega)
            rw [e0, e2])
          obtain ⟨N, hN⟩ : ∃ N : Nat, groupN t[0] 0 0 = N := ⟨_, rfl⟩
          have hN2 : N < 16777216 := by rw [← hN]; exact groupN_lt _ _ _
          have hsum : (65536 : Int) * (t[0].toNat : Int) = (N : Int) := by rw [← hN, groupN, z0]; omega
          have b0 := t[0].toNat_lt
          have g2 : ((t.size : Int) == 2) = false := by simp; omega
          have g1 : ((t.size : Int) == 1) = true := by simp; omega
          have HN := Lib.hid hN
          have Hz1 := Lib.hid hz1
          clear hN hz1
          obtain ⟨a, ha⟩ : ∃ a, N / 262144 = a := ⟨_, rfl⟩
          obtain ⟨b, hbb⟩ : ∃ b, N / 4096 % 64 = b := ⟨_, rfl⟩
          have He : Hid (encL s.data.toList = acc ++ [alp a, alp b, 61, 61]) := Lib.hid (by
            rw [H.out, Hl.out, encL, c0, c1]
            simp only [groupN] at HN
            rw [HN.out, ha, hbb])
          have qa : (N : Int) / 262144 = (a : Int) := by omega
          have qb : (N : Int) / 4096 % 64 = (b : Int) := by omega
          have cA := fun W => fsign_any a W (by omega)
          have cB := fun W => fsign_any b W (by omega)
          have HS : Hid (strB acc ++ strB [alp a] ++ strB [alp b] ++ (⟨#[61, 61]⟩ : ByteArray) = strB (encL s.data.toList)) := Lib.hid (by
            rw [show (⟨#[61, 61]⟩ : ByteArray) = strB [61, 61] from rfl, He.out]
            simp only [strB_append, List.append_assoc, List.cons_append, List.nil_append])
          have z1 : (strB [alp a]).size = 1 := rfl
          have z2 : (strB [alp b]).size = 1 := rfl
          generalize strB [alp a] = A at *
          generalize strB [alp b] = B at *
          generalize strB acc = S at *
          clear ha hbb H Hl HN He
          go_wp2_with fail
          refine (cA _).mono ?_
          rintro e w' ⟨rfl, rfl⟩
          go_wp2_with fail
          refine (cB _).mono ?_
          rintro e w' ⟨rfl, rfl⟩
          go_wp2_with fail
          go_ret
          exact ⟨by rw [← HS.out]; rfl, hb⟩
        · have hz0 : t.size = 0 := by omega
          have He : Hid (strB acc = strB (encL s.data.toList)) := Lib.hid (by
            have e0 : t.data.toList = [] := List.eq_nil_of_length_eq_zero (by rw [← Lib.size_eq]; exact hz0)
            rw [H.out, e0, encL, List.append_nil])
          have g2 : ((t.size : Int) == 2) = false := by simp; omega
          have g1 : ((t.size : Int) == 1) = false := by simp; omega
          clear hz0 H
          go_wp2_with fail
          go_ret
          exact ⟨by rw [← He.out]; rfl, hb⟩

end Go.Proofs.YtjbipplaacgnkaaGreatDoor

namespace Go.Proofs.YtjbipplaacgnkaaGreatDoor
open Go.RowKit

theorem bt_tt (c : UInt8) (h : btI c.toNat = true) : ttI c.toNat = true := by
  have := all_bytes (fun c => !btI c.toNat || ttI c.toNat) (by decide +kernel) c
  rw [h] at this
  exact this

theorem btI_is (x : Int) : btI x = (ltrI x || x == 42) := rfl

theorem takeWhile_full (p : UInt8 → Bool) : ∀ l : List UInt8, l.all p = true → l.takeWhile p = l
  | [], _ => rfl
  | c :: l, h => by
    rw [List.all_cons, Bool.and_eq_true] at h
    rw [List.takeWhile_cons, h.1, takeWhile_full p l h.2]; rfl

/-- A text is a token just if it begins as one and all of it may stand in one. -/
theorem tlen_all (c : UInt8) (r : List UInt8) : (tlen (c :: r) == (c :: r).length) = ((c :: r).all (fun c => ttI c.toNat) && btI c.toNat) := by
  cases hb : btI c.toNat
  · rw [tlen, hb]; simp
  · have hc := bt_tt c hb
    rw [tlen, if_pos hb, List.all_cons, hc, Bool.true_and, Bool.and_true, List.length_cons]
    cases ha : r.all (fun c => ttI c.toNat)
    · have : (r.takeWhile (fun c => ttI c.toNat)).length ≠ r.length := by
        intro e
        rw [takeWhile_len _ r e] at ha; cases ha
      simp; omega
    · rw [takeWhile_full _ r ha]
      simp; omega

set_option maxRecDepth 100000 in
set_option maxHeartbeats 4000000 in
theorem fright_any (k n : Int) (s : ByteArray) (w : World) (hs : s.size ≤ 100000) :
    Calls Tryz.prog 87 #[.agg #[.int .i64 k, .int .i64 n, .string s]] w (rightPost (rightL k n s.data.toList) w) := by
  have hb1 : Below w.heap.size w (w.alloc (.cells #[.int .i64 k, .int .i64 n, .string s] 43)) := (Below.refl _ _).alloc (Nat.le_refl _) _
  by_cases h12 : k = 1 ∨ k = 2
  · obtain ⟨r, hr⟩ : ∃ r, rightL k n s.data.toList = r := ⟨_, rfl⟩
    rw [hr]
    rw [right_num k n _ h12, ← toList_emp, inNum] at hr
    rcases h12 with rfl | rfl
    all_goals
      cases h1 : s.toList.isEmpty <;> cases h2 : decide (-1000000000000000 < n) <;> cases h3 : decide (n < 1000000000000000)
      all_goals
        rw [h1, h2, h3] at hr
        simp only [Bool.and_true, Bool.and_false] at hr
        subst hr
        go_enter Tryz.func87, Tryz.ntmps87
        go_wp2
        go_ret
        exact ⟨rfl, (Below.refl _ _).alloc (Nat.le_refl _) _⟩
  · by_cases h6 : k = 6
    · subst h6
      obtain ⟨r, hr⟩ : ∃ r, rightL 6 n s.data.toList = r := ⟨_, rfl⟩
      rw [hr]
      rw [right_bool, ← toList_emp] at hr
      cases h1 : s.toList.isEmpty <;> cases h2 : (n == 0) <;> cases h3 : (n == 1)
      all_goals
        rw [h1, h2, h3] at hr
        simp only [Bool.and_true, Bool.and_false, Bool.or_true, Bool.or_false] at hr
        subst hr
        clear h12
        first
        | (exfalso; simp only [beq_iff_eq] at h2 h3; omega)
        | (go_enter Tryz.func87, Tryz.ntmps87
           go_wp2
           go_ret
           exact ⟨rfl, (Below.refl _ _).alloc (Nat.le_refl _) _⟩)
    · by_cases h3 : k = 3
      · subst h3
        rw [right_str]
        clear h12 h6
        go_enter Tryz.func87, Tryz.ntmps87
        go_wp2
        go_loop [3] (fun i => ∃ j : Nat, j ≤ s.size ∧ i = .int .i64 j ∧ Hid ((s.data.toList.take j).all (fun c => prI c.toNat) = true)) (fun i => s.size - (intOf i).toNat)
        case atStart => exact ⟨0, Nat.zero_le _, rfl, Lib.hid rfl⟩
        case round =>
          obtain ⟨j, hj, rfl, H⟩ := hrel
          by_cases hlt : j < s.size
          · by_cases g1 : (s[j]'hlt).toNat < 32
            · have Hf : Hid (prL s.data.toList = false) := Lib.hid (all_false_of (fun c => prI c.toNat) s j hlt (by simp [prI]; omega))
              go_wp2
              go_ret
              exact ⟨by rw [Hf.out, Bool.and_false]; rfl, hb1⟩
            · by_cases g2 : 126 < (s[j]'hlt).toNat
              · have Hf : Hid (prL s.data.toList = false) := Lib.hid (all_false_of (fun c => prI c.toNat) s j hlt (by simp [prI]; omega))
                go_wp2
                go_ret
                exact ⟨by rw [Hf.out, Bool.and_false]; rfl, hb1⟩
              · have Hn : Hid ((s.data.toList.take (j + 1)).all (fun c => prI c.toNat) = true) := Lib.hid (by
                  rw [all_snoc (fun c => prI c.toNat) s j hlt, H.out, Bool.true_and]; simp [prI]; omega)
                go_wp2
                go_round
                case rel => exact ⟨j + 1, by omega, by go_num, Lib.hid Hn.out⟩
                case measure => simp [intOf]; omega
          · have Hp : Hid (prL s.data.toList = true) := Lib.hid (by have := H.out; rw [take_all s j (by omega)] at this; exact this)
            go_wp2
            go_ret
            exact ⟨by rw [Hp.out, Bool.and_true]; rfl, hb1⟩
      · by_cases h4 : k = 4
        · subst h4
          rw [right_tok]
          have Hemp := Lib.hid (toList_emp s)
          clear h12 h6 h3
          go_enter Tryz.func87, Tryz.ntmps87
          go_wp2
          go_loop [4] (fun i => ∃ j : Nat, j ≤ s.size ∧ i = .int .i64 j ∧ Hid ((s.data.toList.take j).all (fun c => ttI c.toNat) = true)) (fun i => s.size - (intOf i).toNat)
          case atStart => exact ⟨0, Nat.zero_le _, rfl, Lib.hid rfl⟩
          case round =>
            obtain ⟨j, hj, rfl, H⟩ := hrel
            by_cases hlt : j < s.size
            · have cT := fun W => ftoken_any (s[j]'hlt) W
              cases hd : ttI ((s[j]'hlt).toNat : Int)
              · have Hf : Hid (s.data.toList.all (fun c => ttI c.toNat) = false) := Lib.hid (all_false_of (fun c => ttI c.toNat) s j hlt hd)
                rw [hd] at cT
                clear hd
                go_wp2_with (go_at_call 110; refine (cT _).mono ?_; rintro e w' ⟨rfl, rfl⟩)
                go_ret
                refine ⟨ret_eq (bool_eq ?_), hb1⟩
                have h0 : 0 < s.size := by omega
                have e0 := drop_cons_at s 0 h0
                rw [List.drop_zero] at e0
                have := Hf.out
                rw [e0] at this ⊢
                rw [tlen_all, this]; simp
              · have Hn : Hid ((s.data.toList.take (j + 1)).all (fun c => ttI c.toNat) = true) := Lib.hid (by
                  rw [all_snoc (fun c => ttI c.toNat) s j hlt, H.out, Bool.true_and]; exact hd)
                rw [hd] at cT
                clear hd
                go_wp2_with (go_at_call 110; refine (cT _).mono ?_; rintro e w' ⟨rfl, rfl⟩)
                go_round
                case rel => exact ⟨j + 1, by omega, by go_num, Lib.hid Hn.out⟩
                case measure => simp [intOf]; omega
            · have Hp : Hid (s.data.toList.all (fun c => ttI c.toNat) = true) := Lib.hid (by have := H.out; rw [take_all s j (by omega)] at this; exact this)
              clear H
              by_cases h0 : 0 < s.size
              · have hemp : s.toList.isEmpty = false := by rw [Lib.toList_data]; exact isEmpty_false_of s h0
                have HR : Hid ((n == 0 && (!s.data.toList.isEmpty && tlen s.data.toList == s.data.toList.length)) = (n == 0 && (ltrI ((s[0]'h0).toNat : Int) || ((s[0]'h0).toNat : Int) == 42))) := Lib.hid (by
                  rw [isEmpty_false_of s h0, Bool.not_false, Bool.true_and]
                  have e0 := drop_cons_at s 0 h0
                  rw [List.drop_zero] at e0
                  have := Hp.out
                  rw [e0] at this ⊢
                  rw [tlen_all, this, Bool.true_and, btI_is])
                have cA := fun W => falpha_any ((s[0]'h0).toNat : Int) W
                clear Hp
                cases g1 : (n == 0) <;> cases g2 : ltrI ((s[0]'h0).toNat : Int) <;> cases g3 : (((s[0]'h0).toNat : Int) == 42)
                all_goals
                  rw [g1, g2, g3] at HR
                  rw [g2] at cA
                  clear g2
                  go_wp2_with (go_at_call 111; refine (cA _).mono ?_; rintro e w' ⟨rfl, rfl⟩)
                  go_ret
                  exact ⟨ret_eq (bool_eq (by first | exact HR.out.symm | (rw [g1] at HR; exact HR.out.symm) | (have := HR.out; simp_all))), hb1⟩
              · have hemp : s.toList.isEmpty = true := by
                  have : s.data.toList = [] := List.eq_nil_of_length_eq_zero (by rw [← Lib.size_eq]; omega)
                  rw [Lib.toList_data, this]; rfl
                have HR : Hid ((n == 0 && (!s.data.toList.isEmpty && tlen s.data.toList == s.data.toList.length)) = false) := Lib.hid (by
                  rw [← Hemp.out, hemp]; simp)
                clear Hp
                cases g1 : (n == 0)
                all_goals
                  go_wp2
                  go_ret
                  exact ⟨ret_eq (bool_eq (by first | exact HR.out.symm | (rw [g1] at HR; exact HR.out.symm) | (have := HR.out; simp_all))), hb1⟩
        · by_cases h5 : k = 5
          · subst h5
            rw [right_bytes]
            clear h12 h6 h3 h4
            cases h2 : (n == 0)
            all_goals
              go_enter Tryz.func87, Tryz.ntmps87
              go_wp2
              go_ret
              exact ⟨rfl, (Below.refl _ _).alloc (Nat.le_refl _) _⟩
          · have hr : rightL k n s.data.toList = false := by rw [rightL, if_neg h12, if_neg h6, if_neg h3, if_neg h4, if_neg h5]
            rw [hr]
            have g1 : (k == 1) = false := by simp; omega
            have g2 : (k == 2) = false := by simp; omega
            have g3 : (k == 3) = false := by simpa using h3
            have g4 : (k == 4) = false := by simpa using h4
            have g5 : (k == 5) = false := by simpa using h5
            have g6 : (k == 6) = false := by simpa using h6
            clear h12 h6 h3 h4 h5 hr
            go_enter Tryz.func87, Tryz.ntmps87
            go_wp2
            go_ret
            exact ⟨rfl, (Below.refl _ _).alloc (Nat.le_refl _) _⟩

end Go.Proofs.YtjbipplaacgnkaaGreatDoor
