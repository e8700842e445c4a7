/- The document's own item, yes, number (sculleryref11). -/
import Derived.Test.YtpifbgefkbhopaaGreatDoorZMMoP
import Derived.Test.YtpifbgefkbhopaaGreatDoorZMMemC
import Derived.Test.YtpifbgefkbhopaaGreatDoorZMBasP
import Derived.Test.YtpifbgefkbhopaaGreatDoorZMDirP
import Derived.WalkKit
import Derived.WalkSpells
import Derived.WalkLawsBesides

namespace Go.Proofs.YtpifbgefkbhopaaGreatDoor
open Go.RowKit Go.Lib

/-- What item answers. -/
def itmA : Option (Int × Int × List UInt8) → Value
  | none => .tuple #[.agg #[.int .i64 0, .int .i64 0, .string ⟨#[]⟩], .bool false]
  | some q => .tuple #[.agg #[.int .i64 q.1, .int .i64 q.2.1, .string (strB q.2.2)], .bool true]

set_option maxRecDepth 100000 in
set_option maxHeartbeats 4000000 in
theorem ritem_any (lo : Nat) (v : Value) (es : List Ent) (n : List UInt8) (w : World) (hv : GOff entR lo none w v es) (hok : es.length ≤ 100000) :
    Calls Tryz.prog 42 #[v, .string (strB n)] w fun e w' => e = .returned (itmA (bitR es n)) ∧ Below w.heap.size w w' := by
  obtain ⟨ao, cap, rfl, hc⟩ := hv
  have HC := Lib.hid hc
  clear hc
  have HX := Lib.hid (BoxD.made w (.int .i64 0) (.int .i64 0) (.string ⟨#[]⟩) 80)
  go_enter Tryz.func42, Tryz.ntmps42
  go_wp2_with fail
  go_loopw [6] (fun i wr => ∃ k : Nat, k ≤ es.length ∧ i = .int .i64 k ∧ Hid (bitR es n = bitR (es.drop k) n) ∧ wr = w.alloc (.cells #[.int .i64 0, .int .i64 0, .string ⟨#[]⟩] 80)) (fun i _ => es.length - (intOf i).toNat)
  case atStart => exact ⟨0, Nat.zero_le _, rfl, Lib.hid rfl, rfl⟩
  case round =>
    obtain ⟨k, hk, rfl, HA, rfl⟩ := hrel
    have hb : Below w.heap.size w (w.alloc (.cells #[.int .i64 0, .int .i64 0, .string ⟨#[]⟩] 80)) := (Below.refl _ _).alloc (Nat.le_refl _) _
    have HB := Lib.hid hb
    by_cases hlt : k < es.length
    · rcases HC.out with hnil | ⟨c, off, rfl, _, _, hcl, hcell⟩
      · exfalso
        rw [hnil] at hlt
        simp at hlt
      · obtain ⟨p, hp⟩ : ∃ p, es[k]? = some p := ⟨_, List.getElem?_eq_getElem hlt⟩
        have hdr : es.drop k = p :: es.drop (k + 1) := by
          rw [List.drop_eq_getElem_cons hlt]
          rw [List.getElem?_eq_getElem hlt] at hp
          rw [Option.some.inj hp]
        obtain ⟨u, hcs, _⟩ := hcell k p hp
        have x0 := hcs 0 (by decide)
        have x1 := hcs 1 (by decide)
        have x2 := hcs 2 (by decide)
        have x3 := hcs 3 (by decide)
        have x4 := hcs 4 (by decide)
        have a0 : (w.alloc (.cells #[.int .i64 0, .int .i64 0, .string ⟨#[]⟩] 80)).cell? ⟨c, off + k * 8, none⟩ = some (.string (strB p.key)) := (hb.cell (p := ⟨c, off + k * 8, none⟩) hcl).trans x0
        have a1 : (w.alloc (.cells #[.int .i64 0, .int .i64 0, .string ⟨#[]⟩] 80)).cell? ⟨c, off + k * 8 + 1, none⟩ = some (.bool p.val.inner) := (hb.cell (p := ⟨c, off + k * 8 + 1, none⟩) hcl).trans x1
        have a2 : (w.alloc (.cells #[.int .i64 0, .int .i64 0, .string ⟨#[]⟩] 80)).cell? ⟨c, off + k * 8 + 2, none⟩ = some (.int .i64 p.val.it.k) := (hb.cell (p := ⟨c, off + k * 8 + 2, none⟩) hcl).trans x2
        have a3 : (w.alloc (.cells #[.int .i64 0, .int .i64 0, .string ⟨#[]⟩] 80)).cell? ⟨c, off + k * 8 + 3, none⟩ = some (.int .i64 p.val.it.n) := (hb.cell (p := ⟨c, off + k * 8 + 3, none⟩) hcl).trans x3
        have a4 : (w.alloc (.cells #[.int .i64 0, .int .i64 0, .string ⟨#[]⟩] 80)).cell? ⟨c, off + k * 8 + 4, none⟩ = some (.string (strB p.val.it.s)) := (hb.cell (p := ⟨c, off + k * 8 + 4, none⟩) hcl).trans x4
        have hkI : (k : Int) < (es.length : Int) := by omega
        have hqe := name_eq p.key n
        obtain ⟨N, ⟨IN, ⟨K, M, S, ps⟩, its, ps2⟩⟩ := p
        dsimp only at a0 a1 a2 a3 a4 hqe
        have HZ := Lib.hid hcl
        clear hcs x0 x1 x2 x3 x4 hcell hp
        by_cases hN : N = n
        · rw [decide_eq_true hN.symm] at hqe
          cases IN
          · have HF : Hid (bitR es n = some (K, M, S)) := Lib.hid (by rw [HA.out, hdr, bitR, if_pos ⟨hN, rfl⟩])
            clear hN HA hdr
            generalize strB N = SN at *
            generalize strB n = SM at *
            obtain ⟨SS, hS⟩ : ∃ SS, strB S = SS := ⟨_, rfl⟩
            rw [hS] at a4
            have HS := Lib.hid hS
            clear hS
            obtain ⟨r0, r1, r2, g0, g1, g2⟩ := HX.out
            go_wp2_with fail
            refine bodyPost_ret (v := .tuple #[.agg #[.int .i64 K, .int .i64 M, .string SS], .bool true]) (by simp [results, Tryz.results42, go_sem]) rfl ⟨by rw [HF.out, itmA, HS.out], ?_⟩
            first | exact HB.out | exact (Below.refl w.heap.size w).alloc (Nat.le_refl _) _
          · have HN : Hid (bitR es n = bitR (es.drop (k + 1)) n) := Lib.hid (by rw [HA.out, hdr, bitR, if_neg (fun e => by cases e.2)])
            clear hN HA hdr
            generalize strB N = SN at *
            generalize strB n = SM at *
            go_wp2_with fail
            go_roundw
            case rel => exact ⟨k + 1, by omega, by go_num, HN, trivial⟩
            case measure => simp [intOf]; omega
        · rw [decide_eq_false (fun e => hN e.symm)] at hqe
          have HN : Hid (bitR es n = bitR (es.drop (k + 1)) n) := Lib.hid (by rw [HA.out, hdr, bitR, if_neg (fun e => hN e.1)])
          clear hN HA hdr
          generalize strB N = SN at *
          generalize strB n = SM at *
          go_wp2_with fail
          go_roundw
          case rel => exact ⟨k + 1, by omega, by go_num, HN, trivial⟩
          case measure => simp [intOf]; omega
    · have hkI : ¬ (k : Int) < (es.length : Int) := by omega
      have HF : Hid (bitR es n = none) := Lib.hid (by rw [HA.out, List.drop_of_length_le (by omega)]; rfl)
      obtain ⟨r0, r1, r2, g0, g1, g2⟩ := HX.out
      clear HA hb
      go_wp2_with fail
      refine bodyPost_ret (v := .tuple #[.agg #[.int .i64 0, .int .i64 0, .string ⟨#[]⟩], .bool false]) (by simp [results, Tryz.results42, go_sem]) rfl ⟨by rw [HF.out]; rfl, HB.out⟩

set_option maxRecDepth 100000 in
set_option maxHeartbeats 4000000 in
theorem ryes_any (lo : Nat) (v : Value) (es : List Ent) (n : List UInt8) (w : World) (hv : GOff entR lo none w v es) (hok : es.length ≤ 100000) :
    Calls Tryz.prog 21 #[v, .string (strB n)] w fun e w' => e = .returned (.bool (yesR es n)) ∧ Below w.heap.size w w' := by
  have cF := ritem_any lo v es n w hv hok
  obtain ⟨ao, cap, rfl, _⟩ := hv
  have HV : Hid (yesR es n = match bitR es n with | none => false | some q => decide (q.1 = 6) && decide (q.2.1 = 1)) := Lib.hid rfl
  generalize yesR es n = Y at *
  cases hf : bitR es n with
  | none =>
    rw [hf] at cF HV
    simp only [itmA] at cF
    have HH : Hid (Y = false) := Lib.hid HV.out
    clear hf HV
    go_enter Tryz.func21, Tryz.ntmps21
    go_wp2_with fail
    refine cF.mono ?_
    rintro e w1 ⟨rfl, hb1⟩
    have HB := Lib.hid (hb1.alloc hb1.size (.cells #[.int .i64 0, .int .i64 0, .string ⟨#[]⟩] 80))
    clear hb1 cF
    go_wp2_with fail
    refine bodyPost_ret (v := .bool false) (by simp [results, Tryz.results21, go_sem]) rfl ⟨by rw [HH.out], HB.out⟩
  | some q =>
    obtain ⟨K, M, S⟩ := q
    rw [hf] at cF HV
    simp only [itmA] at cF
    have HH : Hid (Y = (decide (K = 6) && decide (M = 1))) := Lib.hid HV.out
    clear hf HV
    obtain ⟨a, ha⟩ : ∃ a, decide (K = 6) = a := ⟨_, rfl⟩
    obtain ⟨b, hb⟩ : ∃ b, decide (M = 1) = b := ⟨_, rfl⟩
    have hka : (K == 6) = a := ha
    have hmb : (M == 1) = b := hb
    rw [ha, hb] at HH
    clear ha hb
    generalize strB S = SS at *
    cases a <;> cases b
    all_goals
      go_enter Tryz.func21, Tryz.ntmps21
      go_wp2_with fail
      refine cF.mono ?_
      rintro e w1 ⟨rfl, hb1⟩
      have HB := Lib.hid (hb1.alloc hb1.size (.cells #[.int .i64 K, .int .i64 M, .string SS] 80))
      clear hb1 cF
      go_wp2_with fail
      go_ret
      exact ⟨by rw [HH.out]; rfl, HB.out⟩

set_option maxRecDepth 100000 in
set_option maxHeartbeats 4000000 in
theorem rnum11_any (lo : Nat) (v : Value) (es : List Ent) (n : List UInt8) (w : World) (hv : GOff entR lo none w v es) (hok : es.length ≤ 100000) :
    Calls Tryz.prog 22 #[v, .string (strB n)] w fun e w' => e = .returned (.int .i64 (numR es n)) ∧ Below w.heap.size w w' := by
  have cF := ritem_any lo v es n w hv hok
  obtain ⟨ao, cap, rfl, _⟩ := hv
  have HV : Hid (numR es n = match bitR es n with | none => -1 | some q => if q.1 = 1 ∧ 0 ≤ q.2.1 then min q.2.1 2147483648 else -1) := Lib.hid rfl
  generalize numR es n = Y at *
  cases hf : bitR es n with
  | none =>
    rw [hf] at cF HV
    simp only [itmA] at cF
    have HH : Hid (Y = -1) := Lib.hid HV.out
    clear hf HV
    go_enter Tryz.func22, Tryz.ntmps22
    go_wp2_with fail
    refine cF.mono ?_
    rintro e w1 ⟨rfl, hb1⟩
    have HB := Lib.hid (hb1.alloc hb1.size (.cells #[.int .i64 0, .int .i64 0, .string ⟨#[]⟩] 80))
    clear hb1 cF
    go_wp2_with fail
    refine bodyPost_ret (v := .int .i64 (-1)) (by simp [results, Tryz.results22, go_sem]) rfl ⟨by rw [HH.out], HB.out⟩
  | some q =>
    obtain ⟨K, M, S⟩ := q
    rw [hf] at cF HV
    simp only [itmA] at cF
    have HH : Hid (Y = if K = 1 ∧ 0 ≤ M then min M 2147483648 else -1) := Lib.hid HV.out
    clear hf HV
    generalize strB S = SS at *
    by_cases h1 : K = 1
    · have k1 : (K != 1) = false := by rw [h1]; rfl
      by_cases h2 : 0 ≤ M
      · have HR : Hid (Y = min M 2147483648) := Lib.hid (by rw [HH.out, if_pos ⟨h1, h2⟩])
        have d2 : ¬ M < 0 := by omega
        clear HH h1 h2
        go_enter Tryz.func22, Tryz.ntmps22
        go_wp2_with fail
        refine cF.mono ?_
        rintro e w1 ⟨rfl, hb1⟩
        have HB := Lib.hid (hb1.alloc hb1.size (.cells #[.int .i64 K, .int .i64 M, .string SS] 80))
        clear hb1 cF
        go_wp2_with fail
        refine bodyPost_ret (v := .int .i64 (min M 2147483648)) (by simp [results, Tryz.results22, go_sem]) rfl ⟨by rw [HR.out], HB.out⟩
      · have HR : Hid (Y = -1) := Lib.hid (by rw [HH.out, if_neg (fun e => h2 e.2)])
        have d2 : M < 0 := by omega
        clear HH h1 h2
        go_enter Tryz.func22, Tryz.ntmps22
        go_wp2_with fail
        refine cF.mono ?_
        rintro e w1 ⟨rfl, hb1⟩
        have HB := Lib.hid (hb1.alloc hb1.size (.cells #[.int .i64 K, .int .i64 M, .string SS] 80))
        clear hb1 cF
        go_wp2_with fail
        refine bodyPost_ret (v := .int .i64 (-1)) (by simp [results, Tryz.results22, go_sem]) rfl ⟨by rw [HR.out], HB.out⟩
    · have k1 : (K != 1) = true := by rw [bne, beq_eq_false_iff_ne.2 h1]; rfl
      have HR : Hid (Y = -1) := Lib.hid (by rw [HH.out, if_neg (fun e => h1 e.1)])
      clear HH h1
      go_enter Tryz.func22, Tryz.ntmps22
      go_wp2_with fail
      refine cF.mono ?_
      rintro e w1 ⟨rfl, hb1⟩
      have HB := Lib.hid (hb1.alloc hb1.size (.cells #[.int .i64 K, .int .i64 M, .string SS] 80))
      clear hb1 cF
      go_wp2_with fail
      refine bodyPost_ret (v := .int .i64 (-1)) (by simp [results, Tryz.results22, go_sem]) rfl ⟨by rw [HR.out], HB.out⟩

end Go.Proofs.YtpifbgefkbhopaaGreatDoor
