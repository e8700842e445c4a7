/- The contract of the document's own Encode (sculleryref02). -/
import Derived.Test.YtopfallmpbjbaaaDoorRfA
import Derived.Deep.QuietTactic
import Derived.BigQuiet
import Derived.IntWalk
namespace Go.Proofs.YtopfallmpbjbaaaDoor
open Go.RowKit

def groupN (x y z : UInt8) : Nat := 65536 * x.toNat + 256 * y.toNat + z.toNat
theorem groupN_lt (x y z : UInt8) : groupN x y z < 16777216 := by
  have h1 := x.toNat_lt
  have h2 := y.toNat_lt
  have h3 := z.toNat_lt
  unfold groupN; omega

theorem list3 (t : ByteArray) (h : 3 ≤ t.size) : t.data.toList = t[0] :: t[1] :: t[2] :: t.data.toList.drop 3 := by
  have e0 := drop_cons_at t 0 (by omega)
  have e1 := drop_cons_at t 1 (by omega)
  have e2 := drop_cons_at t 2 (by omega)
  rw [List.drop_zero] at e0
  rw [← e2, ← e1]; exact e0

theorem cat4 (acc : List UInt8) (a b c d : UInt8) : strB acc ++ strB [a] ++ strB [b] ++ strB [c] ++ strB [d] = strB (acc ++ [a, b, c, d]) := by
  simp only [strB_append, List.append_assoc, List.cons_append, List.nil_append]

theorem wrap_sum2 (x y : UInt8) : wrap64 (wrap64 ((65536 : Int) * wrap64 (x.toNat : Int)) + wrap64 ((256 : Int) * wrap64 (y.toNat : Int))) = (65536 : Int) * (x.toNat : Int) + 256 * (y.toNat : Int) := by
  have b0 := x.toNat_lt
  have b1 := y.toNat_lt
  rw [IntWalk.wrap64_in (x.toNat : Int) (by omega), IntWalk.wrap64_in (y.toNat : Int) (by omega), IntWalk.wrap64_in ((65536 : Int) * (x.toNat : Int)) (by omega), IntWalk.wrap64_in ((256 : Int) * (y.toNat : Int)) (by omega)]
  exact IntWalk.wrap64_in _ (by omega)
theorem wrap_sum3 (x y z : UInt8) : wrap64 (wrap64 (wrap64 ((65536 : Int) * wrap64 (x.toNat : Int)) + wrap64 ((256 : Int) * wrap64 (y.toNat : Int))) + wrap64 (z.toNat : Int)) = (65536 : Int) * (x.toNat : Int) + 256 * (y.toNat : Int) + (z.toNat : Int) := by
  have b0 := x.toNat_lt
  have b1 := y.toNat_lt
  have b2 := z.toNat_lt
  rw [wrap_sum2, IntWalk.wrap64_in (z.toNat : Int) (by omega)]
  exact IntWalk.wrap64_in _ (by omega)

set_option maxRecDepth 100000 in
set_option maxHeartbeats 1000000 in
theorem fencode_any (s : ByteArray) (w : World) (hs : s.size ≤ 1000000) :
    Calls Tryd.prog 19 #[.string s] w fun e w' => e = .returned (.string (strB (encL s.data.toList))) ∧ Below w.heap.size w w' := by
  go_enter Tryd.func19, Tryd.ntmps19
  go_wp2
  go_loopw [0, 3] (fun x v wr => ∃ (t : ByteArray) (acc : List UInt8), x = .string t ∧ v = .string (strB acc) ∧ 3 * acc.length + 4 * t.size ≤ 4 * s.size ∧ t.size ≤ s.size ∧ Hid (encL s.data.toList = acc ++ encL t.data.toList) ∧ Below w.heap.size w wr) (fun x _ _ => strLen x)
  case atStart => exact ⟨s, [], rfl, rfl, by simp, by omega, Lib.hid rfl, Below.refl _ _⟩
  case round =>
    obtain ⟨t, acc, rfl, rfl, hle, hts, H, hb⟩ := hrel
    have haz : (strB acc).size ≤ 2000000 := by rw [strB_size]; omega
    by_cases h3 : 3 ≤ t.size
    · have Hl := Lib.hid (list3 t h3)
      have k0 : 0 < t.size := by omega
      have k1 : 1 < t.size := by omega
      have k2 : 2 < t.size := by omega
      have j0 : (0 : Int) < (t.size : Int) := by omega
      have j1 : (1 : Int) < (t.size : Int) := by omega
      have j2 : (2 : Int) < (t.size : Int) := by omega
      obtain ⟨N, hN⟩ : ∃ N : Nat, groupN t[0] t[1] t[2] = N := ⟨_, rfl⟩
      have hN2 : N < 16777216 := by rw [← hN]; exact groupN_lt _ _ _
      have Hsum : Hid ((65536 : Int) * (t[0].toNat : Int) + (256 : Int) * (t[1].toNat : Int) + (t[2].toNat : Int) = (N : Int)) := Lib.hid (by rw [← hN, groupN]; omega)
      have b0 := t[0].toNat_lt
      have b1 := t[1].toNat_lt
      have b2 := t[2].toNat_lt
      have W := Lib.hid (wrap_sum3 t[0] t[1] t[2])
      rw [Hsum.out] at W
      clear b0 b1 b2
      have HN := Lib.hid hN
      clear hN
      go_wp2_with fail
      go_quiet (fail)
      rw [W.out]
      obtain ⟨a, ha⟩ : ∃ a, N / 262144 = a := ⟨_, rfl⟩
      obtain ⟨b, hbb⟩ : ∃ b, N / 4096 % 64 = b := ⟨_, rfl⟩
      obtain ⟨c, hc⟩ : ∃ c, N / 64 % 64 = c := ⟨_, rfl⟩
      obtain ⟨d, hd⟩ : ∃ d, N % 64 = d := ⟨_, rfl⟩
      have He : Hid (encL s.data.toList = (acc ++ [alp a, alp b, alp c, alp d]) ++ encL (t.data.toList.drop 3)) := Lib.hid (by
        rw [H.out, Hl.out, encL, c0, c1, c2, c3]
        simp only [groupN] at HN
        rw [HN.out, ha, hbb, hc, hd, List.append_assoc]
        rfl)
      have Hx : Hid ((t.extract 3 t.size).data.toList = t.data.toList.drop 3) := Lib.hid (Lib.extract_to_end t 3)
      have Hxs : Hid ((t.extract 3 t.size).size + 3 = t.size) := Lib.hid (by rw [Lib.size_eq, Hx.out, List.length_drop, ← Lib.size_eq]; omega)
      have qa : (N : Int) / 262144 = (a : Int) := by omega
      have qb : (N : Int) / 4096 % 64 = (b : Int) := by omega
      have qc : (N : Int) / 64 % 64 = (c : Int) := by omega
      have qd : (N : Int) % 64 = (d : Int) := by omega
      have cA := fun W => fsign_any a W (by omega)
      have cB := fun W => fsign_any b W (by omega)
      have cC := fun W => fsign_any c W (by omega)
      have cD := fun W => fsign_any d W (by omega)
      have HS := Lib.hid (cat4 acc (alp a) (alp b) (alp c) (alp d))
      have z1 : (strB [alp a]).size = 1 := rfl
      have z2 : (strB [alp b]).size = 1 := rfl
      have z3 : (strB [alp c]).size = 1 := rfl
      have z4 : (strB [alp d]).size = 1 := rfl
      generalize strB [alp a] = A at *
      generalize strB [alp b] = B at *
      generalize strB [alp c] = C at *
      generalize strB [alp d] = D at *
      generalize hSe : strB acc = S at *
      have HSe := Lib.hid hSe
      clear ha hbb hc hd hSe H Hl Hsum HN
      go_wp2_with fail
      refine (cA _).mono ?_
      rintro e w' ⟨rfl, rfl⟩
      go_wp2_with fail
      refine (cB _).mono ?_
      rintro e w' ⟨rfl, rfl⟩
      go_wp2_with fail
      refine (cC _).mono ?_
      rintro e w' ⟨rfl, rfl⟩
      go_wp2_with fail
      refine (cD _).mono ?_
      rintro e w' ⟨rfl, rfl⟩
      go_wp2_with fail
      go_roundw
      case rel =>
        refine ⟨_, acc ++ [alp a, alp b, alp c, alp d], rfl, by rw [← HS.out], ?_, ?_, Lib.hid (by rw [Hx.out]; exact He.out), hb.trans ((below_drewN _ _).mono hb.size)⟩
        · have := Hxs.out; simp only [List.length_append, List.length_cons, List.length_nil]; omega
        · have := Hxs.out; omega
      case measure => have := Hxs.out; simp only [strLen]; omega
    · by_cases hz2 : t.size = 2
      · have k0 : 0 < t.size := by omega
        have k1 : 1 < t.size := by omega
        have Hl : Hid (t.data.toList = [t[0], t[1]]) := Lib.hid (by
          have e0 := drop_cons_at t 0 k0
          have e1 := drop_cons_at t 1 k1
          rw [List.drop_zero] at e0
          have e2 : t.data.toList.drop (1 + 1) = [] := List.drop_of_length_le (by rw [← Lib.size_eq]; omega)
          rw [e0, e1, e2])
        have j0 : (0 : Int) < (t.size : Int) := by omega
        have j1 : (1 : Int) < (t.size : Int) := by omega
        obtain ⟨N, hN⟩ : ∃ N : Nat, groupN t[0] t[1] 0 = N := ⟨_, rfl⟩
        have hN2 : N < 16777216 := by rw [← hN]; exact groupN_lt _ _ _
        have Hsum : Hid ((65536 : Int) * (t[0].toNat : Int) + (256 : Int) * (t[1].toNat : Int) = (N : Int)) := Lib.hid (by rw [← hN, groupN, z0]; omega)
        have b0 := t[0].toNat_lt
        have b1 := t[1].toNat_lt
        have W := Lib.hid (wrap_sum2 t[0] t[1])
        rw [Hsum.out] at W
        have g2 : ((t.size : Int) == 2) = true := by simp; omega
        have g1 : ((t.size : Int) == 1) = false := by simp; omega
        clear b0 b1
        have HN := Lib.hid hN
        have Hz2 := Lib.hid hz2
        clear hN hz2
        go_wp2_with fail
        go_quiet (fail)
        rw [W.out]
        obtain ⟨a, ha⟩ : ∃ a, N / 262144 = a := ⟨_, rfl⟩
        obtain ⟨b, hbb⟩ : ∃ b, N / 4096 % 64 = b := ⟨_, rfl⟩
        obtain ⟨c, hc⟩ : ∃ c, N / 64 % 64 = c := ⟨_, rfl⟩
        have He : Hid (encL s.data.toList = acc ++ [alp a, alp b, alp c, 61]) := Lib.hid (by
          rw [H.out, Hl.out, encL, c0, c1, c2]
          simp only [groupN] at HN
          rw [HN.out, ha, hbb, hc])
        have qa : (N : Int) / 262144 = (a : Int) := by omega
        have qb : (N : Int) / 4096 % 64 = (b : Int) := by omega
        have qc : (N : Int) / 64 % 64 = (c : Int) := by omega
        have cA := fun W => fsign_any a W (by omega)
        have cB := fun W => fsign_any b W (by omega)
        have cC := fun W => fsign_any c W (by omega)
        have HS := Lib.hid (cat4 acc (alp a) (alp b) (alp c) 61)
        rw [show strB [61] = (⟨#[61]⟩ : ByteArray) from rfl, ← He.out] at HS
        have z1 : (strB [alp a]).size = 1 := rfl
        have z2 : (strB [alp b]).size = 1 := rfl
        have z3 : (strB [alp c]).size = 1 := rfl
        generalize strB [alp a] = A at *
        generalize strB [alp b] = B at *
        generalize strB [alp c] = C at *
        generalize strB acc = S at *
        clear ha hbb hc H Hl Hsum HN He
        go_wp2_with fail
        refine (cA _).mono ?_
        rintro e w' ⟨rfl, rfl⟩
        go_wp2_with fail
        refine (cB _).mono ?_
        rintro e w' ⟨rfl, rfl⟩
        go_wp2_with fail
        refine (cC _).mono ?_
        rintro e w' ⟨rfl, rfl⟩
        go_wp2_with fail
        go_ret
        exact ⟨by rw [← HS.out]; rfl, hb.trans ((below_drewN _ _).mono hb.size)⟩
      · by_cases hz1 : t.size = 1
        · have k0 : 0 < t.size := by omega
          have Hl : Hid (t.data.toList = [t[0]]) := Lib.hid (by
            have e0 := drop_cons_at t 0 k0
            rw [List.drop_zero] at e0
            have e2 : t.data.toList.drop (0 + 1) = [] := List.drop_of_length_le (by rw [← Lib.size_eq]; omega)
            rw [e0, e2])
          obtain ⟨N, hN⟩ : ∃ N : Nat, groupN t[0] 0 0 = N := ⟨_, rfl⟩
          have hN2 : N < 16777216 := by rw [← hN]; exact groupN_lt _ _ _
          have hsum : (65536 : Int) * (t[0].toNat : Int) = (N : Int) := by rw [← hN, groupN, z0]; omega
          have b0 := t[0].toNat_lt
          have g2 : ((t.size : Int) == 2) = false := by simp; omega
          have g1 : ((t.size : Int) == 1) = true := by simp; omega
          have HN := Lib.hid hN
          have Hz1 := Lib.hid hz1
          clear hN hz1
          obtain ⟨a, ha⟩ : ∃ a, N / 262144 = a := ⟨_, rfl⟩
          obtain ⟨b, hbb⟩ : ∃ b, N / 4096 % 64 = b := ⟨_, rfl⟩
          have He : Hid (encL s.data.toList = acc ++ [alp a, alp b, 61, 61]) := Lib.hid (by
            rw [H.out, Hl.out, encL, c0, c1]
            simp only [groupN] at HN
            rw [HN.out, ha, hbb])
          have qa : (N : Int) / 262144 = (a : Int) := by omega
          have qb : (N : Int) / 4096 % 64 = (b : Int) := by omega
          have cA := fun W => fsign_any a W (by omega)
          have cB := fun W => fsign_any b W (by omega)
          have HS : Hid (strB acc ++ strB [alp a] ++ strB [alp b] ++ (⟨#[61, 61]⟩ : ByteArray) = strB (encL s.data.toList)) := Lib.hid (by
            rw [show (⟨#[61, 61]⟩ : ByteArray) = strB [61, 61] from rfl, He.out]
            simp only [strB_append, List.append_assoc, List.cons_append, List.nil_append])
          have z1 : (strB [alp a]).size = 1 := rfl
          have z2 : (strB [alp b]).size = 1 := rfl
          generalize strB [alp a] = A at *
          generalize strB [alp b] = B at *
          generalize strB acc = S at *
          clear ha hbb H Hl HN He
          go_wp2_with fail
          refine (cA _).mono ?_
          rintro e w' ⟨rfl, rfl⟩
          go_wp2_with fail
          refine (cB _).mono ?_
          rintro e w' ⟨rfl, rfl⟩
          go_wp2_with fail
          go_ret
          exact ⟨by rw [← HS.out]; rfl, hb⟩
        · have hz0 : t.size = 0 := by omega
          have He : Hid (strB acc = strB (encL s.data.toList)) := Lib.hid (by
            have e0 : t.data.toList = [] := List.eq_nil_of_length_eq_zero (by rw [← Lib.size_eq]; exact hz0)
            rw [H.out, e0, encL, List.append_nil])
          have g2 : ((t.size : Int) == 2) = false := by simp; omega
          have g1 : ((t.size : Int) == 1) = false := by simp; omega
          clear hz0 H
          go_wp2_with fail
          go_ret
          exact ⟨by rw [← He.out]; rfl, hb⟩

end Go.Proofs.YtopfallmpbjbaaaDoor
