/- The contract of the document's own Digits (sculleryref01). · The document's own find, has, number, None (sculleryref10). -/
import Derived.Test.YtjnagifolheloaaDoorRows
import Derived.Test.YtjnagifolheloaaDoorMLowP
import Derived.Test.YtjnagifolheloaaDoorMDirP
import Derived.Test.YtjnagifolheloaaDoorMNamP
import Derived.WalkKit
import Derived.WalkSpells
import Derived.WalkLawsBesides
import Derived.Laws.AppendOwn

namespace Go.Proofs.YtjnagifolheloaaDoor
open Go.RowKit

set_option maxHeartbeats 1000000 in
theorem rdigits_any (s : ByteArray) (w : World) (hs : s.size ≤ maxLen) :
    Calls Tryd.prog 42 #[.string s] w fun e w' => e = .returned (.tuple #[.int .i64 (digitsN s.data.toList), .bool (digitsB s.data.toList)]) ∧ w = w' := by
  unfold maxLen at hs
  go_enter Tryd.func42, Tryd.ntmps42
  go_wp2
  go_loop [4, 5] (fun n i => ∃ k : Nat, k ≤ s.size ∧ i = .int .i64 k ∧ Hid (digAll (s.data.toList.take k) = true) ∧ n = .int .i64 (digN (s.data.toList.take k))) (fun _ i => s.size - (intOf i).toNat)
  case atStart => exact ⟨0, Nat.zero_le _, rfl, rfl, rfl⟩
  case round =>
    obtain ⟨k, hk, rfl, Hall, rfl⟩ := hrel
    obtain ⟨hn0, hn1⟩ := digN_in s k Hall.out
    by_cases hlt : k < s.size
    · by_cases hd : digI (s[k].toNat : Int) = true
      · have Hs := Lib.hid (digN_snoc s k hlt)
        have Ha := Lib.hid (all_snoc (fun c => digI c.toNat) s k hlt)
        obtain ⟨h48, h57⟩ := (digI_iff _).1 hd
        have d1 : decide ((s[k].toNat : Int) < 48) = false := by simp; omega
        have d2 : decide (57 < (s[k].toNat : Int)) = false := by simp; omega
        have Hd := Lib.hid hd
        clear hd
        go_wp2
        go_round
        case rel => exact ⟨k + 1, by omega, by go_num, Lib.hid (by rewrite [digAll, Ha.out, Hd.out, Bool.and_true]; exact Hall.out), by rewrite [Hs.out, digStep]; exact int_eq (by omega)⟩
        case measure => simp [intOf]; omega
      · have Hf := Lib.hid (all_false_of (fun c => digI c.toNat) s k hlt (by simpa using hd))
        have hn : ¬ (48 ≤ (s[k].toNat : Int) ∧ (s[k].toNat : Int) ≤ 57) := fun h => hd ((digI_iff _).2 h)
        clear hd
        cases d1 : decide ((s[k].toNat : Int) < 48) <;> cases d2 : decide (57 < (s[k].toNat : Int))
        · exfalso; simp at d1 d2; omega
        all_goals
          clear hn
          go_wp2
          go_ret2
          exact ⟨by simp [digitsN, digitsB, digAll, Hf.out], rfl⟩
    · have hk' : s.size ≤ k := by omega
      have Hp : Hid (decide (0 < s.size) = !s.data.toList.isEmpty) := Lib.hid (by rewrite [Lib.size_eq]; exact pos_of _)
      go_wp2
      go_ret2
      rw [take_all s k hk'] at Hall ⊢
      refine ⟨two_eq (int_eq ?_) (bool_eq ?_), rfl⟩
      · rw [digitsN, if_pos Hall.out]
      · rw [digitsB, Hall.out, Bool.true_and, ← Hp.out]

end Go.Proofs.YtjnagifolheloaaDoor

namespace Go.Proofs.YtjnagifolheloaaDoor
open Go.RowKit Go.Lib

theorem info_rdir : (Tryd.prog.info? 48).map (fun i => (i.zero, i.size, i.bytes)) = some (some (.agg #[.string ⟨#[]⟩, .string ⟨#[]⟩, .bool false]), 3, 40) := by kernel_rfl
/-- What a directive's place tells. -/
def fndV : Option Dir → Value
  | some d => .tuple #[dirV d, .bool true]
  | none => .tuple #[.agg #[.string ⟨#[]⟩, .string ⟨#[]⟩, .bool false], .bool false]
theorem fstN_nil (n : List UInt8) : fstN [] n = none := rfl
theorem fstN_cons (d : Dir) (l : List Dir) (n : List UInt8) : fstN (d :: l) n = if d.1 = n then some d else fstN l n := by
  rewrite [fstN, List.find?_cons]
  by_cases h : d.1 = n
  · rw [if_pos h, beq_iff_eq.2 h]
  · rewrite [if_neg h, beq_eq_false_iff_ne.2 h]
    rfl

set_option maxRecDepth 100000 in
set_option maxHeartbeats 4000000 in
theorem rfind_any (lo : Nat) (v : Value) (ds : List Dir) (n : List UInt8) (w : World) (hv : Dirs lo w v ds) (hok : ds.length ≤ 100000) :
    Calls Tryd.prog 28 #[v, .string (strB n)] w fun e w' => e = .returned (fndV (fstN ds n)) ∧ Below w.heap.size w w' := by
  obtain ⟨ao, cap, rfl, hc⟩ := hv
  have HC := Lib.hid hc
  clear hc
  go_enter Tryd.func28, Tryd.ntmps28
  go_wp2_with fail
  go_loopw [6] (fun i wr => ∃ k : Nat, k ≤ ds.length ∧ i = .int .i64 k ∧ Hid (fstN ds n = fstN (ds.drop k) n) ∧ wr = w.alloc (.cells #[.string ⟨#[]⟩, .string ⟨#[]⟩, .bool false] 48)) (fun i _ => ds.length - (intOf i).toNat)
  case atStart => exact ⟨0, Nat.zero_le _, rfl, Lib.hid rfl, rfl⟩
  case round =>
    obtain ⟨k, hk, rfl, HA, rfl⟩ := hrel
    have hb : Below w.heap.size w (w.alloc (.cells #[.string ⟨#[]⟩, .string ⟨#[]⟩, .bool false] 48)) := (Below.refl _ _).alloc (Nat.le_refl _) _
    have HB := Lib.hid hb
    by_cases hlt : k < ds.length
    · rcases HC.out with hnil | ⟨c, off, rfl, _, hcl, hcell⟩
      · exfalso
        rw [hnil] at hlt
        simp at hlt
      · obtain ⟨p, hp⟩ : ∃ p, ds[k]? = some p := ⟨_, List.getElem?_eq_getElem hlt⟩
        have hdr : ds.drop k = p :: ds.drop (k + 1) := by
          rewrite [List.drop_eq_getElem_cons hlt]
          rw [List.getElem?_eq_getElem hlt] at hp
          rw [Option.some.inj hp]
        obtain ⟨x0, x1, x2⟩ := hcell k p hp
        have a0 := (hb.cell (p := ⟨c, off + k * 3, none⟩) hcl).trans x0
        have a1 := (hb.cell (p := ⟨c, off + k * 3 + 1, none⟩) hcl).trans x1
        have a2 := (hb.cell (p := ⟨c, off + k * 3 + 2, none⟩) hcl).trans x2
        have hkI : (k : Int) < (ds.length : Int) := by omega
        have hqe := name_eq p.1 n
        obtain ⟨N, V, H⟩ := p
        dsimp only at a0 a1 a2 hqe
        by_cases hN : N = n
        · have HF : Hid (fndV (fstN ds n) = .tuple #[.agg #[.string (strB N), .string (strB V), .bool H], .bool true]) := Lib.hid (by rw [HA.out, hdr, fstN_cons, if_pos hN] <;> rfl)
          rw [decide_eq_true hN.symm] at hqe
          clear hcell x0 x1 x2 hp hdr hb hN HA
          generalize strB N = SN at *
          generalize strB n = SM at *
          go_wp2_with fail
          refine bodyPost_ret (v := .tuple #[.agg #[.string SN, .string (strB V), .bool H], .bool true]) (by simp [results, Tryd.results28, go_sem]) rfl ⟨by rw [HF.out], (Below.refl _ _).alloc (Nat.le_refl _) _⟩
        · have HN : Hid (fstN ds n = fstN (ds.drop (k + 1)) n) := Lib.hid (by rw [HA.out, hdr, fstN_cons, if_neg hN])
          rw [decide_eq_false (fun e => hN e.symm)] at hqe
          clear hcell x0 x1 x2 hp hdr hb hN HA
          generalize strB N = SN at *
          generalize strB n = SM at *
          go_wp2_with fail
          go_roundw
          case rel => exact ⟨k + 1, by omega, by go_num, HN, trivial⟩
          case measure => simp [intOf]; omega
    · have hnil : ds.drop k = [] := List.drop_of_length_le (by omega)
      have HF : Hid (fndV (fstN ds n) = .tuple #[.agg #[.string ⟨#[]⟩, .string ⟨#[]⟩, .bool false], .bool false]) := Lib.hid (by rw [HA.out, hnil, fstN_nil] <;> rfl)
      clear hnil HA hb
      have hkI : ¬ (k : Int) < (ds.length : Int) := by omega
      go_wp2_with fail
      refine bodyPost_ret (v := .tuple #[.agg #[.string ⟨#[]⟩, .string ⟨#[]⟩, .bool false], .bool false]) (by simp [results, Tryd.results28, go_sem]) rfl ⟨by rw [HF.out], HB.out⟩

set_option maxRecDepth 100000 in
set_option maxHeartbeats 4000000 in
theorem rhas_any (lo : Nat) (v : Value) (ds : List Dir) (n : List UInt8) (w : World) (hv : Dirs lo w v ds) (hok : ds.length ≤ 100000) :
    Calls Tryd.prog 26 #[v, .string (strB n)] w fun e w' => e = .returned (.bool (hasN ds n)) ∧ Below w.heap.size w w' := by
  have cF := rfind_any lo v ds n w hv hok
  obtain ⟨ao, cap, rfl, _⟩ := hv
  cases hf : fstN ds n with
  | none =>
    have HH : Hid (hasN ds n = false) := Lib.hid (by rw [hasN, hf] <;> rfl)
    rw [hf] at cF
    clear hf
    go_enter Tryd.func26, Tryd.ntmps26
    go_wp2_with fail
    refine cF.mono ?_
    rintro e w1 ⟨rfl, hb1⟩
    have HB := Lib.hid hb1
    have HZ := Lib.hid hb1.size
    clear hb1 cF
    simp only [fndV]
    go_wp2_with fail
    refine bodyPost_ret (v := .bool false) (by simp [results, Tryd.results26, go_sem]) rfl ⟨by rw [HH.out], HB.out.alloc HZ.out _⟩
  | some d =>
    obtain ⟨N, V, H⟩ := d
    have HH : Hid (hasN ds n = true) := Lib.hid (by rw [hasN, hf] <;> rfl)
    rw [hf] at cF
    clear hf
    go_enter Tryd.func26, Tryd.ntmps26
    go_wp2_with fail
    refine cF.mono ?_
    rintro e w1 ⟨rfl, hb1⟩
    have HB := Lib.hid hb1
    have HZ := Lib.hid hb1.size
    clear hb1 cF
    simp only [fndV, dirV]
    go_wp2_with fail
    refine bodyPost_ret (v := .bool true) (by simp [results, Tryd.results26, go_sem]) rfl ⟨by rw [HH.out], HB.out.alloc HZ.out _⟩

set_option maxRecDepth 100000 in
set_option maxHeartbeats 4000000 in
theorem rnumber_any (lo : Nat) (v : Value) (ds : List Dir) (n : List UInt8) (w : World) (hv : Dirs lo w v ds) (hok : DirsOk ds) :
    Calls Tryd.prog 27 #[v, .string (strB n)] w fun e w' => e = .returned (.int .i64 (numN ds n)) ∧ Below w.heap.size w w' := by
  have cF := rfind_any lo v ds n w hv hok.1
  obtain ⟨ao, cap, rfl, _⟩ := hv
  cases hf : fstN ds n with
  | none =>
    have HH : Hid (numN ds n = -1) := Lib.hid (by rw [numN, hf])
    rw [hf] at cF
    clear hf
    go_enter Tryd.func27, Tryd.ntmps27
    go_wp2_with fail
    refine cF.mono ?_
    rintro e w1 ⟨rfl, hb1⟩
    have HB := Lib.hid hb1
    have HZ := Lib.hid hb1.size
    clear hb1 cF
    simp only [fndV]
    go_wp2_with fail
    refine bodyPost_ret (v := .int .i64 (-1)) (by simp [results, Tryd.results27, go_sem]) rfl ⟨by rw [HH.out], HB.out.alloc HZ.out _⟩
  | some d =>
    obtain ⟨N, V, H⟩ := d
    have hm : (N, V, H) ∈ ds := List.mem_of_find?_eq_some hf
    have hl : V.length ≤ 100000 := (hok.2 _ hm).2
    have HH : Hid (numN ds n = digitsN V) := Lib.hid (by rw [numN, hf])
    rw [hf] at cF
    clear hf
    go_enter Tryd.func27, Tryd.ntmps27
    go_wp2_with fail
    refine cF.mono ?_
    rintro e w1 ⟨rfl, hb1⟩
    have HB := Lib.hid hb1
    have HZ := Lib.hid hb1.size
    have cD := fun W => rdigits_any (strB V) W (by rewrite [Lib.size_eq, strB_data]; unfold maxLen; omega)
    rw [strB_data] at cD
    clear hb1 cF
    simp only [fndV, dirV]
    go_wp2_with (go_at_call 42; refine (cD _).mono ?_; rintro e w2 ⟨rfl, rfl⟩)
    refine bodyPost_ret (v := .int .i64 (digitsN V)) (by simp [results, Tryd.results27, go_sem]) rfl ⟨by rw [HH.out], HB.out.alloc HZ.out _⟩

end Go.Proofs.YtjnagifolheloaaDoor
