/- The document's own find, has, number, None (sculleryref10). · The document's own None, Of (sculleryref10). · The document's own unquoted (sculleryref10). · The contracts of the document's own answers for package ascii (sculleryref01): blank, letter, Tchar. · The contracts of the document's own answers for package ascii (sculleryref01): Token, Trim. · The document's own directive of a text (sculleryref10.one). · The document's own Split (sculleryref01), for a seat on BasP. · The document's own Parse (sculleryref10). -/
import Derived.Test.YtpifbgefkbhopaaGreatDoorZMDirP
import Derived.Test.YtpifbgefkbhopaaGreatDoorZMRjE
import Derived.Test.YtpifbgefkbhopaaGreatDoorZMBasP
import Derived.Test.YtpifbgefkbhopaaGreatDoorZMSpP
import Derived.Test.YtpifbgefkbhopaaGreatDoorZBytP
import Derived.Test.YtpifbgefkbhopaaGreatDoorRows
import Derived.Test.YtpifbgefkbhopaaGreatDoorZTokP
import Derived.Test.YtpifbgefkbhopaaGreatDoorZMFldP
import Derived.Laws.AppendOwn
import Derived.WalkKit
import Derived.WalkSpells
import Derived.WalkLawsBesides
import Derived.Laws.BytesArg
import Derived.Deep.RegionWith
import Derived.Deep.RegionLaw

namespace Go.Proofs.YtpifbgefkbhopaaGreatDoor
open Go.RowKit Go.Lib

theorem info_rdir : (Tryz.prog.info? 147).map (fun i => (i.zero, i.size, i.bytes)) = some (some (.agg #[.string ⟨#[]⟩, .string ⟨#[]⟩, .bool false]), 3, 40) := by kernel_rfl
/-- What a directive's place tells. -/
def fndV : Option Dir → Value
  | some d => .tuple #[dirV d, .bool true]
  | none => .tuple #[.agg #[.string ⟨#[]⟩, .string ⟨#[]⟩, .bool false], .bool false]
theorem fstN_nil (n : List UInt8) : fstN [] n = none := rfl
theorem fstN_cons (d : Dir) (l : List Dir) (n : List UInt8) : fstN (d :: l) n = if d.1 = n then some d else fstN l n := by
  rw [fstN, List.find?_cons]
  by_cases h : d.1 = n
  · rw [if_pos h, beq_iff_eq.2 h]
  · rw [if_neg h, beq_eq_false_iff_ne.2 h]
    rfl

set_option maxRecDepth 100000 in
set_option maxHeartbeats 4000000 in
theorem rfind_any (lo : Nat) (v : Value) (ds : List Dir) (n : List UInt8) (w : World) (hv : Dirs lo w v ds) (hok : ds.length ≤ 100000) :
    Calls Tryz.prog 69 #[v, .string (strB n)] w fun e w' => e = .returned (fndV (fstN ds n)) ∧ Below w.heap.size w w' := by
  obtain ⟨ao, cap, rfl, hc⟩ := hv
  have HC := Lib.hid hc
  clear hc
  go_enter Tryz.func69, Tryz.ntmps69
  go_wp2_with fail
  go_loopw [6] (fun i wr => ∃ k : Nat, k ≤ ds.length ∧ i = .int .i64 k ∧ Hid (fstN ds n = fstN (ds.drop k) n) ∧ wr = w.alloc (.cells #[.string ⟨#[]⟩, .string ⟨#[]⟩, .bool false] 147)) (fun i _ => ds.length - (intOf i).toNat)
  case atStart => exact ⟨0, Nat.zero_le _, rfl, Lib.hid rfl, rfl⟩
  case round =>
    obtain ⟨k, hk, rfl, HA, rfl⟩ := hrel
    have hb : Below w.heap.size w (w.alloc (.cells #[.string ⟨#[]⟩, .string ⟨#[]⟩, .bool false] 147)) := (Below.refl _ _).alloc (Nat.le_refl _) _
    have HB := Lib.hid hb
    by_cases hlt : k < ds.length
    · rcases HC.out with hnil | ⟨c, off, rfl, _, hcl, hcell⟩
      · exfalso
        rw [hnil] at hlt
        simp at hlt
      · obtain ⟨p, hp⟩ : ∃ p, ds[k]? = some p := ⟨_, List.getElem?_eq_getElem hlt⟩
        have hdr : ds.drop k = p :: ds.drop (k + 1) := by
          rw [List.drop_eq_getElem_cons hlt]
          rw [List.getElem?_eq_getElem hlt] at hp
          rw [Option.some.inj hp]
        obtain ⟨x0, x1, x2⟩ := hcell k p hp
        have a0 := (hb.cell (p := ⟨c, off + k * 3, none⟩) hcl).trans x0
        have a1 := (hb.cell (p := ⟨c, off + k * 3 + 1, none⟩) hcl).trans x1
        have a2 := (hb.cell (p := ⟨c, off + k * 3 + 2, none⟩) hcl).trans x2
        have hkI : (k : Int) < (ds.length : Int) := by omega
        have hqe := name_eq p.1 n
        obtain ⟨N, V, H⟩ := p
        dsimp only at a0 a1 a2 hqe
        by_cases hN : N = n
        · have HF : Hid (fndV (fstN ds n) = .tuple #[.agg #[.string (strB N), .string (strB V), .bool H], .bool true]) := Lib.hid (by rw [HA.out, hdr, fstN_cons, if_pos hN] <;> rfl)
          rw [decide_eq_true hN.symm] at hqe
          clear hcell x0 x1 x2 hp hdr hb hN HA
          generalize strB N = SN at *
          generalize strB n = SM at *
          go_wp2_with fail
          refine bodyPost_ret (v := .tuple #[.agg #[.string SN, .string (strB V), .bool H], .bool true]) (by simp [results, Tryz.results69, go_sem]) rfl ⟨by rw [HF.out], (Below.refl _ _).alloc (Nat.le_refl _) _⟩
        · have HN : Hid (fstN ds n = fstN (ds.drop (k + 1)) n) := Lib.hid (by rw [HA.out, hdr, fstN_cons, if_neg hN])
          rw [decide_eq_false (fun e => hN e.symm)] at hqe
          clear hcell x0 x1 x2 hp hdr hb hN HA
          generalize strB N = SN at *
          generalize strB n = SM at *
          go_wp2_with fail
          go_roundw
          case rel => exact ⟨k + 1, by omega, by go_num, HN, trivial⟩
          case measure => simp [intOf]; omega
    · have hnil : ds.drop k = [] := List.drop_of_length_le (by omega)
      have HF : Hid (fndV (fstN ds n) = .tuple #[.agg #[.string ⟨#[]⟩, .string ⟨#[]⟩, .bool false], .bool false]) := Lib.hid (by rw [HA.out, hnil, fstN_nil] <;> rfl)
      clear hnil HA hb
      have hkI : ¬ (k : Int) < (ds.length : Int) := by omega
      go_wp2_with fail
      refine bodyPost_ret (v := .tuple #[.agg #[.string ⟨#[]⟩, .string ⟨#[]⟩, .bool false], .bool false]) (by simp [results, Tryz.results69, go_sem]) rfl ⟨by rw [HF.out], HB.out⟩

set_option maxRecDepth 100000 in
set_option maxHeartbeats 4000000 in
theorem rhas_any (lo : Nat) (v : Value) (ds : List Dir) (n : List UInt8) (w : World) (hv : Dirs lo w v ds) (hok : ds.length ≤ 100000) :
    Calls Tryz.prog 67 #[v, .string (strB n)] w fun e w' => e = .returned (.bool (hasN ds n)) ∧ Below w.heap.size w w' := by
  have cF := rfind_any lo v ds n w hv hok
  obtain ⟨ao, cap, rfl, _⟩ := hv
  cases hf : fstN ds n with
  | none =>
    have HH : Hid (hasN ds n = false) := Lib.hid (by rw [hasN, hf] <;> rfl)
    rw [hf] at cF
    clear hf
    go_enter Tryz.func67, Tryz.ntmps67
    go_wp2_with fail
    refine cF.mono ?_
    rintro e w1 ⟨rfl, hb1⟩
    have HB := Lib.hid hb1
    have HZ := Lib.hid hb1.size
    clear hb1 cF
    simp only [fndV]
    go_wp2_with fail
    refine bodyPost_ret (v := .bool false) (by simp [results, Tryz.results67, go_sem]) rfl ⟨by rw [HH.out], HB.out.alloc HZ.out _⟩
  | some d =>
    obtain ⟨N, V, H⟩ := d
    have HH : Hid (hasN ds n = true) := Lib.hid (by rw [hasN, hf] <;> rfl)
    rw [hf] at cF
    clear hf
    go_enter Tryz.func67, Tryz.ntmps67
    go_wp2_with fail
    refine cF.mono ?_
    rintro e w1 ⟨rfl, hb1⟩
    have HB := Lib.hid hb1
    have HZ := Lib.hid hb1.size
    clear hb1 cF
    simp only [fndV, dirV]
    go_wp2_with fail
    refine bodyPost_ret (v := .bool true) (by simp [results, Tryz.results67, go_sem]) rfl ⟨by rw [HH.out], HB.out.alloc HZ.out _⟩

set_option maxRecDepth 100000 in
set_option maxHeartbeats 4000000 in
theorem rnumber_any (lo : Nat) (v : Value) (ds : List Dir) (n : List UInt8) (w : World) (hv : Dirs lo w v ds) (hok : DirsOk ds) :
    Calls Tryz.prog 68 #[v, .string (strB n)] w fun e w' => e = .returned (.int .i64 (numN ds n)) ∧ Below w.heap.size w w' := by
  have cF := rfind_any lo v ds n w hv hok.1
  obtain ⟨ao, cap, rfl, _⟩ := hv
  cases hf : fstN ds n with
  | none =>
    have HH : Hid (numN ds n = -1) := Lib.hid (by rw [numN, hf])
    rw [hf] at cF
    clear hf
    go_enter Tryz.func68, Tryz.ntmps68
    go_wp2_with fail
    refine cF.mono ?_
    rintro e w1 ⟨rfl, hb1⟩
    have HB := Lib.hid hb1
    have HZ := Lib.hid hb1.size
    clear hb1 cF
    simp only [fndV]
    go_wp2_with fail
    refine bodyPost_ret (v := .int .i64 (-1)) (by simp [results, Tryz.results68, go_sem]) rfl ⟨by rw [HH.out], HB.out.alloc HZ.out _⟩
  | some d =>
    obtain ⟨N, V, H⟩ := d
    have hm : (N, V, H) ∈ ds := List.mem_of_find?_eq_some hf
    have hl : V.length ≤ 100000 := (hok.2 _ hm).2
    have HH : Hid (numN ds n = digitsN V) := Lib.hid (by rw [numN, hf])
    rw [hf] at cF
    clear hf
    go_enter Tryz.func68, Tryz.ntmps68
    go_wp2_with fail
    refine cF.mono ?_
    rintro e w1 ⟨rfl, hb1⟩
    have HB := Lib.hid hb1
    have HZ := Lib.hid hb1.size
    have cD := fun W => rdigits_any (strB V) W (by rw [Lib.size_eq, strB_data]; unfold maxLen; omega)
    rw [strB_data] at cD
    clear hb1 cF
    simp only [fndV, dirV]
    go_wp2_with (go_at_call 97; refine (cD _).mono ?_; rintro e w2 ⟨rfl, rfl⟩)
    refine bodyPost_ret (v := .int .i64 (digitsN V)) (by simp [results, Tryz.results68, go_sem]) rfl ⟨by rw [HH.out], HB.out.alloc HZ.out _⟩

end Go.Proofs.YtpifbgefkbhopaaGreatDoor

namespace Go.Proofs.YtpifbgefkbhopaaGreatDoor
open Go.RowKit Go.Lib

theorem rulV_noneR : rulV [] = .agg #[.bool false, .bool false, .bool false, .bool false, .bool false, .bool false, .bool false, .bool false, .int .i64 (-1), .int .i64 (-1), .int .i64 (-1), .int .i64 (-1), .int .i64 (-1)] := rfl
set_option maxRecDepth 100000 in
set_option maxHeartbeats 4000000 in
theorem rnone_any (w : World) :
    Calls Tryz.prog 20 #[] w fun e w' => e = .returned (rulV []) ∧ Below w.heap.size w w' := by
  have HV := Lib.hid rulV_noneR
  generalize rulV [] = R at *
  have HB0 := Lib.hid ((Below.refl w.heap.size w).alloc (Nat.le_refl _) (.cells #[.bool false, .bool false, .bool false, .bool false, .bool false, .bool false, .bool false, .bool false, .int .i64 0, .int .i64 0, .int .i64 0, .int .i64 0, .int .i64 0] 29))
  go_enter Tryz.func20, Tryz.ntmps20
  go_wp2_with fail
  refine bodyPost_ret (v := .agg #[.bool false, .bool false, .bool false, .bool false, .bool false, .bool false, .bool false, .bool false, .int .i64 (-1), .int .i64 (-1), .int .i64 (-1), .int .i64 (-1), .int .i64 (-1)]) (by simp [results, Tryz.results20, go_sem]) rfl ⟨by rw [HV.out], ?_⟩
  exact (Below.refl w.heap.size w).alloc (Nat.le_refl _) _

set_option maxRecDepth 100000 in
set_option maxHeartbeats 4000000 in
theorem rof_0 (lo : Nat) (v : Value) (ds : List Dir) (w : World) (hv : Dirs lo w v ds) (hok : DirsOk ds) (hf : fstN ds nStale = none) :
    Calls Tryz.prog 46 #[v] w fun e w' => e = .returned (rulV ds) ∧ Below w.heap.size w w' := by
  have cF := fun W (hb : Below w.heap.size w W) => rfind_any lo v ds nStale W (hv.below hb) hok.1
  rw [hf] at cF
  have HV : Hid (rulV ds = .agg #[.bool (hasN ds nNoStore), .bool (hasN ds nNoCache), .bool (hasN ds nPrivate), .bool (hasN ds nPublic), .bool (hasN ds nMust), .bool (hasN ds nProxy), .bool (hasN ds nImmut), .bool (hasN ds nOnly), .int .i64 (numN ds nMaxAge), .int .i64 (numN ds nSMax), .int .i64 (numN ds nStale), .int .i64 (numN ds nFresh), .int .i64 (numN ds nIfErr)]) := Lib.hid (by
    have h : stlN ds nStale = numN ds nStale := by rw [stlN, hf]; rw [numN, hf]
    rw [rulV, h])
  generalize rulV ds = R at *
  have s0 := fun W (hb : Below w.heap.size w W) => rhas_any lo v ds nNoStore W (hv.below hb) hok.1
  generalize hasN ds nNoStore = b0 at *
  have s1 := fun W (hb : Below w.heap.size w W) => rhas_any lo v ds nNoCache W (hv.below hb) hok.1
  generalize hasN ds nNoCache = b1 at *
  have s2 := fun W (hb : Below w.heap.size w W) => rhas_any lo v ds nPrivate W (hv.below hb) hok.1
  generalize hasN ds nPrivate = b2 at *
  have s3 := fun W (hb : Below w.heap.size w W) => rhas_any lo v ds nPublic W (hv.below hb) hok.1
  generalize hasN ds nPublic = b3 at *
  have s4 := fun W (hb : Below w.heap.size w W) => rhas_any lo v ds nMust W (hv.below hb) hok.1
  generalize hasN ds nMust = b4 at *
  have s5 := fun W (hb : Below w.heap.size w W) => rhas_any lo v ds nProxy W (hv.below hb) hok.1
  generalize hasN ds nProxy = b5 at *
  have s6 := fun W (hb : Below w.heap.size w W) => rhas_any lo v ds nImmut W (hv.below hb) hok.1
  generalize hasN ds nImmut = b6 at *
  have s7 := fun W (hb : Below w.heap.size w W) => rhas_any lo v ds nOnly W (hv.below hb) hok.1
  generalize hasN ds nOnly = b7 at *
  have t0 := fun W (hb : Below w.heap.size w W) => rnumber_any lo v ds nMaxAge W (hv.below hb) hok
  generalize numN ds nMaxAge = k0 at *
  have t1 := fun W (hb : Below w.heap.size w W) => rnumber_any lo v ds nSMax W (hv.below hb) hok
  generalize numN ds nSMax = k1 at *
  have t2 := fun W (hb : Below w.heap.size w W) => rnumber_any lo v ds nStale W (hv.below hb) hok
  generalize numN ds nStale = k2 at *
  have t3 := fun W (hb : Below w.heap.size w W) => rnumber_any lo v ds nFresh W (hv.below hb) hok
  generalize numN ds nFresh = k3 at *
  have t4 := fun W (hb : Below w.heap.size w W) => rnumber_any lo v ds nIfErr W (hv.below hb) hok
  generalize numN ds nIfErr = k4 at *
  obtain ⟨ao, cap, rfl, _⟩ := hv
  have HB0 := Lib.hid ((Below.refl w.heap.size w).alloc (Nat.le_refl _) (.cells #[.bool false, .bool false, .bool false, .bool false, .bool false, .bool false, .bool false, .bool false, .int .i64 0, .int .i64 0, .int .i64 0, .int .i64 0, .int .i64 0] 29))
  have HX0 := Lib.hid (BoxN.made w [.bool false, .bool false, .bool false, .bool false, .bool false, .bool false, .bool false, .bool false, .int .i64 0, .int .i64 0, .int .i64 0, .int .i64 0, .int .i64 0] 29)
  clear hf
  go_enter Tryz.func46, Tryz.ntmps46
  go_wp2_with fail
  refine (s0 _ HB0.out).mono ?_
  rintro e v0 ⟨rfl, hb⟩
  have HX0 := Lib.hid (HX0.out.next hb)
  have HB0 := Lib.hid (HB0.out.trans (hb.mono HB0.out.size))
  clear hb s0
  go_wp2_with fail
  refine (s1 _ HB0.out).mono ?_
  rintro e v1 ⟨rfl, hb⟩
  have HX0 := Lib.hid (HX0.out.next hb)
  have HB0 := Lib.hid (HB0.out.trans (hb.mono HB0.out.size))
  clear hb s1
  go_wp2_with fail
  refine (s2 _ HB0.out).mono ?_
  rintro e v2 ⟨rfl, hb⟩
  have HX0 := Lib.hid (HX0.out.next hb)
  have HB0 := Lib.hid (HB0.out.trans (hb.mono HB0.out.size))
  clear hb s2
  go_wp2_with fail
  refine (s3 _ HB0.out).mono ?_
  rintro e v3 ⟨rfl, hb⟩
  have HX0 := Lib.hid (HX0.out.next hb)
  have HB0 := Lib.hid (HB0.out.trans (hb.mono HB0.out.size))
  clear hb s3
  go_wp2_with fail
  refine (s4 _ HB0.out).mono ?_
  rintro e v4 ⟨rfl, hb⟩
  have HX0 := Lib.hid (HX0.out.next hb)
  have HB0 := Lib.hid (HB0.out.trans (hb.mono HB0.out.size))
  clear hb s4
  go_wp2_with fail
  refine (s5 _ HB0.out).mono ?_
  rintro e v5 ⟨rfl, hb⟩
  have HX0 := Lib.hid (HX0.out.next hb)
  have HB0 := Lib.hid (HB0.out.trans (hb.mono HB0.out.size))
  clear hb s5
  go_wp2_with fail
  refine (s6 _ HB0.out).mono ?_
  rintro e v6 ⟨rfl, hb⟩
  have HX0 := Lib.hid (HX0.out.next hb)
  have HB0 := Lib.hid (HB0.out.trans (hb.mono HB0.out.size))
  clear hb s6
  go_wp2_with fail
  refine (s7 _ HB0.out).mono ?_
  rintro e v7 ⟨rfl, hb⟩
  have HX0 := Lib.hid (HX0.out.next hb)
  have HB0 := Lib.hid (HB0.out.trans (hb.mono HB0.out.size))
  clear hb s7
  go_wp2_with fail
  have hC : w.heap.size < v7.heap.size := HX0.out.1
  have HY := Lib.hid (BoxN.made v7 [.bool b0, .bool b1, .bool b2, .bool b3, .bool b4, .bool b5, .bool b6, .bool b7, .int .i64 0, .int .i64 0, .int .i64 0, .int .i64 0, .int .i64 0] 29)
  have hal := (Below.refl v7.heap.size v7).alloc (Nat.le_refl _) (.cells #[.bool b0, .bool b1, .bool b2, .bool b3, .bool b4, .bool b5, .bool b6, .bool b7, .int .i64 0, .int .i64 0, .int .i64 0, .int .i64 0, .int .i64 0] 29)
  have HX0 := Lib.hid (HX0.out.next hal)
  have HB0 := Lib.hid (HB0.out.trans (hal.mono HB0.out.size))
  clear hal
  generalize v7.alloc (.cells #[.bool b0, .bool b1, .bool b2, .bool b3, .bool b4, .bool b5, .bool b6, .bool b7, .int .i64 0, .int .i64 0, .int .i64 0, .int .i64 0, .int .i64 0] 29) = U at *
  generalize v7.heap.size = C at *
  refine (t0 _ HB0.out).mono ?_
  rintro e u0 ⟨rfl, hb⟩
  have HX0 := Lib.hid (HX0.out.next hb)
  have HY := Lib.hid (HY.out.next hb)
  have HB0 := Lib.hid (HB0.out.trans (hb.mono HB0.out.size))
  have y := (HY.out.2 8 _ rfl).1
  have fy := (HY.out.2 8 _ rfl).2
  clear hb t0
  go_wp2_with fail
  clear y fy
  have HY := Lib.hid (HY.out.set 8 (.int .i64 k0) (by simp))
  have HX0 := Lib.hid (HX0.out.other (Nat.ne_of_gt hC) (k := 8) (.int .i64 k0))
  have HB0 := Lib.hid (HB0.out.setCell (p := ⟨C, 8, none⟩) (Nat.le_of_lt hC) (.int .i64 k0))
  generalize u0.setCell ⟨C, 8, none⟩ (.int .i64 k0) = U0 at *
  refine (t1 _ HB0.out).mono ?_
  rintro e u1 ⟨rfl, hb⟩
  have HX0 := Lib.hid (HX0.out.next hb)
  have HY := Lib.hid (HY.out.next hb)
  have HB0 := Lib.hid (HB0.out.trans (hb.mono HB0.out.size))
  have y := (HY.out.2 9 _ rfl).1
  have fy := (HY.out.2 9 _ rfl).2
  clear hb t1
  go_wp2_with fail
  clear y fy
  have HY := Lib.hid (HY.out.set 9 (.int .i64 k1) (by simp))
  have HX0 := Lib.hid (HX0.out.other (Nat.ne_of_gt hC) (k := 9) (.int .i64 k1))
  have HB0 := Lib.hid (HB0.out.setCell (p := ⟨C, 9, none⟩) (Nat.le_of_lt hC) (.int .i64 k1))
  generalize u1.setCell ⟨C, 9, none⟩ (.int .i64 k1) = U1 at *
  refine (t2 _ HB0.out).mono ?_
  rintro e u2 ⟨rfl, hb⟩
  have HX0 := Lib.hid (HX0.out.next hb)
  have HY := Lib.hid (HY.out.next hb)
  have HB0 := Lib.hid (HB0.out.trans (hb.mono HB0.out.size))
  have y := (HY.out.2 10 _ rfl).1
  have fy := (HY.out.2 10 _ rfl).2
  clear hb t2
  go_wp2_with fail
  clear y fy
  have HY := Lib.hid (HY.out.set 10 (.int .i64 k2) (by simp))
  have HX0 := Lib.hid (HX0.out.other (Nat.ne_of_gt hC) (k := 10) (.int .i64 k2))
  have HB0 := Lib.hid (HB0.out.setCell (p := ⟨C, 10, none⟩) (Nat.le_of_lt hC) (.int .i64 k2))
  generalize u2.setCell ⟨C, 10, none⟩ (.int .i64 k2) = U2 at *
  refine (t3 _ HB0.out).mono ?_
  rintro e u3 ⟨rfl, hb⟩
  have HX0 := Lib.hid (HX0.out.next hb)
  have HY := Lib.hid (HY.out.next hb)
  have HB0 := Lib.hid (HB0.out.trans (hb.mono HB0.out.size))
  have y := (HY.out.2 11 _ rfl).1
  have fy := (HY.out.2 11 _ rfl).2
  clear hb t3
  go_wp2_with fail
  clear y fy
  have HY := Lib.hid (HY.out.set 11 (.int .i64 k3) (by simp))
  have HX0 := Lib.hid (HX0.out.other (Nat.ne_of_gt hC) (k := 11) (.int .i64 k3))
  have HB0 := Lib.hid (HB0.out.setCell (p := ⟨C, 11, none⟩) (Nat.le_of_lt hC) (.int .i64 k3))
  generalize u3.setCell ⟨C, 11, none⟩ (.int .i64 k3) = U3 at *
  refine (t4 _ HB0.out).mono ?_
  rintro e u4 ⟨rfl, hb⟩
  have HX0 := Lib.hid (HX0.out.next hb)
  have HY := Lib.hid (HY.out.next hb)
  have HB0 := Lib.hid (HB0.out.trans (hb.mono HB0.out.size))
  have y := (HY.out.2 12 _ rfl).1
  have fy := (HY.out.2 12 _ rfl).2
  clear hb t4
  go_wp2_with fail
  clear y fy
  have HY := Lib.hid (HY.out.set 12 (.int .i64 k4) (by simp))
  have HX0 := Lib.hid (HX0.out.other (Nat.ne_of_gt hC) (k := 12) (.int .i64 k4))
  have HB0 := Lib.hid (HB0.out.setCell (p := ⟨C, 12, none⟩) (Nat.le_of_lt hC) (.int .i64 k4))
  generalize u4.setCell ⟨C, 12, none⟩ (.int .i64 k4) = U4 at *
  refine (cF _ HB0.out).mono ?_
  rintro e f ⟨rfl, hb⟩
  have HX := Lib.hid (HX0.out.next hb)
  have HY := Lib.hid (HY.out.next hb)
  have HB := Lib.hid (HB0.out.trans (hb.mono HB0.out.size))
  have hlt : w.heap.size < f.heap.size := HX.out.1
  have hlt2 : C < f.heap.size := HY.out.1
  have hne : C ≠ w.heap.size := Nat.ne_of_gt hC
  clear hb cF HX0 HB0
  simp only [fndV]
  have y0 := (HY.out.2 0 _ rfl).1
  have fy0 := (HY.out.2 0 _ rfl).2
  have y1 := (HY.out.2 1 _ rfl).1
  have fy1 := (HY.out.2 1 _ rfl).2
  have y2 := (HY.out.2 2 _ rfl).1
  have fy2 := (HY.out.2 2 _ rfl).2
  have y3 := (HY.out.2 3 _ rfl).1
  have fy3 := (HY.out.2 3 _ rfl).2
  have y4 := (HY.out.2 4 _ rfl).1
  have fy4 := (HY.out.2 4 _ rfl).2
  have y5 := (HY.out.2 5 _ rfl).1
  have fy5 := (HY.out.2 5 _ rfl).2
  have y6 := (HY.out.2 6 _ rfl).1
  have fy6 := (HY.out.2 6 _ rfl).2
  have y7 := (HY.out.2 7 _ rfl).1
  have fy7 := (HY.out.2 7 _ rfl).2
  have y8 := (HY.out.2 8 _ rfl).1
  have fy8 := (HY.out.2 8 _ rfl).2
  have y9 := (HY.out.2 9 _ rfl).1
  have fy9 := (HY.out.2 9 _ rfl).2
  have y10 := (HY.out.2 10 _ rfl).1
  have fy10 := (HY.out.2 10 _ rfl).2
  have y11 := (HY.out.2 11 _ rfl).1
  have fy11 := (HY.out.2 11 _ rfl).2
  have y12 := (HY.out.2 12 _ rfl).1
  have fy12 := (HY.out.2 12 _ rfl).2
  have x0 := (HX.out.2 0 _ rfl).1
  have g0 := (HX.out.2 0 _ rfl).2
  have x1 := (HX.out.2 1 _ rfl).1
  have g1 := (HX.out.2 1 _ rfl).2
  have x2 := (HX.out.2 2 _ rfl).1
  have g2 := (HX.out.2 2 _ rfl).2
  have x3 := (HX.out.2 3 _ rfl).1
  have g3 := (HX.out.2 3 _ rfl).2
  have x4 := (HX.out.2 4 _ rfl).1
  have g4 := (HX.out.2 4 _ rfl).2
  have x5 := (HX.out.2 5 _ rfl).1
  have g5 := (HX.out.2 5 _ rfl).2
  have x6 := (HX.out.2 6 _ rfl).1
  have g6 := (HX.out.2 6 _ rfl).2
  have x7 := (HX.out.2 7 _ rfl).1
  have g7 := (HX.out.2 7 _ rfl).2
  have x8 := (HX.out.2 8 _ rfl).1
  have g8 := (HX.out.2 8 _ rfl).2
  have x9 := (HX.out.2 9 _ rfl).1
  have g9 := (HX.out.2 9 _ rfl).2
  have x10 := (HX.out.2 10 _ rfl).1
  have g10 := (HX.out.2 10 _ rfl).2
  have x11 := (HX.out.2 11 _ rfl).1
  have g11 := (HX.out.2 11 _ rfl).2
  have x12 := (HX.out.2 12 _ rfl).1
  have g12 := (HX.out.2 12 _ rfl).2
  go_wp2_with fail
  clear x0 g0 x1 g1 x2 g2 x3 g3 x4 g4 x5 g5 x6 g6 x7 g7 x8 g8 x9 g9 x10 g10 x11 g11 x12 g12
  clear y0 fy0 y1 fy1 y2 fy2 y3 fy3 y4 fy4 y5 fy5 y6 fy6 y7 fy7 y8 fy8 y9 fy9 y10 fy10 y11 fy11 y12 fy12
  have HP := Lib.hid (((((((((((((HX.out.set 0 (.bool b0) (by simp)).set 1 (.bool b1) (by simp)).set 2 (.bool b2) (by simp)).set 3 (.bool b3) (by simp)).set 4 (.bool b4) (by simp)).set 5 (.bool b5) (by simp)).set 6 (.bool b6) (by simp)).set 7 (.bool b7) (by simp)).set 8 (.int .i64 k0) (by simp)).set 9 (.int .i64 k1) (by simp)).set 10 (.int .i64 k2) (by simp)).set 11 (.int .i64 k3) (by simp)).set 12 (.int .i64 k4) (by simp))
  have HQ := Lib.hid (((((((((((((HB.out.setCell (p := ⟨w.heap.size, 0, none⟩) (Nat.le_refl _) (.bool b0)).setCell (p := ⟨w.heap.size, 1, none⟩) (Nat.le_refl _) (.bool b1)).setCell (p := ⟨w.heap.size, 2, none⟩) (Nat.le_refl _) (.bool b2)).setCell (p := ⟨w.heap.size, 3, none⟩) (Nat.le_refl _) (.bool b3)).setCell (p := ⟨w.heap.size, 4, none⟩) (Nat.le_refl _) (.bool b4)).setCell (p := ⟨w.heap.size, 5, none⟩) (Nat.le_refl _) (.bool b5)).setCell (p := ⟨w.heap.size, 6, none⟩) (Nat.le_refl _) (.bool b6)).setCell (p := ⟨w.heap.size, 7, none⟩) (Nat.le_refl _) (.bool b7)).setCell (p := ⟨w.heap.size, 8, none⟩) (Nat.le_refl _) (.int .i64 k0)).setCell (p := ⟨w.heap.size, 9, none⟩) (Nat.le_refl _) (.int .i64 k1)).setCell (p := ⟨w.heap.size, 10, none⟩) (Nat.le_refl _) (.int .i64 k2)).setCell (p := ⟨w.heap.size, 11, none⟩) (Nat.le_refl _) (.int .i64 k3)).setCell (p := ⟨w.heap.size, 12, none⟩) (Nat.le_refl _) (.int .i64 k4))
  generalize (((((((((((((f.setCell ⟨w.heap.size, 0, none⟩ (.bool b0)).setCell ⟨w.heap.size, 1, none⟩ (.bool b1)).setCell ⟨w.heap.size, 2, none⟩ (.bool b2)).setCell ⟨w.heap.size, 3, none⟩ (.bool b3)).setCell ⟨w.heap.size, 4, none⟩ (.bool b4)).setCell ⟨w.heap.size, 5, none⟩ (.bool b5)).setCell ⟨w.heap.size, 6, none⟩ (.bool b6)).setCell ⟨w.heap.size, 7, none⟩ (.bool b7)).setCell ⟨w.heap.size, 8, none⟩ (.int .i64 k0)).setCell ⟨w.heap.size, 9, none⟩ (.int .i64 k1)).setCell ⟨w.heap.size, 10, none⟩ (.int .i64 k2)).setCell ⟨w.heap.size, 11, none⟩ (.int .i64 k3)).setCell ⟨w.heap.size, 12, none⟩ (.int .i64 k4)) = W8 at *
  have hal := (Below.refl W8.heap.size W8).alloc (Nat.le_refl _) (.cells #[.string ⟨#[]⟩, .string ⟨#[]⟩, .bool false] 147)
  have HP := Lib.hid (HP.out.next hal)
  have HQ := Lib.hid (HQ.out.trans (hal.mono HQ.out.size))
  clear hal
  generalize W8.alloc (.cells #[.string ⟨#[]⟩, .string ⟨#[]⟩, .bool false] 147) = W9 at *
  have p0 := (HP.out.2 0 _ rfl).1
  have p1 := (HP.out.2 1 _ rfl).1
  have p2 := (HP.out.2 2 _ rfl).1
  have p3 := (HP.out.2 3 _ rfl).1
  have p4 := (HP.out.2 4 _ rfl).1
  have p5 := (HP.out.2 5 _ rfl).1
  have p6 := (HP.out.2 6 _ rfl).1
  have p7 := (HP.out.2 7 _ rfl).1
  have p8 := (HP.out.2 8 _ rfl).1
  have p9 := (HP.out.2 9 _ rfl).1
  have p10 := (HP.out.2 10 _ rfl).1
  have p11 := (HP.out.2 11 _ rfl).1
  have p12 := (HP.out.2 12 _ rfl).1
  refine bodyPost_ret (v := .agg #[.bool b0, .bool b1, .bool b2, .bool b3, .bool b4, .bool b5, .bool b6, .bool b7, .int .i64 k0, .int .i64 k1, .int .i64 k2, .int .i64 k3, .int .i64 k4]) (by simp [results, Tryz.results46, go_sem, p0, p1, p2, p3, p4, p5, p6, p7, p8, p9, p10, p11, p12]) rfl ⟨by rw [HV.out], HQ.out⟩

set_option maxRecDepth 100000 in
set_option maxHeartbeats 4000000 in
theorem rof_1 (lo : Nat) (v : Value) (ds : List Dir) (w : World) (hv : Dirs lo w v ds) (hok : DirsOk ds) (N V : List UInt8) (hf : fstN ds nStale = some (N, V, true)) :
    Calls Tryz.prog 46 #[v] w fun e w' => e = .returned (rulV ds) ∧ Below w.heap.size w w' := by
  have cF := fun W (hb : Below w.heap.size w W) => rfind_any lo v ds nStale W (hv.below hb) hok.1
  rw [hf] at cF
  have HV : Hid (rulV ds = .agg #[.bool (hasN ds nNoStore), .bool (hasN ds nNoCache), .bool (hasN ds nPrivate), .bool (hasN ds nPublic), .bool (hasN ds nMust), .bool (hasN ds nProxy), .bool (hasN ds nImmut), .bool (hasN ds nOnly), .int .i64 (numN ds nMaxAge), .int .i64 (numN ds nSMax), .int .i64 (numN ds nStale), .int .i64 (numN ds nFresh), .int .i64 (numN ds nIfErr)]) := Lib.hid (by
    have h : stlN ds nStale = numN ds nStale := by rw [stlN, hf]; rw [numN, hf] <;> rfl
    rw [rulV, h])
  generalize rulV ds = R at *
  have s0 := fun W (hb : Below w.heap.size w W) => rhas_any lo v ds nNoStore W (hv.below hb) hok.1
  generalize hasN ds nNoStore = b0 at *
  have s1 := fun W (hb : Below w.heap.size w W) => rhas_any lo v ds nNoCache W (hv.below hb) hok.1
  generalize hasN ds nNoCache = b1 at *
  have s2 := fun W (hb : Below w.heap.size w W) => rhas_any lo v ds nPrivate W (hv.below hb) hok.1
  generalize hasN ds nPrivate = b2 at *
  have s3 := fun W (hb : Below w.heap.size w W) => rhas_any lo v ds nPublic W (hv.below hb) hok.1
  generalize hasN ds nPublic = b3 at *
  have s4 := fun W (hb : Below w.heap.size w W) => rhas_any lo v ds nMust W (hv.below hb) hok.1
  generalize hasN ds nMust = b4 at *
  have s5 := fun W (hb : Below w.heap.size w W) => rhas_any lo v ds nProxy W (hv.below hb) hok.1
  generalize hasN ds nProxy = b5 at *
  have s6 := fun W (hb : Below w.heap.size w W) => rhas_any lo v ds nImmut W (hv.below hb) hok.1
  generalize hasN ds nImmut = b6 at *
  have s7 := fun W (hb : Below w.heap.size w W) => rhas_any lo v ds nOnly W (hv.below hb) hok.1
  generalize hasN ds nOnly = b7 at *
  have t0 := fun W (hb : Below w.heap.size w W) => rnumber_any lo v ds nMaxAge W (hv.below hb) hok
  generalize numN ds nMaxAge = k0 at *
  have t1 := fun W (hb : Below w.heap.size w W) => rnumber_any lo v ds nSMax W (hv.below hb) hok
  generalize numN ds nSMax = k1 at *
  have t2 := fun W (hb : Below w.heap.size w W) => rnumber_any lo v ds nStale W (hv.below hb) hok
  generalize numN ds nStale = k2 at *
  have t3 := fun W (hb : Below w.heap.size w W) => rnumber_any lo v ds nFresh W (hv.below hb) hok
  generalize numN ds nFresh = k3 at *
  have t4 := fun W (hb : Below w.heap.size w W) => rnumber_any lo v ds nIfErr W (hv.below hb) hok
  generalize numN ds nIfErr = k4 at *
  obtain ⟨ao, cap, rfl, _⟩ := hv
  have HB0 := Lib.hid ((Below.refl w.heap.size w).alloc (Nat.le_refl _) (.cells #[.bool false, .bool false, .bool false, .bool false, .bool false, .bool false, .bool false, .bool false, .int .i64 0, .int .i64 0, .int .i64 0, .int .i64 0, .int .i64 0] 29))
  have HX0 := Lib.hid (BoxN.made w [.bool false, .bool false, .bool false, .bool false, .bool false, .bool false, .bool false, .bool false, .int .i64 0, .int .i64 0, .int .i64 0, .int .i64 0, .int .i64 0] 29)
  clear hf
  go_enter Tryz.func46, Tryz.ntmps46
  go_wp2_with fail
  refine (s0 _ HB0.out).mono ?_
  rintro e v0 ⟨rfl, hb⟩
  have HX0 := Lib.hid (HX0.out.next hb)
  have HB0 := Lib.hid (HB0.out.trans (hb.mono HB0.out.size))
  clear hb s0
  go_wp2_with fail
  refine (s1 _ HB0.out).mono ?_
  rintro e v1 ⟨rfl, hb⟩
  have HX0 := Lib.hid (HX0.out.next hb)
  have HB0 := Lib.hid (HB0.out.trans (hb.mono HB0.out.size))
  clear hb s1
  go_wp2_with fail
  refine (s2 _ HB0.out).mono ?_
  rintro e v2 ⟨rfl, hb⟩
  have HX0 := Lib.hid (HX0.out.next hb)
  have HB0 := Lib.hid (HB0.out.trans (hb.mono HB0.out.size))
  clear hb s2
  go_wp2_with fail
  refine (s3 _ HB0.out).mono ?_
  rintro e v3 ⟨rfl, hb⟩
  have HX0 := Lib.hid (HX0.out.next hb)
  have HB0 := Lib.hid (HB0.out.trans (hb.mono HB0.out.size))
  clear hb s3
  go_wp2_with fail
  refine (s4 _ HB0.out).mono ?_
  rintro e v4 ⟨rfl, hb⟩
  have HX0 := Lib.hid (HX0.out.next hb)
  have HB0 := Lib.hid (HB0.out.trans (hb.mono HB0.out.size))
  clear hb s4
  go_wp2_with fail
  refine (s5 _ HB0.out).mono ?_
  rintro e v5 ⟨rfl, hb⟩
  have HX0 := Lib.hid (HX0.out.next hb)
  have HB0 := Lib.hid (HB0.out.trans (hb.mono HB0.out.size))
  clear hb s5
  go_wp2_with fail
  refine (s6 _ HB0.out).mono ?_
  rintro e v6 ⟨rfl, hb⟩
  have HX0 := Lib.hid (HX0.out.next hb)
  have HB0 := Lib.hid (HB0.out.trans (hb.mono HB0.out.size))
  clear hb s6
  go_wp2_with fail
  refine (s7 _ HB0.out).mono ?_
  rintro e v7 ⟨rfl, hb⟩
  have HX0 := Lib.hid (HX0.out.next hb)
  have HB0 := Lib.hid (HB0.out.trans (hb.mono HB0.out.size))
  clear hb s7
  go_wp2_with fail
  have hC : w.heap.size < v7.heap.size := HX0.out.1
  have HY := Lib.hid (BoxN.made v7 [.bool b0, .bool b1, .bool b2, .bool b3, .bool b4, .bool b5, .bool b6, .bool b7, .int .i64 0, .int .i64 0, .int .i64 0, .int .i64 0, .int .i64 0] 29)
  have hal := (Below.refl v7.heap.size v7).alloc (Nat.le_refl _) (.cells #[.bool b0, .bool b1, .bool b2, .bool b3, .bool b4, .bool b5, .bool b6, .bool b7, .int .i64 0, .int .i64 0, .int .i64 0, .int .i64 0, .int .i64 0] 29)
  have HX0 := Lib.hid (HX0.out.next hal)
  have HB0 := Lib.hid (HB0.out.trans (hal.mono HB0.out.size))
  clear hal
  generalize v7.alloc (.cells #[.bool b0, .bool b1, .bool b2, .bool b3, .bool b4, .bool b5, .bool b6, .bool b7, .int .i64 0, .int .i64 0, .int .i64 0, .int .i64 0, .int .i64 0] 29) = U at *
  generalize v7.heap.size = C at *
  refine (t0 _ HB0.out).mono ?_
  rintro e u0 ⟨rfl, hb⟩
  have HX0 := Lib.hid (HX0.out.next hb)
  have HY := Lib.hid (HY.out.next hb)
  have HB0 := Lib.hid (HB0.out.trans (hb.mono HB0.out.size))
  have y := (HY.out.2 8 _ rfl).1
  have fy := (HY.out.2 8 _ rfl).2
  clear hb t0
  go_wp2_with fail
  clear y fy
  have HY := Lib.hid (HY.out.set 8 (.int .i64 k0) (by simp))
  have HX0 := Lib.hid (HX0.out.other (Nat.ne_of_gt hC) (k := 8) (.int .i64 k0))
  have HB0 := Lib.hid (HB0.out.setCell (p := ⟨C, 8, none⟩) (Nat.le_of_lt hC) (.int .i64 k0))
  generalize u0.setCell ⟨C, 8, none⟩ (.int .i64 k0) = U0 at *
  refine (t1 _ HB0.out).mono ?_
  rintro e u1 ⟨rfl, hb⟩
  have HX0 := Lib.hid (HX0.out.next hb)
  have HY := Lib.hid (HY.out.next hb)
  have HB0 := Lib.hid (HB0.out.trans (hb.mono HB0.out.size))
  have y := (HY.out.2 9 _ rfl).1
  have fy := (HY.out.2 9 _ rfl).2
  clear hb t1
  go_wp2_with fail
  clear y fy
  have HY := Lib.hid (HY.out.set 9 (.int .i64 k1) (by simp))
  have HX0 := Lib.hid (HX0.out.other (Nat.ne_of_gt hC) (k := 9) (.int .i64 k1))
  have HB0 := Lib.hid (HB0.out.setCell (p := ⟨C, 9, none⟩) (Nat.le_of_lt hC) (.int .i64 k1))
  generalize u1.setCell ⟨C, 9, none⟩ (.int .i64 k1) = U1 at *
  refine (t2 _ HB0.out).mono ?_
  rintro e u2 ⟨rfl, hb⟩
  have HX0 := Lib.hid (HX0.out.next hb)
  have HY := Lib.hid (HY.out.next hb)
  have HB0 := Lib.hid (HB0.out.trans (hb.mono HB0.out.size))
  have y := (HY.out.2 10 _ rfl).1
  have fy := (HY.out.2 10 _ rfl).2
  clear hb t2
  go_wp2_with fail
  clear y fy
  have HY := Lib.hid (HY.out.set 10 (.int .i64 k2) (by simp))
  have HX0 := Lib.hid (HX0.out.other (Nat.ne_of_gt hC) (k := 10) (.int .i64 k2))
  have HB0 := Lib.hid (HB0.out.setCell (p := ⟨C, 10, none⟩) (Nat.le_of_lt hC) (.int .i64 k2))
  generalize u2.setCell ⟨C, 10, none⟩ (.int .i64 k2) = U2 at *
  refine (t3 _ HB0.out).mono ?_
  rintro e u3 ⟨rfl, hb⟩
  have HX0 := Lib.hid (HX0.out.next hb)
  have HY := Lib.hid (HY.out.next hb)
  have HB0 := Lib.hid (HB0.out.trans (hb.mono HB0.out.size))
  have y := (HY.out.2 11 _ rfl).1
  have fy := (HY.out.2 11 _ rfl).2
  clear hb t3
  go_wp2_with fail
  clear y fy
  have HY := Lib.hid (HY.out.set 11 (.int .i64 k3) (by simp))
  have HX0 := Lib.hid (HX0.out.other (Nat.ne_of_gt hC) (k := 11) (.int .i64 k3))
  have HB0 := Lib.hid (HB0.out.setCell (p := ⟨C, 11, none⟩) (Nat.le_of_lt hC) (.int .i64 k3))
  generalize u3.setCell ⟨C, 11, none⟩ (.int .i64 k3) = U3 at *
  refine (t4 _ HB0.out).mono ?_
  rintro e u4 ⟨rfl, hb⟩
  have HX0 := Lib.hid (HX0.out.next hb)
  have HY := Lib.hid (HY.out.next hb)
  have HB0 := Lib.hid (HB0.out.trans (hb.mono HB0.out.size))
  have y := (HY.out.2 12 _ rfl).1
  have fy := (HY.out.2 12 _ rfl).2
  clear hb t4
  go_wp2_with fail
  clear y fy
  have HY := Lib.hid (HY.out.set 12 (.int .i64 k4) (by simp))
  have HX0 := Lib.hid (HX0.out.other (Nat.ne_of_gt hC) (k := 12) (.int .i64 k4))
  have HB0 := Lib.hid (HB0.out.setCell (p := ⟨C, 12, none⟩) (Nat.le_of_lt hC) (.int .i64 k4))
  generalize u4.setCell ⟨C, 12, none⟩ (.int .i64 k4) = U4 at *
  refine (cF _ HB0.out).mono ?_
  rintro e f ⟨rfl, hb⟩
  have HX := Lib.hid (HX0.out.next hb)
  have HY := Lib.hid (HY.out.next hb)
  have HB := Lib.hid (HB0.out.trans (hb.mono HB0.out.size))
  have hlt : w.heap.size < f.heap.size := HX.out.1
  have hlt2 : C < f.heap.size := HY.out.1
  have hne : C ≠ w.heap.size := Nat.ne_of_gt hC
  clear hb cF HX0 HB0
  simp only [fndV, dirV]
  have y0 := (HY.out.2 0 _ rfl).1
  have fy0 := (HY.out.2 0 _ rfl).2
  have y1 := (HY.out.2 1 _ rfl).1
  have fy1 := (HY.out.2 1 _ rfl).2
  have y2 := (HY.out.2 2 _ rfl).1
  have fy2 := (HY.out.2 2 _ rfl).2
  have y3 := (HY.out.2 3 _ rfl).1
  have fy3 := (HY.out.2 3 _ rfl).2
  have y4 := (HY.out.2 4 _ rfl).1
  have fy4 := (HY.out.2 4 _ rfl).2
  have y5 := (HY.out.2 5 _ rfl).1
  have fy5 := (HY.out.2 5 _ rfl).2
  have y6 := (HY.out.2 6 _ rfl).1
  have fy6 := (HY.out.2 6 _ rfl).2
  have y7 := (HY.out.2 7 _ rfl).1
  have fy7 := (HY.out.2 7 _ rfl).2
  have y8 := (HY.out.2 8 _ rfl).1
  have fy8 := (HY.out.2 8 _ rfl).2
  have y9 := (HY.out.2 9 _ rfl).1
  have fy9 := (HY.out.2 9 _ rfl).2
  have y10 := (HY.out.2 10 _ rfl).1
  have fy10 := (HY.out.2 10 _ rfl).2
  have y11 := (HY.out.2 11 _ rfl).1
  have fy11 := (HY.out.2 11 _ rfl).2
  have y12 := (HY.out.2 12 _ rfl).1
  have fy12 := (HY.out.2 12 _ rfl).2
  have x0 := (HX.out.2 0 _ rfl).1
  have g0 := (HX.out.2 0 _ rfl).2
  have x1 := (HX.out.2 1 _ rfl).1
  have g1 := (HX.out.2 1 _ rfl).2
  have x2 := (HX.out.2 2 _ rfl).1
  have g2 := (HX.out.2 2 _ rfl).2
  have x3 := (HX.out.2 3 _ rfl).1
  have g3 := (HX.out.2 3 _ rfl).2
  have x4 := (HX.out.2 4 _ rfl).1
  have g4 := (HX.out.2 4 _ rfl).2
  have x5 := (HX.out.2 5 _ rfl).1
  have g5 := (HX.out.2 5 _ rfl).2
  have x6 := (HX.out.2 6 _ rfl).1
  have g6 := (HX.out.2 6 _ rfl).2
  have x7 := (HX.out.2 7 _ rfl).1
  have g7 := (HX.out.2 7 _ rfl).2
  have x8 := (HX.out.2 8 _ rfl).1
  have g8 := (HX.out.2 8 _ rfl).2
  have x9 := (HX.out.2 9 _ rfl).1
  have g9 := (HX.out.2 9 _ rfl).2
  have x10 := (HX.out.2 10 _ rfl).1
  have g10 := (HX.out.2 10 _ rfl).2
  have x11 := (HX.out.2 11 _ rfl).1
  have g11 := (HX.out.2 11 _ rfl).2
  have x12 := (HX.out.2 12 _ rfl).1
  have g12 := (HX.out.2 12 _ rfl).2
  go_wp2_with fail
  clear x0 g0 x1 g1 x2 g2 x3 g3 x4 g4 x5 g5 x6 g6 x7 g7 x8 g8 x9 g9 x10 g10 x11 g11 x12 g12
  clear y0 fy0 y1 fy1 y2 fy2 y3 fy3 y4 fy4 y5 fy5 y6 fy6 y7 fy7 y8 fy8 y9 fy9 y10 fy10 y11 fy11 y12 fy12
  have HP := Lib.hid (((((((((((((HX.out.set 0 (.bool b0) (by simp)).set 1 (.bool b1) (by simp)).set 2 (.bool b2) (by simp)).set 3 (.bool b3) (by simp)).set 4 (.bool b4) (by simp)).set 5 (.bool b5) (by simp)).set 6 (.bool b6) (by simp)).set 7 (.bool b7) (by simp)).set 8 (.int .i64 k0) (by simp)).set 9 (.int .i64 k1) (by simp)).set 10 (.int .i64 k2) (by simp)).set 11 (.int .i64 k3) (by simp)).set 12 (.int .i64 k4) (by simp))
  have HQ := Lib.hid (((((((((((((HB.out.setCell (p := ⟨w.heap.size, 0, none⟩) (Nat.le_refl _) (.bool b0)).setCell (p := ⟨w.heap.size, 1, none⟩) (Nat.le_refl _) (.bool b1)).setCell (p := ⟨w.heap.size, 2, none⟩) (Nat.le_refl _) (.bool b2)).setCell (p := ⟨w.heap.size, 3, none⟩) (Nat.le_refl _) (.bool b3)).setCell (p := ⟨w.heap.size, 4, none⟩) (Nat.le_refl _) (.bool b4)).setCell (p := ⟨w.heap.size, 5, none⟩) (Nat.le_refl _) (.bool b5)).setCell (p := ⟨w.heap.size, 6, none⟩) (Nat.le_refl _) (.bool b6)).setCell (p := ⟨w.heap.size, 7, none⟩) (Nat.le_refl _) (.bool b7)).setCell (p := ⟨w.heap.size, 8, none⟩) (Nat.le_refl _) (.int .i64 k0)).setCell (p := ⟨w.heap.size, 9, none⟩) (Nat.le_refl _) (.int .i64 k1)).setCell (p := ⟨w.heap.size, 10, none⟩) (Nat.le_refl _) (.int .i64 k2)).setCell (p := ⟨w.heap.size, 11, none⟩) (Nat.le_refl _) (.int .i64 k3)).setCell (p := ⟨w.heap.size, 12, none⟩) (Nat.le_refl _) (.int .i64 k4))
  generalize (((((((((((((f.setCell ⟨w.heap.size, 0, none⟩ (.bool b0)).setCell ⟨w.heap.size, 1, none⟩ (.bool b1)).setCell ⟨w.heap.size, 2, none⟩ (.bool b2)).setCell ⟨w.heap.size, 3, none⟩ (.bool b3)).setCell ⟨w.heap.size, 4, none⟩ (.bool b4)).setCell ⟨w.heap.size, 5, none⟩ (.bool b5)).setCell ⟨w.heap.size, 6, none⟩ (.bool b6)).setCell ⟨w.heap.size, 7, none⟩ (.bool b7)).setCell ⟨w.heap.size, 8, none⟩ (.int .i64 k0)).setCell ⟨w.heap.size, 9, none⟩ (.int .i64 k1)).setCell ⟨w.heap.size, 10, none⟩ (.int .i64 k2)).setCell ⟨w.heap.size, 11, none⟩ (.int .i64 k3)).setCell ⟨w.heap.size, 12, none⟩ (.int .i64 k4)) = W8 at *
  have hal := (Below.refl W8.heap.size W8).alloc (Nat.le_refl _) (.cells #[.string (strB N), .string (strB V), .bool true] 147)
  have HP := Lib.hid (HP.out.next hal)
  have HQ := Lib.hid (HQ.out.trans (hal.mono HQ.out.size))
  clear hal
  generalize W8.alloc (.cells #[.string (strB N), .string (strB V), .bool true] 147) = W9 at *
  have p0 := (HP.out.2 0 _ rfl).1
  have p1 := (HP.out.2 1 _ rfl).1
  have p2 := (HP.out.2 2 _ rfl).1
  have p3 := (HP.out.2 3 _ rfl).1
  have p4 := (HP.out.2 4 _ rfl).1
  have p5 := (HP.out.2 5 _ rfl).1
  have p6 := (HP.out.2 6 _ rfl).1
  have p7 := (HP.out.2 7 _ rfl).1
  have p8 := (HP.out.2 8 _ rfl).1
  have p9 := (HP.out.2 9 _ rfl).1
  have p10 := (HP.out.2 10 _ rfl).1
  have p11 := (HP.out.2 11 _ rfl).1
  have p12 := (HP.out.2 12 _ rfl).1
  refine bodyPost_ret (v := .agg #[.bool b0, .bool b1, .bool b2, .bool b3, .bool b4, .bool b5, .bool b6, .bool b7, .int .i64 k0, .int .i64 k1, .int .i64 k2, .int .i64 k3, .int .i64 k4]) (by simp [results, Tryz.results46, go_sem, p0, p1, p2, p3, p4, p5, p6, p7, p8, p9, p10, p11, p12]) rfl ⟨by rw [HV.out], HQ.out⟩

set_option maxRecDepth 100000 in
set_option maxHeartbeats 4000000 in
theorem rof_2 (lo : Nat) (v : Value) (ds : List Dir) (w : World) (hv : Dirs lo w v ds) (hok : DirsOk ds) (N V : List UInt8) (hf : fstN ds nStale = some (N, V, false)) :
    Calls Tryz.prog 46 #[v] w fun e w' => e = .returned (rulV ds) ∧ Below w.heap.size w w' := by
  have cF := fun W (hb : Below w.heap.size w W) => rfind_any lo v ds nStale W (hv.below hb) hok.1
  rw [hf] at cF
  have HV : Hid (rulV ds = .agg #[.bool (hasN ds nNoStore), .bool (hasN ds nNoCache), .bool (hasN ds nPrivate), .bool (hasN ds nPublic), .bool (hasN ds nMust), .bool (hasN ds nProxy), .bool (hasN ds nImmut), .bool (hasN ds nOnly), .int .i64 (numN ds nMaxAge), .int .i64 (numN ds nSMax), .int .i64 (2147483648), .int .i64 (numN ds nFresh), .int .i64 (numN ds nIfErr)]) := Lib.hid (by
    have h : stlN ds nStale = 2147483648 := by rw [stlN, hf] <;> rfl
    rw [rulV, h])
  generalize rulV ds = R at *
  have s0 := fun W (hb : Below w.heap.size w W) => rhas_any lo v ds nNoStore W (hv.below hb) hok.1
  generalize hasN ds nNoStore = b0 at *
  have s1 := fun W (hb : Below w.heap.size w W) => rhas_any lo v ds nNoCache W (hv.below hb) hok.1
  generalize hasN ds nNoCache = b1 at *
  have s2 := fun W (hb : Below w.heap.size w W) => rhas_any lo v ds nPrivate W (hv.below hb) hok.1
  generalize hasN ds nPrivate = b2 at *
  have s3 := fun W (hb : Below w.heap.size w W) => rhas_any lo v ds nPublic W (hv.below hb) hok.1
  generalize hasN ds nPublic = b3 at *
  have s4 := fun W (hb : Below w.heap.size w W) => rhas_any lo v ds nMust W (hv.below hb) hok.1
  generalize hasN ds nMust = b4 at *
  have s5 := fun W (hb : Below w.heap.size w W) => rhas_any lo v ds nProxy W (hv.below hb) hok.1
  generalize hasN ds nProxy = b5 at *
  have s6 := fun W (hb : Below w.heap.size w W) => rhas_any lo v ds nImmut W (hv.below hb) hok.1
  generalize hasN ds nImmut = b6 at *
  have s7 := fun W (hb : Below w.heap.size w W) => rhas_any lo v ds nOnly W (hv.below hb) hok.1
  generalize hasN ds nOnly = b7 at *
  have t0 := fun W (hb : Below w.heap.size w W) => rnumber_any lo v ds nMaxAge W (hv.below hb) hok
  generalize numN ds nMaxAge = k0 at *
  have t1 := fun W (hb : Below w.heap.size w W) => rnumber_any lo v ds nSMax W (hv.below hb) hok
  generalize numN ds nSMax = k1 at *
  have t2 := fun W (hb : Below w.heap.size w W) => rnumber_any lo v ds nStale W (hv.below hb) hok
  generalize numN ds nStale = k2 at *
  have t3 := fun W (hb : Below w.heap.size w W) => rnumber_any lo v ds nFresh W (hv.below hb) hok
  generalize numN ds nFresh = k3 at *
  have t4 := fun W (hb : Below w.heap.size w W) => rnumber_any lo v ds nIfErr W (hv.below hb) hok
  generalize numN ds nIfErr = k4 at *
  obtain ⟨ao, cap, rfl, _⟩ := hv
  have HB0 := Lib.hid ((Below.refl w.heap.size w).alloc (Nat.le_refl _) (.cells #[.bool false, .bool false, .bool false, .bool false, .bool false, .bool false, .bool false, .bool false, .int .i64 0, .int .i64 0, .int .i64 0, .int .i64 0, .int .i64 0] 29))
  have HX0 := Lib.hid (BoxN.made w [.bool false, .bool false, .bool false, .bool false, .bool false, .bool false, .bool false, .bool false, .int .i64 0, .int .i64 0, .int .i64 0, .int .i64 0, .int .i64 0] 29)
  clear hf
  go_enter Tryz.func46, Tryz.ntmps46
  go_wp2_with fail
  refine (s0 _ HB0.out).mono ?_
  rintro e v0 ⟨rfl, hb⟩
  have HX0 := Lib.hid (HX0.out.next hb)
  have HB0 := Lib.hid (HB0.out.trans (hb.mono HB0.out.size))
  clear hb s0
  go_wp2_with fail
  refine (s1 _ HB0.out).mono ?_
  rintro e v1 ⟨rfl, hb⟩
  have HX0 := Lib.hid (HX0.out.next hb)
  have HB0 := Lib.hid (HB0.out.trans (hb.mono HB0.out.size))
  clear hb s1
  go_wp2_with fail
  refine (s2 _ HB0.out).mono ?_
  rintro e v2 ⟨rfl, hb⟩
  have HX0 := Lib.hid (HX0.out.next hb)
  have HB0 := Lib.hid (HB0.out.trans (hb.mono HB0.out.size))
  clear hb s2
  go_wp2_with fail
  refine (s3 _ HB0.out).mono ?_
  rintro e v3 ⟨rfl, hb⟩
  have HX0 := Lib.hid (HX0.out.next hb)
  have HB0 := Lib.hid (HB0.out.trans (hb.mono HB0.out.size))
  clear hb s3
  go_wp2_with fail
  refine (s4 _ HB0.out).mono ?_
  rintro e v4 ⟨rfl, hb⟩
  have HX0 := Lib.hid (HX0.out.next hb)
  have HB0 := Lib.hid (HB0.out.trans (hb.mono HB0.out.size))
  clear hb s4
  go_wp2_with fail
  refine (s5 _ HB0.out).mono ?_
  rintro e v5 ⟨rfl, hb⟩
  have HX0 := Lib.hid (HX0.out.next hb)
  have HB0 := Lib.hid (HB0.out.trans (hb.mono HB0.out.size))
  clear hb s5
  go_wp2_with fail
  refine (s6 _ HB0.out).mono ?_
  rintro e v6 ⟨rfl, hb⟩
  have HX0 := Lib.hid (HX0.out.next hb)
  have HB0 := Lib.hid (HB0.out.trans (hb.mono HB0.out.size))
  clear hb s6
  go_wp2_with fail
  refine (s7 _ HB0.out).mono ?_
  rintro e v7 ⟨rfl, hb⟩
  have HX0 := Lib.hid (HX0.out.next hb)
  have HB0 := Lib.hid (HB0.out.trans (hb.mono HB0.out.size))
  clear hb s7
  go_wp2_with fail
  have hC : w.heap.size < v7.heap.size := HX0.out.1
  have HY := Lib.hid (BoxN.made v7 [.bool b0, .bool b1, .bool b2, .bool b3, .bool b4, .bool b5, .bool b6, .bool b7, .int .i64 0, .int .i64 0, .int .i64 0, .int .i64 0, .int .i64 0] 29)
  have hal := (Below.refl v7.heap.size v7).alloc (Nat.le_refl _) (.cells #[.bool b0, .bool b1, .bool b2, .bool b3, .bool b4, .bool b5, .bool b6, .bool b7, .int .i64 0, .int .i64 0, .int .i64 0, .int .i64 0, .int .i64 0] 29)
  have HX0 := Lib.hid (HX0.out.next hal)
  have HB0 := Lib.hid (HB0.out.trans (hal.mono HB0.out.size))
  clear hal
  generalize v7.alloc (.cells #[.bool b0, .bool b1, .bool b2, .bool b3, .bool b4, .bool b5, .bool b6, .bool b7, .int .i64 0, .int .i64 0, .int .i64 0, .int .i64 0, .int .i64 0] 29) = U at *
  generalize v7.heap.size = C at *
  refine (t0 _ HB0.out).mono ?_
  rintro e u0 ⟨rfl, hb⟩
  have HX0 := Lib.hid (HX0.out.next hb)
  have HY := Lib.hid (HY.out.next hb)
  have HB0 := Lib.hid (HB0.out.trans (hb.mono HB0.out.size))
  have y := (HY.out.2 8 _ rfl).1
  have fy := (HY.out.2 8 _ rfl).2
  clear hb t0
  go_wp2_with fail
  clear y fy
  have HY := Lib.hid (HY.out.set 8 (.int .i64 k0) (by simp))
  have HX0 := Lib.hid (HX0.out.other (Nat.ne_of_gt hC) (k := 8) (.int .i64 k0))
  have HB0 := Lib.hid (HB0.out.setCell (p := ⟨C, 8, none⟩) (Nat.le_of_lt hC) (.int .i64 k0))
  generalize u0.setCell ⟨C, 8, none⟩ (.int .i64 k0) = U0 at *
  refine (t1 _ HB0.out).mono ?_
  rintro e u1 ⟨rfl, hb⟩
  have HX0 := Lib.hid (HX0.out.next hb)
  have HY := Lib.hid (HY.out.next hb)
  have HB0 := Lib.hid (HB0.out.trans (hb.mono HB0.out.size))
  have y := (HY.out.2 9 _ rfl).1
  have fy := (HY.out.2 9 _ rfl).2
  clear hb t1
  go_wp2_with fail
  clear y fy
  have HY := Lib.hid (HY.out.set 9 (.int .i64 k1) (by simp))
  have HX0 := Lib.hid (HX0.out.other (Nat.ne_of_gt hC) (k := 9) (.int .i64 k1))
  have HB0 := Lib.hid (HB0.out.setCell (p := ⟨C, 9, none⟩) (Nat.le_of_lt hC) (.int .i64 k1))
  generalize u1.setCell ⟨C, 9, none⟩ (.int .i64 k1) = U1 at *
  refine (t2 _ HB0.out).mono ?_
  rintro e u2 ⟨rfl, hb⟩
  have HX0 := Lib.hid (HX0.out.next hb)
  have HY := Lib.hid (HY.out.next hb)
  have HB0 := Lib.hid (HB0.out.trans (hb.mono HB0.out.size))
  have y := (HY.out.2 10 _ rfl).1
  have fy := (HY.out.2 10 _ rfl).2
  clear hb t2
  go_wp2_with fail
  clear y fy
  have HY := Lib.hid (HY.out.set 10 (.int .i64 k2) (by simp))
  have HX0 := Lib.hid (HX0.out.other (Nat.ne_of_gt hC) (k := 10) (.int .i64 k2))
  have HB0 := Lib.hid (HB0.out.setCell (p := ⟨C, 10, none⟩) (Nat.le_of_lt hC) (.int .i64 k2))
  generalize u2.setCell ⟨C, 10, none⟩ (.int .i64 k2) = U2 at *
  refine (t3 _ HB0.out).mono ?_
  rintro e u3 ⟨rfl, hb⟩
  have HX0 := Lib.hid (HX0.out.next hb)
  have HY := Lib.hid (HY.out.next hb)
  have HB0 := Lib.hid (HB0.out.trans (hb.mono HB0.out.size))
  have y := (HY.out.2 11 _ rfl).1
  have fy := (HY.out.2 11 _ rfl).2
  clear hb t3
  go_wp2_with fail
  clear y fy
  have HY := Lib.hid (HY.out.set 11 (.int .i64 k3) (by simp))
  have HX0 := Lib.hid (HX0.out.other (Nat.ne_of_gt hC) (k := 11) (.int .i64 k3))
  have HB0 := Lib.hid (HB0.out.setCell (p := ⟨C, 11, none⟩) (Nat.le_of_lt hC) (.int .i64 k3))
  generalize u3.setCell ⟨C, 11, none⟩ (.int .i64 k3) = U3 at *
  refine (t4 _ HB0.out).mono ?_
  rintro e u4 ⟨rfl, hb⟩
  have HX0 := Lib.hid (HX0.out.next hb)
  have HY := Lib.hid (HY.out.next hb)
  have HB0 := Lib.hid (HB0.out.trans (hb.mono HB0.out.size))
  have y := (HY.out.2 12 _ rfl).1
  have fy := (HY.out.2 12 _ rfl).2
  clear hb t4
  go_wp2_with fail
  clear y fy
  have HY := Lib.hid (HY.out.set 12 (.int .i64 k4) (by simp))
  have HX0 := Lib.hid (HX0.out.other (Nat.ne_of_gt hC) (k := 12) (.int .i64 k4))
  have HB0 := Lib.hid (HB0.out.setCell (p := ⟨C, 12, none⟩) (Nat.le_of_lt hC) (.int .i64 k4))
  generalize u4.setCell ⟨C, 12, none⟩ (.int .i64 k4) = U4 at *
  refine (cF _ HB0.out).mono ?_
  rintro e f ⟨rfl, hb⟩
  have HX := Lib.hid (HX0.out.next hb)
  have HY := Lib.hid (HY.out.next hb)
  have HB := Lib.hid (HB0.out.trans (hb.mono HB0.out.size))
  have hlt : w.heap.size < f.heap.size := HX.out.1
  have hlt2 : C < f.heap.size := HY.out.1
  have hne : C ≠ w.heap.size := Nat.ne_of_gt hC
  clear hb cF HX0 HB0
  simp only [fndV, dirV]
  have y0 := (HY.out.2 0 _ rfl).1
  have fy0 := (HY.out.2 0 _ rfl).2
  have y1 := (HY.out.2 1 _ rfl).1
  have fy1 := (HY.out.2 1 _ rfl).2
  have y2 := (HY.out.2 2 _ rfl).1
  have fy2 := (HY.out.2 2 _ rfl).2
  have y3 := (HY.out.2 3 _ rfl).1
  have fy3 := (HY.out.2 3 _ rfl).2
  have y4 := (HY.out.2 4 _ rfl).1
  have fy4 := (HY.out.2 4 _ rfl).2
  have y5 := (HY.out.2 5 _ rfl).1
  have fy5 := (HY.out.2 5 _ rfl).2
  have y6 := (HY.out.2 6 _ rfl).1
  have fy6 := (HY.out.2 6 _ rfl).2
  have y7 := (HY.out.2 7 _ rfl).1
  have fy7 := (HY.out.2 7 _ rfl).2
  have y8 := (HY.out.2 8 _ rfl).1
  have fy8 := (HY.out.2 8 _ rfl).2
  have y9 := (HY.out.2 9 _ rfl).1
  have fy9 := (HY.out.2 9 _ rfl).2
  have y10 := (HY.out.2 10 _ rfl).1
  have fy10 := (HY.out.2 10 _ rfl).2
  have y11 := (HY.out.2 11 _ rfl).1
  have fy11 := (HY.out.2 11 _ rfl).2
  have y12 := (HY.out.2 12 _ rfl).1
  have fy12 := (HY.out.2 12 _ rfl).2
  have x0 := (HX.out.2 0 _ rfl).1
  have g0 := (HX.out.2 0 _ rfl).2
  have x1 := (HX.out.2 1 _ rfl).1
  have g1 := (HX.out.2 1 _ rfl).2
  have x2 := (HX.out.2 2 _ rfl).1
  have g2 := (HX.out.2 2 _ rfl).2
  have x3 := (HX.out.2 3 _ rfl).1
  have g3 := (HX.out.2 3 _ rfl).2
  have x4 := (HX.out.2 4 _ rfl).1
  have g4 := (HX.out.2 4 _ rfl).2
  have x5 := (HX.out.2 5 _ rfl).1
  have g5 := (HX.out.2 5 _ rfl).2
  have x6 := (HX.out.2 6 _ rfl).1
  have g6 := (HX.out.2 6 _ rfl).2
  have x7 := (HX.out.2 7 _ rfl).1
  have g7 := (HX.out.2 7 _ rfl).2
  have x8 := (HX.out.2 8 _ rfl).1
  have g8 := (HX.out.2 8 _ rfl).2
  have x9 := (HX.out.2 9 _ rfl).1
  have g9 := (HX.out.2 9 _ rfl).2
  have x10 := (HX.out.2 10 _ rfl).1
  have g10 := (HX.out.2 10 _ rfl).2
  have x11 := (HX.out.2 11 _ rfl).1
  have g11 := (HX.out.2 11 _ rfl).2
  have x12 := (HX.out.2 12 _ rfl).1
  have g12 := (HX.out.2 12 _ rfl).2
  go_wp2_with fail
  clear x0 g0 x1 g1 x2 g2 x3 g3 x4 g4 x5 g5 x6 g6 x7 g7 x8 g8 x9 g9 x10 g10 x11 g11 x12 g12
  clear y0 fy0 y1 fy1 y2 fy2 y3 fy3 y4 fy4 y5 fy5 y6 fy6 y7 fy7 y8 fy8 y9 fy9 y10 fy10 y11 fy11 y12 fy12
  have HX := Lib.hid (HX.out.other hne (k := 10) (.int .i64 2147483648))
  have HB := Lib.hid (HB.out.setCell (p := ⟨C, 10, none⟩) (Nat.le_of_lt hC) (.int .i64 2147483648))
  have HP := Lib.hid (((((((((((((HX.out.set 0 (.bool b0) (by simp)).set 1 (.bool b1) (by simp)).set 2 (.bool b2) (by simp)).set 3 (.bool b3) (by simp)).set 4 (.bool b4) (by simp)).set 5 (.bool b5) (by simp)).set 6 (.bool b6) (by simp)).set 7 (.bool b7) (by simp)).set 8 (.int .i64 k0) (by simp)).set 9 (.int .i64 k1) (by simp)).set 10 (.int .i64 (2147483648)) (by simp)).set 11 (.int .i64 k3) (by simp)).set 12 (.int .i64 k4) (by simp))
  have HQ := Lib.hid (((((((((((((HB.out.setCell (p := ⟨w.heap.size, 0, none⟩) (Nat.le_refl _) (.bool b0)).setCell (p := ⟨w.heap.size, 1, none⟩) (Nat.le_refl _) (.bool b1)).setCell (p := ⟨w.heap.size, 2, none⟩) (Nat.le_refl _) (.bool b2)).setCell (p := ⟨w.heap.size, 3, none⟩) (Nat.le_refl _) (.bool b3)).setCell (p := ⟨w.heap.size, 4, none⟩) (Nat.le_refl _) (.bool b4)).setCell (p := ⟨w.heap.size, 5, none⟩) (Nat.le_refl _) (.bool b5)).setCell (p := ⟨w.heap.size, 6, none⟩) (Nat.le_refl _) (.bool b6)).setCell (p := ⟨w.heap.size, 7, none⟩) (Nat.le_refl _) (.bool b7)).setCell (p := ⟨w.heap.size, 8, none⟩) (Nat.le_refl _) (.int .i64 k0)).setCell (p := ⟨w.heap.size, 9, none⟩) (Nat.le_refl _) (.int .i64 k1)).setCell (p := ⟨w.heap.size, 10, none⟩) (Nat.le_refl _) (.int .i64 (2147483648))).setCell (p := ⟨w.heap.size, 11, none⟩) (Nat.le_refl _) (.int .i64 k3)).setCell (p := ⟨w.heap.size, 12, none⟩) (Nat.le_refl _) (.int .i64 k4))
  generalize ((((((((((((((f.setCell ⟨C, 10, none⟩ (.int .i64 2147483648)).setCell ⟨w.heap.size, 0, none⟩ (.bool b0)).setCell ⟨w.heap.size, 1, none⟩ (.bool b1)).setCell ⟨w.heap.size, 2, none⟩ (.bool b2)).setCell ⟨w.heap.size, 3, none⟩ (.bool b3)).setCell ⟨w.heap.size, 4, none⟩ (.bool b4)).setCell ⟨w.heap.size, 5, none⟩ (.bool b5)).setCell ⟨w.heap.size, 6, none⟩ (.bool b6)).setCell ⟨w.heap.size, 7, none⟩ (.bool b7)).setCell ⟨w.heap.size, 8, none⟩ (.int .i64 k0)).setCell ⟨w.heap.size, 9, none⟩ (.int .i64 k1)).setCell ⟨w.heap.size, 10, none⟩ (.int .i64 (2147483648))).setCell ⟨w.heap.size, 11, none⟩ (.int .i64 k3)).setCell ⟨w.heap.size, 12, none⟩ (.int .i64 k4)) = W8 at *
  have hal := (Below.refl W8.heap.size W8).alloc (Nat.le_refl _) (.cells #[.string (strB N), .string (strB V), .bool false] 147)
  have HP := Lib.hid (HP.out.next hal)
  have HQ := Lib.hid (HQ.out.trans (hal.mono HQ.out.size))
  clear hal
  generalize W8.alloc (.cells #[.string (strB N), .string (strB V), .bool false] 147) = W9 at *
  have p0 := (HP.out.2 0 _ rfl).1
  have p1 := (HP.out.2 1 _ rfl).1
  have p2 := (HP.out.2 2 _ rfl).1
  have p3 := (HP.out.2 3 _ rfl).1
  have p4 := (HP.out.2 4 _ rfl).1
  have p5 := (HP.out.2 5 _ rfl).1
  have p6 := (HP.out.2 6 _ rfl).1
  have p7 := (HP.out.2 7 _ rfl).1
  have p8 := (HP.out.2 8 _ rfl).1
  have p9 := (HP.out.2 9 _ rfl).1
  have p10 := (HP.out.2 10 _ rfl).1
  have p11 := (HP.out.2 11 _ rfl).1
  have p12 := (HP.out.2 12 _ rfl).1
  refine bodyPost_ret (v := .agg #[.bool b0, .bool b1, .bool b2, .bool b3, .bool b4, .bool b5, .bool b6, .bool b7, .int .i64 k0, .int .i64 k1, .int .i64 (2147483648), .int .i64 k3, .int .i64 k4]) (by simp [results, Tryz.results46, go_sem, p0, p1, p2, p3, p4, p5, p6, p7, p8, p9, p10, p11, p12]) rfl ⟨by rw [HV.out], HQ.out⟩

theorem rof_any (lo : Nat) (v : Value) (ds : List Dir) (w : World) (hv : Dirs lo w v ds) (hok : DirsOk ds) :
    Calls Tryz.prog 46 #[v] w fun e w' => e = .returned (rulV ds) ∧ Below w.heap.size w w' := by
  cases hf : fstN ds nStale with
  | none => exact rof_0 lo v ds w hv hok hf
  | some d =>
    obtain ⟨N, V, H⟩ := d
    cases H
    · exact rof_2 lo v ds w hv hok N V hf
    · exact rof_1 lo v ds w hv hok N V hf

end Go.Proofs.YtpifbgefkbhopaaGreatDoor

namespace Go.Proofs.YtpifbgefkbhopaaGreatDoor
open Go.RowKit Go.Lib

theorem info_bytO : (Tryz.prog.info? 5).map (fun i => (i.zero, i.size, i.bytes)) = some (some (.int .u8 0), 1, 1) := by kernel_rfl
/-- What is told so far of a quoted text. -/
def uqI (l : List UInt8) (k : Nat) (acc : List UInt8) : Prop := acc.length ≤ k ∧ unqG (l.drop 1) = (unqG (l.drop k)).map (acc ++ ·)
theorem uqI_start (l : List UInt8) : uqI l 1 [] := ⟨by simp, by cases unqG (l.drop 1) <;> rfl⟩
theorem uqI_end {l acc : List UInt8} {k : Nat} (h : uqI l k acc) (hd : l.drop k = 34 :: l.drop (k + 1)) : unqG (l.drop 1) = if l.drop (k + 1) = [] then some acc else none := by
  rw [h.2, hd, unqG_end]
  split
  · rw [Option.map_some, List.append_nil]
  · rfl
theorem uqI_none {l acc : List UInt8} {k : Nat} (h : uqI l k acc) (hd : l.drop k = []) : unqG (l.drop 1) = none := by
  rw [h.2, hd, unqG_nil]
  rfl
theorem uqI_bad {l acc : List UInt8} {k : Nat} (h : uqI l k acc) (hd : l.drop k = [92]) : unqG (l.drop 1) = none := by
  rw [h.2, hd, unqG_esc_nil]
  rfl
theorem uqI_esc {l acc : List UInt8} {k : Nat} {d : UInt8} (h : uqI l k acc) (hd : l.drop k = 92 :: d :: l.drop (k + 2)) : uqI l (k + 2) (acc ++ [d]) := by
  refine ⟨by rw [List.length_append, List.length_singleton]; have := h.1; omega, ?_⟩
  rw [h.2, hd, unqG_esc]
  cases unqG (l.drop (k + 2)) <;> simp
theorem uqI_other {l acc : List UInt8} {k : Nat} {c : UInt8} (h : uqI l k acc) (hd : l.drop k = c :: l.drop (k + 1)) (h1 : c ≠ 34) (h2 : c ≠ 92) : uqI l (k + 1) (acc ++ [c]) := by
  refine ⟨by rw [List.length_append, List.length_singleton]; have := h.1; omega, ?_⟩
  rw [h.2, hd, unqG_other c _ h1 h2]
  cases unqG (l.drop (k + 1)) <;> simp
/-- What unquoted answers. -/
def unqPost (o : Option (List UInt8)) (w : World) (e : Ending) (w' : World) : Prop := (∃ X, e = .returned (.tuple #[.string X, .bool o.isSome]) ∧ ∀ t, o = some t → X = strB t) ∧ Below w.heap.size w w'

set_option maxRecDepth 100000 in
set_option maxHeartbeats 4000000 in
theorem unquoted_any (s : ByteArray) (w : World) (hs : s.size ≤ 100000) :
    Calls Tryz.prog 101 #[.string s] w (unqPost (unqL s.data.toList) w) := by
  obtain ⟨i0, hi, hz0, hz1, hz2⟩ := info_parts info_bytO
  have hz := Lib.hid (Lib.size_eq s)
  by_cases h2 : s.size < 2
  · have hn : unqL s.data.toList = none := by
      cases hl : s.data.toList with
      | nil => rfl
      | cons c r =>
        have hr : r = [] := List.eq_nil_of_length_eq_zero (by have := hz.out; rw [hl, List.length_cons] at this; omega)
        rw [unqL, hr]
        split <;> rfl
    have g1 : ((s.size : Int) < 2) := by omega
    rw [hn]
    clear hn
    go_enter Tryz.func101, Tryz.ntmps101
    go_wp2_with fail
    refine bodyPost_ret (v := .tuple #[.string ⟨#[]⟩, .bool false]) (by simp [results, Tryz.results101, go_sem]) rfl ⟨⟨_, rfl, fun t ht => by cases ht⟩, Below.refl _ _⟩
  · have g1 : ¬ ((s.size : Int) < 2) := by omega
    have h0 : 0 < s.size := by omega
    have hd0 := drop_cons_at s 0 h0
    rw [List.drop_zero, Nat.zero_add] at hd0
    cases e34 : (((s[0]'h0).toNat : Int) == 34)
    · have hn : unqL s.data.toList = none := by
        rw [hd0, unqL, if_neg]
        intro h
        rw [h] at e34
        exact absurd e34 (by decide)
      have e34b : (((s[0]'h0).toNat : Int) != 34) = true := by rw [bne, e34] <;> rfl
      rw [hn]
      clear hn hd0
      go_enter Tryz.func101, Tryz.ntmps101
      go_wp2_with fail
      refine bodyPost_ret (v := .tuple #[.string ⟨#[]⟩, .bool false]) (by simp [results, Tryz.results101, go_sem]) rfl ⟨⟨_, rfl, fun t ht => by cases ht⟩, Below.refl _ _⟩
    · have h34 : s[0]'h0 = 34 := by
        have := byte_beq (s[0]'h0) 34
        rw [show (((34 : UInt8).toNat : Int)) = 34 from rfl, e34] at this
        exact beq_iff_eq.1 this.symm
      have hn : unqL s.data.toList = unqG (s.data.toList.drop 1) := by
        have := hd0
        rw [h34] at this
        conv => lhs; rw [this]
        rw [unqL, if_pos rfl]
      have e34b : (((s[0]'h0).toNat : Int) != 34) = false := by rw [bne, e34] <;> rfl
      rw [hn]
      have HS := Lib.hid (uqI_start s.data.toList)
      obtain ⟨O, hO⟩ : ∃ O, unqG (s.data.toList.drop 1) = O := ⟨_, rfl⟩
      rw [hO]
      have HOO := Lib.hid hO
      clear hn hd0 h34 hO
      go_enter Tryz.func101, Tryz.ntmps101
      go_wp2_with fail
      go_loopw [4, 5] (fun v i wr => ∃ (k : Nat) (acc : List UInt8), 1 ≤ k ∧ k ≤ s.size ∧ i = .int .i64 k ∧ Hid (uqI s.data.toList k acc) ∧ wr.ownsRow w.heap.size 5 1 v acc.length (acc.map bytV) ∧ Below w.heap.size w wr) (fun _ i _ => s.size - (intOf i).toNat)
      case atStart => exact ⟨1, [], by omega, by omega, rfl, HS.out, World.ownsRow_made _ _ _ (Nat.le_refl _) (by decide) rfl, (Below.refl _ _).alloc (Nat.le_refl _) _⟩
      case round =>
        obtain ⟨k, acc, hk1, hk, rfl, H, hown, hb⟩ := hrel
        clear HS
        have hal : acc.length ≤ 100000 := Nat.le_trans H.out.1 (Nat.le_trans hk hs)
        by_cases hlt : k < s.size
        · have hd := Lib.hid (drop_cons_at s k hlt)
          have B34 : (((s[k]'hlt).toNat : Int) == 34) = ((s[k]'hlt) == 34) := byte_beq _ 34
          have B92 : (((s[k]'hlt).toNat : Int) == 92) = ((s[k]'hlt) == 92) := byte_beq _ 92
          cases c34 : ((s[k]'hlt) == 34)
          · rw [c34] at B34
            cases c92 : ((s[k]'hlt) == 92)
            · rw [c92] at B92
              have HN := Lib.hid (uqI_other H.out hd.out (by simpa using c34) (by simpa using c92))
              have Hsn : Hid (acc.map bytV ++ [.int .u8 ((s[k]'hlt).toNat : Int)] = (acc ++ [s[k]'hlt]).map bytV) := Lib.hid (by simp [bytV])
              clear c34 c92
              go_wp2_with (at_builtin; refine wpList_append_own _ rfl _ _ 136 rfl w.heap.size 5 i0 (.int .u8 0) 1 1 Tryz.underlying136 hi hz0 hz1 hz2 rfl (by decide) _ _ _ rfl (hown.alloc _) ⟨_, 0, none⟩ 1 1 [.int .u8 ((s[k]'hlt).toNat : Int)] rfl rfl (cell_one_new _ _ _) (by intro u hu; simp at hu; subst hu; rfl) (by unfold maxLen; omega) (by omega) (by have := hb.size; simp; omega) ?_; intro v' w1 hown' hgrow _)
              go_roundw
              case rel =>
                refine ⟨k + 1, acc ++ [s[k]'hlt], by omega, by omega, by go_num, HN, ?_, (hb.alloc hb.size _).grown hgrow (by have := hb.size; simp; omega) (fun k e => (World.ownsRow.lt hown k e).1)⟩
                rw [← Hsn.out, List.length_append]
                exact hown'
              case measure => simp [intOf]; omega
            · rw [c92] at B92
              have h92 : s[k]'hlt = 92 := beq_iff_eq.1 c92
              have hd2 := hd.out
              rw [h92] at hd2
              by_cases hl2 : k + 1 < s.size
              · have hd3 := drop_cons_at s (k + 1) hl2
                rw [hd3] at hd2
                have HN := Lib.hid (uqI_esc H.out hd2)
                have Hsn : Hid (acc.map bytV ++ [.int .u8 ((s[k + 1]'hl2).toNat : Int)] = (acc ++ [s[k + 1]'hl2]).map bytV) := Lib.hid (by simp [bytV])
                have n1 : ((k : Int) + 1 == (s.size : Int)) = false := by
                  have : ¬ (k : Int) + 1 = (s.size : Int) := by omega
                  simpa using this
                clear c34 c92 h92 hd2 hd3
                go_wp2_with (at_builtin; refine wpList_append_own _ rfl _ _ 136 rfl w.heap.size 5 i0 (.int .u8 0) 1 1 Tryz.underlying136 hi hz0 hz1 hz2 rfl (by decide) _ _ _ rfl (hown.alloc _) ⟨_, 0, none⟩ 1 1 [.int .u8 ((s[k + 1]'hl2).toNat : Int)] rfl rfl (cell_one_new _ _ _) (by intro u hu; simp at hu; subst hu; rfl) (by unfold maxLen; omega) (by omega) (by have := hb.size; simp; omega) ?_; intro v' w1 hown' hgrow _)
                go_roundw
                case rel =>
                  refine ⟨k + 2, acc ++ [s[k + 1]'hl2], by omega, by omega, by go_num, HN, ?_, (hb.alloc hb.size _).grown hgrow (by have := hb.size; simp; omega) (fun k e => (World.ownsRow.lt hown k e).1)⟩
                  rw [← Hsn.out, List.length_append]
                  exact hown'
                case measure => simp [intOf]; omega
              · have n1 : ((k : Int) + 1 == (s.size : Int)) = true := by
                  have : (k : Int) + 1 = (s.size : Int) := by omega
                  simpa using this
                have hnil : s.data.toList.drop (k + 1) = [] := List.drop_of_length_le (by rw [← hz.out]; omega)
                rw [hnil] at hd2
                have HR : Hid (O = none) := Lib.hid (HOO.out.symm.trans (uqI_bad H.out hd2))
                have HB := Lib.hid hb
                clear c34 c92 h92 hd2 hnil hown hb
                go_wp2_with fail
                refine bodyPost_ret (v := .tuple #[.string ⟨#[]⟩, .bool false]) (by simp [results, Tryz.results101, go_sem]) rfl ⟨⟨_, by rw [HR.out] <;> rfl, fun t ht => by rw [HR.out] at ht; cases ht⟩, HB.out⟩
          · rw [c34] at B34
            have h34 : s[k]'hlt = 34 := beq_iff_eq.1 c34
            have hd2 := hd.out
            rw [h34] at hd2
            have HE := Lib.hid (uqI_end H.out hd2)
            have HB := Lib.hid hb
            have hbl : (decide (s.data.toList.drop (k + 1) = [])) = ((k : Int) == (s.size : Int) - 1) := by
              by_cases hk9 : k + 1 = s.size
              · have a1 : s.data.toList.drop (k + 1) = [] := List.drop_of_length_le (by rw [← hz.out]; omega)
                have a2 : (k : Int) = (s.size : Int) - 1 := by omega
                rw [decide_eq_true a1, beq_iff_eq.2 a2]
              · have a1 : ¬ s.data.toList.drop (k + 1) = [] := fun h => by
                  have := congrArg List.length h
                  rw [List.length_drop, ← hz.out] at this
                  simp only [List.length_nil] at this
                  omega
                have a2 : ¬ (k : Int) = (s.size : Int) - 1 := by omega
                rw [decide_eq_false a1, beq_eq_false_iff_ne.2 a2]
            have HO : Hid (O = if ((k : Int) == (s.size : Int) - 1) = true then some acc else none) := Lib.hid (by
              rw [← HOO.out, HE.out, ← hbl]
              by_cases a1 : s.data.toList.drop (k + 1) = []
              · rw [if_pos a1, if_pos (decide_eq_true a1)]
              · rw [if_neg a1, if_neg (by rw [decide_eq_false a1]; decide)])
            have HO2 : Hid (O.isSome = ((k : Int) == (s.size : Int) - 1) ∧ ∀ t, O = some t → t = acc) := Lib.hid (by
              rw [HO.out]
              cases ((k : Int) == (s.size : Int) - 1)
              · exact ⟨rfl, fun t ht => by cases ht⟩
              · exact ⟨rfl, fun t ht => (Option.some.inj ht).symm⟩)
            clear c34 h34 hd2 hbl HE HO hb
            rcases hown.2 with ⟨hv, hz9⟩ | ⟨g, cap, cur, hv, _, hh, _⟩
            · have hacc : acc = [] := List.eq_nil_of_length_eq_zero hz9
              have hback := run_convert_bytes_nil (P := Tryz.prog) wr 136 5 Tryz.underlying136 Tryz.underlying5 0 0 9 Tryz.underlying9
              have HA := Lib.hid hacc
              rw [hv]
              clear hown hv hz9 hacc
              go_wp2_with fail
              refine bodyPost_ret (v := .tuple #[.string ByteArray.empty, .bool ((k : Int) == (s.size : Int) - 1)]) (by simp [results, Tryz.results101, go_sem]) rfl ⟨⟨_, by rw [HO2.out.1] <;> rfl, fun t ht => by rw [HO2.out.2 t ht, HA.out] <;> rfl⟩, HB.out⟩
            · have hback := run_convert_bytes_back (P := Tryz.prog) wr 136 9 5 ⟨g, 0, none⟩ cap acc Tryz.underlying136 Tryz.underlying5 Tryz.underlying9 (by
                intro j hj
                exact World.ownsRow.cells hown (g := g) (by rw [hv] <;> rfl) j _ (by rw [List.getElem?_map, List.getElem?_eq_getElem hj] <;> rfl))
              rw [hv]
              clear hown hv hh
              go_wp2_with fail
              refine bodyPost_ret (v := .tuple #[.string ⟨acc.toArray⟩, .bool ((k : Int) == (s.size : Int) - 1)]) (by simp [results, Tryz.results101, go_sem]) rfl ⟨⟨_, by rw [HO2.out.1] <;> rfl, fun t ht => by rw [HO2.out.2 t ht] <;> rfl⟩, HB.out⟩
        · have c9 : ¬ (k : Int) < (s.size : Int) := by omega
          have hnil : s.data.toList.drop k = [] := List.drop_of_length_le (by rw [← hz.out]; omega)
          have HR : Hid (O = none) := Lib.hid (HOO.out.symm.trans (uqI_none H.out hnil))
          have HB := Lib.hid hb
          clear hnil hown hb hlt
          go_wp2_with fail
          refine bodyPost_ret (v := .tuple #[.string ⟨#[]⟩, .bool false]) (by simp [results, Tryz.results101, go_sem]) rfl ⟨⟨_, by rw [HR.out] <;> rfl, fun t ht => by rw [HR.out] at ht; cases ht⟩, HB.out⟩

end Go.Proofs.YtpifbgefkbhopaaGreatDoor

namespace Go.Proofs.YtpifbgefkbhopaaGreatDoor
open Go.RowKit

def blkI (c : Int) : Bool := c == 32 || c == 9
theorem blkI_of (c : UInt8) : blkI c.toNat = blkB c := by
  unfold blkI blkB
  have h1 : ((c.toNat : Int) == 32) = (c == 32) := byte_beq c 32
  have h2 : ((c.toNat : Int) == 9) = (c == 9) := byte_beq c 9
  rw [h1, h2]

set_option maxHeartbeats 400000 in
theorem rblank_any (c : Int) (w : World) :
    Calls Tryz.prog 125 #[.int .u8 c] w fun e w' => e = .returned (.bool (blkI c)) ∧ w = w' := by
  have hd : blkI c = (c == 32 || c == 9) := rfl
  rw [hd]
  clear hd
  cases h1 : (c == 32) <;> cases h2 : (c == 9)
  all_goals
    go_enter Tryz.func125, Tryz.ntmps125
    go_wp2
    go_ret
    exact ⟨rfl, rfl⟩

set_option maxHeartbeats 1000000 in
theorem rletter_any_RjA (c : Int) (w : World) :
    Calls Tryz.prog 145 #[.int .u8 c] w fun e w' => e = .returned (.bool (ltrI c || digI c)) ∧ w = w' := by
  have hd : (ltrI c || digI c) = ((decide (97 ≤ c) && decide (c ≤ 122)) || (decide (65 ≤ c) && decide (c ≤ 90)) || (decide (48 ≤ c) && decide (c ≤ 57))) := by
    simp only [ltrI, upI, lowI, digI]
    rw [Bool.or_comm (decide (65 ≤ c) && decide (c ≤ 90))]
  rw [hd]
  clear hd
  rcases (show c < 48 ∨ (48 ≤ c ∧ c ≤ 57) ∨ (57 < c ∧ c < 65) ∨ (65 ≤ c ∧ c ≤ 90) ∨ (90 < c ∧ c < 97) ∨ (97 ≤ c ∧ c ≤ 122) ∨ 122 < c by omega) with h | h | h | h | h | h | h
  all_goals
    have a1 : ∃ b, decide (97 ≤ c) = b := ⟨_, rfl⟩
    have a2 : ∃ b, decide (c ≤ 122) = b := ⟨_, rfl⟩
    have a3 : ∃ b, decide (65 ≤ c) = b := ⟨_, rfl⟩
    have a4 : ∃ b, decide (c ≤ 90) = b := ⟨_, rfl⟩
    have a5 : ∃ b, decide (48 ≤ c) = b := ⟨_, rfl⟩
    have a6 : ∃ b, decide (c ≤ 57) = b := ⟨_, rfl⟩
    obtain ⟨b1, h1⟩ := a1
    obtain ⟨b2, h2⟩ := a2
    obtain ⟨b3, h3⟩ := a3
    obtain ⟨b4, h4⟩ := a4
    obtain ⟨b5, h5⟩ := a5
    obtain ⟨b6, h6⟩ := a6
    cases b1 <;> cases b2 <;> cases b3 <;> cases b4 <;> cases b5 <;> cases b6 <;> first | (exfalso; simp only [decide_eq_true_eq, decide_eq_false_iff_not] at h1 h2 h3 h4 h5 h6; omega) | skip
    all_goals
      clear h
      go_enter Tryz.func145, Tryz.ntmps145
      go_wp2
      go_ret
      exact ⟨by rw [h1, h2, h3, h4, h5, h6] <;> rfl, rfl⟩

theorem mark_at_RjA (c : UInt8) (k : Nat) (h : k < 15) (e : marksL[k]'h = c) : markI c.toNat = true := by
  subst e
  have : ∀ j : Fin 15, markI (marksL[j.val]'j.isLt).toNat = true := by decide +kernel
  exact this ⟨k, h⟩

theorem mark_none_RjA (c : UInt8) (h : ∀ j (hj : j < 15), (marksL[j]'hj == c) = false) : markI c.toNat = false := by
  have hn : ∀ l : List UInt8, (∀ j (hj : j < l.length), (l[j] == c) = false) → Lib.indexByte l c = -1 := by
    intro l
    induction l with
    | nil => intro _; rfl
    | cons a r ih =>
      intro h
      have h0 := h 0 (by simp)
      have hr := ih (fun j hj => h (j + 1) (by simpa using hj))
      simp only [List.getElem_cons_zero] at h0
      rw [Lib.indexByte, h0, hr]
      rfl
  have e : (c.toNat : Int).toNat.toUInt8 = c := by simp
  unfold markI
  rw [e, hn marksL h]
  rfl

set_option maxHeartbeats 1000000 in
theorem rtchar_any_RjA (c : UInt8) (w : World) :
    Calls Tryz.prog 126 #[.int .u8 c.toNat] w fun e w' => e = .returned (.bool (tchI c.toNat)) ∧ w = w' := by
  have cL := rletter_any_RjA (c.toNat : Int) w
  go_enter Tryz.func126, Tryz.ntmps126
  go_wp2
  go_loop [4] (fun i => ∃ k : Nat, k ≤ 15 ∧ i = .int .i64 k ∧ Hid (∀ j (hj : j < 15), j < k → (marksL[j]'hj == c) = false)) (fun i => 15 - (intOf i).toNat)
  case atStart => exact ⟨0, by omega, rfl, Lib.hid (fun j _ h => by omega)⟩
  case round =>
    obtain ⟨k, hk, rfl, H⟩ := hrel
    by_cases hlt : k < 15
    · have hls : k < (⟨#[33, 35, 36, 37, 38, 39, 42, 43, 45, 46, 94, 95, 96, 124, 126]⟩ : ByteArray).size := hlt
      have hg : (⟨#[33, 35, 36, 37, 38, 39, 42, 43, 45, 46, 94, 95, 96, 124, 126]⟩ : ByteArray)[k]'hls = marksL[k]'hlt := rfl
      have B := byte_beq (marksL[k]'hlt) c
      cases he : (marksL[k]'hlt == c)
      · have hb : ((((⟨#[33, 35, 36, 37, 38, 39, 42, 43, 45, 46, 94, 95, 96, 124, 126]⟩ : ByteArray)[k]'hls).toNat : Int) == (c.toNat : Int)) = false := by rw [hg, B, he]
        have He := Lib.hid he
        clear hg B he
        go_wp2
        go_round
        case rel =>
          refine ⟨k + 1, by omega, by go_num, Lib.hid (fun j hj h => ?_)⟩
          by_cases e : j = k
          · subst e; exact He.out
          · exact H.out j hj (by omega)
        case measure => simp [intOf]; omega
      · have hb : ((((⟨#[33, 35, 36, 37, 38, 39, 42, 43, 45, 46, 94, 95, 96, 124, 126]⟩ : ByteArray)[k]'hls).toNat : Int) == (c.toNat : Int)) = true := by rw [hg, B, he]
        have Hm := Lib.hid (mark_at_RjA c k hlt (by simpa using he))
        clear hg B he
        go_wp2
        go_ret
        exact ⟨ret_eq (bool_eq (by rw [tchI, Hm.out, Bool.or_true])), rfl⟩
    · have Hm := Lib.hid (mark_none_RjA c (fun j hj => H.out j hj (by omega)))
      go_wp2_with (go_at_call 145; refine cL.mono ?_; rintro e w' ⟨rfl, rfl⟩)
      go_ret
      exact ⟨ret_eq (bool_eq (by rw [tchI, Hm.out, Bool.or_false])), rfl⟩

end Go.Proofs.YtpifbgefkbhopaaGreatDoor

namespace Go.Proofs.YtpifbgefkbhopaaGreatDoor
open Go.RowKit

set_option maxHeartbeats 1000000 in
theorem rtoken_any (s : ByteArray) (w : World) (hs : s.size ≤ maxLen) :
    Calls Tryz.prog 100 #[.string s] w fun e w' => e = .returned (.bool (tokL s.data.toList)) ∧ w = w' := by
  unfold maxLen at hs
  go_enter Tryz.func100, Tryz.ntmps100
  go_wp2
  go_loop [3] (fun i => ∃ k : Nat, k ≤ s.size ∧ i = .int .i64 k ∧ Hid ((s.data.toList.take k).all (fun c => tchI c.toNat) = true)) (fun i => s.size - (intOf i).toNat)
  case atStart => exact ⟨0, Nat.zero_le _, rfl, Lib.hid rfl⟩
  case round =>
    obtain ⟨k, hk, rfl, Hall⟩ := hrel
    by_cases hlt : k < s.size
    · have cT := rtchar_any_RjA s[k] w
      cases hd : tchI (s[k].toNat : Int)
      · have Hf := Lib.hid (all_false_of (fun c => tchI c.toNat) s k hlt hd)
        rw [hd] at cT
        clear hd
        go_wp2_with (go_at_call 126; refine cT.mono ?_; rintro e w' ⟨rfl, rfl⟩)
        go_ret
        exact ⟨by simp [tokL, Hf.out], rfl⟩
      · have Ha := Lib.hid (all_snoc (fun c => tchI c.toNat) s k hlt)
        rw [hd] at cT
        have Hd := Lib.hid hd
        clear hd
        go_wp2_with (go_at_call 126; refine cT.mono ?_; rintro e w' ⟨rfl, rfl⟩)
        go_round
        case rel => exact ⟨k + 1, by omega, by go_num, Lib.hid (by rw [Ha.out, Hd.out, Bool.and_true]; exact Hall.out)⟩
        case measure => simp [intOf]; omega
    · have hk' : s.size ≤ k := by omega
      have Hp : Hid (decide (0 < s.size) = !s.data.toList.isEmpty) := Lib.hid (by rw [Lib.size_eq]; exact pos_of _)
      go_wp2
      go_ret
      refine ⟨ret_eq (bool_eq ?_), rfl⟩
      rw [take_all s k hk'] at Hall
      rw [tokL, Hall.out, Bool.true_and, ← Hp.out]

theorem trimL_tail (l : List UInt8) (h : 0 < l.length) (hb : blkB l[0] = true) : trimL l = trimL (l.drop 1) := by
  cases l with
  | nil => simp at h
  | cons c r =>
    simp only [List.getElem_cons_zero] at hb
    rw [trimL, trimL, List.drop_one, List.tail_cons]
    have e : tlL (c :: r) = tlL r := by rw [tlL, List.dropWhile_cons_of_pos hb] <;> rfl
    rw [e]

theorem tlL_stop (l : List UInt8) (h : 0 < l.length) (hb : blkB l[0] = false) : tlL l = l := by
  cases l with
  | nil => simp at h
  | cons c r =>
    simp only [List.getElem_cons_zero] at hb
    rw [tlL, List.dropWhile_cons_of_neg (by rw [hb]; decide)]

theorem trimL_init (l : List UInt8) (h : 0 < l.length) (hb : blkB l[0] = false) (hl : blkB (l[l.length - 1]'(by omega)) = true) : trimL l = trimL (l.take (l.length - 1)) := by
  have h2 : 1 < l.length := by
    rcases Nat.lt_or_ge 1 l.length with h' | h'
    · exact h'
    · have e : l.length - 1 = 0 := by omega
      simp only [e] at hl
      rw [hb] at hl
      cases hl
  have hb2 : blkB ((l.take (l.length - 1))[0]'(by rw [List.length_take]; omega)) = false := by simpa using hb
  rw [trimL, trimL, tlL_stop l h hb, tlL_stop (l.take (l.length - 1)) (by rw [List.length_take]; omega) hb2]
  have := trL_take l l.length h (Nat.le_refl _)
  rw [List.take_length, getD_of_lt _ _ (by omega), hl, if_pos rfl] at this
  exact this

theorem trimL_done (l : List UInt8) (h : 0 < l.length) (hb : blkB l[0] = false) (hl : blkB (l[l.length - 1]'(by omega)) = false) : trimL l = l := by
  rw [trimL, tlL_stop l h hb]
  have := trL_take l l.length h (Nat.le_refl _)
  rw [List.take_length, getD_of_lt _ _ (by omega), hl, if_neg (by decide)] at this
  exact this

set_option maxHeartbeats 1000000 in
theorem rtrim_any : ∀ (n : Nat) (s : ByteArray) (w : World), s.size ≤ n → s.size ≤ maxLen →
    Calls Tryz.prog 98 #[.string s] w fun e w' => e = .returned (.string (strB (trimL s.data.toList))) ∧ w = w'
  | 0, s, w, hn, hs => by
    have hz : s.size = 0 := by omega
    have he : s.data.toList = [] := List.eq_nil_of_length_eq_zero (by rw [← Lib.size_eq]; exact hz)
    have Hend : Hid (strB (trimL s.data.toList) = s) := Lib.hid (by rw [he, show trimL [] = [] from rfl, ← he, strB_of])
    clear he
    go_enter Tryz.func98, Tryz.ntmps98
    go_wp2
    go_ret
    exact ⟨by rw [Hend.out] <;> rfl, rfl⟩
  | n + 1, s, w, hn, hs => by
    have hsz := Lib.size_eq s
    by_cases hp : 0 < s.size
    · have hpl : 0 < s.data.toList.length := by omega
      have hlast : s.size - 1 < s.size := by omega
      have cB0 := rblank_any ((s[0]'hp).toNat : Int) w
      rw [blkI_of] at cB0
      have cB1 := rblank_any ((s[s.size - 1]'hlast).toNat : Int) w
      rw [blkI_of] at cB1
      have i0 : s[0]'hp = s.data.toList[0]'hpl := rfl
      have i1 : s[s.size - 1]'hlast = s.data.toList[s.data.toList.length - 1]'(by omega) := by
        simp only [← hsz]; rfl
      have x1 : (s.extract 1 s.size).data.toList = s.data.toList.drop 1 := Lib.extract_to_end s 1
      have x2 : (s.extract 0 (s.size - 1)).data.toList = s.data.toList.take (s.size - 1) := extract_take s _
      have z1 : (s.extract 1 s.size).size ≤ n := by rw [Lib.size_eq, x1, List.length_drop]; omega
      have z2 : (s.extract 0 (s.size - 1)).size ≤ n := by rw [Lib.size_eq, x2, List.length_take]; omega
      have c1 := rtrim_any n (s.extract 1 s.size) w z1 (by unfold maxLen at hs ⊢; rw [Lib.size_eq, x1, List.length_drop]; omega)
      have c2 := rtrim_any n (s.extract 0 (s.size - 1)) w z2 (by unfold maxLen at hs ⊢; rw [Lib.size_eq, x2, List.length_take]; omega)
      rw [x1] at c1
      rw [x2] at c2
      clear x1 x2 z1 z2
      cases hb0 : blkB (s[0]'hp)
      · cases hb1 : blkB (s[s.size - 1]'hlast)
        · have Hend := Lib.hid (trimL_done s.data.toList hpl (by rw [← i0]; exact hb0) (by rw [← i1]; exact hb1))
          rw [hb0] at cB0
          rw [hb1] at cB1
          clear hb0 hb1 i0 i1 hsz c1 c2
          unfold maxLen at hs
          go_enter Tryz.func98, Tryz.ntmps98
          go_wp2_with fail
          refine cB0.mono ?_
          rintro e w' ⟨rfl, rfl⟩
          go_wp2_with fail
          refine cB1.mono ?_
          rintro e w' ⟨rfl, rfl⟩
          go_wp2_with fail
          go_ret
          exact ⟨by rw [Hend.out, strB_of] <;> rfl, rfl⟩
        · have Hend := Lib.hid (trimL_init s.data.toList hpl (by rw [← i0]; exact hb0) (by rw [← i1]; exact hb1))
          rw [hb0] at cB0
          rw [hb1] at cB1
          have Hsz := Lib.hid hsz
          clear hb0 hb1 i0 i1 hsz c1
          unfold maxLen at hs
          go_enter Tryz.func98, Tryz.ntmps98
          go_wp2_with fail
          refine cB0.mono ?_
          rintro e w' ⟨rfl, rfl⟩
          go_wp2_with fail
          refine cB1.mono ?_
          rintro e w' ⟨rfl, rfl⟩
          go_wp2_with fail
          refine c2.mono ?_
          rintro e w' ⟨rfl, rfl⟩
          go_wp2_with fail
          go_ret
          exact ⟨by rw [Hend.out, ← Hsz.out] <;> rfl, rfl⟩
      · have Hend := Lib.hid (trimL_tail s.data.toList hpl (by rw [← i0]; exact hb0))
        generalize trimL (s.data.toList.drop 1) = t1 at c1 Hend
        rw [hb0] at cB0
        clear hb0 i0 i1 hsz c2 cB1
        unfold maxLen at hs
        go_enter Tryz.func98, Tryz.ntmps98
        go_wp2_with fail
        refine cB0.mono ?_
        rintro e w' ⟨rfl, rfl⟩
        go_wp2_with fail
        refine c1.mono ?_
        rintro e w' ⟨rfl, rfl⟩
        go_wp2_with fail
        go_ret
        exact ⟨by rw [Hend.out] <;> rfl, rfl⟩
    · exact rtrim_any n s w (by omega) hs

theorem txt_iff (c : Int) (h0 : 0 ≤ c) (h1 : c ≤ 255) : txtI c = !((decide (c < 32) && c != 9) || c == 127) := by
  unfold txtI
  by_cases a : c = 9
  · subst a; decide
  · by_cases b : c = 127
    · subst b; decide
    · have a1 : (c == 9) = false := by simp [a]
      have b1 : (c == 127) = false := by simp [b]
      have a2 : (c != 9) = true := by simp [a]
      have b2 : (c != 127) = true := by simp [b]
      rw [a1, a2, b1, b2]
      by_cases d : c < 32
      · rw [decide_eq_true d, decide_eq_false (by omega)] <;> rfl
      · rw [decide_eq_false d, decide_eq_true (show 32 ≤ c by omega)] <;> rfl

end Go.Proofs.YtpifbgefkbhopaaGreatDoor

namespace Go.Proofs.YtpifbgefkbhopaaGreatDoor
open Go.RowKit Go.Lib

/-- What one answers: a directive where there is one. -/
def onePost (o : Option Dir) (w : World) (e : Ending) (w' : World) : Prop := (∃ N V H, e = .returned (.tuple #[.agg #[.string (strB N), .string (strB V), .bool H], .bool o.isSome]) ∧ ∀ d, o = some d → d = (N, V, H)) ∧ Below w.heap.size w w'

set_option maxRecDepth 100000 in
set_option maxHeartbeats 4000000 in
/-- No sign of a value in it. -/
theorem rone_no (s : ByteArray) (w : World) (hs : s.size ≤ 100000) (h0 : Lib.indexByte s.data.toList 61 = -1) :
    Calls Tryz.prog 71 #[.string s] w (onePost (oneL s.data.toList) w) := by
  have cT := fun W => rtoken_any s W (by unfold maxLen; omega)
  have cL := fun W => rlower_any s W (by omega)
  have HO : Hid ((oneL s.data.toList).isSome = tokL s.data.toList ∧ ∀ d, oneL s.data.toList = some d → d = (lowL s.data.toList, [], false)) := Lib.hid (by
    rw [oneL, if_pos h0]
    cases tokL s.data.toList
    · exact ⟨rfl, fun d h => by cases h⟩
    · exact ⟨rfl, fun d h => (Option.some.inj h).symm⟩)
  generalize oneL s.data.toList = O at *
  have HI := Lib.hid h0
  clear h0
  go_enter Tryz.func71, Tryz.ntmps71
  go_wp2_with fail
  go_loopw [4] (fun i wr => ∃ k : Nat, k ≤ s.size ∧ i = .int .i64 k ∧ wr = w.alloc (.cells #[.string ⟨#[]⟩, .string ⟨#[]⟩, .bool false] 147)) (fun i _ => s.size - (intOf i).toNat)
  case atStart => exact ⟨0, Nat.zero_le _, rfl, rfl⟩
  case round =>
    obtain ⟨k, hk, rfl, rfl⟩ := hrel
    by_cases hlt : k < s.size
    · have hne : (((s[k]'hlt).toNat : Int) != 61) = true := by
        have h1 := byte_beq (s[k]'hlt) 61
        have h2 : ((s[k]'hlt) == 61) = false := by
          rw [beq_eq_false_iff_ne]
          intro h
          exact Lib.indexByte_none HI.out k (by rw [List.getElem?_eq_getElem (by rw [← Lib.size_eq]; exact hlt)]; exact congrArg some h)
        rw [h2] at h1
        rw [bne, show (61 : Int) = (((61 : UInt8).toNat : Int)) from rfl, h1]
        rfl
      go_wp2_with fail
      go_roundw
      case rel => exact ⟨k + 1, by omega, by go_num, trivial⟩
      case measure => simp [intOf]; omega
    · have hkI : ¬ (k : Int) < (s.size : Int) := by omega
      have HB0 := Lib.hid (BoxD.made w (.string ⟨#[]⟩) (.string ⟨#[]⟩) (.bool false) 147)
      have hz1 : w.heap.size ≤ (w.alloc (.cells #[.string ⟨#[]⟩, .string ⟨#[]⟩, .bool false] 147)).heap.size := by simp
      have HB1 := Lib.hid ((Below.refl w.heap.size w).alloc (Nat.le_refl _) (.cells #[.string ⟨#[]⟩, .string ⟨#[]⟩, .bool false] 147))
      generalize w.alloc (.cells #[.string ⟨#[]⟩, .string ⟨#[]⟩, .bool false] 147) = w1 at *
      go_wp2_with (first | (go_at_call 99; refine (cL _).mono ?_; rintro e w2 ⟨rfl, hb2⟩; obtain ⟨r0, r1, r2, g0, g1, g2⟩ := HB0.out.next hb2) | (go_at_call 100; refine (cT _).mono ?_; rintro e w3 ⟨rfl, rfl⟩))
      obtain ⟨p0, p1, p2, _, _, _⟩ := (HB0.out.next hb2).put (.string (strB (lowL s.data.toList))) (.string ⟨#[]⟩) (.bool false)
      have HX := Lib.hid (below_put (HB1.out.trans (hb2.mono hz1)) (Nat.le_refl w.heap.size) (.string (strB (lowL s.data.toList))) (.string ⟨#[]⟩) (.bool false))
      generalize ((w2.setCell ⟨w.heap.size, 0, none⟩ (.string (strB (lowL s.data.toList)))).setCell ⟨w.heap.size, 1, none⟩ (.string ⟨#[]⟩)).setCell ⟨w.heap.size, 2, none⟩ (.bool false) = W9 at *
      refine bodyPost_ret (v := .tuple #[.agg #[.string (strB (lowL s.data.toList)), .string ⟨#[]⟩, .bool false], .bool (tokL s.data.toList)]) (by simp [results, Tryz.results71, go_sem, p0, p1, p2]) rfl ⟨⟨lowL s.data.toList, [], false, by rw [HO.out.1] <;> rfl, HO.out.2⟩, HX.out⟩

set_option maxRecDepth 100000 in
set_option maxHeartbeats 4000000 in
/-- There is one. -/
theorem rone_yes (s : ByteArray) (o : Nat) (w : World) (hs : s.size ≤ 100000) (h0 : Lib.indexByte s.data.toList 61 = o) :
    Calls Tryz.prog 71 #[.string s] w (onePost (oneL s.data.toList) w) := by
  have ho : o < s.size := by
    have := (Lib.indexByte_some h0).1
    rw [Lib.size_eq]
    exact (List.getElem?_eq_some_iff.1 this).1
  have hN1 : (s.extract 0 o).size ≤ 100000 := by rw [ByteArray.size_extract]; omega
  have hV1 : (s.extract (o + 1) s.size).size ≤ 100000 := by rw [ByteArray.size_extract]; omega
  have eN : (s.extract 0 o).data.toList = s.data.toList.take o := by rw [Lib.extract_data] <;> rfl
  have eV : (s.extract (o + 1) s.size).data.toList = s.data.toList.drop (o + 1) := by
    rw [Lib.extract_data]
    exact List.take_of_length_le (by rw [List.length_drop, ← Lib.size_eq]; exact Nat.le_refl _)
  have cN := fun W => rtoken_any (s.extract 0 o) W (by unfold maxLen; omega)
  have cV := fun W => rtoken_any (s.extract (o + 1) s.size) W (by unfold maxLen; omega)
  have cL := fun W => rlower_any (s.extract 0 o) W (by omega)
  have cU := fun W => unquoted_any (s.extract (o + 1) s.size) W hV1
  rw [eN] at cN cL
  rw [eV] at cV cU
  have HO : Hid (oneL s.data.toList = if tokL (s.data.toList.take o) = true then (if tokL (s.data.toList.drop (o + 1)) = true then some (lowL (s.data.toList.take o), s.data.toList.drop (o + 1), true) else (unqL (s.data.toList.drop (o + 1))).map fun t => (lowL (s.data.toList.take o), t, true)) else none) := Lib.hid (by
    have h1 : ¬ Lib.indexByte s.data.toList 61 = -1 := by omega
    rw [oneL, if_neg h1, h0]
    rfl)
  have HI := Lib.hid h0
  have hSV : s.extract (o + 1) s.size = strB (s.data.toList.drop (o + 1)) := by rw [← eV, strB_of]
  rw [hSV] at cV cU
  have HSV := Lib.hid hSV
  clear h0 eN eV hN1 hV1 hSV
  obtain ⟨tn, htn⟩ : ∃ tn, tokL (s.data.toList.take o) = tn := ⟨_, rfl⟩
  obtain ⟨tv, htv⟩ : ∃ tv, tokL (s.data.toList.drop (o + 1)) = tv := ⟨_, rfl⟩
  rw [htn] at HO cN
  rw [htv] at HO cV
  clear htn htv
  generalize oneL s.data.toList = O at *
  generalize lowL (s.data.toList.take o) = LN at *
  obtain ⟨LV, hLV⟩ : ∃ LV, s.data.toList.drop (o + 1) = LV := ⟨_, rfl⟩
  rw [hLV] at cV cU HO HSV
  clear hLV
  obtain ⟨U, hU⟩ : ∃ U, unqL LV = U := ⟨_, rfl⟩
  rw [hU] at cU HO
  clear hU
  go_enter Tryz.func71, Tryz.ntmps71
  go_wp2_with fail
  go_loopw [4] (fun i wr => ∃ k : Nat, k ≤ o ∧ i = .int .i64 k ∧ wr = w.alloc (.cells #[.string ⟨#[]⟩, .string ⟨#[]⟩, .bool false] 147)) (fun i _ => s.size - (intOf i).toNat)
  case atStart => exact ⟨0, Nat.zero_le _, rfl, rfl⟩
  case round =>
    obtain ⟨k, hk, rfl, rfl⟩ := hrel
    have hlt : k < s.size := by omega
    have h1 := byte_beq (s[k]'hlt) 61
    rw [show ((61 : UInt8).toNat : Int) = 61 from rfl] at h1
    by_cases hko : k < o
    · have hne : (((s[k]'hlt).toNat : Int) != 61) = true := by
        have h2 : ((s[k]'hlt) == 61) = false := by
          rw [beq_eq_false_iff_ne]
          intro h
          exact (Lib.indexByte_some HI.out).2 k hko (by rw [List.getElem?_eq_getElem (by rw [← Lib.size_eq]; exact hlt)]; exact congrArg some h)
        rw [h2] at h1
        rw [bne, h1]
        rfl
      clear h1
      go_wp2_with fail
      go_roundw
      case rel => exact ⟨k + 1, by omega, by go_num, trivial⟩
      case measure => simp [intOf]; omega
    · obtain rfl : k = o := by omega
      have hne : (((s[k]'hlt).toNat : Int) != 61) = false := by
        have h2 : ((s[k]'hlt) == 61) = true := by
          have := (Lib.indexByte_some HI.out).1
          rw [List.getElem?_eq_getElem (by rw [← Lib.size_eq]; exact hlt)] at this
          exact beq_iff_eq.2 (Option.some.inj this)
        rw [h2] at h1
        rw [bne, h1]
        rfl
      have HB0 := Lib.hid (BoxD.made w (.string ⟨#[]⟩) (.string ⟨#[]⟩) (.bool false) 147)
      have HB1 := Lib.hid ((Below.refl w.heap.size w).alloc (Nat.le_refl _) (.cells #[.string ⟨#[]⟩, .string ⟨#[]⟩, .bool false] 147))
      have HZ1 := Lib.hid (show w.heap.size + 1 = (w.alloc (.cells #[.string ⟨#[]⟩, .string ⟨#[]⟩, .bool false] 147)).heap.size by simp)
      generalize w.alloc (.cells #[.string ⟨#[]⟩, .string ⟨#[]⟩, .bool false] 147) = w1 at *
      clear h1 hko hk
      cases tv
      · cases U with
        | none =>
          have cU0 : ∀ W, Calls Tryz.prog 101 #[.string (strB LV)] W (fun e w' => (∃ X, e = .returned (.tuple #[.string X, .bool false])) ∧ Below W.heap.size W w') := fun W => (cU W).mono fun e w' h => ⟨⟨h.1.choose, h.1.choose_spec.1⟩, h.2⟩
          clear cU
          have HO2 : Hid (O = none) := Lib.hid (by rw [HO.out]; cases tn <;> rfl)
          go_wp2_with (first | (go_at_call 99; refine (cL _).mono ?_; rintro e w2 ⟨rfl, hb2⟩; have HB2 := Lib.hid (HB0.out.next hb2); have HX := Lib.hid (Below.trans HB1.out (hb2.mono (by have := HZ1.out; omega)))) | (go_at_call 100; rw [HSV.out]; refine (cV _).mono ?_; rintro e w3 ⟨rfl, hw3⟩; have HB3 := Lib.hid (HB2.out.next (hw3 ▸ (Below.refl _ _).alloc (Nat.le_refl _) _)); have HX3 := Lib.hid (hw3 ▸ HX.out.alloc HX.out.size _); have HQ3 := Lib.hid (hw3 ▸ BoxD.made w2 _ _ _ _); clear hw3) | (go_at_call 101; refine (cU0 _).mono ?_; rintro e w4 ⟨⟨X, rfl⟩, hb4⟩; have HX4 := Lib.hid (HX3.out.trans (hb4.mono HX3.out.size)); have HQ4 := Lib.hid (HQ3.out.next hb4); have HB4 := Lib.hid (HB3.out.next hb4); have HD4 := Lib.hid (show w2.heap.size ≠ w.heap.size by have := HZ1.out; have := hb2.size; omega); have q1 := HQ4.out.r1; have f1 := HQ4.out.g1))
          have HQ5 := Lib.hid (HQ4.out.put1 (.string X))
          have HB5 := Lib.hid (HB4.out.other HD4.out (k := 1) (.string X))
          have HX5 := Lib.hid (below_set HX4.out HX.out.size 1 (.string X))
          clear q1 f1
          generalize w4.setCell ⟨w2.heap.size, 1, none⟩ (.string X) = w6 at *
          obtain ⟨q0, q1, q2, f0, f1, f2⟩ := HQ5.out
          obtain ⟨r0, r1, r2, g0, g1, g2⟩ := HB5.out
          go_region
          all_goals go_wp2_with fail
          all_goals
            obtain ⟨p0, p1, p2, _, _, _⟩ := HB5.out.put (.string (strB LN)) (.string X) (.bool true)
            have HX9 := Lib.hid (below_put HX5.out (Nat.le_refl w.heap.size) (.string (strB LN)) (.string X) (.bool true))
            generalize ((w6.setCell ⟨w.heap.size, 0, none⟩ (.string (strB LN))).setCell ⟨w.heap.size, 1, none⟩ (.string X)).setCell ⟨w.heap.size, 2, none⟩ (.bool true) = W9 at *
            refine bodyPost_ret (v := .tuple #[.agg #[.string (strB LN), .string X, .bool true], .bool false]) (by simp [results, Tryz.results71, go_sem, p0, p1, p2]) rfl ⟨⟨LN, X.data.toList, true, by rw [HO2.out, strB_of] <;> rfl, fun d h => by rw [HO2.out] at h; cases h⟩, HX9.out.drew⟩
        | some t =>
          have cU1 : ∀ W, Calls Tryz.prog 101 #[.string (strB LV)] W (fun e w' => e = .returned (.tuple #[.string (strB t), .bool true]) ∧ Below W.heap.size W w') := fun W => (cU W).mono fun e w' h => ⟨by rw [h.1.choose_spec.1, h.1.choose_spec.2 t rfl] <;> rfl, h.2⟩
          clear cU
          have HO2 : Hid (O.isSome = tn ∧ ∀ d, O = some d → d = (LN, t, true)) := Lib.hid (by
            rw [HO.out]
            cases tn
            · exact ⟨rfl, fun d h => by cases h⟩
            · exact ⟨rfl, fun d h => (Option.some.inj h).symm⟩)
          go_wp2_with (first | (go_at_call 99; refine (cL _).mono ?_; rintro e w2 ⟨rfl, hb2⟩; have HB2 := Lib.hid (HB0.out.next hb2); have HX := Lib.hid (Below.trans HB1.out (hb2.mono (by have := HZ1.out; omega)))) | (go_at_call 100; rw [HSV.out]; refine (cV _).mono ?_; rintro e w3 ⟨rfl, hw3⟩; have HB3 := Lib.hid (HB2.out.next (hw3 ▸ (Below.refl _ _).alloc (Nat.le_refl _) _)); have HX3 := Lib.hid (hw3 ▸ HX.out.alloc HX.out.size _); have HQ3 := Lib.hid (hw3 ▸ BoxD.made w2 _ _ _ _); clear hw3) | (go_at_call 101; refine (cU1 _).mono ?_; rintro e w4 ⟨rfl, hb4⟩; have HX4 := Lib.hid (HX3.out.trans (hb4.mono HX3.out.size)); have HQ4 := Lib.hid (HQ3.out.next hb4); have HB4 := Lib.hid (HB3.out.next hb4); have HD4 := Lib.hid (show w2.heap.size ≠ w.heap.size by have := HZ1.out; have := hb2.size; omega); have q1 := HQ4.out.r1; have f1 := HQ4.out.g1))
          have HQ5 := Lib.hid (HQ4.out.put1 (.string (strB t)))
          have HB5 := Lib.hid (HB4.out.other HD4.out (k := 1) (.string (strB t)))
          have HX5 := Lib.hid (below_set HX4.out HX.out.size 1 (.string (strB t)))
          clear q1 f1
          generalize w4.setCell ⟨w2.heap.size, 1, none⟩ (.string (strB t)) = w6 at *
          obtain ⟨q0, q1, q2, f0, f1, f2⟩ := HQ5.out
          obtain ⟨r0, r1, r2, g0, g1, g2⟩ := HB5.out
          go_region_law ((go_simp; go_at_call 100; refine (cN _).mono ?_; rintro e w7 ⟨rfl, rfl⟩))
          all_goals go_wp2_with fail
          all_goals
            obtain ⟨p0, p1, p2, _, _, _⟩ := HB5.out.put (.string (strB LN)) (.string (strB t)) (.bool true)
            have HX9 := Lib.hid (below_put HX5.out (Nat.le_refl w.heap.size) (.string (strB LN)) (.string (strB t)) (.bool true))
            generalize ((w6.setCell ⟨w.heap.size, 0, none⟩ (.string (strB LN))).setCell ⟨w.heap.size, 1, none⟩ (.string (strB t))).setCell ⟨w.heap.size, 2, none⟩ (.bool true) = W9 at *
            refine bodyPost_ret (v := .tuple #[.agg #[.string (strB LN), .string (strB t), .bool true], .bool tn]) (by simp [results, Tryz.results71, go_sem, p0, p1, p2]) rfl ⟨⟨LN, t, true, by rw [HO2.out.1], HO2.out.2⟩, HX9.out.drew⟩
      · go_wp2_with (first | (go_at_call 99; refine (cL _).mono ?_; rintro e w2 ⟨rfl, hb2⟩; have HB2 := Lib.hid (HB0.out.next hb2); have HX := Lib.hid (Below.trans HB1.out (hb2.mono (by have := HZ1.out; omega)))) | (go_at_call 100; rw [HSV.out]; refine (cV _).mono ?_; rintro e w3 ⟨rfl, hw3⟩; have HB3 := Lib.hid (HB2.out.next (hw3 ▸ (Below.refl _ _).alloc (Nat.le_refl _) _)); have HX3 := Lib.hid (hw3 ▸ HX.out.alloc HX.out.size _); obtain ⟨q0, q1, q2, f0, f1, f2⟩ := hw3 ▸ BoxD.made w2 _ _ _ _; obtain ⟨r0, r1, r2, g0, g1, g2⟩ := HB3.out; clear hw3))
        go_region_with (go_at_call 100; refine (cN _).mono ?_; rintro e w5 ⟨rfl, rfl⟩)
        all_goals go_wp2_with fail
        all_goals
          obtain ⟨p0, p1, p2, _, _, _⟩ := HB3.out.put (.string (strB LN)) (.string (strB LV)) (.bool true)
          have HX9 := Lib.hid (below_put HX3.out (Nat.le_refl w.heap.size) (.string (strB LN)) (.string (strB LV)) (.bool true))
          generalize ((w3.setCell ⟨w.heap.size, 0, none⟩ (.string (strB LN))).setCell ⟨w.heap.size, 1, none⟩ (.string (strB LV))).setCell ⟨w.heap.size, 2, none⟩ (.bool true) = W9 at *
          refine bodyPost_ret (v := .tuple #[.agg #[.string (strB LN), .string (strB LV), .bool true], .bool tn]) (by simp [results, Tryz.results71, go_sem, p0, p1, p2]) rfl ⟨⟨LN, LV, true, ?_, ?_⟩, HX9.out.drew⟩
          · rw [HO.out]
            cases tn <;> rfl
          · rw [HO.out]
            cases tn
            · exact fun d h => by cases h
            · exact fun d h => (Option.some.inj h).symm

theorem rone_any (s : ByteArray) (w : World) (hs : s.size ≤ 100000) :
    Calls Tryz.prog 71 #[.string s] w (onePost (oneL s.data.toList) w) := by
  by_cases h0 : Lib.indexByte s.data.toList 61 = -1
  · exact rone_no s w hs h0
  · have h1 := Lib.indexByte_ge s.data.toList 61
    obtain ⟨o, ho⟩ := Int.eq_ofNat_of_zero_le (show 0 ≤ Lib.indexByte s.data.toList 61 by omega)
    exact rone_yes s o w hs ho

end Go.Proofs.YtpifbgefkbhopaaGreatDoor

namespace Go.Proofs.YtpifbgefkbhopaaGreatDoor
open Go.RowKit

theorem extract_mid (s : ByteArray) (a b : Nat) : (s.extract a b).data.toList = (s.data.toList.drop a).take (b - a) := Lib.extract_data s a b

set_option maxRecDepth 100000 in
set_option maxHeartbeats 4000000 in
theorem rsplit_any (s : ByteArray) (w : World) (hs : s.size ≤ 1099511627776) :
    Calls Tryz.prog 70 #[.string s] w (StrsOut w.heap.size (splitL s.data.toList) w) := by
  obtain ⟨i0, hi, hz0, hz1, hz2⟩ := info_parts info_string
  go_enter Tryz.func70, Tryz.ntmps70
  go_wp2_with fail
  go_loopw [3, 4, 5, 6, 7] (fun v xq xs xf i wr => ∃ (k f : Nat) (q sl : Bool) (acc : List (List UInt8)), k ≤ s.size + 1 ∧ f ≤ k ∧ i = .int .i64 k ∧ xf = .int .i64 f ∧ xq = .bool q ∧ xs = .bool sl ∧ SplInv s.data.toList k f q sl acc ∧ wr.ownsRow w.heap.size 9 1 v acc.length (acc.map strV) ∧ Below w.heap.size w wr) (fun _ _ _ _ i _ => s.size + 1 - (intOf i).toNat)
  case atStart => exact ⟨0, 0, false, false, [], by omega, by omega, rfl, rfl, rfl, rfl, SplInv.start _, World.ownsRow_nil _ _ _ _, Below.refl _ _⟩
  case round =>
    obtain ⟨k, f, q, sl, acc, hk, hfk, rfl, rfl, rfl, rfl, hI, hown, hb⟩ := hrel
    have hacc := hI.few
    have Hsz := Lib.hid (Lib.size_eq s)
    by_cases hlt : k < s.size
    · have hll : k < s.data.toList.length := by rw [← Hsz.out]; exact hlt
      have Hdr := Lib.hid (drop_cons_at s k hlt)
      have B92 : Hid (((s[k].toNat : Int) == 92) = (s[k] == 92)) := Lib.hid (byte_beq s[k] 92)
      have B34 : Hid (((s[k].toNat : Int) == 34) = (s[k] == 34)) := Lib.hid (byte_beq s[k] 34)
      have B44 : Hid (((s[k].toNat : Int) == 44) = (s[k] == 44)) := Lib.hid (byte_beq s[k] 44)
      cases q
      · obtain rfl := hI.quiet rfl
        cases h44 : ((s[k].toNat : Int) != 44)
        · have P44 : Hid ((s[k] == 44) = true) := Lib.hid (by rw [← B44.out]; simpa using h44)
          have Hz : Hid (peS (stOf false false) (s.data.toList.drop k) = 0) := Lib.hid (by
            rw [Hdr.out, stOf, if_neg (by decide), peS, P44.out] <;> rfl)
          have hkl : k ≤ s.data.toList.length := by omega
          have cM := rtrim_any (s.extract f k).size (s.extract f k) wr (Nat.le_refl _) (by rw [Lib.size_eq, extract_mid, List.length_take]; unfold maxLen; omega)
          rw [extract_mid] at cM
          have Hnx := Lib.hid (hI.next hkl (fun _ => rfl) Hz.out false false (fun _ => rfl) (fun _ => rfl))
          generalize trimL ((s.data.toList.drop f).take (k - f)) = p at cM Hnx
          by_cases hp : p = []
          · have hpe : (strB p).toList.isEmpty = true := by rw [Lib.toList_data, strB_data, hp] <;> rfl
            have Hp := Lib.hid hp
            clear hp
            go_wp2_with (go_at_call 98; refine cM.mono ?_; rintro e w' ⟨rfl, rfl⟩)
            go_roundw
            case rel => exact ⟨k + 1, k + 1, false, false, acc ++ [], by omega, by omega, by go_num, by go_num, rfl, rfl, Hnx.out [] (by rw [if_pos Hp.out]), by rw [List.append_nil]; exact hown, hb⟩
            case measure => simp [intOf] <;> omega
          · have hpe : (strB p).toList.isEmpty = false := by rw [Lib.toList_data, strB_data, List.isEmpty_eq_false_iff]; exact hp
            have Hp := Lib.hid hp
            clear hp
            go_wp2_with (first | (go_at_call 98; refine cM.mono ?_; rintro e w' ⟨rfl, rfl⟩) | (at_builtin; refine wpList_append_own _ rfl _ _ 41 rfl w.heap.size 9 i0 (.string ⟨#[]⟩) 1 16 Tryz.underlying41 hi hz0 hz1 hz2 rfl (by decide) _ _ _ rfl (hown.alloc _) ⟨_, 0, none⟩ 1 1 [.string (strB p)] rfl rfl (cell_one_new _ _ _) (by intro u hu; simp at hu; subst hu; rfl) (by unfold maxLen; omega) (by omega) (by have := hb.size; simp; omega) ?_; intro v' w1 hown' hgrow _))
            go_roundw
            case rel =>
              refine ⟨k + 1, k + 1, false, false, acc ++ [p], by omega, by omega, by go_num, by go_num, rfl, rfl, Hnx.out [p] (by rw [if_neg Hp.out]), ?_, (hb.alloc hb.size _).grown hgrow (by have := hb.size; simp; omega) (fun k e => (World.ownsRow.lt hown k e).1)⟩
              rw [List.length_append, List.map_append]
              exact hown'
            case measure => simp [intOf] <;> omega
        · have P44 : Hid ((s[k] == 44) = false) := Lib.hid (by rw [← B44.out]; simpa using h44)
          cases h34 : ((s[k].toNat : Int) == 34)
          · have Hst : Hid (peS (stOf false false) (s.data.toList.drop k) = 1 + peS (stOf false false) (s.data.toList.drop (k + 1))) := Lib.hid (by
              rw [Hdr.out, stOf, if_neg (by decide), peS, P44.out, ← B34.out, h34] <;> rfl)
            go_wp2
            go_roundw
            case rel => exact ⟨k + 1, f, false, false, acc, by omega, by omega, by go_num, rfl, rfl, rfl, hI.plain hll false false (fun _ => rfl) Hst.out, hown, hb⟩
            case measure => simp [intOf] <;> omega
          · have Hst : Hid (peS (stOf false false) (s.data.toList.drop k) = 1 + peS (stOf true false) (s.data.toList.drop (k + 1))) := Lib.hid (by
              rw [Hdr.out, stOf, if_neg (by decide), peS, P44.out, ← B34.out, h34] <;> rfl)
            go_wp2
            go_roundw
            case rel => exact ⟨k + 1, f, true, false, acc, by omega, by omega, by go_num, rfl, rfl, rfl, hI.plain hll true false (fun h => by cases h) Hst.out, hown, hb⟩
            case measure => simp [intOf] <;> omega
      · cases sl
        · cases h92 : ((s[k].toNat : Int) == 92)
          · cases h34 : ((s[k].toNat : Int) == 34)
            · have Hst : Hid (peS (stOf true false) (s.data.toList.drop k) = 1 + peS (stOf true false) (s.data.toList.drop (k + 1))) := Lib.hid (by
                rw [Hdr.out, stOf, if_pos rfl, peS, ← B92.out, h92, ← B34.out, h34] <;> rfl)
              go_wp2
              go_roundw
              case rel => exact ⟨k + 1, f, true, false, acc, by omega, by omega, by go_num, rfl, rfl, rfl, hI.plain hll true false (fun h => by cases h) Hst.out, hown, hb⟩
              case measure => simp [intOf] <;> omega
            · have Hst : Hid (peS (stOf true false) (s.data.toList.drop k) = 1 + peS (stOf false false) (s.data.toList.drop (k + 1))) := Lib.hid (by
                rw [Hdr.out, stOf, if_pos rfl, peS, ← B92.out, h92, ← B34.out, h34] <;> rfl)
              go_wp2
              go_roundw
              case rel => exact ⟨k + 1, f, false, false, acc, by omega, by omega, by go_num, rfl, rfl, rfl, hI.plain hll false false (fun _ => rfl) Hst.out, hown, hb⟩
              case measure => simp [intOf] <;> omega
          · have Hst : Hid (peS (stOf true false) (s.data.toList.drop k) = 1 + peS (stOf true true) (s.data.toList.drop (k + 1))) := Lib.hid (by
              rw [Hdr.out, stOf, if_pos rfl, peS, ← B92.out, h92] <;> rfl)
            go_wp2
            go_roundw
            case rel => exact ⟨k + 1, f, true, true, acc, by omega, by omega, by go_num, rfl, rfl, rfl, hI.plain hll true true (fun h => by cases h) Hst.out, hown, hb⟩
            case measure => simp [intOf] <;> omega
        · have Hst : Hid (peS (stOf true true) (s.data.toList.drop k) = 1 + peS (stOf true false) (s.data.toList.drop (k + 1))) := Lib.hid (by
            rw [Hdr.out, stOf, if_pos rfl, peS]
            cases (s[k] == 92) <;> simp [stOf])
          go_wp2
          go_roundw
          case rel => exact ⟨k + 1, f, true, false, acc, by omega, by omega, by go_num, rfl, rfl, rfl, hI.plain hll true false (fun h => by cases h) Hst.out, hown, hb⟩
          case measure => simp [intOf] <;> omega
    · by_cases hend : k = s.size
      · subst hend
        have Hz : Hid (peS (stOf q sl) (s.data.toList.drop s.size) = 0) := Lib.hid (by
          rw [List.drop_of_length_le (by rw [← Hsz.out]; omega)]
          cases q <;> cases sl <;> rfl)
        have hkl : s.size ≤ s.data.toList.length := by rw [← Hsz.out]; omega
        have Hq := Lib.hid hI.quiet
        have Hll : Hid (s.size < s.data.toList.length → False) := Lib.hid (fun h => by rw [← Hsz.out] at h; omega)
        have cM := rtrim_any (s.extract f s.size).size (s.extract f s.size) wr (Nat.le_refl _) (by rw [Lib.size_eq, extract_mid, List.length_take]; unfold maxLen; omega)
        rw [extract_mid] at cM
        have Hnx := Lib.hid (hI.next hkl (fun h => (Hll.out h).elim) Hz.out q sl (fun h => (Hll.out h).elim) Hq.out)
        generalize trimL ((s.data.toList.drop f).take (s.size - f)) = p at cM Hnx
        by_cases hp : p = []
        · have hpe : (strB p).toList.isEmpty = true := by rw [Lib.toList_data, strB_data, hp] <;> rfl
          have Hp := Lib.hid hp
          clear hp
          go_wp2_with (go_at_call 98; refine cM.mono ?_; rintro e w' ⟨rfl, rfl⟩)
          go_roundw
          case rel => exact ⟨s.size + 1, s.size + 1, q, sl, acc ++ [], by omega, by omega, by go_num, by go_num, rfl, rfl, Hnx.out [] (by rw [if_pos Hp.out]), by rw [List.append_nil]; exact hown, hb⟩
          case measure => simp [intOf] <;> omega
        · have hpe : (strB p).toList.isEmpty = false := by rw [Lib.toList_data, strB_data, List.isEmpty_eq_false_iff]; exact hp
          have Hp := Lib.hid hp
          clear hp
          go_wp2_with (first | (go_at_call 98; refine cM.mono ?_; rintro e w' ⟨rfl, rfl⟩) | (at_builtin; refine wpList_append_own _ rfl _ _ 41 rfl w.heap.size 9 i0 (.string ⟨#[]⟩) 1 16 Tryz.underlying41 hi hz0 hz1 hz2 rfl (by decide) _ _ _ rfl (hown.alloc _) ⟨_, 0, none⟩ 1 1 [.string (strB p)] rfl rfl (cell_one_new _ _ _) (by intro u hu; simp at hu; subst hu; rfl) (by unfold maxLen; omega) (by omega) (by have := hb.size; simp; omega) ?_; intro v' w1 hown' hgrow _))
          go_roundw
          case rel =>
            refine ⟨s.size + 1, s.size + 1, q, sl, acc ++ [p], by omega, by omega, by go_num, by go_num, rfl, rfl, Hnx.out [p] (by rw [if_neg Hp.out]), ?_, (hb.alloc hb.size _).grown hgrow (by have := hb.size; simp; omega) (fun k e => (World.ownsRow.lt hown k e).1)⟩
            rw [List.length_append, List.map_append]
            exact hown'
          case measure => simp [intOf] <;> omega
      · obtain rfl : k = s.size + 1 := by omega
        have Hfin : Hid (splitL s.data.toList = acc) := Lib.hid (by
          rw [hI.split, hI.last (by rw [← Hsz.out]), List.drop_of_length_le (by omega), splitL_nil, List.append_nil])
        go_wp2
        go_ret
        refine ⟨_, rfl, ?_, hb⟩
        rw [Hfin.out]
        exact hown

end Go.Proofs.YtpifbgefkbhopaaGreatDoor

namespace Go.Proofs.YtpifbgefkbhopaaGreatDoor
open Go.RowKit Go.Lib

theorem info_rdir2 : (Tryz.prog.info? 147).map (fun i => (i.zero, i.size, i.bytes)) = some (some (.agg #[.string ⟨#[]⟩, .string ⟨#[]⟩, .bool false]), 3, 40) := by kernel_rfl

set_option maxRecDepth 100000 in
set_option maxHeartbeats 4000000 in
theorem rparse_any (s : ByteArray) (w : World) (hs : s.size ≤ 100000) :
    Calls Tryz.prog 47 #[.string s] w fun e w' => (∃ u, e = .returned u ∧ Dirs w.heap.size w' u (dirsL s.data.toList)) ∧ Below w.heap.size w w' := by
  obtain ⟨i0, hi, hz0, hz1, hz2⟩ := info_parts info_rdir2
  have cS := rsplit_any s w (by omega)
  obtain ⟨hn1, hn2⟩ := splitL_small _ s.data.toList (Nat.le_refl _)
  rw [← Lib.size_eq] at hn1 hn2
  have HD : Hid (dirsL s.data.toList = (splitL s.data.toList).filterMap oneL) := Lib.hid rfl
  generalize dirsL s.data.toList = DS at *
  generalize splitL s.data.toList = ps at *
  have HN2 := Lib.hid hn2
  clear hn2
  go_enter Tryz.func47, Tryz.ntmps47
  go_wp2_with fail
  refine cS.mono ?_
  rintro e w1 ⟨vs, rfl, hown, hb1⟩
  have HS1 := Lib.hid hown
  have HB1 := Lib.hid hb1
  obtain ⟨sa, sc, rfl⟩ := owns_formF hown
  clear hown hb1 cS
  go_wp2_with fail
  go_loopw [3, 5] (fun r i wr => ∃ (j : Nat) (acc : List Dir) (av : Option Addr) (cv : Nat), r = .slice av acc.length cv ∧ i = .int .i64 j ∧ j ≤ ps.length ∧ acc.length ≤ j ∧ Hid (acc = (ps.take j).filterMap oneL) ∧ Hid (wr.ownsRow w1.heap.size 147 3 (.slice av acc.length cv) acc.length (rowD acc)) ∧ Hid (Below w1.heap.size w1 wr)) (fun _ i _ => ps.length - (intOf i).toNat)
  case atStart => exact ⟨0, [], none, 0, rfl, rfl, Nat.zero_le _, by simp, Lib.hid rfl, Lib.hid (World.ownsRow_nil _ _ _ _), Lib.hid (Below.refl _ _)⟩
  case round =>
    obtain ⟨j, acc, av, cv, rfl, rfl, hj, hal, HA, HO, HB⟩ := hrel
    by_cases hlt : j < ps.length
    · obtain ⟨p, hp⟩ : ∃ p, ps[j]? = some p := ⟨_, List.getElem?_eq_getElem hlt⟩
      have Htk : Hid ((ps.take (j + 1)).filterMap oneL = (ps.take j).filterMap oneL ++ (oneL p).toList) := Lib.hid (by
        rw [List.take_add_one, hp, List.filterMap_append]
        cases h : oneL p <;> simp [h])
      have hpl : p.length ≤ 100000 := Nat.le_trans (HN2.out p (List.mem_of_getElem? hp)) hs
      have cO := fun W => rone_any (strB p) W (by rw [Lib.size_eq, strB_data]; exact hpl)
      rw [strB_data] at cO
      obtain ⟨g, cap2, hv, hg, hgl, _⟩ := owns_sliceF HS1.out (Nat.lt_of_le_of_lt (Nat.zero_le _) hlt)
      obtain ⟨rfl, _, rfl⟩ := Value.slice.inj hv
      have a0 := (HB.out.cell (p := ⟨g, j, none⟩) hgl).trans (owns_cellsF HS1.out j (.string (strB p)) (by rw [List.getElem?_map, hp] <;> rfl))
      have hjI : (j : Int) < (ps.length : Int) := by omega
      have hj0 : (0 : Int) ≤ (j : Int) := by omega
      have HP := Lib.hid hp
      have hz := HB.out.size
      clear hv hp hpl
      cases ho : oneL p with
      | none =>
        have HN : Hid ((ps.take (j + 1)).filterMap oneL = (ps.take j).filterMap oneL) := Lib.hid (by rw [Htk.out, ho]; simp)
        have cO1 : ∀ W, Calls Tryz.prog 71 #[.string (strB p)] W (fun e w' => (∃ N V H, e = .returned (.tuple #[.agg #[.string (strB N), .string (strB V), .bool H], .bool false])) ∧ Below W.heap.size W w') := fun W => (cO W).mono fun e w' h => by
          rw [ho] at h
          obtain ⟨⟨N, V, H, he, _⟩, hb⟩ := h
          exact ⟨⟨N, V, H, he⟩, hb⟩
        clear cO ho Htk
        go_wp2_with (go_at_call 71; refine (cO1 _).mono ?_; rintro e w2 ⟨⟨N, V, H, rfl⟩, hb2⟩; have HX := Lib.hid (HB.out.trans (hb2.mono hz)); have HO2 := Lib.hid (ownsRow_later HO.out hb2))
        go_roundw
        case rel => exact ⟨j + 1, acc, av, cv, rfl, by go_num, by omega, by omega, Lib.hid (by rw [HN.out]; exact HA.out), Lib.hid (HO2.out.alloc _), Lib.hid (HX.out.alloc HX.out.size _)⟩
        case measure => simp [intOf]; omega
      | some d =>
        have HN : Hid ((ps.take (j + 1)).filterMap oneL = (ps.take j).filterMap oneL ++ [d]) := Lib.hid (by rw [Htk.out, ho] <;> rfl)
        obtain ⟨N, V, H⟩ := d
        have cO1 : ∀ W, Calls Tryz.prog 71 #[.string (strB p)] W (fun e w' => e = .returned (.tuple #[.agg #[.string (strB N), .string (strB V), .bool H], .bool true]) ∧ Below W.heap.size W w') := fun W => (cO W).mono fun e w' h => by
          rw [ho] at h
          obtain ⟨⟨N', V', H', he, hd⟩, hb⟩ := h
          have hd := hd _ rfl
          simp only [Prod.mk.injEq] at hd
          obtain ⟨rfl, rfl, rfl⟩ := hd
          exact ⟨he, hb⟩
        clear cO ho Htk
        have HC := Lib.hid (show cellsD (N, V, H) = [.string (strB N), .string (strB V), .bool H] from rfl)
        have HRS := Lib.hid (rowD_snoc acc (N, V, H))
        go_wp2_with (first | (go_at_call 71; refine (cO1 _).mono ?_; rintro e w2 ⟨rfl, hb2⟩; have HX := Lib.hid (HB.out.trans (hb2.mono hz)); have HO2 := Lib.hid (ownsRow_later HO.out hb2)) | (at_builtin; refine wpList_append_own _ rfl _ _ 102 rfl w1.heap.size 147 i0 (.agg #[.string ⟨#[]⟩, .string ⟨#[]⟩, .bool false]) 3 40 Tryz.underlying102 hi hz0 hz1 hz2 rfl (by decide) (.slice av acc.length cv) acc.length (rowD acc) rfl ((HO2.out.alloc _).alloc _) ⟨_, 0, none⟩ 1 1 (cellsD (N, V, H)) rfl rfl (fun j u h => by have e := cells_newF (w2.alloc (.cells #[.string (strB N), .string (strB V), .bool H] 147)) (cellsD (N, V, H)) 147 j u h; rw [show (w2.alloc (.cells #[.string (strB N), .string (strB V), .bool H] 147)).heap.size = w2.heap.size + 1 by simp] at e; exact e) (by simp [Value.oneCell', cellsD]) (by unfold maxLen; omega) (by omega) (by have := HX.out.size; simp <;> omega) ?_; intro v' w5 hown5 hgrow5 _; obtain ⟨a5, c5, rfl⟩ := owns_formF hown5))
        go_roundw
        case rel =>
          refine ⟨j + 1, acc ++ [(N, V, H)], a5, c5, by rw [List.length_append] <;> rfl, by go_num, by omega, by simp; omega, Lib.hid (by rw [HN.out, HA.out]), Lib.hid (by rw [List.length_append, HRS.out]; exact hown5), Lib.hid ?_⟩
          exact ((HX.out.alloc HX.out.size _).alloc (by have := HX.out.size; simp <;> omega) _).grown hgrow5 (by have := HX.out.size; simp <;> omega) (fun k e => (World.ownsRow.lt HO2.out k e).1)
        case measure => simp [intOf]; omega
    · obtain rfl : j = ps.length := by omega
      have HR : Hid (acc = DS) := Lib.hid (by have := HA.out; rw [List.take_length] at this; rw [HD.out]; exact this)
      have HX := Lib.hid (HB1.out.trans (HB.out.mono HB1.out.size))
      have HF := Lib.hid (Dirs.of_own HO.out HB1.out.size)
      go_wp2_with fail
      refine bodyPost_ret (v := .slice av acc.length cv) (by simp [results, Tryz.results47, go_sem]) rfl ⟨⟨_, rfl, by rw [← HR.out]; exact HF.out⟩, HX.out⟩

end Go.Proofs.YtpifbgefkbhopaaGreatDoor
