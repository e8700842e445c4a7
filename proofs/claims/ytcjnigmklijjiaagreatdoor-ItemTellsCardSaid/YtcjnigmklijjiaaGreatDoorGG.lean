/- The law's awake (scullerylaw03). · The contract of the document's Size (sculleryref03). · The contract of the law's own (scullerylaw03): an item for the document. · The contracts of item.Params and item.Read. · Sizes: how long the printed text of a small item is, and that of one which was parsed (plain). -/
import Derived.Test.YtcjnigmklijjiaaGreatDoorGF
import Derived.Test.YtcjnigmklijjiaaGreatDoorGE
import Derived.Deep.RegionLaw
import Derived.Deep.AppendLies

namespace Go.Proofs.YtcjnigmklijjiaaGreatDoor
open Go.RowKit

theorem awake_ps : psL [59, 97, 59, 32, 98, 61, 63, 48, 59, 97, 61, 50] [] 0 = some ([⟨[97], 1, 2, []⟩, ⟨[98], 6, 0, []⟩], 12) := by
  rw [psL_some _ _ _ ⟨[97], 6, 1, []⟩ 1 (by rfl) (by kernel_rfl)]
  rw [show List.drop (1 + 1) ([59, 97, 59, 32, 98, 61, 63, 48, 59, 97, 61, 50] : List UInt8) = [59, 32, 98, 61, 63, 48, 59, 97, 61, 50] from rfl]
  rw [psL_some _ _ _ ⟨[98], 6, 0, []⟩ 5 (by rfl) (by kernel_rfl)]
  rw [show List.drop (1 + 5) ([59, 32, 98, 61, 63, 48, 59, 97, 61, 50] : List UInt8) = [59, 97, 61, 50] from rfl]
  rw [psL_some _ _ _ ⟨[97], 1, 2, []⟩ 3 (by rfl) (by kernel_rfl)]
  rw [show List.drop (1 + 3) ([59, 97, 61, 50] : List UInt8) = [] from rfl]
  rw [psL_end _ _ _ (by simp)]
  kernel_rfl

theorem awake_parse : parseL [32, 53, 59, 97, 59, 32, 98, 61, 63, 48, 59, 97, 61, 50, 32] = some (⟨1, 5, [], 1⟩, [⟨[97], 1, 2, []⟩, ⟨[98], 6, 0, []⟩]) := by
  have ht : Lib.trimB [32, 53, 59, 97, 59, 32, 98, 61, 63, 48, 59, 97, 61, 50, 32] 32 = [53, 59, 97, 59, 32, 98, 61, 63, 48, 59, 97, 61, 50] := by kernel_rfl
  have hr : readL [53, 59, 97, 59, 32, 98, 61, 63, 48, 59, 97, 61, 50] = some ⟨1, 5, [], 1⟩ := by kernel_rfl
  have hi : itmL [53, 59, 97, 59, 32, 98, 61, 63, 48, 59, 97, 61, 50] = some (⟨1, 5, [], 1⟩, [⟨[97], 1, 2, []⟩, ⟨[98], 6, 0, []⟩], 13) := by
    rw [itmL, hr]
    dsimp only
    rw [show List.drop 1 ([53, 59, 97, 59, 32, 98, 61, 63, 48, 59, 97, 61, 50] : List UInt8) = [59, 97, 59, 32, 98, 61, 63, 48, 59, 97, 61, 50] from rfl, awake_ps]
  rw [parseL, ht, hi]
  dsimp only
  rw [if_neg (by decide)]

theorem awake_none : parseL [53, 32, 59, 97] = none := by
  have ht : Lib.trimB [53, 32, 59, 97] 32 = [53, 32, 59, 97] := by kernel_rfl
  have hr : readL [53, 32, 59, 97] = some ⟨1, 5, [], 1⟩ := by kernel_rfl
  have hi : itmL [53, 32, 59, 97] = some (⟨1, 5, [], 1⟩, [], 1) := by
    rw [itmL, hr]
    dsimp only
    rw [show List.drop 1 ([53, 32, 59, 97] : List UInt8) = [32, 59, 97] from rfl, psL_end _ _ _ (by simp)]
  rw [parseL, ht, hi]
  dsimp only
  rw [if_pos (by decide)]

theorem awake_print : prT 1 5 [] [⟨[97], 1, 2, []⟩, ⟨[98], 6, 0, []⟩] = some [53, 59, 97, 61, 50, 59, 98, 61, 63, 48] := by kernel_rfl

set_option maxRecDepth 100000 in
set_option maxHeartbeats 4000000 in
theorem awake_any (w : World) (hA : Alph w) (hP : Pow w) :
    Calls Tryz.prog 8 #[] w fun e w' => e = .returned (.bool true) ∧ Below w.heap.size w w' := by
  have HA := Lib.hid hA
  have HP := Lib.hid hP
  clear hA hP
  go_enter Tryz.func8, Tryz.ntmps8
  go_wp2_with fail
  refine (parse_any _ _ (by decide) (by exact HA.out)).mono ?_
  rw [show parseL (⟨#[32, 53, 59, 97, 59, 32, 98, 61, 63, 48, 59, 97, 61, 50, 32]⟩ : ByteArray).data.toList = some (⟨1, 5, [], 1⟩, [⟨[97], 1, 2, []⟩, ⟨[98], 6, 0, []⟩]) from awake_parse]
  rintro e w1 ⟨hb1, v, rfl, hv⟩
  have hp1 := Prms.of_own hv
  clear hv
  have HPr := Lib.hid hp1
  obtain ⟨ao, cap, rfl, hc⟩ := hp1
  clear hc
  rw [show strB [] = ⟨#[]⟩ from rfl, show ([⟨[97], 1, 2, []⟩, ⟨[98], 6, 0, []⟩] : List Prm).length = 2 from rfl]
  have hz1 := hb1.size
  have hbx := hb1.alloc hz1 (.cells #[.int .i64 1, .int .i64 5, .string ⟨#[]⟩, .slice ao 2 cap] 26)
  have hpx := HPr.out.below ((Below.refl _ _).alloc (Nat.le_refl _) (.cells #[.int .i64 1, .int .i64 5, .string ⟨#[]⟩, .slice ao 2 cap] 26))
  go_wp2_with fail
  refine (iprint_any 1 5 [] _ _ _ hpx (by decide) (by
    intro p hp
    simp only [List.mem_cons, List.not_mem_nil, or_false] at hp
    rcases hp with rfl | rfl
    · exact ⟨by decide, by decide, by decide, by decide⟩
    · exact ⟨by decide, by decide, by decide, by decide⟩) (by decide) (by decide) (HA.out.below hbx) (HP.out.below hbx)).mono ?_
  rw [awake_print, textV, strB]
  rintro e w2 ⟨rfl, hb2⟩
  have hbx2 := hbx.trans (hb2.mono hbx.size)
  go_wp2_with fail
  refine (readKey_any _ _ (by decide)).mono ?_
  rw [show rkV (⟨#[42, 97, 45, 49, 61]⟩ : ByteArray).data.toList = .tuple #[.string ⟨#[42, 97, 45, 49]⟩, .int .i64 4, .int .i64 0] by kernel_rfl]
  rintro e w3 ⟨rfl, rfl⟩
  go_wp2_with fail
  refine (parse_any _ _ (by decide) (HA.out.below hbx2)).mono ?_
  rw [show parseL (⟨#[53, 32, 59, 97]⟩ : ByteArray).data.toList = none from awake_none]
  rintro e w4 ⟨hb4, rfl⟩
  have hb24 := hb2.trans (hb4.mono hb2.size)
  have hbx4 := hbx2.trans (hb4.mono hbx2.size)
  clear hb4 hb2 hbx2
  obtain ⟨p0, p1, p2, p3⟩ := item_cells w1 1 5 ⟨#[]⟩ (.slice ao 2 cap) w4 (by simpa using hb24)
  have hz4 : w1.heap.size < w4.heap.size := by have := hb24.size; simp at this; omega
  have hb14 := ((Below.refl w1.heap.size w1).alloc (Nat.le_refl _) (.cells #[.int .i64 1, .int .i64 5, .string ⟨#[]⟩, .slice ao 2 cap] 26)).trans (hb24.mono (by simp))
  have hbW := hbx4.alloc hbx4.size (.cells #[.int .i64 0, .int .i64 0, .string ⟨#[]⟩, .slice none 0 0] 26)
  have hpW := HPr.out.below (hb14.alloc hb14.size (.cells #[.int .i64 0, .int .i64 0, .string ⟨#[]⟩, .slice none 0 0] 26))
  clear hb14 hbx4 hb24
  go_wp2_with fail
  refine (key_any _ _ (by decide)).mono ?_
  rw [show keyL (⟨#[97, 46, 98]⟩ : ByteArray).data.toList = true by kernel_rfl]
  rintro e w5 ⟨rfl, rfl⟩
  go_wp2_with fail
  refine (isame_any 1 5 1 5 [] [] _ _ _ _ _ hpW hpW (by decide) (by decide)).mono ?_
  rw [show sameI 1 5 [] [⟨[97], 1, 2, []⟩, ⟨[98], 6, 0, []⟩] 1 5 [] [⟨[97], 1, 2, []⟩, ⟨[98], 6, 0, []⟩] = true by kernel_rfl]
  rintro e w6 ⟨rfl, hb6⟩
  go_wp2_with fail
  go_ret
  exact ⟨rfl, hbW.trans (hb6.mono hbW.size)⟩

end Go.Proofs.YtcjnigmklijjiaaGreatDoor

namespace Go.Proofs.YtcjnigmklijjiaaGreatDoor
open Go.RowKit

/-- What a round adds, in 64 bits. -/
def szStep (n : Int) (p : Prm) : Int := wrap64 (wrap64 (wrap64 (n + (p.key.length : Int)) + (p.s.length : Int)) + 1)
def szGo (n : Int) : List Prm → Int
  | [] => n
  | p :: ps => if n < 100000 then szGo (szStep n p) ps else n

set_option maxRecDepth 100000 in
set_option maxHeartbeats 2000000 in
theorem size_any (v : Value) (ps : List Prm) (w : World) (h : Prms w v ps) (hl : ps.length ≤ maxLen) :
    Calls Tryz.prog 9 #[v] w fun e w' => e = .returned (.int .i64 (szGo 0 ps)) ∧ Below w.heap.size w w' := by
  unfold maxLen at hl
  obtain ⟨ao, cap, rfl, hc⟩ := h
  have HC := Lib.hid hc
  clear hc
  go_enter Tryz.func9, Tryz.ntmps9
  go_wp2_with fail
  go_loopw [3, 4] (fun n i wr => ∃ (j : Nat) (N : Int), n = .int .i64 N ∧ i = .int .i64 j ∧ j ≤ ps.length ∧ Hid (szGo 0 ps = szGo N (ps.drop j)) ∧ Below w.heap.size w wr) (fun _ i _ => ps.length - (intOf i).toNat)
  case atStart => exact ⟨0, 0, rfl, rfl, Nat.zero_le _, Lib.hid rfl, Below.refl _ _⟩
  case round =>
    obtain ⟨j, N, rfl, rfl, hj, H, hb⟩ := hrel
    have HB := Lib.hid hb
    by_cases hlt : j < ps.length
    · rcases HC.out with hnil | ⟨c, off, rfl, hcell⟩
      · exfalso
        rw [hnil] at hlt
        simp at hlt
      · obtain ⟨p, hp⟩ : ∃ p, ps[j]? = some p := ⟨_, List.getElem?_eq_getElem hlt⟩
        obtain ⟨x0, x1, x2, x3⟩ := rowP_at ps j p hp
        have hcl : c < w.heap.size := lt_of_cell (hcell _ _ x0)
        have a0 := (hb.cell (p := ⟨c, off + j * 4, none⟩) hcl).trans (hcell _ _ x0)
        have a3 := (hb.cell (p := ⟨c, off + (j * 4 + 3), none⟩) hcl).trans (hcell _ _ x3)
        simp only [← Nat.add_assoc] at a3
        have jI : (j : Int) < (ps.length : Int) := by omega
        have j0 : (0 : Int) ≤ (j : Int) := by omega
        have hd : ps.drop j = p :: ps.drop (j + 1) := by
          obtain ⟨h1, h2⟩ := List.getElem?_eq_some_iff.1 hp
          rw [← h2]
          exact List.drop_eq_getElem_cons h1
        rw [hd] at H
        have HD : Hid (szStep N p = wrap64 (wrap64 (wrap64 (N + ((strB p.key).size : Int)) + ((strB p.s).size : Int)) + 1)) := Lib.hid (by rw [strB_size, strB_size, szStep])
        clear hcell x0 x1 x2 x3 hb hd hp
        cases hN : decide (N < 100000)
        · have HE : Hid (szGo 0 ps = N) := Lib.hid (by rw [H.out, szGo, if_neg (by simpa using hN)])
          clear H HD
          go_wp2_with fail
          go_ret
          exact ⟨by rw [HE.out]; rfl, HB.out⟩
        · have HE : Hid (szGo 0 ps = szGo (szStep N p) (ps.drop (j + 1))) := Lib.hid (by rw [H.out, szGo, if_pos (by simpa using hN)])
          clear H
          generalize strB p.key = K at *
          generalize strB p.s = S at *
          go_wp2_with fail
          go_quiet (fail)
          go_wp2_with fail
          go_roundw
          case rel => exact ⟨j + 1, szStep N p, by rw [HD.out], by go_num, by omega, Lib.hid HE.out, HB.out.trans ((below_drewN _ _).mono HB.out.size)⟩
          case measure => simp [intOf]; omega
    · obtain rfl : j = ps.length := by omega
      have HE : Hid (szGo 0 ps = N) := Lib.hid (by rw [H.out, List.drop_length, szGo])
      clear H hb
      go_wp2_with fail
      go_ret
      exact ⟨by rw [HE.out]; rfl, HB.out⟩

theorem szStep_small (n : Int) (p : Prm) (h0 : 0 ≤ n) (h1 : n < 100000) (h2 : p.key.length + p.s.length ≤ 4611686018427387904) : szStep n p = n + p.key.length + p.s.length + 1 := by
  unfold szStep
  unfold wrap64
  omega

/-- What Size tells, of lengths whose sum does not leave 64 bits. -/
theorem szGo_ok : ∀ (ps : List Prm) (n : Int), 0 ≤ n → (∀ p ∈ ps, p.key.length + p.s.length ≤ 4611686018427387904) → szGo n ps ≤ 500 → n + ps.length ≤ 500 ∧ ∀ p ∈ ps, p.key.length + p.s.length ≤ 500
  | [], n, _, _, h => ⟨by simpa [szGo] using h, fun p hp => by cases hp⟩
  | p :: ps, n, h0, hs, h => by
    by_cases h1 : n < 100000
    · rw [szGo, if_pos h1, szStep_small n p h0 h1 (hs p (List.mem_cons_self ..))] at h
      obtain ⟨r1, r2⟩ := szGo_ok ps _ (by omega) (fun q hq => hs q (List.mem_cons_of_mem _ hq)) h
      refine ⟨by rw [List.length_cons]; omega, ?_⟩
      intro q hq
      rcases List.mem_cons.1 hq with rfl | hq
      · omega
      · exact r2 q hq
    · rw [szGo, if_neg h1] at h
      omega

end Go.Proofs.YtcjnigmklijjiaaGreatDoor

namespace Go.Proofs.YtcjnigmklijjiaaGreatDoor
open Go.RowKit Go.Maps

theorem info_rparam : (Tryz.prog.info? 98).map (fun i => (i.zero, i.size, i.bytes)) = some (some (.agg #[.string ⟨#[]⟩, .int .i64 0, .int .i64 0, .string ⟨#[]⟩]), 4, 48) := by kernel_rfl

theorem cell_later {w : World} {b i : Nat} {v : Value} (o : Obj) (h : w.cell? ⟨b, i, none⟩ = some v) : (w.alloc o).cell? ⟨b, i, none⟩ = some v :=
  (((Below.refl w.heap.size w).alloc (Nat.le_refl _) o).cell (p := ⟨b, i, none⟩) (lt_of_cell h)).trans h
theorem frozen_later {w : World} {b i : Nat} (o : Obj) (hb : b < w.heap.size) (h : w.frozen? ⟨b, i, none⟩ = false) : (w.alloc o).frozen? ⟨b, i, none⟩ = false :=
  (((Below.refl w.heap.size w).alloc (Nat.le_refl _) o).frozen (p := ⟨b, i, none⟩) hb).trans h
theorem ResI.later {w : World} {c : Nat} (o : Obj) (h : ResI w c) : ResI (w.alloc o) c :=
  ⟨cell_later o h.r0, cell_later o h.r1, cell_later o h.r2, cell_later o h.r3, frozen_later o h.lt h.g0, frozen_later o h.lt h.g1, frozen_later o h.lt h.g2, frozen_later o h.lt h.g3⟩
theorem made4 (w : World) (a b c d : Value) (T : TypeId) (z : Nat) (h : w.heap.size = z) : ((w.alloc (.cells #[a, b, c, d] T)).cell? ⟨z, 0, none⟩ = some a ∧ (w.alloc (.cells #[a, b, c, d] T)).cell? ⟨z, 1, none⟩ = some b ∧ (w.alloc (.cells #[a, b, c, d] T)).cell? ⟨z, 2, none⟩ = some c ∧ (w.alloc (.cells #[a, b, c, d] T)).cell? ⟨z, 3, none⟩ = some d) ∧ (w.alloc (.cells #[a, b, c, d] T)).frozen? ⟨z, 0, none⟩ = false ∧ (w.alloc (.cells #[a, b, c, d] T)).frozen? ⟨z, 1, none⟩ = false ∧ (w.alloc (.cells #[a, b, c, d] T)).frozen? ⟨z, 2, none⟩ = false ∧ (w.alloc (.cells #[a, b, c, d] T)).frozen? ⟨z, 3, none⟩ = false := by
  subst h
  exact ⟨⟨by simp, by simp, by simp, by simp⟩, by simp, by simp, by simp, by simp⟩

theorem kept_cell {wr w5 : World} {o : Obj} {base j size c i : Nat} {e : TypeId} {v u : Value} {xs : List Value} (HO : wr.ownsRow base e size v j xs) (hg : (wr.drew.alloc o).grownBy w5 v.ownBlock) (hc : c < base) (h : wr.cell? ⟨c, i, none⟩ = some u) : w5.cell? ⟨c, i, none⟩ = some u := by
  have hb := ((Below.refl wr.heap.size wr).drew).alloc (Nat.le_refl _) o
  have h2 := (hb.cell (p := ⟨c, i, none⟩) (lt_of_cell h)).trans h
  exact (grown_cell hg (lt_of_cell h2) (own_ne HO hc) i).trans h2
theorem kept_frozen {wr w5 : World} {o : Obj} {base j size c i : Nat} {e : TypeId} {v : Value} {xs : List Value} (HO : wr.ownsRow base e size v j xs) (hg : (wr.drew.alloc o).grownBy w5 v.ownBlock) (hc : c < base) (hl : c < wr.heap.size) (h : wr.frozen? ⟨c, i, none⟩ = false) : w5.frozen? ⟨c, i, none⟩ = false := by
  have hb := ((Below.refl wr.heap.size wr).drew).alloc (Nat.le_refl _) o
  have h2 := (hb.frozen (p := ⟨c, i, none⟩) hl).trans h
  exact (hg.frozen_far ⟨c, i, none⟩ (Nat.lt_of_lt_of_le hl hb.size) (own_ne HO hc)).trans h2

theorem own_next {w wr w5 : World} {o : Obj} {j m : Nat} {k n : Int} {s : ByteArray} {q v v' : Value} {xs ys : List Value} (HO : wr.ownsRow (w.heap.size + 3) 98 4 v j xs) (hg : (wr.drew.alloc o).grownBy w5 v.ownBlock)
    (hown5 : w5.ownsRow (w.heap.size + 3) 98 4 v' m ys) (b3 : wr.cell? ⟨w.heap.size, 3, none⟩ = some q) (o0 : wr.cell? ⟨w.heap.size + 2, 0, none⟩ = some (.int .i64 k)) (o1 : wr.cell? ⟨w.heap.size + 2, 1, none⟩ = some (.int .i64 n)) (o2 : wr.cell? ⟨w.heap.size + 2, 2, none⟩ = some (.string s)) (o3 : wr.cell? ⟨w.heap.size + 2, 3, none⟩ = some v) (of3 : wr.frozen? ⟨w.heap.size + 2, 3, none⟩ = false) (hr : ResI wr (w.heap.size + 1)) (hb : Below w.heap.size w wr) :
    let W := w5.setCell ⟨w.heap.size + 2, 3, none⟩ v'
    W.cell? ⟨w.heap.size, 3, none⟩ = some q ∧ W.cell? ⟨w.heap.size + 2, 0, none⟩ = some (.int .i64 k) ∧ W.cell? ⟨w.heap.size + 2, 1, none⟩ = some (.int .i64 n) ∧ W.cell? ⟨w.heap.size + 2, 2, none⟩ = some (.string s) ∧ W.cell? ⟨w.heap.size + 2, 3, none⟩ = some v' ∧ W.frozen? ⟨w.heap.size + 2, 3, none⟩ = false ∧ ResI W (w.heap.size + 1) ∧ W.ownsRow (w.heap.size + 3) 98 4 v' m ys ∧ Below w.heap.size w W := by
  intro W
  have hm : Moved (w.heap.size + 2) w5 W := (Moved.refl _ _).setCell v'
  have hz : w.heap.size + 2 < wr.heap.size := lt_of_cell o0
  have hzb := hb.size
  have k3 := kept_cell HO hg (by omega) b3
  have c0 := kept_cell HO hg (by omega) o0
  have c1 := kept_cell HO hg (by omega) o1
  have c2 := kept_cell HO hg (by omega) o2
  have c3 := kept_cell HO hg (by omega) o3
  have f3 := kept_frozen HO hg (by omega) hz of3
  have hr5 : ResI w5 (w.heap.size + 1) := ⟨kept_cell HO hg (by omega) hr.r0, kept_cell HO hg (by omega) hr.r1, kept_cell HO hg (by omega) hr.r2, kept_cell HO hg (by omega) hr.r3, kept_frozen HO hg (by omega) hr.lt hr.g0, kept_frozen HO hg (by omega) hr.lt hr.g1, kept_frozen HO hg (by omega) hr.lt hr.g2, kept_frozen HO hg (by omega) hr.lt hr.g3⟩
  have hbw : Below w.heap.size w w5 := by
    have h1 := hb.drew.alloc hb.size o
    exact ⟨hg.os.trans h1.os, hg.tape.trans h1.tape, hg.output.trans h1.output, Nat.le_trans h1.size hg.size, fun i hi => (hg.block i (Nat.lt_of_lt_of_le hi h1.size) (own_ne HO (by omega))).trans (h1.block i hi)⟩
  refine ⟨(hm.cell (p := ⟨w.heap.size, 3, none⟩) (lt_of_cell k3) (by show w.heap.size ≠ _; omega)).trans k3, ?_, ?_, ?_, ?_, ?_, hr5.moved hm (by omega), ownsRow_moved hown5 hm (by omega), hbw.setCell (by show w.heap.size ≤ w.heap.size + 2; omega) _⟩
  · exact (World.cell?_setCell_other w5 ⟨w.heap.size + 2, 3, none⟩ ⟨w.heap.size + 2, 0, none⟩ _ (by simp)).trans c0
  · exact (World.cell?_setCell_other w5 ⟨w.heap.size + 2, 3, none⟩ ⟨w.heap.size + 2, 1, none⟩ _ (by simp)).trans c1
  · exact (World.cell?_setCell_other w5 ⟨w.heap.size + 2, 3, none⟩ ⟨w.heap.size + 2, 2, none⟩ _ (by simp)).trans c2
  · exact World.cell?_setCell_same w5 ⟨w.heap.size + 2, 3, none⟩ _ c3
  · show (w5.setCell _ _).frozen? _ = false
    rw [World.frozen?_setCell]; exact f3

set_option maxRecDepth 100000 in
set_option maxHeartbeats 2000000 in
theorem own_any (k n : Int) (s : ByteArray) (v : Value) (ps : List Prm) (w : World) (h : Prms w v ps) (hl : ps.length * 48 ≤ 140737488355328) :
    Calls Tryz.prog 10 #[.agg #[.int .i64 k, .int .i64 n, .string s, v]] w fun e w' => ∃ u, e = .returned (.agg #[.int .i64 k, .int .i64 n, .string s, u]) ∧ w'.ownsRow (w.heap.size + 3) 98 4 u ps.length (rowP ps) ∧ Below w.heap.size w w' := by
  obtain ⟨i0, hi, hz0, hz1, hz2⟩ := info_parts info_rparam
  obtain ⟨ao, cap, rfl, hc⟩ := h
  have HC := Lib.hid hc
  clear hc
  go_enter Tryz.func10, Tryz.ntmps10
  go_wp2_with fail
  go_loopw [4] (fun i wr => ∃ (j : Nat) (u : Value), i = .int .i64 j ∧ j ≤ ps.length ∧ wr.cell? ⟨w.heap.size, 3, none⟩ = some (.slice ao ps.length cap) ∧ wr.cell? ⟨w.heap.size + 2, 0, none⟩ = some (.int .i64 k) ∧ wr.cell? ⟨w.heap.size + 2, 1, none⟩ = some (.int .i64 n) ∧ wr.cell? ⟨w.heap.size + 2, 2, none⟩ = some (.string s) ∧ wr.cell? ⟨w.heap.size + 2, 3, none⟩ = some u ∧ wr.frozen? ⟨w.heap.size + 2, 3, none⟩ = false ∧ ResI wr (w.heap.size + 1) ∧ wr.ownsRow (w.heap.size + 3) 98 4 u j (rowP (ps.take j)) ∧ Below w.heap.size w wr) (fun i _ => ps.length - (intOf i).toNat)
  case atStart =>
    obtain ⟨⟨_, _, _, e3⟩, _⟩ := made4 w (.int .i64 k) (.int .i64 n) (.string s) (.slice ao ps.length cap) 26 w.heap.size rfl
    obtain ⟨⟨z0, z1, z2, z3⟩, y0, y1, y2, y3⟩ := made4 (w.alloc (.cells #[.int .i64 k, .int .i64 n, .string s, .slice ao ps.length cap] 26)) (.int .i64 0) (.int .i64 0) (.string ⟨#[]⟩) (.slice none 0 0) 32 (w.heap.size + 1) (by simp)
    obtain ⟨⟨q0, q1, q2, q3⟩, _, _, _, t3⟩ := made4 ((w.alloc (.cells #[.int .i64 k, .int .i64 n, .string s, .slice ao ps.length cap] 26)).alloc (.cells #[.int .i64 0, .int .i64 0, .string ⟨#[]⟩, .slice none 0 0] 32)) (.int .i64 k) (.int .i64 n) (.string s) (.slice none 0 0) 32 (w.heap.size + 2) (by simp)
    exact ⟨0, .slice none 0 0, rfl, Nat.zero_le _, cell_later _ (cell_later _ e3), q0, q1, q2, q3, t3, ResI.later _ ⟨z0, z1, z2, z3, y0, y1, y2, y3⟩, World.ownsRow_nil _ _ _ _, (((Below.refl _ _).alloc (Nat.le_refl _) _).alloc (by simp) _).alloc (by simp; omega) _⟩
  case round =>
    obtain ⟨j, u, rfl, hj, b3, o0, o1, o2, o3, of3, hres, hown, hb⟩ := hrel
    have HR := Lib.hid hres
    obtain ⟨r0, r1, r2, r3, g0, g1, g2, g3⟩ := hres
    have HB := Lib.hid hb
    have HO := Lib.hid hown
    by_cases hlt : j < ps.length
    · rcases HC.out with hnil | ⟨c, off, rfl, hcell⟩
      · exfalso
        rw [hnil] at hlt
        simp at hlt
      · obtain ⟨p, hp⟩ : ∃ p, ps[j]? = some p := ⟨_, List.getElem?_eq_getElem hlt⟩
        obtain ⟨x0, x1, x2, x3⟩ := rowP_at ps j p hp
        have hcl : c < w.heap.size := lt_of_cell (hcell _ _ x0)
        have a0 := (hb.cell (p := ⟨c, off + j * 4, none⟩) hcl).trans (hcell _ _ x0)
        have a1 := (hb.cell (p := ⟨c, off + (j * 4 + 1), none⟩) hcl).trans (hcell _ _ x1)
        have a2 := (hb.cell (p := ⟨c, off + (j * 4 + 2), none⟩) hcl).trans (hcell _ _ x2)
        have a3 := (hb.cell (p := ⟨c, off + (j * 4 + 3), none⟩) hcl).trans (hcell _ _ x3)
        simp only [← Nat.add_assoc] at a1 a2 a3
        have jI : (j : Int) < (ps.length : Int) := by omega
        have j0 : (0 : Int) ≤ (j : Int) := by omega
        have htk : ps.take j ++ [p] = ps.take (j + 1) := by rw [List.take_add_one, hp]; rfl
        clear hcell x0 x1 x2 x3 hb hown hp
        obtain ⟨ao2, cap2, rfl⟩ := owns_form HO.out
        have hz := lt_of_cell o0
        have hO1 := HO.out.drew.alloc (.cells #[.string (strB p.key), .int .i64 p.k, .int .i64 p.n, .string (strB p.s)] 98)
        have HO1 := Lib.hid hO1
        have HN1 := Lib.hid (cells_new wr.drew (cellsP p) 98)
        have HC1 : Hid (∀ u ∈ cellsP p, u.oneCell' = true) := Lib.hid (by simp [Value.oneCell', cellsP])
        have hz3 : w.heap.size + 3 ≤ (wr.drew.alloc (.cells #[.string (strB p.key), .int .i64 p.k, .int .i64 p.n, .string (strB p.s)] 98)).heap.size := Nat.le_trans hz (((Below.refl wr.heap.size wr).drew).alloc (Nat.le_refl _) _).size
        clear hO1
        go_wp2_with fail
        go_region_law (refine step_append_lies _ rfl (.tmp 16) (.tmp 22) 30 rfl (w.heap.size + 3) 98 i0 (.agg #[.string ⟨#[]⟩, .int .i64 0, .int .i64 0, .string ⟨#[]⟩]) 4 48 Tryz.underlying30 hi hz0 hz1 hz2 rfl (by decide) (.slice ao2 j cap2) j (rowP (ps.take j)) (by simp [Act.eval]) HO1.out ⟨wr.heap.size, 0, none⟩ 1 1 (cellsP p) (by simp [Act.eval]) rfl HN1.out HC1.out (by decide) (by unfold maxLen; omega) (by omega) hz3 _ rfl ?_; intro g cap3 w5 hown5 hgrow5 hor5 hlt5; have e3 := kept_cell HO.out hgrow5 (Nat.lt_succ_self _) o3; have ef3 := kept_frozen HO.out hgrow5 (Nat.lt_succ_self _) hz of3)
        all_goals
          go_wp2_with fail
          go_roundw
          case rel =>
            have hN := own_next HO.out hgrow5 hown5 b3 o0 o1 o2 o3 of3 HR.out HB.out
            rw [← rowP_snoc, htk] at hN
            obtain ⟨n0, n1, n2, n3, n4, n5, n6, n7, n8⟩ := hN
            exact ⟨j + 1, _, by go_num, by omega, n0, n1, n2, n3, n4, n5, n6, n7, n8⟩
          case measure => simp [intOf]; omega
    · obtain rfl : j = ps.length := by omega
      clear hb hown
      obtain ⟨ao2, cap2, rfl⟩ := owns_form HO.out
      go_wp2_with fail
      have hown := HO.out
      rw [List.take_length] at hown
      have hm := ((((Moved.refl (w.heap.size + 1) wr).setCell (o := 0) (.int .i64 k)).setCell (o := 1) (.int .i64 n)).setCell (o := 2) (.string s)).setCell (o := 3) (.slice ao2 ps.length cap2)
      refine bodyPost_ret (v := .agg #[.int .i64 k, .int .i64 n, .string s, .slice ao2 ps.length cap2]) (by simp [results, Tryz.results10, go_sem, r0, r1, r2, r3]) rfl ⟨_, rfl, ownsRow_moved hown hm (by omega), HB.out.trans (hm.below (by omega) HB.out.size)⟩

end Go.Proofs.YtcjnigmklijjiaaGreatDoor

namespace Go.Proofs.YtcjnigmklijjiaaGreatDoor
open Go.RowKit Go.Maps

def psPost (o : Option (List Prm × Nat)) (w : World) (e : Ending) (w' : World) : Prop :=
  Below w.heap.size w w' ∧ match o with
    | none => e = .returned (.tuple #[.slice none 0 0, .int .i64 0, .int .i64 2])
    | some (ps, m) => ∃ v, e = .returned (.tuple #[v, .int .i64 (m : Int), .int .i64 0]) ∧ w'.ownsRow w.heap.size 99 4 v ps.length (rowP ps)

set_option maxRecDepth 100000 in
set_option maxHeartbeats 2000000 in
theorem iparams_any (s : ByteArray) (w : World) (hs : s.size ≤ 100000) (hA : Alph w) :
    Calls Tryz.prog 17 #[.string s] w (psPost (psL s.data.toList [] 0) w) := by
  have hgl : 0 < w.heap.size := lt_of_cell (hA 0 (by decide))
  have HA := Lib.hid hA
  clear hA
  go_enter Tryz.func17, Tryz.ntmps17
  go_wp2_with fail
  refine (parserOf_any _ _).mono ?_
  rintro e w2 ⟨rfl, hb2⟩
  have hz2 := hb2.size
  have cI := params_any w2.heap.size s 0 (w2.alloc (.cells #[.string s, .int .i64 0] 105)) (Par.made w2 s) hs (Nat.zero_le _) (HA.out.below (hb2.alloc hb2.size _)) (by omega)
  rw [List.drop_zero] at cI
  have HB2 := Lib.hid (hb2.alloc hb2.size (.cells #[.string s, .int .i64 0] 105))
  clear hb2
  cases hit : psL s.data.toList [] 0 with
  | none =>
    rw [hit] at cI
    have HL := Lib.hid hit
    clear hit
    go_wp2_with fail
    refine cI.mono ?_
    rintro e w3 ⟨hM3, rfl⟩
    have hB3 := HB2.out.trans (hM3.below (by omega) (by simp; omega))
    clear cI hM3 HB2
    go_wp2_with fail
    refine bodyPost_ret (v := .tuple #[.slice none 0 0, .int .i64 0, .int .i64 2]) (by simp [results, Tryz.results17, go_sem]) rfl ?_
    rw [HL.out]
    exact ⟨hB3, rfl⟩
  | some x =>
    obtain ⟨ps, m⟩ := x
    rw [hit] at cI
    have HL := Lib.hid hit
    clear hit
    go_wp2_with fail
    refine cI.mono ?_
    rintro e w3 ⟨hM3, v, rfl, hown, hP3⟩
    rw [Nat.zero_add] at hP3
    obtain ⟨ao, cap, rfl⟩ := owns_form hown
    have hB3 := HB2.out.trans (hM3.below (by omega) (by simp; omega))
    have c1 := hP3.at_
    have hw := ownsRow_low hown (show w.heap.size ≤ _ by simp; omega)
    have HO := Lib.hid hw
    clear cI hM3 HB2 hP3 hown hw
    go_wp2_with fail
    go_quiet (fail)
    go_wp2_with fail
    refine bodyPost_ret (v := .tuple #[.slice ao ps.length cap, .int .i64 (m : Int), .int .i64 0]) (by simp [results, Tryz.results17, go_sem]) rfl ?_
    rw [HL.out]
    refine ⟨hB3.trans ((below_drewN _ _).mono hB3.size), _, rfl, ?_⟩
    exact ownsRow_later HO.out (below_drewN _ _)

theorem Moved.drew1 {b : Nat} {w W : World} (h : Moved b w W) : Moved b w W.drew := ⟨h.os, h.tape, h.output, h.size, h.block⟩

def ireadPost (o : Option (Got × List Prm × Nat)) (w : World) (e : Ending) (w' : World) : Prop :=
  Below w.heap.size w w' ∧ match o with
    | none => e = .returned (.tuple #[.agg #[.int .i64 0, .int .i64 0, .string ⟨#[]⟩, .slice none 0 0], .int .i64 0, .int .i64 2])
    | some (g, ps, m) => ∃ v, e = .returned (.tuple #[.agg #[.int .i64 g.k, .int .i64 g.n, .string (strB g.s), v], .int .i64 (m : Int), .int .i64 0]) ∧ w'.ownsRow w.heap.size 99 4 v ps.length (rowP ps)

set_option maxRecDepth 100000 in
set_option maxHeartbeats 2000000 in
theorem iread_any (s : ByteArray) (w : World) (hs : s.size ≤ 100000) (hA : Alph w) :
    Calls Tryz.prog 13 #[.string s] w (ireadPost (itmL s.data.toList) w) := by
  have hgl : 0 < w.heap.size := lt_of_cell (hA 0 (by decide))
  have HA := Lib.hid hA
  have hb0 : Below w.heap.size w (w.alloc zeroItem) := (Below.refl _ _).alloc (Nat.le_refl _) _
  have HR0 := Lib.hid (ResI.made w)
  clear hA
  go_enter Tryz.func13, Tryz.ntmps13
  go_wp2_with fail
  refine (parserOf_any _ _).mono ?_
  rintro e w2 ⟨rfl, hb2⟩
  have hbw := hb0.trans (hb2.mono hb0.size)
  have hz2 : w.heap.size < w2.heap.size := by have := hb2.size; simp at this; omega
  have hR2 := HR0.out.moved (Moved.of_below (b := w2.heap.size) hb2) (by omega)
  have cI := item_any w2.heap.size s 0 (w2.alloc (.cells #[.string s, .int .i64 0] 105)) (Par.made w2 s) hs (Nat.zero_le _) (HA.out.below (hbw.alloc hbw.size _)) (by omega)
  rw [List.drop_zero] at cI
  have HBw := Lib.hid (hbw.alloc hbw.size (.cells #[.string s, .int .i64 0] 105))
  have HR2 := Lib.hid hR2
  clear hb2 hbw hR2 HR0 hb0
  cases hit : itmL s.data.toList with
  | none =>
    rw [hit] at cI
    have HL := Lib.hid hit
    clear hit
    go_wp2_with fail
    refine cI.mono ?_
    rintro e w3 ⟨hM3, rfl⟩
    have hR3 := (HR2.out.moved ((Moved.refl w2.heap.size w2).alloc _) (by omega)).moved hM3 (by omega)
    have hB3 := HBw.out.trans (hM3.below (by omega) (by simp; omega))
    have hlt3 := hR3.lt
    obtain ⟨r0, r1, r2, r3, g0, g1, g2, g3⟩ := hR3
    clear cI hM3 HBw HR2
    go_wp2_with fail
    refine bodyPost_ret (v := .tuple #[.agg #[.int .i64 0, .int .i64 0, .string ⟨#[]⟩, .slice none 0 0], .int .i64 0, .int .i64 2]) (by simp [results, Tryz.results13, go_sem, r0, r1, r2, r3, hlt3]) rfl ?_
    rw [HL.out]
    refine ⟨?_, rfl⟩
    repeat (first | with_reducible refine Below.alloc ?_ (by simp; omega) _ | with_reducible refine Below.setCell ?_ (by simp) _)
    exact hB3
  | some x =>
    obtain ⟨⟨gk, gn, gs, gm⟩, ps, m⟩ := x
    rw [hit] at cI
    have HL := Lib.hid hit
    clear hit
    go_wp2_with fail
    refine cI.mono ?_
    rintro e w3 ⟨hM3, v, rfl, hown, hP3⟩
    simp only
    generalize hSe : strB gs = S
    have HS := Lib.hid hSe
    clear hSe
    rw [Nat.zero_add] at hP3
    obtain ⟨ao, cap, rfl⟩ := owns_form hown
    have hR3 := (HR2.out.moved ((Moved.refl w2.heap.size w2).alloc _) (by omega)).moved hM3 (by omega)
    have hB3 := HBw.out.trans (hM3.below (by omega) (by simp; omega))
    have hlt3 := hR3.lt
    have hlt4 : w2.heap.size < w3.heap.size := hP3.lt
    obtain ⟨r0, r1, r2, r3, g0, g1, g2, g3⟩ := hR3
    have c0 := hP3.text
    have c1 := hP3.at_
    have HO := Lib.hid hown
    clear cI hM3 HBw HR2 hP3 hown
    go_wp2_with fail
    go_region
    all_goals
      go_wp2_with fail
      refine bodyPost_ret (v := .tuple #[.agg #[.int .i64 gk, .int .i64 gn, .string S, .slice ao ps.length cap], .int .i64 (m : Int), .int .i64 0]) (by simp [results, Tryz.results13, go_sem, r0, r1, r2, r3, hlt3]) rfl ?_
      rw [HL.out]
      refine ⟨?_, _, by rw [HS.out], ?_⟩
      · repeat (first | with_reducible refine Below.alloc ?_ (by simp; omega) _ | with_reducible refine Below.setCell ?_ (by simp) _ | with_reducible refine Below.drew ?_)
        exact hB3
      · refine ownsRow_low (ownsRow_moved (HO.out) (b := w.heap.size) ?_ (by simp; omega)) (by simp; omega)
        repeat (first | with_reducible refine Moved.drew1 ?_ | with_reducible refine Moved.alloc ?_ _ | with_reducible refine Moved.setCell ?_ _)
        exact Moved.refl _ _

end Go.Proofs.YtcjnigmklijjiaaGreatDoor

namespace Go.Proofs.YtcjnigmklijjiaaGreatDoor
open Go.RowKit

/-- How much there is of parameters. -/
def szN : List Prm → Nat
  | [] => 0
  | p :: ps => p.key.length + p.s.length + 1 + szN ps

theorem szN_append : ∀ (ps qs : List Prm), szN (ps ++ qs) = szN ps + szN qs
  | [], _ => by simp [szN]
  | p :: ps, qs => by rw [List.cons_append, szN, szN, szN_append ps qs]; omega

theorem szN_set : ∀ (ps : List Prm) (i : Nat) (p : Prm), szN (ps.set i p) ≤ szN ps + (p.key.length + p.s.length + 1)
  | [], _, _ => by simp [szN]
  | q :: ps, 0, p => by simp only [List.set_cons_zero, szN]; omega
  | q :: ps, i + 1, p => by
    have := szN_set ps i p
    simp only [List.set_cons_succ, szN]; omega

theorem szN_put (acc : List Prm) (p : Prm) : szN (putL acc p) ≤ szN acc + (p.key.length + p.s.length + 1) := by
  unfold putL
  split
  · exact szN_set _ _ _
  · rw [szN_append]; simp [szN]

theorem szN_mem : ∀ (ps : List Prm) (p : Prm), p ∈ ps → p.key.length + p.s.length + 1 ≤ szN ps
  | q :: ps, p, h => by
    rcases List.mem_cons.1 h with rfl | h
    · rw [szN]; omega
    · have := szN_mem ps p h
      rw [szN]; omega

theorem szN_len : ∀ ps : List Prm, ps.length ≤ szN ps
  | [] => Nat.le_refl _
  | p :: ps => by
    have := szN_len ps
    rw [szN, List.length_cons]; omega

theorem szGo_szN : ∀ (ps : List Prm) (n : Int), 0 ≤ n → (∀ p ∈ ps, p.key.length + p.s.length ≤ 4611686018427387904) → szGo n ps ≤ 500 → n + szN ps ≤ 500
  | [], n, _, _, h => by simpa [szGo, szN] using h
  | p :: ps, n, h0, hs, h => by
    by_cases h1 : n < 100000
    · rw [szGo, if_pos h1, szStep_small n p h0 h1 (hs p (List.mem_cons_self ..))] at h
      have r1 := szGo_szN ps _ (by omega) (fun q hq => hs q (List.mem_cons_of_mem _ hq)) h
      rw [szN]
      omega
    · rw [szGo, if_neg h1] at h
      omega

theorem ppGo_szN : ∀ (ps : List Prm) (u : List UInt8), ppGo ps = some u → u.length ≤ 22 * szN ps
  | [], u, h => by
    obtain rfl := Option.some.inj h
    simp
  | p :: ps, u, h => by
    cases hp : pmT p with
    | none => rw [ppGo_none p ps hp] at h; cases h
    | some x =>
      have hx := pmT_len p x hp
      rw [ppGo_some p ps x hp] at h
      cases hq : ppGo ps with
      | none => rw [hq] at h; cases h
      | some y =>
        have := ppGo_szN ps y hq
        rw [hq] at h
        obtain rfl := Option.some.inj h
        simp only [List.length_append, szN]
        omega

theorem prT_len (k n : Int) (s u : List UInt8) (ps : List Prm) (h : prT k n s ps = some u) : u.length ≤ 2 * s.length + 20 + 22 * szN ps := by
  obtain ⟨hr, _, v, hv, rfl⟩ := prT_some k n s u ps h
  have h1 := textL_len k n s hr
  have h2 := ppGo_szN ps v hv
  rw [List.length_append]; omega

/-- What a parameter that is handed over may be. -/
def InP (ps : List Prm) : Prop := ps.length * 48 ≤ 140737488355328 ∧ ∀ p ∈ ps, p.key.length ≤ 140737488355328 ∧ p.s.length ≤ 140737488355328 ∧ -9223372036854775808 ≤ p.n ∧ p.n ≤ 9223372036854775807

theorem rsL_used : ∀ (l acc : List UInt8) (m : Nat) (g : Got), rsL l acc m = some g → g.s.length + m ≤ acc.length + g.m
  | [], _, _, _, h => by rw [rsL.eq_def] at h; cases h
  | [c], acc, m, g, h => by
    by_cases h1 : c = 34
    · subst h1
      rw [rsL_quote] at h
      obtain rfl := Option.some.inj h
      show acc.length + m ≤ acc.length + (m + 1)
      omega
    · by_cases h2 : c = 92
      · subst h2
        rw [rsL_esc_end] at h; cases h
      · rw [rsL_other _ _ _ _ h1 h2] at h
        split at h
        · rw [rsL.eq_def] at h; cases h
        · cases h
  | c :: d :: q, acc, m, g, h => by
    by_cases h1 : c = 34
    · subst h1
      rw [rsL_quote] at h
      obtain rfl := Option.some.inj h
      show acc.length + m ≤ acc.length + (m + 1)
      omega
    · by_cases h2 : c = 92
      · subst h2
        rw [rsL_esc] at h
        split at h
        · have r := rsL_used q (acc ++ [d]) (m + 2) g h
          simp only [List.length_append, List.length_cons, List.length_nil] at r
          omega
        · cases h
      · rw [rsL_other _ _ _ _ h1 h2] at h
        split at h
        · have r := rsL_used (d :: q) (acc ++ [c]) (m + 1) g h
          simp only [List.length_append, List.length_cons, List.length_nil] at r
          omega
        · cases h

/-- What is read takes at least as much of the text as it holds. -/
theorem readL_used (l : List UInt8) (g : Got) (h : readL l = some g) : g.s.length ≤ g.m := by
  cases l with
  | nil => cases h
  | cons c r =>
    unfold readL at h
    dsimp only at h
    split at h
    · obtain ⟨_, _, _, h4⟩ := readNumL_right _ g h
      rw [h4]; simp
    · split at h
      · rw [readStrL, List.drop_one, List.tail_cons] at h
        have r := rsL_used r [] 1 g h
        simp only [List.length_nil] at r
        omega
      · split at h
        · obtain rfl := Option.some.inj h
          show ((c :: r).take (tlen (c :: r))).length ≤ tlen (c :: r)
          rw [List.length_take]; omega
        · split at h
          · unfold readBytesL at h
            rw [List.drop_one, List.tail_cons] at h
            split at h
            · cases h
            · rename_i hi
              obtain ⟨i0, i1⟩ := index_le _ _ hi
              split at h
              · cases h
              · rename_i b hb
                obtain rfl := Option.some.inj h
                have e := congrArg List.length (decL_some _ _ hb)
                rw [encL_len, List.length_take] at e
                show b.length ≤ _ + 2
                omega
          · split at h
            · unfold readBoolL at h
              split at h
              · split at h
                · obtain rfl := Option.some.inj h
                  exact Nat.zero_le _
                · cases h
              · cases h
            · cases h

theorem parL_used (l : List UInt8) (p : Prm) (n : Nat) (h : parL l = some (p, n)) : p.key.length + p.s.length ≤ n := by
  unfold parL at h
  split at h
  · cases h
  · split at h
    · split at h
      · cases h
      · rename_i g hg
        have hr := readL_used _ g hg
        obtain ⟨rfl, rfl⟩ := Prod.mk.inj (Option.some.inj h)
        show (List.take _ _).length + g.s.length ≤ _
        rw [List.length_take]
        omega
    · obtain ⟨rfl, rfl⟩ := Prod.mk.inj (Option.some.inj h)
      show (List.take _ _).length + ([] : List UInt8).length ≤ _
      rw [List.length_take, List.length_nil]
      omega

theorem psL_used (n : Nat) : ∀ (l : List UInt8) (acc : List Prm) (m : Nat) (ps : List Prm) (k : Nat), l.length ≤ n → psL l acc m = some (ps, k) → szN ps + m ≤ szN acc + k := by
  induction n with
  | zero =>
    intro l acc m ps k hl h
    rw [psL_end l acc m (by rw [List.length_eq_zero_iff.1 (Nat.le_zero.1 hl)]; simp)] at h
    obtain ⟨rfl, rfl⟩ := Prod.mk.inj (Option.some.inj h)
    exact Nat.le_refl _
  | succ n ih =>
    intro l acc m ps k hl h
    by_cases hh : l.head? = some 59
    · cases hp : parL (l.drop 1) with
      | none => rw [psL_none l acc m hh hp] at h; cases h
      | some x =>
        obtain ⟨p, j⟩ := x
        rw [psL_some l acc m p j hh hp] at h
        have hu := parL_used _ _ _ hp
        have h2 := ih _ _ _ _ _ (by rw [List.length_drop]; omega) h
        have h3 := szN_put acc p
        omega
    · rw [psL_end l acc m hh] at h
      obtain ⟨rfl, rfl⟩ := Prod.mk.inj (Option.some.inj h)
      exact Nat.le_refl _

theorem itmL_used (l : List UInt8) (g : Got) (ps : List Prm) (m : Nat) (h : itmL l = some (g, ps, m)) : szN ps + g.s.length ≤ m := by
  unfold itmL at h
  split at h
  · cases h
  · rename_i g3 hg
    split at h
    · cases h
    · rename_i ps3 m3 hps
      obtain ⟨rfl, h2⟩ := Prod.mk.inj (Option.some.inj h)
      obtain ⟨rfl, rfl⟩ := Prod.mk.inj h2
      have h3 := readL_used _ _ hg
      have h4 := psL_used _ _ _ _ _ _ (Nat.le_refl _) hps
      have h5 : szN [] = 0 := rfl
      omega

theorem parseL_used (l : List UInt8) (g : Got) (ps : List Prm) (h : parseL l = some (g, ps)) : szN ps + g.s.length ≤ l.length := by
  have hb := trimB_le l 32
  unfold parseL at h
  split at h
  · cases h
  · rename_i g2 ps2 m hi
    split at h
    · cases h
    · obtain ⟨rfl, rfl⟩ := Prod.mk.inj (Option.some.inj h)
      have h1 := itmL_used _ _ _ _ hi
      have h2 := itmL_le _ _ _ _ hi
      omega

end Go.Proofs.YtcjnigmklijjiaaGreatDoor
