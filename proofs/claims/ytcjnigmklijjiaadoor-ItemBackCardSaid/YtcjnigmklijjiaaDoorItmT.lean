/- The contract of the document's Size (sculleryref03). -/
import Derived.Test.YtcjnigmklijjiaaDoorItmJ
namespace Go.Proofs.YtcjnigmklijjiaaDoor
open Go.RowKit

/-- What a round adds, in 64 bits. -/
def szStep (n : Int) (p : Prm) : Int := wrap64 (wrap64 (wrap64 (n + (p.key.length : Int)) + (p.s.length : Int)) + 1)
def szGo (n : Int) : List Prm → Int
  | [] => n
  | p :: ps => if n < 100000 then szGo (szStep n p) ps else n

set_option maxRecDepth 100000 in
set_option maxHeartbeats 2000000 in
theorem size_any (v : Value) (ps : List Prm) (w : World) (h : Prms w v ps) (hl : ps.length ≤ maxLen) :
    Calls Tryd.prog 6 #[v] w fun e w' => e = .returned (.int .i64 (szGo 0 ps)) ∧ Below w.heap.size w w' := by
  unfold maxLen at hl
  obtain ⟨ao, cap, rfl, hc⟩ := h
  have HC := Lib.hid hc
  clear hc
  go_enter Tryd.func6, Tryd.ntmps6
  go_wp2_with fail
  go_loopw [3, 4] (fun n i wr => ∃ (j : Nat) (N : Int), n = .int .i64 N ∧ i = .int .i64 j ∧ j ≤ ps.length ∧ Hid (szGo 0 ps = szGo N (ps.drop j)) ∧ Below w.heap.size w wr) (fun _ i _ => ps.length - (intOf i).toNat)
  case atStart => exact ⟨0, 0, rfl, rfl, Nat.zero_le _, Lib.hid rfl, Below.refl _ _⟩
  case round =>
    obtain ⟨j, N, rfl, rfl, hj, H, hb⟩ := hrel
    have HB := Lib.hid hb
    by_cases hlt : j < ps.length
    · rcases HC.out with hnil | ⟨c, off, rfl, hcell⟩
      · exfalso
        rw [hnil] at hlt
        simp at hlt
      · obtain ⟨p, hp⟩ : ∃ p, ps[j]? = some p := ⟨_, List.getElem?_eq_getElem hlt⟩
        obtain ⟨x0, x1, x2, x3⟩ := rowP_at ps j p hp
        have hcl : c < w.heap.size := lt_of_cell (hcell _ _ x0)
        have a0 := (hb.cell (p := ⟨c, off + j * 4, none⟩) hcl).trans (hcell _ _ x0)
        have a3 := (hb.cell (p := ⟨c, off + (j * 4 + 3), none⟩) hcl).trans (hcell _ _ x3)
        simp only [← Nat.add_assoc] at a3
        have jI : (j : Int) < (ps.length : Int) := by omega
        have j0 : (0 : Int) ≤ (j : Int) := by omega
        have hd : ps.drop j = p :: ps.drop (j + 1) := by
          obtain ⟨h1, h2⟩ := List.getElem?_eq_some_iff.1 hp
          rw [← h2]
          exact List.drop_eq_getElem_cons h1
        rw [hd] at H
        have HD : Hid (szStep N p = wrap64 (wrap64 (wrap64 (N + ((strB p.key).size : Int)) + ((strB p.s).size : Int)) + 1)) := Lib.hid (by rw [strB_size, strB_size, szStep])
        clear hcell x0 x1 x2 x3 hb hd hp
        cases hN : decide (N < 100000)
        · have HE : Hid (szGo 0 ps = N) := Lib.hid (by rw [H.out, szGo, if_neg (by simpa using hN)])
          clear H HD
          go_wp2_with fail
          go_ret
          exact ⟨by rw [HE.out]; rfl, HB.out⟩
        · have HE : Hid (szGo 0 ps = szGo (szStep N p) (ps.drop (j + 1))) := Lib.hid (by rw [H.out, szGo, if_pos (by simpa using hN)])
          clear H
          generalize strB p.key = K at *
          generalize strB p.s = S at *
          go_wp2_with fail
          go_quiet (fail)
          go_wp2_with fail
          go_roundw
          case rel => exact ⟨j + 1, szStep N p, by rw [HD.out], by go_num, by omega, Lib.hid HE.out, HB.out.trans ((below_drewN _ _).mono HB.out.size)⟩
          case measure => simp [intOf]; omega
    · obtain rfl : j = ps.length := by omega
      have HE : Hid (szGo 0 ps = N) := Lib.hid (by rw [H.out, List.drop_length, szGo])
      clear H hb
      go_wp2_with fail
      go_ret
      exact ⟨by rw [HE.out]; rfl, HB.out⟩

theorem szStep_small (n : Int) (p : Prm) (h0 : 0 ≤ n) (h1 : n < 100000) (h2 : p.key.length + p.s.length ≤ 4611686018427387904) : szStep n p = n + p.key.length + p.s.length + 1 := by
  unfold szStep
  unfold wrap64
  omega

/-- What Size tells, of lengths whose sum does not leave 64 bits. -/
theorem szGo_ok : ∀ (ps : List Prm) (n : Int), 0 ≤ n → (∀ p ∈ ps, p.key.length + p.s.length ≤ 4611686018427387904) → szGo n ps ≤ 500 → n + ps.length ≤ 500 ∧ ∀ p ∈ ps, p.key.length + p.s.length ≤ 500
  | [], n, _, _, h => ⟨by simpa [szGo] using h, fun p hp => by cases hp⟩
  | p :: ps, n, h0, hs, h => by
    by_cases h1 : n < 100000
    · rw [szGo, if_pos h1, szStep_small n p h0 h1 (hs p (List.mem_cons_self ..))] at h
      obtain ⟨r1, r2⟩ := szGo_ok ps _ (by omega) (fun q hq => hs q (List.mem_cons_of_mem _ hq)) h
      refine ⟨by rw [List.length_cons]; omega, ?_⟩
      intro q hq
      rcases List.mem_cons.1 hq with rfl | hq
      · omega
      · exact r2 q hq
    · rw [szGo, if_neg h1] at h
      omega

end Go.Proofs.YtcjnigmklijjiaaDoor
