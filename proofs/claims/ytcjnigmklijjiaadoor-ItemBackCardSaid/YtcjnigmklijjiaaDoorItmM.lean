/- The contract of item.Print. -/
import Derived.Test.YtcjnigmklijjiaaDoorItmL
namespace Go.Proofs.YtcjnigmklijjiaaDoor
open Go.RowKit Go.Maps

/-- The text of an item, if it may be. -/
def prT (k n : Int) (s : List UInt8) (ps : List Prm) : Option (List UInt8) :=
  if rightL k n s = true then (ppT ps).map (textL k n s ++ ·) else none

theorem item_cells (w : World) (k n : Int) (s : ByteArray) (v : Value) (W : World) (hb : Below (w.heap.size + 1) (w.alloc (.cells #[.int .i64 k, .int .i64 n, .string s, v] 26)) W) :
    W.cell? ⟨w.heap.size, 0, none⟩ = some (.int .i64 k) ∧ W.cell? ⟨w.heap.size, 1, none⟩ = some (.int .i64 n) ∧ W.cell? ⟨w.heap.size, 2, none⟩ = some (.string s) ∧ W.cell? ⟨w.heap.size, 3, none⟩ = some v := by
  refine ⟨?_, ?_, ?_, ?_⟩
  · rw [hb.cell (p := ⟨w.heap.size, 0, none⟩) (by simp)]; simp
  · rw [hb.cell (p := ⟨w.heap.size, 1, none⟩) (by simp)]; simp
  · rw [hb.cell (p := ⟨w.heap.size, 2, none⟩) (by simp)]; simp
  · rw [hb.cell (p := ⟨w.heap.size, 3, none⟩) (by simp)]; simp

theorem ppGo_len (ps : List Prm) : ∀ (t : List UInt8), (∀ p ∈ ps, Small p) → ppGo ps = some t → t.length ≤ ps.length * 400000 := by
  induction ps with
  | nil =>
    intro t _ h
    obtain rfl := Option.some.inj h
    simp
  | cons p ps ih =>
    intro t hk h
    cases hp : pmT p with
    | none => rw [ppGo_none p ps hp] at h; cases h
    | some x =>
      have hx := pmT_len p x hp
      obtain ⟨s1, s2, _, _⟩ := hk p (List.mem_cons_self ..)
      rw [ppGo_some p ps x hp] at h
      cases hq : ppGo ps with
      | none => rw [hq] at h; cases h
      | some y =>
        have := ih y (fun q hq => hk q (List.mem_cons_of_mem _ hq)) hq
        rw [hq] at h
        obtain rfl := Option.some.inj h
        simp only [List.length_append, List.length_cons]
        omega

set_option maxRecDepth 100000 in
set_option maxHeartbeats 2000000 in
theorem iprint_any (k n : Int) (s : List UInt8) (v : Value) (ps : List Prm) (w : World) (h : Prms w v ps) (hl : ps.length ≤ 100000) (hk : ∀ p ∈ ps, Small p) (hs : s.length ≤ 100000) (hn : -9223372036854775808 ≤ n ∧ n ≤ 9223372036854775807) (hA : Alph w) (hP : Pow w) :
    Calls Tryd.prog 8 #[.agg #[.int .i64 k, .int .i64 n, .string (strB s), v]] w (printPost (textV (prT k n s ps)) w) := by
  have hb0 : Below w.heap.size w (w.alloc (.cells #[.int .i64 k, .int .i64 n, .string (strB s), v] 26)) := (Below.refl _ _).alloc (Nat.le_refl _) _
  have cP := print_any k n (strB s) (w.alloc (.cells #[.int .i64 k, .int .i64 n, .string (strB s), v] 26)) (by rw [strB_size]; exact hs) hn (hA.below hb0) (hP.below hb0)
  rw [strB_data] at cP
  have HPr := Lib.hid h
  obtain ⟨ao, cap, rfl, hc⟩ := h
  clear hc
  have HA := Lib.hid hA
  have HP := Lib.hid hP
  have HK := Lib.hid hk
  clear hA hP hk
  cases hr : rightL k n s
  · have HT : Hid (textV (prT k n s ps) = .tuple #[.string ⟨#[]⟩, .int .i64 2]) := Lib.hid (by rw [prT, hr, if_neg (by simp)]; rfl)
    rw [printL, hr, if_neg (by simp)] at cP
    have hv : textV none = .tuple #[.string ⟨#[]⟩, .int .i64 2] := rfl
    rw [hv] at cP
    clear hr hv
    go_enter Tryd.func8, Tryd.ntmps8
    go_wp2_with fail
    refine cP.mono ?_
    rintro e w1 ⟨rfl, hb1⟩
    go_wp2_with fail
    go_ret2
    exact ⟨by rw [HT.out]; rfl, hb0.trans (hb1.mono hb0.size)⟩
  · have htl := textL_len k n s hr
    have HT : Hid (prT k n s ps = (ppT ps).map (textL k n s ++ ·)) := Lib.hid (by rw [prT, hr, if_pos rfl])
    rw [printL, hr, if_pos rfl] at cP
    have hv : textV (some (textL k n s)) = .tuple #[.string (strB (textL k n s)), .int .i64 0] := rfl
    rw [hv] at cP
    have hXz : (strB (textL k n s)).size ≤ 300000 := by rw [strB_size]; omega
    clear hv htl hr
    cases hpp : ppT ps with
    | none =>
      have HN : Hid (textV (prT k n s ps) = .tuple #[.string ⟨#[]⟩, .int .i64 2]) := Lib.hid (by rw [HT.out, hpp]; rfl)
      generalize strB (textL k n s) = X at *
      go_enter Tryd.func8, Tryd.ntmps8
      go_wp2_with fail
      refine cP.mono ?_
      rintro e w1 ⟨rfl, hb1⟩
      obtain ⟨c0, c1, c2, c3⟩ := item_cells w k n (strB s) _ w1 (by simpa using hb1)
      have hbw := hb0.trans (hb1.mono hb0.size)
      have cQ := printParams_any _ ps w1 (HPr.out.below hbw) hl HK.out (HA.out.below hbw) (HP.out.below hbw)
      rw [hpp] at cQ
      have hv : textV none = .tuple #[.string ⟨#[]⟩, .int .i64 2] := rfl
      rw [hv] at cQ
      clear hv hb1 cP
      go_wp2_with fail
      refine cQ.mono ?_
      rintro e w2 ⟨rfl, hb2⟩
      go_wp2_with fail
      go_ret2
      exact ⟨by rw [HN.out]; rfl, hbw.trans (hb2.mono hbw.size)⟩
    | some y =>
      have hyl : y.length ≤ 40000000000 := by
        have h2 := hpp
        rw [ppT] at h2
        split at h2
        · cases h2
        · have := ppGo_len ps y HK.out h2
          omega
      have HN : Hid (textV (prT k n s ps) = .tuple #[.string (strB (textL k n s) ++ strB y), .int .i64 0]) := Lib.hid (by rw [HT.out, hpp, strB_append]; rfl)
      have hYz : (strB y).size ≤ 40000000000 := by rw [strB_size]; exact hyl
      obtain ⟨Y, hY⟩ : ∃ Y, strB y = Y := ⟨_, rfl⟩
      have hvy : textV (some y) = .tuple #[.string Y, .int .i64 0] := by rw [← hY]; rfl
      rw [hY] at HN hYz
      generalize strB (textL k n s) = X at *
      clear hY
      go_enter Tryd.func8, Tryd.ntmps8
      go_wp2_with fail
      refine cP.mono ?_
      rintro e w1 ⟨rfl, hb1⟩
      obtain ⟨c0, c1, c2, c3⟩ := item_cells w k n (strB s) _ w1 (by simpa using hb1)
      have hbw := hb0.trans (hb1.mono hb0.size)
      have cQ := printParams_any _ ps w1 (HPr.out.below hbw) hl HK.out (HA.out.below hbw) (HP.out.below hbw)
      rw [hpp, hvy] at cQ
      clear hb1 cP hvy hpp
      go_wp2_with fail
      refine cQ.mono ?_
      rintro e w2 ⟨rfl, hb2⟩
      go_wp2_with fail
      go_ret2
      exact ⟨by rw [HN.out]; rfl, hbw.trans (hb2.mono hbw.size)⟩

end Go.Proofs.YtcjnigmklijjiaaDoor
