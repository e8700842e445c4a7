/- The contract of item.paramText. -/
import Derived.Test.YtcjnigmklijjiaaDoorItmD
namespace Go.Proofs.YtcjnigmklijjiaaDoor
open Go.RowKit

/-- The text of a parameter, if it may be. -/
def pmT (p : Prm) : Option (List UInt8) :=
  if rightL p.k p.n p.s = true ∧ keyL p.key = true then
    some (if p.k = 6 ∧ p.n = 1 then 59 :: p.key else 59 :: (p.key ++ 61 :: textL p.k p.n p.s))
  else none

theorem pmT_none (p : Prm) (h : rightL p.k p.n p.s = false ∨ keyL p.key = false) : pmT p = none := by
  rw [pmT, if_neg]
  rintro ⟨h1, h2⟩
  rcases h with h | h
  · rw [h1] at h; cases h
  · rw [h2] at h; cases h
theorem pmT_one (p : Prm) (h1 : rightL p.k p.n p.s = true) (h2 : keyL p.key = true) (h3 : p.k = 6 ∧ p.n = 1) : pmT p = some (59 :: p.key) := by
  rw [pmT, if_pos ⟨h1, h2⟩, if_pos h3]
theorem pmT_all (p : Prm) (h1 : rightL p.k p.n p.s = true) (h2 : keyL p.key = true) (h3 : ¬ (p.k = 6 ∧ p.n = 1)) : pmT p = some (59 :: (p.key ++ 61 :: textL p.k p.n p.s)) := by
  rw [pmT, if_pos ⟨h1, h2⟩, if_neg h3]

theorem param_cells (w : World) (K : ByteArray) (k n : Int) (s : ByteArray) (W : World) (hb : Below (w.heap.size + 1) (w.alloc (.cells #[.string K, .int .i64 k, .int .i64 n, .string s] 41)) W) :
    W.cell? ⟨w.heap.size, 0, none⟩ = some (.string K) ∧ W.cell? ⟨w.heap.size, 1, none⟩ = some (.int .i64 k) ∧ W.cell? ⟨w.heap.size, 2, none⟩ = some (.int .i64 n) ∧ W.cell? ⟨w.heap.size, 3, none⟩ = some (.string s) := by
  refine ⟨?_, ?_, ?_, ?_⟩
  · rw [hb.cell (p := ⟨w.heap.size, 0, none⟩) (by simp)]; simp
  · rw [hb.cell (p := ⟨w.heap.size, 1, none⟩) (by simp)]; simp
  · rw [hb.cell (p := ⟨w.heap.size, 2, none⟩) (by simp)]; simp
  · rw [hb.cell (p := ⟨w.heap.size, 3, none⟩) (by simp)]; simp

theorem cell_next {W W1 : World} {b o : Nat} {v : Value} (hb : Below W.heap.size W W1) (h : W.cell? ⟨b, o, none⟩ = some v) : W1.cell? ⟨b, o, none⟩ = some v :=
  (hb.cell (p := ⟨b, o, none⟩) (lt_of_cell h)).trans h

abbrev heldP (w W : World) (c : Nat) (K s : ByteArray) (k n : Int) : Prop :=
  W.cell? ⟨c, 0, none⟩ = some (.string K) ∧ W.cell? ⟨c, 1, none⟩ = some (.int .i64 k) ∧ W.cell? ⟨c, 2, none⟩ = some (.int .i64 n) ∧ W.cell? ⟨c, 3, none⟩ = some (.string s) ∧ Below w.heap.size w W
theorem heldP_next {w W W1 : World} {c : Nat} {K s : ByteArray} {k n : Int} (hb : Below W.heap.size W W1) (h : heldP w W c K s k n) : heldP w W1 c K s k n :=
  ⟨cell_next hb h.1, cell_next hb h.2.1, cell_next hb h.2.2.1, cell_next hb h.2.2.2.1, h.2.2.2.2.trans (hb.mono h.2.2.2.2.size)⟩

set_option maxRecDepth 100000 in
set_option maxHeartbeats 2000000 in
theorem paramText_any (K : List UInt8) (k n : Int) (s : List UInt8) (w : World) (hK : K.length ≤ 100000) (hs : s.length ≤ 100000) (hn : -9223372036854775808 ≤ n ∧ n ≤ 9223372036854775807) (hA : Alph w) (hP : Pow w) :
    Calls Tryd.prog 20 #[.agg #[.string (strB K), .int .i64 k, .int .i64 n, .string (strB s)]] w (printPost (textV (pmT ⟨K, k, n, s⟩)) w) := by
  have hb0 : Below w.heap.size w (w.alloc (.cells #[.string (strB K), .int .i64 k, .int .i64 n, .string (strB s)] 41)) := (Below.refl _ _).alloc (Nat.le_refl _) _
  have cP := print_any k n (strB s) (w.alloc (.cells #[.string (strB K), .int .i64 k, .int .i64 n, .string (strB s)] 41)) (by rw [strB_size]; exact hs) hn (hA.below hb0) (hP.below hb0)
  have cK := fun W => key_any (strB K) W (by rw [strB_size]; unfold maxLen; omega)
  rw [strB_data] at cP cK
  have hKz : (strB K).size ≤ 100000 := by rw [strB_size]; exact hK
  clear hA hP
  cases hr : rightL k n s
  · rw [pmT_none ⟨K, k, n, s⟩ (.inl hr)]
    rw [printL, hr, if_neg (by simp)] at cP
    show Calls _ _ _ _ (printPost (.tuple #[.string ⟨#[]⟩, .int .i64 2]) w)
    have hv : textV none = .tuple #[.string ⟨#[]⟩, .int .i64 2] := rfl
    rw [hv] at cP
    clear hr hv cK
    go_enter Tryd.func20, Tryd.ntmps20
    go_wp2_with fail
    refine cP.mono ?_
    rintro e w1 ⟨rfl, hb1⟩
    go_wp2_with fail
    go_ret2
    exact ⟨rfl, hb0.trans (hb1.mono hb0.size)⟩
  · have htl := textL_len k n s hr
    rw [printL, hr, if_pos rfl] at cP
    obtain ⟨X, hX⟩ : ∃ X, strB (textL k n s) = X := ⟨_, rfl⟩
    have hv : textV (some (textL k n s)) = .tuple #[.string X, .int .i64 0] := by rw [← hX]; rfl
    have hXz : X.size ≤ 300000 := by rw [← hX, strB_size]; omega
    rw [hv] at cP
    clear hv htl
    cases hk : keyL K
    · rw [pmT_none ⟨K, k, n, s⟩ (.inr hk)]
      rw [hk] at cK
      show Calls _ _ _ _ (printPost (.tuple #[.string ⟨#[]⟩, .int .i64 2]) w)
      clear hr hk hX
      go_enter Tryd.func20, Tryd.ntmps20
      go_wp2_with fail
      refine cP.mono ?_
      rintro e w1 ⟨rfl, hb1⟩
      obtain ⟨c0, c1, c2, c3⟩ := param_cells w (strB K) k n (strB s) w1 (by simpa using hb1)
      go_wp2_with fail
      refine (cK _).mono ?_
      rintro e w' ⟨rfl, rfl⟩
      go_wp2_with fail
      go_ret2
      exact ⟨rfl, hb0.trans (hb1.mono hb0.size)⟩
    · rw [hk] at cK
      have cU : ∀ W, heldP w W w.heap.size (strB K) (strB s) k n → Calls Tryd.prog 38 #[] W fun e w' => e = .returned (.agg #[.int .i64 6, .int .i64 1, .string ⟨#[]⟩]) ∧ heldP w w' w.heap.size (strB K) (strB s) k n :=
        fun W h => (unspoken_any W).mono fun e w' hh => ⟨hh.1, heldP_next hh.2 h⟩
      by_cases h61 : k = 6 ∧ n = 1
      · obtain ⟨rfl, rfl⟩ := h61
        have hse : s = [] := by
          rcases right_kind 6 1 s hr with ⟨h, _⟩ | ⟨_, h, _⟩ | ⟨h, _⟩ | ⟨h, _⟩ | ⟨h, _⟩
          · omega
          · exact h
          · omega
          · omega
          · omega
        subst hse
        rw [pmT_one ⟨K, 6, 1, []⟩ hr hk ⟨rfl, rfl⟩]
        have HV : Hid (textV (some (59 :: K)) = .tuple #[.string ((⟨#[59]⟩ : ByteArray) ++ strB K), .int .i64 0]) := Lib.hid (by rw [show (⟨#[59]⟩ : ByteArray) = strB [59] from rfl, strB_append]; rfl)
        rw [HV.out]
        rw [show strB [] = (⟨#[]⟩ : ByteArray) from rfl] at *
        clear hr hk hX HV
        generalize strB K = KB at *
        go_enter Tryd.func20, Tryd.ntmps20
        go_wp2_with fail
        refine cP.mono ?_
        rintro e w1 ⟨rfl, hb1⟩
        obtain ⟨c0, c1, c2, c3⟩ := param_cells w KB 6 1 ⟨#[]⟩ w1 (by simpa using hb1)
        have hS0 : heldP w w1.drew w.heap.size KB ⟨#[]⟩ 6 1 := ⟨c0, c1, c2, c3, (hb0.trans (hb1.mono hb0.size)).drew⟩
        go_wp2_with fail
        refine (cK _).mono ?_
        rintro e w' ⟨rfl, rfl⟩
        go_wp2_with fail
        go_region_held3 (fun W => W.cell? ⟨w.heap.size, 0, none⟩ = some (.string KB) ∧ W.cell? ⟨w.heap.size, 1, none⟩ = some (.int .i64 6) ∧ W.cell? ⟨w.heap.size, 2, none⟩ = some (.int .i64 1) ∧ W.cell? ⟨w.heap.size, 3, none⟩ = some (.string ⟨#[]⟩) ∧ Below w.heap.size w W) (first | assumption | go_keep)
          (first | (go_at_call 38; refine (cU _ (by assumption)).mono ?_; rintro e w' ⟨rfl, hh⟩))
        all_goals
          obtain ⟨d0, d1, d2, d3, dB⟩ := (by assumption : heldP w _ w.heap.size KB ⟨#[]⟩ 6 1)
        all_goals go_wp2_with fail
        all_goals go_ret2
        all_goals exact ⟨rfl, dB⟩
      · by_cases hk6 : k = 6
        · subst hk6
          obtain ⟨hse, hn0⟩ : s = [] ∧ n = 0 := by
            rcases right_kind 6 n s hr with ⟨h, _⟩ | ⟨_, h, h2⟩ | ⟨h, _⟩ | ⟨h, _⟩ | ⟨h, _⟩
            · omega
            · exact ⟨h, by omega⟩
            · omega
            · omega
            · omega
          subst hse hn0
          rw [pmT_all ⟨K, 6, 0, []⟩ hr hk (by simp)]
          have HV : Hid (textV (some (59 :: (K ++ 61 :: textL 6 0 []))) = .tuple #[.string ((⟨#[59]⟩ : ByteArray) ++ strB K ++ (⟨#[61]⟩ : ByteArray) ++ X), .int .i64 0]) := Lib.hid (by
            rw [← hX, show (⟨#[59]⟩ : ByteArray) = strB [59] from rfl, show (⟨#[61]⟩ : ByteArray) = strB [61] from rfl, strB_append, strB_append, strB_append, textV]
            simp only [List.append_assoc, List.cons_append, List.nil_append])
          rw [HV.out]
          rw [show strB [] = (⟨#[]⟩ : ByteArray) from rfl] at *
          clear hr hk hX HV
          generalize strB K = KB at *
          go_enter Tryd.func20, Tryd.ntmps20
          go_wp2_with fail
          refine cP.mono ?_
          rintro e w1 ⟨rfl, hb1⟩
          obtain ⟨c0, c1, c2, c3⟩ := param_cells w KB 6 0 ⟨#[]⟩ w1 (by simpa using hb1)
          have hS0 : heldP w w1.drew w.heap.size KB ⟨#[]⟩ 6 0 := ⟨c0, c1, c2, c3, (hb0.trans (hb1.mono hb0.size)).drew⟩
          go_wp2_with fail
          refine (cK _).mono ?_
          rintro e w' ⟨rfl, rfl⟩
          go_wp2_with fail
          go_region_held3 (fun W => W.cell? ⟨w.heap.size, 0, none⟩ = some (.string KB) ∧ W.cell? ⟨w.heap.size, 1, none⟩ = some (.int .i64 6) ∧ W.cell? ⟨w.heap.size, 2, none⟩ = some (.int .i64 0) ∧ W.cell? ⟨w.heap.size, 3, none⟩ = some (.string ⟨#[]⟩) ∧ Below w.heap.size w W) (first | assumption | go_keep)
            (first | (go_at_call 38; refine (cU _ (by assumption)).mono ?_; rintro e w' ⟨rfl, hh⟩))
          all_goals
            obtain ⟨d0, d1, d2, d3, dB⟩ := (by assumption : heldP w _ w.heap.size KB ⟨#[]⟩ 6 0)
          all_goals go_wp2_with fail
          all_goals go_ret2
          all_goals exact ⟨rfl, dB⟩
        · have g6 : (k == 6) = false := by simpa using hk6
          rw [pmT_all ⟨K, k, n, s⟩ hr hk (by simp; omega)]
          have HV : Hid (textV (some (59 :: (K ++ 61 :: textL k n s))) = .tuple #[.string ((⟨#[59]⟩ : ByteArray) ++ strB K ++ (⟨#[61]⟩ : ByteArray) ++ X), .int .i64 0]) := Lib.hid (by
            rw [← hX, show (⟨#[59]⟩ : ByteArray) = strB [59] from rfl, show (⟨#[61]⟩ : ByteArray) = strB [61] from rfl, strB_append, strB_append, strB_append, textV]
            simp only [List.append_assoc, List.cons_append, List.nil_append])
          rw [HV.out]
          clear hr hk hX HV
          generalize strB K = KB at *
          generalize strB s = SB at *
          go_enter Tryd.func20, Tryd.ntmps20
          go_wp2_with fail
          refine cP.mono ?_
          rintro e w1 ⟨rfl, hb1⟩
          obtain ⟨c0, c1, c2, c3⟩ := param_cells w KB k n SB w1 (by simpa using hb1)
          have hS0 : heldP w w1.drew w.heap.size KB SB k n := ⟨c0, c1, c2, c3, (hb0.trans (hb1.mono hb0.size)).drew⟩
          go_wp2_with fail
          refine (cK _).mono ?_
          rintro e w' ⟨rfl, rfl⟩
          go_wp2_with fail
          go_region_held3 (fun W => W.cell? ⟨w.heap.size, 0, none⟩ = some (.string KB) ∧ W.cell? ⟨w.heap.size, 1, none⟩ = some (.int .i64 k) ∧ W.cell? ⟨w.heap.size, 2, none⟩ = some (.int .i64 n) ∧ W.cell? ⟨w.heap.size, 3, none⟩ = some (.string SB) ∧ Below w.heap.size w W) (first | assumption | go_keep)
            (first | (go_at_call 38; refine (cU _ (by assumption)).mono ?_; rintro e w' ⟨rfl, hh⟩))
          all_goals
            obtain ⟨d0, d1, d2, d3, dB⟩ := (by assumption : heldP w _ w.heap.size KB SB k n)
          all_goals go_wp2_with fail
          all_goals go_ret2
          all_goals exact ⟨rfl, dB⟩

end Go.Proofs.YtcjnigmklijjiaaDoor
