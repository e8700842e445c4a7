/- The contracts of the document's own Print, and of its forms of any seconds (sculleryref05). -/
import Derived.Test.YtfabkceefigmhaaDoorRdE
namespace Go.Proofs.YtfabkceefigmhaaDoor
open Go.RowKit

theorem rforms_n (n : Nat) (hn : n < 253402300800) (w : World) :
    Calls Tryd.prog 25 #[.int .i64 n] w fun e w' => e = .returned (.agg #[.string (strB (fm0 n)), .string (strB (fm1 n)), .string (strB (fm2 n))]) ∧ Below w.heap.size w w' := by
  obtain ⟨hk, hc, he⟩ := mom_spec hn
  have := rforms_any _ _ _ _ hk hc w
  rw [← he] at this
  exact this

theorem run_ix0 (a b c : ByteArray) (W : World) : (Instr.index 41 (.agg #[.string a, .string b, .string c]) (.int .i64 0)).run Tryd.prog W = .ok (.string a) W := by kernel_rfl
theorem run_ix1 (a b c : ByteArray) (W : World) : (Instr.index 41 (.agg #[.string a, .string b, .string c]) (.int .i64 1)).run Tryd.prog W = .ok (.string b) W := by kernel_rfl
theorem run_ix2 (a b c : ByteArray) (W : World) : (Instr.index 41 (.agg #[.string a, .string b, .string c]) (.int .i64 2)).run Tryd.prog W = .ok (.string c) W := by kernel_rfl

theorem rprint_no (n : Int) (w : World) (hn : n < 0 ∨ 253402300800 ≤ n) :
    Calls Tryd.prog 10 #[.int .i64 n] w fun e w' => e = .returned (.tuple #[.string ⟨#[]⟩, .int .i64 6]) ∧ w = w' := by
  by_cases h : n < 0
  · have d1 : decide (n < 0) = true := by simpa using h
    clear hn
    go_enter Tryd.func10, Tryd.ntmps10
    go_wp2_with fail
    exact bodyPost_ret (v := .tuple #[.string ⟨#[]⟩, .int .i64 6]) (by simp [results, Tryd.results10, go_sem]) rfl ⟨rfl, rfl⟩
  · have d1 : decide (n < 0) = false := by simpa using h
    have d2 : decide (n > 253402300799) = true := by simp; omega
    clear hn h
    go_enter Tryd.func10, Tryd.ntmps10
    go_wp2_with fail
    exact bodyPost_ret (v := .tuple #[.string ⟨#[]⟩, .int .i64 6]) (by simp [results, Tryd.results10, go_sem]) rfl ⟨rfl, rfl⟩

theorem rprint_any (y m d c : Nat) (hk : DayOk y m d) (hc : c < 86400) (w : World) :
    Calls Tryd.prog 10 #[.int .i64 (86400 * daysN y m d + c : Nat)] w fun e w' => e = .returned (.tuple #[.string (strB (tx0 y m d c)), .int .i64 0]) ∧ Below w.heap.size w w' := by
  have cF := fun W => rforms_any y m d c hk hc W
  have hn := secs_lt hk hc
  clear hk
  generalize 86400 * daysN y m d + c = n at *
  generalize strB (tx0 y m d c) = T0 at *
  generalize strB (if 2069 < y then [] else tx1 y m d c) = T1 at *
  generalize strB (tx2 y m d c) = T2 at *
  have d1 : decide ((n : Int) < 0) = false := by simp
  have d2 : decide ((n : Int) > 253402300799) = false := by simp; omega
  have hx := run_ix0 T0 T1 T2
  go_enter Tryd.func10, Tryd.ntmps10
  go_wp2_with fail
  refine (cF _).mono ?_
  rintro e w1 ⟨rfl, hb1⟩
  go_wp2_with fail
  go_ret2
  exact ⟨rfl, hb1⟩

end Go.Proofs.YtfabkceefigmhaaDoor
