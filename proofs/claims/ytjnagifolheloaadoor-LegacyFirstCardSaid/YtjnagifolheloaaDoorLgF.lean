/- The contracts of (legacy.Directive).number, and of the two functions that Of makes. -/
import Derived.Test.YtjnagifolheloaaDoorLgE
import Derived.Test.YtjnagifolheloaaDoorDigP
import Derived.Test.YtjnagifolheloaaDoorNamP
namespace Go.Proofs.YtjnagifolheloaaDoor
open Go.RowKit Go.Maps Go.Lib

set_option maxRecDepth 100000 in
set_option maxHeartbeats 4000000 in
theorem number_any (N V : List UInt8) (H : Bool) (w : World) (hV : V.length ≤ 100000) :
    Calls Tryd.prog 25 #[.agg #[.string (strB N), .string (strB V), .bool H]] w fun e w' => e = .returned (.int .i64 (numM (N, V, H))) ∧ Below w.heap.size w w' := by
  have cD := fun W => digits_any (strB V) W (by rw [strB_size]; unfold maxLen; omega)
  rw [strB_data] at cD
  have hqe : ((strB N).toList == [109, 97, 120, 45, 115, 116, 97, 108, 101]) = decide (nStale = N) := by
    rw [← name_eq N nStale, Lib.toList_data (strB nStale), strB_data]
    rfl
  have HB := Lib.hid ((Below.refl w.heap.size w).alloc (Nat.le_refl _) (.cells #[.string (strB N), .string (strB V), .bool H] 43))
  have HA : Hid (numM (N, V, H) = if N = nStale ∧ H = false then 2147483648 else digitsN V) := Lib.hid rfl
  generalize numM (N, V, H) = R at *
  by_cases hN : N = nStale
  · rw [decide_eq_true hN.symm] at hqe
    cases H
    · have HR : Hid (R = 2147483648) := Lib.hid (by rw [HA.out, if_pos ⟨hN, rfl⟩])
      clear HA hN
      generalize strB N = SN at *
      go_enter Tryd.func25, Tryd.ntmps25
      go_wp2_with fail
      refine bodyPost_ret (v := .int .i64 2147483648) (by simp [results, Tryd.results25, go_sem]) rfl ⟨by rw [HR.out], HB.out⟩
    · have HR : Hid (R = digitsN V) := Lib.hid (by rw [HA.out, if_neg (fun e => by cases e.2)])
      clear HA hN
      generalize strB N = SN at *
      go_enter Tryd.func25, Tryd.ntmps25
      go_wp2_with (go_at_call 41; refine (cD _).mono ?_; rintro e w2 ⟨rfl, rfl⟩)
      refine bodyPost_ret (v := .int .i64 (digitsN V)) (by simp [results, Tryd.results25, go_sem]) rfl ⟨by rw [HR.out], HB.out⟩
  · rw [decide_eq_false (fun e => hN e.symm)] at hqe
    have HR : Hid (R = digitsN V) := Lib.hid (by rw [HA.out, if_neg (fun e => hN e.1)])
    clear HA hN
    generalize strB N = SN at *
    go_enter Tryd.func25, Tryd.ntmps25
    go_wp2_with (go_at_call 41; refine (cD _).mono ?_; rintro e w2 ⟨rfl, rfl⟩)
    refine bodyPost_ret (v := .int .i64 (digitsN V)) (by simp [results, Tryd.results25, go_sem]) rfl ⟨by rw [HR.out], HB.out⟩

set_option maxRecDepth 100000 in
set_option maxHeartbeats 4000000 in
theorem set_any (B : Nat) (ds : List Dir) (n : List UInt8) (W : World) (h : Held W B ds) (hn : n.length ≤ 100000) :
    Calls Tryd.prog 23 #[.string (strB n), .pointer (some ⟨B, 0, none⟩)] W fun e w' => e = .returned (.bool (hasN ds n)) ∧ Below W.heap.size W w' := by
  obtain ⟨hl, M, hc, k, D, ho, hF⟩ := h
  have HF := Lib.hid hF
  have HO := Lib.hid ho
  clear hF ho
  obtain ⟨N, V, H, hd⟩ : ∃ N V H, (fstN ds n).getD ([], [], false) = (N, V, H) := ⟨_, _, _, rfl⟩
  have HD := Lib.hid hd
  clear hd
  obtain ⟨b, hb⟩ : ∃ b, hasN ds n = b := ⟨_, rfl⟩
  rw [hb]
  have HH := Lib.hid hb
  clear hb
  have HB := Lib.hid ((Below.refl W.heap.size W).alloc (Nat.le_refl _) (.cells #[.string (strB N), .string (strB V), .bool H] 43))
  go_enter Tryd.func23, Tryd.ntmps23
  go_wp2_with (at_lookup; refine wpList_lookup_dir _ rfl _ _ rfl Tryd.underlying55 zeroDirL M k D ds rfl HO.out HF.out n rfl hn N V H b HD.out HH.out ?_)
  refine bodyPost_ret (v := .bool b) (by simp [results, Tryd.results23, go_sem]) rfl ⟨rfl, HB.out⟩

set_option maxRecDepth 100000 in
set_option maxHeartbeats 4000000 in
theorem numberOf_any (B : Nat) (ds : List Dir) (n : List UInt8) (W : World) (h : Held W B ds) (hn : n.length ≤ 100000) (hok : DirsOk ds) :
    Calls Tryd.prog 24 #[.string (strB n), .pointer (some ⟨B, 0, none⟩)] W fun e w' => e = .returned (.int .i64 (nm2 ds n)) ∧ Below W.heap.size W w' := by
  obtain ⟨hl, M, hc, k, D, ho, hF⟩ := h
  have HF := Lib.hid hF
  have HO := Lib.hid ho
  clear hF ho
  cases hf : fstN ds n with
  | none =>
    have HD := Lib.hid (show (fstN ds n).getD ([], [], false) = ([], [], false) by rw [hf]; rfl)
    have HH := Lib.hid (show hasN ds n = false by rw [hasN, hf]; rfl)
    have HR := Lib.hid (show nm2 ds n = -1 by rw [nm2, hf])
    have HB := Lib.hid ((Below.refl W.heap.size W).alloc (Nat.le_refl _) (.cells #[.string (strB []), .string (strB []), .bool false] 43))
    clear hf
    go_enter Tryd.func24, Tryd.ntmps24
    go_wp2_with (at_lookup; refine wpList_lookup_dir _ rfl _ _ rfl Tryd.underlying55 zeroDirL M k D ds rfl HO.out HF.out n rfl hn [] [] false false HD.out HH.out ?_)
    refine bodyPost_ret (v := .int .i64 (-1)) (by simp [results, Tryd.results24, go_sem]) rfl ⟨by rw [HR.out], HB.out⟩
  | some d =>
    have hm := List.mem_of_find?_eq_some hf
    obtain ⟨N, V, H⟩ := d
    have cN := fun W => number_any N V H W (hok.2 _ hm).2
    have HD := Lib.hid (show (fstN ds n).getD ([], [], false) = (N, V, H) by rw [hf]; rfl)
    have HH := Lib.hid (show hasN ds n = true by rw [hasN, hf]; rfl)
    have HR := Lib.hid (show nm2 ds n = numM (N, V, H) by rw [nm2, hf])
    have HB := Lib.hid ((Below.refl W.heap.size W).alloc (Nat.le_refl _) (.cells #[.string (strB N), .string (strB V), .bool H] 43))
    clear hf hm
    go_enter Tryd.func24, Tryd.ntmps24
    go_wp2_with (first | (at_lookup; refine wpList_lookup_dir _ rfl _ _ rfl Tryd.underlying55 zeroDirL M k D ds rfl HO.out HF.out n rfl hn N V H true HD.out HH.out ?_) | (go_at_call 25; refine (cN _).mono ?_; rintro e w2 ⟨rfl, hb2⟩))
    refine bodyPost_ret (v := .int .i64 (numM (N, V, H))) (by simp [results, Tryd.results24, go_sem]) rfl ⟨by rw [HR.out], HB.out.trans (hb2.mono HB.out.size)⟩

end Go.Proofs.YtjnagifolheloaaDoor
