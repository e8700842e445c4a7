/- The contract of slices.IndexFunc over isDots, and of target.remaining. -/
import Derived.Test.YtbbdifcmhoobaaaGreatDoorTaA
import Derived.Test.YtbbdifcmhoobaaaGreatDoorKepR
import Derived.Deep.LoopGhost
import Derived.BigQuiet
import Derived.Deep.QuietTactic
namespace Go.Proofs.YtbbdifcmhoobaaaGreatDoor
open Go.RowKit

/-- Texts in memory, in a row of a block. -/
def Txts (w : World) (b n : Nat) (ps : List (List UInt8)) : Prop := ps.length = n ∧ b < w.heap.size ∧ ∀ j q, ps[j]? = some q → w.cell? ⟨b, j, none⟩ = some (.string (strB q))
/-- Where the first part is a dot or two. -/
def fstD : List (List UInt8) → Option Nat
  | [] => none
  | p :: ps => if dotS p = true then some 0 else (fstD ps).map (· + 1)
theorem fstD_some : ∀ {ps : List (List UInt8)} {i : Nat}, fstD ps = some i → i < ps.length ∧ (∀ t ∈ ps.take i, dotS t = false)
  | [], i, h => by cases h
  | p :: ps, i, h => by
    rw [fstD] at h
    split at h
    · obtain rfl := Option.some.inj h
      exact ⟨by simp, by simp⟩
    · rename_i hp
      cases hq : fstD ps with
      | none => rw [hq] at h; cases h
      | some j =>
        rw [hq] at h
        obtain rfl := Option.some.inj h
        obtain ⟨h1, h2⟩ := fstD_some hq
        refine ⟨by simp; omega, fun t ht => ?_⟩
        rw [List.take_succ_cons] at ht
        rcases List.mem_cons.1 ht with rfl | ht
        · simpa using hp
        · exact h2 t ht
theorem fstD_none : ∀ {ps : List (List UInt8)}, fstD ps = none → ∀ t ∈ ps, dotS t = false
  | [], _, t, ht => by cases ht
  | p :: ps, h, t, ht => by
    rw [fstD] at h
    split at h
    · cases h
    · rename_i hp
      cases hq : fstD ps with
      | some j => rw [hq] at h; cases h
      | none =>
        rcases List.mem_cons.1 ht with rfl | ht
        · simpa using hp
        · exact fstD_none hq t ht
theorem fstD_at : ∀ (ps : List (List UInt8)) (k : Nat), (∀ t ∈ ps.take k, dotS t = false) → (∀ p, ps[k]? = some p → dotS p = true → fstD ps = some k) ∧ (ps.length ≤ k → fstD ps = none)
  | [], k, _ => ⟨fun p h => by simp at h, fun _ => rfl⟩
  | q :: ps, 0, _ => ⟨fun p h hp => by
      obtain rfl := Option.some.inj h
      rw [fstD, if_pos hp], fun h => by simp at h⟩
  | q :: ps, k + 1, h => by
    have hq : dotS q = false := h q (by simp)
    obtain ⟨a, b⟩ := fstD_at ps k (fun t ht => h t (by rw [List.take_succ_cons]; exact List.mem_cons_of_mem _ ht))
    refine ⟨fun p hp hd => ?_, fun hl => ?_⟩
    · rw [fstD, hq, if_neg (by decide), a p (by simpa using hp) hd]
      rfl
    · rw [fstD, hq, if_neg (by decide), b (by simpa using hl)]
      rfl
def fstI : Option Nat → Int
  | some i => i
  | none => -1

set_option maxRecDepth 100000 in
set_option maxHeartbeats 2000000 in
theorem indexDots_any (b n c : Nat) (ps : List (List UInt8)) (w : World) (h : Txts w b n ps) (hn : n ≤ 200000) :
    Calls Tryz.prog 43 #[.slice (some ⟨b, 0, none⟩) n c, .func (.func 44) #[] #[]] w fun e w' => e = .returned (.int .i64 (fstI (fstD ps))) ∧ w = w' := by
  obtain ⟨hl, hb, hc⟩ := h
  have HC := Lib.hid hc
  clear hc
  go_enter Tryz.func43, Tryz.ntmps43
  go_wp2
  go_loop [8] (fun i => ∃ k : Nat, k ≤ n ∧ i = .int .i64 k ∧ Hid (∀ t ∈ ps.take k, dotS t = false)) (fun i => n - (intOf i).toNat)
  case atStart => exact ⟨0, Nat.zero_le _, rfl, Lib.hid (by simp)⟩
  case round =>
    obtain ⟨k, hk, rfl, H⟩ := hrel
    by_cases hlt : k < n
    · obtain ⟨p, hp⟩ : ∃ p, ps[k]? = some p := ⟨_, List.getElem?_eq_getElem (by omega)⟩
      have a0 := HC.out k p hp
      have cD := isDots_any p w
      have Hat := Lib.hid (fstD_at ps k H.out)
      have Hp := Lib.hid hp
      clear hp
      cases hd : dotS p
      · rw [hd] at cD
        have Hd := Lib.hid hd
        clear hd
        go_wp2_with (go_at_call 44; refine cD.mono ?_; rintro e w' ⟨rfl, rfl⟩)
        go_round
        case rel =>
          refine ⟨k + 1, by omega, by go_num, Lib.hid (fun t ht => ?_)⟩
          rw [List.take_add_one, Hp.out] at ht
          rcases List.mem_append.1 ht with ht | ht
          · exact H.out t ht
          · obtain rfl : t = p := by simpa using ht
            exact Hd.out
        case measure => simp [intOf]; omega
      · rw [hd] at cD
        have HR : Hid (fstI (fstD ps) = (k : Int)) := Lib.hid (by rw [Hat.out.1 p Hp.out hd]; rfl)
        clear hd
        go_wp2_with (go_at_call 44; refine cD.mono ?_; rintro e w' ⟨rfl, rfl⟩)
        go_ret
        exact ⟨ret_eq (int_eq HR.out.symm), rfl⟩
    · have HR : Hid (fstI (fstD ps) = -1) := Lib.hid (by rw [(fstD_at ps k H.out).2 (by omega)]; rfl)
      go_wp2
      go_ret
      exact ⟨ret_eq (int_eq HR.out.symm), rfl⟩

end Go.Proofs.YtbbdifcmhoobaaaGreatDoor
