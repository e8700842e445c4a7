/- The contract of cmp.Or over two texts; how long a host is. -/
import Derived.Test.YtbbdifcmhoobaaaGreatDoorTaH
import Derived.Test.YtbbdifcmhoobaaaGreatDoorTaD
import Derived.Test.YtbbdifcmhoobaaaGreatDoorTaE
namespace Go.Proofs.YtbbdifcmhoobaaaGreatDoor
open Go.RowKit Go.Shelf Go.Lib

theorem dropWhile_len (p : UInt8 → Bool) : ∀ l : List UInt8, (l.dropWhile p).length ≤ l.length
  | [] => Nat.le_refl _
  | c :: l => by
    have := dropWhile_len p l
    rw [List.dropWhile_cons]
    split
    · simp only [List.length_cons]; omega
    · exact Nat.le_refl _
theorem host_len {l h : List UInt8} (hh : hostL l = some h) : h.length ≤ l.length := by
  have h1 := takeWhile_len_le hstB l
  have h2 : (l.takeWhile hstB).length + (l.dropWhile hstB).length = l.length := by
    rw [← List.length_append, List.takeWhile_append_dropWhile]
  unfold hostL at hh
  split at hh
  · cases hh
  · split at hh
    · obtain rfl := Option.some.inj hh
      rw [lowL_length]; exact h1
    · rename_i c p hd
      split at hh
      · cases hh
      · split at hh
        · obtain rfl := Option.some.inj hh
          rw [lowL_length]; exact h1
        · obtain rfl := Option.some.inj hh
          rw [hd, List.length_cons] at h2
          rw [List.length_append, lowL_length, List.length_cons]
          omega

set_option maxRecDepth 100000 in
set_option maxHeartbeats 2000000 in
theorem or_any (b : Nat) (d : List UInt8) (w : World) (a0 : w.cell? ⟨b, 0, none⟩ = some (.string (strB d))) (a1 : w.cell? ⟨b, 1, none⟩ = some (.string ⟨#[47]⟩)) :
    Calls Tryz.prog 27 #[.slice (some ⟨b, 0, none⟩) 2 2] w fun e w' => e = .returned (.string (strB (if d = [] then [47] else d))) ∧ w = w' := by
  by_cases hd : d = []
  · subst hd
    rw [if_pos rfl]
    rw [show strB [] = (⟨#[]⟩ : ByteArray) from rfl] at a0
    go_enter Tryz.func27, Tryz.ntmps27
    go_wp2
    go_loop [8] (fun i => ∃ k : Nat, k ≤ 1 ∧ i = .int .i64 k) (fun i => 2 - (intOf i).toNat)
    case atStart => exact ⟨0, by omega, rfl⟩
    case round =>
      obtain ⟨k, hk, rfl⟩ := hrel
      match k, hk with
      | 0, _ =>
        go_wp2
        go_round
        case rel => exact ⟨1, by omega, rfl⟩
        case measure => simp [intOf]
      | 1, _ =>
        go_wp2
        go_ret
        exact ⟨rfl, rfl⟩
  · rw [if_neg hd]
    have he : (strB d).toList.isEmpty = false := by
      rw [strB_toList]
      cases d with
      | nil => exact absurd rfl hd
      | cons c t => rfl
    have he2 : ¬ (strB d).toList = [] := by rw [strB_toList]; exact hd
    clear hd
    generalize strB d = D at *
    go_enter Tryz.func27, Tryz.ntmps27
    go_wp2
    go_loop [8] (fun i => i = .int .i64 0) (fun i => 2 - (intOf i).toNat)
    case atStart => rfl
    case round =>
      obtain rfl := hrel
      go_wp2
      go_ret
      exact ⟨rfl, rfl⟩

end Go.Proofs.YtbbdifcmhoobaaaGreatDoor
