/- The document's own Held where tags are asked for (sculleryref12). -/
import Derived.Test.YtclgdmcbbphbcaaDoorZMEuA
import Derived.Test.YtclgdmcbbphbcaaDoorZMEuO
import Derived.Test.YtclgdmcbbphbcaaDoorZMHdS
import Derived.Test.YtclgdmcbbphbcaaDoorZRkL
import Derived.Test.YtclgdmcbbphbcaaDoorZMBasP
import Derived.BigQuiet
import Derived.Deep.QuietTactic
import Derived.Deep.RegionHeld3

namespace Go.Proofs.YtclgdmcbbphbcaaDoor
open Go.RowKit Go.Lib

def anyE (xs : List Tg) : Option Tg → Bool
  | none => false
  | some t => xs.any fun x => likE x t false
theorem hldE_none {l v : List UInt8} (h : lstE l = none) : hldE l v = false := by rw [hldE, h]
theorem hldE_some {l v : List UInt8} {xs : List Tg} {st : Bool} (h : lstE l = some (xs, st)) : hldE l v = (st || anyE xs (prsE v)) := by
  rw [hldE, h]
  dsimp only
  cases prsE v <;> rfl
theorem held_inm {q p : List Fld} (h : 0 < (allH q nInm).length) : heldE q p = hldE (joinH (allH q nInm)) (joinH (allH p nEtg)) := by rw [heldE, if_pos h]

theorem lsgE_len : ∀ (f : Nat) (l : List UInt8) (sep : Bool) (acc xs : List Tg), lsgE f l sep acc = some xs → xs.length ≤ acc.length + l.length
  | 0, _, _, _, _, h => by cases h
  | f + 1, [], sep, acc, xs, h => by
    obtain rfl := Option.some.inj h
    simp
  | f + 1, c :: r, sep, acc, xs, h => by
    rw [lsgE] at h
    rw [List.length_cons]
    split at h
    · have := lsgE_len f r sep acc xs h
      omega
    · split at h
      · have := lsgE_len f r true acc xs h
        omega
      · split at h
        · cases h
        · cases ht : takE (c :: r) with
          | none => rw [ht] at h; cases h
          | some p =>
            obtain ⟨t, q⟩ := p
            rw [ht] at h
            have h1 := lsgE_len f q false (acc ++ [t]) xs h
            have h2 := takE_len _ _ _ ht
            rw [List.length_append, List.length_singleton] at h1
            rw [List.length_cons] at h2
            omega
theorem lstE_len {l : List UInt8} {xs : List Tg} {st : Bool} (h : lstE l = some (xs, st)) : xs.length ≤ l.length := by
  unfold lstE at h
  split at h
  · split at h
    · obtain ⟨rfl, _⟩ := Prod.mk.inj (Option.some.inj h)
      exact Nat.zero_le _
    · cases h
  · cases hl : lsgE (l.length + 1) l true [] with
    | none => rw [hl] at h; cases h
    | some ys =>
      rw [hl] at h
      dsimp only at h
      split at h
      · cases h
      · obtain ⟨rfl, _⟩ := Prod.mk.inj (Option.some.inj h)
        have := lsgE_len _ _ _ _ _ hl
        simpa using this

end Go.Proofs.YtclgdmcbbphbcaaDoor
