/- Plain: hosts, told in one way. -/
import Derived.Test.YtbbdifcmhoobaaaGreatDoorLowP
namespace Go.Proofs.YtbbdifcmhoobaaaGreatDoor
open Go.RowKit

/-- May a byte stand in a host's name? May it be told without percent? -/
def hstB (c : UInt8) : Bool := ltrI c.toNat || digI c.toNat || c == 46 || c == 45
def plnB (c : UInt8) : Bool := ltrI c.toNat || digI c.toNat || c == 45 || c == 46 || c == 95 || c == 126
/-- A host as it is told in one way. -/
def hostL (l : List UInt8) : Option (List UInt8) :=
  if l.takeWhile hstB = [] then none
  else match l.dropWhile hstB with
    | [] => some (lowL (l.takeWhile hstB))
    | c :: p =>
      if (c != 58 || (!p.isEmpty && !digitsB p) || decide (5 < p.length)) = true then none
      else if p = [] ∨ p = [56, 48] then some (lowL (l.takeWhile hstB))
      else some (lowL (l.takeWhile hstB) ++ 58 :: p)
theorem low_hst (c : UInt8) (h : hstB c = true) : hstB (lowB c) = true := by
  have : ∀ x : Fin 256, hstB x.val.toUInt8 = true → hstB (lowB x.val.toUInt8) = true := by decide +kernel
  have h2 := this ⟨c.toNat, UInt8.toNat_lt c⟩
  simpa using h2 (by simpa using h)
theorem takeWhile_all {p : UInt8 → Bool} : ∀ (l : List UInt8), (∀ c ∈ l, p c = true) → l.takeWhile p = l ∧ l.dropWhile p = []
  | [], _ => ⟨rfl, rfl⟩
  | c :: l, h => by
    have hc := h c (List.mem_cons_self ..)
    have ih := takeWhile_all l fun x hx => h x (List.mem_cons_of_mem _ hx)
    rw [List.takeWhile_cons, List.dropWhile_cons, if_pos hc, if_pos hc, ih.1, ih.2]
    exact ⟨rfl, rfl⟩
theorem takeWhile_mid {p : UInt8 → Bool} : ∀ (l : List UInt8) (c : UInt8) (r : List UInt8), (∀ c ∈ l, p c = true) → p c = false → (l ++ c :: r).takeWhile p = l ∧ (l ++ c :: r).dropWhile p = c :: r
  | [], c, r, _, hc => by simp [hc]
  | x :: l, c, r, h, hc => by
    have hx := h x (List.mem_cons_self ..)
    have ih := takeWhile_mid l c r (fun y hy => h y (List.mem_cons_of_mem _ hy)) hc
    rw [List.cons_append, List.takeWhile_cons, List.dropWhile_cons, if_pos hx, if_pos hx, ih.1, ih.2]
    exact ⟨rfl, rfl⟩
theorem takeWhile_mem {p : UInt8 → Bool} : ∀ (l : List UInt8), ∀ c ∈ l.takeWhile p, p c = true
  | [], _, h => by cases h
  | x :: l, c, h => by
    rw [List.takeWhile_cons] at h
    split at h
    · rename_i hx
      rcases List.mem_cons.1 h with rfl | h
      · exact hx
      · exact takeWhile_mem l c h
    · cases h
theorem low_name (l : List UInt8) : ∀ c ∈ lowL (l.takeWhile hstB), hstB c = true := by
  intro c hc
  rw [lowL, List.mem_map] at hc
  obtain ⟨x, hx, rfl⟩ := hc
  exact low_hst x (takeWhile_mem l x hx)
theorem lowL_nil {l : List UInt8} (h : l ≠ []) : lowL l ≠ [] := by
  intro h2
  rw [lowL, List.map_eq_nil_iff] at h2
  exact h h2
/-- A host that is told in one way stays. -/
theorem host_stays {l h : List UInt8} (hh : hostL l = some h) : hostL h = some h := by
  unfold hostL at hh
  split at hh
  · cases hh
  · rename_i h0
    have hn := lowL_nil h0
    have ha := low_name l
    have hi := lowL_idem (l.takeWhile hstB)
    split at hh
    · obtain rfl := Option.some.inj hh
      obtain ⟨h1, h2⟩ := takeWhile_all _ ha
      rw [hostL, h1, h2, if_neg hn, hi]
    · rename_i c p _
      split at hh
      · cases hh
      · rename_i h3
        split at hh
        · obtain rfl := Option.some.inj hh
          obtain ⟨h1, h2⟩ := takeWhile_all _ ha
          rw [hostL, h1, h2, if_neg hn, hi]
        · rename_i h4
          obtain rfl := Option.some.inj hh
          have hc : hstB 58 = false := by decide
          obtain ⟨h1, h2⟩ := takeWhile_mid (lowL (l.takeWhile hstB)) 58 p ha hc
          have h5 : ¬ (((58 : UInt8) != 58 || (!p.isEmpty && !digitsB p) || decide (5 < p.length)) = true) := by
            intro h6
            apply h3
            simp only [Bool.or_eq_true] at h6 ⊢
            rcases h6 with (h6 | h6) | h6
            · exact absurd h6 (by decide)
            · exact .inl (.inr h6)
            · exact .inr h6
          rw [hostL, h1, h2, if_neg hn]
          dsimp only
          rw [if_neg h5, if_neg h4, hi]
/-- A host has no slash and no question mark. -/
theorem host_bytes {l h : List UInt8} (hh : hostL l = some h) : ∀ c ∈ h, c ≠ 47 ∧ c ≠ 63 := by
  have hb : ∀ c, hstB c = true → c ≠ 47 ∧ c ≠ 63 := fun c hc => by
    constructor <;> intro he <;> rw [he] at hc <;> exact absurd hc (by decide)
  have ha := low_name l
  unfold hostL at hh
  split at hh
  · cases hh
  · split at hh
    · obtain rfl := Option.some.inj hh
      exact fun c hc => hb c (ha c hc)
    · rename_i c0 p _
      split at hh
      · cases hh
      · rename_i h3
        split at hh
        · obtain rfl := Option.some.inj hh
          exact fun c hc => hb c (ha c hc)
        · rename_i h4
          obtain rfl := Option.some.inj hh
          intro c hc
          rcases List.mem_append.1 hc with hc | hc
          · exact hb c (ha c hc)
          · rcases List.mem_cons.1 hc with rfl | hc
            · decide
            · have hd : digitsB p = true := by
                cases hd : digitsB p
                · exfalso
                  apply h3
                  have : p.isEmpty = false := by
                    cases p with
                    | nil => exact absurd (.inl rfl) h4
                    | cons x r => rfl
                  rw [hd, this]
                  simp
                · rfl
              rw [digitsB, digAll, Bool.and_eq_true, List.all_eq_true] at hd
              have := (digI_iff _).1 (hd.1 c hc)
              constructor <;> intro he <;> rw [he] at this <;> exact absurd this (by decide)

end Go.Proofs.YtbbdifcmhoobaaaGreatDoor
