/- The contract of bare.readString. -/
import Derived.Test.YtcjnigmklijjiaaDoorBarK
namespace Go.Proofs.YtcjnigmklijjiaaDoor
open Go.RowKit

/-- A String from behind its first quote on: what was read of it, what is left, where that stands. -/
def rsL : List UInt8 → List UInt8 → Nat → Option Got
  | [], _, _ => none
  | c :: r, acc, m =>
    if c == 34 then some ⟨3, 0, acc, m + 1⟩
    else if c == 92 then
      match r with
      | [] => none
      | d :: q => if escI d.toNat then rsL q (acc ++ [d]) (m + 2) else none
    else if prI c.toNat then rsL r (acc ++ [c]) (m + 1) else none

def readStrL (l : List UInt8) : Option Got := rsL (l.drop 1) [] 1

theorem rsL_quote (r acc : List UInt8) (m : Nat) : rsL (34 :: r) acc m = some ⟨3, 0, acc, m + 1⟩ := by rw [rsL.eq_def]; rfl
theorem rsL_esc_end (acc : List UInt8) (m : Nat) : rsL [92] acc m = none := by rw [rsL.eq_def]; rfl
theorem rsL_esc (d : UInt8) (r acc : List UInt8) (m : Nat) : rsL (92 :: d :: r) acc m = if escI d.toNat then rsL r (acc ++ [d]) (m + 2) else none := by
  rw [rsL.eq_def]; rfl
theorem rsL_other (c : UInt8) (r acc : List UInt8) (m : Nat) (h1 : c ≠ 34) (h2 : c ≠ 92) : rsL (c :: r) acc m = if prI c.toNat then rsL r (acc ++ [c]) (m + 1) else none := by
  rw [rsL.eq_def]
  dsimp only
  rw [if_neg (by simpa using h1), if_neg (by simpa using h2)]

theorem no_cells2 (w w1 : World) (hb : Below (w.heap.size + 1) (w.alloc zeroBare) w1) : (w1.cell? ⟨w.heap.size, 0, none⟩ = some (.int .i64 0) ∧ w1.cell? ⟨w.heap.size, 1, none⟩ = some (.int .i64 0) ∧ w1.cell? ⟨w.heap.size, 2, none⟩ = some (.string ⟨#[]⟩)) ∧ (w1.frozen? ⟨w.heap.size, 0, none⟩ = false ∧ w1.frozen? ⟨w.heap.size, 1, none⟩ = false ∧ w1.frozen? ⟨w.heap.size, 2, none⟩ = false) :=
  no_cells w w1 (by simpa using hb)

set_option maxRecDepth 100000 in
set_option maxHeartbeats 4000000 in
theorem readString_any (s : ByteArray) (w : World) (h0 : 0 < s.size) (hs : s.size ≤ 100000) :
    Calls Tryd.prog 69 #[.string s] w (gotPost (gotV (readStrL s.data.toList)) w) := by
  obtain ⟨i0, hi, hz0, hz1, hz2⟩ := info_parts info_u8
  have cN := fun W => noItem_any W
  have hb0 : Below w.heap.size w (w.alloc zeroBare) := (Below.refl _ _).alloc (Nat.le_refl _) _
  have Hb0 := Lib.hid hb0
  have Hs0 : Hid ((w.alloc zeroBare).heap.size = w.heap.size + 1) := Lib.hid (by simp)
  clear hb0
  go_enter Tryd.func69, Tryd.ntmps69
  go_wp2
  go_loopw [5, 6] (fun v i wr => ∃ (k : Nat) (acc : List UInt8), i = .int .i64 k ∧ 1 ≤ k ∧ k ≤ s.size ∧ acc.length ≤ k ∧ Hid (readStrL s.data.toList = rsL (s.data.toList.drop k) acc k) ∧ wr.ownsRow (w.heap.size + 1) 5 1 v acc.length (acc.map u8V) ∧ Below (w.heap.size + 1) (w.alloc zeroBare) wr) (fun _ i _ => s.size - (intOf i).toNat)
  case atStart => exact ⟨1, [], rfl, by omega, by omega, by simp, Lib.hid rfl, World.ownsRow_nil _ _ _ _, Below.refl _ _⟩
  case round =>
    obtain ⟨k, acc, rfl, hk1, hk, hal, H, hown, hb⟩ := hrel
    have hsz : w.heap.size + 1 ≤ wr.heap.size := by have := hb.size; rw [Hs0.out] at this; exact this
    by_cases hlt : k < s.size
    · have hdr := drop_cons_at s k hlt
      cases h1 : (((s[k]'hlt).toNat : Int) == 34)
      · have n1 : s[k]'hlt ≠ 34 := by
          intro e; rw [e] at h1; exact absurd h1 (by decide)
        cases h2 : (((s[k]'hlt).toNat : Int) == 92)
        · have n2 : s[k]'hlt ≠ 92 := by
            intro e; rw [e] at h2; exact absurd h2 (by decide)
          rw [hdr, rsL_other _ _ _ _ n1 n2] at H
          have cP := fun W => inString_any ((s[k]'hlt).toNat : Int) W
          cases hp : prI ((s[k]'hlt).toNat : Int)
          · have HR : Hid (readStrL s.data.toList = none) := Lib.hid (by rw [H.out, hp]; rfl)
            rw [hp] at cP
            clear hp hdr n1 n2 H
            go_wp2_with fail
            refine (cP _).mono ?_
            rintro e w1 ⟨rfl, rfl⟩
            go_wp2_with fail
            refine (cN _).mono ?_
            rintro e w2 ⟨rfl, hb2⟩
            have hb3 := hb.trans (hb2.mono hsz)
            obtain ⟨⟨p0, p1, p2⟩, f0, f1, f2⟩ := no_cells2 w w2 hb3
            have hb4 := Hb0.out.trans (hb3.mono (Nat.le_succ _))
            clear hb2 hb3
            simp only [gotV]
            go_wp2
            exact bodyPost_ret (v := gotV none) (by simp [results, Tryd.results69, go_sem, gotV, p0, p1, p2]) rfl ⟨by rw [HR.out], ((hb4.setCell (by simp) _).setCell (by simp) _).setCell (by simp) _⟩
          · have HR : Hid (readStrL s.data.toList = rsL (s.data.toList.drop (k + 1)) (acc ++ [s[k]'hlt]) (k + 1)) := Lib.hid (by rw [H.out, hp]; rfl)
            rw [hp] at cP
            clear hp hdr n1 n2 H
            go_wp2_with (first | (go_at_call 56; refine (cP _).mono ?_; rintro e w' ⟨rfl, rfl⟩) | (at_builtin; refine wpList_append_own _ rfl _ _ 59 rfl (w.heap.size + 1) 5 i0 (.int .u8 0) 1 1 Tryd.underlying59 hi hz0 hz1 hz2 rfl (by decide) _ _ _ rfl (hown.alloc _) ⟨_, 0, none⟩ 1 1 [.int .u8 (s[k].toNat : Int)] rfl rfl (cells_new _ _ _) (by simp [Value.oneCell']) (by unfold maxLen; omega) (by omega) (by simp; omega) ?_; intro v' w2 hown' hgrow _))
            go_roundw
            case rel =>
              refine ⟨k + 1, acc ++ [s[k]], by go_num, by omega, by omega, by simp; omega, Lib.hid HR.out, by simpa [u8V] using hown', ?_⟩
              exact (hb.alloc (by omega) _).grown hgrow (by simp; omega) (fun k e => (World.ownsRow.lt hown k e).1)
            case measure => simp [intOf]; omega
        · have e2 : s[k]'hlt = 92 := by
            have := byte_beq (s[k]'hlt) 92
            rw [show ((92 : UInt8).toNat : Int) = 92 from rfl, h2] at this
            simpa using this.symm
          by_cases hlt2 : k + 1 < s.size
          · rw [hdr, e2, drop_cons_at s (k + 1) hlt2, rsL_esc] at H
            have q1 : (((k : Int) + 1) == (s.size : Int)) = false := by simp; omega
            have cE := fun W => isEscaped_any ((s[k + 1]'hlt2).toNat : Int) W
            cases hp : escI ((s[k + 1]'hlt2).toNat : Int)
            · have HR : Hid (readStrL s.data.toList = none) := Lib.hid (by rw [H.out, hp]; rfl)
              rw [hp] at cE
              clear hp hdr n1 e2 H
              go_wp2_with fail
              refine (cE _).mono ?_
              rintro e w1 ⟨rfl, rfl⟩
              go_wp2_with fail
              refine (cN _).mono ?_
              rintro e w2 ⟨rfl, hb2⟩
              have hb3 := hb.trans (hb2.mono hsz)
              obtain ⟨⟨p0, p1, p2⟩, f0, f1, f2⟩ := no_cells2 w w2 hb3
              have hb4 := Hb0.out.trans (hb3.mono (Nat.le_succ _))
              clear hb2 hb3
              simp only [gotV]
              go_wp2
              exact bodyPost_ret (v := gotV none) (by simp [results, Tryd.results69, go_sem, gotV, p0, p1, p2]) rfl ⟨by rw [HR.out], ((hb4.setCell (by simp) _).setCell (by simp) _).setCell (by simp) _⟩
            · have HR : Hid (readStrL s.data.toList = rsL (s.data.toList.drop (k + 1 + 1)) (acc ++ [s[k + 1]'hlt2]) (k + 2)) := Lib.hid (by rw [H.out, hp]; rfl)
              rw [hp] at cE
              clear hp hdr n1 e2 H
              go_wp2_with (first | (go_at_call 46; refine (cE _).mono ?_; rintro e w' ⟨rfl, rfl⟩) | (at_builtin; refine wpList_append_own _ rfl _ _ 59 rfl (w.heap.size + 1) 5 i0 (.int .u8 0) 1 1 Tryd.underlying59 hi hz0 hz1 hz2 rfl (by decide) _ _ _ rfl (hown.alloc _) ⟨_, 0, none⟩ 1 1 [.int .u8 (s[k + 1].toNat : Int)] rfl rfl (cells_new _ _ _) (by simp [Value.oneCell']) (by unfold maxLen; omega) (by omega) (by simp; omega) ?_; intro v' w2 hown' hgrow _))
              go_roundw
              case rel =>
                refine ⟨k + 2, acc ++ [s[k + 1]], by go_num, by omega, by omega, by simp; omega, Lib.hid HR.out, by simpa [u8V] using hown', ?_⟩
                exact (hb.alloc (by omega) _).grown hgrow (by simp; omega) (fun k e => (World.ownsRow.lt hown k e).1)
              case measure => simp [intOf]; omega
          · have hd1 : s.data.toList.drop (k + 1) = [] := List.drop_of_length_le (by rw [← Lib.size_eq]; omega)
            rw [hdr, e2, hd1, rsL_esc_end] at H
            have q1 : (((k : Int) + 1) == (s.size : Int)) = true := by simp; omega
            clear hdr n1 e2 hd1
            go_wp2_with fail
            refine (cN _).mono ?_
            rintro e w2 ⟨rfl, hb2⟩
            have hb3 := hb.trans (hb2.mono hsz)
            obtain ⟨⟨p0, p1, p2⟩, f0, f1, f2⟩ := no_cells2 w w2 hb3
            have hb4 := Hb0.out.trans (hb3.mono (Nat.le_succ _))
            clear hb2 hb3
            simp only [gotV]
            go_wp2
            exact bodyPost_ret (v := gotV none) (by simp [results, Tryd.results69, go_sem, gotV, p0, p1, p2]) rfl ⟨by rw [H.out], ((hb4.setCell (by simp) _).setCell (by simp) _).setCell (by simp) _⟩
      · have e1 : s[k]'hlt = 34 := by
          have := byte_beq (s[k]'hlt) 34
          rw [show ((34 : UInt8).toNat : Int) = 34 from rfl, h1] at this
          simpa using this.symm
        rw [hdr, e1, rsL_quote] at H
        clear hdr e1
        have hcv := run_owned_str (P := Tryd.prog) Tryd.underlying59 Tryd.underlying5 Tryd.underlying9 hown
        obtain ⟨⟨p0, p1, p2⟩, f0, f1, f2⟩ := no_cells2 w wr hb
        have hb4 := Hb0.out.trans (hb.mono (Nat.le_succ _))
        go_wp2
        exact bodyPost_ret (v := gotV (some ⟨3, 0, acc, k + 1⟩)) (by simp [results, Tryd.results69, go_sem, gotV, p0, p1, p2]) rfl ⟨by rw [H.out], ((hb4.setCell (by simp) _).setCell (by simp) _).setCell (by simp) _⟩
    · have hd1 : s.data.toList.drop k = [] := List.drop_of_length_le (by rw [← Lib.size_eq]; omega)
      rw [hd1, rsL] at H
      clear hd1
      go_wp2_with fail
      refine (cN _).mono ?_
      rintro e w2 ⟨rfl, hb2⟩
      have hb3 := hb.trans (hb2.mono hsz)
      obtain ⟨⟨p0, p1, p2⟩, f0, f1, f2⟩ := no_cells2 w w2 hb3
      have hb4 := Hb0.out.trans (hb3.mono (Nat.le_succ _))
      clear hb2 hb3
      simp only [gotV]
      go_wp2
      exact bodyPost_ret (v := gotV none) (by simp [results, Tryd.results69, go_sem, gotV, p0, p1, p2]) rfl ⟨by rw [H.out], ((hb4.setCell (by simp) _).setCell (by simp) _).setCell (by simp) _⟩

end Go.Proofs.YtcjnigmklijjiaaDoor
