/- The contracts of base64's functions on a group: characters, valueOf, bytesOf. -/
import Derived.Test.YtcjnigmklijjiaaDoorBarB
import Derived.Test.YtcjnigmklijjiaaDoorCopyS
import Derived.Deep.QuietTactic
import Derived.BigQuiet
import Derived.BigRegion
import Derived.StillTailTactics
import Derived.Laws.BitsLemmas
namespace Go.Proofs.YtcjnigmklijjiaaDoor
open Go.RowKit

def alphL : List UInt8 := [65, 66, 67, 68, 69, 70, 71, 72, 73, 74, 75, 76, 77, 78, 79, 80, 81, 82, 83, 84, 85, 86, 87, 88, 89, 90, 97, 98, 99, 100, 101, 102, 103, 104, 105, 106, 107, 108, 109, 110, 111, 112, 113, 114, 115, 116, 117, 118, 119, 120, 121, 122, 48, 49, 50, 51, 52, 53, 54, 55, 56, 57, 43, 47]
def alp (n : Nat) : UInt8 := alphL.getD n 0
/-- The alphabet lies where it was laid. -/
def Alph (w : World) : Prop := ∀ j, j < 64 → w.cell? ⟨0, j, none⟩ = some (.int .u8 ((alp j).toNat : Int))

theorem Alph.below {w w' : World} (h : Alph w) (hb : Below w.heap.size w w') : Alph w' := fun j hj => by
  have := h j hj
  rw [hb.cell (p := ⟨_, j, none⟩) (lt_of_cell this)]
  exact this

theorem wraps_u32 (n : Int) (h₀ : 0 ≤ n) (h₁ : n < 2 ^ 32) : IntKind.u32.wrap n = n := by rw [IntKind.wrap_u32]; omega
theorem u32_and63 (x : Int) (h₀ : 0 ≤ x) (h₁ : x < 4294967296) : bits .and .u32 x 63 = x % 64 := bits_mask .u32 32 (by decide) wraps_u32 6 (by decide) x h₀ h₁
theorem u32_or3 (a b c : Nat) (h1 : a < 256) (h2 : b < 256) (h3 : c < 256) : bits .or .u32 (bits .or .u32 ((a : Int) * 65536) ((b : Int) * 256)) (c : Int) = ((65536 * a + 256 * b + c : Nat) : Int) := by
  rw [bits_join .u32 32 (by decide) wraps_u32 16 ((a : Int) * 65536) ((b : Int) * 256) (by omega) (by omega) (by omega) (by omega) (by omega) (by omega)]
  rw [bits_join .u32 32 (by decide) wraps_u32 8 ((a : Int) * 65536 + (b : Int) * 256) (c : Int) (by omega) (by omega) (by omega) (by omega) (by omega) (by omega)]
  omega

set_option maxRecDepth 100000 in
set_option maxHeartbeats 1000000 in
theorem characters_any (a b c : UInt8) (w : World) (hA : Alph w) :
    Calls Tryd.prog 47 #[.agg #[.int .u8 a.toNat, .int .u8 b.toNat, .int .u8 c.toNat]] w fun e w' => e = .returned (.agg #[u8V (alp ((65536 * a.toNat + 256 * b.toNat + c.toNat) / 262144)), u8V (alp ((65536 * a.toNat + 256 * b.toNat + c.toNat) / 4096 % 64)), u8V (alp ((65536 * a.toNat + 256 * b.toNat + c.toNat) / 64 % 64)), u8V (alp ((65536 * a.toNat + 256 * b.toNat + c.toNat) % 64))]) ∧ Below w.heap.size w w' := by
  have h1 := a.toNat_lt
  have h2 := b.toNat_lt
  have h3 := c.toNat_lt
  have HA := Lib.hid hA
  clear hA
  generalize a.toNat = a at h1
  generalize b.toNat = b at h2
  generalize c.toNat = c at h3
  obtain ⟨v, hve⟩ : ∃ v, v = 65536 * a + 256 * b + c := ⟨_, rfl⟩
  rw [← hve]
  have Hor : Hid (bits .or .u32 (bits .or .u32 ((a : Int) * 65536) ((b : Int) * 256)) (c : Int) = (v : Int)) := Lib.hid (by rw [u32_or3 a b c h1 h2 h3, hve])
  have hv : v < 16777216 := by omega
  clear hve
  have i1 : v / 262144 < 64 := by omega
  have i2 : v / 4096 % 64 < 64 := by omega
  have i3 : v / 64 % 64 < 64 := by omega
  have i4 : v % 64 < 64 := by omega
  have m1 : (v : Int) / 262144 = ((v / 262144 : Nat) : Int) := by omega
  have m2 : bits .and .u32 ((v : Int) / 4096) 63 = ((v / 4096 % 64 : Nat) : Int) := by rw [u32_and63 _ (by omega) (by omega)]; omega
  have m3 : bits .and .u32 ((v : Int) / 64) 63 = ((v / 64 % 64 : Nat) : Int) := by rw [u32_and63 _ (by omega) (by omega)]; omega
  have m4 : bits .and .u32 (v : Int) 63 = ((v % 64 : Nat) : Int) := by rw [u32_and63 _ (by omega) (by omega)]; omega
  have c1 := HA.out (v / 262144) i1
  have c2 := HA.out (v / 4096 % 64) i2
  have c3 := HA.out (v / 64 % 64) i3
  have c4 := HA.out (v % 64) i4
  have hz : 0 < w.heap.size := lt_of_cell c1
  generalize v / 262144 = j1 at i1 m1 c1
  generalize v / 4096 % 64 = j2 at i2 m2 c2
  generalize v / 64 % 64 = j3 at i3 m3 c3
  generalize v % 64 = j4 at i4 m4 c4
  generalize alp j1 = x1 at c1
  generalize alp j2 = x2 at c2
  generalize alp j3 = x3 at c3
  generalize alp j4 = x4 at c4
  have M1 := Lib.hid m1
  have M2 := Lib.hid m2
  have M3 := Lib.hid m3
  have M4 := Lib.hid m4
  clear m1 m2 m3 m4
  go_enter Tryd.func47, Tryd.ntmps47
  go_wp2_with fail
  rw [Hor.out]
  clear h1 h2 h3
  have m1 := M1.out
  have m2 := M2.out
  have m3 := M3.out
  have m4 := M4.out
  have k1 : (j1 : Int) < 64 := by omega
  have k2 : (j2 : Int) < 64 := by omega
  have k3 : (j3 : Int) < 64 := by omega
  have k4 : (j4 : Int) < 64 := by omega
  clear hv i1 i2 i3 i4
  refine wp_region_still_tail 19 (by kernel_rfl) (by kernel_rfl) ?_
  change wpStill _ _ (World.drew _) (fun a' => wpList _ _ _ _ a' (World.drew _)) _ _
  generalize hW : World.drew ((w.alloc (.cells #[.int .u8 (a : Int), .int .u8 (b : Int), .int .u8 (c : Int)] 90)).alloc (.cells #[.int .u8 0, .int .u8 0, .int .u8 0, .int .u8 0] 91)) = W
  have hb : Below w.heap.size w W := by
    rw [← hW]
    exact (((Below.refl _ _).alloc (Nat.le_refl _) _).alloc (by simp) _).drew
  have d1 : W.cell? ⟨0, j1, none⟩ = some (.int .u8 (x1.toNat : Int)) := (hb.cell (p := ⟨_, j1, none⟩) hz).trans c1
  have d2 : W.cell? ⟨0, j2, none⟩ = some (.int .u8 (x2.toNat : Int)) := (hb.cell (p := ⟨_, j2, none⟩) hz).trans c2
  have d3 : W.cell? ⟨0, j3, none⟩ = some (.int .u8 (x3.toNat : Int)) := (hb.cell (p := ⟨_, j3, none⟩) hz).trans c3
  have d4 : W.cell? ⟨0, j4, none⟩ = some (.int .u8 (x4.toNat : Int)) := (hb.cell (p := ⟨_, j4, none⟩) hz).trans c4
  have f0 : W.cell? ⟨w.heap.size + 1, 0, none⟩ = some (.int .u8 0) ∧ W.frozen? ⟨w.heap.size + 1, 0, none⟩ = false := by rw [← hW]; simp
  have f1 : W.cell? ⟨w.heap.size + 1, 1, none⟩ = some (.int .u8 0) ∧ W.frozen? ⟨w.heap.size + 1, 1, none⟩ = false := by rw [← hW]; simp
  have f2 : W.cell? ⟨w.heap.size + 1, 2, none⟩ = some (.int .u8 0) ∧ W.frozen? ⟨w.heap.size + 1, 2, none⟩ = false := by rw [← hW]; simp
  have f3 : W.cell? ⟨w.heap.size + 1, 3, none⟩ = some (.int .u8 0) ∧ W.frozen? ⟨w.heap.size + 1, 3, none⟩ = false := by rw [← hW]; simp
  obtain ⟨f0, g0⟩ := f0
  obtain ⟨f1, g1⟩ := f1
  obtain ⟨f2, g2⟩ := f2
  obtain ⟨f3, g3⟩ := f3
  clear hW c1 c2 c3 c4
  simp only [List.take_succ_cons, List.take_zero, List.drop_succ_cons, List.drop_zero]
  repeat still_step
  refine wpStill_nil ?_
  clear m1 m2 m3 m4 d1 d2 d3 d4 k1 k2 k3 k4
  go_wp2_with fail
  exact bodyPost_ret (v := .agg #[u8V x1, u8V x2, u8V x3, u8V x4]) (by simp [results, Tryd.results47, go_sem, f0, f1, f2, f3, u8V]) rfl ⟨rfl, (((hb.setCell (by simp) _).setCell (by simp) _).setCell (by simp) _).setCell (by simp) _⟩

/-- What a character stands for, 0 if it is none of the alphabet. -/
def vgo : List UInt8 → Nat → UInt8 → Nat
  | [], _, _ => 0
  | x :: r, k, c => if x == c then k else vgo r (k + 1) c
def valB (c : UInt8) : Nat := vgo alphL 0 c

theorem alp_drop (k : Nat) (h : k < 64) : alphL.drop k = alp k :: alphL.drop (k + 1) := by
  have h' : k < alphL.length := h
  rw [List.drop_eq_getElem_cons h', alp, List.getD_eq_getElem?_getD, List.getElem?_eq_getElem h']
  rfl

theorem valB_lt (c : UInt8) : valB c < 64 := by
  have := all_bytes (fun c => decide (valB c < 64)) (by decide +kernel) c
  simpa using this

set_option maxHeartbeats 1000000 in
theorem valueOf_any (c : UInt8) (w : World) (hA : Alph w) :
    Calls Tryd.prog 96 #[.int .u8 c.toNat] w fun e w' => e = .returned (.int .u32 (valB c : Int)) ∧ w = w' := by
  have HA := Lib.hid hA
  clear hA
  go_enter Tryd.func96, Tryd.ntmps96
  go_wp2
  go_loop [4] (fun i => ∃ k : Nat, k ≤ 64 ∧ i = .int .i64 k ∧ Hid (valB c = vgo (alphL.drop k) k c)) (fun i => 64 - (intOf i).toNat)
  case atStart => exact ⟨0, by omega, rfl, Lib.hid rfl⟩
  case round =>
    obtain ⟨k, hk, rfl, H⟩ := hrel
    by_cases hlt : k < 64
    · have hc := HA.out k hlt
      have Hd := Lib.hid (alp_drop k hlt)
      have B : Hid ((((alp k).toNat : Int) == (c.toNat : Int)) = (alp k == c)) := Lib.hid (byte_beq _ _)
      cases he : (((alp k).toNat : Int) == (c.toNat : Int))
      · have He := Lib.hid (B.out.symm.trans he)
        go_wp2
        go_round
        case rel => exact ⟨k + 1, by omega, by go_num, Lib.hid (by rw [H.out, Hd.out, vgo, He.out]; rfl)⟩
        case measure => simp [intOf]; omega
      · have He := Lib.hid (B.out.symm.trans he)
        go_wp2
        go_ret
        exact ⟨ret_eq (int_eq (by rw [H.out, Hd.out, vgo, He.out]; rfl)), rfl⟩
    · obtain rfl : k = 64 := by omega
      go_wp2
      go_ret
      exact ⟨ret_eq (int_eq (by rw [H.out]; rfl)), rfl⟩

/-- What the character at a place stands for, 0 if there is none. -/
def vAt (l : List UInt8) (k : Nat) : Nat := match l[k]? with | some c => valB c | none => 0
def gN (l : List UInt8) : Nat → Nat
  | 0 => 0
  | k + 1 => gN l k * 64 + vAt l k
theorem vAt_lt (l : List UInt8) (k : Nat) : vAt l k < 64 := by
  unfold vAt
  split
  · exact valB_lt _
  · omega
theorem gN_lt (l : List UInt8) : ∀ k, gN l k < 64 ^ k
  | 0 => by simp [gN]
  | k + 1 => by
    have := gN_lt l k
    have := vAt_lt l k
    rw [gN, Nat.pow_succ]
    omega
theorem gN_le3 (l : List UInt8) (k : Nat) (h : k ≤ 3) : gN l k < 262144 :=
  Nat.lt_of_lt_of_le (gN_lt l k) (Nat.pow_le_pow_right (n := 64) (by decide) h)

theorem u32_or6 (x y : Nat) (h1 : x < 262144) (h2 : y < 64) : bits .or .u32 ((x : Int) * 64) (y : Int) = ((x * 64 + y : Nat) : Int) := by
  rw [bits_join .u32 32 (by decide) wraps_u32 6 ((x : Int) * 64) (y : Int) (by omega) (by omega) (by omega) (by omega) (by omega) (by omega)]
  omega

/-- The three bytes of a number. -/
def b0 (v : Nat) : UInt8 := UInt8.ofNat (v / 65536)
def b1 (v : Nat) : UInt8 := UInt8.ofNat (v / 256)
def b2 (v : Nat) : UInt8 := UInt8.ofNat v

set_option maxRecDepth 100000 in
set_option maxHeartbeats 1000000 in
theorem bytesOf_any (s : ByteArray) (w : World) (_hs : s.size ≤ 4) (hA : Alph w) :
    Calls Tryd.prog 91 #[.string s] w fun e w' => e = .returned (.agg #[u8V (b0 (gN s.data.toList 4)), u8V (b1 (gN s.data.toList 4)), u8V (b2 (gN s.data.toList 4))]) ∧ Below w.heap.size w w' := by
  have HA := Lib.hid hA
  clear hA
  go_enter Tryd.func91, Tryd.ntmps91
  go_wp2
  go_loop [3, 5] (fun b i => ∃ k : Nat, k ≤ 4 ∧ i = .int .i64 k ∧ b = .int .u32 (gN s.data.toList k : Int)) (fun _ i => 4 - (intOf i).toNat)
  case atStart => exact ⟨0, by omega, rfl, rfl⟩
  case round =>
    obtain ⟨k, hk, rfl, rfl⟩ := hrel
    by_cases hk4 : k < 4
    · have hg := gN_le3 s.data.toList k (by omega)
      by_cases hlt : k < s.size
      · have Hs : Hid (gN s.data.toList (k + 1) = gN s.data.toList k * 64 + valB s[k]) := Lib.hid (by
          rw [gN, vAt, List.getElem?_eq_getElem (by rw [← Lib.size_eq]; exact hlt)]; rfl)
        have hv := valB_lt s[k]
        have cV := fun W hW => valueOf_any s[k] W hW
        generalize valB s[k] = y at hv cV Hs
        generalize gN s.data.toList k = x at hg Hs
        have hor := u32_or6 x y hg hv
        go_wp2_with (go_at_call 96; refine (cV _ (HA.out.below ((Below.refl _ _).alloc (Nat.le_refl _) _))).mono ?_; rintro e w' ⟨rfl, rfl⟩)
        go_round
        case rel => exact ⟨k + 1, by omega, by go_num, by rw [Hs.out]; go_num⟩
        case measure => simp [intOf]; omega
      · have Hs : Hid (gN s.data.toList (k + 1) = gN s.data.toList k * 64) := Lib.hid (by
          rw [gN, vAt, List.getElem?_eq_none (by rw [← Lib.size_eq]; omega)]; rfl)
        generalize gN s.data.toList k = x at hg Hs
        go_wp2
        go_round
        case rel => exact ⟨k + 1, by omega, by go_num, by rw [Hs.out]; go_num⟩
        case measure => simp [intOf]; omega
    · obtain rfl : k = 4 := by omega
      have hv := gN_lt s.data.toList 4
      have e0 : Hid ((gN s.data.toList 4 : Int) / 65536 = ((b0 (gN s.data.toList 4)).toNat : Int)) := Lib.hid (by
        rw [b0, UInt8.toNat_ofNat']; simp at hv ⊢; omega)
      have e1 : Hid ((gN s.data.toList 4 : Int) / 256 % 256 = ((b1 (gN s.data.toList 4)).toNat : Int)) := Lib.hid (by
        rw [b1, UInt8.toNat_ofNat']; simp)
      have e2 : Hid ((gN s.data.toList 4 : Int) % 256 = ((b2 (gN s.data.toList 4)).toNat : Int)) := Lib.hid (by
        rw [b2, UInt8.toNat_ofNat']; simp)
      have hv2 : (gN s.data.toList 4 : Int) < 16777216 := by simp at hv; omega
      clear hv
      go_wp2
      exact bodyPost_ret (v := .agg #[u8V (b0 (gN s.data.toList 4)), u8V (b1 (gN s.data.toList 4)), u8V (b2 (gN s.data.toList 4))]) (by simp [results, Tryd.results91, go_sem, u8V, ← e0.out, ← e1.out, ← e2.out]) rfl ⟨rfl, (Below.refl _ _).alloc (Nat.le_refl _) _⟩

end Go.Proofs.YtcjnigmklijjiaaDoor
