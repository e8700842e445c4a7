/- The contract of bare.Encode. -/
import Derived.Test.YtcjnigmklijjiaaDoorBarC
namespace Go.Proofs.YtcjnigmklijjiaaDoor
open Go.RowKit

def c0 (x y z : UInt8) : UInt8 := alp ((65536 * x.toNat + 256 * y.toNat + z.toNat) / 262144)
def c1 (x y z : UInt8) : UInt8 := alp ((65536 * x.toNat + 256 * y.toNat + z.toNat) / 4096 % 64)
def c2 (x y z : UInt8) : UInt8 := alp ((65536 * x.toNat + 256 * y.toNat + z.toNat) / 64 % 64)
def c3 (x y z : UInt8) : UInt8 := alp ((65536 * x.toNat + 256 * y.toNat + z.toNat) % 64)

/-- The base64 encoding. -/
def encL : List UInt8 → List UInt8
  | x :: y :: z :: r => c0 x y z :: c1 x y z :: c2 x y z :: c3 x y z :: encL r
  | [x, y] => [c0 x y 0, c1 x y 0, c2 x y 0, 61]
  | [x] => [c0 x 0 0, c1 x 0 0, 61, 61]
  | [] => []

theorem characters_is (x y z a b c d : UInt8) (w : World) (hA : Alph w) (ha : c0 x y z = a) (hb : c1 x y z = b) (hc : c2 x y z = c) (hd : c3 x y z = d) :
    Calls Tryd.prog 47 #[.agg #[.int .u8 x.toNat, .int .u8 y.toNat, .int .u8 z.toNat]] w fun e w' => e = .returned (.agg #[.int .u8 a.toNat, .int .u8 b.toNat, .int .u8 c.toNat, .int .u8 d.toNat]) ∧ Below w.heap.size w w' := by
  subst ha hb hc hd
  exact characters_any x y z w hA

theorem info_u8 : (Tryd.prog.info? 5).map (fun i => (i.zero, i.size, i.bytes)) = some (some (.int .u8 0), 1, 1) := by kernel_rfl
theorem size_u8 : (Tryd.prog.info? 5).map (·.size) = some 1 := by kernel_rfl

def strLen : Value → Nat | .string t => t.size | _ => 0

theorem cells_new (W : World) (l : List Value) (t : TypeId) : ∀ (j : Nat) u, l[j]? = some u → (W.alloc (.cells l.toArray t)).cell? ((⟨W.heap.size, 0, none⟩ : Addr).add j) = some u := by
  intro j u h
  rw [add_none]
  simp [h]

set_option maxRecDepth 100000 in
set_option maxHeartbeats 4000000 in
theorem encode_any (s : ByteArray) (w : World) (hs : s.size ≤ 1000000) (hA : Alph w) :
    Calls Tryd.prog 28 #[.string s] w fun e w' => e = .returned (.string (strB (encL s.data.toList))) ∧ Below w.heap.size w w' := by
  have HA := Lib.hid hA
  clear hA
  obtain ⟨i0, hi, hz0, hz1, hz2⟩ := info_parts info_u8
  have Hz := Lib.hid size_u8
  go_enter Tryd.func28, Tryd.ntmps28
  go_wp2
  go_loopw [0, 3] (fun x v wr => ∃ (t : ByteArray) (acc : List UInt8), x = .string t ∧ acc.length + 4 * t.size ≤ 4 * s.size ∧ Hid (encL s.data.toList = acc ++ encL t.data.toList) ∧ wr.ownsRow w.heap.size 5 1 v acc.length (acc.map u8V) ∧ Below w.heap.size w wr) (fun x _ _ => strLen x)
  case atStart => exact ⟨s, [], rfl, by simp, Lib.hid rfl, World.ownsRow_nil _ _ _ _, Below.refl _ _⟩
  case round =>
    obtain ⟨t, acc, rfl, hle, H, hown, hb⟩ := hrel
    have HAr : Hid (Alph wr) := Lib.hid (HA.out.below hb)
    obtain ⟨p, hp⟩ : ∃ p, t.data.toList = p := ⟨_, rfl⟩
    have htl := Lib.size_eq t
    rw [hp] at htl
    rcases p with _ | ⟨x, _ | ⟨y, _ | ⟨z, r⟩⟩⟩
    · have Ht := Lib.hid hp
      have hemp : t.toList.isEmpty = true := by rw [Lib.toList_data, hp]; rfl
      clear hp htl
      have hcv := run_owned_str (P := Tryd.prog) Tryd.underlying59 Tryd.underlying5 Tryd.underlying9 hown
      go_wp2
      go_ret
      exact ⟨by rw [H.out, Ht.out, encL, List.append_nil]; rfl, hb⟩
    · have Ht := Lib.hid hp
      simp only [List.length_cons, List.length_nil] at htl
      have hlen : 1 ≤ t.size := by omega
      have hemp : t.toList.isEmpty = false := by rw [Lib.toList_data, hp]; rfl
      have Htl := Lib.hid htl
      clear hp htl
      obtain ⟨a, ha⟩ : ∃ a, c0 x 0 0 = a := ⟨_, rfl⟩
      obtain ⟨b, hb'⟩ : ∃ a, c1 x 0 0 = a := ⟨_, rfl⟩
      obtain ⟨c, hc⟩ : ∃ a, c2 x 0 0 = a := ⟨_, rfl⟩
      obtain ⟨d, hd⟩ : ∃ a, c3 x 0 0 = a := ⟨_, rfl⟩
      have cC := fun W hW => characters_is x 0 0 a b c d W hW ha hb' hc hd
      have Hstep : Hid (encL t.data.toList = [a, b, 61, 61] ++ encL ([] : List UInt8)) := Lib.hid (by rw [Ht.out, encL]; simp only [ha, hb', encL, List.cons_append, List.nil_append])
      have Hrest : Hid ((t.extract 1 t.size).data.toList = ([] : List UInt8)) := Lib.hid (by rw [Lib.extract_to_end, Ht.out]; rfl)
      clear ha hb' hc hd
      have hcp := run_copy_str (P := Tryd.prog) wr 59 9 3 5 0 3 3 t #[.int .u8 0, .int .u8 0, .int .u8 0] #[.int .u8 (x.toNat : Int), .int .u8 0, .int .u8 0] 90 Tryd.underlying59 Hz.out 1 (by have := Htl.out; show min _ _ = _; omega) (by simp) (by rw [Ht.out]; rfl)
      go_wp2_with fail
      refine (cC _ (HAr.out.below ((Below.refl _ _).alloc (Nat.le_refl _) _))).mono ?_
      rintro e w1 ⟨rfl, hb1⟩
      clear hcp cC
      have hb1' : Below wr.heap.size wr w1 := ((Below.refl _ _).alloc (Nat.le_refl _) _).trans (hb1.mono (by simp))
      clear hb1
      have hcp2 := run_copy_str (P := Tryd.prog) w1 59 9 3 5 2 2 2 ⟨#[61, 61]⟩ #[.int .u8 (a.toNat : Int), .int .u8 (b.toNat : Int), .int .u8 (c.toNat : Int), .int .u8 (d.toNat : Int)] #[.int .u8 (a.toNat : Int), .int .u8 (b.toNat : Int), .int .u8 61, .int .u8 61] 91 Tryd.underlying59 Hz.out 2 rfl (by simp) rfl
      go_wp2_with (at_builtin; refine wpList_append_own _ rfl _ _ 59 rfl w.heap.size 5 i0 (.int .u8 0) 1 1 Tryd.underlying59 hi hz0 hz1 hz2 rfl (by decide) _ _ _ rfl ((ownsRow_later hown hb1').alloc _) ⟨_, 0, none⟩ 4 4 [.int .u8 (a.toNat : Int), .int .u8 (b.toNat : Int), .int .u8 61, .int .u8 61] rfl rfl (cells_new _ _ _) (by simp [Value.oneCell']) (by unfold maxLen; omega) (by omega) (by have := hb.size; have := hb1'.size; simp; omega) ?_; intro v' w2 hown' hgrow _)
      clear hcp2
      go_roundw
      case rel =>
        have hz3 := hb.size
        have hz4 := hb1'.size
        have hb3 := hb.trans (hb1'.mono hb.size)
        have hsz : (t.extract 1 t.size).size + 1 = t.size := by rw [Lib.size_eq, Hrest.out, Htl.out]; rfl
        refine ⟨_, acc ++ [a, b, 61, 61], rfl, by simp only [List.length_append, List.length_cons, List.length_nil]; omega, Lib.hid ?_, ?_, ?_⟩
        · rw [H.out, Hstep.out, Hrest.out, List.append_assoc]
        · simpa [u8V] using hown'
        · exact (hb3.alloc (by omega) _).grown hgrow (by simp; omega) (fun k e => (World.ownsRow.lt hown k e).1)
      case measure =>
        have hsz : (t.extract 1 t.size).size + 1 = t.size := by rw [Lib.size_eq, Hrest.out, Htl.out]; rfl
        simp only [strLen]
        omega
    · have Ht := Lib.hid hp
      simp only [List.length_cons, List.length_nil] at htl
      have hlen : 2 ≤ t.size := by omega
      have hemp : t.toList.isEmpty = false := by rw [Lib.toList_data, hp]; rfl
      have Htl := Lib.hid htl
      clear hp htl
      obtain ⟨a, ha⟩ : ∃ a, c0 x y 0 = a := ⟨_, rfl⟩
      obtain ⟨b, hb'⟩ : ∃ a, c1 x y 0 = a := ⟨_, rfl⟩
      obtain ⟨c, hc⟩ : ∃ a, c2 x y 0 = a := ⟨_, rfl⟩
      obtain ⟨d, hd⟩ : ∃ a, c3 x y 0 = a := ⟨_, rfl⟩
      have cC := fun W hW => characters_is x y 0 a b c d W hW ha hb' hc hd
      have Hstep : Hid (encL t.data.toList = [a, b, c, 61] ++ encL ([] : List UInt8)) := Lib.hid (by rw [Ht.out, encL]; simp only [ha, hb', hc, encL, List.cons_append, List.nil_append])
      have Hrest : Hid ((t.extract 2 t.size).data.toList = ([] : List UInt8)) := Lib.hid (by rw [Lib.extract_to_end, Ht.out]; rfl)
      clear ha hb' hc hd
      have hcp := run_copy_str (P := Tryd.prog) wr 59 9 3 5 0 3 3 t #[.int .u8 0, .int .u8 0, .int .u8 0] #[.int .u8 (x.toNat : Int), .int .u8 (y.toNat : Int), .int .u8 0] 90 Tryd.underlying59 Hz.out 2 (by have := Htl.out; show min _ _ = _; omega) (by simp) (by rw [Ht.out]; rfl)
      go_wp2_with fail
      refine (cC _ (HAr.out.below ((Below.refl _ _).alloc (Nat.le_refl _) _))).mono ?_
      rintro e w1 ⟨rfl, hb1⟩
      clear hcp cC
      have hb1' : Below wr.heap.size wr w1 := ((Below.refl _ _).alloc (Nat.le_refl _) _).trans (hb1.mono (by simp))
      clear hb1
      have hcp2 := run_copy_str (P := Tryd.prog) w1 59 9 3 5 3 1 1 ⟨#[61, 61]⟩ #[.int .u8 (a.toNat : Int), .int .u8 (b.toNat : Int), .int .u8 (c.toNat : Int), .int .u8 (d.toNat : Int)] #[.int .u8 (a.toNat : Int), .int .u8 (b.toNat : Int), .int .u8 (c.toNat : Int), .int .u8 61] 91 Tryd.underlying59 Hz.out 1 rfl (by simp) rfl
      go_wp2_with (at_builtin; refine wpList_append_own _ rfl _ _ 59 rfl w.heap.size 5 i0 (.int .u8 0) 1 1 Tryd.underlying59 hi hz0 hz1 hz2 rfl (by decide) _ _ _ rfl ((ownsRow_later hown hb1').alloc _) ⟨_, 0, none⟩ 4 4 [.int .u8 (a.toNat : Int), .int .u8 (b.toNat : Int), .int .u8 (c.toNat : Int), .int .u8 61] rfl rfl (cells_new _ _ _) (by simp [Value.oneCell']) (by unfold maxLen; omega) (by omega) (by have := hb.size; have := hb1'.size; simp; omega) ?_; intro v' w2 hown' hgrow _)
      clear hcp2
      go_roundw
      case rel =>
        have hz3 := hb.size
        have hz4 := hb1'.size
        have hb3 := hb.trans (hb1'.mono hb.size)
        have hsz : (t.extract 2 t.size).size + 2 = t.size := by rw [Lib.size_eq, Hrest.out, Htl.out]; rfl
        refine ⟨_, acc ++ [a, b, c, 61], rfl, by simp only [List.length_append, List.length_cons, List.length_nil]; omega, Lib.hid ?_, ?_, ?_⟩
        · rw [H.out, Hstep.out, Hrest.out, List.append_assoc]
        · simpa [u8V] using hown'
        · exact (hb3.alloc (by omega) _).grown hgrow (by simp; omega) (fun k e => (World.ownsRow.lt hown k e).1)
      case measure =>
        have hsz : (t.extract 2 t.size).size + 2 = t.size := by rw [Lib.size_eq, Hrest.out, Htl.out]; rfl
        simp only [strLen]
        omega
    · have Ht := Lib.hid hp
      simp only [List.length_cons] at htl
      have hlen : 3 ≤ t.size := by omega
      have hemp : t.toList.isEmpty = false := by rw [Lib.toList_data, hp]; rfl
      have Htl := Lib.hid htl
      clear hp htl
      obtain ⟨a, ha⟩ : ∃ a, c0 x y z = a := ⟨_, rfl⟩
      obtain ⟨b, hb'⟩ : ∃ a, c1 x y z = a := ⟨_, rfl⟩
      obtain ⟨c, hc⟩ : ∃ a, c2 x y z = a := ⟨_, rfl⟩
      obtain ⟨d, hd⟩ : ∃ a, c3 x y z = a := ⟨_, rfl⟩
      have cC := fun W hW => characters_is x y z a b c d W hW ha hb' hc hd
      have Hstep : Hid (encL t.data.toList = [a, b, c, d] ++ encL r) := Lib.hid (by rw [Ht.out, encL]; simp only [ha, hb', hc, hd, List.cons_append, List.nil_append])
      have Hrest : Hid ((t.extract 3 t.size).data.toList = r) := Lib.hid (by rw [Lib.extract_to_end, Ht.out]; rfl)
      clear ha hb' hc hd
      have hcp := run_copy_str (P := Tryd.prog) wr 59 9 3 5 0 3 3 t #[.int .u8 0, .int .u8 0, .int .u8 0] #[.int .u8 (x.toNat : Int), .int .u8 (y.toNat : Int), .int .u8 (z.toNat : Int)] 90 Tryd.underlying59 Hz.out 3 (Nat.min_eq_right hlen) (by simp) (by rw [Ht.out]; rfl)
      go_wp2_with fail
      refine (cC _ (HAr.out.below ((Below.refl _ _).alloc (Nat.le_refl _) _))).mono ?_
      rintro e w1 ⟨rfl, hb1⟩
      clear hcp cC
      have hb1' : Below wr.heap.size wr w1 := ((Below.refl _ _).alloc (Nat.le_refl _) _).trans (hb1.mono (by simp))
      clear hb1
      have hcp2 := run_copy_str (P := Tryd.prog) w1 59 9 3 5 0 0 0 ⟨#[61, 61]⟩ #[.int .u8 (a.toNat : Int), .int .u8 (b.toNat : Int), .int .u8 (c.toNat : Int), .int .u8 (d.toNat : Int)] #[.int .u8 (a.toNat : Int), .int .u8 (b.toNat : Int), .int .u8 (c.toNat : Int), .int .u8 (d.toNat : Int)] 91 Tryd.underlying59 Hz.out 0 rfl (by simp) rfl
      go_wp2_with (at_builtin; refine wpList_append_own _ rfl _ _ 59 rfl w.heap.size 5 i0 (.int .u8 0) 1 1 Tryd.underlying59 hi hz0 hz1 hz2 rfl (by decide) _ _ _ rfl ((ownsRow_later hown hb1').alloc _) ⟨_, 0, none⟩ 4 4 [.int .u8 (a.toNat : Int), .int .u8 (b.toNat : Int), .int .u8 (c.toNat : Int), .int .u8 (d.toNat : Int)] rfl rfl (cells_new _ _ _) (by simp [Value.oneCell']) (by unfold maxLen; omega) (by omega) (by have := hb.size; have := hb1'.size; simp; omega) ?_; intro v' w2 hown' hgrow _)
      clear hcp2
      go_roundw
      case rel =>
        have hz3 := hb.size
        have hz4 := hb1'.size
        have hb3 := hb.trans (hb1'.mono hb.size)
        have hsz : (t.extract 3 t.size).size + 3 = t.size := by rw [Lib.size_eq, Hrest.out, Htl.out]
        refine ⟨_, acc ++ [a, b, c, d], rfl, by simp only [List.length_append, List.length_cons, List.length_nil]; omega, Lib.hid ?_, ?_, ?_⟩
        · rw [H.out, Hstep.out, Hrest.out, List.append_assoc]
        · simpa [u8V] using hown'
        · exact (hb3.alloc (by omega) _).grown hgrow (by simp; omega) (fun k e => (World.ownsRow.lt hown k e).1)
      case measure =>
        have hsz : (t.extract 3 t.size).size + 3 = t.size := by rw [Lib.size_eq, Hrest.out, Htl.out]
        simp only [strLen]
        omega

end Go.Proofs.YtcjnigmklijjiaaDoor
