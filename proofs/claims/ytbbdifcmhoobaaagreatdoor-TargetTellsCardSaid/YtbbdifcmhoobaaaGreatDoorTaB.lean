/- The contract of package target's signOf. -/
import Derived.Test.YtbbdifcmhoobaaaGreatDoorTaA
import Derived.Test.YtbbdifcmhoobaaaGreatDoorChU
import Derived.Laws.BitsLemmas
namespace Go.Proofs.YtbbdifcmhoobaaaGreatDoor
open Go.RowKit Go.Shelf Go.Lib

theorem hexD_hx (c : UInt8) : hexD c = if hxN c < 16 then some (hxN c) else none := by
  have : ∀ y : Fin 256, hexD y.val.toUInt8 = if hxN y.val.toUInt8 < 16 then some (hxN y.val.toUInt8) else none := by decide +kernel
  have h5 := this ⟨c.toNat, c.toNat_lt⟩
  simpa using h5
theorem par16_two (a b : UInt8) : par16 0 [a, b] = if hxN a < 16 ∧ hxN b < 16 then .ok (16 * hxN a + hxN b) else .error true := by
  rw [par16, hexD_hx]
  by_cases ha : hxN a < 16
  · rw [if_pos ha]
    dsimp only
    rw [if_neg (by decide), par16, hexD_hx]
    by_cases hb : hxN b < 16
    · rw [if_pos hb, if_pos ⟨ha, hb⟩]
      dsimp only
      rw [if_neg (by omega), par16]
      congr 1
      omega
    · rw [if_neg hb, if_neg (fun h => hb h.2)]
  · rw [if_neg ha, if_neg (fun h => ha h.1)]

/-- What signOf tells. -/
def sgnV (l : List UInt8) : Value := if hx2 l = true then .tuple #[.string (strB (pctU (l.getD 0 0) (l.getD 1 0))), .bool true] else .tuple #[.string ⟨#[]⟩, .bool false]
def sgnPost (v : Value) (w : World) (e : Ending) (w' : World) : Prop := e = .returned v ∧ Below w.heap.size w w'

theorem encode_small (n : Nat) (h : n < 128) : Utf8.encode (n : Int) = strB [UInt8.ofNat n] := by
  have : ∀ i : Fin 128, Utf8.encode (i.val : Int) = strB [UInt8.ofNat i.val] := by decide
  exact this ⟨n, h⟩

set_option maxHeartbeats 2000000 in
set_option maxRecDepth 100000 in
theorem signOf_any (s : ByteArray) (w : World) (hs : s.size ≤ 100000) (hE : Errs w) :
    Calls Tryz.prog 22 #[.string s] w (sgnPost (sgnV s.data.toList) w) := by
  by_cases h2 : s.size < 2
  · have hv : sgnV s.data.toList = .tuple #[.string ⟨#[]⟩, .bool false] := by
      rw [sgnV, if_neg]
      intro h
      simp only [hx2, Bool.and_eq_true, decide_eq_true_eq] at h
      rw [← Lib.size_eq] at h
      omega
    rw [hv]
    have hlt : decide ((s.size : Int) < 2) = true := decide_eq_true (by omega)
    go_enter Tryz.func22, Tryz.ntmps22
    go_wp2
    exact bodyPost_ret (v := .tuple #[.string ⟨#[]⟩, .bool false]) (by simp [results, Tryz.results22, go_sem]) rfl ⟨rfl, Below.refl _ _⟩
  · have hl : 2 ≤ s.data.toList.length := by rw [← Lib.size_eq]; omega
    obtain ⟨a, b, r, hab⟩ : ∃ a b r, s.data.toList = a :: b :: r := by
      match h : s.data.toList, hl with
      | a :: b :: r, _ => exact ⟨a, b, r, rfl⟩
      | [_], hl => simp at hl
      | [], hl => simp at hl
    obtain ⟨D, hD⟩ : ∃ D, s.extract 0 2 = D := ⟨_, rfl⟩
    have hDd : D.data.toList = [a, b] := by rw [← hD, extract_take, hab]; rfl
    have hDz : D.size = 2 := by rw [Lib.size_eq, hDd]; rfl
    have cP := pint8_any D hDz w hE
    rw [hDd, par16_two] at cP
    have hge : ¬ (s.size : Int) < 2 := by omega
    have hge2 : (2 : Int) ≤ (s.size : Int) := by omega
    have hge3 : 2 ≤ s.size := by omega
    have hx : hx2 s.data.toList = (decide (hxN a < 16) && decide (hxN b < 16)) := by
      rw [hx2, hab]
      simp
    by_cases hh : hxN a < 16 ∧ hxN b < 16
    · rw [if_pos hh] at cP
      have hv : sgnV s.data.toList = .tuple #[.string (strB (pctU a b)), .bool true] := by
        rw [sgnV, hx, if_pos (by simp [hh.1, hh.2]), hab]
        rfl
      rw [hv]
      have hn : 16 * hxN a + hxN b < 256 := by omega
      obtain ⟨n, hnn⟩ : ∃ n, 16 * hxN a + hxN b = n := ⟨_, rfl⟩
      have hwr : IntKind.u8.wrap (n : Int) = (((UInt8.ofNat n).toNat : Nat) : Int) := by
        rw [IntKind.wrap_u8, UInt8.toNat_ofNat']
        omega
      have hwr2 : ((n : Int) % 256) = (((UInt8.ofNat n).toNat : Nat) : Int) := by
        rw [UInt8.toNat_ofNat']
        omega
      have cU := fun W => isUnreserved_any (UInt8.ofNat n) W
      rw [hnn] at cP
      cases hp : plnB (UInt8.ofNat n)
      · rw [hp] at cU
        have HV : Hid (pctU a b = [37, hxU (hxN a), hxU (hxN b)]) := Lib.hid (by rw [pctU, hnn, hp, if_neg (by decide)])
        have cT := fun W => Tryz.strings_ToUpper_ascii D W (by omega) (by
          rw [hDd]
          intro j c hj
          match j, hj with
          | 0, hj => obtain rfl := Option.some.inj hj; exact hxN_ascii _ hh.1
          | 1, hj => obtain rfl := Option.some.inj hj; exact hxN_ascii _ hh.2)
        have hup : Lib.toUpperA D.data.toList = [hxU (hxN a), hxU (hxN b)] := by
          rw [hDd, Lib.toUpperA, List.map_cons, List.map_cons, List.map_nil, up_hex a hh.1, up_hex b hh.2]
        rw [hup] at cT
        have Hfin : Hid ((⟨#[37]⟩ : ByteArray) ++ ⟨[hxU (hxN a), hxU (hxN b)].toArray⟩ = strB (pctU a b)) := Lib.hid (by rw [HV.out]; exact strB_append [37] [hxU (hxN a), hxU (hxN b)])
        clear hup hp hab hx hh hn hnn hDd
        generalize hxU (hxN a) = A1 at *
        generalize hxU (hxN b) = B1 at *
        generalize UInt8.ofNat n = cN at *
        go_enter Tryz.func22, Tryz.ntmps22
        go_wp2_with (first | (go_at_call 37; refine cP.mono ?_; rintro e w1 ⟨hb1, rfl⟩) | (go_at_call 38; refine (cU _).mono ?_; rintro e w2 ⟨rfl, rfl⟩) | (go_at_call 39; refine (cT _).mono ?_; rintro e w3 ⟨rfl, hb3⟩))
        refine bodyPost_ret (v := .tuple #[.string (strB (pctU a b)), .bool true]) ?_ rfl ⟨rfl, hb1.trans (hb3.mono hb1.size)⟩
        rw [← Hfin.out]
        simp [results, Tryz.results22, go_sem]
      · rw [hp] at cU
        have HV : Hid (pctU a b = [UInt8.ofNat n]) := Lib.hid (by rw [pctU, hnn, hp, if_pos rfl])
        have h128 : n < 128 := by
          have := pln_ascii _ hp
          rw [UInt8.toNat_ofNat'] at this
          omega
        have Henc : Hid (Utf8.encode (n : Int) = strB (pctU a b)) := Lib.hid (by rw [HV.out]; exact encode_small n h128)
        have hw32 : IntKind.i32.wrap (n : Int) = (n : Int) := by rw [IntKind.wrap_i32]; omega
        clear hp hab hx hh hn hnn hDd
        generalize UInt8.ofNat n = cN at *
        go_enter Tryz.func22, Tryz.ntmps22
        go_wp2_with (first | (go_at_call 37; refine cP.mono ?_; rintro e w1 ⟨hb1, rfl⟩) | (go_at_call 38; refine (cU _).mono ?_; rintro e w2 ⟨rfl, rfl⟩))
        refine bodyPost_ret (v := .tuple #[.string (strB (pctU a b)), .bool true]) ?_ rfl ⟨rfl, hb1⟩
        rw [← Henc.out]
        simp [results, Tryz.results22, go_sem]
    · rw [if_neg hh] at cP
      have hv : sgnV s.data.toList = .tuple #[.string ⟨#[]⟩, .bool false] := by
        rw [sgnV, hx, if_neg (by simp only [Bool.and_eq_true, decide_eq_true_eq]; exact hh)]
      rw [hv]
      clear hab hx hh hDd
      go_enter Tryz.func22, Tryz.ntmps22
      go_wp2_with (go_at_call 37; refine cP.mono ?_; rintro e w1 ⟨hb1, x, N1, rfl⟩)
      exact bodyPost_ret (v := .tuple #[.string ⟨#[]⟩, .bool false]) (by simp [results, Tryz.results22, go_sem]) rfl ⟨rfl, hb1⟩

end Go.Proofs.YtbbdifcmhoobaaaGreatDoor
