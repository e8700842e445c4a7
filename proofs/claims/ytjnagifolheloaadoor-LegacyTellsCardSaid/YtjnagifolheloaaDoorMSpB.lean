/- The contract of ascii.Split (for a seat on BasP). -/
import Derived.Test.YtjnagifolheloaaDoorMSpA
import Derived.Test.YtjnagifolheloaaDoorMSpV
import Derived.Test.YtjnagifolheloaaDoorMTrmA
import Derived.Test.YtjnagifolheloaaDoorMFldQ

namespace Go.Proofs.YtjnagifolheloaaDoor
open Go.RowKit

def strLen : Value → Nat | .string t => t.size | _ => 0
theorem rest_is (t : ByteArray) (k : Nat) : (t.extract (min ((k : Int) + 1) (t.size : Int)).toNat t.size).data.toList = t.data.toList.drop (k + 1) ∧ ((t.extract (min ((k : Int) + 1) (t.size : Int)).toNat t.size).size + 1 ≤ t.size ∨ t.size = 0) := by
  have e : (min ((k : Int) + 1) (t.size : Int)).toNat = min (k + 1) t.size := by omega
  rw [e]
  have h1 : (t.extract (min (k + 1) t.size) t.size).data.toList = t.data.toList.drop (k + 1) := by
    rw [Lib.extract_to_end]
    by_cases h : k + 1 ≤ t.size
    · rw [Nat.min_eq_left h]
    · rw [Nat.min_eq_right (by omega), List.drop_of_length_le (by rw [← Lib.size_eq]; omega), List.drop_of_length_le (by rw [← Lib.size_eq]; omega)]
  refine ⟨h1, ?_⟩
  rw [Lib.size_eq, h1, List.length_drop, ← Lib.size_eq]
  omega

set_option maxHeartbeats 2000000 in
theorem split_any (s : ByteArray) (w : World) (hs : s.size ≤ 1099511627776) (hT : Tabs w) :
    Calls Tryd.prog 18 #[.string s] w (StrsOut w.heap.size (splitL s.data.toList) w) := by
  have HT := Lib.hid hT
  clear hT
  obtain ⟨i0, hi, hz0, hz1, hz2⟩ := info_parts info_string
  go_enter Tryd.func18, Tryd.ntmps18
  go_wp2
  go_loopw [0, 3] (fun x v wr => ∃ (t : ByteArray) (acc : List (List UInt8)), x = .string t ∧ acc.length + t.size ≤ s.size ∧ Hid (splitL s.data.toList = acc ++ splitL t.data.toList) ∧ wr.ownsRow w.heap.size 9 1 v acc.length (acc.map strV) ∧ Below w.heap.size w wr) (fun x _ _ => strLen x)
  case atStart => exact ⟨s, [], rfl, by simp, Lib.hid rfl, World.ownsRow_nil _ _ _ _, Below.refl _ _⟩
  case round =>
    obtain ⟨t, acc, rfl, hle, H, hown, hb⟩ := hrel
    by_cases hne : 0 < t.size
    · have hemp : t.toList.isEmpty = false := by rw [Lib.toList_data]; exact isEmpty_false_of t hne
      have Hst : Hid (t.data.toList ≠ []) := Lib.hid (fun e => by rw [Lib.toList_data, e] at hemp; simp at hemp)
      have Hstep := Lib.hid (splitL_step t.data.toList Hst.out)
      have hle2 : peL t.data.toList ≤ t.size := by rw [Lib.size_eq]; exact peL_le _
      have cP := partEnd_any t wr (by unfold maxLen; omega)
      have hxs : (t.extract 0 (peL t.data.toList)).size ≤ maxLen := by rw [Lib.size_eq, extract_take, List.length_take]; unfold maxLen; omega
      have cM := trim_any (t.extract 0 (peL t.data.toList)) wr hxs (Utf8Tabs_below HT.out hb)
      clear hxs
      rw [extract_take] at cM
      generalize trimL (t.data.toList.take (peL t.data.toList)) = p at cM Hstep
      generalize peL t.data.toList = k at hle2 cP cM Hstep
      have Hr := Lib.hid (rest_is t k)
      by_cases hp : p = []
      · have Hp := Lib.hid hp
        have hpe : p.isEmpty = true := by rw [hp]; rfl
        clear hp
        go_wp2_with (first | (go_at_call 31; refine cP.mono ?_; rintro e w' ⟨rfl, rfl⟩) | (go_at_call 32; refine cM.mono ?_; rintro e w' ⟨rfl, hb2⟩))
        go_roundw
        case rel =>
          refine ⟨_, acc, rfl, by have := Hr.out.2; omega, Lib.hid ?_, ownsRow_later hown hb2, hb.trans (hb2.mono hb.size)⟩
          rw [H.out, Hstep.out, if_pos Hp.out, List.nil_append, Hr.out.1]
        case measure =>
          have := Hr.out.2
          simp only [strLen]
          omega
      · have Hp := Lib.hid hp
        have hpe : p.isEmpty = false := by rw [List.isEmpty_eq_false_iff]; exact hp
        clear hp
        go_wp2_with (first | (go_at_call 31; refine cP.mono ?_; rintro e w' ⟨rfl, rfl⟩) | (go_at_call 32; refine cM.mono ?_; rintro e w' ⟨rfl, hb2⟩) | (at_builtin; refine wpList_append_own _ rfl _ _ 49 rfl w.heap.size 9 i0 (.string ⟨#[]⟩) 1 16 Tryd.underlying49 hi hz0 hz1 hz2 rfl (by decide) _ _ _ rfl ((ownsRow_later hown hb2).alloc _) ⟨_, 0, none⟩ 1 1 [.string ⟨p.toArray⟩] rfl rfl (cell_one_new _ _ _) (by intro u hu; simp at hu; subst hu; rfl) (by unfold maxLen; omega) (by omega) (by have := hb.size; have := hb2.size; simp; omega) ?_; intro v' w1 hown' hgrow _))
        go_roundw
        case rel =>
          have hz1 := hb.size
          have hz2 := hb2.size
          have hb3 := hb.trans (hb2.mono hb.size)
          refine ⟨_, acc ++ [p], rfl, by have := Hr.out.2; simp; omega, Lib.hid ?_, ?_, ?_⟩
          · rw [H.out, Hstep.out, if_neg Hp.out, Hr.out.1, List.append_assoc]
          · simpa [strV] using hown'
          · exact (hb3.alloc (by omega) _).grown hgrow (by simp; omega) (fun k e => (World.ownsRow.lt hown k e).1)
        case measure =>
          have := Hr.out.2
          simp only [strLen]
          omega
    · have hemp : t.toList.isEmpty = true := by
        have : t.data.toList = [] := List.eq_nil_of_length_eq_zero (by rw [← Lib.size_eq]; omega)
        rw [Lib.toList_data, this]; rfl
      have Hz : Hid (t.data.toList = []) := Lib.hid (List.eq_nil_of_length_eq_zero (by rw [← Lib.size_eq]; omega))
      go_wp2
      go_ret
      refine ⟨_, rfl, ?_, hb⟩
      rw [H.out, Hz.out, splitL_nil, List.append_nil]
      exact hown

end Go.Proofs.YtjnagifolheloaaDoor
