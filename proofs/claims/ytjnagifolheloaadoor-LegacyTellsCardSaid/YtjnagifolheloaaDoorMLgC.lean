/- The contract of legacy.directive. -/
import Derived.Test.YtjnagifolheloaaDoorMLgA
import Derived.Test.YtjnagifolheloaaDoorMLowA
import Derived.Test.YtjnagifolheloaaDoorMCutP
import Derived.Test.YtjnagifolheloaaDoorMDirP

namespace Go.Proofs.YtjnagifolheloaaDoor
open Go.RowKit Go.Lib

/-- What directive answers: a directive where there is one. -/
def dirPost (o : Option Dir) (w : World) (e : Ending) (w' : World) : Prop := (∃ N V H, e = .returned (.tuple #[.agg #[.string (strB N), .string (strB V), .bool H], .bool o.isSome]) ∧ ∀ d, o = some d → d = (N, V, H)) ∧ Below w.heap.size w w'
theorem oneL_val (s : List UInt8) : oneL s = if Lib.indexByte s 61 = -1 then (if tokL s = true then some (lowL s, [], false) else none)
    else if tokL (s.take (Lib.indexByte s 61).toNat) = true then (valL (s.drop ((Lib.indexByte s 61).toNat + 1))).map fun t => (lowL (s.take (Lib.indexByte s 61).toNat), t, true) else none := by
  rw [oneL, valL]
  split
  · rfl
  · split
    · split
      · rfl
      · rfl
    · rfl

set_option maxRecDepth 100000 in
set_option maxHeartbeats 4000000 in
/-- The name is none. -/
theorem directive_bad (s : ByteArray) (n v : List UInt8) (h : Bool) (w : World) (hn : n.length ≤ 100000) (ht : tokL n = false)
    (cC : ∀ W, Calls Tryd.prog 33 #[.string s, .string ⟨#[61]⟩] W (cutPost (.tuple #[.string (strB n), .string (strB v), .bool h]) W)) :
    Calls Tryd.prog 19 #[.string s] w (dirPost none w) := by
  have cT := fun W => token_any (strB n) W (by rw [strB_size]; unfold maxLen; omega)
  rw [strB_data, ht] at cT
  have HB0 := Lib.hid (BoxD.made w (.string ⟨#[]⟩) (.string ⟨#[]⟩) (.bool false) 43)
  have HB1 := Lib.hid ((Below.refl w.heap.size w).alloc (Nat.le_refl _) (.cells #[.string ⟨#[]⟩, .string ⟨#[]⟩, .bool false] 43))
  clear ht hn
  generalize strB n = SN at *
  generalize strB v = SV at *
  go_enter Tryd.func19, Tryd.ntmps19
  go_wp2_with (first | (go_at_call 33; refine (cC _).mono ?_; rintro e w2 ⟨rfl, hb2⟩; have HB2 := Lib.hid (HB0.out.next hb2); have HX2 := Lib.hid (HB1.out.trans (hb2.mono HB1.out.size)); obtain ⟨r0, r1, r2, g0, g1, g2⟩ := HB0.out.next hb2) | (go_at_call 34; refine (cT _).mono ?_; rintro e w3 ⟨rfl, rfl⟩))
  obtain ⟨p0, p1, p2, _, _, _⟩ := HB2.out.put (.string ⟨#[]⟩) (.string ⟨#[]⟩) (.bool false)
  have HX := Lib.hid (below_put HX2.out (Nat.le_refl w.heap.size) (.string ⟨#[]⟩) (.string ⟨#[]⟩) (.bool false))
  generalize ((w2.setCell ⟨w.heap.size, 0, none⟩ (.string ⟨#[]⟩)).setCell ⟨w.heap.size, 1, none⟩ (.string ⟨#[]⟩)).setCell ⟨w.heap.size, 2, none⟩ (.bool false) = W9 at *
  refine bodyPost_ret (v := .tuple #[.agg #[.string ⟨#[]⟩, .string ⟨#[]⟩, .bool false], .bool false]) (by simp [results, Tryd.results19, go_sem, p0, p1, p2]) rfl ⟨⟨[], [], false, rfl, fun d hd => by cases hd⟩, HX.out⟩

set_option maxRecDepth 100000 in
set_option maxHeartbeats 4000000 in
/-- A name alone. -/
theorem directive_name (s : ByteArray) (n v : List UInt8) (w : World) (hn : n.length ≤ 100000) (ht : tokL n = true)
    (cC : ∀ W, Calls Tryd.prog 33 #[.string s, .string ⟨#[61]⟩] W (cutPost (.tuple #[.string (strB n), .string (strB v), .bool false]) W)) :
    Calls Tryd.prog 19 #[.string s] w (dirPost (some (lowL n, [], false)) w) := by
  have cT := fun W => token_any (strB n) W (by rw [strB_size]; unfold maxLen; omega)
  have cL := fun W => lower_any (strB n) W (by rw [strB_size]; unfold maxLen; omega)
  rw [strB_data, ht] at cT
  rw [strB_data] at cL
  have HB0 := Lib.hid (BoxD.made w (.string ⟨#[]⟩) (.string ⟨#[]⟩) (.bool false) 43)
  have HB1 := Lib.hid ((Below.refl w.heap.size w).alloc (Nat.le_refl _) (.cells #[.string ⟨#[]⟩, .string ⟨#[]⟩, .bool false] 43))
  have HZ1 := Lib.hid (show w.heap.size + 1 = (w.alloc (.cells #[.string ⟨#[]⟩, .string ⟨#[]⟩, .bool false] 43)).heap.size by simp)
  clear ht hn
  generalize strB n = SN at *
  generalize strB v = SV at *
  generalize lowL n = LN at *
  go_enter Tryd.func19, Tryd.ntmps19
  go_wp2_with (first | (go_at_call 33; refine (cC _).mono ?_; rintro e w2 ⟨rfl, hb2⟩; have HB2 := Lib.hid (HB0.out.next hb2); have HX2 := Lib.hid (HB1.out.trans (hb2.mono HB1.out.size)); have HZ2 := Lib.hid (Nat.le_trans (Nat.le_of_eq HZ1.out) hb2.size); clear hb2) | (go_at_call 34; refine (cT _).mono ?_; rintro e w3 ⟨rfl, rfl⟩) | (go_at_call 35; refine (cL _).mono ?_; rintro e w4 ⟨rfl, hb4⟩; have HB4 := Lib.hid (HB2.out.next hb4); have HX4 := Lib.hid (HX2.out.trans (hb4.mono HX2.out.size)); have hlt4 : w.heap.size < w4.heap.size := Nat.lt_of_lt_of_le HZ2.out hb4.size; obtain ⟨r0, r1, r2, g0, g1, g2⟩ := HB2.out.next hb4; clear hb4))
  obtain ⟨p0, p1, p2, _, _, _⟩ := (HB4.out.put (.string ⟨LN.toArray⟩) (.string ⟨#[]⟩) (.bool false)).next ((Below.refl _ _).alloc (Nat.le_refl _) (.cells #[.string ⟨LN.toArray⟩, .string ⟨#[]⟩, .bool false] 43))
  have hx := below_put HX4.out (Nat.le_refl w.heap.size) (.string ⟨LN.toArray⟩) (.string ⟨#[]⟩) (.bool false)
  have HX := Lib.hid (hx.alloc hx.size (.cells #[.string ⟨LN.toArray⟩, .string ⟨#[]⟩, .bool false] 43))
  clear hx
  generalize (((w4.setCell ⟨w.heap.size, 0, none⟩ (.string ⟨LN.toArray⟩)).setCell ⟨w.heap.size, 1, none⟩ (.string ⟨#[]⟩)).setCell ⟨w.heap.size, 2, none⟩ (.bool false)).alloc (.cells #[.string ⟨LN.toArray⟩, .string ⟨#[]⟩, .bool false] 43) = W9 at *
  refine bodyPost_ret (v := .tuple #[.agg #[.string ⟨LN.toArray⟩, .string ⟨#[]⟩, .bool false], .bool true]) (by simp [results, Tryd.results19, go_sem, p0, p1, p2]) rfl ⟨⟨LN, [], false, rfl, fun d hd => (Option.some.inj hd).symm⟩, HX.out⟩

set_option maxRecDepth 100000 in
set_option maxHeartbeats 4000000 in
/-- A name and something behind it that is no value. -/
theorem directive_none (s : ByteArray) (n v : List UInt8) (w : World) (hn : n.length ≤ 100000) (hv : v.length ≤ 100000) (ht : tokL n = true) (hl : valL v = none)
    (cC : ∀ W, Calls Tryd.prog 33 #[.string s, .string ⟨#[61]⟩] W (cutPost (.tuple #[.string (strB n), .string (strB v), .bool true]) W)) :
    Calls Tryd.prog 19 #[.string s] w (dirPost none w) := by
  have cT := fun W => token_any (strB n) W (by rw [strB_size]; unfold maxLen; omega)
  have cL := fun W => lower_any (strB n) W (by rw [strB_size]; unfold maxLen; omega)
  have cV : ∀ W, Calls Tryd.prog 36 #[.string (strB v)] W (fun e w' => (∃ X, e = .returned (.tuple #[.string X, .bool false])) ∧ Below W.heap.size W w') := fun W => (value_any (strB v) W (by rw [strB_size]; exact hv)).mono fun e w' h => by
    rw [strB_data, hl] at h
    exact ⟨⟨h.1.choose, h.1.choose_spec.1⟩, h.2⟩
  rw [strB_data, ht] at cT
  rw [strB_data] at cL
  have HB0 := Lib.hid (BoxD.made w (.string ⟨#[]⟩) (.string ⟨#[]⟩) (.bool false) 43)
  have HB1 := Lib.hid ((Below.refl w.heap.size w).alloc (Nat.le_refl _) (.cells #[.string ⟨#[]⟩, .string ⟨#[]⟩, .bool false] 43))
  clear ht hn hl hv
  generalize strB n = SN at *
  generalize strB v = SV at *
  generalize lowL n = LN at *
  go_enter Tryd.func19, Tryd.ntmps19
  go_wp2_with (first | (go_at_call 33; refine (cC _).mono ?_; rintro e w2 ⟨rfl, hb2⟩; have HB2 := Lib.hid (HB0.out.next hb2); have HX2 := Lib.hid (HB1.out.trans (hb2.mono HB1.out.size)); clear hb2) | (go_at_call 34; refine (cT _).mono ?_; rintro e w3 ⟨rfl, rfl⟩) | (go_at_call 35; refine (cL _).mono ?_; rintro e w4 ⟨rfl, hb4⟩; have HB4 := Lib.hid ((HB2.out.next hb4).next ((Below.refl _ _).alloc (Nat.le_refl _) (.cells #[.string ⟨LN.toArray⟩, .string ⟨#[]⟩, .bool true] 43))); have HX4 := Lib.hid ((HX2.out.trans (hb4.mono HX2.out.size)).alloc (HX2.out.trans (hb4.mono HX2.out.size)).size (.cells #[.string ⟨LN.toArray⟩, .string ⟨#[]⟩, .bool true] 43)); clear hb4) | (go_at_call 36; refine (cV _).mono ?_; rintro e w5 ⟨⟨X, rfl⟩, hb5⟩; have HB5 := Lib.hid (HB4.out.next hb5); have HX5 := Lib.hid (HX4.out.trans (hb5.mono HX4.out.size)); obtain ⟨r0, r1, r2, g0, g1, g2⟩ := HB4.out.next hb5; clear hb5))
  obtain ⟨p0, p1, p2, _, _, _⟩ := HB5.out.put (.string ⟨#[]⟩) (.string ⟨#[]⟩) (.bool false)
  have HX := Lib.hid (below_put HX5.out (Nat.le_refl w.heap.size) (.string ⟨#[]⟩) (.string ⟨#[]⟩) (.bool false))
  generalize ((w5.setCell ⟨w.heap.size, 0, none⟩ (.string ⟨#[]⟩)).setCell ⟨w.heap.size, 1, none⟩ (.string ⟨#[]⟩)).setCell ⟨w.heap.size, 2, none⟩ (.bool false) = W9 at *
  refine bodyPost_ret (v := .tuple #[.agg #[.string ⟨#[]⟩, .string ⟨#[]⟩, .bool false], .bool false]) (by simp [results, Tryd.results19, go_sem, p0, p1, p2]) rfl ⟨⟨[], [], false, rfl, fun d hd => by cases hd⟩, HX.out⟩

set_option maxRecDepth 100000 in
set_option maxHeartbeats 4000000 in
/-- A name and a value. -/
theorem directive_some (s : ByteArray) (n v t : List UInt8) (w : World) (hn : n.length ≤ 100000) (hv : v.length ≤ 100000) (ht : tokL n = true) (hl : valL v = some t)
    (cC : ∀ W, Calls Tryd.prog 33 #[.string s, .string ⟨#[61]⟩] W (cutPost (.tuple #[.string (strB n), .string (strB v), .bool true]) W)) :
    Calls Tryd.prog 19 #[.string s] w (dirPost (some (lowL n, t, true)) w) := by
  have cT := fun W => token_any (strB n) W (by rw [strB_size]; unfold maxLen; omega)
  have cL := fun W => lower_any (strB n) W (by rw [strB_size]; unfold maxLen; omega)
  have cV : ∀ W, Calls Tryd.prog 36 #[.string (strB v)] W (fun e w' => e = .returned (.tuple #[.string (strB t), .bool true]) ∧ Below W.heap.size W w') := fun W => (value_any (strB v) W (by rw [strB_size]; exact hv)).mono fun e w' h => by
    rw [strB_data, hl] at h
    exact ⟨by rw [h.1.choose_spec.1, h.1.choose_spec.2 t rfl]; rfl, h.2⟩
  rw [strB_data, ht] at cT
  rw [strB_data] at cL
  have HB0 := Lib.hid (BoxD.made w (.string ⟨#[]⟩) (.string ⟨#[]⟩) (.bool false) 43)
  have HB1 := Lib.hid ((Below.refl w.heap.size w).alloc (Nat.le_refl _) (.cells #[.string ⟨#[]⟩, .string ⟨#[]⟩, .bool false] 43))
  have HZ1 := Lib.hid (show w.heap.size + 1 = (w.alloc (.cells #[.string ⟨#[]⟩, .string ⟨#[]⟩, .bool false] 43)).heap.size by simp)
  clear ht hn hl hv
  generalize strB n = SN at *
  generalize strB v = SV at *
  generalize lowL n = LN at *
  go_enter Tryd.func19, Tryd.ntmps19
  go_wp2_with (first | (go_at_call 33; refine (cC _).mono ?_; rintro e w2 ⟨rfl, hb2⟩; have HB2 := Lib.hid (HB0.out.next hb2); have HX2 := Lib.hid (HB1.out.trans (hb2.mono HB1.out.size)); have HZ2 := Lib.hid (Nat.le_trans (Nat.le_of_eq HZ1.out) hb2.size); clear hb2) | (go_at_call 34; refine (cT _).mono ?_; rintro e w3 ⟨rfl, rfl⟩) | (go_at_call 35; refine (cL _).mono ?_; rintro e w4 ⟨rfl, hb4⟩; have HB4 := Lib.hid ((HB2.out.next hb4).next ((Below.refl _ _).alloc (Nat.le_refl _) (.cells #[.string ⟨LN.toArray⟩, .string ⟨#[]⟩, .bool true] 43))); have HX4 := Lib.hid ((HX2.out.trans (hb4.mono HX2.out.size)).alloc (HX2.out.trans (hb4.mono HX2.out.size)).size (.cells #[.string ⟨LN.toArray⟩, .string ⟨#[]⟩, .bool true] 43)); have HQ4 := Lib.hid (BoxD.made w4 (.string ⟨LN.toArray⟩) (.string ⟨#[]⟩) (.bool true) 43); have hne : w4.heap.size ≠ w.heap.size := (by have := HZ2.out; have := hb4.size; omega); have hlt4 : w.heap.size ≤ w4.heap.size := (by have := HZ2.out; have := hb4.size; omega); clear hb4) | (go_at_call 36; refine (cV _).mono ?_; rintro e w5 ⟨rfl, hb5⟩; have HB5 := Lib.hid (HB4.out.next hb5); have HX5 := Lib.hid (HX4.out.trans (hb5.mono HX4.out.size)); have HQ5 := Lib.hid (HQ4.out.next hb5); obtain ⟨r0, r1, r2, g0, g1, g2⟩ := HB4.out.next hb5; obtain ⟨q0, q1, q2, f0, f1, f2⟩ := HQ4.out.next hb5; clear hb5))
  have HB6 := Lib.hid (HB5.out.other hne (k := 1) (.string (strB t)))
  have HX6 := Lib.hid (below_set HX5.out hlt4 1 (.string (strB t)))
  obtain ⟨p0, p1, p2, _, _, _⟩ := HB6.out.put (.string ⟨LN.toArray⟩) (.string (strB t)) (.bool true)
  have HX := Lib.hid (below_put HX6.out (Nat.le_refl w.heap.size) (.string ⟨LN.toArray⟩) (.string (strB t)) (.bool true))
  generalize (((w5.setCell ⟨w4.heap.size, 1, none⟩ (.string (strB t))).setCell ⟨w.heap.size, 0, none⟩ (.string ⟨LN.toArray⟩)).setCell ⟨w.heap.size, 1, none⟩ (.string (strB t))).setCell ⟨w.heap.size, 2, none⟩ (.bool true) = W9 at *
  refine bodyPost_ret (v := .tuple #[.agg #[.string ⟨LN.toArray⟩, .string (strB t), .bool true], .bool true]) (by simp [results, Tryd.results19, go_sem, p0, p1, p2]) rfl ⟨⟨LN, t, true, rfl, fun d hd => (Option.some.inj hd).symm⟩, HX.out⟩

theorem directive_any (s : ByteArray) (w : World) (hs : s.size ≤ 100000) :
    Calls Tryd.prog 19 #[.string s] w (dirPost (oneL s.data.toList) w) := by
  have cC := fun W => cut_any s 61 W hs
  have hz := Lib.size_eq s
  rw [oneL_val]
  by_cases h0 : Lib.indexByte s.data.toList 61 = -1
  · rw [cutV, if_pos h0] at cC
    rw [if_pos h0]
    cases ht : tokL s.data.toList
    · exact directive_bad s _ [] false w (by omega) ht cC
    · exact directive_name s _ [] w (by omega) ht cC
  · rw [cutV, if_neg h0] at cC
    rw [if_neg h0]
    have hn : (s.data.toList.take (Lib.indexByte s.data.toList 61).toNat).length ≤ 100000 := by rw [List.length_take]; omega
    have hv : (s.data.toList.drop ((Lib.indexByte s.data.toList 61).toNat + 1)).length ≤ 100000 := by rw [List.length_drop]; omega
    cases ht : tokL (s.data.toList.take (Lib.indexByte s.data.toList 61).toNat)
    · exact directive_bad s _ _ true w hn ht cC
    · rw [if_pos rfl]
      cases hl : valL (s.data.toList.drop ((Lib.indexByte s.data.toList 61).toNat + 1)) with
      | none => exact directive_none s _ _ w hn hv ht hl cC
      | some t => exact directive_some s _ _ t w hn hv ht hl cC

end Go.Proofs.YtjnagifolheloaaDoor
