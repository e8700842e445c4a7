/- The contracts of strconv.ParseUint and strconv.FormatInt at sixteen. -/
import Derived.Test.YtfhpgobdnhlpcaaDoorChA
import Derived.Test.YtfhpgobdnhlpcaaDoorHdA
import Derived.Lib.ItoaWalk
import Derived.Laws.BitsLemmas
namespace Go.Proofs.YtfhpgobdnhlpcaaDoor
open Go.RowKit Go.Shelf Go.Lib

/-- The library's error values lie. -/
def Errs (w : World) : Prop := (∃ ev, w.cell? ⟨2, 0, none⟩ = some ev ∧ (ev = .nilIface ∨ ∃ te pe, ev = .iface te pe)) ∧ (∃ ev, w.cell? ⟨3, 0, none⟩ = some ev ∧ (ev = .nilIface ∨ ∃ te pe, ev = .iface te pe))
theorem Errs.below {w w' : World} (h : Errs w) (hb : Below w.heap.size w w') : Errs w' := by
  obtain ⟨⟨e1, h1, g1⟩, e2, h2, g2⟩ := h
  exact ⟨⟨e1, (hb.cell (p := ⟨_, 0, none⟩) (lt_of_cell h1)).trans h1, g1⟩, e2, (hb.cell (p := ⟨_, 0, none⟩) (lt_of_cell h2)).trans h2, g2⟩

/-- The number that a text tells by sixteen; or the library's error. -/
def num16 (l : List UInt8) : Except Bool Nat := if l = [] then .error true else par16 0 l
def puiPost (o : Except Bool Nat) (w : World) (e : Ending) (w' : World) : Prop := Below w.heap.size w w' ∧ match o with
  | .ok n => e = .returned (.tuple #[.int .u64 n, .nilIface])
  | _ => ∃ (x : Int) (N : Nat), e = .returned (.tuple #[.int .u64 x, .iface 128 (.pointer (some ⟨N, 0, none⟩))])

set_option maxHeartbeats 4000000 in
set_option maxRecDepth 100000 in
theorem inner16_any (t : ByteArray) (hmax : t.size ≤ 100000) (w : World) :
    Calls Tryd.prog 98 #[.string t, .int .i64 16, .int .i64 64] w fun e w' => e = .returned (uin16 (num16 t.data.toList)) ∧ Below w.heap.size w w' := by
  by_cases h : t.size = 0
  · have h1 : t.data.toList = [] := List.eq_nil_of_length_eq_zero (by rw [← Lib.size_eq, h])
    have h2 : t = ⟨#[]⟩ := by
      rw [← Lib.mk_data t, h1]
    subst h2
    go_enter Tryd.func98, Tryd.ntmps98
    go_wp2
    go_ret2
    exact ⟨rfl, Below.refl _ _⟩
  · have h1 : t.data.toList ≠ [] := fun e => h (by rw [Lib.size_eq, e]; rfl)
    rw [num16, if_neg h1]
    exact parse16_any t h hmax w

set_option maxHeartbeats 4000000 in
set_option maxRecDepth 100000 in
theorem pint_any (t : ByteArray) (hmax : t.size ≤ 100000) (w : World) (hE : Errs w) :
    Calls Tryd.prog 77 #[.string t, .int .i64 16, .int .i64 64] w (puiPost (num16 t.data.toList) w) := by
  have cI := inner16_any t hmax w
  have HE := Lib.hid hE
  clear hE
  generalize num16 t.data.toList = O at *
  cases O with
  | ok n =>
    go_enter Tryd.func77, Tryd.ntmps77
    go_wp2_with fail
    refine cI.mono ?_
    rintro e w1 ⟨rfl, hb1⟩
    unfold uin16
    go_wp2_with fail
    exact bodyPost_ret (v := .tuple #[.int .u64 n, .nilIface]) (by simp [results, Tryd.results77, go_sem]) rfl ⟨hb1, rfl⟩
  | error b =>
    cases b
    · go_enter Tryd.func77, Tryd.ntmps77
      go_wp2_with fail
      refine cI.mono ?_
      rintro e w1 ⟨rfl, hb1⟩
      obtain ⟨_, e1, h1, g1⟩ := HE.out.below hb1
      unfold uin16
      go_wp2_with fail
      refine (Tryd.strconv_toError_range _ t _ _ e1 w1 (by omega) h1 g1).mono ?_
      rintro e w2 ⟨N, rfl, _, _, hb2⟩
      go_wp2_with fail
      exact bodyPost_ret (v := .tuple #[.int .u64 18446744073709551615, .iface 128 (.pointer (some ⟨N, 0, none⟩))]) (by simp [results, Tryd.results77, go_sem]) rfl ⟨hb1.trans (hb2.mono hb1.size), _, N, rfl⟩
    · go_enter Tryd.func77, Tryd.ntmps77
      go_wp2_with fail
      refine cI.mono ?_
      rintro e w1 ⟨rfl, hb1⟩
      obtain ⟨⟨e1, h1, g1⟩, _⟩ := HE.out.below hb1
      unfold uin16
      go_wp2_with fail
      refine (Tryd.strconv_toError_syntax _ t _ _ e1 w1 (by omega) h1 g1).mono ?_
      rintro e w2 ⟨N, rfl, _, _, hb2⟩
      go_wp2_with fail
      exact bodyPost_ret (v := .tuple #[.int .u64 0, .iface 128 (.pointer (some ⟨N, 0, none⟩))]) (by simp [results, Tryd.results77, go_sem]) rfl ⟨hb1.trans (hb2.mono hb1.size), 0, N, rfl⟩

end Go.Proofs.YtfhpgobdnhlpcaaDoor
