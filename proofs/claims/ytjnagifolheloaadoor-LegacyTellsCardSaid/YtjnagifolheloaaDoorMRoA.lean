/- The document's own unquoted (sculleryref10). -/
import Derived.Test.YtjnagifolheloaaDoorMLeP
import Derived.Test.YtjnagifolheloaaDoorMBytP
import Derived.Test.YtjnagifolheloaaDoorRows
import Derived.Laws.BytesArg
import Derived.Laws.AppendOwn
import Derived.WalkKit
import Derived.WalkSpells
import Derived.WalkLawsBesides

namespace Go.Proofs.YtjnagifolheloaaDoor
open Go.RowKit Go.Lib

theorem info_bytO : (Tryd.prog.info? 5).map (fun i => (i.zero, i.size, i.bytes)) = some (some (.int .u8 0), 1, 1) := by kernel_rfl
/-- What is told so far of a quoted text. -/
def uqI (l : List UInt8) (k : Nat) (acc : List UInt8) : Prop := acc.length ≤ k ∧ unqG (l.drop 1) = (unqG (l.drop k)).map (acc ++ ·)
theorem uqI_start (l : List UInt8) : uqI l 1 [] := ⟨by simp, by cases unqG (l.drop 1) <;> rfl⟩
theorem uqI_end {l acc : List UInt8} {k : Nat} (h : uqI l k acc) (hd : l.drop k = 34 :: l.drop (k + 1)) : unqG (l.drop 1) = if l.drop (k + 1) = [] then some acc else none := by
  rw [h.2, hd, unqG_end]
  split
  · rw [Option.map_some, List.append_nil]
  · rfl
theorem uqI_none {l acc : List UInt8} {k : Nat} (h : uqI l k acc) (hd : l.drop k = []) : unqG (l.drop 1) = none := by
  rw [h.2, hd, unqG_nil]
  rfl
theorem uqI_bad {l acc : List UInt8} {k : Nat} (h : uqI l k acc) (hd : l.drop k = [92]) : unqG (l.drop 1) = none := by
  rw [h.2, hd, unqG_esc_nil]
  rfl
theorem uqI_esc {l acc : List UInt8} {k : Nat} {d : UInt8} (h : uqI l k acc) (hd : l.drop k = 92 :: d :: l.drop (k + 2)) : uqI l (k + 2) (acc ++ [d]) := by
  refine ⟨by rw [List.length_append, List.length_singleton]; have := h.1; omega, ?_⟩
  rw [h.2, hd, unqG_esc]
  cases unqG (l.drop (k + 2)) <;> simp
theorem uqI_other {l acc : List UInt8} {k : Nat} {c : UInt8} (h : uqI l k acc) (hd : l.drop k = c :: l.drop (k + 1)) (h1 : c ≠ 34) (h2 : c ≠ 92) : uqI l (k + 1) (acc ++ [c]) := by
  refine ⟨by rw [List.length_append, List.length_singleton]; have := h.1; omega, ?_⟩
  rw [h.2, hd, unqG_other c _ h1 h2]
  cases unqG (l.drop (k + 1)) <;> simp
/-- What unquoted answers. -/
def unqPost (o : Option (List UInt8)) (w : World) (e : Ending) (w' : World) : Prop := (∃ X, e = .returned (.tuple #[.string X, .bool o.isSome]) ∧ ∀ t, o = some t → X = strB t) ∧ Below w.heap.size w w'

set_option maxRecDepth 100000 in
set_option maxHeartbeats 4000000 in
theorem unquoted_any (s : ByteArray) (w : World) (hs : s.size ≤ 100000) :
    Calls Tryd.prog 40 #[.string s] w (unqPost (unqL s.data.toList) w) := by
  obtain ⟨i0, hi, hz0, hz1, hz2⟩ := info_parts info_bytO
  have hz := Lib.hid (Lib.size_eq s)
  by_cases h2 : s.size < 2
  · have hn : unqL s.data.toList = none := by
      cases hl : s.data.toList with
      | nil => rfl
      | cons c r =>
        have hr : r = [] := List.eq_nil_of_length_eq_zero (by have := hz.out; rw [hl, List.length_cons] at this; omega)
        rw [unqL, hr]
        split <;> rfl
    have g1 : ((s.size : Int) < 2) := by omega
    rw [hn]
    clear hn
    go_enter Tryd.func40, Tryd.ntmps40
    go_wp2_with fail
    refine bodyPost_ret (v := .tuple #[.string ⟨#[]⟩, .bool false]) (by simp [results, Tryd.results40, go_sem]) rfl ⟨⟨_, rfl, fun t ht => by cases ht⟩, Below.refl _ _⟩
  · have g1 : ¬ ((s.size : Int) < 2) := by omega
    have h0 : 0 < s.size := by omega
    have hd0 := drop_cons_at s 0 h0
    rw [List.drop_zero, Nat.zero_add] at hd0
    cases e34 : (((s[0]'h0).toNat : Int) == 34)
    · have hn : unqL s.data.toList = none := by
        rw [hd0, unqL, if_neg]
        intro h
        rw [h] at e34
        exact absurd e34 (by decide)
      have e34b : (((s[0]'h0).toNat : Int) != 34) = true := by rw [bne, e34]; rfl
      rw [hn]
      clear hn hd0
      go_enter Tryd.func40, Tryd.ntmps40
      go_wp2_with fail
      refine bodyPost_ret (v := .tuple #[.string ⟨#[]⟩, .bool false]) (by simp [results, Tryd.results40, go_sem]) rfl ⟨⟨_, rfl, fun t ht => by cases ht⟩, Below.refl _ _⟩
    · have h34 : s[0]'h0 = 34 := by
        have := byte_beq (s[0]'h0) 34
        rw [show (((34 : UInt8).toNat : Int)) = 34 from rfl, e34] at this
        exact beq_iff_eq.1 this.symm
      have hn : unqL s.data.toList = unqG (s.data.toList.drop 1) := by
        have := hd0
        rw [h34] at this
        conv => lhs; rw [this]
        rw [unqL, if_pos rfl]
      have e34b : (((s[0]'h0).toNat : Int) != 34) = false := by rw [bne, e34]; rfl
      rw [hn]
      have HS := Lib.hid (uqI_start s.data.toList)
      obtain ⟨O, hO⟩ : ∃ O, unqG (s.data.toList.drop 1) = O := ⟨_, rfl⟩
      rw [hO]
      have HOO := Lib.hid hO
      clear hn hd0 h34 hO
      go_enter Tryd.func40, Tryd.ntmps40
      go_wp2_with fail
      go_loopw [4, 5] (fun v i wr => ∃ (k : Nat) (acc : List UInt8), 1 ≤ k ∧ k ≤ s.size ∧ i = .int .i64 k ∧ Hid (uqI s.data.toList k acc) ∧ wr.ownsRow w.heap.size 5 1 v acc.length (acc.map bytV) ∧ Below w.heap.size w wr) (fun _ i _ => s.size - (intOf i).toNat)
      case atStart => exact ⟨1, [], by omega, by omega, rfl, HS.out, World.ownsRow_made _ _ _ (Nat.le_refl _) (by decide) rfl, (Below.refl _ _).alloc (Nat.le_refl _) _⟩
      case round =>
        obtain ⟨k, acc, hk1, hk, rfl, H, hown, hb⟩ := hrel
        clear HS
        have hal : acc.length ≤ 100000 := Nat.le_trans H.out.1 (Nat.le_trans hk hs)
        by_cases hlt : k < s.size
        · have hd := Lib.hid (drop_cons_at s k hlt)
          have B34 : (((s[k]'hlt).toNat : Int) == 34) = ((s[k]'hlt) == 34) := byte_beq _ 34
          have B92 : (((s[k]'hlt).toNat : Int) == 92) = ((s[k]'hlt) == 92) := byte_beq _ 92
          cases c34 : ((s[k]'hlt) == 34)
          · rw [c34] at B34
            cases c92 : ((s[k]'hlt) == 92)
            · rw [c92] at B92
              have HN := Lib.hid (uqI_other H.out hd.out (by simpa using c34) (by simpa using c92))
              have Hsn : Hid (acc.map bytV ++ [.int .u8 ((s[k]'hlt).toNat : Int)] = (acc ++ [s[k]'hlt]).map bytV) := Lib.hid (by simp [bytV])
              clear c34 c92
              go_wp2_with (at_builtin; refine wpList_append_own _ rfl _ _ 77 rfl w.heap.size 5 i0 (.int .u8 0) 1 1 Tryd.underlying77 hi hz0 hz1 hz2 rfl (by decide) _ _ _ rfl (hown.alloc _) ⟨_, 0, none⟩ 1 1 [.int .u8 ((s[k]'hlt).toNat : Int)] rfl rfl (cell_one_new _ _ _) (by intro u hu; simp at hu; subst hu; rfl) (by unfold maxLen; omega) (by omega) (by have := hb.size; simp; omega) ?_; intro v' w1 hown' hgrow _)
              go_roundw
              case rel =>
                refine ⟨k + 1, acc ++ [s[k]'hlt], by omega, by omega, by go_num, HN, ?_, (hb.alloc hb.size _).grown hgrow (by have := hb.size; simp; omega) (fun k e => (World.ownsRow.lt hown k e).1)⟩
                rw [← Hsn.out, List.length_append]
                exact hown'
              case measure => simp [intOf]; omega
            · rw [c92] at B92
              have h92 : s[k]'hlt = 92 := beq_iff_eq.1 c92
              have hd2 := hd.out
              rw [h92] at hd2
              by_cases hl2 : k + 1 < s.size
              · have hd3 := drop_cons_at s (k + 1) hl2
                rw [hd3] at hd2
                have HN := Lib.hid (uqI_esc H.out hd2)
                have Hsn : Hid (acc.map bytV ++ [.int .u8 ((s[k + 1]'hl2).toNat : Int)] = (acc ++ [s[k + 1]'hl2]).map bytV) := Lib.hid (by simp [bytV])
                have n1 : ((k : Int) + 1 == (s.size : Int)) = false := by
                  have : ¬ (k : Int) + 1 = (s.size : Int) := by omega
                  simpa using this
                clear c34 c92 h92 hd2 hd3
                go_wp2_with (at_builtin; refine wpList_append_own _ rfl _ _ 77 rfl w.heap.size 5 i0 (.int .u8 0) 1 1 Tryd.underlying77 hi hz0 hz1 hz2 rfl (by decide) _ _ _ rfl (hown.alloc _) ⟨_, 0, none⟩ 1 1 [.int .u8 ((s[k + 1]'hl2).toNat : Int)] rfl rfl (cell_one_new _ _ _) (by intro u hu; simp at hu; subst hu; rfl) (by unfold maxLen; omega) (by omega) (by have := hb.size; simp; omega) ?_; intro v' w1 hown' hgrow _)
                go_roundw
                case rel =>
                  refine ⟨k + 2, acc ++ [s[k + 1]'hl2], by omega, by omega, by go_num, HN, ?_, (hb.alloc hb.size _).grown hgrow (by have := hb.size; simp; omega) (fun k e => (World.ownsRow.lt hown k e).1)⟩
                  rw [← Hsn.out, List.length_append]
                  exact hown'
                case measure => simp [intOf]; omega
              · have n1 : ((k : Int) + 1 == (s.size : Int)) = true := by
                  have : (k : Int) + 1 = (s.size : Int) := by omega
                  simpa using this
                have hnil : s.data.toList.drop (k + 1) = [] := List.drop_of_length_le (by rw [← hz.out]; omega)
                rw [hnil] at hd2
                have HR : Hid (O = none) := Lib.hid (HOO.out.symm.trans (uqI_bad H.out hd2))
                have HB := Lib.hid hb
                clear c34 c92 h92 hd2 hnil hown hb
                go_wp2_with fail
                refine bodyPost_ret (v := .tuple #[.string ⟨#[]⟩, .bool false]) (by simp [results, Tryd.results40, go_sem]) rfl ⟨⟨_, by rw [HR.out] <;> rfl, fun t ht => by rw [HR.out] at ht; cases ht⟩, HB.out⟩
          · rw [c34] at B34
            have h34 : s[k]'hlt = 34 := beq_iff_eq.1 c34
            have hd2 := hd.out
            rw [h34] at hd2
            have HE := Lib.hid (uqI_end H.out hd2)
            have HB := Lib.hid hb
            have hbl : (decide (s.data.toList.drop (k + 1) = [])) = ((k : Int) == (s.size : Int) - 1) := by
              by_cases hk9 : k + 1 = s.size
              · have a1 : s.data.toList.drop (k + 1) = [] := List.drop_of_length_le (by rw [← hz.out]; omega)
                have a2 : (k : Int) = (s.size : Int) - 1 := by omega
                rw [decide_eq_true a1, beq_iff_eq.2 a2]
              · have a1 : ¬ s.data.toList.drop (k + 1) = [] := fun h => by
                  have := congrArg List.length h
                  rw [List.length_drop, ← hz.out] at this
                  simp only [List.length_nil] at this
                  omega
                have a2 : ¬ (k : Int) = (s.size : Int) - 1 := by omega
                rw [decide_eq_false a1, beq_eq_false_iff_ne.2 a2]
            have HO : Hid (O = if ((k : Int) == (s.size : Int) - 1) = true then some acc else none) := Lib.hid (by
              rw [← HOO.out, HE.out, ← hbl]
              by_cases a1 : s.data.toList.drop (k + 1) = []
              · rw [if_pos a1, if_pos (decide_eq_true a1)]
              · rw [if_neg a1, if_neg (by rw [decide_eq_false a1]; decide)])
            have HO2 : Hid (O.isSome = ((k : Int) == (s.size : Int) - 1) ∧ ∀ t, O = some t → t = acc) := Lib.hid (by
              rw [HO.out]
              cases ((k : Int) == (s.size : Int) - 1)
              · exact ⟨rfl, fun t ht => by cases ht⟩
              · exact ⟨rfl, fun t ht => (Option.some.inj ht).symm⟩)
            clear c34 h34 hd2 hbl HE HO hb
            rcases hown.2 with ⟨hv, hz9⟩ | ⟨g, cap, cur, hv, _, hh, _⟩
            · have hacc : acc = [] := List.eq_nil_of_length_eq_zero hz9
              have hback := run_convert_bytes_nil (P := Tryd.prog) wr 77 5 Tryd.underlying77 Tryd.underlying5 0 0 9 Tryd.underlying9
              have HA := Lib.hid hacc
              rw [hv]
              clear hown hv hz9 hacc
              go_wp2_with fail
              refine bodyPost_ret (v := .tuple #[.string ByteArray.empty, .bool ((k : Int) == (s.size : Int) - 1)]) (by simp [results, Tryd.results40, go_sem]) rfl ⟨⟨_, by rw [HO2.out.1] <;> rfl, fun t ht => by rw [HO2.out.2 t ht, HA.out] <;> rfl⟩, HB.out⟩
            · have hback := run_convert_bytes_back (P := Tryd.prog) wr 77 9 5 ⟨g, 0, none⟩ cap acc Tryd.underlying77 Tryd.underlying5 Tryd.underlying9 (by
                intro j hj
                exact World.ownsRow.cells hown (g := g) (by rw [hv]; rfl) j _ (by rw [List.getElem?_map, List.getElem?_eq_getElem hj]; rfl))
              rw [hv]
              clear hown hv hh
              go_wp2_with fail
              refine bodyPost_ret (v := .tuple #[.string ⟨acc.toArray⟩, .bool ((k : Int) == (s.size : Int) - 1)]) (by simp [results, Tryd.results40, go_sem]) rfl ⟨⟨_, by rw [HO2.out.1] <;> rfl, fun t ht => by rw [HO2.out.2 t ht] <;> rfl⟩, HB.out⟩
        · have c9 : ¬ (k : Int) < (s.size : Int) := by omega
          have hnil : s.data.toList.drop k = [] := List.drop_of_length_le (by rw [← hz.out]; omega)
          have HR : Hid (O = none) := Lib.hid (HOO.out.symm.trans (uqI_none H.out hnil))
          have HB := Lib.hid hb
          clear hnil hown hb hlt
          go_wp2_with fail
          refine bodyPost_ret (v := .tuple #[.string ⟨#[]⟩, .bool false]) (by simp [results, Tryd.results40, go_sem]) rfl ⟨⟨_, by rw [HR.out] <;> rfl, fun t ht => by rw [HR.out] at ht; cases ht⟩, HB.out⟩

end Go.Proofs.YtjnagifolheloaaDoor
