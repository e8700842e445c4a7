/- The contracts of item.PrintParams and item.Print. -/
import Derived.Test.YtcjnigmklijjiaaDoorItmI
import Derived.Test.YtcjnigmklijjiaaDoorItmK
namespace Go.Proofs.YtcjnigmklijjiaaDoor
open Go.RowKit Go.Maps

/-- The texts of parameters, one behind the other. -/
def ppGo : List Prm → Option (List UInt8)
  | [] => some []
  | p :: ps => match pmT p with
    | none => none
    | some t => (ppGo ps).map (t ++ ·)
def ppT (ps : List Prm) : Option (List UInt8) := if eqK ps = true then none else ppGo ps

theorem ppGo_none (p : Prm) (ps : List Prm) (h : pmT p = none) : ppGo (p :: ps) = none := by rw [ppGo, h]
theorem ppGo_some (p : Prm) (ps : List Prm) (t : List UInt8) (h : pmT p = some t) : ppGo (p :: ps) = (ppGo ps).map (t ++ ·) := by rw [ppGo, h]

theorem pmT_len (p : Prm) (t : List UInt8) (h : pmT p = some t) : t.length ≤ p.key.length + 2 * p.s.length + 22 := by
  unfold pmT at h
  split at h
  · rename_i hc
    have hl := textL_len p.k p.n p.s hc.1
    split at h
    · obtain rfl := Option.some.inj h
      simp only [List.length_cons]; omega
    · obtain rfl := Option.some.inj h
      simp only [List.length_cons, List.length_append]; omega
  · cases h

theorem IsBuilder_below {T e : TypeId} {B b : Nat} {bs : List Value} {w W : World} (h : Lib.IsBuilder T e B b bs w) (hb : Below w.heap.size w W) : Lib.IsBuilder T e B b bs W := by
  have one : ∀ p, Lib.BuilderAt T e B b p bs w → Lib.BuilderAt T e B b p bs W := by
    rintro p ⟨hB, v, hh, ho, hn⟩
    exact ⟨hB, v, (hb.block b (Array.getElem?_eq_some_iff.1 hh).1).trans hh, ownsRow_later ho hb, hn⟩
  rcases h with h | h
  · exact .inl (one _ h)
  · exact .inr (one _ h)
theorem IsBuilder_lt {T e : TypeId} {B b : Nat} {bs : List Value} {w : World} (h : Lib.IsBuilder T e B b bs w) : b < w.heap.size := by
  rcases h with h | h
  · exact h.lt
  · exact h.lt

/-- What bounds the parameters' texts. -/
def Small (p : Prm) : Prop := p.key.length ≤ 100000 ∧ p.s.length ≤ 100000 ∧ -9223372036854775808 ≤ p.n ∧ p.n ≤ 9223372036854775807

set_option maxRecDepth 100000 in
set_option maxHeartbeats 2000000 in
theorem printParams_any (v : Value) (ps : List Prm) (w : World) (h : Prms w v ps) (hl : ps.length ≤ 100000) (hk : ∀ p ∈ ps, Small p) (hA : Alph w) (hP : Pow w) :
    Calls Tryd.prog 11 #[v] w (printPost (textV (ppT ps)) w) := by
  have cE := hasEqualKeys_any v ps w h hl (fun p hp => (hk p hp).1)
  obtain ⟨ao, cap, rfl, hc⟩ := h
  have HA := Lib.hid hA
  have HP := Lib.hid hP
  have HK := Lib.hid hk
  have HC := Lib.hid hc
  clear hA hP hk hc
  cases he : eqK ps
  · rw [he] at cE
    have HT : Hid (ppT ps = ppGo ps) := Lib.hid (by rw [ppT, he, if_neg (by simp)])
    clear he
    go_enter Tryd.func11, Tryd.ntmps11
    go_wp2_with fail
    refine cE.mono ?_
    rintro e w1 ⟨rfl, hb1⟩
    have hfr : Lib.IsBuilder 61 5 w1.heap.size w1.heap.size (Lib.byteCells []) (w1.alloc (.cells #[.pointer none, .slice none 0 0] 61)) :=
      .inl ⟨Nat.le_refl _, .slice none 0 0, heap_alloc_new w1 _, World.ownsRow_nil _ _ _ _, by simp [Value.ownBlock]⟩
    have Hfr := Lib.hid hfr
    have HB1 := Lib.hid (hb1.alloc hb1.size (.cells #[.pointer none, .slice none 0 0] 61))
    have hle1 := hb1.size
    clear hfr hb1 cE
    go_wp2_with fail
    go_loopw [13] (fun i wr => ∃ (j : Nat) (acc : List UInt8), i = .int .i64 j ∧ j ≤ ps.length ∧ acc.length ≤ j * 400000 ∧ Hid (ppGo ps = (ppGo (ps.drop j)).map (acc ++ ·)) ∧ Lib.IsBuilder 61 5 w1.heap.size w1.heap.size (Lib.byteCells acc) wr ∧ Below w.heap.size w wr) (fun i _ => ps.length - (intOf i).toNat)
    case atStart => exact ⟨0, [], rfl, Nat.zero_le _, by simp, Lib.hid (by simp), Hfr.out, HB1.out⟩
    case round =>
      obtain ⟨j, acc, rfl, hj, hal, H, hbd, hb⟩ := hrel
      clear Hfr HB1
      have hbl := IsBuilder_lt hbd
      have HBD := Lib.hid hbd
      have HB := Lib.hid hb
      by_cases hlt : j < ps.length
      · rcases HC.out with hnil | ⟨c, off, rfl, hcell⟩
        · exfalso
          rw [hnil] at hlt
          simp at hlt
        · obtain ⟨p, hp⟩ : ∃ p, ps[j]? = some p := ⟨_, List.getElem?_eq_getElem hlt⟩
          have hdr : ps.drop j = p :: ps.drop (j + 1) := by
            rw [List.drop_eq_getElem_cons hlt]
            have := List.getElem?_eq_getElem hlt
            rw [this] at hp
            rw [Option.some.inj hp]
          obtain ⟨q0, q1, q2, q3⟩ := rowP_at ps j p hp
          have hcl : c < w.heap.size := lt_of_cell (hcell _ _ q0)
          have a0 := (hb.cell (p := ⟨c, off + j * 4, none⟩) hcl).trans (hcell _ _ q0)
          have a1 := (hb.cell (p := ⟨c, off + (j * 4 + 1), none⟩) hcl).trans (hcell _ _ q1)
          have a2 := (hb.cell (p := ⟨c, off + (j * 4 + 2), none⟩) hcl).trans (hcell _ _ q2)
          have a3 := (hb.cell (p := ⟨c, off + (j * 4 + 3), none⟩) hcl).trans (hcell _ _ q3)
          simp only [← Nat.add_assoc] at a1 a2 a3
          obtain ⟨s1, s2, s3, s4⟩ := HK.out p (List.mem_of_getElem? hp)
          have hb' := hb.alloc hb.size (.cells #[.string (strB p.key), .int .i64 p.k, .int .i64 p.n, .string (strB p.s)] 41)
          have cT := paramText_any p.key p.k p.n p.s (wr.alloc (.cells #[.string (strB p.key), .int .i64 p.k, .int .i64 p.n, .string (strB p.s)] 41)) s1 s2 ⟨s3, s4⟩ (HA.out.below hb') (HP.out.below hb')
          have hbd' := IsBuilder_below hbd ((Below.refl wr.heap.size wr).alloc (Nat.le_refl _) (.cells #[.string (strB p.key), .int .i64 p.k, .int .i64 p.n, .string (strB p.s)] 41))
          have HBD' := Lib.hid hbd'
          have HB' := Lib.hid hb'
          rw [hdr] at H
          clear hcell q0 q1 q2 q3 hp hb' hbd' hbd hb hdr
          cases hpt : pmT p with
          | none =>
            have HN : Hid (ppT ps = none) := Lib.hid (by rw [HT.out, H.out, ppGo_none p _ hpt]; rfl)
            rw [hpt] at cT
            have hv : textV none = .tuple #[.string ⟨#[]⟩, .int .i64 2] := rfl
            rw [hv] at cT
            clear hpt H hv
            go_wp2_with fail
            refine cT.mono ?_
            rintro e w2 ⟨rfl, hb2⟩
            go_wp2_with fail
            go_ret2
            refine ⟨by rw [HN.out]; rfl, HB'.out.trans (hb2.mono HB'.out.size)⟩
          | some x =>
            have hxl := pmT_len p x hpt
            rw [ppGo_some p _ x hpt] at H
            rw [hpt] at cT
            have hv : textV (some x) = .tuple #[.string (strB x), .int .i64 0] := rfl
            rw [hv] at cT
            have hxz : (strB x).size = x.length := strB_size x
            have Hst : Hid (Lib.byteCells acc ++ Lib.strCells (strB x) = Lib.byteCells (acc ++ x)) := Lib.hid (by
              rw [show Lib.strCells (strB x) = Lib.byteCells x from rfl]
              simp [Lib.byteCells])
            have HXz := Lib.hid hxz
            clear hpt hv hxz
            generalize strB x = X at *
            go_wp2_with fail
            refine cT.mono ?_
            rintro e w2 ⟨rfl, hb2⟩
            have hbd2 := IsBuilder_below HBD'.out hb2
            have HB2 := Lib.hid (HB'.out.trans (hb2.mono HB'.out.size))
            have hsz2 : w1.heap.size < w2.heap.size := IsBuilder_lt hbd2
            have cW := writeString_any w1.heap.size w1.heap.size (Lib.byteCells acc) X w2 hbd2 (by rw [Lib.byteCells_length, HXz.out]; omega) (by omega)
            clear cT hb2 hbd2
            go_wp2_with fail
            refine cW.mono ?_
            rintro e w3 ⟨rfl, hbd3, hb3⟩
            rw [Hst.out] at hbd3
            have HB3 := Lib.hid (HB2.out.trans (hb3.mono (by omega)))
            clear cW hb3
            go_wp2_with fail
            go_roundw
            case rel =>
              refine ⟨j + 1, acc ++ x, by go_num, by omega, by rw [List.length_append]; omega, Lib.hid ?_, .inr hbd3, HB3.out⟩
              rw [H.out, Option.map_map]
              congr 1
              funext y
              simp
            case measure => simp [intOf]; omega
      · obtain rfl : j = ps.length := by omega
        have HT2 : Hid (textV (ppT ps) = .tuple #[.string ⟨acc.toArray⟩, .int .i64 0]) := Lib.hid (by
          rw [HT.out, H.out, List.drop_length, ppGo]
          simp [textV, strB])
        have cS := Tryd.Builder_String_any w1.heap.size w1.heap.size acc wr hbd (by omega)
        clear hbd hb H
        go_wp2_with fail
        refine cS.mono ?_
        rintro e w2 ⟨rfl, hb2⟩
        go_wp2_with fail
        go_ret2
        exact ⟨by rw [HT2.out]; rfl, HB.out.trans (hb2.mono hle1)⟩
  · rw [he] at cE
    have HT : Hid (textV (ppT ps) = .tuple #[.string ⟨#[]⟩, .int .i64 2]) := Lib.hid (by rw [ppT, he, if_pos rfl]; rfl)
    clear he
    go_enter Tryd.func11, Tryd.ntmps11
    go_wp2_with fail
    refine cE.mono ?_
    rintro e w1 ⟨rfl, hb1⟩
    go_wp2_with fail
    go_ret2
    exact ⟨by rw [HT.out]; rfl, hb1⟩

end Go.Proofs.YtcjnigmklijjiaaDoor
