/- The contracts of item.PrintParams and item.Print. · The contract of item.Print. · What item prints is parsed (plain). · What item prints has no space at its ends; so it is parsed with spaces around it, too (plain). · What is parsed may be printed; what a parameter more does (plain). -/
import Derived.Test.YtjbipplaacgnkaaGreatDoorGG
import Derived.Test.YtjbipplaacgnkaaGreatDoorGF

namespace Go.Proofs.YtjbipplaacgnkaaGreatDoor
open Go.RowKit Go.Maps

/-- The texts of parameters, one behind the other. -/
def ppGo : List Prm → Option (List UInt8)
  | [] => some []
  | p :: ps => match pmT p with
    | none => none
    | some t => (ppGo ps).map (t ++ ·)
def ppT (ps : List Prm) : Option (List UInt8) := if eqK ps = true then none else ppGo ps

theorem ppGo_none (p : Prm) (ps : List Prm) (h : pmT p = none) : ppGo (p :: ps) = none := by rw [ppGo, h]
theorem ppGo_some (p : Prm) (ps : List Prm) (t : List UInt8) (h : pmT p = some t) : ppGo (p :: ps) = (ppGo ps).map (t ++ ·) := by rw [ppGo, h]

theorem pmT_len (p : Prm) (t : List UInt8) (h : pmT p = some t) : t.length ≤ p.key.length + 2 * p.s.length + 22 := by
  unfold pmT at h
  split at h
  · rename_i hc
    have hl := textL_len p.k p.n p.s hc.1
    split at h
    · obtain rfl := Option.some.inj h
      simp only [List.length_cons]; omega
    · obtain rfl := Option.some.inj h
      simp only [List.length_cons, List.length_append]; omega
  · cases h

theorem IsBuilder_below {T e : TypeId} {B b : Nat} {bs : List Value} {w W : World} (h : Lib.IsBuilder T e B b bs w) (hb : Below w.heap.size w W) : Lib.IsBuilder T e B b bs W := by
  have one : ∀ p, Lib.BuilderAt T e B b p bs w → Lib.BuilderAt T e B b p bs W := by
    rintro p ⟨hB, v, hh, ho, hn⟩
    exact ⟨hB, v, (hb.block b (Array.getElem?_eq_some_iff.1 hh).1).trans hh, ownsRow_later ho hb, hn⟩
  rcases h with h | h
  · exact .inl (one _ h)
  · exact .inr (one _ h)
theorem IsBuilder_lt {T e : TypeId} {B b : Nat} {bs : List Value} {w : World} (h : Lib.IsBuilder T e B b bs w) : b < w.heap.size := by
  rcases h with h | h
  · exact h.lt
  · exact h.lt

/-- What bounds the parameters' texts. -/
def Small (p : Prm) : Prop := p.key.length ≤ 100000 ∧ p.s.length ≤ 100000 ∧ -9223372036854775808 ≤ p.n ∧ p.n ≤ 9223372036854775807

set_option maxRecDepth 100000 in
set_option maxHeartbeats 2000000 in
theorem printParams_any (v : Value) (ps : List Prm) (w : World) (h : Prms w v ps) (hl : ps.length ≤ 100000) (hk : ∀ p ∈ ps, Small p) (hA : Alph w) (hP : Pow w) :
    Calls Tryz.prog 64 #[v] w (printPost (textV (ppT ps)) w) := by
  have cE := hasEqualKeys_any v ps w h hl (fun p hp => (hk p hp).1)
  obtain ⟨ao, cap, rfl, hc⟩ := h
  have HA := Lib.hid hA
  have HP := Lib.hid hP
  have HK := Lib.hid hk
  have HC := Lib.hid hc
  clear hA hP hk hc
  cases he : eqK ps
  · rw [he] at cE
    have HT : Hid (ppT ps = ppGo ps) := Lib.hid (by rw [ppT, he, if_neg (by simp)])
    clear he
    go_enter Tryz.func64, Tryz.ntmps64
    go_wp2_with fail
    refine cE.mono ?_
    rintro e w1 ⟨rfl, hb1⟩
    have hfr : Lib.IsBuilder 120 5 w1.heap.size w1.heap.size (Lib.byteCells []) (w1.alloc (.cells #[.pointer none, .slice none 0 0] 120)) :=
      .inl ⟨Nat.le_refl _, .slice none 0 0, heap_alloc_new w1 _, World.ownsRow_nil _ _ _ _, by simp [Value.ownBlock]⟩
    have Hfr := Lib.hid hfr
    have HB1 := Lib.hid (hb1.alloc hb1.size (.cells #[.pointer none, .slice none 0 0] 120))
    have hle1 := hb1.size
    clear hfr hb1 cE
    go_wp2_with fail
    go_loopw [13] (fun i wr => ∃ (j : Nat) (acc : List UInt8), i = .int .i64 j ∧ j ≤ ps.length ∧ acc.length ≤ j * 400000 ∧ Hid (ppGo ps = (ppGo (ps.drop j)).map (acc ++ ·)) ∧ Lib.IsBuilder 120 5 w1.heap.size w1.heap.size (Lib.byteCells acc) wr ∧ Below w.heap.size w wr) (fun i _ => ps.length - (intOf i).toNat)
    case atStart => exact ⟨0, [], rfl, Nat.zero_le _, by simp, Lib.hid (by simp), Hfr.out, HB1.out⟩
    case round =>
      obtain ⟨j, acc, rfl, hj, hal, H, hbd, hb⟩ := hrel
      clear Hfr HB1
      have hbl := IsBuilder_lt hbd
      have HBD := Lib.hid hbd
      have HB := Lib.hid hb
      by_cases hlt : j < ps.length
      · rcases HC.out with hnil | ⟨c, off, rfl, hcell⟩
        · exfalso
          rw [hnil] at hlt
          simp at hlt
        · obtain ⟨p, hp⟩ : ∃ p, ps[j]? = some p := ⟨_, List.getElem?_eq_getElem hlt⟩
          have hdr : ps.drop j = p :: ps.drop (j + 1) := by
            rw [List.drop_eq_getElem_cons hlt]
            have := List.getElem?_eq_getElem hlt
            rw [this] at hp
            rw [Option.some.inj hp]
          obtain ⟨q0, q1, q2, q3⟩ := rowP_at ps j p hp
          have hcl : c < w.heap.size := lt_of_cell (hcell _ _ q0)
          have a0 := (hb.cell (p := ⟨c, off + j * 4, none⟩) hcl).trans (hcell _ _ q0)
          have a1 := (hb.cell (p := ⟨c, off + (j * 4 + 1), none⟩) hcl).trans (hcell _ _ q1)
          have a2 := (hb.cell (p := ⟨c, off + (j * 4 + 2), none⟩) hcl).trans (hcell _ _ q2)
          have a3 := (hb.cell (p := ⟨c, off + (j * 4 + 3), none⟩) hcl).trans (hcell _ _ q3)
          simp only [← Nat.add_assoc] at a1 a2 a3
          obtain ⟨s1, s2, s3, s4⟩ := HK.out p (List.mem_of_getElem? hp)
          have hb' := hb.alloc hb.size (.cells #[.string (strB p.key), .int .i64 p.k, .int .i64 p.n, .string (strB p.s)] 97)
          have cT := paramText_any p.key p.k p.n p.s (wr.alloc (.cells #[.string (strB p.key), .int .i64 p.k, .int .i64 p.n, .string (strB p.s)] 97)) s1 s2 ⟨s3, s4⟩ (HA.out.below hb') (HP.out.below hb')
          have hbd' := IsBuilder_below hbd ((Below.refl wr.heap.size wr).alloc (Nat.le_refl _) (.cells #[.string (strB p.key), .int .i64 p.k, .int .i64 p.n, .string (strB p.s)] 97))
          have HBD' := Lib.hid hbd'
          have HB' := Lib.hid hb'
          rw [hdr] at H
          clear hcell q0 q1 q2 q3 hp hb' hbd' hbd hb hdr
          cases hpt : pmT p with
          | none =>
            have HN : Hid (ppT ps = none) := Lib.hid (by rw [HT.out, H.out, ppGo_none p _ hpt]; rfl)
            rw [hpt] at cT
            have hv : textV none = .tuple #[.string ⟨#[]⟩, .int .i64 2] := rfl
            rw [hv] at cT
            clear hpt H hv
            go_wp2_with fail
            refine cT.mono ?_
            rintro e w2 ⟨rfl, hb2⟩
            go_wp2_with fail
            go_ret2
            refine ⟨by rw [HN.out]; rfl, HB'.out.trans (hb2.mono HB'.out.size)⟩
          | some x =>
            have hxl := pmT_len p x hpt
            rw [ppGo_some p _ x hpt] at H
            rw [hpt] at cT
            have hv : textV (some x) = .tuple #[.string (strB x), .int .i64 0] := rfl
            rw [hv] at cT
            have hxz : (strB x).size = x.length := strB_size x
            have Hst : Hid (Lib.byteCells acc ++ Lib.strCells (strB x) = Lib.byteCells (acc ++ x)) := Lib.hid (by
              rw [show Lib.strCells (strB x) = Lib.byteCells x from rfl]
              simp [Lib.byteCells])
            have HXz := Lib.hid hxz
            clear hpt hv hxz
            generalize strB x = X at *
            go_wp2_with fail
            refine cT.mono ?_
            rintro e w2 ⟨rfl, hb2⟩
            have hbd2 := IsBuilder_below HBD'.out hb2
            have HB2 := Lib.hid (HB'.out.trans (hb2.mono HB'.out.size))
            have hsz2 : w1.heap.size < w2.heap.size := IsBuilder_lt hbd2
            have cW := writeString_any w1.heap.size w1.heap.size (Lib.byteCells acc) X w2 hbd2 (by rw [Lib.byteCells_length, HXz.out]; omega) (by omega)
            clear cT hb2 hbd2
            go_wp2_with fail
            refine cW.mono ?_
            rintro e w3 ⟨rfl, hbd3, hb3⟩
            rw [Hst.out] at hbd3
            have HB3 := Lib.hid (HB2.out.trans (hb3.mono (by omega)))
            clear cW hb3
            go_wp2_with fail
            go_roundw
            case rel =>
              refine ⟨j + 1, acc ++ x, by go_num, by omega, by rw [List.length_append]; omega, Lib.hid ?_, .inr hbd3, HB3.out⟩
              rw [H.out, Option.map_map]
              congr 1
              funext y
              simp
            case measure => simp [intOf]; omega
      · obtain rfl : j = ps.length := by omega
        have HT2 : Hid (textV (ppT ps) = .tuple #[.string ⟨acc.toArray⟩, .int .i64 0]) := Lib.hid (by
          rw [HT.out, H.out, List.drop_length, ppGo]
          simp [textV, strB])
        have cS := Tryz.Builder_String_any w1.heap.size w1.heap.size acc wr hbd (by omega)
        clear hbd hb H
        go_wp2_with fail
        refine cS.mono ?_
        rintro e w2 ⟨rfl, hb2⟩
        go_wp2_with fail
        go_ret2
        exact ⟨by rw [HT2.out]; rfl, HB.out.trans (hb2.mono hle1)⟩
  · rw [he] at cE
    have HT : Hid (textV (ppT ps) = .tuple #[.string ⟨#[]⟩, .int .i64 2]) := Lib.hid (by rw [ppT, he, if_pos rfl]; rfl)
    clear he
    go_enter Tryz.func64, Tryz.ntmps64
    go_wp2_with fail
    refine cE.mono ?_
    rintro e w1 ⟨rfl, hb1⟩
    go_wp2_with fail
    go_ret2
    exact ⟨by rw [HT.out]; rfl, hb1⟩

end Go.Proofs.YtjbipplaacgnkaaGreatDoor

namespace Go.Proofs.YtjbipplaacgnkaaGreatDoor
open Go.RowKit Go.Maps

/-- The text of an item, if it may be. -/
def prT (k n : Int) (s : List UInt8) (ps : List Prm) : Option (List UInt8) :=
  if rightL k n s = true then (ppT ps).map (textL k n s ++ ·) else none

theorem item_cells (w : World) (k n : Int) (s : ByteArray) (v : Value) (W : World) (hb : Below (w.heap.size + 1) (w.alloc (.cells #[.int .i64 k, .int .i64 n, .string s, v] 46)) W) :
    W.cell? ⟨w.heap.size, 0, none⟩ = some (.int .i64 k) ∧ W.cell? ⟨w.heap.size, 1, none⟩ = some (.int .i64 n) ∧ W.cell? ⟨w.heap.size, 2, none⟩ = some (.string s) ∧ W.cell? ⟨w.heap.size, 3, none⟩ = some v := by
  refine ⟨?_, ?_, ?_, ?_⟩
  · rw [hb.cell (p := ⟨w.heap.size, 0, none⟩) (by simp)]; simp
  · rw [hb.cell (p := ⟨w.heap.size, 1, none⟩) (by simp)]; simp
  · rw [hb.cell (p := ⟨w.heap.size, 2, none⟩) (by simp)]; simp
  · rw [hb.cell (p := ⟨w.heap.size, 3, none⟩) (by simp)]; simp

theorem ppGo_len (ps : List Prm) : ∀ (t : List UInt8), (∀ p ∈ ps, Small p) → ppGo ps = some t → t.length ≤ ps.length * 400000 := by
  induction ps with
  | nil =>
    intro t _ h
    obtain rfl := Option.some.inj h
    simp
  | cons p ps ih =>
    intro t hk h
    cases hp : pmT p with
    | none => rw [ppGo_none p ps hp] at h; cases h
    | some x =>
      have hx := pmT_len p x hp
      obtain ⟨s1, s2, _, _⟩ := hk p (List.mem_cons_self ..)
      rw [ppGo_some p ps x hp] at h
      cases hq : ppGo ps with
      | none => rw [hq] at h; cases h
      | some y =>
        have := ih y (fun q hq => hk q (List.mem_cons_of_mem _ hq)) hq
        rw [hq] at h
        obtain rfl := Option.some.inj h
        simp only [List.length_append, List.length_cons]
        omega

set_option maxRecDepth 100000 in
set_option maxHeartbeats 2000000 in
theorem iprint_any (k n : Int) (s : List UInt8) (v : Value) (ps : List Prm) (w : World) (h : Prms w v ps) (hl : ps.length ≤ 100000) (hk : ∀ p ∈ ps, Small p) (hs : s.length ≤ 100000) (hn : -9223372036854775808 ≤ n ∧ n ≤ 9223372036854775807) (hA : Alph w) (hP : Pow w) :
    Calls Tryz.prog 62 #[.agg #[.int .i64 k, .int .i64 n, .string (strB s), v]] w (printPost (textV (prT k n s ps)) w) := by
  have hb0 : Below w.heap.size w (w.alloc (.cells #[.int .i64 k, .int .i64 n, .string (strB s), v] 46)) := (Below.refl _ _).alloc (Nat.le_refl _) _
  have cP := print_any k n (strB s) (w.alloc (.cells #[.int .i64 k, .int .i64 n, .string (strB s), v] 46)) (by rw [strB_size]; exact hs) hn (hA.below hb0) (hP.below hb0)
  rw [strB_data] at cP
  have HPr := Lib.hid h
  obtain ⟨ao, cap, rfl, hc⟩ := h
  clear hc
  have HA := Lib.hid hA
  have HP := Lib.hid hP
  have HK := Lib.hid hk
  clear hA hP hk
  cases hr : rightL k n s
  · have HT : Hid (textV (prT k n s ps) = .tuple #[.string ⟨#[]⟩, .int .i64 2]) := Lib.hid (by rw [prT, hr, if_neg (by simp)]; rfl)
    rw [printL, hr, if_neg (by simp)] at cP
    have hv : textV none = .tuple #[.string ⟨#[]⟩, .int .i64 2] := rfl
    rw [hv] at cP
    clear hr hv
    go_enter Tryz.func62, Tryz.ntmps62
    go_wp2_with fail
    refine cP.mono ?_
    rintro e w1 ⟨rfl, hb1⟩
    go_wp2_with fail
    go_ret2
    exact ⟨by rw [HT.out]; rfl, hb0.trans (hb1.mono hb0.size)⟩
  · have htl := textL_len k n s hr
    have HT : Hid (prT k n s ps = (ppT ps).map (textL k n s ++ ·)) := Lib.hid (by rw [prT, hr, if_pos rfl])
    rw [printL, hr, if_pos rfl] at cP
    have hv : textV (some (textL k n s)) = .tuple #[.string (strB (textL k n s)), .int .i64 0] := rfl
    rw [hv] at cP
    have hXz : (strB (textL k n s)).size ≤ 300000 := by rw [strB_size]; omega
    clear hv htl hr
    cases hpp : ppT ps with
    | none =>
      have HN : Hid (textV (prT k n s ps) = .tuple #[.string ⟨#[]⟩, .int .i64 2]) := Lib.hid (by rw [HT.out, hpp]; rfl)
      generalize strB (textL k n s) = X at *
      go_enter Tryz.func62, Tryz.ntmps62
      go_wp2_with fail
      refine cP.mono ?_
      rintro e w1 ⟨rfl, hb1⟩
      obtain ⟨c0, c1, c2, c3⟩ := item_cells w k n (strB s) _ w1 (by simpa using hb1)
      have hbw := hb0.trans (hb1.mono hb0.size)
      have cQ := printParams_any _ ps w1 (HPr.out.below hbw) hl HK.out (HA.out.below hbw) (HP.out.below hbw)
      rw [hpp] at cQ
      have hv : textV none = .tuple #[.string ⟨#[]⟩, .int .i64 2] := rfl
      rw [hv] at cQ
      clear hv hb1 cP
      go_wp2_with fail
      refine cQ.mono ?_
      rintro e w2 ⟨rfl, hb2⟩
      go_wp2_with fail
      go_ret2
      exact ⟨by rw [HN.out]; rfl, hbw.trans (hb2.mono hbw.size)⟩
    | some y =>
      have hyl : y.length ≤ 40000000000 := by
        have h2 := hpp
        rw [ppT] at h2
        split at h2
        · cases h2
        · have := ppGo_len ps y HK.out h2
          omega
      have HN : Hid (textV (prT k n s ps) = .tuple #[.string (strB (textL k n s) ++ strB y), .int .i64 0]) := Lib.hid (by rw [HT.out, hpp, strB_append]; rfl)
      have hYz : (strB y).size ≤ 40000000000 := by rw [strB_size]; exact hyl
      obtain ⟨Y, hY⟩ : ∃ Y, strB y = Y := ⟨_, rfl⟩
      have hvy : textV (some y) = .tuple #[.string Y, .int .i64 0] := by rw [← hY]; rfl
      rw [hY] at HN hYz
      generalize strB (textL k n s) = X at *
      clear hY
      go_enter Tryz.func62, Tryz.ntmps62
      go_wp2_with fail
      refine cP.mono ?_
      rintro e w1 ⟨rfl, hb1⟩
      obtain ⟨c0, c1, c2, c3⟩ := item_cells w k n (strB s) _ w1 (by simpa using hb1)
      have hbw := hb0.trans (hb1.mono hb0.size)
      have cQ := printParams_any _ ps w1 (HPr.out.below hbw) hl HK.out (HA.out.below hbw) (HP.out.below hbw)
      rw [hpp, hvy] at cQ
      clear hb1 cP hvy hpp
      go_wp2_with fail
      refine cQ.mono ?_
      rintro e w2 ⟨rfl, hb2⟩
      go_wp2_with fail
      go_ret2
      exact ⟨by rw [HN.out]; rfl, hbw.trans (hb2.mono hbw.size)⟩

end Go.Proofs.YtjbipplaacgnkaaGreatDoor

namespace Go.Proofs.YtjbipplaacgnkaaGreatDoor
open Go.RowKit

theorem takeWhile_app (f : UInt8 → Bool) : ∀ (l t : List UInt8), l.all f = true → (∀ c, t.head? = some c → f c = false) → (l ++ t).takeWhile f = l
  | [], [], _, _ => rfl
  | [], c :: t, _, h => by
    rw [List.nil_append, List.takeWhile_cons, if_neg (by rw [h c rfl]; simp)]
  | c :: l, t, ha, h => by
    rw [List.all_cons, Bool.and_eq_true] at ha
    rw [List.cons_append, List.takeWhile_cons, if_pos ha.1, takeWhile_app f l t ha.2 h]

theorem takeWhile_whole (f : UInt8 → Bool) : ∀ l : List UInt8, (l.takeWhile f).length = l.length → l.all f = true
  | [], _ => rfl
  | c :: l, h => by
    rw [List.takeWhile_cons] at h
    split at h
    · rename_i hc
      rw [List.all_cons, hc, takeWhile_whole f l (by simpa using h)]; rfl
    · simp at h

theorem key_cons (K : List UInt8) (h : keyL K = true) : ∃ c r, K = c :: r ∧ bkI c.toNat = true ∧ r.all (fun c => ikI c.toNat) = true := by
  cases K with
  | nil => cases h
  | cons c r =>
    rw [keyL, Bool.and_eq_true, beq_iff_eq] at h
    have h2 := h.2
    rw [klen] at h2
    split at h2
    · rename_i hb
      rw [List.length_cons] at h2
      exact ⟨c, r, rfl, hb, takeWhile_whole _ r (by omega)⟩
    · simp at h2

theorem klen_app (K t : List UInt8) (h : keyL K = true) (ht : ∀ c, t.head? = some c → ikI c.toNat = false) : klen (K ++ t) = K.length := by
  obtain ⟨c, r, rfl, hb, hr⟩ := key_cons K h
  rw [List.cons_append, klen, if_pos hb, takeWhile_app _ r t hr ht, List.length_cons, Nat.add_comm]

theorem spc_zero (l : List UInt8) (h : ∀ c, l.head? = some c → c ≠ 32) : spcL l = 0 := by
  cases l with
  | nil => rfl
  | cons c r =>
    rw [spcL, List.takeWhile_cons, if_neg (by simpa using h c rfl)]; rfl

theorem bk_not_space (c : UInt8) (h : bkI c.toNat = true) : c ≠ 32 := by
  rintro rfl
  revert h
  decide

/-- What stands behind a parameter's text: nothing, or another's semicolon. -/
def semi : List UInt8 → Bool
  | [] => true
  | c :: _ => c == 59
theorem semi_ends (t : List UInt8) (h : semi t = true) : ends t = true := by
  cases t with
  | nil => rfl
  | cons c r =>
    have : c = 59 := by simpa [semi] using h
    subst this; rfl
theorem semi_key (t : List UInt8) (h : semi t = true) : ∀ c, t.head? = some c → ikI c.toNat = false := by
  cases t with
  | nil => intro c hc; cases hc
  | cons c r =>
    have : c = 59 := by simpa [semi] using h
    subst this
    intro d hd
    obtain rfl := Option.some.inj hd
    rfl
theorem semi_not_eq (t : List UInt8) (h : semi t = true) : t.head? ≠ some 61 := by
  cases t with
  | nil => simp
  | cons c r =>
    have : c = 59 := by simpa [semi] using h
    subst this
    simp

theorem parL_text (p : Prm) (u t : List UInt8) (h : pmT p = some u) (ht : semi t = true) : ∃ v, u = 59 :: v ∧ parL (v ++ t) = some (p, v.length) := by
  cases h1 : rightL p.k p.n p.s with
  | false => rw [pmT_none p (.inl h1)] at h; cases h
  | true =>
    cases h2 : keyL p.key with
    | false => rw [pmT_none p (.inr h2)] at h; cases h
    | true =>
      obtain ⟨c, r, hK, hb, hr⟩ := key_cons p.key h2
      have hsp : ∀ z : List UInt8, spcL (p.key ++ z) = 0 := fun z => spc_zero _ (by
        rw [hK]
        intro d hd
        obtain rfl := Option.some.inj hd
        exact bk_not_space _ hb)
      have hne : ¬ p.key.length = 0 := by rw [hK]; simp
      by_cases h3 : p.k = 6 ∧ p.n = 1
      · rw [pmT_one p h1 h2 h3] at h
        obtain rfl := Option.some.inj h
        refine ⟨p.key, rfl, ?_⟩
        have hs : p.s = [] := by
          rcases right_kind _ _ _ h1 with ⟨_, g, _⟩ | ⟨_, g, _⟩ | ⟨g, _⟩ | ⟨g, _⟩ | ⟨g, _⟩
          · exact g
          · exact g
          all_goals exfalso; have := h3.1; omega
        rw [parL, hsp, List.drop_zero, klen_app _ _ h2 (semi_key t ht), if_neg hne, Nat.zero_add, List.drop_left, if_neg (semi_not_eq t ht), List.take_left]
        obtain ⟨a, b, c, d⟩ := p
        obtain ⟨g1, g2⟩ := h3
        subst g1 g2 hs
        rfl
      · rw [pmT_all p h1 h2 h3] at h
        obtain rfl := Option.some.inj h
        refine ⟨p.key ++ 61 :: textL p.k p.n p.s, rfl, ?_⟩
        rw [List.append_assoc, List.cons_append]
        have hk : klen (p.key ++ 61 :: (textL p.k p.n p.s ++ t)) = p.key.length := klen_app _ _ h2 (by
          intro d hd
          obtain rfl := Option.some.inj hd
          rfl)
        rw [parL, hsp, List.drop_zero, hk, if_neg hne, Nat.zero_add, List.drop_left, if_pos List.head?_cons, ← List.drop_drop, List.drop_left, List.drop_one, List.tail_cons, readL_text _ _ _ _ h1 (semi_ends t ht), List.take_left]
        show some (_, _) = some (_, _)
        rw [List.length_append, List.length_cons]
        congr 2
        show p.key.length + 1 + (textL p.k p.n p.s).length = p.key.length + ((textL p.k p.n p.s).length + 1)
        omega

theorem ppGo_semi (ps : List Prm) (u : List UInt8) (h : ppGo ps = some u) : semi u = true := by
  cases ps with
  | nil =>
    obtain rfl := Option.some.inj h
    rfl
  | cons p ps =>
    cases hp : pmT p with
    | none => rw [ppGo_none _ _ hp] at h; cases h
    | some w =>
      rw [ppGo_some _ _ _ hp] at h
      obtain ⟨v, rfl, _⟩ := parL_text p w [] hp rfl
      cases hq : ppGo ps with
      | none => rw [hq] at h; cases h
      | some z =>
        rw [hq] at h
        obtain rfl := Option.some.inj h
        rfl

theorem psL_text : ∀ (ps : List Prm) (u : List UInt8) (acc : List Prm) (m : Nat), ppGo ps = some u → psL u acc m = some (ps.foldl putL acc, m + u.length)
  | [], u, acc, m, h => by
    obtain rfl := Option.some.inj h
    rw [psL_end _ _ _ (by simp)]; rfl
  | p :: ps, u, acc, m, h => by
    cases hp : pmT p with
    | none => rw [ppGo_none _ _ hp] at h; cases h
    | some w =>
      rw [ppGo_some _ _ _ hp] at h
      cases hq : ppGo ps with
      | none => rw [hq] at h; cases h
      | some z =>
        rw [hq] at h
        obtain rfl := Option.some.inj h
        obtain ⟨v, rfl, hv⟩ := parL_text p w z hp (ppGo_semi ps z hq)
        have hd : (59 :: v ++ z).drop (1 + v.length) = z := by
          rw [Nat.add_comm, List.cons_append, List.drop_succ_cons, List.drop_left]
        rw [psL_some (59 :: v ++ z) acc m p v.length rfl hv, hd, psL_text ps z _ _ hq, List.foldl_cons]
        congr 2
        simp only [List.length_append, List.length_cons]
        omega

theorem putL_new (acc : List Prm) (p : Prm) (h : p.key ∉ acc.map Prm.key) : putL acc p = acc ++ [p] := by
  unfold putL
  rw [if_neg]
  intro hlt
  exact h ((idxL_lt _ _).1 (by rw [List.length_map]; exact hlt))

theorem fold_new : ∀ (ps acc : List Prm), ((acc ++ ps).map Prm.key).Nodup → ps.foldl putL acc = acc ++ ps
  | [], acc, _ => by simp
  | p :: ps, acc, h => by
    have hp : p.key ∉ acc.map Prm.key := by
      rw [List.map_append, List.map_cons, List.nodup_append] at h
      intro hm
      exact h.2.2 _ hm _ (List.mem_cons_self ..) rfl
    rw [List.foldl_cons, putL_new acc p hp, fold_new ps (acc ++ [p]) (by rw [List.append_assoc]; exact h), List.append_assoc]; rfl

theorem ppGo_snoc : ∀ (ps : List Prm) (p : Prm) (u v : List UInt8), ppGo ps = some u → pmT p = some v → ppGo (ps ++ [p]) = some (u ++ v)
  | [], p, u, v, h, hv => by
    obtain rfl := Option.some.inj h
    rw [List.nil_append, ppGo_some _ _ _ hv]
    show some (v ++ []) = _
    rw [List.append_nil, List.nil_append]
  | q :: ps, p, u, v, h, hv => by
    cases hp : pmT q with
    | none => rw [ppGo_none _ _ hp] at h; cases h
    | some w =>
      rw [ppGo_some _ _ _ hp] at h
      cases hq : ppGo ps with
      | none => rw [hq] at h; cases h
      | some z =>
        rw [hq] at h
        obtain rfl := Option.some.inj h
        rw [List.cons_append, ppGo_some _ _ _ hp, ppGo_snoc ps p z v hq hv]
        show some _ = some _
        rw [List.append_assoc]

theorem ppT_some (ps : List Prm) (u : List UInt8) (h : ppT ps = some u) : (ps.map Prm.key).Nodup ∧ ppGo ps = some u := by
  unfold ppT at h
  split at h
  · cases h
  · rename_i he
    refine ⟨?_, h⟩
    unfold eqK at he
    simpa using he

/-- A value's text with parameters' texts behind it. -/
theorem itmL_text (k n : Int) (s u : List UInt8) (ps : List Prm) (h : rightL k n s = true) (hu : ppGo ps = some u) : itmL (textL k n s ++ u) = some (⟨k, n, s, (textL k n s).length⟩, ps.foldl putL [], (textL k n s ++ u).length) := by
  rw [itmL, readL_text _ _ _ _ h (semi_ends u (ppGo_semi ps u hu))]
  dsimp only
  rw [List.drop_left, psL_text ps u [] 0 hu]
  dsimp only
  rw [List.length_append, Nat.zero_add]

end Go.Proofs.YtjbipplaacgnkaaGreatDoor

namespace Go.Proofs.YtjbipplaacgnkaaGreatDoor
open Go.RowKit

def lastOk (l : List UInt8) : Prop := ∃ x c, l = x ++ [c] ∧ c ≠ 32
def firstOk (l : List UInt8) : Prop := ∃ c r, l = c :: r ∧ c ≠ 32

theorem lastOk_app (u : List UInt8) {v : List UInt8} (h : lastOk v) : lastOk (u ++ v) := by
  obtain ⟨x, c, rfl, hc⟩ := h
  exact ⟨u ++ x, c, by rw [List.append_assoc], hc⟩
theorem lastOk_cons (a : UInt8) {v : List UInt8} (h : lastOk v) : lastOk (a :: v) := lastOk_app [a] h
theorem lastOk_all (l : List UInt8) (h0 : l ≠ []) (h : ∀ c ∈ l, c ≠ 32) : lastOk l :=
  ⟨l.dropLast, l.getLast h0, (List.dropLast_concat_getLast h0).symm, h _ (List.getLast_mem h0)⟩

theorem digit_ne (x : Nat) (h : x < 10) : UInt8.ofNat (48 + x) ≠ 32 := by
  have : ∀ x, x < 10 → UInt8.ofNat (48 + x) ≠ 32 := by decide
  exact this x h

theorem digits_last (u : Nat) : lastOk (Lib.decDigits u) := by
  refine lastOk_all _ ?_ ?_
  · intro h
    have := decDigits_1 u
    rw [h] at this
    simp at this
  · intro c hc
    have := (List.all_eq_true.1 (decDigits_all u)) c hc
    rintro rfl
    revert this
    decide

theorem decN_last (m : Nat) : lastOk (decN m) := by
  refine lastOk_app _ (lastOk_cons _ (lastOk_all _ (by simp) ?_))
  intro c hc
  have ht : ∀ c ∈ Lib.trimRightB [UInt8.ofNat (48 + m % 1000 / 10 % 10), UInt8.ofNat (48 + m % 1000 % 10)] 48, c = UInt8.ofNat (48 + m % 1000 / 10 % 10) ∨ c = UInt8.ofNat (48 + m % 1000 % 10) := by
    intro c hc
    unfold Lib.trimRightB at hc
    rw [List.mem_reverse] at hc
    have := (List.dropWhile_sublist _).subset hc
    rw [List.reverse_cons, List.reverse_cons, List.reverse_nil, List.nil_append] at this
    rcases List.mem_append.1 this with h | h
    · exact .inr (List.mem_singleton.1 h)
    · exact .inl (List.mem_singleton.1 h)
  rcases List.mem_cons.1 hc with rfl | hc
  · exact digit_ne _ (by omega)
  · rcases ht c hc with rfl | rfl
    · exact digit_ne _ (by omega)
    · exact digit_ne _ (by omega)

theorem tok_ne (c : UInt8) (h : ttI c.toNat = true) : c ≠ 32 := by
  rintro rfl
  revert h
  decide
theorem btok_ne (c : UInt8) (h : btI c.toNat = true) : c ≠ 32 := by
  rintro rfl
  revert h
  decide
theorem inkey_ne (c : UInt8) (h : ikI c.toNat = true) : c ≠ 32 := by
  rintro rfl
  revert h
  decide

theorem tok_last (s : List UInt8) (h0 : s ≠ []) (h : tlen s = s.length) : lastOk s := by
  refine lastOk_all s h0 ?_
  cases s with
  | nil => exact absurd rfl h0
  | cons c r =>
    rw [tlen] at h
    split at h
    · rename_i hb
      rw [List.length_cons] at h
      have hw : (r.takeWhile (fun c => ttI c.toNat)).length = r.length := by omega
      have hr := List.all_eq_true.1 (takeWhile_whole _ r hw)
      intro d hd
      rcases List.mem_cons.1 hd with rfl | hd
      · exact btok_ne _ hb
      · exact tok_ne _ (hr d hd)
    · simp at h

theorem itoa_last (n : Int) : lastOk (Lib.itoa n) := by
  unfold Lib.itoa
  split
  · exact lastOk_cons _ (digits_last _)
  · exact digits_last _

theorem textL_last (k n : Int) (s : List UInt8) (h : rightL k n s = true) : lastOk (textL k n s) := by
  rcases right_kind k n s h with ⟨rfl | rfl, rfl, g0, g1⟩ | ⟨rfl, rfl, g0⟩ | ⟨rfl, rfl, g0⟩ | ⟨rfl, rfl, g0, g1⟩ | ⟨rfl, rfl⟩
  · exact itoa_last n
  · show lastOk (decT n)
    unfold decT
    split
    · exact lastOk_cons _ (decN_last _)
    · exact decN_last _
  · exact lastOk_cons 63 (itoa_last n)
  · exact ⟨34 :: escL s, 34, rfl, by decide⟩
  · exact tok_last s g0 g1
  · exact ⟨58 :: encL s, 58, rfl, by decide⟩

theorem textL_first (k n : Int) (s : List UInt8) (h : rightL k n s = true) : firstOk (textL k n s) := by
  have hr := readL_text k n s [] h rfl
  rw [List.append_nil] at hr
  cases ht : textL k n s with
  | nil => rw [ht] at hr; cases hr
  | cons c r =>
    refine ⟨c, r, rfl, ?_⟩
    rintro rfl
    rw [ht] at hr
    have : readL (32 :: r) = none := rfl
    rw [this] at hr
    cases hr

theorem key_last (K : List UInt8) (h : keyL K = true) : lastOk K := by
  obtain ⟨c, r, rfl, hb, hr⟩ := key_cons K h
  refine lastOk_all _ (by simp) ?_
  intro d hd
  rcases List.mem_cons.1 hd with rfl | hd
  · exact bk_not_space _ hb
  · exact inkey_ne _ (List.all_eq_true.1 hr d hd)

theorem pmT_last (p : Prm) (u : List UInt8) (h : pmT p = some u) : lastOk u := by
  cases h1 : rightL p.k p.n p.s with
  | false => rw [pmT_none p (.inl h1)] at h; cases h
  | true =>
    cases h2 : keyL p.key with
    | false => rw [pmT_none p (.inr h2)] at h; cases h
    | true =>
      by_cases h3 : p.k = 6 ∧ p.n = 1
      · rw [pmT_one p h1 h2 h3] at h
        obtain rfl := Option.some.inj h
        exact lastOk_cons _ (key_last _ h2)
      · rw [pmT_all p h1 h2 h3] at h
        obtain rfl := Option.some.inj h
        exact lastOk_cons _ (lastOk_app _ (lastOk_cons _ (textL_last _ _ _ h1)))

theorem ppGo_last : ∀ (ps : List Prm) (u : List UInt8), ppGo ps = some u → u = [] ∨ lastOk u
  | [], u, h => .inl (Option.some.inj h).symm
  | p :: ps, u, h => by
    cases hp : pmT p with
    | none => rw [ppGo_none _ _ hp] at h; cases h
    | some w =>
      rw [ppGo_some _ _ _ hp] at h
      cases hq : ppGo ps with
      | none => rw [hq] at h; cases h
      | some z =>
        rw [hq] at h
        obtain rfl := Option.some.inj h
        rcases ppGo_last ps z hq with rfl | hz
        · refine .inr ?_
          show lastOk (w ++ [])
          rw [List.append_nil]
          exact pmT_last p w hp
        · exact .inr (lastOk_app _ hz)

theorem all_last (k n : Int) (s u : List UInt8) (ps : List Prm) (h : rightL k n s = true) (hu : ppGo ps = some u) : lastOk (textL k n s ++ u) := by
  rcases ppGo_last ps u hu with rfl | hz
  · rw [List.append_nil]
    exact textL_last k n s h
  · exact lastOk_app _ hz

theorem all_first (k n : Int) (s u : List UInt8) (h : rightL k n s = true) : firstOk (textL k n s ++ u) := by
  obtain ⟨c, r, e, hc⟩ := textL_first k n s h
  rw [e]
  exact ⟨c, r ++ u, rfl, hc⟩

theorem trim_same (u : List UInt8) (h1 : firstOk u) (h2 : lastOk u) : Lib.trimB u 32 = u := by
  have hr : Lib.trimRightB u 32 = u := by
    obtain ⟨x, c, rfl, hc⟩ := h2
    simp [Lib.trimRightB, hc]
  rw [Lib.trimB, hr]
  obtain ⟨c, r, rfl, hc⟩ := h1
  simp [Lib.trimLeftB, hc]

theorem trim_around (u : List UInt8) (h1 : firstOk u) (h2 : lastOk u) : Lib.trimB (32 :: 32 :: (u ++ [32])) 32 = u := by
  have hr : Lib.trimRightB (32 :: 32 :: (u ++ [32])) 32 = 32 :: 32 :: u := by
    obtain ⟨x, c, rfl, hc⟩ := h2
    simp [Lib.trimRightB, hc]
  rw [Lib.trimB, hr]
  obtain ⟨c, r, rfl, hc⟩ := h1
  simp [Lib.trimLeftB, hc]

/-- A value's text with parameters' texts behind it is parsed; with spaces around, too. -/
theorem parseL_text (k n : Int) (s u : List UInt8) (ps : List Prm) (h : rightL k n s = true) (hu : ppGo ps = some u) :
    parseL (textL k n s ++ u) = some (⟨k, n, s, (textL k n s).length⟩, ps.foldl putL []) ∧ parseL (32 :: 32 :: (textL k n s ++ u ++ [32])) = some (⟨k, n, s, (textL k n s).length⟩, ps.foldl putL []) := by
  have h1 := all_first k n s u h
  have h2 := all_last k n s u ps h hu
  constructor
  · rw [parseL, trim_same _ h1 h2, itmL_text k n s u ps h hu]
    dsimp only
    rw [if_neg (Nat.lt_irrefl _)]
  · rw [parseL, trim_around _ h1 h2, itmL_text k n s u ps h hu]
    dsimp only
    rw [if_neg (Nat.lt_irrefl _)]

theorem prT_some (k n : Int) (s u : List UInt8) (ps : List Prm) (h : prT k n s ps = some u) : rightL k n s = true ∧ (ps.map Prm.key).Nodup ∧ ∃ v, ppGo ps = some v ∧ u = textL k n s ++ v := by
  unfold prT at h
  split at h
  · rename_i hr
    cases hp : ppT ps with
    | none => rw [hp] at h; cases h
    | some v =>
      rw [hp] at h
      obtain rfl := Option.some.inj h
      obtain ⟨a, b⟩ := ppT_some ps v hp
      exact ⟨hr, a, v, b, rfl⟩
  · cases h

/-- What is printed is parsed as the same, with spaces around, too. -/
theorem parseL_print (k n : Int) (s u : List UInt8) (ps : List Prm) (h : prT k n s ps = some u) :
    parseL u = some (⟨k, n, s, (textL k n s).length⟩, ps) ∧ parseL (32 :: 32 :: (u ++ [32])) = some (⟨k, n, s, (textL k n s).length⟩, ps) := by
  obtain ⟨hr, hn, v, hv, rfl⟩ := prT_some k n s u ps h
  have hf := fold_new ps [] hn
  rw [List.nil_append] at hf
  have := parseL_text k n s v ps hr hv
  rw [hf] at this
  exact this

/-- A parameter's text behind an item's. -/
theorem parseL_last (k n : Int) (s u v : List UInt8) (ps : List Prm) (p : Prm) (h : prT k n s ps = some u) (hp : ppT [p] = some v) :
    parseL (u ++ v) = some (⟨k, n, s, (textL k n s).length⟩, putL ps p) := by
  obtain ⟨hr, hn, w, hw, rfl⟩ := prT_some k n s u ps h
  have hv : pmT p = some v := by
    have h2 := (ppT_some [p] v hp).2
    cases hq : pmT p with
    | none => rw [ppGo_none _ _ hq] at h2; cases h2
    | some z =>
      rw [ppGo_some _ _ _ hq] at h2
      obtain rfl := Option.some.inj h2
      show some z = some (z ++ [])
      rw [List.append_nil]
  have hf := fold_new ps [] hn
  rw [List.nil_append] at hf
  have := (parseL_text k n s (w ++ v) (ps ++ [p]) hr (ppGo_snoc ps p w v hw hv)).1
  rw [List.foldl_append, hf] at this
  rw [List.append_assoc]
  exact this

end Go.Proofs.YtjbipplaacgnkaaGreatDoor

namespace Go.Proofs.YtjbipplaacgnkaaGreatDoor
open Go.RowKit

theorem keyL_take (l : List UInt8) (h : klen l ≠ 0) : keyL (l.take (klen l)) = true := by
  cases l with
  | nil => exact absurd rfl h
  | cons c r =>
    rw [klen] at h ⊢
    split at h
    · rename_i hb
      rw [if_pos hb]
      have ht : r.take (r.takeWhile (fun c => ikI c.toNat)).length = r.takeWhile (fun c => ikI c.toNat) := (List.prefix_iff_eq_take.1 (List.takeWhile_prefix _)).symm
      rw [Nat.add_comm, List.take_succ_cons, ht, keyL, klen, if_pos hb]
      have h2 : (r.takeWhile (fun c => ikI c.toNat)).takeWhile (fun c => ikI c.toNat) = r.takeWhile (fun c => ikI c.toNat) := by
        have := takeWhile_app (fun c => ikI c.toNat) (r.takeWhile (fun c => ikI c.toNat)) [] List.all_takeWhile (by intro c hc; cases hc)
        rw [List.append_nil] at this
        exact this
      rw [h2, List.length_cons, Nat.add_comm]
      simp
    · exact absurd rfl h

/-- A parameter that may be, of a text no longer than N. -/
def OkP (N : Nat) (p : Prm) : Prop := rightL p.k p.n p.s = true ∧ keyL p.key = true ∧ p.key.length ≤ N ∧ p.s.length ≤ N

theorem parL_right (l : List UInt8) (p : Prm) (n : Nat) (h : parL l = some (p, n)) : OkP l.length p := by
  have hkl := parL_key l p n h
  unfold parL at h
  split at h
  · cases h
  · rename_i hk
    split at h
    · split at h
      · cases h
      · rename_i g hg
        have hr := readL_right _ g hg
        have e := congrArg (fun o => o.map (fun x => x.1)) h
        simp only [Option.map_some, Option.some.injEq] at e
        subst e
        refine ⟨hr.1, keyL_take _ hk, hkl, ?_⟩
        have := hr.2.2.2
        rw [List.length_drop] at this
        show g.s.length ≤ _
        omega
    · have e := congrArg (fun o => o.map (fun x => x.1)) h
      simp only [Option.map_some, Option.some.injEq] at e
      subst e
      exact ⟨(rfl : rightL 6 1 [] = true), keyL_take _ hk, hkl, Nat.zero_le _⟩

theorem putL_mem (acc : List Prm) (p q : Prm) (h : q ∈ putL acc p) : q = p ∨ q ∈ acc := by
  unfold putL at h
  split at h
  · rcases List.mem_or_eq_of_mem_set h with h | h
    · exact .inr h
    · exact .inl h
  · rcases List.mem_append.1 h with h | h
    · exact .inr h
    · exact .inl (List.mem_singleton.1 h)

theorem putL_nodup (acc : List Prm) (p : Prm) (h : (acc.map Prm.key).Nodup) : ((putL acc p).map Prm.key).Nodup := by
  unfold putL
  split
  · rename_i hlt
    rw [keys_set acc p _ rfl hlt]
    exact h
  · rename_i hlt
    rw [List.map_append, List.nodup_append]
    refine ⟨h, by simp, ?_⟩
    intro a ha b hb
    have : b = p.key := by simpa using hb
    subst this
    rintro rfl
    have := (idxL_lt _ _).2 ha
    rw [List.length_map] at this
    exact hlt this

theorem psL_right (N : Nat) : ∀ (n : Nat) (l : List UInt8) (acc : List Prm) (m : Nat) (ps : List Prm) (k : Nat), l.length ≤ n → l.length ≤ N → (acc.map Prm.key).Nodup → (∀ p ∈ acc, OkP N p) → psL l acc m = some (ps, k) → (ps.map Prm.key).Nodup ∧ (∀ p ∈ ps, OkP N p) ∧ ps.length ≤ acc.length + l.length := by
  intro n
  induction n with
  | zero =>
    intro l acc m ps k hl _ hn ha h
    have : l = [] := List.eq_nil_of_length_eq_zero (by omega)
    subst this
    rw [psL_end _ _ _ (by simp)] at h
    have e := congrArg (fun o => o.map (fun x => x.1)) h
    simp only [Option.map_some, Option.some.injEq] at e
    subst e
    exact ⟨hn, ha, by simp⟩
  | succ n ih =>
    intro l acc m ps k hl hN hn ha h
    by_cases h59 : l.head? = some 59
    · cases hp : parL (l.drop 1) with
      | none => rw [psL_none _ _ _ h59 hp] at h; cases h
      | some x =>
        obtain ⟨p, j⟩ := x
        rw [psL_some _ _ _ _ _ h59 hp] at h
        have hlen : 1 ≤ l.length := by
          cases l with
          | nil => cases h59
          | cons => simp
        have hq := parL_right _ _ _ hp
        rw [List.length_drop] at hq
        obtain ⟨r1, r2, r3⟩ := ih (l.drop (1 + j)) (putL acc p) (m + 1 + j) ps k (by rw [List.length_drop]; omega) (by rw [List.length_drop]; omega) (putL_nodup _ _ hn) (by
          intro q hq2
          rcases putL_mem _ _ _ hq2 with rfl | hq2
          · exact ⟨hq.1, hq.2.1, by have := hq.2.2.1; omega, by have := hq.2.2.2; omega⟩
          · exact ha q hq2) h
        refine ⟨r1, r2, ?_⟩
        have := putL_len acc p
        rw [List.length_drop] at r3
        omega
    · rw [psL_end _ _ _ h59] at h
      have e := congrArg (fun o => o.map (fun x => x.1)) h
      simp only [Option.map_some, Option.some.injEq] at e
      subst e
      exact ⟨hn, ha, by omega⟩

theorem pmT_right (p : Prm) (h1 : rightL p.k p.n p.s = true) (h2 : keyL p.key = true) : ∃ u, pmT p = some u := by
  by_cases h3 : p.k = 6 ∧ p.n = 1
  · exact ⟨_, pmT_one p h1 h2 h3⟩
  · exact ⟨_, pmT_all p h1 h2 h3⟩

theorem ppGo_right (N : Nat) : ∀ (ps : List Prm), (∀ p ∈ ps, OkP N p) → ∃ u, ppGo ps = some u
  | [], _ => ⟨[], rfl⟩
  | p :: ps, h => by
    obtain ⟨u, hu⟩ := pmT_right p (h p (List.mem_cons_self ..)).1 (h p (List.mem_cons_self ..)).2.1
    obtain ⟨v, hv⟩ := ppGo_right N ps (fun q hq => h q (List.mem_cons_of_mem _ hq))
    exact ⟨u ++ v, by rw [ppGo_some _ _ _ hu, hv]; rfl⟩

/-- What is parsed may be printed, and is no longer than the text. -/
theorem parseL_right (l : List UInt8) (g : Got) (ps : List Prm) (h : parseL l = some (g, ps)) :
    (∃ u, prT g.k g.n g.s ps = some u) ∧ ps.length ≤ l.length ∧ (∀ p ∈ ps, OkP l.length p) ∧ g.s.length ≤ l.length ∧ rightL g.k g.n g.s = true := by
  have hb := trimB_le l 32
  unfold parseL at h
  split at h
  · cases h
  · rename_i g2 ps2 m hi
    split at h
    · cases h
    · have e := Option.some.inj h
      rw [Prod.mk.injEq] at e
      obtain ⟨rfl, rfl⟩ := e
      unfold itmL at hi
      split at hi
      · cases hi
      · rename_i g3 hg
        split at hi
        · cases hi
        · rename_i ps3 m3 hps
          have e := congrArg (fun o => o.map (fun x => (x.1, x.2.1))) hi
          simp only [Option.map_some, Option.some.injEq, Prod.mk.injEq] at e
          obtain ⟨rfl, rfl⟩ := e
          have hr := readL_right _ _ hg
          obtain ⟨r1, r2, r3⟩ := psL_right l.length _ _ [] 0 _ _ (Nat.le_refl _) (by rw [List.length_drop]; omega) (by simp) (by intro p hp; cases hp) hps
          rw [List.length_drop, List.length_nil] at r3
          obtain ⟨u, hu⟩ := ppGo_right _ _ r2
          refine ⟨⟨textL g3.k g3.n g3.s ++ u, ?_⟩, by omega, r2, by have := hr.2.2.2; omega, hr.1⟩
          rw [prT, if_pos hr.1, ppT, if_neg (by unfold eqK; simpa using r1), hu]
          rfl

/-! ### a parameter more -/

theorem idxL_le (ks : List (List UInt8)) (k : List UInt8) : idxL ks k ≤ ks.length := List.findIdx_le_length

theorem idx_only (ps : List Prm) (K : List UInt8) (hn : (ps.map Prm.key).Nodup) (i : Nat) (q : Prm) (hq : ps[i]? = some q) : q.key = K ↔ idxL (ps.map Prm.key) K = i := by
  have hk : (ps.map Prm.key)[i]? = some q.key := by rw [List.getElem?_map, hq]; rfl
  obtain ⟨hi, hv⟩ := List.getElem?_eq_some_iff.1 hk
  constructor
  · rintro rfl
    have hm : idxL (ps.map Prm.key) q.key < (ps.map Prm.key).length := (idxL_lt _ _).2 (List.mem_of_getElem? hk)
    have hf : (ps.map Prm.key)[idxL (ps.map Prm.key) q.key] = q.key := by
      have := List.findIdx_getElem (xs := ps.map Prm.key) (p := (· == q.key)) (w := hm)
      exact eq_of_beq this
    exact (List.getElem_inj hn).1 (hf.trans hv.symm)
  · intro h
    have hm : idxL (ps.map Prm.key) K < (ps.map Prm.key).length := by rw [h]; exact hi
    have hf : (ps.map Prm.key)[idxL (ps.map Prm.key) K] = K := by
      have := List.findIdx_getElem (xs := ps.map Prm.key) (p := (· == K)) (w := hm)
      exact eq_of_beq this
    rw [← hv, ← hf]
    congr 1
    exact h.symm

theorem putL_length (ps : List Prm) (p : Prm) : (putL ps p).length = max ps.length (idxL (ps.map Prm.key) p.key + 1) := by
  have := idxL_le (ps.map Prm.key) p.key
  rw [List.length_map] at this
  unfold putL
  split
  · rw [List.length_set]; omega
  · rw [List.length_append, List.length_singleton]; omega

theorem putL_at (ps : List Prm) (p : Prm) (i : Nat) : (putL ps p)[i]? = if i = idxL (ps.map Prm.key) p.key then some p else ps[i]? := by
  have hle := idxL_le (ps.map Prm.key) p.key
  rw [List.length_map] at hle
  unfold putL
  split
  · rename_i hlt
    rw [List.getElem?_set]
    by_cases h : i = idxL (ps.map Prm.key) p.key
    · rw [if_pos h, if_pos h.symm, if_pos hlt]
    · rw [if_neg h, if_neg (fun e => h e.symm)]
  · rename_i hlt
    by_cases h : i = idxL (ps.map Prm.key) p.key
    · rw [if_pos h, h, show idxL (ps.map Prm.key) p.key = ps.length by omega]
      simp
    · rw [if_neg h]
      by_cases hi : i < ps.length
      · rw [List.getElem?_append_left hi]
      · rw [List.getElem?_eq_none (by rw [List.length_append, List.length_singleton]; omega), List.getElem?_eq_none (by omega)]

end Go.Proofs.YtjbipplaacgnkaaGreatDoor
