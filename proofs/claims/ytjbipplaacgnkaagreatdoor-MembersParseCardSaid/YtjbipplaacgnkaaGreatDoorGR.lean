/- The contract of members.entryText. · The contract of members.joined at entries. · The contract of members.hasEqualKeys. · The contract of members.PrintDict. · Plain: what the law's awake asks (scullerylaw04). -/
import Derived.Test.YtjbipplaacgnkaaGreatDoorGP
import Derived.Test.YtjbipplaacgnkaaGreatDoorGQ
import Derived.Test.YtjbipplaacgnkaaGreatDoorGM

namespace Go.Proofs.YtjbipplaacgnkaaGreatDoor
open Go.RowKit Go.Maps

/-- The text of an entry, if it may be. -/
def enT (E : Ent) : Option (List UInt8) := match memT E.val with
  | none => none
  | some t => if keyL E.key = false then none else if Lib.hasPrefix t [63, 49] = true then some (E.key ++ t.drop 2) else some (E.key ++ 61 :: t)

theorem box8 {w W : World} {a b c d a' b' c' d' : Value} {T : TypeId} (hb : Below (w.heap.size + 1) (w.alloc (.cells #[a, b, c, d, a', b', c', d'] T)) W) :
    (W.cell? ⟨w.heap.size, 0, none⟩ = some a ∧ W.cell? ⟨w.heap.size, 1, none⟩ = some b ∧ W.cell? ⟨w.heap.size, 2, none⟩ = some c ∧ W.cell? ⟨w.heap.size, 3, none⟩ = some d) ∧
    (W.cell? ⟨w.heap.size, 4, none⟩ = some a' ∧ W.cell? ⟨w.heap.size, 5, none⟩ = some b' ∧ W.cell? ⟨w.heap.size, 6, none⟩ = some c' ∧ W.cell? ⟨w.heap.size, 7, none⟩ = some d') := by
  refine ⟨⟨?_, ?_, ?_, ?_⟩, ?_, ?_, ?_, ?_⟩
  · rw [hb.cell (p := ⟨w.heap.size, 0, none⟩) (by simp)]; simp
  · rw [hb.cell (p := ⟨w.heap.size, 1, none⟩) (by simp)]; simp
  · rw [hb.cell (p := ⟨w.heap.size, 2, none⟩) (by simp)]; simp
  · rw [hb.cell (p := ⟨w.heap.size, 3, none⟩) (by simp)]; simp
  · rw [hb.cell (p := ⟨w.heap.size, 4, none⟩) (by simp)]; simp
  · rw [hb.cell (p := ⟨w.heap.size, 5, none⟩) (by simp)]; simp
  · rw [hb.cell (p := ⟨w.heap.size, 6, none⟩) (by simp)]; simp
  · rw [hb.cell (p := ⟨w.heap.size, 7, none⟩) (by simp)]; simp

set_option maxRecDepth 100000 in
set_option maxHeartbeats 4000000 in
theorem entryText_any (E : Ent) (v : Value) (w : World) (h : EntAt 0 none w E v) (hk : MemOk E.val) (hK : E.key.length ≤ 100000) (hT : ∀ t, memT E.val = some t → t.length ≤ 1000000000) (hA : Alph w) (hP : Pow w) :
    Calls Tryz.prog 41 #[v] w (printPost (textV (enT E)) w) := by
  obtain ⟨u, vi, vp, rfl, hF⟩ := h
  have HM : Hid (MemAt 0 none w E.val (aggM E.val.inner E.val.it.k E.val.it.n (strB E.val.it.s) u vi vp)) := Lib.hid ⟨u, vi, vp, rfl, hF.1, hF.2.1, hF.2.2⟩
  obtain ⟨ao1, cap1, rfl⟩ := hF.1.form
  obtain ⟨ao2, cap2, rfl⟩ := hF.2.1.form
  obtain ⟨ao3, cap3, rfl⟩ := hF.2.2.form
  have HA := Lib.hid hA
  have HP := Lib.hid hP
  have cM := fun W hW hWA hWP => memberText_any E.val _ W (HM.out.below hW) hk hWA hWP
  have hks := strB_size E.key
  have cK := fun W => key_any (strB E.key) W (by unfold maxLen; omega)
  rw [strB_data] at cK
  have hb0 : Below w.heap.size w (w.alloc (entO (strB E.key) E.val.inner E.val.it.k E.val.it.n (strB E.val.it.s) (.slice ao1 E.val.it.ps.length cap1) (.slice ao2 E.val.its.length cap2) (.slice ao3 E.val.ps.length cap3))) := (Below.refl _ _).alloc (Nat.le_refl _) _
  have hK3 : (strB E.key).size ≤ 100000 := by omega
  clear hA hP hF hk hks hK
  cases hm : memT E.val with
  | none =>
    have HV : Hid (textV (enT E) = .tuple #[.string ⟨#[]⟩, .int .i64 2]) := Lib.hid (by rw [enT, hm] <;> rfl)
    rw [hm, show textV none = .tuple #[.string ⟨#[]⟩, .int .i64 2] from rfl] at cM
    clear hm cK hT
    generalize strB E.key = K at *
    generalize strB E.val.it.s = S at *
    go_enter Tryz.func41, Tryz.ntmps41
    go_wp2_with fail
    refine (cM _ hb0 (HA.out.below hb0) (HP.out.below hb0)).mono ?_
    rintro e w1 ⟨rfl, hb1⟩
    go_wp2_with fail
    exact bodyPost_ret (v := .tuple #[.string ⟨#[]⟩, .int .i64 2]) (by simp [results, Tryz.results41, go_sem]) rfl ⟨by rw [HV.out], hb0.trans (hb1.mono hb0.size)⟩
  | some t =>
    have hts := strB_size t
    have htl := hT t hm
    rw [hm, show textV (some t) = .tuple #[.string (strB t), .int .i64 0] from rfl] at cM
    cases hk : keyL E.key with
    | false =>
      have HV : Hid (textV (enT E) = .tuple #[.string ⟨#[]⟩, .int .i64 2]) := Lib.hid (by rw [enT, hm]; simp only [hk, if_pos]; rfl)
      rw [hk] at cK
      clear hm hT hk hts htl
      generalize strB t = TX at *
      generalize strB E.key = K at *
      generalize strB E.val.it.s = S at *
      go_enter Tryz.func41, Tryz.ntmps41
      go_wp2_with fail
      refine (cM _ hb0 (HA.out.below hb0) (HP.out.below hb0)).mono ?_
      rintro e w1 ⟨rfl, hb1⟩
      have c0 := box_next (Below.refl _ _) hb1
      obtain ⟨⟨p0, p1, p2, p3⟩, p4, p5, p6, p7⟩ := box8 c0
      go_wp2_with fail
      refine (cK _).mono ?_
      rintro e w2 ⟨rfl, rfl⟩
      go_wp2_with fail
      exact bodyPost_ret (v := .tuple #[.string ⟨#[]⟩, .int .i64 2]) (by simp [results, Tryz.results41, go_sem]) rfl ⟨by rw [HV.out], hb0.trans (hb1.mono hb0.size)⟩
    | true =>
      rw [hk] at cK
      have cC := fun W => Tryz.strings_CutPrefix (strB t) ⟨#[63, 49]⟩ W
      rw [strB_data, show (⟨#[63, 49]⟩ : ByteArray).data.toList = [63, 49] from rfl] at cC
      have ht3 : (strB t).size ≤ 1000000000 := by omega
      cases hp : Lib.hasPrefix t [63, 49] with
      | true =>
        have HV : Hid (textV (enT E) = .tuple #[.string (strB (E.key ++ t.drop 2)), .int .i64 0]) := Lib.hid (by rw [enT, hm]; simp only [hk, hp, if_pos, Bool.true_eq_false, if_false]; rfl)
        rw [Lib.trimPrefix, hp, if_pos rfl] at cC
        replace cC : ∀ W, Calls Tryz.prog 48 #[.string (strB t), .string ⟨#[63, 49]⟩] W fun e w' => e = .returned (.tuple #[.string (strB (t.drop 2)), .bool true]) ∧ w' = W := fun W => (cC W).mono fun e w' h => h
        have hds := strB_size (t.drop 2)
        rw [List.length_drop] at hds
        have HE : Hid (strB E.key ++ strB (t.drop 2) = strB (E.key ++ t.drop 2)) := Lib.hid (eqB _ _ (by simp only [append_data, strB_data]))
        have hd3 : (strB (t.drop 2)).size ≤ 1000000000 := by omega
        clear hm hT hk hts htl hp hds
        generalize strB (t.drop 2) = TD at *
        generalize strB t = TX at *
        generalize strB E.key = K at *
        generalize strB E.val.it.s = S at *
        go_enter Tryz.func41, Tryz.ntmps41
        go_wp2_with fail
        refine (cM _ hb0 (HA.out.below hb0) (HP.out.below hb0)).mono ?_
        rintro e w1 ⟨rfl, hb1⟩
        have c0 := box_next (Below.refl _ _) hb1
        obtain ⟨⟨p0, p1, p2, p3⟩, p4, p5, p6, p7⟩ := box8 c0
        go_wp2_with fail
        refine (cK _).mono ?_
        rintro e w2 ⟨rfl, rfl⟩
        go_wp2_with fail
        refine (cC _).mono ?_
        rintro e w2 ⟨rfl, rfl⟩
        go_wp2_with fail
        exact bodyPost_ret (v := .tuple #[.string (K ++ TD), .int .i64 0]) (by simp [results, Tryz.results41, go_sem]) rfl ⟨by rw [HV.out, HE.out], hb0.trans (hb1.mono hb0.size)⟩
      | false =>
        have HV : Hid (textV (enT E) = .tuple #[.string (strB (E.key ++ 61 :: t)), .int .i64 0]) := Lib.hid (by rw [enT, hm]; simp only [hk, hp, Bool.true_eq_false, Bool.false_eq_true, if_false]; rfl)
        rw [Lib.trimPrefix, hp, if_neg (by simp)] at cC
        have HE : Hid (strB E.key ++ (⟨#[61]⟩ : ByteArray) ++ strB t = strB (E.key ++ 61 :: t)) := Lib.hid (eqB _ _ (by simp only [append_data, strB_data]; simp))
        rw [show (⟨t.toArray⟩ : ByteArray) = strB t from rfl] at cC
        clear hm hT hk hts htl hp
        generalize strB t = TX at *
        generalize strB E.key = K at *
        generalize strB E.val.it.s = S at *
        go_enter Tryz.func41, Tryz.ntmps41
        go_wp2_with fail
        refine (cM _ hb0 (HA.out.below hb0) (HP.out.below hb0)).mono ?_
        rintro e w1 ⟨rfl, hb1⟩
        have c0 := box_next (Below.refl _ _) hb1
        obtain ⟨⟨p0, p1, p2, p3⟩, p4, p5, p6, p7⟩ := box8 c0
        go_wp2_with fail
        refine (cK _).mono ?_
        rintro e w2 ⟨rfl, rfl⟩
        go_wp2_with fail
        refine (cC _).mono ?_
        rintro e w2 ⟨rfl, rfl⟩
        go_wp2_with fail
        exact bodyPost_ret (v := .tuple #[.string (K ++ (⟨#[61]⟩ : ByteArray) ++ TX), .int .i64 0]) (by simp [results, Tryz.results41, go_sem]) rfl ⟨by rw [HV.out, HE.out], hb0.trans (hb1.mono hb0.size)⟩

end Go.Proofs.YtjbipplaacgnkaaGreatDoor

namespace Go.Proofs.YtjbipplaacgnkaaGreatDoor
open Go.RowKit Go.Maps

theorem EntAt.below {lo : Nat} {blk : Option Nat} {w w' : World} {E : Ent} {v : Value} (h : EntAt lo blk w E v) (hb : Below w.heap.size w w') : EntAt lo blk w' E v := by
  obtain ⟨u, vi, vp, hv, hF⟩ := h
  exact ⟨u, vi, vp, hv, entR.below hF hb⟩

theorem enT_len (E : Ent) (t : List UInt8) (hK : E.key.length ≤ 100000) (hT : ∀ t, memT E.val = some t → t.length ≤ 1000000000) (h : enT E = some t) : t.length ≤ 1000100001 := by
  unfold enT at h
  split at h
  · cases h
  · rename_i m hm
    have := hT m hm
    split at h
    · cases h
    · split at h
      · obtain rfl := Option.some.inj h
        rw [List.length_append, List.length_drop]
        omega
      · obtain rfl := Option.some.inj h
        rw [List.length_append, List.length_cons]
        omega

set_option maxRecDepth 100000 in
set_option maxHeartbeats 4000000 in
theorem joinedE_any (v : Value) (xs : List Ent) (sep : List UInt8) (w : World) (h : GOff entR 0 none w v xs) (hl : xs.length ≤ 1000) (hk : ∀ x ∈ xs, MemOk x.val ∧ x.key.length ≤ 100000) (hs : sep.length ≤ 10) (hT : ∀ x ∈ xs, ∀ t, memT x.val = some t → t.length ≤ 1000000000) (hA : Alph w) (hP : Pow w) :
    Calls Tryz.prog 40 #[v, .string (strB sep), .func (.func 41) #[] #[]] w (printPost (textV (jnGo enT sep true xs)) w) := by
  have hv := h
  obtain ⟨ao, cap, rfl, hc⟩ := hv
  have HI := Lib.hid hc
  have HA := Lib.hid hA
  have HP := Lib.hid hP
  have HK := Lib.hid hk
  have HTL := Lib.hid hT
  have hsz := strB_size sep
  have hs3 : (strB sep).size ≤ 10 := by omega
  clear hA hP hk hc h hT
  have hfr : Lib.IsBuilder 120 5 w.heap.size w.heap.size (Lib.byteCells []) (w.alloc (.cells #[.pointer none, .slice none 0 0] 120)) :=
    .inl ⟨Nat.le_refl _, .slice none 0 0, heap_alloc_new w _, World.ownsRow_nil _ _ _ _, by simp [Value.ownBlock]⟩
  have Hfr := Lib.hid hfr
  have HB1 := Lib.hid ((Below.refl w.heap.size w).alloc (Nat.le_refl _) (.cells #[.pointer none, .slice none 0 0] 120))
  clear hfr
  have HSep := Lib.hid (show Lib.strCells (strB sep) = Lib.byteCells sep from rfl)
  clear hsz
  go_enter Tryz.func40, Tryz.ntmps40
  go_wp2_with fail
  go_loopw [15] (fun i wr => ∃ (j : Nat) (acc : List UInt8), i = .int .i64 j ∧ j ≤ xs.length ∧ acc.length ≤ j * 1000200010 ∧ Hid (jnGo enT sep true xs = (jnGo enT sep (j == 0) (xs.drop j)).map (acc ++ ·)) ∧ Lib.IsBuilder 120 5 w.heap.size w.heap.size (Lib.byteCells acc) wr ∧ Below w.heap.size w wr) (fun i _ => xs.length - (intOf i).toNat)
  case atStart => exact ⟨0, [], rfl, Nat.zero_le _, by simp, Lib.hid (by simp), Hfr.out, HB1.out⟩
  case round =>
    obtain ⟨j, acc, rfl, hj, hal, H, hbd, hb⟩ := hrel
    clear Hfr HB1
    have hbl := IsBuilder_lt hbd
    have HB := Lib.hid hb
    by_cases hlt : j < xs.length
    · obtain ⟨x, hx⟩ : ∃ x, xs[j]? = some x := ⟨_, List.getElem?_eq_getElem hlt⟩
      rcases HI.out with hnil | ⟨c, off, rfl, _, _, hcw, hcell⟩
      · rw [hnil] at hx; cases hx
      obtain ⟨⟨u, u2, u3⟩, hcs, hF⟩ := hcell j x hx
      obtain ⟨au, cu, rfl⟩ := hF.1.form
      obtain ⟨av, cv, rfl⟩ := hF.2.1.form
      obtain ⟨aw, cw, rfl⟩ := hF.2.2.form
      have q0 := hcs 0 (by decide)
      have q1 := hcs 1 (by decide)
      have q2 := hcs 2 (by decide)
      have q3 := hcs 3 (by decide)
      have q4 := hcs 4 (by decide)
      have q5 := hcs 5 (by decide)
      have q6 := hcs 6 (by decide)
      have q7 := hcs 7 (by decide)
      have hMA : EntAt 0 none w x (aggE (strB x.key) x.val.inner x.val.it.k x.val.it.n (strB x.val.it.s) (.slice au x.val.it.ps.length cu) (.slice av x.val.its.length cv) (.slice aw x.val.ps.length cw)) := ⟨_, _, _, rfl, hF.1, hF.2.1, hF.2.2⟩
      have hck : ∀ i, wr.cell? ⟨c, i, none⟩ = w.cell? ⟨c, i, none⟩ := fun i => hb.cell (p := ⟨c, i, none⟩) hcw
      have a0 := (hck _).trans q0
      have a1 := (hck _).trans q1
      have a2 := (hck _).trans q2
      have a3 := (hck _).trans q3
      have a4 := (hck _).trans q4
      have a5 := (hck _).trans q5
      have a6 := (hck _).trans q6
      have a7 := (hck _).trans q7
      simp only [Nat.add_zero, entR, memR, List.getElem?_cons_zero, List.getElem?_cons_succ] at a0 a1 a2 a3 a4 a5 a6 a7
      have jI : (j : Int) < (xs.length : Int) := by omega
      have j0 : (0 : Int) ≤ (j : Int) := by omega
      have hb' := hb.alloc hb.size (entO (strB x.key) x.val.inner x.val.it.k x.val.it.n (strB x.val.it.s) (.slice au x.val.it.ps.length cu) (.slice av x.val.its.length cv) (.slice aw x.val.ps.length cw))
      have cT := entryText_any x _ (wr.alloc (entO (strB x.key) x.val.inner x.val.it.k x.val.it.n (strB x.val.it.s) (.slice au x.val.it.ps.length cu) (.slice av x.val.its.length cv) (.slice aw x.val.ps.length cw))) (hMA.below hb') (HK.out x (List.mem_of_getElem? hx)).1 (HK.out x (List.mem_of_getElem? hx)).2 (HTL.out x (List.mem_of_getElem? hx)) (HA.out.below hb') (HP.out.below hb')
      have HBD' := Lib.hid (IsBuilder_below hbd ((Below.refl wr.heap.size wr).alloc (Nat.le_refl _) (entO (strB x.key) x.val.inner x.val.it.k x.val.it.n (strB x.val.it.s) (.slice au x.val.it.ps.length cu) (.slice av x.val.its.length cv) (.slice aw x.val.ps.length cw))))
      have HB' := Lib.hid hb'
      rw [drop_at xs j x hx] at H
      have HX := Lib.hid hx
      clear hcell q0 q1 q2 q3 q4 q5 q6 q7 hcs hF hMA hx hb' hbd hb hck
      cases hpt : enT x with
      | none =>
        have HN : Hid (jnGo enT sep true xs = none) := Lib.hid (by rw [H.out, jnGo_none _ _ _ _ _ hpt] <;> rfl)
        rw [hpt, show textV none = .tuple #[.string ⟨#[]⟩, .int .i64 2] from rfl] at cT
        clear hpt H
        generalize strB x.val.it.s = XS at *
        generalize strB x.key = XK at *
        go_wp2_with fail
        refine cT.mono ?_
        rintro e w2 ⟨rfl, hb2⟩
        go_wp2_with fail
        refine bodyPost_ret (v := textV none) (by rw [show textV none = .tuple #[.string ⟨#[]⟩, .int .i64 2] from rfl]; simp [results, Tryz.results40, go_sem]) rfl ⟨by rw [HN.out], HB'.out.trans (hb2.mono HB'.out.size)⟩
      | some t =>
        have htl := enT_len x t (HK.out x (List.mem_of_getElem? HX.out)).2 (HTL.out x (List.mem_of_getElem? HX.out)) hpt
        rw [jnGo_some _ _ _ _ _ t hpt] at H
        rw [hpt, show textV (some t) = .tuple #[.string (strB t), .int .i64 0] from rfl] at cT
        have htz := strB_size t
        have HTC := Lib.hid (show Lib.strCells (strB t) = Lib.byteCells t from rfl)
        have HTz := Lib.hid htz
        clear hpt htz
        generalize strB t = T at *
        generalize strB x.val.it.s = XS at *
        generalize strB x.key = XK at *
        by_cases hj0 : j = 0
        · have hjy : (j == 0) = true := by simpa using hj0
          rw [hjy] at H
          have hjp : ¬ (0 : Int) < (j : Int) := by omega
          have HJ0 := Lib.hid hj0
          clear hj0
          go_wp2_with fail
          refine cT.mono ?_
          rintro e w2 ⟨rfl, hb2⟩
          have hbd2 := IsBuilder_below HBD'.out hb2
          have HB2 := Lib.hid (HB'.out.trans (hb2.mono HB'.out.size))
          have hsz2 : w.heap.size < w2.heap.size := IsBuilder_lt hbd2
          have cW := writeString_any w.heap.size w.heap.size (Lib.byteCells acc) T w2 hbd2 (by rw [Lib.byteCells_length, HTz.out]; omega) (by omega)
          clear cT hb2 hbd2
          go_wp2_with fail
          refine cW.mono ?_
          rintro e w3 ⟨rfl, hbd3, hb3⟩
          rw [HTC.out, show Lib.byteCells acc ++ Lib.byteCells t = Lib.byteCells (acc ++ t) by simp [Lib.byteCells]] at hbd3
          have HB3 := Lib.hid (HB2.out.trans (hb3.mono (by omega)))
          clear cW hb3
          go_wp2_with fail
          go_roundw
          case rel =>
            refine ⟨j + 1, acc ++ t, by go_num, by omega, by rw [List.length_append]; omega, Lib.hid ?_, .inr hbd3, HB3.out⟩
            rw [H.out, Option.map_map, show (j + 1 == 0) = false from rfl]
            congr 1
            funext y
            simp
          case measure => simp [intOf]; omega
        · have hjn : (j == 0) = false := by simpa using hj0
          rw [hjn] at H
          have hjp : (0 : Int) < (j : Int) := by omega
          go_wp2_with fail
          refine cT.mono ?_
          rintro e w2 ⟨rfl, hb2⟩
          have hbd2 := IsBuilder_below HBD'.out hb2
          have HB2 := Lib.hid (HB'.out.trans (hb2.mono HB'.out.size))
          have hsz2 : w.heap.size < w2.heap.size := IsBuilder_lt hbd2
          have cW := writeString_any w.heap.size w.heap.size (Lib.byteCells acc) (strB sep) w2 hbd2 (by rw [Lib.byteCells_length]; omega) (by omega)
          clear cT hb2 hbd2
          go_wp2_with fail
          refine cW.mono ?_
          rintro e w3 ⟨rfl, hbd3, hb3⟩
          rw [HSep.out, show Lib.byteCells acc ++ Lib.byteCells sep = Lib.byteCells (acc ++ sep) by simp [Lib.byteCells]] at hbd3
          have HB3 := Lib.hid (HB2.out.trans (hb3.mono (by omega)))
          have hsz3 : w.heap.size < w3.heap.size := IsBuilder_lt (.inr hbd3)
          have cW2 := writeString_any w.heap.size w.heap.size (Lib.byteCells (acc ++ sep)) T w3 (.inr hbd3) (by rw [Lib.byteCells_length, List.length_append, HTz.out]; omega) (by omega)
          clear cW hb3 hbd3
          go_wp2_with fail
          refine cW2.mono ?_
          rintro e w4 ⟨rfl, hbd4, hb4⟩
          rw [HTC.out, show Lib.byteCells (acc ++ sep) ++ Lib.byteCells t = Lib.byteCells (acc ++ sep ++ t) by simp [Lib.byteCells]] at hbd4
          have HB4 := Lib.hid (HB3.out.trans (hb4.mono (by omega)))
          clear cW2 hb4
          go_wp2_with fail
          go_roundw
          case rel =>
            refine ⟨j + 1, acc ++ sep ++ t, by go_num, by omega, by rw [List.length_append, List.length_append]; omega, Lib.hid ?_, .inr hbd4, HB4.out⟩
            rw [H.out, Option.map_map, show (j + 1 == 0) = false from rfl]
            congr 1
            funext y
            simp
          case measure => simp [intOf]; omega
    · obtain rfl : j = xs.length := by omega
      have HT2 : Hid (textV (jnGo enT sep true xs) = .tuple #[.string ⟨acc.toArray⟩, .int .i64 0]) := Lib.hid (by
        rw [H.out, List.drop_length, jnGo]
        simp [textV, strB])
      have cS := Tryz.Builder_String_any w.heap.size w.heap.size acc wr hbd (by omega)
      clear hbd hb H
      go_wp2_with fail
      refine cS.mono ?_
      rintro e w2 ⟨rfl, hb2⟩
      go_wp2_with fail
      refine bodyPost_ret (v := .tuple #[.string ⟨acc.toArray⟩, .int .i64 0]) (by simp [results, Tryz.results40, go_sem]) rfl ⟨by rw [HT2.out], HB.out.trans hb2⟩

end Go.Proofs.YtjbipplaacgnkaaGreatDoor

namespace Go.Proofs.YtjbipplaacgnkaaGreatDoor
open Go.RowKit Go.Maps
open Go.WideMaps (keyOf_string_mk)

/-- Whether two keys of a dictionary are equal. -/
def eqKE (ps : List Ent) : Bool := !decide (ps.map Ent.key).Nodup

set_option maxRecDepth 100000 in
set_option maxHeartbeats 2000000 in
theorem hasEqualKeysE_any (v : Value) (ps : List Ent) (w : World) (h : GOff entR 0 none w v ps) (hl : ps.length ≤ 100000) (hk : ∀ p ∈ ps, p.key.length ≤ 100000) :
    Calls Tryz.prog 39 #[v] w fun e w' => e = .returned (.bool (eqKE ps)) ∧ Below w.heap.size w w' := by
  obtain ⟨ao, cap, rfl, hc⟩ := h
  have Hmap0 := Lib.hid (World.ownsMap_made (H := Unit) w Tryz.prog 9 unitElem)
  have HB0 : Hid (Below w.heap.size w (w.alloc (.map #[] 0))) := Lib.hid ((Below.refl _ _).alloc (Nat.le_refl _) _)
  have hmm := @run_makeMap Tryz.prog
  have HK := Lib.hid hk
  have HC := Lib.hid hc
  clear hk hc
  go_enter Tryz.func39, Tryz.ntmps39
  go_wp2_with fail
  clear hmm
  go_loopw [9] (fun i wr => ∃ (j : Nat) (D : DataW Unit), i = .int .i64 j ∧ j ≤ ps.length ∧ wr.ownsMap Tryz.prog 9 unitElem w.heap.size j D ∧ Hid (KeySet D ((ps.take j).map Ent.key)) ∧ Below w.heap.size w wr) (fun i _ => ps.length - (intOf i).toNat)
  case atStart => exact ⟨0, .map [], rfl, Nat.zero_le _, Hmap0.out, Lib.hid keySet_none, HB0.out⟩
  case round =>
    obtain ⟨j, D, rfl, hj, hmap, HD, hb⟩ := hrel
    clear Hmap0 HB0
    by_cases hlt : j < ps.length
    · rcases HC.out with hnil | ⟨c, off, rfl, _, _, hcl, hcell⟩
      · exfalso
        rw [hnil] at hlt
        simp at hlt
      · obtain ⟨p, hp⟩ : ∃ p, ps[j]? = some p := ⟨_, List.getElem?_eq_getElem hlt⟩
        obtain ⟨⟨u, u2, u3⟩, hcs, hF⟩ := hcell j p hp
        obtain ⟨au, cu, rfl⟩ := hF.1.form
        obtain ⟨av, cv, rfl⟩ := hF.2.1.form
        obtain ⟨aw, cw, rfl⟩ := hF.2.2.form
        have q0 := hcs 0 (by decide)
        have q1 := hcs 1 (by decide)
        have q2 := hcs 2 (by decide)
        have q3 := hcs 3 (by decide)
        have q4 := hcs 4 (by decide)
        have q5 := hcs 5 (by decide)
        have q6 := hcs 6 (by decide)
        have q7 := hcs 7 (by decide)
        have hck : ∀ i, wr.cell? ⟨c, i, none⟩ = w.cell? ⟨c, i, none⟩ := fun i => hb.cell (p := ⟨c, i, none⟩) hcl
        have a0 := (hck _).trans q0
        have a1 := (hck _).trans q1
        have a2 := (hck _).trans q2
        have a3 := (hck _).trans q3
        have a4 := (hck _).trans q4
        have a5 := (hck _).trans q5
        have a6 := (hck _).trans q6
        have a7 := (hck _).trans q7
        simp only [Nat.add_zero, entR, memR, List.getElem?_cons_zero, List.getElem?_cons_succ] at a0 a1 a2 a3 a4 a5 a6 a7
        have hkl := HK.out p (List.mem_of_getElem? hp)
        have Hkey : Hid (keyOf Tryz.prog 9 (.string (strB p.key)) = some (.string p.key)) := Lib.hid (keyOf_string_mk Tryz.underlying9 (by rw [strB_size]; unfold maxLen; omega))
        have Htk : Hid ((ps.take (j + 1)).map Ent.key = (ps.take j).map Ent.key ++ [p.key]) := Lib.hid (by
          rw [List.take_add_one, hp]; simp)
        have hm1 := hmap.alloc (entO (strB p.key) p.val.inner p.val.it.k p.val.it.n (strB p.val.it.s) (.slice au p.val.it.ps.length cu) (.slice av p.val.its.length cv) (.slice aw p.val.ps.length cw))
        have HM1 := Lib.hid hm1
        have HB := Lib.hid hb
        have hml : w.heap.size < wr.heap.size := hmap.lt
        clear hcell q0 q1 q2 q3 q4 q5 q6 q7 hcs hF hck hp hm1 hb hmap
        go_wp2_with (at_mapUpdate; refine wpList_mapUpdate_own _ rfl _ _ _ 131 rfl 9 _ (string_keyed Tryz.underlying9) Tryz.underlying131 _ w.heap.size j _ rfl HM1.out (by unfold maxLen; omega) _ _ _ rfl rfl Hkey.out _ [] (unitElem_mk (H := Unit)) ?_; intro w4 hmap4 hgrow4)
        go_roundw
        case rel =>
          refine ⟨j + 1, D.put (.string p.key) (.agg []), by go_num, by omega, hmap4, Lib.hid ?_, ?_⟩
          · rw [Htk.out]; exact keySet_put HD.out _ _
          · exact (HB.out.alloc (by omega) _).grown hgrow4 (by simp; omega) (fun k e => by cases e; exact Nat.le_refl _)
        case measure => simp [intOf]; omega
    · obtain rfl : j = ps.length := by omega
      have hks := HD.out
      rw [List.take_length] at hks
      have Hr : Hid (decide ((Maps.size D : Int) < (ps.length : Int)) = eqKE ps) := Lib.hid (by
        obtain ⟨_, _, h3, h4⟩ := hks
        rw [List.length_map] at h3 h4
        rw [eqKE, Bool.eq_iff_iff]
        simp only [decide_eq_true_eq, Bool.not_eq_true', decide_eq_false_iff_not]
        rw [← h4]
        omega)
      have Hmap := Lib.hid hmap
      have HB := Lib.hid hb
      clear hks hmap hb
      go_wp2_with (at_len; refine wpList_len_own _ rfl _ 131 rfl 9 _ Tryz.underlying131 _ w.heap.size ps.length _ rfl Hmap.out ?_)
      go_ret
      exact ⟨ret_eq (bool_eq (by first | exact Hr.out | (rw [← Hr.out]; simp))), HB.out⟩

end Go.Proofs.YtjbipplaacgnkaaGreatDoor

namespace Go.Proofs.YtjbipplaacgnkaaGreatDoor
open Go.RowKit Go.Maps

/-- The text of a dictionary, if it may be. -/
def dcT (xs : List Ent) : Option (List UInt8) := if eqKE xs = true then none else jnGo enT [44, 32] true xs

set_option maxRecDepth 100000 in
set_option maxHeartbeats 1000000 in
theorem printDict_any (v : Value) (xs : List Ent) (w : World) (h : GOff entR 0 none w v xs) (hl : xs.length ≤ 1000) (hk : ∀ x ∈ xs, MemOk x.val ∧ x.key.length ≤ 100000) (hT : ∀ x ∈ xs, ∀ t, memT x.val = some t → t.length ≤ 1000000000) (hA : Alph w) (hP : Pow w) :
    Calls Tryz.prog 21 #[v] w (printPost (textV (dcT xs)) w) := by
  have cE := hasEqualKeysE_any v xs w h (by omega) (fun p hp => (hk p hp).2)
  have cJ := fun W (hb : Below w.heap.size w W) => joinedE_any v xs [44, 32] W (h.below hb) hl hk (by decide) hT (hA.below hb) (hP.below hb)
  rw [show strB [44, 32] = ⟨#[44, 32]⟩ from rfl] at cJ
  obtain ⟨ao, cap, rfl, _⟩ := h
  clear hA hP hk hT
  cases hq : eqKE xs with
  | true =>
    have HV : Hid (textV (dcT xs) = .tuple #[.string ⟨#[]⟩, .int .i64 2]) := Lib.hid (by rw [dcT, hq] <;> rfl)
    rw [hq] at cE
    clear cJ hq
    go_enter Tryz.func21, Tryz.ntmps21
    go_wp2_with fail
    refine cE.mono ?_
    rintro e w1 ⟨rfl, hb⟩
    go_wp2_with fail
    exact bodyPost_ret (v := .tuple #[.string ⟨#[]⟩, .int .i64 2]) (by simp [results, Tryz.results21, go_sem]) rfl ⟨by rw [HV.out], hb⟩
  | false =>
    rw [hq] at cE
    cases hx : jnGo enT [44, 32] true xs with
    | none =>
      have HV : Hid (textV (dcT xs) = .tuple #[.string ⟨#[]⟩, .int .i64 2]) := Lib.hid (by rw [dcT, hq, hx] <;> rfl)
      rw [hx, show textV none = .tuple #[.string ⟨#[]⟩, .int .i64 2] from rfl] at cJ
      clear hq hx
      go_enter Tryz.func21, Tryz.ntmps21
      go_wp2_with fail
      refine cE.mono ?_
      rintro e w1 ⟨rfl, hb⟩
      have HB := Lib.hid hb
      have cJ1 := cJ w1 hb
      clear cJ hb
      go_wp2_with fail
      refine cJ1.mono ?_
      rintro e w2 ⟨rfl, hb2⟩
      go_wp2_with fail
      exact bodyPost_ret (v := .tuple #[.string ⟨#[]⟩, .int .i64 2]) (by simp [results, Tryz.results21, go_sem]) rfl ⟨by rw [HV.out], HB.out.trans (hb2.mono HB.out.size)⟩
    | some t =>
      have HV : Hid (textV (dcT xs) = .tuple #[.string (strB t), .int .i64 0]) := Lib.hid (by rw [dcT, hq, hx] <;> rfl)
      rw [hx, show textV (some t) = .tuple #[.string (strB t), .int .i64 0] from rfl] at cJ
      clear hq hx
      go_enter Tryz.func21, Tryz.ntmps21
      go_wp2_with fail
      refine cE.mono ?_
      rintro e w1 ⟨rfl, hb⟩
      have HB := Lib.hid hb
      have cJ1 := cJ w1 hb
      clear cJ hb
      go_wp2_with fail
      refine cJ1.mono ?_
      rintro e w2 ⟨rfl, hb2⟩
      go_wp2_with fail
      exact bodyPost_ret (v := .tuple #[.string (strB t), .int .i64 0]) (by simp [results, Tryz.results21, go_sem]) rfl ⟨by rw [HV.out], HB.out.trans (hb2.mono HB.out.size)⟩

end Go.Proofs.YtjbipplaacgnkaaGreatDoor

namespace Go.Proofs.YtjbipplaacgnkaaGreatDoor

theorem itmL_plain (l : List UInt8) (g : Got) (h : readL l = some g) (h2 : (l.drop g.m).head? ≠ some 59) : itmL l = some (g, [], g.m) := by
  rw [itmL, h]
  dsimp only
  rw [psL_end _ _ _ h2]
  simp
theorem psL_one (l : List UInt8) (p : Prm) (n : Nat) (h : l.head? = some 59) (hp : parL (l.drop 1) = some (p, n)) (h2 : (l.drop (1 + n)).head? ≠ some 59) : psL l [] 0 = some ([p], 1 + n) := by
  rw [psL_some l [] 0 p n h hp, psL_end _ _ _ h2]
  rw [Nat.zero_add]
  rfl
theorem itmL_one (l : List UInt8) (g : Got) (p : Prm) (n : Nat) (h : readL l = some g) (h1 : (l.drop g.m).head? = some 59) (hp : parL ((l.drop g.m).drop 1) = some (p, n)) (h2 : ((l.drop g.m).drop (1 + n)).head? ≠ some 59) : itmL l = some (g, [p], g.m + (1 + n)) := by
  rw [itmL, h]
  dsimp only
  rw [psL_one _ p n h1 hp h2]

def d0 : List UInt8 := [97, 61, 40, 49, 32, 50, 41, 59, 120, 44, 32, 98, 32, 44, 97, 61, 51]
def i1 : Itm := ⟨1, 1, [], []⟩
def i2 : Itm := ⟨1, 2, [], []⟩
def i3 : Itm := ⟨1, 3, [], []⟩
def pX : Prm := ⟨[120], 6, 1, []⟩
def pB : Prm := ⟨[98], 6, 1, []⟩
def mA : Mem := ⟨true, noItm, [i1, i2], [pX]⟩
def mB : Mem := ⟨false, ⟨6, 1, [], []⟩, [], []⟩
def m3 : Mem := ⟨false, i3, [], []⟩
def eA : Ent := ⟨[97], mA⟩
def eB : Ent := ⟨[98], mB⟩
def e3 : Ent := ⟨[97], m3⟩

theorem aw_inner : innL [49, 32, 50, 41, 59, 120, 44, 32, 98, 32, 44, 97, 61, 51] = some (mA, [44, 32, 98, 32, 44, 97, 61, 51]) := by
  have h1 : itmL [49, 32, 50, 41, 59, 120, 44, 32, 98, 32, 44, 97, 61, 51] = some (⟨1, 1, [], 1⟩, [], 1) := itmL_plain _ ⟨1, 1, [], 1⟩ (by kernel_rfl) (by decide)
  have h2 : itmL [50, 41, 59, 120, 44, 32, 98, 32, 44, 97, 61, 51] = some (⟨1, 2, [], 1⟩, [], 1) := itmL_plain _ ⟨1, 2, [], 1⟩ (by kernel_rfl) (by decide)
  have hi : itsL [49, 32, 50, 41, 59, 120, 44, 32, 98, 32, 44, 97, 61, 51] = some ([i1, i2], [59, 120, 44, 32, 98, 32, 44, 97, 61, 51]) := by
    show itsF 15 [49, 32, 50, 41, 59, 120, 44, 32, 98, 32, 44, 97, 61, 51] [] = _
    rw [itsF_some 14 _ _ _ _ _ (by decide) h1 (by decide)]
    show itsF 14 [50, 41, 59, 120, 44, 32, 98, 32, 44, 97, 61, 51] [i1] = _
    rw [itsF_some 13 _ _ _ _ _ (by decide) h2 (by decide)]
    show itsF 13 [41, 59, 120, 44, 32, 98, 32, 44, 97, 61, 51] [i1, i2] = _
    rw [itsF_end 12 _ _ (by decide)]
    rfl
  have hp : psL [59, 120, 44, 32, 98, 32, 44, 97, 61, 51] [] 0 = some ([pX], 2) := psL_one _ pX 1 (by decide) (by kernel_rfl) (by decide)
  rw [innL, hi]
  dsimp only
  rw [hp]
  rfl
theorem aw_e1 : entL d0 = some (eA, [44, 32, 98, 32, 44, 97, 61, 51]) := by
  have hk : klen d0 = 1 := by kernel_rfl
  have hv : valM (d0.drop 1) = some (mA, [44, 32, 98, 32, 44, 97, 61, 51]) := by
    rw [valM, if_pos (by decide)]
    show memL [40, 49, 32, 50, 41, 59, 120, 44, 32, 98, 32, 44, 97, 61, 51] = _
    rw [memL, if_pos (by decide)]
    exact aw_inner
  rw [entL, hk, if_neg (by decide), hv]
  rfl
theorem aw_e2 : entL [98, 32, 44, 97, 61, 51] = some (eB, [32, 44, 97, 61, 51]) := by
  have hk : klen [98, 32, 44, 97, 61, 51] = 1 := by kernel_rfl
  have hv : valM (([98, 32, 44, 97, 61, 51] : List UInt8).drop 1) = some (mB, [32, 44, 97, 61, 51]) := by
    rw [valM, if_neg (by decide), psL_end _ _ _ (by decide)]
    rfl
  rw [entL, hk, if_neg (by decide), hv]
  rfl
theorem aw_e3 : entL [97, 61, 51] = some (e3, []) := by
  have hk : klen [97, 61, 51] = 1 := by kernel_rfl
  have h1 : itmL [51] = some (⟨1, 3, [], 1⟩, [], 1) := itmL_plain _ ⟨1, 3, [], 1⟩ (by kernel_rfl) (by decide)
  have hv : valM (([97, 61, 51] : List UInt8).drop 1) = some (m3, []) := by
    rw [valM, if_pos (by decide)]
    show memL [51] = _
    rw [memL, if_neg (by decide), h1]
    rfl
  rw [entL, hk, if_neg (by decide), hv]
  rfl
theorem aw_dict : sepL entL d0 = some [eA, eB, e3] := by
  rw [sepL, if_neg (by decide)]
  show sepF entL 18 d0 [] = _
  rw [sepF_more entL 17 _ _ _ _ aw_e1 (by decide) (by decide)]
  show sepF entL 17 [98, 32, 44, 97, 61, 51] [eA] = _
  rw [sepF_more entL 16 _ _ _ _ aw_e2 (by decide) (by decide)]
  show sepF entL 16 [97, 61, 51] [eA, eB] = _
  rw [sepF_end entL 15 _ _ _ _ aw_e3 (by decide)]
  rfl
theorem aw_oe : oeK [eA, eB, e3] = [e3, eB] := by kernel_rfl
theorem aw_dtext : dcT [e3, eB] = some [97, 61, 51, 44, 32, 98] := by kernel_rfl

def l0 : List UInt8 := [32, 49, 32, 44, 32, 40, 97, 59, 98, 32, 32, 99, 41]
def iA : Itm := ⟨4, 0, [97], [pB]⟩
def iC : Itm := ⟨4, 0, [99], []⟩
def m1 : Mem := ⟨false, i1, [], []⟩
def mL : Mem := ⟨true, noItm, [iA, iC], []⟩
theorem aw_list : sepL memL l0 = some [m1, mL] := by
  have h1 : memL [49, 32, 44, 32, 40, 97, 59, 98, 32, 32, 99, 41] = some (m1, [32, 44, 32, 40, 97, 59, 98, 32, 32, 99, 41]) := by
    rw [memL, if_neg (by decide), itmL_plain _ ⟨1, 1, [], 1⟩ (by kernel_rfl) (by decide)]
    rfl
  have h2 : memL [40, 97, 59, 98, 32, 32, 99, 41] = some (mL, []) := by
    have q1 : itmL [97, 59, 98, 32, 32, 99, 41] = some (⟨4, 0, [97], 1⟩, [pB], 3) := itmL_one _ ⟨4, 0, [97], 1⟩ pB 1 (by kernel_rfl) (by decide) (by kernel_rfl) (by decide)
    have q2 : itmL [99, 41] = some (⟨4, 0, [99], 1⟩, [], 1) := itmL_plain _ ⟨4, 0, [99], 1⟩ (by kernel_rfl) (by decide)
    have hi : itsL [97, 59, 98, 32, 32, 99, 41] = some ([iA, iC], []) := by
      show itsF 8 [97, 59, 98, 32, 32, 99, 41] [] = _
      rw [itsF_some 7 _ _ _ _ _ (by decide) q1 (by decide)]
      show itsF 7 [99, 41] [iA] = _
      rw [itsF_some 6 _ _ _ _ _ (by decide) q2 (by decide)]
      show itsF 6 [41] [iA, iC] = _
      rw [itsF_end 5 _ _ (by decide)]
      rfl
    rw [memL, if_pos (by decide)]
    show innL [97, 59, 98, 32, 32, 99, 41] = _
    rw [innL, hi]
    dsimp only
    rw [psL_end _ _ _ (by decide)]
    rfl
  rw [sepL, if_neg (by decide)]
  show sepF memL 14 [49, 32, 44, 32, 40, 97, 59, 98, 32, 32, 99, 41] [] = _
  rw [sepF_more memL 13 _ _ _ _ h1 (by decide) (by decide)]
  show sepF memL 13 [40, 97, 59, 98, 32, 32, 99, 41] [m1] = _
  rw [sepF_end memL 12 _ _ _ _ h2 (by decide)]
  rfl
theorem aw_ltext : lsT [m1, mL] = some [49, 44, 32, 40, 97, 59, 98, 32, 99, 41] := by kernel_rfl
theorem aw_none : sepL memL [49, 44] = none := by
  have h1 : memL [49, 44] = some (m1, [44]) := by
    rw [memL, if_neg (by decide), itmL_plain _ ⟨1, 1, [], 1⟩ (by kernel_rfl) (by decide)]
    rfl
  have h2 : memL [] = none := rfl
  rw [sepL, if_neg (by decide)]
  show sepF memL 3 [49, 44] [] = _
  rw [sepF_more memL 2 _ _ _ _ h1 (by decide) (by decide)]
  exact sepF_none memL 1 _ _ h2

end Go.Proofs.YtjbipplaacgnkaaGreatDoor
