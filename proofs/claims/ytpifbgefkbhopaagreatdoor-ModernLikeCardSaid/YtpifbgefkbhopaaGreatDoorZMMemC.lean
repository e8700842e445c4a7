/- The contract of members.readItems: the items of an inner list, and what is behind its bracket. · The contracts of members.readInner and members.readMember. · The contract of members.readMember. · Rows of whatever is owned whole: members of a list, entries of a dictionary. · The contracts of members.separated at members, and of members.List. · The contracts of members.readValue and members.readEntry. · The contract of members.readEntry. · The contract of members.separated at entries. · The contracts of the document's SameItem (sculleryref04), and of members.isOfOneKind. · The contract of members.joined at items: their texts, with a separator between. · The contract of members.memberText. · Rows in memory, read; the contract of members.joined at members, and of members.PrintList. · Rows that share their parts; entries of which each key comes once. · The contract of members.oneOfEachKey. · Plain: how great a member is that is read; the contract of members.Dict. · The contract of members.PrintList. · The contract of members.entryText. · The contract of members.joined at entries. · The contract of members.hasEqualKeys. · The contract of members.PrintDict. -/
import Derived.Test.YtpifbgefkbhopaaGreatDoorZMemA
import Derived.Test.YtpifbgefkbhopaaGreatDoorZMItmC
import Derived.Test.YtpifbgefkbhopaaGreatDoorZMItmR
import Derived.Test.YtpifbgefkbhopaaGreatDoorZMItmUa
import Derived.Deep.AppendLies

namespace Go.Proofs.YtpifbgefkbhopaaGreatDoor
open Go.RowKit Go.Maps

/-- The items up to a bracket, behind some, and what is behind it; the text without spaces ahead. By so many rounds. -/
def itsF : Nat → List UInt8 → List Itm → Option (List Itm × List UInt8)
  | 0, _, _ => none
  | f + 1, l, acc => if l.head? = some 41 then some (acc, l.drop 1) else match itmL l with
    | none => none
    | some (g, ps, m) => if endI (l.drop m) = true then itsF f (spD (l.drop m)) (acc ++ [⟨g.k, g.n, g.s, ps⟩]) else none
def itsL (l : List UInt8) : Option (List Itm × List UInt8) := itsF (l.length + 1) (spD l) []

theorem itsF_end (f : Nat) (l : List UInt8) (acc : List Itm) (h : l.head? = some 41) : itsF (f + 1) l acc = some (acc, l.drop 1) := by rw [itsF, if_pos h]
theorem itsF_none (f : Nat) (l : List UInt8) (acc : List Itm) (h : l.head? ≠ some 41) (hi : itmL l = none) : itsF (f + 1) l acc = none := by rw [itsF, if_neg h, hi]
theorem itsF_bad (f : Nat) (l : List UInt8) (acc : List Itm) (g : Got) (ps : List Prm) (m : Nat) (h : l.head? ≠ some 41) (hi : itmL l = some (g, ps, m)) (he : endI (l.drop m) = false) : itsF (f + 1) l acc = none := by
  rw [itsF, if_neg h, hi]
  simp [he]
theorem itsF_some (f : Nat) (l : List UInt8) (acc : List Itm) (g : Got) (ps : List Prm) (m : Nat) (h : l.head? ≠ some 41) (hi : itmL l = some (g, ps, m)) (he : endI (l.drop m) = true) : itsF (f + 1) l acc = itsF f (spD (l.drop m)) (acc ++ [⟨g.k, g.n, g.s, ps⟩]) := by
  rw [itsF, if_neg h, hi]
  simp [he]

theorem itmL_pos (l : List UInt8) (g : Got) (ps : List Prm) (m : Nat) (h : itmL l = some (g, ps, m)) : 1 ≤ m := by
  unfold itmL at h
  split at h
  · cases h
  · rename_i g3 hg
    split at h
    · cases h
    · obtain ⟨rfl, h2⟩ := Prod.mk.inj (Option.some.inj h)
      obtain ⟨rfl, rfl⟩ := Prod.mk.inj h2
      have := (readL_right _ _ hg).2.1
      omega

def itsPost (o : Option (List Itm × List UInt8)) (w : World) (e : Ending) (w' : World) : Prop :=
  Below w.heap.size w w' ∧ match o with
    | none => e = .returned (.tuple #[.slice none 0 0, .string ⟨#[]⟩, .int .i64 2])
    | some (xs, r) => ∃ v, e = .returned (.tuple #[v, .string (strB r), .int .i64 0]) ∧ OwnI 83 w' w.heap.size v xs

theorem info_item : (Tryz.prog.info? 83).map (fun i => (i.zero, i.size, i.bytes)) = some (some (.agg #[.int .i64 0, .int .i64 0, .string ⟨#[]⟩, .slice none 0 0]), 4, 56) := by kernel_rfl

set_option maxRecDepth 100000 in
set_option maxHeartbeats 4000000 in
theorem readItems_any (s : ByteArray) (w : World) (hs : s.size ≤ 100000) (hA : Alph w) :
    Calls Tryz.prog 135 #[.string s] w (itsPost (itsL s.data.toList) w) := by
  obtain ⟨i0, hi, hz0, hz1, hz2⟩ := info_parts info_item
  have HA := Lib.hid hA
  clear hA
  have hsp := spD_le s.data.toList
  rw [← Lib.size_eq] at hsp
  go_enter Tryz.func135, Tryz.ntmps135
  go_wp2_with fail
  refine (trimL1_any s _).mono ?_
  rintro e w1 ⟨rfl, hb1⟩
  go_wp2_with fail
  go_loopw [5, 6] (fun v r wr => ∃ (xs : List Itm) (l : List UInt8) (f : Nat), r = .string (strB l) ∧ l.length < f ∧ l.length + xs.length ≤ s.size ∧ Hid (itsL s.data.toList = itsF f l xs) ∧ OwnI 83 wr w.heap.size v xs ∧ Below w.heap.size w wr) (fun _ r _ => Lib.strSize r)
  case atStart => exact ⟨[], spD s.data.toList, s.data.toList.length + 1, rfl, by rw [← Lib.size_eq]; omega, by simpa using hsp, Lib.hid rfl, OwnI.nothing _ _ _, hb1⟩
  case round =>
    obtain ⟨xs, l, f, rfl, hf, hl, H, hown, hb⟩ := hrel
    obtain ⟨f, rfl⟩ : ∃ f', f = f' + 1 := ⟨f - 1, by omega⟩
    have HO := Lib.hid hown
    have HB := Lib.hid hb
    have hbz := hb.size
    have hls := strB_size l
    have HLS := Lib.hid hls
    have hls3 : (strB l).size ≤ 100000 := by omega
    clear hls
    have cH := fun W => hasPrefix_any (strB l) 41 W
    rw [strB_data] at cH
    clear hown hb
    by_cases h41 : l.head? = some 41
    · have HR := Lib.hid (H.out.trans (itsF_end f l xs h41))
      have hl0 : 1 ≤ l.length := by cases l with | nil => cases h41 | cons c r => simp
      rw [show (l.head? == some 41) = true by rw [h41]; rfl] at cH
      have hx : (strB l).extract 1 (strB l).size = strB (l.drop 1) := by
        rw [← strB_of ((strB l).extract 1 (strB l).size), Lib.extract_to_end, strB_data]
      have HX := Lib.hid hx
      have j2 : (1 : Int) ≤ ((strB l).size : Int) := by have := HLS.out; omega
      obtain ⟨us, u1, u2, u3⟩ := HO.out
      obtain ⟨ao, cap, rfl⟩ := owns_form u2
      clear u1 u2 u3 hx h41
      generalize strB l = L at *
      go_wp2_with fail
      refine (cH _).mono ?_
      rintro e w2 ⟨rfl, rfl⟩
      go_wp2_with fail
      go_quiet (fail)
      go_wp2_with fail
      refine bodyPost_ret (v := .tuple #[.slice ao xs.length cap, .string (L.extract 1 L.size), .int .i64 0]) (by simp [results, Tryz.results135, go_sem]) rfl ⟨HB.out.trans ((below_drewN _ _).mono hbz), ?_⟩
      rw [HR.out]
      exact ⟨_, by rw [HX.out], HO.out.below (below_drewN _ _)⟩
    · rw [show (l.head? == some 41) = false by rw [beq_eq_false_iff_ne]; exact h41] at cH
      have cR := fun W hW => iread_any (strB l) W (by omega) hW
      rw [strB_data] at cR
      cases hit : itmL l with
      | none =>
        have HR := Lib.hid (H.out.trans (itsF_none f l xs h41 hit))
        rw [hit] at cR
        clear hit h41
        generalize strB l = L at *
        go_wp2_with fail
        refine (cH _).mono ?_
        rintro e w2 ⟨rfl, rfl⟩
        go_wp2_with fail
        refine (cR _ (HA.out.below HB.out)).mono ?_
        rintro e w3 ⟨hb3, rfl⟩
        go_wp2_with fail
        refine bodyPost_ret (v := .tuple #[.slice none 0 0, .string ⟨#[]⟩, .int .i64 2]) (by simp [results, Tryz.results135, go_sem]) rfl ⟨?_, ?_⟩
        · exact (HB.out.trans (hb3.mono hbz)).alloc (Nat.le_trans hbz hb3.size) _
        · rw [HR.out]
      | some gpm =>
        obtain ⟨g, ps, m⟩ := gpm
        have hm1 := itmL_pos _ _ _ _ hit
        have hm2 := itmL_le _ _ _ _ hit
        have hm3 := itmL_used _ _ _ _ hit
        have hm4 := szN_len ps
        rw [hit] at cR
        have hxd : ((strB l).extract m (strB l).size).data.toList = l.drop m := by rw [Lib.extract_to_end, strB_data]
        have cE := fun W => endsItem_any ((strB l).extract m (strB l).size) W
        rw [hxd] at cE
        have j2 : (m : Int) ≤ ((strB l).size : Int) := by have := HLS.out; omega
        have j0 : (0 : Int) ≤ (m : Int) := by omega
        cases he : endI (l.drop m) with
        | false =>
          have HR := Lib.hid (H.out.trans (itsF_bad f l xs g ps m h41 hit he))
          rw [he] at cE
          clear hit h41 he hxd
          generalize strB l = L at *
          go_wp2_with fail
          refine (cH _).mono ?_
          rintro e w2 ⟨rfl, rfl⟩
          go_wp2_with fail
          refine (cR _ (HA.out.below HB.out)).mono ?_
          rintro e w3 ⟨hb3, v3, rfl, ho3⟩
          obtain ⟨ao3, cap3, rfl⟩ := owns_form ho3
          go_wp2_with fail
          refine (cE _).mono ?_
          rintro e w4 ⟨rfl, rfl⟩
          go_wp2_with fail
          refine bodyPost_ret (v := .tuple #[.slice none 0 0, .string ⟨#[]⟩, .int .i64 2]) (by simp [results, Tryz.results135, go_sem]) rfl ⟨?_, ?_⟩
          · exact (HB.out.trans (hb3.mono hbz)).alloc (Nat.le_trans hbz hb3.size) _
          · rw [HR.out]
        | true =>
          have HR := Lib.hid (H.out.trans (itsF_some f l xs g ps m h41 hit he))
          rw [he] at cE
          have cT := fun W => trimL1_any ((strB l).extract m (strB l).size) W
          rw [hxd] at cT
          have hsd := spD_le (l.drop m)
          rw [List.length_drop] at hsd
          clear hit h41 he hxd
          generalize strB l = L at *
          obtain ⟨gk, gn, gs, gm⟩ := g
          simp only at cR HR
          go_wp2_with fail
          refine (cH _).mono ?_
          rintro e w2 ⟨rfl, rfl⟩
          go_wp2_with fail
          refine (cR _ (HA.out.below HB.out)).mono ?_
          rintro e w3 ⟨hb3, v3, rfl, ho3⟩
          obtain ⟨ao3, cap3, rfl⟩ := owns_form ho3
          obtain ⟨us, u1, u2, u3⟩ := HO.out
          obtain ⟨ao, cap, rfl⟩ := owns_form u2
          have hpo : PrmsOff w.heap.size (Value.slice ao xs.length cap).ownBlock w3 (.slice ao3 ps.length cap3) ps := PrmsOff.made ho3 hbz (fun g hg => (World.ownsRow.lt u2 g hg).2)
          have hz3 := Nat.le_trans hbz hb3.size
          have hbW : Below w3.heap.size w3 ((w3.alloc (.cells #[.int .i64 gk, .int .i64 gn, .string (strB gs), .slice ao3 ps.length cap3] 83)).alloc (.cells #[.int .i64 gk, .int .i64 gn, .string (strB gs), .slice ao3 ps.length cap3] 83)) := ((Below.refl _ _).alloc (Nat.le_refl _) _).alloc (by simp) _
          have hOW := ownsRow_later (ownsRow_later u2 hb3) hbW
          have hnew := cells_new (w3.alloc (.cells #[.int .i64 gk, .int .i64 gn, .string (strB gs), .slice ao3 ps.length cap3] 83)) (cellsI ⟨gk, gn, gs, ps⟩ (.slice ao3 ps.length cap3)) 83
          rw [show (w3.alloc (.cells #[.int .i64 gk, .int .i64 gn, .string (strB gs), .slice ao3 ps.length cap3] 83)).heap.size = w3.heap.size + 1 by simp] at hnew
          have HNew := Lib.hid hnew
          clear hnew
          have HU3 := Lib.hid (fun (j : Nat) (u : Value) (x : Itm) hu hx => ((u3 j u x hu hx).below hb3).below hbW)
          have HPO := Lib.hid (hpo.below hbW)
          have HBW := Lib.hid ((HB.out.trans (hb3.mono hbz)).trans (hbW.mono hz3))
          have HU1 := Lib.hid u1
          clear u3 hpo u2 hb3 ho3 u1
          go_wp2_with fail
          refine (cE _).mono ?_
          rintro e w4 ⟨rfl, rfl⟩
          go_wp2_with (at_builtin; refine wpList_append_lies _ rfl _ _ 84 rfl w.heap.size 83 i0 (.agg #[.int .i64 0, .int .i64 0, .string ⟨#[]⟩, .slice none 0 0]) 4 56 Tryz.underlying84 hi hz0 hz1 hz2 rfl (by decide) _ xs.length (rowI (xs.zip us)) rfl hOW ⟨_, 0, none⟩ 1 1 (cellsI ⟨gk, gn, gs, ps⟩ (.slice ao3 ps.length cap3)) rfl rfl HNew.out (by simp [Value.oneCell', cellsI]) (by decide) (by unfold maxLen; omega) (by omega) (by simp; omega) _ rfl ?_; intro g5 cap5 w5 hown5 hgrow5 hat5 hlt5)
          have hN := OwnI.snoc (x := ⟨gk, gn, gs, ps⟩) HU1.out HU3.out HPO.out hown5 hgrow5 hat5
          refine (cT _).mono ?_
          rintro e w6 ⟨rfl, hb6⟩
          have hN6 := hN.below hb6
          have hB6 : Below w.heap.size w w6 := by
            have h1 := HBW.out
            have h2 : Below w.heap.size w w5 := ⟨hgrow5.os.trans h1.os, hgrow5.tape.trans h1.tape, hgrow5.output.trans h1.output, Nat.le_trans h1.size hgrow5.size, fun i hi => (hgrow5.block i (Nat.lt_of_lt_of_le hi h1.size) (own_ne hOW hi)).trans (h1.block i hi)⟩
            exact h2.trans (hb6.mono h2.size)
          clear hN hown5 hgrow5 hb6 hOW hbW
          go_wp2_with fail
          go_roundw
          case rel => exact ⟨xs ++ [⟨gk, gn, gs, ps⟩], spD (l.drop m), f, rfl, by omega, by simp; omega, HR, by simpa using hN6, hB6⟩
          case measure =>
            have := HLS.out
            simp [Lib.strSize, strB_size]
            omega

end Go.Proofs.YtpifbgefkbhopaaGreatDoor

namespace Go.Proofs.YtpifbgefkbhopaaGreatDoor
open Go.RowKit Go.Maps

/-- A member of a list. -/
structure Mem where
  inner : Bool
  it : Itm
  its : List Itm
  ps : List Prm

def noItm : Itm := ⟨0, 0, [], []⟩

/-- An inner list from behind its bracket, and what is behind it. -/
def innL (l : List UInt8) : Option (Mem × List UInt8) := match itsL l with
  | none => none
  | some (xs, r) => match psL r [] 0 with
    | none => none
    | some (ps, m) => some (⟨true, noItm, xs, ps⟩, r.drop m)
/-- The member with which a text begins, and what is behind it. -/
def memL (l : List UInt8) : Option (Mem × List UInt8) :=
  if l.head? = some 40 then innL (l.drop 1) else match itmL l with
    | none => none
    | some (g, ps, m) => some (⟨false, ⟨g.k, g.n, g.s, ps⟩, [], []⟩, l.drop m)

abbrev aggM (b : Bool) (k n : Int) (s : ByteArray) (u vi vp : Value) : Value := .agg #[.bool b, .int .i64 k, .int .i64 n, .string s, u, vi, vp]
abbrev noMem : Value := aggM false 0 0 ⟨#[]⟩ (.slice none 0 0) (.slice none 0 0) (.slice none 0 0)
abbrev zeroMem : Obj := .cells #[.bool false, .int .i64 0, .int .i64 0, .string ⟨#[]⟩, .slice none 0 0, .slice none 0 0, .slice none 0 0] 86

/-- A member that is handed over, and where its parts lie. -/
def MemAt (lo : Nat) (blk : Option Nat) (w : World) (M : Mem) (v : Value) : Prop :=
  ∃ u vi vp, v = aggM M.inner M.it.k M.it.n (strB M.it.s) u vi vp ∧ PrmsOff lo blk w u M.it.ps ∧ ItmsOff lo blk w vi M.its ∧ PrmsOff lo blk w vp M.ps

def memPost (o : Option (Mem × List UInt8)) (w : World) (e : Ending) (w' : World) : Prop :=
  Below w.heap.size w w' ∧ match o with
    | none => e = .returned (.tuple #[noMem, .string ⟨#[]⟩, .int .i64 2])
    | some (M, r) => ∃ v, e = .returned (.tuple #[v, .string (strB r), .int .i64 0]) ∧ MemAt w.heap.size none w' M v

/-- The cells of a member that is none yet. -/
structure ResM (W : World) (c : Nat) : Prop where
  r0 : W.cell? ⟨c, 0, none⟩ = some (.bool false)
  r1 : W.cell? ⟨c, 1, none⟩ = some (.int .i64 0)
  r2 : W.cell? ⟨c, 2, none⟩ = some (.int .i64 0)
  r3 : W.cell? ⟨c, 3, none⟩ = some (.string ⟨#[]⟩)
  r4 : W.cell? ⟨c, 4, none⟩ = some (.slice none 0 0)
  r5 : W.cell? ⟨c, 5, none⟩ = some (.slice none 0 0)
  r6 : W.cell? ⟨c, 6, none⟩ = some (.slice none 0 0)
  g0 : W.frozen? ⟨c, 0, none⟩ = false
  g1 : W.frozen? ⟨c, 1, none⟩ = false
  g2 : W.frozen? ⟨c, 2, none⟩ = false
  g3 : W.frozen? ⟨c, 3, none⟩ = false
  g4 : W.frozen? ⟨c, 4, none⟩ = false
  g5 : W.frozen? ⟨c, 5, none⟩ = false
  g6 : W.frozen? ⟨c, 6, none⟩ = false
theorem ResM.made (w : World) : ResM (w.alloc zeroMem) w.heap.size := ⟨by simp, by simp, by simp, by simp, by simp, by simp, by simp, by simp, by simp, by simp, by simp, by simp, by simp, by simp⟩
theorem ResM.lt {W : World} {c : Nat} (h : ResM W c) : c < W.heap.size := lt_of_cell h.r0
theorem ResM.next {W W1 : World} {c : Nat} (h : ResM W c) (hb : Below (c + 1) W W1) : ResM W1 c := by
  have hc : ∀ i, W1.cell? ⟨c, i, none⟩ = W.cell? ⟨c, i, none⟩ := fun i => hb.cell (p := ⟨c, i, none⟩) (Nat.lt_succ_self _)
  have hf : ∀ i, W1.frozen? ⟨c, i, none⟩ = W.frozen? ⟨c, i, none⟩ := fun i => hb.frozen (p := ⟨c, i, none⟩) (Nat.lt_succ_self _)
  exact ⟨(hc 0).trans h.r0, (hc 1).trans h.r1, (hc 2).trans h.r2, (hc 3).trans h.r3, (hc 4).trans h.r4, (hc 5).trans h.r5, (hc 6).trans h.r6, (hf 0).trans h.g0, (hf 1).trans h.g1, (hf 2).trans h.g2, (hf 3).trans h.g3, (hf 4).trans h.g4, (hf 5).trans h.g5, (hf 6).trans h.g6⟩

theorem itsF_le (f : Nat) : ∀ (l : List UInt8) (acc xs : List Itm) (r : List UInt8), itsF f l acc = some (xs, r) → r.length ≤ l.length := by
  induction f with
  | zero => intro l acc xs r h; cases h
  | succ f ih =>
    intro l acc xs r h
    by_cases h41 : l.head? = some 41
    · rw [itsF_end f l acc h41] at h
      obtain ⟨_, rfl⟩ := Prod.mk.inj (Option.some.inj h)
      rw [List.length_drop]; omega
    · cases hi : itmL l with
      | none => rw [itsF_none f l acc h41 hi] at h; cases h
      | some x =>
        obtain ⟨g, ps, m⟩ := x
        cases he : endI (l.drop m) with
        | false => rw [itsF_bad f l acc g ps m h41 hi he] at h; cases h
        | true =>
          rw [itsF_some f l acc g ps m h41 hi he] at h
          have h1 := ih _ _ _ _ h
          have h2 := spD_le (l.drop m)
          rw [List.length_drop] at h2
          omega
theorem itsL_le (l : List UInt8) (xs : List Itm) (r : List UInt8) (h : itsL l = some (xs, r)) : r.length ≤ l.length := Nat.le_trans (itsF_le _ _ _ _ _ h) (spD_le l)

set_option maxRecDepth 100000 in
set_option maxHeartbeats 4000000 in
theorem readInner_any (s : ByteArray) (w : World) (hs : s.size ≤ 100000) (hA : Alph w) :
    Calls Tryz.prog 114 #[.string s] w (memPost (innL s.data.toList) w) := by
  have hb0 : Below w.heap.size w (w.alloc zeroMem) := (Below.refl _ _).alloc (Nat.le_refl _) _
  have HA := Lib.hid hA
  have HR0 := Lib.hid (ResM.made w)
  have cI := fun W hW => readItems_any s W hs hW
  clear hA
  cases hits : itsL s.data.toList with
  | none =>
    have HL : Hid (innL s.data.toList = none) := Lib.hid (by rw [innL, hits])
    rw [hits] at cI
    clear hits
    go_enter Tryz.func114, Tryz.ntmps114
    go_wp2_with fail
    refine (cI _ (HA.out.below hb0)).mono ?_
    rintro e w1 ⟨hb1, rfl⟩
    have hR1 := HR0.out.next (by simpa using hb1)
    have hB1 := hb0.trans (hb1.mono hb0.size)
    have hlt := hR1.lt
    obtain ⟨r0, r1, r2, r3, r4, r5, r6, g0, g1, g2, g3, g4, g5, g6⟩ := hR1
    clear hb1 cI
    go_wp2_with fail
    refine bodyPost_ret (v := .tuple #[noMem, .string ⟨#[]⟩, .int .i64 2]) (by simp [results, Tryz.results114, go_sem, r0, r1, r2, r3, r4, r5, r6]) rfl ?_
    rw [HL.out]
    refine ⟨?_, rfl⟩
    repeat (first | with_reducible refine Below.alloc ?_ (by simp; omega) _ | with_reducible refine Below.setCell ?_ (by simp) _)
    exact hB1
  | some x =>
    obtain ⟨xs, r⟩ := x
    have hr := itsL_le _ _ _ hits
    rw [← Lib.size_eq] at hr
    have hrs := strB_size r
    have cP := fun W hW => iparams_any (strB r) W (by omega) hW
    rw [strB_data] at cP
    have HLS := Lib.hid hrs
    have hls3 : (strB r).size ≤ 100000 := by omega
    have hinn : innL s.data.toList = (match psL r [] 0 with
      | none => none
      | some (ps, m) => some (⟨true, noItm, xs, ps⟩, r.drop m)) := by rw [innL, hits]
    rw [hits] at cI
    clear hits hrs
    cases hps : psL r [] 0 with
    | none =>
      have HL : Hid (innL s.data.toList = none) := Lib.hid (by rw [hinn, hps])
      rw [hps] at cP
      clear hps hinn
      generalize hRr : strB r = R at *
      have HRr := Lib.hid hRr
      clear hRr
      go_enter Tryz.func114, Tryz.ntmps114
      go_wp2_with fail
      refine (cI _ (HA.out.below hb0)).mono ?_
      rintro e w1 ⟨hb1, v1, rfl, ho1⟩
      rw [HRr.out]
      obtain ⟨us, u1, u2, u3⟩ := ho1
      obtain ⟨ao1, cap1, rfl⟩ := owns_form u2
      have hR1 := HR0.out.next (by simpa using hb1)
      have hB1 := hb0.trans (hb1.mono hb0.size)
      have HR1 := Lib.hid hR1
      clear hb1 cI u1 u2 u3 hR1
      go_wp2_with fail
      refine (cP _ (HA.out.below hB1)).mono ?_
      rintro e w2 ⟨hb2, rfl⟩
      have hR2 := HR1.out.next (hb2.mono (Nat.succ_le_of_lt HR1.out.lt))
      have hB2 := hB1.trans (hb2.mono hB1.size)
      have hlt := hR2.lt
      obtain ⟨r0, r1, r2, r3, r4, r5, r6, g0, g1, g2, g3, g4, g5, g6⟩ := hR2
      clear hb2 cP
      go_wp2_with fail
      refine bodyPost_ret (v := .tuple #[noMem, .string ⟨#[]⟩, .int .i64 2]) (by simp [results, Tryz.results114, go_sem, r0, r1, r2, r3, r4, r5, r6]) rfl ?_
      rw [HL.out]
      refine ⟨?_, rfl⟩
      repeat (first | with_reducible refine Below.alloc ?_ (by simp; omega) _ | with_reducible refine Below.setCell ?_ (by simp) _)
      exact hB2
    | some y =>
      obtain ⟨ps, m⟩ := y
      have HL : Hid (innL s.data.toList = some (⟨true, noItm, xs, ps⟩, r.drop m)) := Lib.hid (by rw [hinn, hps])
      have hk := psL_le _ _ _ _ _ _ (Nat.le_refl _) hps
      rw [Nat.zero_add] at hk
      rw [hps] at cP
      have j2 : (m : Int) ≤ ((strB r).size : Int) := by have := HLS.out; omega
      have j0 : (0 : Int) ≤ (m : Int) := by omega
      have HX : Hid ((strB r).extract m (strB r).size = strB (r.drop m)) := Lib.hid (by rw [← strB_of ((strB r).extract m (strB r).size), Lib.extract_to_end, strB_data])
      clear hps hinn hk
      generalize hRr : strB r = R at *
      have HRr := Lib.hid hRr
      clear hRr
      go_enter Tryz.func114, Tryz.ntmps114
      go_wp2_with fail
      refine (cI _ (HA.out.below hb0)).mono ?_
      rintro e w1 ⟨hb1, v1, rfl, ho1⟩
      rw [HRr.out]
      have HO1 := Lib.hid ((ho1.off (blk := none) (fun g hg => by cases hg)).low (show w.heap.size + 1 ≤ _ by simp))
      obtain ⟨us, u1, u2, u3⟩ := ho1
      obtain ⟨ao1, cap1, rfl⟩ := owns_form u2
      have hR1 := HR0.out.next (by simpa using hb1)
      have hB1 := hb0.trans (hb1.mono hb0.size)
      have HR1 := Lib.hid hR1
      clear hb1 cI u1 u2 u3 hR1
      go_wp2_with fail
      refine (cP _ (HA.out.below hB1)).mono ?_
      rintro e w2 ⟨hb2, v2, rfl, ho2⟩
      have HP2 := Lib.hid (PrmsOff.made (lo := w.heap.size + 1) (blk := none) ho2 (Nat.succ_le_of_lt HR1.out.lt) (fun g hg => by cases hg))
      obtain ⟨ao2, cap2, rfl⟩ := owns_form ho2
      have HO2 := Lib.hid (HO1.out.below hb2)
      have hR2 := HR1.out.next (hb2.mono (Nat.succ_le_of_lt HR1.out.lt))
      have hB2 := hB1.trans (hb2.mono hB1.size)
      have hlt := hR2.lt
      obtain ⟨r0, r1, r2, r3, r4, r5, r6, g0, g1, g2, g3, g4, g5, g6⟩ := hR2
      clear hb2 cP ho2
      go_wp2_with fail
      go_region
      all_goals
        go_wp2_with fail
        refine bodyPost_ret (v := .tuple #[aggM true 0 0 ⟨#[]⟩ (.slice none 0 0) (.slice ao1 xs.length cap1) (.slice ao2 ps.length cap2), .string (R.extract m R.size), .int .i64 0]) (by simp [results, Tryz.results114, go_sem, r0, r1, r2, r3, r4, r5, r6]) rfl ?_
        rw [HL.out]
        have hm : Moved w.heap.size w2 ((((((((w2.setCell ⟨w.heap.size, 0, none⟩ (.bool true)).setCell ⟨w.heap.size, 1, none⟩ (.int .i64 0)).setCell ⟨w.heap.size, 2, none⟩ (.int .i64 0)).setCell ⟨w.heap.size, 3, none⟩ (.string ⟨#[]⟩)).setCell ⟨w.heap.size, 4, none⟩ (.slice none 0 0)).setCell ⟨w.heap.size, 5, none⟩ (.slice ao1 xs.length cap1)).setCell ⟨w.heap.size, 6, none⟩ (.slice ao2 ps.length cap2)).drew) := by
          repeat (first | with_reducible refine Moved.drew1 ?_ | with_reducible refine Moved.alloc ?_ _ | with_reducible refine Moved.setCell ?_ _)
          exact Moved.refl _ _
        refine ⟨?_, _, by rw [HX.out] <;> rfl, .slice none 0 0, _, _, rfl, PrmsOff.nothing _ _ _, (HO2.out.moved hm (Nat.lt_succ_self _)).low (Nat.le_succ _), (HP2.out.moved hm (Nat.lt_succ_self _)).low (Nat.le_succ _)⟩
        repeat (first | with_reducible refine Below.alloc ?_ (by simp; omega) _ | with_reducible refine Below.setCell ?_ (by simp) _ | with_reducible refine Below.drew ?_)
        exact hB2

end Go.Proofs.YtpifbgefkbhopaaGreatDoor

namespace Go.Proofs.YtpifbgefkbhopaaGreatDoor
open Go.RowKit Go.Maps

abbrev itemO (k n : Int) (s : ByteArray) (v : Value) : Obj := .cells #[.int .i64 k, .int .i64 n, .string s, v] 83

theorem PrmsOff.mono {lo : Nat} {blk : Option Nat} {w : World} {v : Value} {ps : List Prm} {M : Mem} (h : PrmsOff lo blk w v ps) (e : M.ps = ps) : PrmsOff lo blk w v M.ps := by rw [e]; exact h

set_option maxRecDepth 100000 in
set_option maxHeartbeats 4000000 in
theorem readMember_any (s : ByteArray) (w : World) (hs : s.size ≤ 100000) (hA : Alph w) :
    Calls Tryz.prog 86 #[.string s] w (memPost (memL s.data.toList) w) := by
  have hb0 : Below w.heap.size w (w.alloc zeroMem) := (Below.refl _ _).alloc (Nat.le_refl _) _
  have HA := Lib.hid hA
  have HR0 := Lib.hid (ResM.made w)
  clear hA
  by_cases h40 : s.data.toList.head? = some 40
  · have hds := strB_size (s.data.toList.drop 1)
    rw [List.length_drop, ← Lib.size_eq] at hds
    have cC := fun W => cut_yes s 40 W h40
    have cI := fun W hW => readInner_any (strB (s.data.toList.drop 1)) W (by omega) hW
    rw [strB_data] at cI
    have HL : Hid (memL s.data.toList = innL (s.data.toList.drop 1)) := Lib.hid (by rw [memL, if_pos h40])
    clear h40 hds
    generalize strB (s.data.toList.drop 1) = R at *
    cases hin : innL (s.data.toList.drop 1) with
    | none =>
      rw [hin] at cI HL
      clear hin
      go_enter Tryz.func86, Tryz.ntmps86
      go_wp2_with fail
      refine (cC _).mono ?_
      rintro e w1 ⟨rfl, rfl⟩
      go_wp2_with fail
      refine (cI _ (HA.out.below hb0)).mono ?_
      rintro e w1 ⟨hb1, rfl⟩
      have hR1 := HR0.out.next (by simpa using hb1)
      have hB1 := hb0.trans (hb1.mono hb0.size)
      have hlt := hR1.lt
      obtain ⟨r0, r1, r2, r3, r4, r5, r6, g0, g1, g2, g3, g4, g5, g6⟩ := hR1
      clear hb1 cI cC
      go_wp2_with fail
      refine bodyPost_ret (v := .tuple #[noMem, .string ⟨#[]⟩, .int .i64 2]) (by simp [results, Tryz.results86, go_sem, r0, r1, r2, r3, r4, r5, r6]) rfl ?_
      rw [HL.out]
      refine ⟨?_, rfl⟩
      repeat (first | with_reducible refine Below.alloc ?_ (by simp; omega) _ | with_reducible refine Below.setCell ?_ (by simp) _)
      exact hB1
    | some x =>
      obtain ⟨M, r⟩ := x
      rw [hin] at cI HL
      clear hin
      go_enter Tryz.func86, Tryz.ntmps86
      go_wp2_with fail
      refine (cC _).mono ?_
      rintro e w1 ⟨rfl, rfl⟩
      go_wp2_with fail
      refine (cI _ (HA.out.below hb0)).mono ?_
      rintro e w1 ⟨hb1, v1, rfl, u, vi, vp, rfl, hu, hvi, hvp⟩
      have hR1 := HR0.out.next (by simpa using hb1)
      have hB1 := hb0.trans (hb1.mono hb0.size)
      have hlt := hR1.lt
      obtain ⟨r0, r1, r2, r3, r4, r5, r6, g0, g1, g2, g3, g4, g5, g6⟩ := hR1
      obtain ⟨ao1, cap1, rfl⟩ := hu.form
      obtain ⟨ao2, cap2, rfl⟩ := hvi.form
      obtain ⟨ao3, cap3, rfl⟩ := hvp.form
      have HU := Lib.hid (hu.low (show w.heap.size + 1 ≤ _ by simp))
      have HV := Lib.hid (hvi.low (show w.heap.size + 1 ≤ _ by simp))
      have HW := Lib.hid (hvp.low (show w.heap.size + 1 ≤ _ by simp))
      clear hb1 cI cC hu hvi hvp
      go_wp2_with fail
      refine bodyPost_ret (v := .tuple #[aggM M.inner M.it.k M.it.n (strB M.it.s) (.slice ao1 M.it.ps.length cap1) (.slice ao2 M.its.length cap2) (.slice ao3 M.ps.length cap3), .string (strB r), .int .i64 0]) (by simp [results, Tryz.results86, go_sem, r0, r1, r2, r3, r4, r5, r6]) rfl ?_
      rw [HL.out]
      have hm : Moved w.heap.size w1 (((((((w1.setCell ⟨w.heap.size, 0, none⟩ (.bool M.inner)).setCell ⟨w.heap.size, 1, none⟩ (.int .i64 M.it.k)).setCell ⟨w.heap.size, 2, none⟩ (.int .i64 M.it.n)).setCell ⟨w.heap.size, 3, none⟩ (.string (strB M.it.s))).setCell ⟨w.heap.size, 4, none⟩ (.slice ao1 M.it.ps.length cap1)).setCell ⟨w.heap.size, 5, none⟩ (.slice ao2 M.its.length cap2)).setCell ⟨w.heap.size, 6, none⟩ (.slice ao3 M.ps.length cap3)) := by
        repeat (first | with_reducible refine Moved.drew1 ?_ | with_reducible refine Moved.alloc ?_ _ | with_reducible refine Moved.setCell ?_ _)
        exact Moved.refl _ _
      refine ⟨?_, _, rfl, _, _, _, rfl, (HU.out.moved hm (Nat.lt_succ_self _)).low (Nat.le_succ _), (HV.out.moved hm (Nat.lt_succ_self _)).low (Nat.le_succ _), (HW.out.moved hm (Nat.lt_succ_self _)).low (Nat.le_succ _)⟩
      repeat (first | with_reducible refine Below.alloc ?_ (by simp; omega) _ | with_reducible refine Below.setCell ?_ (by simp) _ | with_reducible refine Below.drew ?_)
      exact hB1
  · have cC := fun W => cut_no s 40 W h40
    have cI := fun W hW => iread_any s W hs hW
    have hL : memL s.data.toList = (match itmL s.data.toList with
      | none => none
      | some (g, ps, m) => some (⟨false, ⟨g.k, g.n, g.s, ps⟩, [], []⟩, s.data.toList.drop m)) := by rw [memL, if_neg h40] <;> rfl
    clear h40
    cases hin : itmL s.data.toList with
    | none =>
      have HL : Hid (memL s.data.toList = none) := Lib.hid (by rw [hL, hin])
      rw [hin] at cI
      clear hin hL
      go_enter Tryz.func86, Tryz.ntmps86
      go_wp2_with fail
      refine (cC _).mono ?_
      rintro e w1 ⟨rfl, rfl⟩
      go_wp2_with fail
      refine (cI _ (HA.out.below hb0)).mono ?_
      rintro e w1 ⟨hb1, rfl⟩
      have hR1 := HR0.out.next (by simpa using hb1)
      have hB1 := hb0.trans (hb1.mono hb0.size)
      have hlt := hR1.lt
      obtain ⟨r0, r1, r2, r3, r4, r5, r6, g0, g1, g2, g3, g4, g5, g6⟩ := hR1
      clear hb1 cI cC
      go_wp2_with fail
      refine bodyPost_ret (v := .tuple #[noMem, .string ⟨#[]⟩, .int .i64 2]) (by simp [results, Tryz.results86, go_sem, r0, r1, r2, r3, r4, r5, r6, hlt]) rfl ?_
      rw [HL.out]
      refine ⟨?_, rfl⟩
      repeat (first | with_reducible refine Below.alloc ?_ (by simp; omega) _ | with_reducible refine Below.setCell ?_ (by simp) _)
      exact hB1
    | some x =>
      obtain ⟨g, ps, m⟩ := x
      have HL : Hid (memL s.data.toList = some (⟨false, ⟨g.k, g.n, g.s, ps⟩, [], []⟩, s.data.toList.drop m)) := Lib.hid (by rw [hL, hin])
      have hm2 := itmL_le _ _ _ _ hin
      rw [← Lib.size_eq] at hm2
      rw [hin] at cI
      have j2 : (m : Int) ≤ (s.size : Int) := by omega
      have j0 : (0 : Int) ≤ (m : Int) := by omega
      have HX : Hid (s.extract m s.size = strB (s.data.toList.drop m)) := Lib.hid (by rw [← strB_of (s.extract m s.size), Lib.extract_to_end])
      clear hin hL
      obtain ⟨gk, gn, gs, gm⟩ := g
      simp only at cI HL
      generalize hG : strB gs = G at *
      have HG := Lib.hid hG
      clear hG
      go_enter Tryz.func86, Tryz.ntmps86
      go_wp2_with fail
      refine (cC _).mono ?_
      rintro e w1 ⟨rfl, rfl⟩
      go_wp2_with fail
      refine (cI _ (HA.out.below hb0)).mono ?_
      rintro e w1 ⟨hb1, v1, rfl, ho1⟩
      simp only
      rw [HG.out]
      have HU := Lib.hid (PrmsOff.made (lo := w.heap.size + 1) (blk := none) ho1 (by simp) (fun g hg => by cases hg))
      obtain ⟨ao1, cap1, rfl⟩ := owns_form ho1
      have hR1 := HR0.out.next (by simpa using hb1)
      have hB1 := hb0.trans (hb1.mono hb0.size)
      have hlt := hR1.lt
      obtain ⟨r0, r1, r2, r3, r4, r5, r6, g0, g1, g2, g3, g4, g5, g6⟩ := hR1
      clear hb1 cI cC ho1
      go_wp2_with fail
      go_region
      all_goals
        go_wp2_with fail
        refine bodyPost_ret (v := .tuple #[aggM false gk gn G (.slice ao1 ps.length cap1) (.slice none 0 0) (.slice none 0 0), .string (s.extract m s.size), .int .i64 0]) (by simp [results, Tryz.results86, go_sem, r0, r1, r2, r3, r4, r5, r6, hlt]) rfl ?_
        rw [HL.out]
        refine ⟨?_, _, by rw [HX.out], .slice ao1 ps.length cap1, .slice none 0 0, .slice none 0 0, by rw [HG.out], (HU.out.moved (c := w.heap.size) ?_ (Nat.lt_succ_self _)).low (Nat.le_succ _), ItmsOff.nothing _ _ _, PrmsOff.nothing _ _ _⟩
        · repeat (first | with_reducible refine Below.alloc ?_ (by simp; omega) _ | with_reducible refine Below.setCell ?_ (by simp) _ | with_reducible refine Below.drew ?_)
          exact hB1
        · repeat (first | with_reducible refine Moved.drew1 ?_ | with_reducible refine Moved.alloc ?_ _ | with_reducible refine Moved.setCell ?_ _)
          exact Moved.refl _ _

end Go.Proofs.YtpifbgefkbhopaaGreatDoor

namespace Go.Proofs.YtpifbgefkbhopaaGreatDoor
open Go.RowKit Go.Maps

theorem PrmsOff.step {lo g : Nat} {blk : Option Nat} {w w1 : World} {v : Value} {ps : List Prm} (h : PrmsOff lo blk w v ps) (hg : w.grownBy w1 blk) (hat : blk = some g ∨ g = w.heap.size) : PrmsOff lo (some g) w1 v ps := by
  rcases hat with rfl | hat
  · exact h.grown hg
  · obtain ⟨ao, c2, hv, hc⟩ := h
    rcases hc with hc | ⟨b, off, q1, q0, q2, q3, q4⟩
    · exact ⟨ao, c2, hv, .inl hc⟩
    · refine ⟨ao, c2, hv, .inr ⟨b, off, q1, q0, ?_, Nat.lt_of_lt_of_le q3 hg.size, fun j u hj => (grown_cell hg q3 q2 _).trans (q4 j u hj)⟩⟩
      intro e
      have := Option.some.inj e
      omega
theorem ItmsOff.step {lo g : Nat} {blk : Option Nat} {w w1 : World} {v : Value} {xs : List Itm} (h : ItmsOff lo blk w v xs) (hg : w.grownBy w1 blk) (hat : blk = some g ∨ g = w.heap.size) : ItmsOff lo (some g) w1 v xs := by
  obtain ⟨ao, c2, hv, hc⟩ := h
  rcases hc with hc | ⟨b, off, q1, q0, q2, q3, q4⟩
  · exact ⟨ao, c2, hv, .inl hc⟩
  · refine ⟨ao, c2, hv, .inr ⟨b, off, q1, q0, ?_, Nat.lt_of_lt_of_le q3 hg.size, fun j x hx => ?_⟩⟩
    · rcases hat with rfl | hat
      · exact q2
      · intro e
        have := Option.some.inj e
        omega
    · obtain ⟨u, ⟨c0, c1, c2, c3⟩, hp⟩ := q4 j x hx
      have hk : ∀ i, w1.cell? ⟨b, i, none⟩ = w.cell? ⟨b, i, none⟩ := fun i => grown_cell hg q3 q2 i
      exact ⟨u, ⟨(hk _).trans c0, (hk _).trans c1, (hk _).trans c2, (hk _).trans c3⟩, hp.step hg hat⟩

/-- How an α lies in a row: its cells, by what they point to (β), and what must hold of that. -/
structure Rowing (α β : Type) where
  size : Nat
  cells : α → β → List Value
  F : Nat → Option Nat → World → α → β → Prop
  len : ∀ x u, (cells x u).length = size
  below : ∀ {lo blk w w' x u}, F lo blk w x u → Below w.heap.size w w' → F lo blk w' x u
  step : ∀ {lo g : Nat} {blk w w1 x u}, F lo blk w x u → w.grownBy w1 blk → (blk = some g ∨ g = w.heap.size) → F lo (some g) w1 x u
  low : ∀ {lo lo' : Nat} {blk w x u}, F lo blk w x u → lo' ≤ lo → F lo' blk w x u
  avoid : ∀ {lo : Nat} {blk blk' : Option Nat} {w x u}, F lo blk w x u → (∀ g, blk' = some g → g < lo) → F lo blk' w x u

variable {α β : Type}

def rowG (R : Rowing α β) : List (α × β) → List Value
  | [] => []
  | (x, u) :: r => R.cells x u ++ rowG R r
theorem rowG_snoc (R : Rowing α β) (l : List (α × β)) (x : α) (u : β) : rowG R (l ++ [(x, u)]) = rowG R l ++ R.cells x u := by
  induction l with
  | nil => simp [rowG]
  | cons y r ih =>
    obtain ⟨y, v⟩ := y
    rw [List.cons_append, rowG, rowG, ih, List.append_assoc]
theorem rowG_at (R : Rowing α β) : ∀ (l : List (α × β)) (i j : Nat) (x : α) (u : β), l[i]? = some (x, u) → j < R.size → (rowG R l)[i * R.size + j]? = (R.cells x u)[j]?
  | [], i, j, x, u, h, _ => by simp at h
  | (y, v) :: l, 0, j, x, u, h, hj => by
    obtain ⟨rfl, rfl⟩ := Prod.mk.inj (Option.some.inj h)
    rw [rowG, Nat.zero_mul, Nat.zero_add, List.getElem?_append_left (by rw [R.len]; exact hj)]
  | (y, v) :: l, i + 1, j, x, u, h, hj => by
    have := rowG_at R l i j x u h hj
    rw [rowG, List.getElem?_append_right (by rw [R.len, Nat.add_mul]; omega), R.len, ← this]
    congr 1
    rw [Nat.add_mul]
    omega

/-- What a call owns whole: a row, and what its elements point to, elsewhere. -/
def OwnG (R : Rowing α β) (T : TypeId) (w : World) (base : Nat) (v : Value) (xs : List α) : Prop :=
  ∃ us : List β, us.length = xs.length ∧ w.ownsRow base T R.size v xs.length (rowG R (xs.zip us)) ∧ ∀ (j : Nat) (u : β) (x : α), us[j]? = some u → xs[j]? = some x → R.F base v.ownBlock w x u

theorem OwnG.nothing (R : Rowing α β) (T : TypeId) (w : World) (base : Nat) : OwnG R T w base (.slice none 0 0) [] := ⟨[], rfl, World.ownsRow_nil _ _ _ _, fun j u x h => by simp at h⟩
theorem OwnG.below {R : Rowing α β} {T : TypeId} {w w' : World} {base : Nat} {v : Value} {xs : List α} (h : OwnG R T w base v xs) (hb : Below w.heap.size w w') : OwnG R T w' base v xs := by
  obtain ⟨us, h1, h2, h3⟩ := h
  exact ⟨us, h1, ownsRow_later h2 hb, fun j u x hu hx => R.below (h3 j u x hu hx) hb⟩
theorem OwnG.low {R : Rowing α β} {T : TypeId} {w : World} {base B : Nat} {v : Value} {xs : List α} (h : OwnG R T w base v xs) (hB : B ≤ base) : OwnG R T w B v xs := by
  obtain ⟨us, h1, h2, h3⟩ := h
  exact ⟨us, h1, ownsRow_low h2 hB, fun j u x hu hx => R.low (h3 j u x hu hx) hB⟩

/-- One more, behind those that are owned. -/
theorem OwnG.snoc {R : Rowing α β} {T : TypeId} {w w1 : World} {base : Nat} {v : Value} {u : β} {xs : List α} {x : α} {us : List β} {g cap : Nat} (h1 : us.length = xs.length) (h3 : ∀ (j : Nat) (u : β) (x : α), us[j]? = some u → xs[j]? = some x → R.F base v.ownBlock w x u) (hu : R.F base v.ownBlock w x u)
    (hown : w1.ownsRow base T R.size (.slice (some ⟨g, 0, none⟩) (xs.length + 1) cap) (xs.length + 1) (rowG R (xs.zip us) ++ R.cells x u)) (hg : w.grownBy w1 v.ownBlock) (hat : v.ownBlock = some g ∨ g = w.heap.size) : OwnG R T w1 base (.slice (some ⟨g, 0, none⟩) (xs.length + 1) cap) (xs ++ [x]) := by
  refine ⟨us ++ [u], by simp [h1], ?_, ?_⟩
  · rw [List.length_append, List.zip_append h1.symm]
    show w1.ownsRow base T R.size _ (xs.length + 1) (rowG R (xs.zip us ++ [(x, u)]))
    rw [rowG_snoc]
    exact hown
  · intro j u' x' hu' hx'
    rw [List.getElem?_append] at hu' hx'
    show R.F base (some g) w1 x' u'
    by_cases hj : j < us.length
    · rw [if_pos hj] at hu'
      rw [if_pos (by omega)] at hx'
      exact R.step (h3 j u' x' hu' hx') hg hat
    · rw [if_neg hj] at hu'
      rw [if_neg (by omega)] at hx'
      have hj0 : j - us.length = 0 := by
        have := (List.getElem?_eq_some_iff.1 hu').1
        simp only [List.length_singleton] at this
        omega
      rw [hj0] at hu'
      rw [← h1, hj0] at hx'
      obtain rfl := Option.some.inj hu'
      obtain rfl := Option.some.inj hx'
      exact R.step hu hg hat

/-- Members, by what their three slices are. -/
def memR : Rowing Mem (Value × Value × Value) where
  size := 7
  cells M u := [.bool M.inner, .int .i64 M.it.k, .int .i64 M.it.n, .string (strB M.it.s), u.1, u.2.1, u.2.2]
  F lo blk w M u := PrmsOff lo blk w u.1 M.it.ps ∧ ItmsOff lo blk w u.2.1 M.its ∧ PrmsOff lo blk w u.2.2 M.ps
  len _ _ := rfl
  below h hb := ⟨h.1.below hb, h.2.1.below hb, h.2.2.below hb⟩
  step h hg hat := ⟨h.1.step hg hat, h.2.1.step hg hat, h.2.2.step hg hat⟩
  low h hl := ⟨h.1.low hl, h.2.1.low hl, h.2.2.low hl⟩
  avoid h hb := ⟨h.1.avoid hb, h.2.1.avoid hb, h.2.2.avoid hb⟩

/-- An entry of a dictionary. -/
structure Ent where
  key : List UInt8
  val : Mem
def entR : Rowing Ent (Value × Value × Value) where
  size := 8
  cells E u := .string (strB E.key) :: memR.cells E.val u
  F lo blk w E u := memR.F lo blk w E.val u
  len _ _ := rfl
  below h hb := memR.below h hb
  step h hg hat := memR.step h hg hat
  low h hl := memR.low h hl
  avoid h hb := memR.avoid h hb

end Go.Proofs.YtpifbgefkbhopaaGreatDoor

namespace Go.Proofs.YtpifbgefkbhopaaGreatDoor
open Go.RowKit Go.Maps
variable {α β : Type}

/-- The parts of a text between commas, behind some. By so many rounds. -/
def sepF {α : Type} (read : List UInt8 → Option (α × List UInt8)) : Nat → List UInt8 → List α → Option (List α)
  | 0, _, _ => none
  | f + 1, l, acc => match read l with
    | none => none
    | some (x, r) => if blD r = [] then some (acc ++ [x]) else if (blD r).head? = some 44 then sepF read f (blD ((blD r).drop 1)) (acc ++ [x]) else none
def sepL {α : Type} (read : List UInt8 → Option (α × List UInt8)) (l : List UInt8) : Option (List α) :=
  if spD l = [] then some [] else sepF read (l.length + 1) (spD l) []

theorem sepF_none {α : Type} (read : List UInt8 → Option (α × List UInt8)) (f : Nat) (l : List UInt8) (acc : List α) (h : read l = none) : sepF read (f + 1) l acc = none := by rw [sepF, h]
theorem sepF_end {α : Type} (read : List UInt8 → Option (α × List UInt8)) (f : Nat) (l r : List UInt8) (acc : List α) (x : α) (h : read l = some (x, r)) (hb : blD r = []) : sepF read (f + 1) l acc = some (acc ++ [x]) := by
  rw [sepF, h]
  simp [hb]
theorem sepF_bad {α : Type} (read : List UInt8 → Option (α × List UInt8)) (f : Nat) (l r : List UInt8) (acc : List α) (x : α) (h : read l = some (x, r)) (hb : blD r ≠ []) (hc : (blD r).head? ≠ some 44) : sepF read (f + 1) l acc = none := by
  rw [sepF, h]
  simp [hb, hc]
theorem sepF_more {α : Type} (read : List UInt8 → Option (α × List UInt8)) (f : Nat) (l r : List UInt8) (acc : List α) (x : α) (h : read l = some (x, r)) (hb : blD r ≠ []) (hc : (blD r).head? = some 44) : sepF read (f + 1) l acc = sepF read f (blD ((blD r).drop 1)) (acc ++ [x]) := by
  rw [sepF, h]
  simp [hb, hc]

theorem innL_le (l : List UInt8) (M : Mem) (r : List UInt8) (h : innL l = some (M, r)) : r.length ≤ l.length := by
  unfold innL at h
  split at h
  · cases h
  · rename_i xs r1 hi
    have h1 := itsL_le _ _ _ hi
    split at h
    · cases h
    · obtain ⟨_, rfl⟩ := Prod.mk.inj (Option.some.inj h)
      rw [List.length_drop]; omega
theorem memL_le (l : List UInt8) (M : Mem) (r : List UInt8) (h : memL l = some (M, r)) : r.length ≤ l.length := by
  unfold memL at h
  split at h
  · have := innL_le _ _ _ h
    rw [List.length_drop] at this
    omega
  · split at h
    · cases h
    · obtain ⟨_, rfl⟩ := Prod.mk.inj (Option.some.inj h)
      rw [List.length_drop]; omega

def listPost (o : Option (List Mem)) (w : World) (e : Ending) (w' : World) : Prop :=
  Below w.heap.size w w' ∧ match o with
    | none => e = .returned (.tuple #[.slice none 0 0, .int .i64 2])
    | some xs => ∃ v, e = .returned (.tuple #[v, .int .i64 0]) ∧ OwnG memR 86 w' w.heap.size v xs

theorem info_member : (Tryz.prog.info? 86).map (fun i => (i.zero, i.size, i.bytes)) = some (some noMem, 7, 112) := by kernel_rfl

abbrev memO (b : Bool) (k n : Int) (s : ByteArray) (u vi vp : Value) : Obj := .cells #[.bool b, .int .i64 k, .int .i64 n, .string s, u, vi, vp] 86

theorem empty_iff (l : List UInt8) : (strB l).toList.isEmpty = l.isEmpty := by rw [Lib.toList_data, strB_data]

theorem owng_form {R : Rowing α β} {T : TypeId} {w : World} {base : Nat} {v : Value} {xs : List α} (h : OwnG R T w base v xs) : ∃ ao cap, v = .slice ao xs.length cap := by
  obtain ⟨us, _, h2, _⟩ := h
  exact owns_form h2

end Go.Proofs.YtpifbgefkbhopaaGreatDoor

namespace Go.Proofs.YtpifbgefkbhopaaGreatDoor
open Go.RowKit Go.Maps

/-- The value of an entry from behind its key on, and what is behind it. -/
def valM (l : List UInt8) : Option (Mem × List UInt8) :=
  if l.head? = some 61 then memL (l.drop 1) else match psL l [] 0 with
    | none => none
    | some (ps, m) => some (⟨false, ⟨6, 1, [], ps⟩, [], []⟩, l.drop m)
/-- The entry with which a text begins, and what is behind it. -/
def entL (l : List UInt8) : Option (Ent × List UInt8) :=
  if klen l = 0 then none else match valM (l.drop (klen l)) with
    | none => none
    | some (M, r) => some (⟨l.take (klen l), M⟩, r)

set_option maxRecDepth 100000 in
set_option maxHeartbeats 4000000 in
theorem readValue_any (s : ByteArray) (w : World) (hs : s.size ≤ 100000) (hA : Alph w) :
    Calls Tryz.prog 59 #[.string s] w (memPost (valM s.data.toList) w) := by
  have hb0 : Below w.heap.size w (w.alloc zeroMem) := (Below.refl _ _).alloc (Nat.le_refl _) _
  have HA := Lib.hid hA
  have HR0 := Lib.hid (ResM.made w)
  clear hA
  by_cases h40 : s.data.toList.head? = some 61
  · have hds := strB_size (s.data.toList.drop 1)
    rw [List.length_drop, ← Lib.size_eq] at hds
    have cC := fun W => cut_yes s 61 W h40
    have cI := fun W hW => readMember_any (strB (s.data.toList.drop 1)) W (by omega) hW
    rw [strB_data] at cI
    have HL : Hid (valM s.data.toList = memL (s.data.toList.drop 1)) := Lib.hid (by rw [valM, if_pos h40])
    clear h40 hds
    generalize strB (s.data.toList.drop 1) = R at *
    cases hin : memL (s.data.toList.drop 1) with
    | none =>
      rw [hin] at cI HL
      clear hin
      go_enter Tryz.func59, Tryz.ntmps59
      go_wp2_with fail
      refine (cC _).mono ?_
      rintro e w1 ⟨rfl, rfl⟩
      go_wp2_with fail
      refine (cI _ (HA.out.below hb0)).mono ?_
      rintro e w1 ⟨hb1, rfl⟩
      have hR1 := HR0.out.next (by simpa using hb1)
      have hB1 := hb0.trans (hb1.mono hb0.size)
      have hlt := hR1.lt
      obtain ⟨r0, r1, r2, r3, r4, r5, r6, g0, g1, g2, g3, g4, g5, g6⟩ := hR1
      clear hb1 cI cC
      go_wp2_with fail
      refine bodyPost_ret (v := .tuple #[noMem, .string ⟨#[]⟩, .int .i64 2]) (by simp [results, Tryz.results59, go_sem, r0, r1, r2, r3, r4, r5, r6]) rfl ?_
      rw [HL.out]
      refine ⟨?_, rfl⟩
      repeat (first | with_reducible refine Below.alloc ?_ (by simp; omega) _ | with_reducible refine Below.setCell ?_ (by simp) _)
      exact hB1
    | some x =>
      obtain ⟨M, r⟩ := x
      rw [hin] at cI HL
      clear hin
      go_enter Tryz.func59, Tryz.ntmps59
      go_wp2_with fail
      refine (cC _).mono ?_
      rintro e w1 ⟨rfl, rfl⟩
      go_wp2_with fail
      refine (cI _ (HA.out.below hb0)).mono ?_
      rintro e w1 ⟨hb1, v1, rfl, u, vi, vp, rfl, hu, hvi, hvp⟩
      have hR1 := HR0.out.next (by simpa using hb1)
      have hB1 := hb0.trans (hb1.mono hb0.size)
      have hlt := hR1.lt
      obtain ⟨r0, r1, r2, r3, r4, r5, r6, g0, g1, g2, g3, g4, g5, g6⟩ := hR1
      obtain ⟨ao1, cap1, rfl⟩ := hu.form
      obtain ⟨ao2, cap2, rfl⟩ := hvi.form
      obtain ⟨ao3, cap3, rfl⟩ := hvp.form
      have HU := Lib.hid (hu.low (show w.heap.size + 1 ≤ _ by simp))
      have HV := Lib.hid (hvi.low (show w.heap.size + 1 ≤ _ by simp))
      have HW := Lib.hid (hvp.low (show w.heap.size + 1 ≤ _ by simp))
      clear hb1 cI cC hu hvi hvp
      go_wp2_with fail
      refine bodyPost_ret (v := .tuple #[aggM M.inner M.it.k M.it.n (strB M.it.s) (.slice ao1 M.it.ps.length cap1) (.slice ao2 M.its.length cap2) (.slice ao3 M.ps.length cap3), .string (strB r), .int .i64 0]) (by simp [results, Tryz.results59, go_sem, r0, r1, r2, r3, r4, r5, r6]) rfl ?_
      rw [HL.out]
      have hm : Moved w.heap.size w1 (((((((w1.setCell ⟨w.heap.size, 0, none⟩ (.bool M.inner)).setCell ⟨w.heap.size, 1, none⟩ (.int .i64 M.it.k)).setCell ⟨w.heap.size, 2, none⟩ (.int .i64 M.it.n)).setCell ⟨w.heap.size, 3, none⟩ (.string (strB M.it.s))).setCell ⟨w.heap.size, 4, none⟩ (.slice ao1 M.it.ps.length cap1)).setCell ⟨w.heap.size, 5, none⟩ (.slice ao2 M.its.length cap2)).setCell ⟨w.heap.size, 6, none⟩ (.slice ao3 M.ps.length cap3)) := by
        repeat (first | with_reducible refine Moved.drew1 ?_ | with_reducible refine Moved.alloc ?_ _ | with_reducible refine Moved.setCell ?_ _)
        exact Moved.refl _ _
      refine ⟨?_, _, rfl, _, _, _, rfl, (HU.out.moved hm (Nat.lt_succ_self _)).low (Nat.le_succ _), (HV.out.moved hm (Nat.lt_succ_self _)).low (Nat.le_succ _), (HW.out.moved hm (Nat.lt_succ_self _)).low (Nat.le_succ _)⟩
      repeat (first | with_reducible refine Below.alloc ?_ (by simp; omega) _ | with_reducible refine Below.setCell ?_ (by simp) _ | with_reducible refine Below.drew ?_)
      exact hB1
  · have cC := fun W => cut_no s 61 W h40
    have cI := fun W hW => iparams_any s W hs hW
    have hL : valM s.data.toList = (match psL s.data.toList [] 0 with
      | none => none
      | some (ps, m) => some (⟨false, ⟨6, 1, [], ps⟩, [], []⟩, s.data.toList.drop m)) := by rw [valM, if_neg h40]
    clear h40
    cases hin : psL s.data.toList [] 0 with
    | none =>
      have HL : Hid (valM s.data.toList = none) := Lib.hid (by rw [hL, hin])
      rw [hin] at cI
      clear hin hL
      go_enter Tryz.func59, Tryz.ntmps59
      go_wp2_with fail
      refine (cC _).mono ?_
      rintro e w1 ⟨rfl, rfl⟩
      go_wp2_with fail
      refine (cI _ (HA.out.below hb0)).mono ?_
      rintro e w1 ⟨hb1, rfl⟩
      have hR1 := HR0.out.next (by simpa using hb1)
      have hB1 := hb0.trans (hb1.mono hb0.size)
      have hlt := hR1.lt
      obtain ⟨r0, r1, r2, r3, r4, r5, r6, g0, g1, g2, g3, g4, g5, g6⟩ := hR1
      clear hb1 cI cC
      go_wp2_with fail
      refine bodyPost_ret (v := .tuple #[noMem, .string ⟨#[]⟩, .int .i64 2]) (by simp [results, Tryz.results59, go_sem, r0, r1, r2, r3, r4, r5, r6]) rfl ?_
      rw [HL.out]
      refine ⟨?_, rfl⟩
      repeat (first | with_reducible refine Below.alloc ?_ (by simp; omega) _ | with_reducible refine Below.setCell ?_ (by simp) _)
      exact hB1
    | some x =>
      obtain ⟨ps, m⟩ := x
      have HL : Hid (valM s.data.toList = some (⟨false, ⟨6, 1, [], ps⟩, [], []⟩, s.data.toList.drop m)) := Lib.hid (by rw [hL, hin])
      have hm2 := psL_le _ _ _ _ _ _ (Nat.le_refl _) hin
      rw [← Lib.size_eq, Nat.zero_add] at hm2
      rw [hin] at cI
      have j2 : (m : Int) ≤ (s.size : Int) := by omega
      have j0 : (0 : Int) ≤ (m : Int) := by omega
      have HX : Hid (s.extract m s.size = strB (s.data.toList.drop m)) := Lib.hid (by rw [← strB_of (s.extract m s.size), Lib.extract_to_end])
      clear hin hL
      go_enter Tryz.func59, Tryz.ntmps59
      go_wp2_with fail
      refine (cC _).mono ?_
      rintro e w1 ⟨rfl, rfl⟩
      go_wp2_with fail
      refine (cI _ (HA.out.below hb0)).mono ?_
      rintro e w1 ⟨hb1, v1, rfl, ho1⟩
      have HU := Lib.hid (PrmsOff.made (lo := w.heap.size + 1) (blk := none) ho1 (by simp) (fun g hg => by cases hg))
      obtain ⟨ao1, cap1, rfl⟩ := owns_form ho1
      have hR1 := HR0.out.next (by simpa using hb1)
      have hB1 := hb0.trans (hb1.mono hb0.size)
      have hlt := hR1.lt
      obtain ⟨r0, r1, r2, r3, r4, r5, r6, g0, g1, g2, g3, g4, g5, g6⟩ := hR1
      clear hb1 cI cC ho1
      go_wp2_with fail
      go_region
      all_goals
        go_wp2_with fail
        refine bodyPost_ret (v := .tuple #[aggM false 6 1 ⟨#[]⟩ (.slice ao1 ps.length cap1) (.slice none 0 0) (.slice none 0 0), .string (s.extract m s.size), .int .i64 0]) (by simp [results, Tryz.results59, go_sem, r0, r1, r2, r3, r4, r5, r6, hlt]) rfl ?_
        rw [HL.out]
        refine ⟨?_, _, by rw [HX.out] <;> rfl, .slice ao1 ps.length cap1, .slice none 0 0, .slice none 0 0, rfl, (HU.out.moved (c := w.heap.size) ?_ (Nat.lt_succ_self _)).low (Nat.le_succ _), ItmsOff.nothing _ _ _, PrmsOff.nothing _ _ _⟩
        · repeat (first | with_reducible refine Below.alloc ?_ (by simp; omega) _ | with_reducible refine Below.setCell ?_ (by simp) _ | with_reducible refine Below.drew ?_)
          exact hB1
        · repeat (first | with_reducible refine Moved.drew1 ?_ | with_reducible refine Moved.alloc ?_ _ | with_reducible refine Moved.setCell ?_ _)
          exact Moved.refl _ _

end Go.Proofs.YtpifbgefkbhopaaGreatDoor

namespace Go.Proofs.YtpifbgefkbhopaaGreatDoor
open Go.RowKit Go.Maps

abbrev aggE (K : ByteArray) (b : Bool) (k n : Int) (s : ByteArray) (u vi vp : Value) : Value := .agg #[.string K, .bool b, .int .i64 k, .int .i64 n, .string s, u, vi, vp]
abbrev noEnt : Value := aggE ⟨#[]⟩ false 0 0 ⟨#[]⟩ (.slice none 0 0) (.slice none 0 0) (.slice none 0 0)
abbrev zeroEnt : Obj := .cells #[.string ⟨#[]⟩, .bool false, .int .i64 0, .int .i64 0, .string ⟨#[]⟩, .slice none 0 0, .slice none 0 0, .slice none 0 0] 88

/-- An entry that is handed over, and where its parts lie. -/
def EntAt (lo : Nat) (blk : Option Nat) (w : World) (E : Ent) (v : Value) : Prop :=
  ∃ u vi vp, v = aggE (strB E.key) E.val.inner E.val.it.k E.val.it.n (strB E.val.it.s) u vi vp ∧ entR.F lo blk w E (u, vi, vp)

def entPost (o : Option (Ent × List UInt8)) (w : World) (e : Ending) (w' : World) : Prop :=
  Below w.heap.size w w' ∧ match o with
    | none => e = .returned (.tuple #[noEnt, .string ⟨#[]⟩, .int .i64 2])
    | some (E, r) => ∃ v, e = .returned (.tuple #[v, .string (strB r), .int .i64 0]) ∧ EntAt w.heap.size none w' E v

structure ResE (W : World) (c : Nat) : Prop where
  r0 : W.cell? ⟨c, 0, none⟩ = some (.string ⟨#[]⟩)
  r1 : W.cell? ⟨c, 1, none⟩ = some (.bool false)
  r2 : W.cell? ⟨c, 2, none⟩ = some (.int .i64 0)
  r3 : W.cell? ⟨c, 3, none⟩ = some (.int .i64 0)
  r4 : W.cell? ⟨c, 4, none⟩ = some (.string ⟨#[]⟩)
  r5 : W.cell? ⟨c, 5, none⟩ = some (.slice none 0 0)
  r6 : W.cell? ⟨c, 6, none⟩ = some (.slice none 0 0)
  r7 : W.cell? ⟨c, 7, none⟩ = some (.slice none 0 0)
  g0 : W.frozen? ⟨c, 0, none⟩ = false
  g1 : W.frozen? ⟨c, 1, none⟩ = false
  g2 : W.frozen? ⟨c, 2, none⟩ = false
  g3 : W.frozen? ⟨c, 3, none⟩ = false
  g4 : W.frozen? ⟨c, 4, none⟩ = false
  g5 : W.frozen? ⟨c, 5, none⟩ = false
  g6 : W.frozen? ⟨c, 6, none⟩ = false
  g7 : W.frozen? ⟨c, 7, none⟩ = false
theorem ResE.made (w : World) : ResE (w.alloc zeroEnt) w.heap.size := ⟨by simp, by simp, by simp, by simp, by simp, by simp, by simp, by simp, by simp, by simp, by simp, by simp, by simp, by simp, by simp, by simp⟩
theorem ResE.lt {W : World} {c : Nat} (h : ResE W c) : c < W.heap.size := lt_of_cell h.r0
theorem ResE.next {W W1 : World} {c : Nat} (h : ResE W c) (hb : Below (c + 1) W W1) : ResE W1 c := by
  have hc : ∀ i, W1.cell? ⟨c, i, none⟩ = W.cell? ⟨c, i, none⟩ := fun i => hb.cell (p := ⟨c, i, none⟩) (Nat.lt_succ_self _)
  have hf : ∀ i, W1.frozen? ⟨c, i, none⟩ = W.frozen? ⟨c, i, none⟩ := fun i => hb.frozen (p := ⟨c, i, none⟩) (Nat.lt_succ_self _)
  exact ⟨(hc 0).trans h.r0, (hc 1).trans h.r1, (hc 2).trans h.r2, (hc 3).trans h.r3, (hc 4).trans h.r4, (hc 5).trans h.r5, (hc 6).trans h.r6, (hc 7).trans h.r7, (hf 0).trans h.g0, (hf 1).trans h.g1, (hf 2).trans h.g2, (hf 3).trans h.g3, (hf 4).trans h.g4, (hf 5).trans h.g5, (hf 6).trans h.g6, (hf 7).trans h.g7⟩

set_option maxRecDepth 100000 in
set_option maxHeartbeats 4000000 in
theorem readEntry_any (s : ByteArray) (w : World) (hs : s.size ≤ 100000) (hA : Alph w) :
    Calls Tryz.prog 35 #[.string s] w (entPost (entL s.data.toList) w) := by
  have hb0 : Below w.heap.size w (w.alloc zeroEnt) := (Below.refl _ _).alloc (Nat.le_refl _) _
  have HA := Lib.hid hA
  have HR0 := Lib.hid (ResE.made w)
  have cK := fun W => readKey_any s W (by unfold maxLen; omega)
  have hk := klen_le s.data.toList
  rw [← Lib.size_eq] at hk
  clear hA
  by_cases h0 : klen s.data.toList = 0
  · have HL : Hid (entL s.data.toList = none) := Lib.hid (by rw [entL, if_pos h0])
    rw [rkV, if_pos h0] at cK
    have hR1 := HR0.out
    have hlt := hR1.lt
    have HRx := Lib.hid hR1
    clear h0
    go_enter Tryz.func35, Tryz.ntmps35
    go_wp2_with fail
    refine (cK _).mono ?_
    rintro e w1 ⟨rfl, rfl⟩
    obtain ⟨r0, r1, r2, r3, r4, r5, r6, r7, g0, g1, g2, g3, g4, g5, g6, g7⟩ := hR1
    go_wp2_with fail
    refine bodyPost_ret (v := .tuple #[noEnt, .string ⟨#[]⟩, .int .i64 2]) (by simp [results, Tryz.results35, go_sem]) rfl ?_
    rw [HL.out]
    refine ⟨?_, rfl⟩
    repeat (first | with_reducible refine Below.alloc ?_ (by simp) _ | with_reducible refine Below.setCell ?_ (by simp) _)
    exact Below.refl _ _
  · have hxd : (s.extract (klen s.data.toList) s.size).data.toList = s.data.toList.drop (klen s.data.toList) := Lib.extract_to_end s _
    have cV := fun W hW => readValue_any (s.extract (klen s.data.toList) s.size) W (by rw [Lib.size_eq, hxd, List.length_drop, ← Lib.size_eq]; omega) hW
    rw [hxd] at cV
    rw [rkV, if_neg h0] at cK
    have hE : entL s.data.toList = (match valM (s.data.toList.drop (klen s.data.toList)) with
      | none => none
      | some (M, r) => some (⟨s.data.toList.take (klen s.data.toList), M⟩, r)) := by rw [entL, if_neg h0] <;> rfl
    have j0 : (0 : Int) ≤ (klen s.data.toList : Int) := by omega
    have j2 : (klen s.data.toList : Int) ≤ (s.size : Int) := by omega
    clear hxd h0 hk
    cases hv : valM (s.data.toList.drop (klen s.data.toList)) with
    | none =>
      have HL : Hid (entL s.data.toList = none) := Lib.hid (by rw [hE, hv])
      rw [hv] at cV
      clear hv hE
      generalize strB (s.data.toList.take (klen s.data.toList)) = K at *
      generalize klen s.data.toList = n at *
      go_enter Tryz.func35, Tryz.ntmps35
      go_wp2_with fail
      refine (cK _).mono ?_
      rintro e w1 ⟨rfl, rfl⟩
      go_wp2_with fail
      refine (cV _ (HA.out.below hb0)).mono ?_
      rintro e w1 ⟨hb1, rfl⟩
      have hR1 := HR0.out.next (by simpa using hb1)
      have hB1 := hb0.trans (hb1.mono hb0.size)
      have hlt := hR1.lt
      obtain ⟨r0, r1, r2, r3, r4, r5, r6, r7, g0, g1, g2, g3, g4, g5, g6, g7⟩ := hR1
      clear hb1 cK cV
      go_wp2_with fail
      refine bodyPost_ret (v := .tuple #[noEnt, .string ⟨#[]⟩, .int .i64 2]) (by simp [results, Tryz.results35, go_sem, r0, r1, r2, r3, r4, r5, r6, r7, hlt]) rfl ?_
      rw [HL.out]
      refine ⟨?_, rfl⟩
      repeat (first | with_reducible refine Below.alloc ?_ (by simp; omega) _ | with_reducible refine Below.setCell ?_ (by simp) _)
      exact hB1
    | some x =>
      obtain ⟨M, r⟩ := x
      have HL : Hid (entL s.data.toList = some (⟨s.data.toList.take (klen s.data.toList), M⟩, r)) := Lib.hid (by rw [hE, hv])
      rw [hv] at cV
      clear hv hE
      generalize hKey : s.data.toList.take (klen s.data.toList) = Key at *
      generalize klen s.data.toList = n at *
      go_enter Tryz.func35, Tryz.ntmps35
      go_wp2_with fail
      refine (cK _).mono ?_
      rintro e w1 ⟨rfl, rfl⟩
      go_wp2_with fail
      refine (cV _ (HA.out.below hb0)).mono ?_
      rintro e w1 ⟨hb1, v1, rfl, u, vi, vp, rfl, hu, hvi, hvp⟩
      have hR1 := HR0.out.next (by simpa using hb1)
      have hB1 := hb0.trans (hb1.mono hb0.size)
      have hlt := hR1.lt
      obtain ⟨r0, r1, r2, r3, r4, r5, r6, r7, g0, g1, g2, g3, g4, g5, g6, g7⟩ := hR1
      obtain ⟨ao1, cap1, rfl⟩ := hu.form
      obtain ⟨ao2, cap2, rfl⟩ := hvi.form
      obtain ⟨ao3, cap3, rfl⟩ := hvp.form
      have HU := Lib.hid (hu.low (show w.heap.size + 1 ≤ _ by simp))
      have HV := Lib.hid (hvi.low (show w.heap.size + 1 ≤ _ by simp))
      have HW := Lib.hid (hvp.low (show w.heap.size + 1 ≤ _ by simp))
      clear hb1 cK cV hu hvi hvp
      go_wp2_with fail
      refine bodyPost_ret (v := .tuple #[aggE (strB Key) M.inner M.it.k M.it.n (strB M.it.s) (.slice ao1 M.it.ps.length cap1) (.slice ao2 M.its.length cap2) (.slice ao3 M.ps.length cap3), .string (strB r), .int .i64 0]) (by simp [results, Tryz.results35, go_sem, r0, r1, r2, r3, r4, r5, r6, r7, hlt]) rfl ?_
      rw [HL.out]
      refine ⟨?_, _, rfl, _, _, _, rfl, (HU.out.moved (c := w.heap.size) ?_ (Nat.lt_succ_self _)).low (Nat.le_succ _), (HV.out.moved (c := w.heap.size) ?_ (Nat.lt_succ_self _)).low (Nat.le_succ _), (HW.out.moved (c := w.heap.size) ?_ (Nat.lt_succ_self _)).low (Nat.le_succ _)⟩
      · repeat (first | with_reducible refine Below.alloc ?_ (by simp; omega) _ | with_reducible refine Below.setCell ?_ (by simp) _ | with_reducible refine Below.drew ?_)
        exact hB1
      all_goals
        repeat (first | with_reducible refine Moved.drew1 ?_ | with_reducible refine Moved.alloc ?_ _ | with_reducible refine Moved.setCell ?_ _)
        exact Moved.refl _ _

end Go.Proofs.YtpifbgefkbhopaaGreatDoor

namespace Go.Proofs.YtpifbgefkbhopaaGreatDoor
open Go.RowKit Go.Maps

theorem valM_le (l : List UInt8) (M : Mem) (r : List UInt8) (h : valM l = some (M, r)) : r.length ≤ l.length := by
  unfold valM at h
  split at h
  · have := memL_le _ _ _ h
    rw [List.length_drop] at this
    omega
  · split at h
    · cases h
    · obtain ⟨_, rfl⟩ := Prod.mk.inj (Option.some.inj h)
      rw [List.length_drop]; omega
theorem entL_le (l : List UInt8) (E : Ent) (r : List UInt8) (h : entL l = some (E, r)) : r.length ≤ l.length := by
  unfold entL at h
  split at h
  · cases h
  · split at h
    · cases h
    · rename_i M r1 hv
      have h1 := valM_le _ _ _ hv
      rw [List.length_drop] at h1
      obtain ⟨_, rfl⟩ := Prod.mk.inj (Option.some.inj h)
      omega

def dictPost (o : Option (List Ent)) (w : World) (e : Ending) (w' : World) : Prop :=
  Below w.heap.size w w' ∧ match o with
    | none => e = .returned (.tuple #[.slice none 0 0, .int .i64 2])
    | some xs => ∃ v, e = .returned (.tuple #[v, .int .i64 0]) ∧ OwnG entR 88 w' w.heap.size v xs

theorem info_entry : (Tryz.prog.info? 88).map (fun i => (i.zero, i.size, i.bytes)) = some (some noEnt, 8, 128) := by kernel_rfl

abbrev entO (K : ByteArray) (b : Bool) (k n : Int) (s : ByteArray) (u vi vp : Value) : Obj := .cells #[.string K, .bool b, .int .i64 k, .int .i64 n, .string s, u, vi, vp] 88

set_option maxRecDepth 100000 in
set_option maxHeartbeats 4000000 in
theorem sepE_any (s : ByteArray) (w : World) (hs : s.size ≤ 100000) (hA : Alph w) :
    Calls Tryz.prog 34 #[.string s, .func (.func 35) #[] #[]] w (dictPost (sepL entL s.data.toList) w) := by
  obtain ⟨i0, hi, hz0, hz1, hz2⟩ := info_parts info_entry
  have HA := Lib.hid hA
  clear hA
  have hsp := spD_le s.data.toList
  rw [← Lib.size_eq] at hsp
  have hem := empty_iff (spD s.data.toList)
  cases h0 : (spD s.data.toList).isEmpty with
  | true =>
    have HL : Hid (sepL entL s.data.toList = some []) := Lib.hid (by rw [sepL, if_pos (by simpa using h0)])
    rw [h0] at hem
    clear h0
    have cT := fun W => trimL1_any s W
    generalize strB (spD s.data.toList) = R at *
    go_enter Tryz.func34, Tryz.ntmps34
    go_wp2_with fail
    refine (cT _).mono ?_
    rintro e w1 ⟨rfl, hb1⟩
    go_wp2_with fail
    refine bodyPost_ret (v := .tuple #[.slice none 0 0, .int .i64 0]) (by simp [results, Tryz.results34, go_sem]) rfl ⟨hb1, ?_⟩
    rw [HL.out]
    exact ⟨_, rfl, OwnG.nothing _ _ _ _⟩
  | false =>
    have HL : Hid (sepL entL s.data.toList = sepF entL (s.data.toList.length + 1) (spD s.data.toList) []) := Lib.hid (by rw [sepL, if_neg (by intro e; rw [e] at h0; cases h0)])
    rw [h0] at hem
    clear h0
    have cT := fun W => trimL1_any s W
    go_enter Tryz.func34, Tryz.ntmps34
    go_wp2_with fail
    refine (cT _).mono ?_
    rintro e w1 ⟨rfl, hb1⟩
    go_wp2_with fail
    clear cT hem
    go_loopw [6, 7] (fun r v wr => ∃ (xs : List Ent) (l : List UInt8) (f : Nat), r = .string (strB l) ∧ l.length < f ∧ l.length + xs.length ≤ s.size ∧ Hid (sepL entL s.data.toList = sepF entL f l xs) ∧ OwnG entR 88 wr w.heap.size v xs ∧ Below w.heap.size w wr) (fun r _ _ => Lib.strSize r)
    case atStart => exact ⟨[], spD s.data.toList, s.data.toList.length + 1, rfl, by rw [← Lib.size_eq]; omega, by simpa using hsp, HL, OwnG.nothing _ _ _ _, hb1⟩
    case round =>
      obtain ⟨xs, l, f, rfl, hf, hl, H, hown, hb⟩ := hrel
      obtain ⟨f, rfl⟩ : ∃ f', f = f' + 1 := ⟨f - 1, by omega⟩
      have HO := Lib.hid hown
      have HB := Lib.hid hb
      have hbz := hb.size
      have hls := strB_size l
      have cR := fun W hW => readEntry_any (strB l) W (by omega) hW
      rw [strB_data] at cR
      have HLS := Lib.hid hls
      clear hown hb hls HL
      cases hm : entL l with
      | none =>
        have HR := Lib.hid (H.out.trans (sepF_none entL f l xs hm))
        rw [hm] at cR
        clear hm
        generalize strB l = L at *
        go_wp2_with fail
        refine (cR _ (HA.out.below HB.out)).mono ?_
        rintro e w3 ⟨hb3, rfl⟩
        go_wp2_with fail
        refine bodyPost_ret (v := .tuple #[.slice none 0 0, .int .i64 2]) (by simp [results, Tryz.results34, go_sem]) rfl ⟨?_, ?_⟩
        · exact (HB.out.trans (hb3.mono hbz)).alloc (Nat.le_trans hbz hb3.size) _
        · rw [HR.out]
      | some Mr =>
        obtain ⟨M, r⟩ := Mr
        have hrl := entL_le _ _ _ hm
        rw [hm] at cR
        have HM := Lib.hid hm
        have cT := fun W => trimL2_any (strB r) W
        rw [strB_data] at cT
        have hbl := blD_le r
        have hbs := strB_size (blD r)
        have hem := empty_iff (blD r)
        clear hm
        generalize strB l = L at *
        obtain ⟨us, u1, u2, u3⟩ := HO.out
        go_wp2_with fail
        refine (cR _ (HA.out.below HB.out)).mono ?_
        rintro e w3 ⟨hb3, v3, rfl, uu, vi, vp, rfl, hu, hvi, hvp⟩
        obtain ⟨ao1, cap1, rfl⟩ := hu.form
        obtain ⟨ao2, cap2, rfl⟩ := hvi.form
        obtain ⟨ao3, cap3, rfl⟩ := hvp.form
        obtain ⟨ao, cap, rfl⟩ := owns_form u2
        have hz3 := Nat.le_trans hbz hb3.size
        have hF0 : entR.F w.heap.size (Value.slice ao xs.length cap).ownBlock w3 M (.slice ao1 M.val.it.ps.length cap1, .slice ao2 M.val.its.length cap2, .slice ao3 M.val.ps.length cap3) :=
          entR.low (entR.avoid ⟨hu, hvi, hvp⟩ (fun g hg => (World.ownsRow.lt u2 g hg).2)) hbz
        have hbW : Below w3.heap.size w3 ((w3.alloc (entO (strB M.key) M.val.inner M.val.it.k M.val.it.n (strB M.val.it.s) (.slice ao1 M.val.it.ps.length cap1) (.slice ao2 M.val.its.length cap2) (.slice ao3 M.val.ps.length cap3))).alloc (entO (strB M.key) M.val.inner M.val.it.k M.val.it.n (strB M.val.it.s) (.slice ao1 M.val.it.ps.length cap1) (.slice ao2 M.val.its.length cap2) (.slice ao3 M.val.ps.length cap3))) := ((Below.refl _ _).alloc (Nat.le_refl _) _).alloc (by simp) _
        have hOW := ownsRow_later (ownsRow_later u2 hb3) hbW
        have hnew := cells_new (w3.alloc (entO (strB M.key) M.val.inner M.val.it.k M.val.it.n (strB M.val.it.s) (.slice ao1 M.val.it.ps.length cap1) (.slice ao2 M.val.its.length cap2) (.slice ao3 M.val.ps.length cap3))) (entR.cells M (.slice ao1 M.val.it.ps.length cap1, .slice ao2 M.val.its.length cap2, .slice ao3 M.val.ps.length cap3)) 88
        rw [show (w3.alloc (entO (strB M.key) M.val.inner M.val.it.k M.val.it.n (strB M.val.it.s) (.slice ao1 M.val.it.ps.length cap1) (.slice ao2 M.val.its.length cap2) (.slice ao3 M.val.ps.length cap3))).heap.size = w3.heap.size + 1 by simp] at hnew
        have HNew := Lib.hid hnew
        have HU3 := Lib.hid (fun (j : Nat) u (x : Ent) hu hx => entR.below (entR.below (u3 j u x hu hx) hb3) hbW)
        have HF := Lib.hid (entR.below hF0 hbW)
        have HBW := Lib.hid ((HB.out.trans (hb3.mono hbz)).trans (hbW.mono hz3))
        have HU1 := Lib.hid u1
        clear u3 hF0 u2 hb3 hu hvi hvp u1 hnew cR
        go_wp2_with (at_builtin; go_loud (refine wpList_append_lies _ rfl _ _ 49 rfl w.heap.size 88 i0 noEnt 8 128 Tryz.underlying49 hi hz0 hz1 hz2 rfl (by decide) _ xs.length (rowG entR (xs.zip us)) rfl hOW ⟨_, 0, none⟩ 1 1 (entR.cells M (.slice ao1 M.val.it.ps.length cap1, .slice ao2 M.val.its.length cap2, .slice ao3 M.val.ps.length cap3)) rfl rfl HNew.out (by simp [Value.oneCell', entR, memR]) (by decide) (by unfold maxLen; omega) (by omega) (by simp; omega) _ rfl ?_); intro g5 cap5 w5 hown5 hgrow5 hat5 hlt5)
        have hN := OwnG.snoc (R := entR) HU1.out HU3.out HF.out hown5 hgrow5 hat5
        have hB5 : Below w.heap.size w w5 := by
          have h1 := HBW.out
          exact ⟨hgrow5.os.trans h1.os, hgrow5.tape.trans h1.tape, hgrow5.output.trans h1.output, Nat.le_trans h1.size hgrow5.size, fun i hi => (hgrow5.block i (Nat.lt_of_lt_of_le hi h1.size) (own_ne hOW hi)).trans (h1.block i hi)⟩
        refine (cT _).mono ?_
        rintro e w6 ⟨rfl, hb6⟩
        have HN6 := Lib.hid (hN.below hb6)
        have HB6 := Lib.hid (hB5.trans (hb6.mono hB5.size))
        clear hN hown5 hgrow5 hb6 hOW hbW hB5 cT
        by_cases hbe : blD r = []
        · have HR := Lib.hid (H.out.trans (sepF_end entL f l r xs M HM.out hbe))
          rw [hbe] at hem ⊢
          go_wp2_with fail
          refine bodyPost_ret (v := .tuple #[.slice (some ⟨g5, 0, none⟩) (xs.length + 1) cap5, .int .i64 0]) (by simp [results, Tryz.results34, go_sem]) rfl ⟨HB6.out, ?_⟩
          rw [HR.out]
          exact ⟨_, rfl, HN6.out⟩
        · have he2 : (blD r).isEmpty = false := by
            cases hx : blD r with
            | nil => exact absurd hx hbe
            | cons a b => rfl
          rw [he2] at hem
          by_cases h44 : (blD r).head? = some 44
          · have HR := Lib.hid (H.out.trans (sepF_more entL f l r xs M HM.out hbe h44))
            have cC := fun W => cut_yes (strB (blD r)) 44 W (by rw [strB_data]; exact h44)
            rw [strB_data] at cC
            have cT2 := fun W => trimL2_any (strB ((blD r).drop 1)) W
            rw [strB_data] at cT2
            have hbl2 := blD_le ((blD r).drop 1)
            have hpos : 0 < (blD r).length := List.length_pos_iff.2 hbe
            rw [List.length_drop] at hbl2
            clear hbe he2 h44 hbs
            generalize strB (blD r) = B1 at *
            generalize (blD r).drop 1 = D1 at *
            generalize strB D1 = B2 at *
            go_wp2_with fail
            refine (cC _).mono ?_
            rintro e w7 ⟨rfl, rfl⟩
            go_wp2_with fail
            refine (cT2 _).mono ?_
            rintro e w8 ⟨rfl, hb8⟩
            have hN8 := HN6.out.below hb8
            have hB8 := HB6.out.trans (hb8.mono HB6.out.size)
            go_wp2_with fail
            go_roundw
            case rel => exact ⟨xs ++ [M], _, f, rfl, by omega, by simp; omega, HR, by simpa using hN8, hB8⟩
            case measure =>
              have := HLS.out
              simp [Lib.strSize, strB_size]
              omega
          · have HR := Lib.hid (H.out.trans (sepF_bad entL f l r xs M HM.out hbe h44))
            have cC := fun W => cut_no (strB (blD r)) 44 W (by rw [strB_data]; exact h44)
            clear hbe he2 h44 hbs
            generalize strB (blD r) = B1 at *
            go_wp2_with fail
            refine (cC _).mono ?_
            rintro e w7 ⟨rfl, rfl⟩
            go_wp2_with fail
            refine bodyPost_ret (v := .tuple #[.slice none 0 0, .int .i64 2]) (by simp [results, Tryz.results34, go_sem]) rfl ⟨HB6.out, ?_⟩
            rw [HR.out]

end Go.Proofs.YtpifbgefkbhopaaGreatDoor

namespace Go.Proofs.YtpifbgefkbhopaaGreatDoor
open Go.RowKit Go.Maps

/-- Whether all is empty that members of its kind do not use. -/
def kindL (M : Mem) : Bool := if M.inner then sameI M.it.k M.it.n M.it.s M.it.ps 0 0 [] [] else M.its.isEmpty && M.ps.isEmpty

theorem box7 {w W : World} {a b c d a' b' c' : Value} {T : TypeId} (hb : Below (w.heap.size + 1) (w.alloc (.cells #[a, b, c, d, a', b', c'] T)) W) :
    W.cell? ⟨w.heap.size, 0, none⟩ = some a ∧ W.cell? ⟨w.heap.size, 1, none⟩ = some b ∧ W.cell? ⟨w.heap.size, 2, none⟩ = some c ∧ W.cell? ⟨w.heap.size, 3, none⟩ = some d ∧ W.cell? ⟨w.heap.size, 4, none⟩ = some a' ∧ W.cell? ⟨w.heap.size, 5, none⟩ = some b' ∧ W.cell? ⟨w.heap.size, 6, none⟩ = some c' := by
  refine ⟨?_, ?_, ?_, ?_, ?_, ?_, ?_⟩
  · rw [hb.cell (p := ⟨w.heap.size, 0, none⟩) (by simp)]; simp
  · rw [hb.cell (p := ⟨w.heap.size, 1, none⟩) (by simp)]; simp
  · rw [hb.cell (p := ⟨w.heap.size, 2, none⟩) (by simp)]; simp
  · rw [hb.cell (p := ⟨w.heap.size, 3, none⟩) (by simp)]; simp
  · rw [hb.cell (p := ⟨w.heap.size, 4, none⟩) (by simp)]; simp
  · rw [hb.cell (p := ⟨w.heap.size, 5, none⟩) (by simp)]; simp
  · rw [hb.cell (p := ⟨w.heap.size, 6, none⟩) (by simp)]; simp

end Go.Proofs.YtpifbgefkbhopaaGreatDoor

namespace Go.Proofs.YtpifbgefkbhopaaGreatDoor
open Go.RowKit Go.Maps

/-- The texts of parts, one behind the other, with a separator between. -/
def jnGo {α : Type} (f : α → Option (List UInt8)) (sep : List UInt8) : Bool → List α → Option (List UInt8)
  | _, [] => some []
  | first, x :: xs => match f x with
    | none => none
    | some t => (jnGo f sep false xs).map ((if first then t else sep ++ t) ++ ·)
theorem jnGo_none {α : Type} (f : α → Option (List UInt8)) (sep : List UInt8) (b : Bool) (x : α) (xs : List α) (h : f x = none) : jnGo f sep b (x :: xs) = none := by rw [jnGo, h]
theorem jnGo_some {α : Type} (f : α → Option (List UInt8)) (sep : List UInt8) (b : Bool) (x : α) (xs : List α) (t : List UInt8) (h : f x = some t) : jnGo f sep b (x :: xs) = (jnGo f sep false xs).map ((if b then t else sep ++ t) ++ ·) := by rw [jnGo, h]

def itT (x : Itm) : Option (List UInt8) := prT x.k x.n x.s x.ps
/-- What bounds an item's text. -/
def ItmOk (x : Itm) : Prop := x.ps.length ≤ 100000 ∧ (∀ p ∈ x.ps, Small p) ∧ x.s.length ≤ 100000 ∧ -9223372036854775808 ≤ x.n ∧ x.n ≤ 9223372036854775807

theorem itT_len (x : Itm) (t : List UInt8) (h : ItmOk x) (ht : itT x = some t) : t.length ≤ 50000000000 := by
  obtain ⟨h1, h2, h3, _⟩ := h
  obtain ⟨hr, _, v, hv, rfl⟩ := prT_some _ _ _ _ _ ht
  have a := textL_len _ _ _ hr
  have b := ppGo_len x.ps v h2 hv
  rw [List.length_append]
  omega

theorem drop_at {α : Type} (xs : List α) (j : Nat) (x : α) (h : xs[j]? = some x) : xs.drop j = x :: xs.drop (j + 1) := by
  obtain ⟨hlt, e⟩ := List.getElem?_eq_some_iff.1 h
  rw [List.drop_eq_getElem_cons hlt, e]

end Go.Proofs.YtpifbgefkbhopaaGreatDoor

namespace Go.Proofs.YtpifbgefkbhopaaGreatDoor
open Go.RowKit Go.Maps

/-- The text of a member, if it may be. -/
def memT (M : Mem) : Option (List UInt8) := if kindL M = false then none else if M.inner = false then itT M.it else match jnGo itT [32] true M.its with
  | none => none
  | some a => match ppT M.ps with
    | none => none
    | some b => some (40 :: (a ++ 41 :: b))

/-- What bounds a member's text. -/
def MemOk (M : Mem) : Prop := ItmOk M.it ∧ M.its.length ≤ 2000 ∧ (∀ x ∈ M.its, ItmOk x) ∧ M.ps.length ≤ 100000 ∧ ∀ p ∈ M.ps, Small p

theorem MemAt.below {lo : Nat} {blk : Option Nat} {w W : World} {M : Mem} {v : Value} (h : MemAt lo blk w M v) (hb : Below w.heap.size w W) : MemAt lo blk W M v := by
  obtain ⟨u, vi, vp, hv, h1, h2, h3⟩ := h
  exact ⟨u, vi, vp, hv, h1.below hb, h2.below hb, h3.below hb⟩

theorem jnGo_len (sep : List UInt8) (hs : sep.length ≤ 10) : ∀ (xs : List Itm) (b : Bool) (u : List UInt8), (∀ x ∈ xs, ItmOk x) → jnGo itT sep b xs = some u → u.length ≤ xs.length * 60000000000
  | [], _, u, _, h => by
    obtain rfl := Option.some.inj h
    simp
  | x :: xs, b, u, hk, h => by
    cases ht : itT x with
    | none => rw [jnGo_none _ _ _ _ _ ht] at h; cases h
    | some t =>
      have hl := itT_len x t (hk x (List.mem_cons_self ..)) ht
      rw [jnGo_some _ _ _ _ _ t ht] at h
      cases hr : jnGo itT sep false xs with
      | none => rw [hr] at h; cases h
      | some y =>
        have := jnGo_len sep hs xs false y (fun q hq => hk q (List.mem_cons_of_mem _ hq)) hr
        rw [hr] at h
        obtain rfl := Option.some.inj h
        rw [List.length_append, List.length_cons]
        split
        · omega
        · rw [List.length_append]; omega

theorem eqB (A : ByteArray) (l : List UInt8) (h : A.data.toList = l) : A = strB l := by
  subst h; rfl

end Go.Proofs.YtpifbgefkbhopaaGreatDoor

namespace Go.Proofs.YtpifbgefkbhopaaGreatDoor
open Go.RowKit Go.Maps
variable {α β : Type}

/-- What lies in memory whole: a row, and what its elements point to. -/
def GOff (R : Rowing α β) (lo : Nat) (blk : Option Nat) (w : World) (v : Value) (xs : List α) : Prop :=
  ∃ ao cap, v = .slice ao xs.length cap ∧ (xs = [] ∨ ∃ b off, ao = some ⟨b, off, none⟩ ∧ lo ≤ b ∧ some b ≠ blk ∧ b < w.heap.size ∧ ∀ j x, xs[j]? = some x → ∃ u, (∀ i, i < R.size → w.cell? ⟨b, off + j * R.size + i, none⟩ = (R.cells x u)[i]?) ∧ R.F lo blk w x u)
theorem GOff.below {R : Rowing α β} {lo : Nat} {blk : Option Nat} {w w' : World} {v : Value} {xs : List α} (h : GOff R lo blk w v xs) (hb : Below w.heap.size w w') : GOff R lo blk w' v xs := by
  obtain ⟨ao, cap, hv, hc⟩ := h
  rcases hc with hc | ⟨b, off, h1, h0, h2, h3, h4⟩
  · exact ⟨ao, cap, hv, .inl hc⟩
  · refine ⟨ao, cap, hv, .inr ⟨b, off, h1, h0, h2, Nat.lt_of_lt_of_le h3 hb.size, fun j x hx => ?_⟩⟩
    obtain ⟨u, hcs, hF⟩ := h4 j x hx
    exact ⟨u, fun i hi => (hb.cell (p := ⟨b, _, none⟩) h3).trans (hcs i hi), R.below hF hb⟩

theorem memT_len (M : Mem) (t : List UInt8) (h : MemOk M) (ht : memT M = some t) : t.length ≤ 121000000000000 := by
  obtain ⟨h1, h2, h3, h4, h5⟩ := h
  unfold memT at ht
  split at ht
  · cases ht
  · split at ht
    · have := itT_len _ _ h1 ht
      omega
    · split at ht
      · cases ht
      · rename_i a ha
        split at ht
        · cases ht
        · rename_i b hb
          obtain rfl := Option.some.inj ht
          have q1 := jnGo_len [32] (by decide) M.its true a h3 ha
          have q2 := ppGo_len M.ps b h5 (ppT_some _ _ hb).2
          simp only [List.length_cons, List.length_append]
          omega

end Go.Proofs.YtpifbgefkbhopaaGreatDoor

namespace Go.Proofs.YtpifbgefkbhopaaGreatDoor
open Go.RowKit Go.Maps
variable {α β : Type}

theorem rowG_set8 : ∀ (l : List (Ent × Value × Value × Value)) (i : Nat) (x : Ent) (u : Value × Value × Value), i < l.length →
    rowG entR (l.set i (x, u)) = ((((((((rowG entR l).set (i * 8) (.string (strB x.key))).set (i * 8 + 1) (.bool x.val.inner)).set (i * 8 + 2) (.int .i64 x.val.it.k)).set (i * 8 + 3) (.int .i64 x.val.it.n)).set (i * 8 + 4) (.string (strB x.val.it.s))).set (i * 8 + 5) u.1).set (i * 8 + 6) u.2.1).set (i * 8 + 7) u.2.2
  | [], i, _, _, h => by simp at h
  | (q, v) :: l, 0, x, u, _ => by
    rw [List.set_cons_zero, rowG, rowG]
    rfl
  | (q, v) :: l, i + 1, x, u, h => by
    rw [List.set_cons_succ, rowG, rowG_set8 l i x u (by simpa using h), rowG]
    have e : ∀ (j : Nat) (r : List Value) (y : Value), (entR.cells q v ++ r).set ((i + 1) * 8 + j) y = entR.cells q v ++ r.set (i * 8 + j) y := by
      intro j r y
      have hl : (entR.cells q v).length = 8 := entR.len q v
      rw [List.set_append, if_neg (by rw [hl]; omega), hl]
      congr 2
      omega
    have e0 := e 0
    simp only [Nat.add_zero] at e0
    rw [e0, e 1, e 2, e 3, e 4, e 5, e 6, e 7]
theorem zip_set : ∀ (xs : List α) (us : List β) (i : Nat) (x : α) (u : β), (xs.set i x).zip (us.set i u) = (xs.zip us).set i (x, u)
  | [], us, i, x, u => by simp
  | x0 :: xs, [], i, x, u => by simp
  | x0 :: xs, u0 :: us, 0, x, u => rfl
  | x0 :: xs, u0 :: us, i + 1, x, u => by
    rw [List.set_cons_succ, List.set_cons_succ, List.zip_cons_cons, List.zip_cons_cons, List.set_cons_succ, zip_set xs us i x u]

/-- A row that is owned, whose elements point to what lies. -/
theorem GOff.of_row {R : Rowing α β} {T : TypeId} {lo base : Nat} {w : World} {v : Value} {xs : List α} {us : List β} (h1 : us.length = xs.length) (ho : w.ownsRow base T R.size v xs.length (rowG R (xs.zip us)))
    (hF : ∀ (j : Nat) (u : β) (x : α), us[j]? = some u → xs[j]? = some x → R.F lo none w x u) (hlo : lo ≤ base) : GOff R lo none w v xs := by
  obtain ⟨ao, cap, rfl⟩ := owns_form ho
  refine ⟨ao, cap, rfl, ?_⟩
  by_cases hx : xs = []
  · exact .inl hx
  · have hpos : 0 < xs.length := List.length_pos_iff.2 hx
    obtain ⟨g, cap2, hv, hg, hlt, _⟩ := owns_slice ho hpos
    obtain ⟨rfl, _, rfl⟩ := Value.slice.inj hv
    refine .inr ⟨g, 0, rfl, Nat.le_trans hlo hg, fun e => (by cases e), hlt, fun j x hj => ?_⟩
    have hju : j < us.length := by rw [h1]; exact (List.getElem?_eq_some_iff.1 hj).1
    refine ⟨us[j], fun i hi => ?_, hF j _ x (List.getElem?_eq_getElem hju) hj⟩
    have hz : (xs.zip us)[j]? = some (x, us[j]) := by
      rw [List.getElem?_zip_eq_some]
      exact ⟨hj, List.getElem?_eq_getElem hju⟩
    have hr := rowG_at R _ j i x us[j] hz hi
    have hil : i < (R.cells x us[j]).length := by rw [R.len]; exact hi
    rw [List.getElem?_eq_getElem hil] at hr ⊢
    rw [Nat.zero_add]
    exact owns_cells ho _ _ hr
theorem OwnG.off {R : Rowing α β} {T : TypeId} {w : World} {base : Nat} {v : Value} {xs : List α} (h : OwnG R T w base v xs) : GOff R base none w v xs := by
  obtain ⟨us, h1, h2, h3⟩ := h
  exact GOff.of_row h1 h2 (fun j u x hu hx => R.avoid (h3 j u x hu hx) (fun g hg => by cases hg)) (Nat.le_refl _)
theorem GOff.low {R : Rowing α β} {lo lo' : Nat} {blk : Option Nat} {w : World} {v : Value} {xs : List α} (h : GOff R lo blk w v xs) (hl : lo' ≤ lo) : GOff R lo' blk w v xs := by
  obtain ⟨ao, cap, hv, hc⟩ := h
  rcases hc with hc | ⟨b, off, h1, h0, h2, h3, h4⟩
  · exact ⟨ao, cap, hv, .inl hc⟩
  · refine ⟨ao, cap, hv, .inr ⟨b, off, h1, Nat.le_trans hl h0, h2, h3, fun j x hx => ?_⟩⟩
    obtain ⟨u, hc, hF⟩ := h4 j x hx
    exact ⟨u, hc, R.low hF hl⟩

/-- One entry more: at its key's place, or behind all. -/
def putE (acc : List Ent) (e : Ent) : List Ent :=
  if idxL (acc.map Ent.key) e.key < acc.length then acc.set (idxL (acc.map Ent.key) e.key) e else acc ++ [e]
def oeK (l : List Ent) : List Ent := l.foldl putE []
theorem ekeys_set (acc : List Ent) (p : Ent) (i : Nat) (hie : idxL (acc.map Ent.key) p.key = i) (hix : i < acc.length) : (acc.set i p).map Ent.key = acc.map Ent.key := by
  have hm : i < (acc.map Ent.key).length := by simpa using hix
  have hk : (acc.map Ent.key)[i] = p.key := by
    have h1 : (acc.map Ent.key).findIdx (· == p.key) < (acc.map Ent.key).length := by
      show idxL _ _ < _
      rw [hie]; exact hm
    have := List.findIdx_getElem (w := h1)
    have e : (acc.map Ent.key).findIdx (· == p.key) = i := hie
    simp only [e, beq_iff_eq] at this
    exact this
  rw [List.map_set, ← hk, List.set_getElem_self]

theorem set_F {α β : Type} {P : α → β → Prop} {xs : List α} {us : List β} {i : Nat} {x0 : α} {u0 : β} (h : ∀ (k : Nat) (u : β) (x : α), us[k]? = some u → xs[k]? = some x → P x u) (h0 : P x0 u0) :
    ∀ (k : Nat) (u : β) (x : α), (us.set i u0)[k]? = some u → (xs.set i x0)[k]? = some x → P x u := by
  intro k u x hu hx
  rw [List.getElem?_set] at hu hx
  by_cases hk : i = k
  · subst hk
    simp only [if_true] at hu hx
    split at hu
    · split at hx
      · obtain rfl := Option.some.inj hu
        obtain rfl := Option.some.inj hx
        exact h0
      · cases hx
    · cases hu
  · rw [if_neg hk] at hu hx
    exact h k u x hu hx
theorem snoc_F {α β : Type} {P : α → β → Prop} {xs : List α} {us : List β} {x0 : α} {u0 : β} (hl : us.length = xs.length) (h : ∀ (k : Nat) (u : β) (x : α), us[k]? = some u → xs[k]? = some x → P x u) (h0 : P x0 u0) :
    ∀ (k : Nat) (u : β) (x : α), (us ++ [u0])[k]? = some u → (xs ++ [x0])[k]? = some x → P x u := by
  intro k u x hu hx
  by_cases hk : k < us.length
  · rw [List.getElem?_append_left hk] at hu
    rw [List.getElem?_append_left (by omega)] at hx
    exact h k u x hu hx
  · have hk2 : k = us.length := by
      have := (List.getElem?_eq_some_iff.1 hu).1
      simp only [List.length_append, List.length_singleton] at this
      omega
    subst hk2
    rw [List.getElem?_concat_length] at hu
    rw [hl, List.getElem?_concat_length] at hx
    obtain rfl := Option.some.inj hu
    obtain rfl := Option.some.inj hx
    exact h0
theorem zip_snoc {α β : Type} {xs : List α} {us : List β} {x : α} {u : β} (hl : us.length = xs.length) : (xs ++ [x]).zip (us ++ [u]) = xs.zip us ++ [(x, u)] := by
  rw [List.zip_append hl.symm]
  rfl

end Go.Proofs.YtpifbgefkbhopaaGreatDoor

namespace Go.Proofs.YtpifbgefkbhopaaGreatDoor
open Go.RowKit Go.Maps
open Go.WideMaps (keyOf_string_mk)

set_option maxRecDepth 100000 in
set_option maxHeartbeats 4000000 in
theorem oneOf_any (v : Value) (es : List Ent) (lo : Nat) (w : World) (h : GOff entR lo none w v es) (hlo : lo ≤ w.heap.size) (hl : es.length ≤ 100000) (hk : ∀ p ∈ es, p.key.length ≤ 100000) :
    Calls Tryz.prog 36 #[v] w fun e w' => Below w.heap.size w w' ∧ ∃ u, e = .returned u ∧ GOff entR lo none w' u (oeK es) := by
  obtain ⟨i0, hi, hz0, hz1, hz2⟩ := info_parts info_entry
  obtain ⟨ao, cap, rfl, hc⟩ := h
  have Hmap0 := Lib.hid (World.ownsMap_made (H := Unit) w Tryz.prog 9 (plainElem Tryz.prog 3))
  have HB0 : Hid (Below w.heap.size w (w.alloc (.map #[] 0))) := Lib.hid ((Below.refl _ _).alloc (Nat.le_refl _) _)
  have hmm := @run_makeMap Tryz.prog
  have HK := Lib.hid hk
  have HC := Lib.hid hc
  clear hk hc
  go_enter Tryz.func36, Tryz.ntmps36
  go_wp2_with fail
  clear hmm
  go_loopw [3, 12] (fun v i wr => ∃ (j : Nat) (acc : List Ent) (us : List (Value × Value × Value)) (D : DataW Unit), i = .int .i64 j ∧ j ≤ es.length ∧ acc.length ≤ j ∧ us.length = acc.length ∧ Hid (acc = (es.take j).foldl putE []) ∧ Hid (∀ (k : Nat) (u : Value × Value × Value) (x : Ent), us[k]? = some u → acc[k]? = some x → entR.F lo none w x u) ∧ wr.ownsRow (w.heap.size + 1) 88 8 v acc.length (rowG entR (acc.zip us)) ∧ wr.ownsMap Tryz.prog 9 (plainElem Tryz.prog 3) w.heap.size acc.length D ∧ Hid (PlaceOf D (acc.map Ent.key)) ∧ Below w.heap.size w wr) (fun _ i _ => es.length - (intOf i).toNat)
  case atStart => exact ⟨0, [], [], .map [], rfl, Nat.zero_le _, Nat.zero_le _, rfl, Lib.hid rfl, Lib.hid (fun k u x hu => by simp at hu), World.ownsRow_nil _ _ _ _, Hmap0.out, Lib.hid placeOf_none, HB0.out⟩
  case round =>
    obtain ⟨j, acc, us, D, rfl, hj, hal, hul, HE, HF, hown, hmap, HD, hb⟩ := hrel
    clear Hmap0 HB0
    by_cases hlt : j < es.length
    · rcases HC.out with hnil | ⟨c, off, rfl, _, _, hcl, hcell⟩
      · exfalso
        rw [hnil] at hlt
        simp at hlt
      · obtain ⟨p, hp⟩ : ∃ p, es[j]? = some p := ⟨_, List.getElem?_eq_getElem hlt⟩
        obtain ⟨⟨u1, u2, u3⟩, hcs, hF⟩ := hcell j p hp
        have HFp := Lib.hid hF
        obtain ⟨au, cu, rfl⟩ := hF.1.form
        obtain ⟨av, cv, rfl⟩ := hF.2.1.form
        obtain ⟨aw, cw, rfl⟩ := hF.2.2.form
        have q0 := hcs 0 (by decide)
        have q1 := hcs 1 (by decide)
        have q2 := hcs 2 (by decide)
        have q3 := hcs 3 (by decide)
        have q4 := hcs 4 (by decide)
        have q5 := hcs 5 (by decide)
        have q6 := hcs 6 (by decide)
        have q7 := hcs 7 (by decide)
        have hck : ∀ i, wr.cell? ⟨c, i, none⟩ = w.cell? ⟨c, i, none⟩ := fun i => hb.cell (p := ⟨c, i, none⟩) hcl
        have a0 := (hck _).trans q0
        have a1 := (hck _).trans q1
        have a2 := (hck _).trans q2
        have a3 := (hck _).trans q3
        have a4 := (hck _).trans q4
        have a5 := (hck _).trans q5
        have a6 := (hck _).trans q6
        have a7 := (hck _).trans q7
        simp only [Nat.add_zero, entR, memR, List.getElem?_cons_zero, List.getElem?_cons_succ] at a0 a1 a2 a3 a4 a5 a6 a7
        have hkl := HK.out p (List.mem_of_getElem? hp)
        have Hkey : Hid (keyOf Tryz.prog 9 (.string (strB p.key)) = some (.string p.key)) := Lib.hid (keyOf_string_mk Tryz.underlying9 (by rw [strB_size]; unfold maxLen; omega))
        have HT : Hid ((es.take (j + 1)).foldl putE [] = putE acc p) := Lib.hid (by
          rw [List.take_add_one, hp, Option.toList_some, List.foldl_append, ← HE.out]
          rfl)
        have hml : w.heap.size < wr.heap.size := hmap.lt
        have HO2 := Lib.hid hown
        have HT2 := Lib.hid hmap
        have HT3 := Lib.hid (hmap.alloc (entO (strB p.key) p.val.inner p.val.it.k p.val.it.n (strB p.val.it.s) (.slice au p.val.it.ps.length cu) (.slice av p.val.its.length cv) (.slice aw p.val.ps.length cw)))
        have HB := Lib.hid hb
        clear hcell q0 q1 q2 q3 q4 q5 q6 q7 hcs hF hck hp hb hmap hown HE
        by_cases hmem : p.key ∈ acc.map Ent.key
        · have Hhas : Hid (Maps.has D (.string p.key) = true) := Lib.hid (by rw [(HD.out.2 p.key).1]; simpa using hmem)
          have hix : idxL (acc.map Ent.key) p.key < acc.length := by have := (idxL_lt _ _).2 hmem; simpa using this
          have hat0 := (HD.out.2 p.key).2 hmem (.lit (.int .i64 0))
          obtain ⟨i, hie⟩ : ∃ i, idxL (acc.map Ent.key) p.key = i := ⟨_, rfl⟩
          rw [hie] at hix hat0
          have Hat0 := Lib.hid hat0
          have Hie := Lib.hid hie
          clear hat0 hie hmem
          obtain ⟨g, cap2, rfl, hgB, hg2, hcap⟩ := owns_slice HO2.out (by omega)
          obtain ⟨t0, b0, f0⟩ := owns_cell HO2.out (i * 8) (by omega)
          obtain ⟨t1, b1, f1⟩ := owns_cell HO2.out (i * 8 + 1) (by omega)
          obtain ⟨t2, b2, f2⟩ := owns_cell HO2.out (i * 8 + 2) (by omega)
          obtain ⟨t3, b3, f3⟩ := owns_cell HO2.out (i * 8 + 3) (by omega)
          obtain ⟨t4, b4, f4⟩ := owns_cell HO2.out (i * 8 + 4) (by omega)
          obtain ⟨t5, b5, f5⟩ := owns_cell HO2.out (i * 8 + 5) (by omega)
          obtain ⟨t6, b6, f6⟩ := owns_cell HO2.out (i * 8 + 6) (by omega)
          obtain ⟨t7, b7, f7⟩ := owns_cell HO2.out (i * 8 + 7) (by omega)
          have hixI : (i : Int) < (acc.length : Int) := by omega
          generalize hKB : strB p.key = KB at *
          generalize hSB : strB p.val.it.s = SB at *
          have HKB := Lib.hid hKB
          have HSB := Lib.hid hSB
          clear hKB hSB
          go_wp2_with (at_lookup; refine wpList_lookup_own_ok_int _ rfl _ _ 119 rfl 9 3 .i64 keyStr Tryz.underlying119 Tryz.underlying3 (zeroInt _) w.heap.size acc.length _ rfl HT3.out _ _ rfl Hkey.out ?_; intro c2 hat hwc; have hc2 : c2 = (i : Int) := (by have := hat.symm.trans Hat0.out; simpa using this); subst hc2; rw [Hhas.out]; clear hat hwc)
          go_roundw
          case rel =>
            have s0 := HO2.out.stored (i * 8) (.string KB)
            have s1 := s0.1.stored (i * 8 + 1) (.bool p.val.inner)
            have s2 := s1.1.stored (i * 8 + 2) (.int .i64 p.val.it.k)
            have s3 := s2.1.stored (i * 8 + 3) (.int .i64 p.val.it.n)
            have s4 := s3.1.stored (i * 8 + 4) (.string SB)
            have s5 := s4.1.stored (i * 8 + 5) (.slice au p.val.it.ps.length cu)
            have s6 := s5.1.stored (i * 8 + 6) (.slice av p.val.its.length cv)
            have s7 := s6.1.stored (i * 8 + 7) (.slice aw p.val.ps.length cw)
            have hne : some w.heap.size ≠ some g := by simp; omega
            have m0 := (((((((HT2.out.kept s0.2 hne).kept s1.2 hne).kept s2.2 hne).kept s3.2 hne).kept s4.2 hne).kept s5.2 hne).kept s6.2 hne).kept s7.2 hne
            have hgw : w.heap.size ≤ g := by omega
            refine ⟨j + 1, acc.set i p, us.set i (.slice au p.val.it.ps.length cu, .slice av p.val.its.length cv, .slice aw p.val.ps.length cw), D, by go_num, by omega, by rw [List.length_set]; omega, by rw [List.length_set, List.length_set]; exact hul, Lib.hid ?_, Lib.hid (set_F HF.out HFp.out), ?_, ?_, Lib.hid ?_, ?_⟩
            · rw [HT.out, putE, Hie.out, if_pos hix]
            · rw [List.length_set, zip_set, rowG_set8 _ _ _ _ (by rw [List.length_zip, hul, Nat.min_self]; exact hix), HKB.out, HSB.out]
              exact s7.1.alloc _
            · rw [List.length_set]
              exact m0.alloc _
            · rw [ekeys_set acc p i Hie.out hix]
              exact HD.out
            · exact ((((((((HB.out.setCell hgw _).setCell hgw _).setCell hgw _).setCell hgw _).setCell hgw _).setCell hgw _).setCell hgw _).setCell hgw _).alloc (by simp; omega) _
          case measure => simp [intOf]; omega
        · have Hhas : Hid (Maps.has D (.string p.key) = false) := Lib.hid (by rw [(HD.out.2 p.key).1]; simpa using hmem)
          have Hmem := Lib.hid hmem
          obtain ⟨ao2, cap2, rfl⟩ := owns_form HO2.out
          have HO3 := Lib.hid (HO2.out.alloc (entO (strB p.key) p.val.inner p.val.it.k p.val.it.n (strB p.val.it.s) (.slice au p.val.it.ps.length cu) (.slice av p.val.its.length cv) (.slice aw p.val.ps.length cw)))
          have HONE : Hid (∀ y ∈ entR.cells p (.slice au p.val.it.ps.length cu, .slice av p.val.its.length cv, .slice aw p.val.ps.length cw), y.oneCell' = true) := Lib.hid (by simp [Value.oneCell', entR, memR])
          clear hmem
          go_wp2_with (first | (at_lookup; refine wpList_lookup_own_ok_int _ rfl _ _ 119 rfl 9 3 .i64 keyStr Tryz.underlying119 Tryz.underlying3 (zeroInt _) w.heap.size acc.length _ rfl HT3.out _ _ rfl Hkey.out ?_; intro c2 hat hwc; rw [Hhas.out]; clear hat hwc) | (at_mapUpdate; refine wpList_mapUpdate_own _ rfl _ _ _ 119 rfl 9 3 keyStr Tryz.underlying119 _ w.heap.size acc.length _ rfl HT3.out (by unfold maxLen; omega) _ _ _ rfl rfl Hkey.out _ [] (plainElem_int Tryz.underlying3 (WalkArith.wf_i64 (by omega))) ?_; intro w4 hmap4 hgrow4; have hO4 := HO3.out.kept hgrow4 (.inr (Ne.symm (own_ne HO3.out (Nat.lt_succ_self _)))); have hw4 := hgrow4.size; have e0 := grown_cell hgrow4 (c := wr.heap.size) (by simp) (by simp; omega) 0; have e1 := grown_cell hgrow4 (c := wr.heap.size) (by simp) (by simp; omega) 1; have e2 := grown_cell hgrow4 (c := wr.heap.size) (by simp) (by simp; omega) 2; have e3 := grown_cell hgrow4 (c := wr.heap.size) (by simp) (by simp; omega) 3; have e4 := grown_cell hgrow4 (c := wr.heap.size) (by simp) (by simp; omega) 4; have e5 := grown_cell hgrow4 (c := wr.heap.size) (by simp) (by simp; omega) 5; have e6 := grown_cell hgrow4 (c := wr.heap.size) (by simp) (by simp; omega) 6; have e7 := grown_cell hgrow4 (c := wr.heap.size) (by simp) (by simp; omega) 7) | (at_builtin; refine wpList_append_own _ rfl _ _ 49 rfl (w.heap.size + 1) 88 i0 noEnt 8 128 Tryz.underlying49 hi hz0 hz1 hz2 rfl (by decide) _ _ _ rfl (hO4.alloc _) ⟨_, 0, none⟩ 1 1 (entR.cells p (.slice au p.val.it.ps.length cu, .slice av p.val.its.length cv, .slice aw p.val.ps.length cw)) rfl rfl (cells_new _ _ _) HONE.out (by unfold maxLen; omega) (by omega) (by simp at hw4; simp; omega) ?_; intro v' w5 hown5 hgrow5 _))
          go_roundw
          case rel =>
            have hnix : ¬ idxL (acc.map Ent.key) p.key < acc.length := by
              intro h1
              exact Hmem.out ((idxL_lt _ _).1 (by simpa using h1))
            refine ⟨j + 1, acc ++ [p], us ++ [(.slice au p.val.it.ps.length cu, .slice av p.val.its.length cv, .slice aw p.val.ps.length cw)], D.put (.string p.key) (.lit (.int .i64 (acc.length : Int))), by go_num, by omega, by simp; omega, by simp [hul], Lib.hid ?_, Lib.hid (snoc_F hul HF.out HFp.out), ?_, ?_, Lib.hid ?_, ?_⟩
            · rw [HT.out, putE, if_neg hnix]
            · rw [List.length_append, zip_snoc hul, rowG_snoc]
              exact hown5
            · rw [List.length_append]
              exact (hmap4.alloc _).kept hgrow5 (own_ne hO4 (Nat.lt_succ_self _))
            · have := placeOf_put HD.out p.key Hmem.out
              rw [List.length_map] at this
              rw [List.map_append]
              exact this
            · have hz4 := hw4
              simp at hz4
              exact (((HB.out.alloc (by omega) _).grown hgrow4 (by simp; omega) (fun k e => by cases e; exact Nat.le_refl _)).alloc (by omega) _).grown hgrow5 (by simp; omega) (fun k e => Nat.le_trans (Nat.le_succ _) (World.ownsRow.lt hO4 k e).1)
          case measure => simp [intOf]; omega
    · obtain rfl : j = es.length := by omega
      rw [List.take_length] at HE
      have HG := Lib.hid (GOff.of_row (R := entR) hul hown (fun k u x hu hx => entR.below (HF.out k u x hu hx) hb) (Nat.le_succ_of_le hlo))
      have HB := Lib.hid hb
      clear hown hmap hb
      obtain ⟨ao2, cap2, rfl, hx⟩ := HG.out
      clear hx
      go_wp2_with fail
      go_ret
      refine ⟨HB.out, _, rfl, ?_⟩
      have := HG.out
      rw [HE.out] at this ⊢
      exact this

end Go.Proofs.YtpifbgefkbhopaaGreatDoor

namespace Go.Proofs.YtpifbgefkbhopaaGreatDoor
open Go.RowKit Go.Maps
variable {α : Type}

theorem sepF_len (read : List UInt8 → Option (α × List UInt8)) : ∀ (f : Nat) (l : List UInt8) (acc xs : List α), sepF read f l acc = some xs → xs.length ≤ acc.length + f
  | 0, l, acc, xs, h => by cases h
  | f + 1, l, acc, xs, h => by
    cases hr : read l with
    | none => rw [sepF_none read f l acc hr] at h; cases h
    | some x =>
      obtain ⟨x, r⟩ := x
      by_cases hb : blD r = []
      · rw [sepF_end read f l r acc x hr hb] at h
        obtain rfl := Option.some.inj h
        simp
      · by_cases hc : (blD r).head? = some 44
        · rw [sepF_more read f l r acc x hr hb hc] at h
          have := sepF_len read f _ _ _ h
          simp at this
          omega
        · rw [sepF_bad read f l r acc x hr hb hc] at h; cases h
theorem sepF_all {P : α → Prop} {read : List UInt8 → Option (α × List UInt8)} {N : Nat} (hread : ∀ l x r, l.length ≤ N → read l = some (x, r) → P x ∧ r.length ≤ l.length) :
    ∀ (f : Nat) (l : List UInt8) (acc xs : List α), l.length ≤ N → (∀ x ∈ acc, P x) → sepF read f l acc = some xs → ∀ x ∈ xs, P x
  | 0, l, acc, xs, _, _, h => by cases h
  | f + 1, l, acc, xs, hl, ha, h => by
    cases hr : read l with
    | none => rw [sepF_none read f l acc hr] at h; cases h
    | some x =>
      obtain ⟨x, r⟩ := x
      obtain ⟨hP, hle⟩ := hread l x r hl hr
      have ha2 : ∀ y ∈ acc ++ [x], P y := by
        intro y hy
        rcases List.mem_append.1 hy with hy | hy
        · exact ha y hy
        · obtain rfl := List.mem_singleton.1 hy
          exact hP
      by_cases hb : blD r = []
      · rw [sepF_end read f l r acc x hr hb] at h
        obtain rfl := Option.some.inj h
        exact ha2
      · by_cases hc : (blD r).head? = some 44
        · rw [sepF_more read f l r acc x hr hb hc] at h
          have h1 := blD_le r
          have h2 := blD_le ((blD r).drop 1)
          rw [List.length_drop] at h2
          exact sepF_all hread f _ _ _ (by omega) ha2 h
        · rw [sepF_bad read f l r acc x hr hb hc] at h; cases h

/-- A member, none of whose parts is great. -/
structure MemIn (N : Nat) (M : Mem) : Prop where
  s : M.it.s.length ≤ N
  ip : szN M.it.ps ≤ N
  ps : szN M.ps ≤ N
  len : M.its.length ≤ N
  its : ∀ x ∈ M.its, szN x.ps ≤ N ∧ x.s.length ≤ N
theorem itsF_in {N : Nat} : ∀ (f : Nat) (l : List UInt8) (acc xs : List Itm) (r : List UInt8), l.length + acc.length ≤ N → (∀ x ∈ acc, szN x.ps ≤ N ∧ x.s.length ≤ N) → itsF f l acc = some (xs, r) → xs.length ≤ N ∧ ∀ x ∈ xs, szN x.ps ≤ N ∧ x.s.length ≤ N
  | 0, l, acc, xs, r, _, _, h => by cases h
  | f + 1, l, acc, xs, r, hl, ha, h => by
    by_cases h41 : l.head? = some 41
    · rw [itsF_end f l acc h41] at h
      obtain ⟨rfl, _⟩ := Prod.mk.inj (Option.some.inj h)
      exact ⟨by omega, ha⟩
    · cases hi : itmL l with
      | none => rw [itsF_none f l acc h41 hi] at h; cases h
      | some x =>
        obtain ⟨g, ps, m⟩ := x
        have hu := itmL_used _ _ _ _ hi
        have hm := itmL_le _ _ _ _ hi
        have hpos := itmL_pos _ _ _ _ hi
        cases he : endI (l.drop m) with
        | false => rw [itsF_bad f l acc g ps m h41 hi he] at h; cases h
        | true =>
          rw [itsF_some f l acc g ps m h41 hi he] at h
          have h2 := spD_le (l.drop m)
          rw [List.length_drop] at h2
          refine itsF_in f _ _ _ _ (by rw [List.length_append, List.length_singleton]; omega) ?_ h
          intro y hy
          rcases List.mem_append.1 hy with hy | hy
          · exact ha y hy
          · obtain rfl := List.mem_singleton.1 hy
            exact ⟨by dsimp only; omega, by dsimp only; omega⟩
theorem memL_in {N : Nat} (l : List UInt8) (M : Mem) (r : List UInt8) (hl : l.length ≤ N) (h : memL l = some (M, r)) : MemIn N M := by
  unfold memL at h
  by_cases h40 : l.head? = some 40
  · rw [if_pos h40] at h
    unfold innL at h
    cases hi : itsL (l.drop 1) with
    | none => rw [hi] at h; cases h
    | some x =>
      obtain ⟨xs, q⟩ := x
      rw [hi] at h
      dsimp only at h
      have hq := itsL_le _ _ _ hi
      rw [List.length_drop] at hq
      have hs := spD_le (l.drop 1)
      rw [List.length_drop] at hs
      obtain ⟨h1, h2⟩ := itsF_in (N := N) _ _ _ _ _ (by rw [List.length_nil]; omega) (fun x hx => by cases hx) hi
      cases hp : psL q [] 0 with
      | none => rw [hp] at h; cases h
      | some y =>
        obtain ⟨ps, m⟩ := y
        rw [hp] at h
        dsimp only at h
        have hu := psL_used _ _ _ _ _ _ (Nat.le_refl _) hp
        have hk := psL_le _ _ _ _ _ _ (Nat.le_refl _) hp
        have e0 : szN [] = 0 := rfl
        obtain ⟨rfl, _⟩ := Prod.mk.inj (Option.some.inj h)
        exact ⟨Nat.zero_le _, Nat.zero_le _, show szN ps ≤ N by omega, h1, h2⟩
  · rw [if_neg h40] at h
    cases hi : itmL l with
    | none => rw [hi] at h; cases h
    | some x =>
      obtain ⟨g, ps, m⟩ := x
      rw [hi] at h
      dsimp only at h
      have hu := itmL_used _ _ _ _ hi
      have hm := itmL_le _ _ _ _ hi
      obtain ⟨rfl, _⟩ := Prod.mk.inj (Option.some.inj h)
      exact ⟨show g.s.length ≤ N by omega, show szN ps ≤ N by omega, Nat.zero_le _, Nat.zero_le _, fun x hx => by cases hx⟩
theorem list_in {N : Nat} (l : List UInt8) (xs : List Mem) (hl : l.length ≤ N) (h : sepL memL l = some xs) : xs.length ≤ l.length + 1 ∧ ∀ M ∈ xs, MemIn N M := by
  unfold sepL at h
  split at h
  · obtain rfl := Option.some.inj h
    exact ⟨Nat.zero_le _, fun M hM => by cases hM⟩
  · have h1 := sepF_len memL _ _ _ _ h
    have h2 := spD_le l
    exact ⟨by simpa using h1, sepF_all (P := MemIn N) (N := N) (fun l M r hl hr => ⟨memL_in l M r hl hr, memL_le _ _ _ hr⟩) _ _ _ _ (by omega) (by simp) h⟩
theorem entL_in {N : Nat} (l : List UInt8) (E : Ent) (r : List UInt8) (hl : l.length ≤ N) (h : entL l = some (E, r)) : E.key.length ≤ N ∧ MemIn N E.val := by
  unfold entL at h
  split at h
  · cases h
  · cases hv : valM (l.drop (klen l)) with
    | none => rw [hv] at h; cases h
    | some x =>
      obtain ⟨M, q⟩ := x
      rw [hv] at h
      dsimp only at h
      obtain ⟨rfl, _⟩ := Prod.mk.inj (Option.some.inj h)
      have hkl := klen_le l
      refine ⟨by dsimp only; rw [List.length_take]; omega, ?_⟩
      dsimp only
      unfold valM at hv
      split at hv
      · exact memL_in _ _ _ (by rw [List.length_drop, List.length_drop]; omega) hv
      · cases hp : psL (l.drop (klen l)) [] 0 with
        | none => rw [hp] at hv; cases hv
        | some y =>
          obtain ⟨ps, m⟩ := y
          rw [hp] at hv
          dsimp only at hv
          have hu := psL_used _ _ _ _ _ _ (Nat.le_refl _) hp
          have hk := psL_le _ _ _ _ _ _ (Nat.le_refl _) hp
          rw [List.length_drop] at hk
          have e0 : szN [] = 0 := rfl
          obtain ⟨rfl, _⟩ := Prod.mk.inj (Option.some.inj hv)
          exact ⟨Nat.zero_le _, show szN ps ≤ N by omega, Nat.zero_le _, Nat.zero_le _, fun x hx => by cases hx⟩
theorem ents_in {N : Nat} (l : List UInt8) (xs : List Ent) (hl : l.length ≤ N) (h : sepL entL l = some xs) : xs.length ≤ l.length + 1 ∧ ∀ E ∈ xs, E.key.length ≤ N ∧ MemIn N E.val := by
  unfold sepL at h
  split at h
  · obtain rfl := Option.some.inj h
    exact ⟨Nat.zero_le _, fun M hM => by cases hM⟩
  · have h1 := sepF_len entL _ _ _ _ h
    have h2 := spD_le l
    exact ⟨by simpa using h1, sepF_all (P := fun E : Ent => E.key.length ≤ N ∧ MemIn N E.val) (N := N) (fun l M r hl hr => ⟨entL_in l M r hl hr, entL_le _ _ _ hr⟩) _ _ _ _ (by omega) (by simp) h⟩

/-- A text as a dictionary. -/
def dicL (l : List UInt8) : Option (List Ent) := (sepL entL l).map oeK
def dicPost (o : Option (List Ent)) (w : World) (e : Ending) (w' : World) : Prop :=
  Below w.heap.size w w' ∧ match o with
    | none => e = .returned (.tuple #[.slice none 0 0, .int .i64 2])
    | some xs => ∃ v, e = .returned (.tuple #[v, .int .i64 0]) ∧ GOff entR w.heap.size none w' v xs

set_option maxRecDepth 100000 in
set_option maxHeartbeats 1000000 in
theorem dict_any (s : ByteArray) (w : World) (hs : s.size ≤ 90000) (hA : Alph w) :
    Calls Tryz.prog 17 #[.string s] w (dicPost (dicL s.data.toList) w) := by
  have cS := sepE_any s w (by omega) hA
  clear hA
  cases h : sepL entL s.data.toList with
  | none =>
    have HL : Hid (dicL s.data.toList = none) := Lib.hid (by rw [dicL, h] <;> rfl)
    rw [h] at cS
    clear h
    go_enter Tryz.func17, Tryz.ntmps17
    go_wp2_with fail
    refine cS.mono ?_
    rintro e w1 ⟨hb1, rfl⟩
    go_wp2_with fail
    go_ret2
    refine ⟨hb1, ?_⟩
    rw [HL.out]
    rfl
  | some xs =>
    have HL : Hid (dicL s.data.toList = some (oeK xs)) := Lib.hid (by rw [dicL, h] <;> rfl)
    obtain ⟨hx1, hx2⟩ := ents_in (N := 90000) _ xs (by rw [← Lib.size_eq]; exact hs) h
    rw [← Lib.size_eq] at hx1
    rw [h] at cS
    clear h
    go_enter Tryz.func17, Tryz.ntmps17
    go_wp2_with fail
    refine cS.mono ?_
    rintro e w1 ⟨hb1, v, rfl, ho⟩
    have hG := ho.off
    have cO := oneOf_any v xs w.heap.size w1 hG hb1.size (by omega) (fun p hp => by have := (hx2 p hp).1; omega)
    obtain ⟨ao, cap, rfl, hc⟩ := hG
    clear hc ho cS
    go_wp2_with fail
    refine cO.mono ?_
    rintro e w2 ⟨hb2, u, rfl, hG2⟩
    have HG2 := Lib.hid hG2
    obtain ⟨ao2, cap2, rfl, hc⟩ := hG2
    clear hc
    go_wp2_with fail
    go_ret2
    refine ⟨hb1.trans (hb2.mono hb1.size), ?_⟩
    rw [HL.out]
    exact ⟨_, rfl, HG2.out⟩

end Go.Proofs.YtpifbgefkbhopaaGreatDoor

namespace Go.Proofs.YtpifbgefkbhopaaGreatDoor
open Go.RowKit Go.Maps

/-- The text of a list, if it may be. -/
def lsT (xs : List Mem) : Option (List UInt8) := jnGo memT [44, 32] true xs

end Go.Proofs.YtpifbgefkbhopaaGreatDoor

namespace Go.Proofs.YtpifbgefkbhopaaGreatDoor
open Go.RowKit Go.Maps

/-- The text of an entry, if it may be. -/
def enT (E : Ent) : Option (List UInt8) := match memT E.val with
  | none => none
  | some t => if keyL E.key = false then none else if Lib.hasPrefix t [63, 49] = true then some (E.key ++ t.drop 2) else some (E.key ++ 61 :: t)

theorem box8 {w W : World} {a b c d a' b' c' d' : Value} {T : TypeId} (hb : Below (w.heap.size + 1) (w.alloc (.cells #[a, b, c, d, a', b', c', d'] T)) W) :
    (W.cell? ⟨w.heap.size, 0, none⟩ = some a ∧ W.cell? ⟨w.heap.size, 1, none⟩ = some b ∧ W.cell? ⟨w.heap.size, 2, none⟩ = some c ∧ W.cell? ⟨w.heap.size, 3, none⟩ = some d) ∧
    (W.cell? ⟨w.heap.size, 4, none⟩ = some a' ∧ W.cell? ⟨w.heap.size, 5, none⟩ = some b' ∧ W.cell? ⟨w.heap.size, 6, none⟩ = some c' ∧ W.cell? ⟨w.heap.size, 7, none⟩ = some d') := by
  refine ⟨⟨?_, ?_, ?_, ?_⟩, ?_, ?_, ?_, ?_⟩
  · rw [hb.cell (p := ⟨w.heap.size, 0, none⟩) (by simp)]; simp
  · rw [hb.cell (p := ⟨w.heap.size, 1, none⟩) (by simp)]; simp
  · rw [hb.cell (p := ⟨w.heap.size, 2, none⟩) (by simp)]; simp
  · rw [hb.cell (p := ⟨w.heap.size, 3, none⟩) (by simp)]; simp
  · rw [hb.cell (p := ⟨w.heap.size, 4, none⟩) (by simp)]; simp
  · rw [hb.cell (p := ⟨w.heap.size, 5, none⟩) (by simp)]; simp
  · rw [hb.cell (p := ⟨w.heap.size, 6, none⟩) (by simp)]; simp
  · rw [hb.cell (p := ⟨w.heap.size, 7, none⟩) (by simp)]; simp

end Go.Proofs.YtpifbgefkbhopaaGreatDoor

namespace Go.Proofs.YtpifbgefkbhopaaGreatDoor
open Go.RowKit Go.Maps

theorem EntAt.below {lo : Nat} {blk : Option Nat} {w w' : World} {E : Ent} {v : Value} (h : EntAt lo blk w E v) (hb : Below w.heap.size w w') : EntAt lo blk w' E v := by
  obtain ⟨u, vi, vp, hv, hF⟩ := h
  exact ⟨u, vi, vp, hv, entR.below hF hb⟩

theorem enT_len (E : Ent) (t : List UInt8) (hK : E.key.length ≤ 100000) (hT : ∀ t, memT E.val = some t → t.length ≤ 1000000000) (h : enT E = some t) : t.length ≤ 1000100001 := by
  unfold enT at h
  split at h
  · cases h
  · rename_i m hm
    have := hT m hm
    split at h
    · cases h
    · split at h
      · obtain rfl := Option.some.inj h
        rw [List.length_append, List.length_drop]
        omega
      · obtain rfl := Option.some.inj h
        rw [List.length_append, List.length_cons]
        omega

end Go.Proofs.YtpifbgefkbhopaaGreatDoor

namespace Go.Proofs.YtpifbgefkbhopaaGreatDoor
open Go.RowKit Go.Maps
open Go.WideMaps (keyOf_string_mk)

/-- Whether two keys of a dictionary are equal. -/
def eqKE (ps : List Ent) : Bool := !decide (ps.map Ent.key).Nodup

end Go.Proofs.YtpifbgefkbhopaaGreatDoor

namespace Go.Proofs.YtpifbgefkbhopaaGreatDoor
open Go.RowKit Go.Maps

/-- The text of a dictionary, if it may be. -/
def dcT (xs : List Ent) : Option (List UInt8) := if eqKE xs = true then none else jnGo enT [44, 32] true xs

end Go.Proofs.YtpifbgefkbhopaaGreatDoor
