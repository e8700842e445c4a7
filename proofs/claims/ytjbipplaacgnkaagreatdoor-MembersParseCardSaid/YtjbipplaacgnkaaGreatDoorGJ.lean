/- Rows of whatever is owned whole: members of a list, entries of a dictionary. · The contracts of members.separated at members, and of members.List. · The contracts of members.readValue and members.readEntry. · The contract of members.readEntry. · The contract of members.separated at entries. -/
import Derived.Test.YtjbipplaacgnkaaGreatDoorGI

namespace Go.Proofs.YtjbipplaacgnkaaGreatDoor
open Go.RowKit Go.Maps

theorem PrmsOff.step {lo g : Nat} {blk : Option Nat} {w w1 : World} {v : Value} {ps : List Prm} (h : PrmsOff lo blk w v ps) (hg : w.grownBy w1 blk) (hat : blk = some g ∨ g = w.heap.size) : PrmsOff lo (some g) w1 v ps := by
  rcases hat with rfl | hat
  · exact h.grown hg
  · obtain ⟨ao, c2, hv, hc⟩ := h
    rcases hc with hc | ⟨b, off, q1, q0, q2, q3, q4⟩
    · exact ⟨ao, c2, hv, .inl hc⟩
    · refine ⟨ao, c2, hv, .inr ⟨b, off, q1, q0, ?_, Nat.lt_of_lt_of_le q3 hg.size, fun j u hj => (grown_cell hg q3 q2 _).trans (q4 j u hj)⟩⟩
      intro e
      have := Option.some.inj e
      omega
theorem ItmsOff.step {lo g : Nat} {blk : Option Nat} {w w1 : World} {v : Value} {xs : List Itm} (h : ItmsOff lo blk w v xs) (hg : w.grownBy w1 blk) (hat : blk = some g ∨ g = w.heap.size) : ItmsOff lo (some g) w1 v xs := by
  obtain ⟨ao, c2, hv, hc⟩ := h
  rcases hc with hc | ⟨b, off, q1, q0, q2, q3, q4⟩
  · exact ⟨ao, c2, hv, .inl hc⟩
  · refine ⟨ao, c2, hv, .inr ⟨b, off, q1, q0, ?_, Nat.lt_of_lt_of_le q3 hg.size, fun j x hx => ?_⟩⟩
    · rcases hat with rfl | hat
      · exact q2
      · intro e
        have := Option.some.inj e
        omega
    · obtain ⟨u, ⟨c0, c1, c2, c3⟩, hp⟩ := q4 j x hx
      have hk : ∀ i, w1.cell? ⟨b, i, none⟩ = w.cell? ⟨b, i, none⟩ := fun i => grown_cell hg q3 q2 i
      exact ⟨u, ⟨(hk _).trans c0, (hk _).trans c1, (hk _).trans c2, (hk _).trans c3⟩, hp.step hg hat⟩

/-- How an α lies in a row: its cells, by what they point to (β), and what must hold of that. -/
structure Rowing (α β : Type) where
  size : Nat
  cells : α → β → List Value
  F : Nat → Option Nat → World → α → β → Prop
  len : ∀ x u, (cells x u).length = size
  below : ∀ {lo blk w w' x u}, F lo blk w x u → Below w.heap.size w w' → F lo blk w' x u
  step : ∀ {lo g : Nat} {blk w w1 x u}, F lo blk w x u → w.grownBy w1 blk → (blk = some g ∨ g = w.heap.size) → F lo (some g) w1 x u
  low : ∀ {lo lo' : Nat} {blk w x u}, F lo blk w x u → lo' ≤ lo → F lo' blk w x u
  avoid : ∀ {lo : Nat} {blk blk' : Option Nat} {w x u}, F lo blk w x u → (∀ g, blk' = some g → g < lo) → F lo blk' w x u

variable {α β : Type}

def rowG (R : Rowing α β) : List (α × β) → List Value
  | [] => []
  | (x, u) :: r => R.cells x u ++ rowG R r
theorem rowG_snoc (R : Rowing α β) (l : List (α × β)) (x : α) (u : β) : rowG R (l ++ [(x, u)]) = rowG R l ++ R.cells x u := by
  induction l with
  | nil => simp [rowG]
  | cons y r ih =>
    obtain ⟨y, v⟩ := y
    rw [List.cons_append, rowG, rowG, ih, List.append_assoc]
theorem rowG_at (R : Rowing α β) : ∀ (l : List (α × β)) (i j : Nat) (x : α) (u : β), l[i]? = some (x, u) → j < R.size → (rowG R l)[i * R.size + j]? = (R.cells x u)[j]?
  | [], i, j, x, u, h, _ => by simp at h
  | (y, v) :: l, 0, j, x, u, h, hj => by
    obtain ⟨rfl, rfl⟩ := Prod.mk.inj (Option.some.inj h)
    rw [rowG, Nat.zero_mul, Nat.zero_add, List.getElem?_append_left (by rw [R.len]; exact hj)]
  | (y, v) :: l, i + 1, j, x, u, h, hj => by
    have := rowG_at R l i j x u h hj
    rw [rowG, List.getElem?_append_right (by rw [R.len, Nat.add_mul]; omega), R.len, ← this]
    congr 1
    rw [Nat.add_mul]
    omega

/-- What a call owns whole: a row, and what its elements point to, elsewhere. -/
def OwnG (R : Rowing α β) (T : TypeId) (w : World) (base : Nat) (v : Value) (xs : List α) : Prop :=
  ∃ us : List β, us.length = xs.length ∧ w.ownsRow base T R.size v xs.length (rowG R (xs.zip us)) ∧ ∀ (j : Nat) (u : β) (x : α), us[j]? = some u → xs[j]? = some x → R.F base v.ownBlock w x u

theorem OwnG.nothing (R : Rowing α β) (T : TypeId) (w : World) (base : Nat) : OwnG R T w base (.slice none 0 0) [] := ⟨[], rfl, World.ownsRow_nil _ _ _ _, fun j u x h => by simp at h⟩
theorem OwnG.below {R : Rowing α β} {T : TypeId} {w w' : World} {base : Nat} {v : Value} {xs : List α} (h : OwnG R T w base v xs) (hb : Below w.heap.size w w') : OwnG R T w' base v xs := by
  obtain ⟨us, h1, h2, h3⟩ := h
  exact ⟨us, h1, ownsRow_later h2 hb, fun j u x hu hx => R.below (h3 j u x hu hx) hb⟩
theorem OwnG.low {R : Rowing α β} {T : TypeId} {w : World} {base B : Nat} {v : Value} {xs : List α} (h : OwnG R T w base v xs) (hB : B ≤ base) : OwnG R T w B v xs := by
  obtain ⟨us, h1, h2, h3⟩ := h
  exact ⟨us, h1, ownsRow_low h2 hB, fun j u x hu hx => R.low (h3 j u x hu hx) hB⟩

/-- One more, behind those that are owned. -/
theorem OwnG.snoc {R : Rowing α β} {T : TypeId} {w w1 : World} {base : Nat} {v : Value} {u : β} {xs : List α} {x : α} {us : List β} {g cap : Nat} (h1 : us.length = xs.length) (h3 : ∀ (j : Nat) (u : β) (x : α), us[j]? = some u → xs[j]? = some x → R.F base v.ownBlock w x u) (hu : R.F base v.ownBlock w x u)
    (hown : w1.ownsRow base T R.size (.slice (some ⟨g, 0, none⟩) (xs.length + 1) cap) (xs.length + 1) (rowG R (xs.zip us) ++ R.cells x u)) (hg : w.grownBy w1 v.ownBlock) (hat : v.ownBlock = some g ∨ g = w.heap.size) : OwnG R T w1 base (.slice (some ⟨g, 0, none⟩) (xs.length + 1) cap) (xs ++ [x]) := by
  refine ⟨us ++ [u], by simp [h1], ?_, ?_⟩
  · rw [List.length_append, List.zip_append h1.symm]
    show w1.ownsRow base T R.size _ (xs.length + 1) (rowG R (xs.zip us ++ [(x, u)]))
    rw [rowG_snoc]
    exact hown
  · intro j u' x' hu' hx'
    rw [List.getElem?_append] at hu' hx'
    show R.F base (some g) w1 x' u'
    by_cases hj : j < us.length
    · rw [if_pos hj] at hu'
      rw [if_pos (by omega)] at hx'
      exact R.step (h3 j u' x' hu' hx') hg hat
    · rw [if_neg hj] at hu'
      rw [if_neg (by omega)] at hx'
      have hj0 : j - us.length = 0 := by
        have := (List.getElem?_eq_some_iff.1 hu').1
        simp only [List.length_singleton] at this
        omega
      rw [hj0] at hu'
      rw [← h1, hj0] at hx'
      obtain rfl := Option.some.inj hu'
      obtain rfl := Option.some.inj hx'
      exact R.step hu hg hat

/-- Members, by what their three slices are. -/
def memR : Rowing Mem (Value × Value × Value) where
  size := 7
  cells M u := [.bool M.inner, .int .i64 M.it.k, .int .i64 M.it.n, .string (strB M.it.s), u.1, u.2.1, u.2.2]
  F lo blk w M u := PrmsOff lo blk w u.1 M.it.ps ∧ ItmsOff lo blk w u.2.1 M.its ∧ PrmsOff lo blk w u.2.2 M.ps
  len _ _ := rfl
  below h hb := ⟨h.1.below hb, h.2.1.below hb, h.2.2.below hb⟩
  step h hg hat := ⟨h.1.step hg hat, h.2.1.step hg hat, h.2.2.step hg hat⟩
  low h hl := ⟨h.1.low hl, h.2.1.low hl, h.2.2.low hl⟩
  avoid h hb := ⟨h.1.avoid hb, h.2.1.avoid hb, h.2.2.avoid hb⟩

/-- An entry of a dictionary. -/
structure Ent where
  key : List UInt8
  val : Mem
def entR : Rowing Ent (Value × Value × Value) where
  size := 8
  cells E u := .string (strB E.key) :: memR.cells E.val u
  F lo blk w E u := memR.F lo blk w E.val u
  len _ _ := rfl
  below h hb := memR.below h hb
  step h hg hat := memR.step h hg hat
  low h hl := memR.low h hl
  avoid h hb := memR.avoid h hb

end Go.Proofs.YtjbipplaacgnkaaGreatDoor

namespace Go.Proofs.YtjbipplaacgnkaaGreatDoor
open Go.RowKit Go.Maps
variable {α β : Type}

/-- The parts of a text between commas, behind some. By so many rounds. -/
def sepF {α : Type} (read : List UInt8 → Option (α × List UInt8)) : Nat → List UInt8 → List α → Option (List α)
  | 0, _, _ => none
  | f + 1, l, acc => match read l with
    | none => none
    | some (x, r) => if blD r = [] then some (acc ++ [x]) else if (blD r).head? = some 44 then sepF read f (blD ((blD r).drop 1)) (acc ++ [x]) else none
def sepL {α : Type} (read : List UInt8 → Option (α × List UInt8)) (l : List UInt8) : Option (List α) :=
  if spD l = [] then some [] else sepF read (l.length + 1) (spD l) []

theorem sepF_none {α : Type} (read : List UInt8 → Option (α × List UInt8)) (f : Nat) (l : List UInt8) (acc : List α) (h : read l = none) : sepF read (f + 1) l acc = none := by rw [sepF, h]
theorem sepF_end {α : Type} (read : List UInt8 → Option (α × List UInt8)) (f : Nat) (l r : List UInt8) (acc : List α) (x : α) (h : read l = some (x, r)) (hb : blD r = []) : sepF read (f + 1) l acc = some (acc ++ [x]) := by
  rw [sepF, h]
  simp [hb]
theorem sepF_bad {α : Type} (read : List UInt8 → Option (α × List UInt8)) (f : Nat) (l r : List UInt8) (acc : List α) (x : α) (h : read l = some (x, r)) (hb : blD r ≠ []) (hc : (blD r).head? ≠ some 44) : sepF read (f + 1) l acc = none := by
  rw [sepF, h]
  simp [hb, hc]
theorem sepF_more {α : Type} (read : List UInt8 → Option (α × List UInt8)) (f : Nat) (l r : List UInt8) (acc : List α) (x : α) (h : read l = some (x, r)) (hb : blD r ≠ []) (hc : (blD r).head? = some 44) : sepF read (f + 1) l acc = sepF read f (blD ((blD r).drop 1)) (acc ++ [x]) := by
  rw [sepF, h]
  simp [hb, hc]

theorem innL_le (l : List UInt8) (M : Mem) (r : List UInt8) (h : innL l = some (M, r)) : r.length ≤ l.length := by
  unfold innL at h
  split at h
  · cases h
  · rename_i xs r1 hi
    have h1 := itsL_le _ _ _ hi
    split at h
    · cases h
    · obtain ⟨_, rfl⟩ := Prod.mk.inj (Option.some.inj h)
      rw [List.length_drop]; omega
theorem memL_le (l : List UInt8) (M : Mem) (r : List UInt8) (h : memL l = some (M, r)) : r.length ≤ l.length := by
  unfold memL at h
  split at h
  · have := innL_le _ _ _ h
    rw [List.length_drop] at this
    omega
  · split at h
    · cases h
    · obtain ⟨_, rfl⟩ := Prod.mk.inj (Option.some.inj h)
      rw [List.length_drop]; omega

def listPost (o : Option (List Mem)) (w : World) (e : Ending) (w' : World) : Prop :=
  Below w.heap.size w w' ∧ match o with
    | none => e = .returned (.tuple #[.slice none 0 0, .int .i64 2])
    | some xs => ∃ v, e = .returned (.tuple #[v, .int .i64 0]) ∧ OwnG memR 49 w' w.heap.size v xs

theorem info_member : (Tryz.prog.info? 49).map (fun i => (i.zero, i.size, i.bytes)) = some (some noMem, 7, 112) := by kernel_rfl

abbrev memO (b : Bool) (k n : Int) (s : ByteArray) (u vi vp : Value) : Obj := .cells #[.bool b, .int .i64 k, .int .i64 n, .string s, u, vi, vp] 49

theorem empty_iff (l : List UInt8) : (strB l).toList.isEmpty = l.isEmpty := by rw [Lib.toList_data, strB_data]

set_option maxRecDepth 100000 in
set_option maxHeartbeats 4000000 in
theorem sepM_any (s : ByteArray) (w : World) (hs : s.size ≤ 100000) (hA : Alph w) :
    Calls Tryz.prog 24 #[.string s, .func (.func 25) #[] #[]] w (listPost (sepL memL s.data.toList) w) := by
  obtain ⟨i0, hi, hz0, hz1, hz2⟩ := info_parts info_member
  have HA := Lib.hid hA
  clear hA
  have hsp := spD_le s.data.toList
  rw [← Lib.size_eq] at hsp
  have hem := empty_iff (spD s.data.toList)
  cases h0 : (spD s.data.toList).isEmpty with
  | true =>
    have HL : Hid (sepL memL s.data.toList = some []) := Lib.hid (by rw [sepL, if_pos (by simpa using h0)])
    rw [h0] at hem
    clear h0
    have cT := fun W => trimL1_any s W
    generalize strB (spD s.data.toList) = R at *
    go_enter Tryz.func24, Tryz.ntmps24
    go_wp2_with fail
    refine (cT _).mono ?_
    rintro e w1 ⟨rfl, hb1⟩
    go_wp2_with fail
    refine bodyPost_ret (v := .tuple #[.slice none 0 0, .int .i64 0]) (by simp [results, Tryz.results24, go_sem]) rfl ⟨hb1, ?_⟩
    rw [HL.out]
    exact ⟨_, rfl, OwnG.nothing _ _ _ _⟩
  | false =>
    have HL : Hid (sepL memL s.data.toList = sepF memL (s.data.toList.length + 1) (spD s.data.toList) []) := Lib.hid (by rw [sepL, if_neg (by intro e; rw [e] at h0; cases h0)])
    rw [h0] at hem
    clear h0
    have cT := fun W => trimL1_any s W
    go_enter Tryz.func24, Tryz.ntmps24
    go_wp2_with fail
    refine (cT _).mono ?_
    rintro e w1 ⟨rfl, hb1⟩
    go_wp2_with fail
    clear cT hem
    go_loopw [6, 7] (fun r v wr => ∃ (xs : List Mem) (l : List UInt8) (f : Nat), r = .string (strB l) ∧ l.length < f ∧ l.length + xs.length ≤ s.size ∧ Hid (sepL memL s.data.toList = sepF memL f l xs) ∧ OwnG memR 49 wr w.heap.size v xs ∧ Below w.heap.size w wr) (fun r _ _ => Lib.strSize r)
    case atStart => exact ⟨[], spD s.data.toList, s.data.toList.length + 1, rfl, by rw [← Lib.size_eq]; omega, by simpa using hsp, HL, OwnG.nothing _ _ _ _, hb1⟩
    case round =>
      obtain ⟨xs, l, f, rfl, hf, hl, H, hown, hb⟩ := hrel
      obtain ⟨f, rfl⟩ : ∃ f', f = f' + 1 := ⟨f - 1, by omega⟩
      have HO := Lib.hid hown
      have HB := Lib.hid hb
      have hbz := hb.size
      have hls := strB_size l
      have cR := fun W hW => readMember_any (strB l) W (by omega) hW
      rw [strB_data] at cR
      have HLS := Lib.hid hls
      clear hown hb hls HL
      cases hm : memL l with
      | none =>
        have HR := Lib.hid (H.out.trans (sepF_none memL f l xs hm))
        rw [hm] at cR
        clear hm
        generalize strB l = L at *
        go_wp2_with fail
        refine (cR _ (HA.out.below HB.out)).mono ?_
        rintro e w3 ⟨hb3, rfl⟩
        go_wp2_with fail
        refine bodyPost_ret (v := .tuple #[.slice none 0 0, .int .i64 2]) (by simp [results, Tryz.results24, go_sem]) rfl ⟨?_, ?_⟩
        · exact (HB.out.trans (hb3.mono hbz)).alloc (Nat.le_trans hbz hb3.size) _
        · rw [HR.out]
      | some Mr =>
        obtain ⟨M, r⟩ := Mr
        have hrl := memL_le _ _ _ hm
        rw [hm] at cR
        have HM := Lib.hid hm
        have cT := fun W => trimL2_any (strB r) W
        rw [strB_data] at cT
        have hbl := blD_le r
        have hbs := strB_size (blD r)
        have hem := empty_iff (blD r)
        clear hm
        generalize strB l = L at *
        obtain ⟨us, u1, u2, u3⟩ := HO.out
        go_wp2_with fail
        refine (cR _ (HA.out.below HB.out)).mono ?_
        rintro e w3 ⟨hb3, v3, rfl, uu, vi, vp, rfl, hu, hvi, hvp⟩
        obtain ⟨ao1, cap1, rfl⟩ := hu.form
        obtain ⟨ao2, cap2, rfl⟩ := hvi.form
        obtain ⟨ao3, cap3, rfl⟩ := hvp.form
        obtain ⟨ao, cap, rfl⟩ := owns_form u2
        have hz3 := Nat.le_trans hbz hb3.size
        have hF0 : memR.F w.heap.size (Value.slice ao xs.length cap).ownBlock w3 M (.slice ao1 M.it.ps.length cap1, .slice ao2 M.its.length cap2, .slice ao3 M.ps.length cap3) :=
          memR.low (memR.avoid ⟨hu, hvi, hvp⟩ (fun g hg => (World.ownsRow.lt u2 g hg).2)) hbz
        have hbW : Below w3.heap.size w3 ((w3.alloc (memO M.inner M.it.k M.it.n (strB M.it.s) (.slice ao1 M.it.ps.length cap1) (.slice ao2 M.its.length cap2) (.slice ao3 M.ps.length cap3))).alloc (memO M.inner M.it.k M.it.n (strB M.it.s) (.slice ao1 M.it.ps.length cap1) (.slice ao2 M.its.length cap2) (.slice ao3 M.ps.length cap3))) := ((Below.refl _ _).alloc (Nat.le_refl _) _).alloc (by simp) _
        have hOW := ownsRow_later (ownsRow_later u2 hb3) hbW
        have hnew := cells_new (w3.alloc (memO M.inner M.it.k M.it.n (strB M.it.s) (.slice ao1 M.it.ps.length cap1) (.slice ao2 M.its.length cap2) (.slice ao3 M.ps.length cap3))) (memR.cells M (.slice ao1 M.it.ps.length cap1, .slice ao2 M.its.length cap2, .slice ao3 M.ps.length cap3)) 49
        rw [show (w3.alloc (memO M.inner M.it.k M.it.n (strB M.it.s) (.slice ao1 M.it.ps.length cap1) (.slice ao2 M.its.length cap2) (.slice ao3 M.ps.length cap3))).heap.size = w3.heap.size + 1 by simp] at hnew
        have HNew := Lib.hid hnew
        have HU3 := Lib.hid (fun (j : Nat) u (x : Mem) hu hx => memR.below (memR.below (u3 j u x hu hx) hb3) hbW)
        have HF := Lib.hid (memR.below hF0 hbW)
        have HBW := Lib.hid ((HB.out.trans (hb3.mono hbz)).trans (hbW.mono hz3))
        have HU1 := Lib.hid u1
        clear u3 hF0 u2 hb3 hu hvi hvp u1 hnew cR
        go_wp2_with (at_builtin; go_loud (refine wpList_append_lies _ rfl _ _ 23 rfl w.heap.size 49 i0 noMem 7 112 Tryz.underlying23 hi hz0 hz1 hz2 rfl (by decide) _ xs.length (rowG memR (xs.zip us)) rfl hOW ⟨_, 0, none⟩ 1 1 (memR.cells M (.slice ao1 M.it.ps.length cap1, .slice ao2 M.its.length cap2, .slice ao3 M.ps.length cap3)) rfl rfl HNew.out (by simp [Value.oneCell', memR]) (by decide) (by unfold maxLen; omega) (by omega) (by simp; omega) _ rfl ?_); intro g5 cap5 w5 hown5 hgrow5 hat5 hlt5)
        have hN := OwnG.snoc (R := memR) HU1.out HU3.out HF.out hown5 hgrow5 hat5
        have hB5 : Below w.heap.size w w5 := by
          have h1 := HBW.out
          exact ⟨hgrow5.os.trans h1.os, hgrow5.tape.trans h1.tape, hgrow5.output.trans h1.output, Nat.le_trans h1.size hgrow5.size, fun i hi => (hgrow5.block i (Nat.lt_of_lt_of_le hi h1.size) (own_ne hOW hi)).trans (h1.block i hi)⟩
        refine (cT _).mono ?_
        rintro e w6 ⟨rfl, hb6⟩
        have HN6 := Lib.hid (hN.below hb6)
        have HB6 := Lib.hid (hB5.trans (hb6.mono hB5.size))
        clear hN hown5 hgrow5 hb6 hOW hbW hB5 cT
        by_cases hbe : blD r = []
        · have HR := Lib.hid (H.out.trans (sepF_end memL f l r xs M HM.out hbe))
          rw [hbe] at hem ⊢
          go_wp2_with fail
          refine bodyPost_ret (v := .tuple #[.slice (some ⟨g5, 0, none⟩) (xs.length + 1) cap5, .int .i64 0]) (by simp [results, Tryz.results24, go_sem]) rfl ⟨HB6.out, ?_⟩
          rw [HR.out]
          exact ⟨_, rfl, HN6.out⟩
        · have he2 : (blD r).isEmpty = false := by
            cases hx : blD r with
            | nil => exact absurd hx hbe
            | cons a b => rfl
          rw [he2] at hem
          by_cases h44 : (blD r).head? = some 44
          · have HR := Lib.hid (H.out.trans (sepF_more memL f l r xs M HM.out hbe h44))
            have cC := fun W => cut_yes (strB (blD r)) 44 W (by rw [strB_data]; exact h44)
            rw [strB_data] at cC
            have cT2 := fun W => trimL2_any (strB ((blD r).drop 1)) W
            rw [strB_data] at cT2
            have hbl2 := blD_le ((blD r).drop 1)
            have hpos : 0 < (blD r).length := List.length_pos_iff.2 hbe
            rw [List.length_drop] at hbl2
            clear hbe he2 h44 hbs
            generalize strB (blD r) = B1 at *
            generalize (blD r).drop 1 = D1 at *
            generalize strB D1 = B2 at *
            go_wp2_with fail
            refine (cC _).mono ?_
            rintro e w7 ⟨rfl, rfl⟩
            go_wp2_with fail
            refine (cT2 _).mono ?_
            rintro e w8 ⟨rfl, hb8⟩
            have hN8 := HN6.out.below hb8
            have hB8 := HB6.out.trans (hb8.mono HB6.out.size)
            go_wp2_with fail
            go_roundw
            case rel => exact ⟨xs ++ [M], _, f, rfl, by omega, by simp; omega, HR, by simpa using hN8, hB8⟩
            case measure =>
              have := HLS.out
              simp [Lib.strSize, strB_size]
              omega
          · have HR := Lib.hid (H.out.trans (sepF_bad memL f l r xs M HM.out hbe h44))
            have cC := fun W => cut_no (strB (blD r)) 44 W (by rw [strB_data]; exact h44)
            clear hbe he2 h44 hbs
            generalize strB (blD r) = B1 at *
            go_wp2_with fail
            refine (cC _).mono ?_
            rintro e w7 ⟨rfl, rfl⟩
            go_wp2_with fail
            refine bodyPost_ret (v := .tuple #[.slice none 0 0, .int .i64 2]) (by simp [results, Tryz.results24, go_sem]) rfl ⟨HB6.out, ?_⟩
            rw [HR.out]

theorem owng_form {R : Rowing α β} {T : TypeId} {w : World} {base : Nat} {v : Value} {xs : List α} (h : OwnG R T w base v xs) : ∃ ao cap, v = .slice ao xs.length cap := by
  obtain ⟨us, _, h2, _⟩ := h
  exact owns_form h2

set_option maxRecDepth 100000 in
set_option maxHeartbeats 1000000 in
theorem list_any (s : ByteArray) (w : World) (hs : s.size ≤ 100000) (hA : Alph w) :
    Calls Tryz.prog 8 #[.string s] w (listPost (sepL memL s.data.toList) w) := by
  have cS := sepM_any s w hs hA
  clear hA
  cases hx : sepL memL s.data.toList with
  | none =>
    rw [hx] at cS
    go_enter Tryz.func8, Tryz.ntmps8
    go_wp2_with fail
    refine cS.mono ?_
    rintro e w1 ⟨hb, rfl⟩
    go_wp2_with fail
    exact bodyPost_ret (v := .tuple #[.slice none 0 0, .int .i64 2]) (by simp [results, Tryz.results8, go_sem]) rfl ⟨hb, rfl⟩
  | some xs =>
    rw [hx] at cS
    go_enter Tryz.func8, Tryz.ntmps8
    go_wp2_with fail
    refine cS.mono ?_
    rintro e w1 ⟨hb, v, rfl, hv⟩
    obtain ⟨ao, cap, rfl⟩ := owng_form hv
    go_wp2_with fail
    exact bodyPost_ret (v := .tuple #[.slice ao xs.length cap, .int .i64 0]) (by simp [results, Tryz.results8, go_sem]) rfl ⟨hb, _, rfl, hv⟩

end Go.Proofs.YtjbipplaacgnkaaGreatDoor

namespace Go.Proofs.YtjbipplaacgnkaaGreatDoor
open Go.RowKit Go.Maps

/-- The value of an entry from behind its key on, and what is behind it. -/
def valM (l : List UInt8) : Option (Mem × List UInt8) :=
  if l.head? = some 61 then memL (l.drop 1) else match psL l [] 0 with
    | none => none
    | some (ps, m) => some (⟨false, ⟨6, 1, [], ps⟩, [], []⟩, l.drop m)
/-- The entry with which a text begins, and what is behind it. -/
def entL (l : List UInt8) : Option (Ent × List UInt8) :=
  if klen l = 0 then none else match valM (l.drop (klen l)) with
    | none => none
    | some (M, r) => some (⟨l.take (klen l), M⟩, r)

set_option maxRecDepth 100000 in
set_option maxHeartbeats 4000000 in
theorem readValue_any (s : ByteArray) (w : World) (hs : s.size ≤ 100000) (hA : Alph w) :
    Calls Tryz.prog 54 #[.string s] w (memPost (valM s.data.toList) w) := by
  have hb0 : Below w.heap.size w (w.alloc zeroMem) := (Below.refl _ _).alloc (Nat.le_refl _) _
  have HA := Lib.hid hA
  have HR0 := Lib.hid (ResM.made w)
  clear hA
  by_cases h40 : s.data.toList.head? = some 61
  · have hds := strB_size (s.data.toList.drop 1)
    rw [List.length_drop, ← Lib.size_eq] at hds
    have cC := fun W => cut_yes s 61 W h40
    have cI := fun W hW => readMember_any (strB (s.data.toList.drop 1)) W (by omega) hW
    rw [strB_data] at cI
    have HL : Hid (valM s.data.toList = memL (s.data.toList.drop 1)) := Lib.hid (by rw [valM, if_pos h40])
    clear h40 hds
    generalize strB (s.data.toList.drop 1) = R at *
    cases hin : memL (s.data.toList.drop 1) with
    | none =>
      rw [hin] at cI HL
      clear hin
      go_enter Tryz.func54, Tryz.ntmps54
      go_wp2_with fail
      refine (cC _).mono ?_
      rintro e w1 ⟨rfl, rfl⟩
      go_wp2_with fail
      refine (cI _ (HA.out.below hb0)).mono ?_
      rintro e w1 ⟨hb1, rfl⟩
      have hR1 := HR0.out.next (by simpa using hb1)
      have hB1 := hb0.trans (hb1.mono hb0.size)
      have hlt := hR1.lt
      obtain ⟨r0, r1, r2, r3, r4, r5, r6, g0, g1, g2, g3, g4, g5, g6⟩ := hR1
      clear hb1 cI cC
      go_wp2_with fail
      refine bodyPost_ret (v := .tuple #[noMem, .string ⟨#[]⟩, .int .i64 2]) (by simp [results, Tryz.results54, go_sem, r0, r1, r2, r3, r4, r5, r6]) rfl ?_
      rw [HL.out]
      refine ⟨?_, rfl⟩
      repeat (first | with_reducible refine Below.alloc ?_ (by simp; omega) _ | with_reducible refine Below.setCell ?_ (by simp) _)
      exact hB1
    | some x =>
      obtain ⟨M, r⟩ := x
      rw [hin] at cI HL
      clear hin
      go_enter Tryz.func54, Tryz.ntmps54
      go_wp2_with fail
      refine (cC _).mono ?_
      rintro e w1 ⟨rfl, rfl⟩
      go_wp2_with fail
      refine (cI _ (HA.out.below hb0)).mono ?_
      rintro e w1 ⟨hb1, v1, rfl, u, vi, vp, rfl, hu, hvi, hvp⟩
      have hR1 := HR0.out.next (by simpa using hb1)
      have hB1 := hb0.trans (hb1.mono hb0.size)
      have hlt := hR1.lt
      obtain ⟨r0, r1, r2, r3, r4, r5, r6, g0, g1, g2, g3, g4, g5, g6⟩ := hR1
      obtain ⟨ao1, cap1, rfl⟩ := hu.form
      obtain ⟨ao2, cap2, rfl⟩ := hvi.form
      obtain ⟨ao3, cap3, rfl⟩ := hvp.form
      have HU := Lib.hid (hu.low (show w.heap.size + 1 ≤ _ by simp))
      have HV := Lib.hid (hvi.low (show w.heap.size + 1 ≤ _ by simp))
      have HW := Lib.hid (hvp.low (show w.heap.size + 1 ≤ _ by simp))
      clear hb1 cI cC hu hvi hvp
      go_wp2_with fail
      refine bodyPost_ret (v := .tuple #[aggM M.inner M.it.k M.it.n (strB M.it.s) (.slice ao1 M.it.ps.length cap1) (.slice ao2 M.its.length cap2) (.slice ao3 M.ps.length cap3), .string (strB r), .int .i64 0]) (by simp [results, Tryz.results54, go_sem, r0, r1, r2, r3, r4, r5, r6]) rfl ?_
      rw [HL.out]
      have hm : Moved w.heap.size w1 (((((((w1.setCell ⟨w.heap.size, 0, none⟩ (.bool M.inner)).setCell ⟨w.heap.size, 1, none⟩ (.int .i64 M.it.k)).setCell ⟨w.heap.size, 2, none⟩ (.int .i64 M.it.n)).setCell ⟨w.heap.size, 3, none⟩ (.string (strB M.it.s))).setCell ⟨w.heap.size, 4, none⟩ (.slice ao1 M.it.ps.length cap1)).setCell ⟨w.heap.size, 5, none⟩ (.slice ao2 M.its.length cap2)).setCell ⟨w.heap.size, 6, none⟩ (.slice ao3 M.ps.length cap3)) := by
        repeat (first | with_reducible refine Moved.drew1 ?_ | with_reducible refine Moved.alloc ?_ _ | with_reducible refine Moved.setCell ?_ _)
        exact Moved.refl _ _
      refine ⟨?_, _, rfl, _, _, _, rfl, (HU.out.moved hm (Nat.lt_succ_self _)).low (Nat.le_succ _), (HV.out.moved hm (Nat.lt_succ_self _)).low (Nat.le_succ _), (HW.out.moved hm (Nat.lt_succ_self _)).low (Nat.le_succ _)⟩
      repeat (first | with_reducible refine Below.alloc ?_ (by simp; omega) _ | with_reducible refine Below.setCell ?_ (by simp) _ | with_reducible refine Below.drew ?_)
      exact hB1
  · have cC := fun W => cut_no s 61 W h40
    have cI := fun W hW => iparams_any s W hs hW
    have hL : valM s.data.toList = (match psL s.data.toList [] 0 with
      | none => none
      | some (ps, m) => some (⟨false, ⟨6, 1, [], ps⟩, [], []⟩, s.data.toList.drop m)) := by rw [valM, if_neg h40]
    clear h40
    cases hin : psL s.data.toList [] 0 with
    | none =>
      have HL : Hid (valM s.data.toList = none) := Lib.hid (by rw [hL, hin])
      rw [hin] at cI
      clear hin hL
      go_enter Tryz.func54, Tryz.ntmps54
      go_wp2_with fail
      refine (cC _).mono ?_
      rintro e w1 ⟨rfl, rfl⟩
      go_wp2_with fail
      refine (cI _ (HA.out.below hb0)).mono ?_
      rintro e w1 ⟨hb1, rfl⟩
      have hR1 := HR0.out.next (by simpa using hb1)
      have hB1 := hb0.trans (hb1.mono hb0.size)
      have hlt := hR1.lt
      obtain ⟨r0, r1, r2, r3, r4, r5, r6, g0, g1, g2, g3, g4, g5, g6⟩ := hR1
      clear hb1 cI cC
      go_wp2_with fail
      refine bodyPost_ret (v := .tuple #[noMem, .string ⟨#[]⟩, .int .i64 2]) (by simp [results, Tryz.results54, go_sem, r0, r1, r2, r3, r4, r5, r6]) rfl ?_
      rw [HL.out]
      refine ⟨?_, rfl⟩
      repeat (first | with_reducible refine Below.alloc ?_ (by simp; omega) _ | with_reducible refine Below.setCell ?_ (by simp) _)
      exact hB1
    | some x =>
      obtain ⟨ps, m⟩ := x
      have HL : Hid (valM s.data.toList = some (⟨false, ⟨6, 1, [], ps⟩, [], []⟩, s.data.toList.drop m)) := Lib.hid (by rw [hL, hin])
      have hm2 := psL_le _ _ _ _ _ _ (Nat.le_refl _) hin
      rw [← Lib.size_eq, Nat.zero_add] at hm2
      rw [hin] at cI
      have j2 : (m : Int) ≤ (s.size : Int) := by omega
      have j0 : (0 : Int) ≤ (m : Int) := by omega
      have HX : Hid (s.extract m s.size = strB (s.data.toList.drop m)) := Lib.hid (by rw [← strB_of (s.extract m s.size), Lib.extract_to_end])
      clear hin hL
      go_enter Tryz.func54, Tryz.ntmps54
      go_wp2_with fail
      refine (cC _).mono ?_
      rintro e w1 ⟨rfl, rfl⟩
      go_wp2_with fail
      refine (cI _ (HA.out.below hb0)).mono ?_
      rintro e w1 ⟨hb1, v1, rfl, ho1⟩
      have HU := Lib.hid (PrmsOff.made (lo := w.heap.size + 1) (blk := none) ho1 (by simp) (fun g hg => by cases hg))
      obtain ⟨ao1, cap1, rfl⟩ := owns_form ho1
      have hR1 := HR0.out.next (by simpa using hb1)
      have hB1 := hb0.trans (hb1.mono hb0.size)
      have hlt := hR1.lt
      obtain ⟨r0, r1, r2, r3, r4, r5, r6, g0, g1, g2, g3, g4, g5, g6⟩ := hR1
      clear hb1 cI cC ho1
      go_wp2_with fail
      go_region
      all_goals
        go_wp2_with fail
        refine bodyPost_ret (v := .tuple #[aggM false 6 1 ⟨#[]⟩ (.slice ao1 ps.length cap1) (.slice none 0 0) (.slice none 0 0), .string (s.extract m s.size), .int .i64 0]) (by simp [results, Tryz.results54, go_sem, r0, r1, r2, r3, r4, r5, r6, hlt]) rfl ?_
        rw [HL.out]
        refine ⟨?_, _, by rw [HX.out] <;> rfl, .slice ao1 ps.length cap1, .slice none 0 0, .slice none 0 0, rfl, (HU.out.moved (c := w.heap.size) ?_ (Nat.lt_succ_self _)).low (Nat.le_succ _), ItmsOff.nothing _ _ _, PrmsOff.nothing _ _ _⟩
        · repeat (first | with_reducible refine Below.alloc ?_ (by simp; omega) _ | with_reducible refine Below.setCell ?_ (by simp) _ | with_reducible refine Below.drew ?_)
          exact hB1
        · repeat (first | with_reducible refine Moved.drew1 ?_ | with_reducible refine Moved.alloc ?_ _ | with_reducible refine Moved.setCell ?_ _)
          exact Moved.refl _ _

end Go.Proofs.YtjbipplaacgnkaaGreatDoor

namespace Go.Proofs.YtjbipplaacgnkaaGreatDoor
open Go.RowKit Go.Maps

abbrev aggE (K : ByteArray) (b : Bool) (k n : Int) (s : ByteArray) (u vi vp : Value) : Value := .agg #[.string K, .bool b, .int .i64 k, .int .i64 n, .string s, u, vi, vp]
abbrev noEnt : Value := aggE ⟨#[]⟩ false 0 0 ⟨#[]⟩ (.slice none 0 0) (.slice none 0 0) (.slice none 0 0)
abbrev zeroEnt : Obj := .cells #[.string ⟨#[]⟩, .bool false, .int .i64 0, .int .i64 0, .string ⟨#[]⟩, .slice none 0 0, .slice none 0 0, .slice none 0 0] 76

/-- An entry that is handed over, and where its parts lie. -/
def EntAt (lo : Nat) (blk : Option Nat) (w : World) (E : Ent) (v : Value) : Prop :=
  ∃ u vi vp, v = aggE (strB E.key) E.val.inner E.val.it.k E.val.it.n (strB E.val.it.s) u vi vp ∧ entR.F lo blk w E (u, vi, vp)

def entPost (o : Option (Ent × List UInt8)) (w : World) (e : Ending) (w' : World) : Prop :=
  Below w.heap.size w w' ∧ match o with
    | none => e = .returned (.tuple #[noEnt, .string ⟨#[]⟩, .int .i64 2])
    | some (E, r) => ∃ v, e = .returned (.tuple #[v, .string (strB r), .int .i64 0]) ∧ EntAt w.heap.size none w' E v

structure ResE (W : World) (c : Nat) : Prop where
  r0 : W.cell? ⟨c, 0, none⟩ = some (.string ⟨#[]⟩)
  r1 : W.cell? ⟨c, 1, none⟩ = some (.bool false)
  r2 : W.cell? ⟨c, 2, none⟩ = some (.int .i64 0)
  r3 : W.cell? ⟨c, 3, none⟩ = some (.int .i64 0)
  r4 : W.cell? ⟨c, 4, none⟩ = some (.string ⟨#[]⟩)
  r5 : W.cell? ⟨c, 5, none⟩ = some (.slice none 0 0)
  r6 : W.cell? ⟨c, 6, none⟩ = some (.slice none 0 0)
  r7 : W.cell? ⟨c, 7, none⟩ = some (.slice none 0 0)
  g0 : W.frozen? ⟨c, 0, none⟩ = false
  g1 : W.frozen? ⟨c, 1, none⟩ = false
  g2 : W.frozen? ⟨c, 2, none⟩ = false
  g3 : W.frozen? ⟨c, 3, none⟩ = false
  g4 : W.frozen? ⟨c, 4, none⟩ = false
  g5 : W.frozen? ⟨c, 5, none⟩ = false
  g6 : W.frozen? ⟨c, 6, none⟩ = false
  g7 : W.frozen? ⟨c, 7, none⟩ = false
theorem ResE.made (w : World) : ResE (w.alloc zeroEnt) w.heap.size := ⟨by simp, by simp, by simp, by simp, by simp, by simp, by simp, by simp, by simp, by simp, by simp, by simp, by simp, by simp, by simp, by simp⟩
theorem ResE.lt {W : World} {c : Nat} (h : ResE W c) : c < W.heap.size := lt_of_cell h.r0
theorem ResE.next {W W1 : World} {c : Nat} (h : ResE W c) (hb : Below (c + 1) W W1) : ResE W1 c := by
  have hc : ∀ i, W1.cell? ⟨c, i, none⟩ = W.cell? ⟨c, i, none⟩ := fun i => hb.cell (p := ⟨c, i, none⟩) (Nat.lt_succ_self _)
  have hf : ∀ i, W1.frozen? ⟨c, i, none⟩ = W.frozen? ⟨c, i, none⟩ := fun i => hb.frozen (p := ⟨c, i, none⟩) (Nat.lt_succ_self _)
  exact ⟨(hc 0).trans h.r0, (hc 1).trans h.r1, (hc 2).trans h.r2, (hc 3).trans h.r3, (hc 4).trans h.r4, (hc 5).trans h.r5, (hc 6).trans h.r6, (hc 7).trans h.r7, (hf 0).trans h.g0, (hf 1).trans h.g1, (hf 2).trans h.g2, (hf 3).trans h.g3, (hf 4).trans h.g4, (hf 5).trans h.g5, (hf 6).trans h.g6, (hf 7).trans h.g7⟩

set_option maxRecDepth 100000 in
set_option maxHeartbeats 4000000 in
theorem readEntry_any (s : ByteArray) (w : World) (hs : s.size ≤ 100000) (hA : Alph w) :
    Calls Tryz.prog 28 #[.string s] w (entPost (entL s.data.toList) w) := by
  have hb0 : Below w.heap.size w (w.alloc zeroEnt) := (Below.refl _ _).alloc (Nat.le_refl _) _
  have HA := Lib.hid hA
  have HR0 := Lib.hid (ResE.made w)
  have cK := fun W => readKey_any s W (by unfold maxLen; omega)
  have hk := klen_le s.data.toList
  rw [← Lib.size_eq] at hk
  clear hA
  by_cases h0 : klen s.data.toList = 0
  · have HL : Hid (entL s.data.toList = none) := Lib.hid (by rw [entL, if_pos h0])
    rw [rkV, if_pos h0] at cK
    have hR1 := HR0.out
    have hlt := hR1.lt
    have HRx := Lib.hid hR1
    clear h0
    go_enter Tryz.func28, Tryz.ntmps28
    go_wp2_with fail
    refine (cK _).mono ?_
    rintro e w1 ⟨rfl, rfl⟩
    obtain ⟨r0, r1, r2, r3, r4, r5, r6, r7, g0, g1, g2, g3, g4, g5, g6, g7⟩ := hR1
    go_wp2_with fail
    refine bodyPost_ret (v := .tuple #[noEnt, .string ⟨#[]⟩, .int .i64 2]) (by simp [results, Tryz.results28, go_sem]) rfl ?_
    rw [HL.out]
    refine ⟨?_, rfl⟩
    repeat (first | with_reducible refine Below.alloc ?_ (by simp) _ | with_reducible refine Below.setCell ?_ (by simp) _)
    exact Below.refl _ _
  · have hxd : (s.extract (klen s.data.toList) s.size).data.toList = s.data.toList.drop (klen s.data.toList) := Lib.extract_to_end s _
    have cV := fun W hW => readValue_any (s.extract (klen s.data.toList) s.size) W (by rw [Lib.size_eq, hxd, List.length_drop, ← Lib.size_eq]; omega) hW
    rw [hxd] at cV
    rw [rkV, if_neg h0] at cK
    have hE : entL s.data.toList = (match valM (s.data.toList.drop (klen s.data.toList)) with
      | none => none
      | some (M, r) => some (⟨s.data.toList.take (klen s.data.toList), M⟩, r)) := by rw [entL, if_neg h0] <;> rfl
    have j0 : (0 : Int) ≤ (klen s.data.toList : Int) := by omega
    have j2 : (klen s.data.toList : Int) ≤ (s.size : Int) := by omega
    clear hxd h0 hk
    cases hv : valM (s.data.toList.drop (klen s.data.toList)) with
    | none =>
      have HL : Hid (entL s.data.toList = none) := Lib.hid (by rw [hE, hv])
      rw [hv] at cV
      clear hv hE
      generalize strB (s.data.toList.take (klen s.data.toList)) = K at *
      generalize klen s.data.toList = n at *
      go_enter Tryz.func28, Tryz.ntmps28
      go_wp2_with fail
      refine (cK _).mono ?_
      rintro e w1 ⟨rfl, rfl⟩
      go_wp2_with fail
      refine (cV _ (HA.out.below hb0)).mono ?_
      rintro e w1 ⟨hb1, rfl⟩
      have hR1 := HR0.out.next (by simpa using hb1)
      have hB1 := hb0.trans (hb1.mono hb0.size)
      have hlt := hR1.lt
      obtain ⟨r0, r1, r2, r3, r4, r5, r6, r7, g0, g1, g2, g3, g4, g5, g6, g7⟩ := hR1
      clear hb1 cK cV
      go_wp2_with fail
      refine bodyPost_ret (v := .tuple #[noEnt, .string ⟨#[]⟩, .int .i64 2]) (by simp [results, Tryz.results28, go_sem, r0, r1, r2, r3, r4, r5, r6, r7, hlt]) rfl ?_
      rw [HL.out]
      refine ⟨?_, rfl⟩
      repeat (first | with_reducible refine Below.alloc ?_ (by simp; omega) _ | with_reducible refine Below.setCell ?_ (by simp) _)
      exact hB1
    | some x =>
      obtain ⟨M, r⟩ := x
      have HL : Hid (entL s.data.toList = some (⟨s.data.toList.take (klen s.data.toList), M⟩, r)) := Lib.hid (by rw [hE, hv])
      rw [hv] at cV
      clear hv hE
      generalize hKey : s.data.toList.take (klen s.data.toList) = Key at *
      generalize klen s.data.toList = n at *
      go_enter Tryz.func28, Tryz.ntmps28
      go_wp2_with fail
      refine (cK _).mono ?_
      rintro e w1 ⟨rfl, rfl⟩
      go_wp2_with fail
      refine (cV _ (HA.out.below hb0)).mono ?_
      rintro e w1 ⟨hb1, v1, rfl, u, vi, vp, rfl, hu, hvi, hvp⟩
      have hR1 := HR0.out.next (by simpa using hb1)
      have hB1 := hb0.trans (hb1.mono hb0.size)
      have hlt := hR1.lt
      obtain ⟨r0, r1, r2, r3, r4, r5, r6, r7, g0, g1, g2, g3, g4, g5, g6, g7⟩ := hR1
      obtain ⟨ao1, cap1, rfl⟩ := hu.form
      obtain ⟨ao2, cap2, rfl⟩ := hvi.form
      obtain ⟨ao3, cap3, rfl⟩ := hvp.form
      have HU := Lib.hid (hu.low (show w.heap.size + 1 ≤ _ by simp))
      have HV := Lib.hid (hvi.low (show w.heap.size + 1 ≤ _ by simp))
      have HW := Lib.hid (hvp.low (show w.heap.size + 1 ≤ _ by simp))
      clear hb1 cK cV hu hvi hvp
      go_wp2_with fail
      refine bodyPost_ret (v := .tuple #[aggE (strB Key) M.inner M.it.k M.it.n (strB M.it.s) (.slice ao1 M.it.ps.length cap1) (.slice ao2 M.its.length cap2) (.slice ao3 M.ps.length cap3), .string (strB r), .int .i64 0]) (by simp [results, Tryz.results28, go_sem, r0, r1, r2, r3, r4, r5, r6, r7, hlt]) rfl ?_
      rw [HL.out]
      refine ⟨?_, _, rfl, _, _, _, rfl, (HU.out.moved (c := w.heap.size) ?_ (Nat.lt_succ_self _)).low (Nat.le_succ _), (HV.out.moved (c := w.heap.size) ?_ (Nat.lt_succ_self _)).low (Nat.le_succ _), (HW.out.moved (c := w.heap.size) ?_ (Nat.lt_succ_self _)).low (Nat.le_succ _)⟩
      · repeat (first | with_reducible refine Below.alloc ?_ (by simp; omega) _ | with_reducible refine Below.setCell ?_ (by simp) _ | with_reducible refine Below.drew ?_)
        exact hB1
      all_goals
        repeat (first | with_reducible refine Moved.drew1 ?_ | with_reducible refine Moved.alloc ?_ _ | with_reducible refine Moved.setCell ?_ _)
        exact Moved.refl _ _

end Go.Proofs.YtjbipplaacgnkaaGreatDoor

namespace Go.Proofs.YtjbipplaacgnkaaGreatDoor
open Go.RowKit Go.Maps

theorem valM_le (l : List UInt8) (M : Mem) (r : List UInt8) (h : valM l = some (M, r)) : r.length ≤ l.length := by
  unfold valM at h
  split at h
  · have := memL_le _ _ _ h
    rw [List.length_drop] at this
    omega
  · split at h
    · cases h
    · obtain ⟨_, rfl⟩ := Prod.mk.inj (Option.some.inj h)
      rw [List.length_drop]; omega
theorem entL_le (l : List UInt8) (E : Ent) (r : List UInt8) (h : entL l = some (E, r)) : r.length ≤ l.length := by
  unfold entL at h
  split at h
  · cases h
  · split at h
    · cases h
    · rename_i M r1 hv
      have h1 := valM_le _ _ _ hv
      rw [List.length_drop] at h1
      obtain ⟨_, rfl⟩ := Prod.mk.inj (Option.some.inj h)
      omega

def dictPost (o : Option (List Ent)) (w : World) (e : Ending) (w' : World) : Prop :=
  Below w.heap.size w w' ∧ match o with
    | none => e = .returned (.tuple #[.slice none 0 0, .int .i64 2])
    | some xs => ∃ v, e = .returned (.tuple #[v, .int .i64 0]) ∧ OwnG entR 76 w' w.heap.size v xs

theorem info_entry : (Tryz.prog.info? 76).map (fun i => (i.zero, i.size, i.bytes)) = some (some noEnt, 8, 128) := by kernel_rfl

abbrev entO (K : ByteArray) (b : Bool) (k n : Int) (s : ByteArray) (u vi vp : Value) : Obj := .cells #[.string K, .bool b, .int .i64 k, .int .i64 n, .string s, u, vi, vp] 76

set_option maxRecDepth 100000 in
set_option maxHeartbeats 4000000 in
theorem sepE_any (s : ByteArray) (w : World) (hs : s.size ≤ 100000) (hA : Alph w) :
    Calls Tryz.prog 27 #[.string s, .func (.func 28) #[] #[]] w (dictPost (sepL entL s.data.toList) w) := by
  obtain ⟨i0, hi, hz0, hz1, hz2⟩ := info_parts info_entry
  have HA := Lib.hid hA
  clear hA
  have hsp := spD_le s.data.toList
  rw [← Lib.size_eq] at hsp
  have hem := empty_iff (spD s.data.toList)
  cases h0 : (spD s.data.toList).isEmpty with
  | true =>
    have HL : Hid (sepL entL s.data.toList = some []) := Lib.hid (by rw [sepL, if_pos (by simpa using h0)])
    rw [h0] at hem
    clear h0
    have cT := fun W => trimL1_any s W
    generalize strB (spD s.data.toList) = R at *
    go_enter Tryz.func27, Tryz.ntmps27
    go_wp2_with fail
    refine (cT _).mono ?_
    rintro e w1 ⟨rfl, hb1⟩
    go_wp2_with fail
    refine bodyPost_ret (v := .tuple #[.slice none 0 0, .int .i64 0]) (by simp [results, Tryz.results27, go_sem]) rfl ⟨hb1, ?_⟩
    rw [HL.out]
    exact ⟨_, rfl, OwnG.nothing _ _ _ _⟩
  | false =>
    have HL : Hid (sepL entL s.data.toList = sepF entL (s.data.toList.length + 1) (spD s.data.toList) []) := Lib.hid (by rw [sepL, if_neg (by intro e; rw [e] at h0; cases h0)])
    rw [h0] at hem
    clear h0
    have cT := fun W => trimL1_any s W
    go_enter Tryz.func27, Tryz.ntmps27
    go_wp2_with fail
    refine (cT _).mono ?_
    rintro e w1 ⟨rfl, hb1⟩
    go_wp2_with fail
    clear cT hem
    go_loopw [6, 7] (fun r v wr => ∃ (xs : List Ent) (l : List UInt8) (f : Nat), r = .string (strB l) ∧ l.length < f ∧ l.length + xs.length ≤ s.size ∧ Hid (sepL entL s.data.toList = sepF entL f l xs) ∧ OwnG entR 76 wr w.heap.size v xs ∧ Below w.heap.size w wr) (fun r _ _ => Lib.strSize r)
    case atStart => exact ⟨[], spD s.data.toList, s.data.toList.length + 1, rfl, by rw [← Lib.size_eq]; omega, by simpa using hsp, HL, OwnG.nothing _ _ _ _, hb1⟩
    case round =>
      obtain ⟨xs, l, f, rfl, hf, hl, H, hown, hb⟩ := hrel
      obtain ⟨f, rfl⟩ : ∃ f', f = f' + 1 := ⟨f - 1, by omega⟩
      have HO := Lib.hid hown
      have HB := Lib.hid hb
      have hbz := hb.size
      have hls := strB_size l
      have cR := fun W hW => readEntry_any (strB l) W (by omega) hW
      rw [strB_data] at cR
      have HLS := Lib.hid hls
      clear hown hb hls HL
      cases hm : entL l with
      | none =>
        have HR := Lib.hid (H.out.trans (sepF_none entL f l xs hm))
        rw [hm] at cR
        clear hm
        generalize strB l = L at *
        go_wp2_with fail
        refine (cR _ (HA.out.below HB.out)).mono ?_
        rintro e w3 ⟨hb3, rfl⟩
        go_wp2_with fail
        refine bodyPost_ret (v := .tuple #[.slice none 0 0, .int .i64 2]) (by simp [results, Tryz.results27, go_sem]) rfl ⟨?_, ?_⟩
        · exact (HB.out.trans (hb3.mono hbz)).alloc (Nat.le_trans hbz hb3.size) _
        · rw [HR.out]
      | some Mr =>
        obtain ⟨M, r⟩ := Mr
        have hrl := entL_le _ _ _ hm
        rw [hm] at cR
        have HM := Lib.hid hm
        have cT := fun W => trimL2_any (strB r) W
        rw [strB_data] at cT
        have hbl := blD_le r
        have hbs := strB_size (blD r)
        have hem := empty_iff (blD r)
        clear hm
        generalize strB l = L at *
        obtain ⟨us, u1, u2, u3⟩ := HO.out
        go_wp2_with fail
        refine (cR _ (HA.out.below HB.out)).mono ?_
        rintro e w3 ⟨hb3, v3, rfl, uu, vi, vp, rfl, hu, hvi, hvp⟩
        obtain ⟨ao1, cap1, rfl⟩ := hu.form
        obtain ⟨ao2, cap2, rfl⟩ := hvi.form
        obtain ⟨ao3, cap3, rfl⟩ := hvp.form
        obtain ⟨ao, cap, rfl⟩ := owns_form u2
        have hz3 := Nat.le_trans hbz hb3.size
        have hF0 : entR.F w.heap.size (Value.slice ao xs.length cap).ownBlock w3 M (.slice ao1 M.val.it.ps.length cap1, .slice ao2 M.val.its.length cap2, .slice ao3 M.val.ps.length cap3) :=
          entR.low (entR.avoid ⟨hu, hvi, hvp⟩ (fun g hg => (World.ownsRow.lt u2 g hg).2)) hbz
        have hbW : Below w3.heap.size w3 ((w3.alloc (entO (strB M.key) M.val.inner M.val.it.k M.val.it.n (strB M.val.it.s) (.slice ao1 M.val.it.ps.length cap1) (.slice ao2 M.val.its.length cap2) (.slice ao3 M.val.ps.length cap3))).alloc (entO (strB M.key) M.val.inner M.val.it.k M.val.it.n (strB M.val.it.s) (.slice ao1 M.val.it.ps.length cap1) (.slice ao2 M.val.its.length cap2) (.slice ao3 M.val.ps.length cap3))) := ((Below.refl _ _).alloc (Nat.le_refl _) _).alloc (by simp) _
        have hOW := ownsRow_later (ownsRow_later u2 hb3) hbW
        have hnew := cells_new (w3.alloc (entO (strB M.key) M.val.inner M.val.it.k M.val.it.n (strB M.val.it.s) (.slice ao1 M.val.it.ps.length cap1) (.slice ao2 M.val.its.length cap2) (.slice ao3 M.val.ps.length cap3))) (entR.cells M (.slice ao1 M.val.it.ps.length cap1, .slice ao2 M.val.its.length cap2, .slice ao3 M.val.ps.length cap3)) 76
        rw [show (w3.alloc (entO (strB M.key) M.val.inner M.val.it.k M.val.it.n (strB M.val.it.s) (.slice ao1 M.val.it.ps.length cap1) (.slice ao2 M.val.its.length cap2) (.slice ao3 M.val.ps.length cap3))).heap.size = w3.heap.size + 1 by simp] at hnew
        have HNew := Lib.hid hnew
        have HU3 := Lib.hid (fun (j : Nat) u (x : Ent) hu hx => entR.below (entR.below (u3 j u x hu hx) hb3) hbW)
        have HF := Lib.hid (entR.below hF0 hbW)
        have HBW := Lib.hid ((HB.out.trans (hb3.mono hbz)).trans (hbW.mono hz3))
        have HU1 := Lib.hid u1
        clear u3 hF0 u2 hb3 hu hvi hvp u1 hnew cR
        go_wp2_with (at_builtin; go_loud (refine wpList_append_lies _ rfl _ _ 30 rfl w.heap.size 76 i0 noEnt 8 128 Tryz.underlying30 hi hz0 hz1 hz2 rfl (by decide) _ xs.length (rowG entR (xs.zip us)) rfl hOW ⟨_, 0, none⟩ 1 1 (entR.cells M (.slice ao1 M.val.it.ps.length cap1, .slice ao2 M.val.its.length cap2, .slice ao3 M.val.ps.length cap3)) rfl rfl HNew.out (by simp [Value.oneCell', entR, memR]) (by decide) (by unfold maxLen; omega) (by omega) (by simp; omega) _ rfl ?_); intro g5 cap5 w5 hown5 hgrow5 hat5 hlt5)
        have hN := OwnG.snoc (R := entR) HU1.out HU3.out HF.out hown5 hgrow5 hat5
        have hB5 : Below w.heap.size w w5 := by
          have h1 := HBW.out
          exact ⟨hgrow5.os.trans h1.os, hgrow5.tape.trans h1.tape, hgrow5.output.trans h1.output, Nat.le_trans h1.size hgrow5.size, fun i hi => (hgrow5.block i (Nat.lt_of_lt_of_le hi h1.size) (own_ne hOW hi)).trans (h1.block i hi)⟩
        refine (cT _).mono ?_
        rintro e w6 ⟨rfl, hb6⟩
        have HN6 := Lib.hid (hN.below hb6)
        have HB6 := Lib.hid (hB5.trans (hb6.mono hB5.size))
        clear hN hown5 hgrow5 hb6 hOW hbW hB5 cT
        by_cases hbe : blD r = []
        · have HR := Lib.hid (H.out.trans (sepF_end entL f l r xs M HM.out hbe))
          rw [hbe] at hem ⊢
          go_wp2_with fail
          refine bodyPost_ret (v := .tuple #[.slice (some ⟨g5, 0, none⟩) (xs.length + 1) cap5, .int .i64 0]) (by simp [results, Tryz.results27, go_sem]) rfl ⟨HB6.out, ?_⟩
          rw [HR.out]
          exact ⟨_, rfl, HN6.out⟩
        · have he2 : (blD r).isEmpty = false := by
            cases hx : blD r with
            | nil => exact absurd hx hbe
            | cons a b => rfl
          rw [he2] at hem
          by_cases h44 : (blD r).head? = some 44
          · have HR := Lib.hid (H.out.trans (sepF_more entL f l r xs M HM.out hbe h44))
            have cC := fun W => cut_yes (strB (blD r)) 44 W (by rw [strB_data]; exact h44)
            rw [strB_data] at cC
            have cT2 := fun W => trimL2_any (strB ((blD r).drop 1)) W
            rw [strB_data] at cT2
            have hbl2 := blD_le ((blD r).drop 1)
            have hpos : 0 < (blD r).length := List.length_pos_iff.2 hbe
            rw [List.length_drop] at hbl2
            clear hbe he2 h44 hbs
            generalize strB (blD r) = B1 at *
            generalize (blD r).drop 1 = D1 at *
            generalize strB D1 = B2 at *
            go_wp2_with fail
            refine (cC _).mono ?_
            rintro e w7 ⟨rfl, rfl⟩
            go_wp2_with fail
            refine (cT2 _).mono ?_
            rintro e w8 ⟨rfl, hb8⟩
            have hN8 := HN6.out.below hb8
            have hB8 := HB6.out.trans (hb8.mono HB6.out.size)
            go_wp2_with fail
            go_roundw
            case rel => exact ⟨xs ++ [M], _, f, rfl, by omega, by simp; omega, HR, by simpa using hN8, hB8⟩
            case measure =>
              have := HLS.out
              simp [Lib.strSize, strB_size]
              omega
          · have HR := Lib.hid (H.out.trans (sepF_bad entL f l r xs M HM.out hbe h44))
            have cC := fun W => cut_no (strB (blD r)) 44 W (by rw [strB_data]; exact h44)
            clear hbe he2 h44 hbs
            generalize strB (blD r) = B1 at *
            go_wp2_with fail
            refine (cC _).mono ?_
            rintro e w7 ⟨rfl, rfl⟩
            go_wp2_with fail
            refine bodyPost_ret (v := .tuple #[.slice none 0 0, .int .i64 2]) (by simp [results, Tryz.results27, go_sem]) rfl ⟨HB6.out, ?_⟩
            rw [HR.out]

end Go.Proofs.YtjbipplaacgnkaaGreatDoor
