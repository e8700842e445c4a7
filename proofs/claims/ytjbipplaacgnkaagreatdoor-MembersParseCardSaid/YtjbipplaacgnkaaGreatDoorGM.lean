/- Rows in memory, read; the contract of members.joined at members, and of members.PrintList. · Rows that share their parts; entries of which each key comes once. · Rows that lie, as lists of cells; what a store elsewhere keeps. · The contracts of slices.Clone at parameters and at items, and of members.itemCopy. · The contracts of the law's ownParams and ownItem (scullerylaw04). -/
import Derived.Test.YtjbipplaacgnkaaGreatDoorGL
import Derived.Test.YtjbipplaacgnkaaGreatDoorGK
import Derived.Lib.SliceRun
import Derived.Deep.RegionWith

namespace Go.Proofs.YtjbipplaacgnkaaGreatDoor
open Go.RowKit Go.Maps
variable {α β : Type}

/-- What lies in memory whole: a row, and what its elements point to. -/
def GOff (R : Rowing α β) (lo : Nat) (blk : Option Nat) (w : World) (v : Value) (xs : List α) : Prop :=
  ∃ ao cap, v = .slice ao xs.length cap ∧ (xs = [] ∨ ∃ b off, ao = some ⟨b, off, none⟩ ∧ lo ≤ b ∧ some b ≠ blk ∧ b < w.heap.size ∧ ∀ j x, xs[j]? = some x → ∃ u, (∀ i, i < R.size → w.cell? ⟨b, off + j * R.size + i, none⟩ = (R.cells x u)[i]?) ∧ R.F lo blk w x u)
theorem GOff.below {R : Rowing α β} {lo : Nat} {blk : Option Nat} {w w' : World} {v : Value} {xs : List α} (h : GOff R lo blk w v xs) (hb : Below w.heap.size w w') : GOff R lo blk w' v xs := by
  obtain ⟨ao, cap, hv, hc⟩ := h
  rcases hc with hc | ⟨b, off, h1, h0, h2, h3, h4⟩
  · exact ⟨ao, cap, hv, .inl hc⟩
  · refine ⟨ao, cap, hv, .inr ⟨b, off, h1, h0, h2, Nat.lt_of_lt_of_le h3 hb.size, fun j x hx => ?_⟩⟩
    obtain ⟨u, hcs, hF⟩ := h4 j x hx
    exact ⟨u, fun i hi => (hb.cell (p := ⟨b, _, none⟩) h3).trans (hcs i hi), R.below hF hb⟩

theorem memT_len (M : Mem) (t : List UInt8) (h : MemOk M) (ht : memT M = some t) : t.length ≤ 121000000000000 := by
  obtain ⟨h1, h2, h3, h4, h5⟩ := h
  unfold memT at ht
  split at ht
  · cases ht
  · split at ht
    · have := itT_len _ _ h1 ht
      omega
    · split at ht
      · cases ht
      · rename_i a ha
        split at ht
        · cases ht
        · rename_i b hb
          obtain rfl := Option.some.inj ht
          have q1 := jnGo_len [32] (by decide) M.its true a h3 ha
          have q2 := ppGo_len M.ps b h5 (ppT_some _ _ hb).2
          simp only [List.length_cons, List.length_append]
          omega

set_option maxRecDepth 100000 in
set_option maxHeartbeats 4000000 in
theorem joinedM_any (v : Value) (xs : List Mem) (sep : List UInt8) (w : World) (h : GOff memR 0 none w v xs) (hl : xs.length ≤ 1000) (hk : ∀ x ∈ xs, MemOk x) (hs : sep.length ≤ 10) (hT : ∀ x ∈ xs, ∀ t, memT x = some t → t.length ≤ 1000000000) (hA : Alph w) (hP : Pow w) :
    Calls Tryz.prog 36 #[v, .string (strB sep), .func (.func 37) #[] #[]] w (printPost (textV (jnGo memT sep true xs)) w) := by
  have hv := h
  obtain ⟨ao, cap, rfl, hc⟩ := hv
  have HI := Lib.hid hc
  have HA := Lib.hid hA
  have HP := Lib.hid hP
  have HK := Lib.hid hk
  have HTL := Lib.hid hT
  have hsz := strB_size sep
  have hs3 : (strB sep).size ≤ 10 := by omega
  clear hA hP hk hc h hT
  have hfr : Lib.IsBuilder 120 5 w.heap.size w.heap.size (Lib.byteCells []) (w.alloc (.cells #[.pointer none, .slice none 0 0] 120)) :=
    .inl ⟨Nat.le_refl _, .slice none 0 0, heap_alloc_new w _, World.ownsRow_nil _ _ _ _, by simp [Value.ownBlock]⟩
  have Hfr := Lib.hid hfr
  have HB1 := Lib.hid ((Below.refl w.heap.size w).alloc (Nat.le_refl _) (.cells #[.pointer none, .slice none 0 0] 120))
  clear hfr
  have HSep := Lib.hid (show Lib.strCells (strB sep) = Lib.byteCells sep from rfl)
  clear hsz
  go_enter Tryz.func36, Tryz.ntmps36
  go_wp2_with fail
  go_loopw [15] (fun i wr => ∃ (j : Nat) (acc : List UInt8), i = .int .i64 j ∧ j ≤ xs.length ∧ acc.length ≤ j * 1000000010 ∧ Hid (jnGo memT sep true xs = (jnGo memT sep (j == 0) (xs.drop j)).map (acc ++ ·)) ∧ Lib.IsBuilder 120 5 w.heap.size w.heap.size (Lib.byteCells acc) wr ∧ Below w.heap.size w wr) (fun i _ => xs.length - (intOf i).toNat)
  case atStart => exact ⟨0, [], rfl, Nat.zero_le _, by simp, Lib.hid (by simp), Hfr.out, HB1.out⟩
  case round =>
    obtain ⟨j, acc, rfl, hj, hal, H, hbd, hb⟩ := hrel
    clear Hfr HB1
    have hbl := IsBuilder_lt hbd
    have HB := Lib.hid hb
    by_cases hlt : j < xs.length
    · obtain ⟨x, hx⟩ : ∃ x, xs[j]? = some x := ⟨_, List.getElem?_eq_getElem hlt⟩
      rcases HI.out with hnil | ⟨c, off, rfl, _, _, hcw, hcell⟩
      · rw [hnil] at hx; cases hx
      obtain ⟨⟨u, u2, u3⟩, hcs, hF⟩ := hcell j x hx
      obtain ⟨au, cu, rfl⟩ := hF.1.form
      obtain ⟨av, cv, rfl⟩ := hF.2.1.form
      obtain ⟨aw, cw, rfl⟩ := hF.2.2.form
      have q0 := hcs 0 (by decide)
      have q1 := hcs 1 (by decide)
      have q2 := hcs 2 (by decide)
      have q3 := hcs 3 (by decide)
      have q4 := hcs 4 (by decide)
      have q5 := hcs 5 (by decide)
      have q6 := hcs 6 (by decide)
      have hMA : MemAt 0 none w x (aggM x.inner x.it.k x.it.n (strB x.it.s) (.slice au x.it.ps.length cu) (.slice av x.its.length cv) (.slice aw x.ps.length cw)) := ⟨_, _, _, rfl, hF.1, hF.2.1, hF.2.2⟩
      have hck : ∀ i, wr.cell? ⟨c, i, none⟩ = w.cell? ⟨c, i, none⟩ := fun i => hb.cell (p := ⟨c, i, none⟩) hcw
      have a0 := (hck _).trans q0
      have a1 := (hck _).trans q1
      have a2 := (hck _).trans q2
      have a3 := (hck _).trans q3
      have a4 := (hck _).trans q4
      have a5 := (hck _).trans q5
      have a6 := (hck _).trans q6
      simp only [Nat.add_zero, memR, List.getElem?_cons_zero, List.getElem?_cons_succ] at a0 a1 a2 a3 a4 a5 a6
      have jI : (j : Int) < (xs.length : Int) := by omega
      have j0 : (0 : Int) ≤ (j : Int) := by omega
      have hb' := hb.alloc hb.size (memO x.inner x.it.k x.it.n (strB x.it.s) (.slice au x.it.ps.length cu) (.slice av x.its.length cv) (.slice aw x.ps.length cw))
      have cT := memberText_any x _ (wr.alloc (memO x.inner x.it.k x.it.n (strB x.it.s) (.slice au x.it.ps.length cu) (.slice av x.its.length cv) (.slice aw x.ps.length cw))) (hMA.below hb') (HK.out x (List.mem_of_getElem? hx)) (HA.out.below hb') (HP.out.below hb')
      have HBD' := Lib.hid (IsBuilder_below hbd ((Below.refl wr.heap.size wr).alloc (Nat.le_refl _) (memO x.inner x.it.k x.it.n (strB x.it.s) (.slice au x.it.ps.length cu) (.slice av x.its.length cv) (.slice aw x.ps.length cw))))
      have HB' := Lib.hid hb'
      rw [drop_at xs j x hx] at H
      have HX := Lib.hid hx
      clear hcell q0 q1 q2 q3 q4 q5 q6 hcs hF hMA hx hb' hbd hb hck
      cases hpt : memT x with
      | none =>
        have HN : Hid (jnGo memT sep true xs = none) := Lib.hid (by rw [H.out, jnGo_none _ _ _ _ _ hpt] <;> rfl)
        rw [hpt, show textV none = .tuple #[.string ⟨#[]⟩, .int .i64 2] from rfl] at cT
        clear hpt H
        generalize strB x.it.s = XS at *
        go_wp2_with fail
        refine cT.mono ?_
        rintro e w2 ⟨rfl, hb2⟩
        go_wp2_with fail
        refine bodyPost_ret (v := textV none) (by rw [show textV none = .tuple #[.string ⟨#[]⟩, .int .i64 2] from rfl]; simp [results, Tryz.results36, go_sem]) rfl ⟨by rw [HN.out], HB'.out.trans (hb2.mono HB'.out.size)⟩
      | some t =>
        have htl := HTL.out x (List.mem_of_getElem? HX.out) t hpt
        rw [jnGo_some _ _ _ _ _ t hpt] at H
        rw [hpt, show textV (some t) = .tuple #[.string (strB t), .int .i64 0] from rfl] at cT
        have htz := strB_size t
        have HTC := Lib.hid (show Lib.strCells (strB t) = Lib.byteCells t from rfl)
        have HTz := Lib.hid htz
        clear hpt htz
        generalize strB t = T at *
        generalize strB x.it.s = XS at *
        by_cases hj0 : j = 0
        · have hjy : (j == 0) = true := by simpa using hj0
          rw [hjy] at H
          have hjp : ¬ (0 : Int) < (j : Int) := by omega
          have HJ0 := Lib.hid hj0
          clear hj0
          go_wp2_with fail
          refine cT.mono ?_
          rintro e w2 ⟨rfl, hb2⟩
          have hbd2 := IsBuilder_below HBD'.out hb2
          have HB2 := Lib.hid (HB'.out.trans (hb2.mono HB'.out.size))
          have hsz2 : w.heap.size < w2.heap.size := IsBuilder_lt hbd2
          have cW := writeString_any w.heap.size w.heap.size (Lib.byteCells acc) T w2 hbd2 (by rw [Lib.byteCells_length, HTz.out]; omega) (by omega)
          clear cT hb2 hbd2
          go_wp2_with fail
          refine cW.mono ?_
          rintro e w3 ⟨rfl, hbd3, hb3⟩
          rw [HTC.out, show Lib.byteCells acc ++ Lib.byteCells t = Lib.byteCells (acc ++ t) by simp [Lib.byteCells]] at hbd3
          have HB3 := Lib.hid (HB2.out.trans (hb3.mono (by omega)))
          clear cW hb3
          go_wp2_with fail
          go_roundw
          case rel =>
            refine ⟨j + 1, acc ++ t, by go_num, by omega, by rw [List.length_append]; omega, Lib.hid ?_, .inr hbd3, HB3.out⟩
            rw [H.out, Option.map_map, show (j + 1 == 0) = false from rfl]
            congr 1
            funext y
            simp
          case measure => simp [intOf]; omega
        · have hjn : (j == 0) = false := by simpa using hj0
          rw [hjn] at H
          have hjp : (0 : Int) < (j : Int) := by omega
          go_wp2_with fail
          refine cT.mono ?_
          rintro e w2 ⟨rfl, hb2⟩
          have hbd2 := IsBuilder_below HBD'.out hb2
          have HB2 := Lib.hid (HB'.out.trans (hb2.mono HB'.out.size))
          have hsz2 : w.heap.size < w2.heap.size := IsBuilder_lt hbd2
          have cW := writeString_any w.heap.size w.heap.size (Lib.byteCells acc) (strB sep) w2 hbd2 (by rw [Lib.byteCells_length]; omega) (by omega)
          clear cT hb2 hbd2
          go_wp2_with fail
          refine cW.mono ?_
          rintro e w3 ⟨rfl, hbd3, hb3⟩
          rw [HSep.out, show Lib.byteCells acc ++ Lib.byteCells sep = Lib.byteCells (acc ++ sep) by simp [Lib.byteCells]] at hbd3
          have HB3 := Lib.hid (HB2.out.trans (hb3.mono (by omega)))
          have hsz3 : w.heap.size < w3.heap.size := IsBuilder_lt (.inr hbd3)
          have cW2 := writeString_any w.heap.size w.heap.size (Lib.byteCells (acc ++ sep)) T w3 (.inr hbd3) (by rw [Lib.byteCells_length, List.length_append, HTz.out]; omega) (by omega)
          clear cW hb3 hbd3
          go_wp2_with fail
          refine cW2.mono ?_
          rintro e w4 ⟨rfl, hbd4, hb4⟩
          rw [HTC.out, show Lib.byteCells (acc ++ sep) ++ Lib.byteCells t = Lib.byteCells (acc ++ sep ++ t) by simp [Lib.byteCells]] at hbd4
          have HB4 := Lib.hid (HB3.out.trans (hb4.mono (by omega)))
          clear cW2 hb4
          go_wp2_with fail
          go_roundw
          case rel =>
            refine ⟨j + 1, acc ++ sep ++ t, by go_num, by omega, by rw [List.length_append, List.length_append]; omega, Lib.hid ?_, .inr hbd4, HB4.out⟩
            rw [H.out, Option.map_map, show (j + 1 == 0) = false from rfl]
            congr 1
            funext y
            simp
          case measure => simp [intOf]; omega
    · obtain rfl : j = xs.length := by omega
      have HT2 : Hid (textV (jnGo memT sep true xs) = .tuple #[.string ⟨acc.toArray⟩, .int .i64 0]) := Lib.hid (by
        rw [H.out, List.drop_length, jnGo]
        simp [textV, strB])
      have cS := Tryz.Builder_String_any w.heap.size w.heap.size acc wr hbd (by omega)
      clear hbd hb H
      go_wp2_with fail
      refine cS.mono ?_
      rintro e w2 ⟨rfl, hb2⟩
      go_wp2_with fail
      refine bodyPost_ret (v := .tuple #[.string ⟨acc.toArray⟩, .int .i64 0]) (by simp [results, Tryz.results36, go_sem]) rfl ⟨by rw [HT2.out], HB.out.trans hb2⟩

end Go.Proofs.YtjbipplaacgnkaaGreatDoor

namespace Go.Proofs.YtjbipplaacgnkaaGreatDoor
open Go.RowKit Go.Maps
variable {α β : Type}

theorem rowG_set8 : ∀ (l : List (Ent × Value × Value × Value)) (i : Nat) (x : Ent) (u : Value × Value × Value), i < l.length →
    rowG entR (l.set i (x, u)) = ((((((((rowG entR l).set (i * 8) (.string (strB x.key))).set (i * 8 + 1) (.bool x.val.inner)).set (i * 8 + 2) (.int .i64 x.val.it.k)).set (i * 8 + 3) (.int .i64 x.val.it.n)).set (i * 8 + 4) (.string (strB x.val.it.s))).set (i * 8 + 5) u.1).set (i * 8 + 6) u.2.1).set (i * 8 + 7) u.2.2
  | [], i, _, _, h => by simp at h
  | (q, v) :: l, 0, x, u, _ => by
    rw [List.set_cons_zero, rowG, rowG]
    rfl
  | (q, v) :: l, i + 1, x, u, h => by
    rw [List.set_cons_succ, rowG, rowG_set8 l i x u (by simpa using h), rowG]
    have e : ∀ (j : Nat) (r : List Value) (y : Value), (entR.cells q v ++ r).set ((i + 1) * 8 + j) y = entR.cells q v ++ r.set (i * 8 + j) y := by
      intro j r y
      have hl : (entR.cells q v).length = 8 := entR.len q v
      rw [List.set_append, if_neg (by rw [hl]; omega), hl]
      congr 2
      omega
    have e0 := e 0
    simp only [Nat.add_zero] at e0
    rw [e0, e 1, e 2, e 3, e 4, e 5, e 6, e 7]
theorem zip_set : ∀ (xs : List α) (us : List β) (i : Nat) (x : α) (u : β), (xs.set i x).zip (us.set i u) = (xs.zip us).set i (x, u)
  | [], us, i, x, u => by simp
  | x0 :: xs, [], i, x, u => by simp
  | x0 :: xs, u0 :: us, 0, x, u => rfl
  | x0 :: xs, u0 :: us, i + 1, x, u => by
    rw [List.set_cons_succ, List.set_cons_succ, List.zip_cons_cons, List.zip_cons_cons, List.set_cons_succ, zip_set xs us i x u]

/-- A row that is owned, whose elements point to what lies. -/
theorem GOff.of_row {R : Rowing α β} {T : TypeId} {lo base : Nat} {w : World} {v : Value} {xs : List α} {us : List β} (h1 : us.length = xs.length) (ho : w.ownsRow base T R.size v xs.length (rowG R (xs.zip us)))
    (hF : ∀ (j : Nat) (u : β) (x : α), us[j]? = some u → xs[j]? = some x → R.F lo none w x u) (hlo : lo ≤ base) : GOff R lo none w v xs := by
  obtain ⟨ao, cap, rfl⟩ := owns_form ho
  refine ⟨ao, cap, rfl, ?_⟩
  by_cases hx : xs = []
  · exact .inl hx
  · have hpos : 0 < xs.length := List.length_pos_iff.2 hx
    obtain ⟨g, cap2, hv, hg, hlt, _⟩ := owns_slice ho hpos
    obtain ⟨rfl, _, rfl⟩ := Value.slice.inj hv
    refine .inr ⟨g, 0, rfl, Nat.le_trans hlo hg, fun e => (by cases e), hlt, fun j x hj => ?_⟩
    have hju : j < us.length := by rw [h1]; exact (List.getElem?_eq_some_iff.1 hj).1
    refine ⟨us[j], fun i hi => ?_, hF j _ x (List.getElem?_eq_getElem hju) hj⟩
    have hz : (xs.zip us)[j]? = some (x, us[j]) := by
      rw [List.getElem?_zip_eq_some]
      exact ⟨hj, List.getElem?_eq_getElem hju⟩
    have hr := rowG_at R _ j i x us[j] hz hi
    have hil : i < (R.cells x us[j]).length := by rw [R.len]; exact hi
    rw [List.getElem?_eq_getElem hil] at hr ⊢
    rw [Nat.zero_add]
    exact owns_cells ho _ _ hr
theorem OwnG.off {R : Rowing α β} {T : TypeId} {w : World} {base : Nat} {v : Value} {xs : List α} (h : OwnG R T w base v xs) : GOff R base none w v xs := by
  obtain ⟨us, h1, h2, h3⟩ := h
  exact GOff.of_row h1 h2 (fun j u x hu hx => R.avoid (h3 j u x hu hx) (fun g hg => by cases hg)) (Nat.le_refl _)
theorem GOff.low {R : Rowing α β} {lo lo' : Nat} {blk : Option Nat} {w : World} {v : Value} {xs : List α} (h : GOff R lo blk w v xs) (hl : lo' ≤ lo) : GOff R lo' blk w v xs := by
  obtain ⟨ao, cap, hv, hc⟩ := h
  rcases hc with hc | ⟨b, off, h1, h0, h2, h3, h4⟩
  · exact ⟨ao, cap, hv, .inl hc⟩
  · refine ⟨ao, cap, hv, .inr ⟨b, off, h1, Nat.le_trans hl h0, h2, h3, fun j x hx => ?_⟩⟩
    obtain ⟨u, hc, hF⟩ := h4 j x hx
    exact ⟨u, hc, R.low hF hl⟩

/-- One entry more: at its key's place, or behind all. -/
def putE (acc : List Ent) (e : Ent) : List Ent :=
  if idxL (acc.map Ent.key) e.key < acc.length then acc.set (idxL (acc.map Ent.key) e.key) e else acc ++ [e]
def oeK (l : List Ent) : List Ent := l.foldl putE []
theorem ekeys_set (acc : List Ent) (p : Ent) (i : Nat) (hie : idxL (acc.map Ent.key) p.key = i) (hix : i < acc.length) : (acc.set i p).map Ent.key = acc.map Ent.key := by
  have hm : i < (acc.map Ent.key).length := by simpa using hix
  have hk : (acc.map Ent.key)[i] = p.key := by
    have h1 : (acc.map Ent.key).findIdx (· == p.key) < (acc.map Ent.key).length := by
      show idxL _ _ < _
      rw [hie]; exact hm
    have := List.findIdx_getElem (w := h1)
    have e : (acc.map Ent.key).findIdx (· == p.key) = i := hie
    simp only [e, beq_iff_eq] at this
    exact this
  rw [List.map_set, ← hk, List.set_getElem_self]

theorem set_F {α β : Type} {P : α → β → Prop} {xs : List α} {us : List β} {i : Nat} {x0 : α} {u0 : β} (h : ∀ (k : Nat) (u : β) (x : α), us[k]? = some u → xs[k]? = some x → P x u) (h0 : P x0 u0) :
    ∀ (k : Nat) (u : β) (x : α), (us.set i u0)[k]? = some u → (xs.set i x0)[k]? = some x → P x u := by
  intro k u x hu hx
  rw [List.getElem?_set] at hu hx
  by_cases hk : i = k
  · subst hk
    simp only [if_true] at hu hx
    split at hu
    · split at hx
      · obtain rfl := Option.some.inj hu
        obtain rfl := Option.some.inj hx
        exact h0
      · cases hx
    · cases hu
  · rw [if_neg hk] at hu hx
    exact h k u x hu hx
theorem snoc_F {α β : Type} {P : α → β → Prop} {xs : List α} {us : List β} {x0 : α} {u0 : β} (hl : us.length = xs.length) (h : ∀ (k : Nat) (u : β) (x : α), us[k]? = some u → xs[k]? = some x → P x u) (h0 : P x0 u0) :
    ∀ (k : Nat) (u : β) (x : α), (us ++ [u0])[k]? = some u → (xs ++ [x0])[k]? = some x → P x u := by
  intro k u x hu hx
  by_cases hk : k < us.length
  · rw [List.getElem?_append_left hk] at hu
    rw [List.getElem?_append_left (by omega)] at hx
    exact h k u x hu hx
  · have hk2 : k = us.length := by
      have := (List.getElem?_eq_some_iff.1 hu).1
      simp only [List.length_append, List.length_singleton] at this
      omega
    subst hk2
    rw [List.getElem?_concat_length] at hu
    rw [hl, List.getElem?_concat_length] at hx
    obtain rfl := Option.some.inj hu
    obtain rfl := Option.some.inj hx
    exact h0
theorem zip_snoc {α β : Type} {xs : List α} {us : List β} {x : α} {u : β} (hl : us.length = xs.length) : (xs ++ [x]).zip (us ++ [u]) = xs.zip us ++ [(x, u)] := by
  rw [List.zip_append hl.symm]
  rfl

end Go.Proofs.YtjbipplaacgnkaaGreatDoor

namespace Go.Proofs.YtjbipplaacgnkaaGreatDoor
open Go.RowKit Go.Maps
variable {α β : Type}

theorem rowG_len (R : Rowing α β) : ∀ l : List (α × β), (rowG R l).length = l.length * R.size
  | [] => by simp [rowG]
  | (x, u) :: l => by
    rw [rowG, List.length_append, R.len, rowG_len R l, List.length_cons, Nat.add_mul, Nat.one_mul, Nat.add_comm]
/-- A row that lies, as the list of its cells. -/
theorem GOff.rows {R : Rowing α β} {lo : Nat} {blk : Option Nat} {w : World} {v : Value} {xs : List α} (hsz : 0 < R.size) (h : GOff R lo blk w v xs) :
    ∃ ao cap, ∃ us : List β, v = .slice ao xs.length cap ∧ us.length = xs.length ∧ (∀ (j : Nat) (u : β) (x : α), us[j]? = some u → xs[j]? = some x → R.F lo blk w x u) ∧
      (xs = [] ∨ ∃ b off, ao = some ⟨b, off, none⟩ ∧ lo ≤ b ∧ some b ≠ blk ∧ b < w.heap.size ∧ ∀ j u, (rowG R (xs.zip us))[j]? = some u → w.cell? ⟨b, off + j, none⟩ = some u) := by
  obtain ⟨ao, cap, hv, hc⟩ := h
  by_cases hx : xs = []
  · subst hx
    exact ⟨ao, cap, [], hv, rfl, fun j u x hu => by simp at hu, .inl rfl⟩
  · rcases hc with hc | ⟨b, off, h1, h0, h2, h3, h4⟩
    · exact absurd hc hx
    · have hch : ∀ i : Fin xs.length, ∃ u, (∀ k, k < R.size → w.cell? ⟨b, off + i.val * R.size + k, none⟩ = (R.cells xs[i.val] u)[k]?) ∧ R.F lo blk w xs[i.val] u := fun i => h4 i.val xs[i.val] (List.getElem?_eq_getElem i.isLt)
      obtain ⟨f, hf⟩ := Classical.axiomOfChoice hch
      refine ⟨ao, cap, List.ofFn f, hv, List.length_ofFn, ?_, .inr ⟨b, off, h1, h0, h2, h3, ?_⟩⟩
      · intro j u x hu hx
        have hj := (List.getElem?_eq_some_iff.1 hx).1
        rw [List.getElem?_eq_getElem hj] at hx
        obtain rfl := Option.some.inj hx
        rw [List.getElem?_ofFn, dif_pos hj] at hu
        obtain rfl := Option.some.inj hu
        exact (hf ⟨j, hj⟩).2
      · intro j u hu
        have hlt := (List.getElem?_eq_some_iff.1 hu).1
        rw [rowG_len, List.length_zip, List.length_ofFn, Nat.min_self] at hlt
        have hi : j / R.size < xs.length := Nat.div_lt_of_lt_mul (by rw [Nat.mul_comm]; exact hlt)
        have hm : j % R.size < R.size := Nat.mod_lt _ hsz
        have hjj : j = j / R.size * R.size + j % R.size := by rw [Nat.mul_comm]; exact (Nat.div_add_mod j R.size).symm
        have hz : (xs.zip (List.ofFn f))[j / R.size]? = some (xs[j / R.size], f ⟨j / R.size, hi⟩) := by
          rw [List.getElem?_zip_eq_some]
          exact ⟨List.getElem?_eq_getElem hi, by rw [List.getElem?_ofFn, dif_pos hi]⟩
        have hr := rowG_at R _ _ (j % R.size) _ _ hz hm
        rw [← hjj, hu] at hr
        have := (hf ⟨j / R.size, hi⟩).1 (j % R.size) hm
        dsimp only at this
        rw [← hr, Nat.add_assoc, ← hjj] at this
        exact this

/-- Items as a row. -/
def itmR : Rowing Itm Value where
  size := 4
  cells x u := cellsI x u
  F lo blk w x u := PrmsOff lo blk w u x.ps
  len _ _ := rfl
  below h hb := h.below hb
  step h hg hat := h.step hg hat
  low h hl := h.low hl
  avoid h hb := h.avoid hb
theorem ItmsOff.g {lo : Nat} {blk : Option Nat} {w : World} {v : Value} {xs : List Itm} (h : ItmsOff lo blk w v xs) : GOff itmR lo blk w v xs := by
  obtain ⟨ao, cap, hv, hc⟩ := h
  rcases hc with hc | ⟨b, off, h1, h0, h2, h3, h4⟩
  · exact ⟨ao, cap, hv, .inl hc⟩
  · refine ⟨ao, cap, hv, .inr ⟨b, off, h1, h0, h2, h3, fun j x hx => ?_⟩⟩
    obtain ⟨u, ⟨c0, c1, c2, c3⟩, hp⟩ := h4 j x hx
    refine ⟨u, fun i hi => ?_, hp⟩
    have hi4 : i < 4 := hi
    match i, hi4 with
    | 0, _ => exact c0
    | 1, _ => exact c1
    | 2, _ => exact c2
    | 3, _ => exact c3
theorem GOff.items {lo : Nat} {blk : Option Nat} {w : World} {v : Value} {xs : List Itm} (h : GOff itmR lo blk w v xs) : ItmsOff lo blk w v xs := by
  obtain ⟨ao, cap, hv, hc⟩ := h
  rcases hc with hc | ⟨b, off, h1, h0, h2, h3, h4⟩
  · exact ⟨ao, cap, hv, .inl hc⟩
  · refine ⟨ao, cap, hv, .inr ⟨b, off, h1, h0, h2, h3, fun j x hx => ?_⟩⟩
    obtain ⟨u, hcs, hp⟩ := h4 j x hx
    exact ⟨u, ⟨hcs 0 (by decide), hcs 1 (by decide), hcs 2 (by decide), hcs 3 (by decide)⟩, hp⟩

theorem PrmsOff.other {lo g : Nat} {w w' : World} {v : Value} {ps : List Prm} (h : PrmsOff lo (some g) w v ps) (hm : Moved g w w') : PrmsOff lo (some g) w' v ps := by
  obtain ⟨ao, cap, hv, hh⟩ := h
  rcases hh with hh | ⟨b, off, h1, h0, h2, h3, h4⟩
  · exact ⟨ao, cap, hv, .inl hh⟩
  · exact ⟨ao, cap, hv, .inr ⟨b, off, h1, h0, h2, Nat.lt_of_lt_of_le h3 hm.size, fun j u hj => (hm.cell (p := ⟨b, off + j, none⟩) h3 (fun e => h2 (congrArg some e))).trans (h4 j u hj)⟩⟩
theorem PrmsOff.free {lo : Nat} {blk : Option Nat} {w : World} {v : Value} {ps : List Prm} (h : PrmsOff lo blk w v ps) : PrmsOff lo none w v ps := by
  obtain ⟨ao, cap, hv, hh⟩ := h
  rcases hh with hh | ⟨b, off, h1, h0, h2, h3, h4⟩
  · exact ⟨ao, cap, hv, .inl hh⟩
  · exact ⟨ao, cap, hv, .inr ⟨b, off, h1, h0, fun e => (by cases e), h3, h4⟩⟩

end Go.Proofs.YtjbipplaacgnkaaGreatDoor

namespace Go.Proofs.YtjbipplaacgnkaaGreatDoor
open Go.RowKit Go.Maps

theorem rowP_one (ps : List Prm) : ∀ u ∈ rowP ps, u.oneCell' = true := by
  intro u hu
  obtain ⟨p, _, hp⟩ := List.mem_flatMap.1 hu
  simp only [cellsP, List.mem_cons, List.not_mem_nil, or_false] at hp
  rcases hp with rfl | rfl | rfl | rfl <;> rfl
theorem rowG_one {α β : Type} {R : Rowing α β} : ∀ (xs : List α) (us : List β), (∀ (j : Nat) (u : β) (x : α), us[j]? = some u → xs[j]? = some x → ∀ y ∈ R.cells x u, y.oneCell' = true) → ∀ y ∈ rowG R (xs.zip us), y.oneCell' = true
  | [], us, _, y, hy => by simp [rowG] at hy
  | x :: xs, [], _, y, hy => by simp [rowG] at hy
  | x :: xs, u :: us, h, y, hy => by
    rw [List.zip_cons_cons, rowG, List.mem_append] at hy
    rcases hy with hy | hy
    · exact h 0 u x rfl rfl y hy
    · exact rowG_one xs us (fun j u x hu hx => h (j + 1) u x (by simpa using hu) (by simpa using hx)) y hy
theorem itm_one {lo : Nat} {blk : Option Nat} {w : World} {x : Itm} {u : Value} (h : PrmsOff lo blk w u x.ps) : ∀ y ∈ itmR.cells x u, y.oneCell' = true := by
  obtain ⟨ao, cap, rfl⟩ := h.form
  intro y hy
  simp only [itmR, cellsI, List.mem_cons, List.not_mem_nil, or_false] at hy
  rcases hy with rfl | rfl | rfl | rfl <;> rfl
theorem mem_one {lo : Nat} {blk : Option Nat} {w : World} {x : Mem} {u : Value × Value × Value} (h : memR.F lo blk w x u) : ∀ y ∈ memR.cells x u, y.oneCell' = true := by
  obtain ⟨u1, u2, u3⟩ := u
  obtain ⟨ao, cap, rfl⟩ := h.1.form
  obtain ⟨ao2, cap2, rfl⟩ := h.2.1.form
  obtain ⟨ao3, cap3, rfl⟩ := h.2.2.form
  intro y hy
  simp only [memR, List.mem_cons, List.not_mem_nil, or_false] at hy
  rcases hy with rfl | rfl | rfl | rfl | rfl | rfl | rfl <;> rfl

set_option maxRecDepth 100000 in
set_option maxHeartbeats 1000000 in
theorem cloneP_any (v : Value) (ps : List Prm) (w : World) (h : Prms w v ps) (hl : ps.length ≤ 100000) :
    Calls Tryz.prog 58 #[v] w fun e w' => Below w.heap.size w w' ∧ ∃ u, e = .returned u ∧ w'.ownsRow w.heap.size 97 4 u ps.length (rowP ps) := by
  obtain ⟨i0, hi, hz0, hz1, hz2⟩ := info_parts info_param
  obtain ⟨ao, cap, rfl, hc⟩ := h
  have qn : ∀ (w : World) (a : Option Addr) (n c n' c' : Nat), (binOp .eql 44 (.slice a n c) (.slice none n' c')).run Tryz.prog w = .ok (.bool a.isNone) w := fun w a n c n' c' => Lib.run_eql_slice_nil w _ _ a n c n' c' Tryz.underlying44
  have HC := Lib.hid hc
  clear hc
  cases ao with
  | none =>
    have hps : ps = [] := by
      rcases HC.out with h | ⟨b, off, h, _⟩
      · exact h
      · cases h
    subst hps
    go_enter Tryz.func58, Tryz.ntmps58
    go_wp2_with fail
    go_ret
    exact ⟨Below.refl _ _, _, rfl, World.ownsRow_nil _ _ _ _⟩
  | some a =>
    by_cases hps : ps = []
    · subst hps
      go_enter Tryz.func58, Tryz.ntmps58
      go_wp2_with (at_builtin; refine wpList_append_own _ rfl _ _ 44 rfl w.heap.size 97 i0 (.agg #[.string ⟨#[]⟩, .int .i64 0, .int .i64 0, .string ⟨#[]⟩]) 4 48 Tryz.underlying44 hi hz0 hz1 hz2 rfl (by decide) _ _ _ rfl (World.ownsRow_made w #[] 0 (Nat.le_refl _) (Nat.zero_le _) rfl) a 0 cap [] rfl rfl (by intro j u hj; simp at hj) (by intro u hu; cases hu) (by unfold maxLen; omega) (by omega) (by simp) ?_)
      intro v' w1 hown hgrow _
      go_wp2
      go_ret
      exact ⟨((Below.refl _ w).alloc (Nat.le_refl _) _).grown hgrow (by simp) (by intro k hk; simp [Value.ownBlock] at hk; omega), _, rfl, (show w1.ownsRow w.heap.size 97 4 v' 0 [] by simpa using hown)⟩
    · have hsrc : ∃ b off, a = ⟨b, off, none⟩ ∧ ∀ j u, (rowP ps)[j]? = some u → w.cell? ⟨b, off + j, none⟩ = some u := by
        rcases HC.out with h | ⟨b, off, h, h2⟩
        · exact absurd h hps
        · exact ⟨b, off, Option.some.inj h, h2⟩
      obtain ⟨b, off, rfl, hcell⟩ := hsrc
      have A : Hid (∀ j u, (rowP ps)[j]? = some u → w.cell? ⟨b, off + j, none⟩ = some u) := Lib.hid hcell
      clear hcell
      go_enter Tryz.func58, Tryz.ntmps58
      go_wp2_with (at_builtin; refine wpList_append_own _ rfl _ _ 44 rfl w.heap.size 97 i0 (.agg #[.string ⟨#[]⟩, .int .i64 0, .int .i64 0, .string ⟨#[]⟩]) 4 48 Tryz.underlying44 hi hz0 hz1 hz2 rfl (by decide) _ _ _ rfl (World.ownsRow_made w #[] 0 (Nat.le_refl _) (Nat.zero_le _) rfl) ⟨b, off, none⟩ ps.length cap (rowP ps) rfl ?qc1 ?qc2 ?qc3 ?qc4 ?qc5 ?qc6 ?_)
      case qc1 => exact rowP_len ps
      case qc2 =>
        intro j u hj
        rw [Addr.add_lit]
        exact Lib.cell?_alloc_some _ (A.out j u hj)
      case qc3 => exact rowP_one ps
      case qc4 => unfold maxLen; omega
      case qc5 => omega
      case qc6 => simp
      intro v' w1 hown hgrow _
      go_wp2
      go_ret
      exact ⟨((Below.refl _ w).alloc (Nat.le_refl _) _).grown hgrow (by simp) (by intro k hk; simp [Value.ownBlock] at hk; omega), _, rfl, by simpa using hown⟩

/-- What a copy of a slice of items is. -/
def ClonedI (w : World) (xs : List Itm) (us : List Value) (e : Ending) (w' : World) : Prop :=
  Below w.heap.size w w' ∧ ∃ u, e = .returned u ∧ w'.ownsRow w.heap.size 46 4 u xs.length (rowG itmR (xs.zip us))

set_option maxRecDepth 100000 in
set_option maxHeartbeats 1000000 in
theorem cloneI_us (ao : Option Addr) (cap : Nat) (xs : List Itm) (us : List Value) (w : World) (hul : us.length = xs.length) (hc : xs = [] ∨ ∃ b off, ao = some ⟨b, off, none⟩ ∧ ∀ j u, (rowG itmR (xs.zip us))[j]? = some u → w.cell? ⟨b, off + j, none⟩ = some u)
    (hone : ∀ y ∈ rowG itmR (xs.zip us), y.oneCell' = true) (hl : xs.length ≤ 100000) :
    Calls Tryz.prog 57 #[.slice ao xs.length cap] w (ClonedI w xs us) := by
  obtain ⟨i0, hi, hz0, hz1, hz2⟩ := info_parts info_item
  have qn : ∀ (w : World) (a : Option Addr) (n c n' c' : Nat), (binOp .eql 47 (.slice a n c) (.slice none n' c')).run Tryz.prog w = .ok (.bool a.isNone) w := fun w a n c n' c' => Lib.run_eql_slice_nil w _ _ a n c n' c' Tryz.underlying47
  have HC := Lib.hid hc
  have HONE := Lib.hid hone
  clear hc hone
  cases ao with
  | none =>
    have hps : xs = [] := by
      rcases HC.out with h | ⟨b, off, h, _⟩
      · exact h
      · cases h
    subst hps
    obtain rfl : us = [] := List.eq_nil_of_length_eq_zero hul
    go_enter Tryz.func57, Tryz.ntmps57
    go_wp2_with fail
    go_ret
    exact ⟨Below.refl _ _, _, rfl, World.ownsRow_nil _ _ _ _⟩
  | some a =>
    by_cases hps : xs = []
    · subst hps
      obtain rfl : us = [] := List.eq_nil_of_length_eq_zero hul
      go_enter Tryz.func57, Tryz.ntmps57
      go_wp2_with (at_builtin; refine wpList_append_own _ rfl _ _ 47 rfl w.heap.size 46 i0 (.agg #[.int .i64 0, .int .i64 0, .string ⟨#[]⟩, .slice none 0 0]) 4 56 Tryz.underlying47 hi hz0 hz1 hz2 rfl (by decide) _ _ _ rfl (World.ownsRow_made w #[] 0 (Nat.le_refl _) (Nat.zero_le _) rfl) a 0 cap [] rfl rfl (by intro j u hj; simp at hj) (by intro u hu; cases hu) (by unfold maxLen; omega) (by omega) (by simp) ?_)
      intro v' w1 hown hgrow _
      go_wp2
      go_ret
      exact ⟨((Below.refl _ w).alloc (Nat.le_refl _) _).grown hgrow (by simp) (by intro k hk; simp [Value.ownBlock] at hk; omega), _, rfl, (show w1.ownsRow w.heap.size 46 4 v' 0 [] by simpa using hown)⟩
    · have hsrc : ∃ b off, a = ⟨b, off, none⟩ ∧ ∀ j u, (rowG itmR (xs.zip us))[j]? = some u → w.cell? ⟨b, off + j, none⟩ = some u := by
        rcases HC.out with h | ⟨b, off, h, h2⟩
        · exact absurd h hps
        · exact ⟨b, off, Option.some.inj h, h2⟩
      obtain ⟨b, off, rfl, hcell⟩ := hsrc
      have A : Hid (∀ j u, (rowG itmR (xs.zip us))[j]? = some u → w.cell? ⟨b, off + j, none⟩ = some u) := Lib.hid hcell
      clear hcell
      go_enter Tryz.func57, Tryz.ntmps57
      go_wp2_with (at_builtin; refine wpList_append_own _ rfl _ _ 47 rfl w.heap.size 46 i0 (.agg #[.int .i64 0, .int .i64 0, .string ⟨#[]⟩, .slice none 0 0]) 4 56 Tryz.underlying47 hi hz0 hz1 hz2 rfl (by decide) _ _ _ rfl (World.ownsRow_made w #[] 0 (Nat.le_refl _) (Nat.zero_le _) rfl) ⟨b, off, none⟩ xs.length cap (rowG itmR (xs.zip us)) rfl ?qc1 ?qc2 ?qc3 ?qc4 ?qc5 ?qc6 ?_)
      case qc1 => rw [rowG_len, List.length_zip, hul, Nat.min_self] <;> rfl
      case qc2 =>
        intro j u hj
        rw [Addr.add_lit]
        exact Lib.cell?_alloc_some _ (A.out j u hj)
      case qc3 => exact HONE.out
      case qc4 => unfold maxLen; omega
      case qc5 => omega
      case qc6 => simp
      intro v' w1 hown hgrow _
      go_wp2
      go_ret
      exact ⟨((Below.refl _ w).alloc (Nat.le_refl _) _).grown hgrow (by simp) (by intro k hk; simp [Value.ownBlock] at hk; omega), _, rfl, by simpa using hown⟩

theorem lt_grow {_ w' : World} {base : Nat} {e : TypeId} {size n g cap : Nat} {xs : List Value} (h : w'.ownsRow base e size (.slice (some ⟨g, 0, none⟩) n cap) n xs) : base ≤ g := (World.ownsRow.lt h g rfl).1

/-- Two boxes of four cells, and what was made behind them. -/
def Box2 (w : World) (o p : Obj) (W : World) : Prop := Below (w.heap.size + 2) ((w.alloc o).alloc p) W
theorem Box2.next {w W W1 : World} {o p : Obj} (h : Box2 w o p W) (hb : Below W.heap.size W W1) : Box2 w o p W1 :=
  Below.trans h (hb.mono (by have := Below.size h; simp at this; omega))
theorem Box2.later {w W : World} {o p : Obj} (h : Box2 w o p W) : Below w.heap.size w W :=
  (((Below.refl w.heap.size w).alloc (Nat.le_refl _) o).alloc (by simp) p).trans (Below.mono h (by omega))
theorem Box2.cells {w W : World} {a b c d a' b' c' d' : Value} {T T' : TypeId} (h : Box2 w (.cells #[a, b, c, d] T) (.cells #[a', b', c', d'] T') W) :
    (W.cell? ⟨w.heap.size, 0, none⟩ = some a ∧ W.cell? ⟨w.heap.size, 1, none⟩ = some b ∧ W.cell? ⟨w.heap.size, 2, none⟩ = some c ∧ W.cell? ⟨w.heap.size, 3, none⟩ = some d) ∧
    (W.cell? ⟨w.heap.size + 1, 0, none⟩ = some a' ∧ W.cell? ⟨w.heap.size + 1, 1, none⟩ = some b' ∧ W.cell? ⟨w.heap.size + 1, 2, none⟩ = some c' ∧ W.cell? ⟨w.heap.size + 1, 3, none⟩ = some d') ∧
    (W.frozen? ⟨w.heap.size, 3, none⟩ = false ∧ W.frozen? ⟨w.heap.size + 1, 0, none⟩ = false ∧ W.frozen? ⟨w.heap.size + 1, 1, none⟩ = false ∧ W.frozen? ⟨w.heap.size + 1, 2, none⟩ = false ∧ W.frozen? ⟨w.heap.size + 1, 3, none⟩ = false) := by
  have kc := fun (b o : Nat) (hb : b < w.heap.size + 2) => Below.cell (p := ⟨b, o, none⟩) h hb
  have kf := fun (b o : Nat) (hb : b < w.heap.size + 2) => Below.frozen (p := ⟨b, o, none⟩) h hb
  refine ⟨⟨?_, ?_, ?_, ?_⟩, ⟨?_, ?_, ?_, ?_⟩, ?_, ?_, ?_, ?_, ?_⟩
  · exact (kc _ _ (by omega)).trans (by simp)
  · exact (kc _ _ (by omega)).trans (by simp)
  · exact (kc _ _ (by omega)).trans (by simp)
  · exact (kc _ _ (by omega)).trans (by simp)
  · exact (kc _ _ (by omega)).trans (by simp)
  · exact (kc _ _ (by omega)).trans (by simp)
  · exact (kc _ _ (by omega)).trans (by simp)
  · exact (kc _ _ (by omega)).trans (by simp)
  · exact (kf _ _ (by omega)).trans (by simp)
  · exact (kf _ _ (by omega)).trans (by simp)
  · exact (kf _ _ (by omega)).trans (by simp)
  · exact (kf _ _ (by omega)).trans (by simp)
  · exact (kf _ _ (by omega)).trans (by simp)

set_option maxRecDepth 100000 in
set_option maxHeartbeats 1000000 in
theorem itemCopy_any (k n : Int) (s : ByteArray) (v : Value) (ps : List Prm) (w : World) (h : Prms w v ps) (hl : ps.length ≤ 100000) :
    Calls Tryz.prog 56 #[.agg #[.int .i64 k, .int .i64 n, .string s, v]] w fun e w' => Below w.heap.size w w' ∧ ∃ u, e = .returned (.agg #[.int .i64 k, .int .i64 n, .string s, u]) ∧ w'.ownsRow (w.heap.size + 2) 97 4 u ps.length (rowP ps) := by
  have hb0 : Below w.heap.size w ((w.alloc (itemO k n s v)).alloc zeroItem) := ((Below.refl _ _).alloc (Nat.le_refl _) _).alloc (by simp) _
  have cC := cloneP_any v ps ((w.alloc (itemO k n s v)).alloc zeroItem) (h.below hb0) hl
  obtain ⟨ao, cap, rfl, hc⟩ := h
  clear hc
  go_enter Tryz.func56, Tryz.ntmps56
  go_wp2_with fail
  refine cC.mono ?_
  rintro e w1 ⟨hb1, u, rfl, hown⟩
  have hk1 : Box2 w (itemO k n s (.slice ao ps.length cap)) zeroItem w1 := Below.mono hb1 (by simp)
  have hB1 := hk1.later
  obtain ⟨⟨x0, x1, x2, x3⟩, ⟨y0, y1, y2, y3⟩, f3, g0, g1, g2, g3⟩ := hk1.cells
  have hw1 : w.heap.size + 1 < w1.heap.size := lt_of_cell y0
  have HO := Lib.hid (ownsRow_low hown (B := w.heap.size + 2) (by simp))
  obtain ⟨ao2, cap2, rfl⟩ := owns_form hown
  clear hown hb1 hb0 cC
  go_wp2_with fail
  have hown2 := HO.out
  refine bodyPost_ret (v := .agg #[.int .i64 k, .int .i64 n, .string s, .slice ao2 ps.length cap2]) (by simp [results, Tryz.results56, go_sem, y0, y1, y2, y3]) rfl ⟨?_, _, rfl, ?_⟩
  · repeat (first | with_reducible refine Below.setCell ?_ (by simp) _)
    exact hB1
  · have hm1 := (Moved.refl w.heap.size w1).setCell (o := 3) (.slice ao2 ps.length cap2)
    have o1 := ownsRow_moved hown2 hm1 (by omega)
    have hm2 := ((((Moved.refl (w.heap.size + 1) (w1.setCell ⟨w.heap.size, 3, none⟩ (.slice ao2 ps.length cap2))).setCell (o := 0) (.int .i64 k)).setCell (o := 1) (.int .i64 n)).setCell (o := 2) (.string s)).setCell (o := 3) (.slice ao2 ps.length cap2)
    exact ownsRow_moved o1 hm2 (by omega)

end Go.Proofs.YtjbipplaacgnkaaGreatDoor

namespace Go.Proofs.YtjbipplaacgnkaaGreatDoor
open Go.RowKit Go.Maps

set_option maxRecDepth 100000 in
set_option maxHeartbeats 1000000 in
theorem ownParams_any (v : Value) (ps : List Prm) (w : World) (h : Prms w v ps) (hl : ps.length ≤ 2932031007402) :
    Calls Tryz.prog 35 #[v] w fun e w' => Below w.heap.size w w' ∧ ∃ u, e = .returned u ∧ w'.ownsRow w.heap.size 116 4 u ps.length (rowP ps) := by
  obtain ⟨i0, hi, hz0, hz1, hz2⟩ := info_parts info_rparam
  obtain ⟨ao, cap, rfl, hc⟩ := h
  have HC := Lib.hid hc
  clear hc
  go_enter Tryz.func35, Tryz.ntmps35
  go_wp2_with fail
  go_loopw [3, 4] (fun v i wr => ∃ (j : Nat), i = .int .i64 j ∧ j ≤ ps.length ∧ wr.ownsRow w.heap.size 116 4 v j (rowP (ps.take j)) ∧ Below w.heap.size w wr) (fun _ i _ => ps.length - (intOf i).toNat)
  case atStart => exact ⟨0, rfl, Nat.zero_le _, World.ownsRow_nil _ _ _ _, Below.refl _ _⟩
  case round =>
    obtain ⟨j, rfl, hj, hown, hb⟩ := hrel
    by_cases hlt : j < ps.length
    · rcases HC.out with hnil | ⟨c, off, rfl, hcell⟩
      · exfalso
        rw [hnil] at hlt
        simp at hlt
      · obtain ⟨p, hp⟩ : ∃ p, ps[j]? = some p := ⟨_, List.getElem?_eq_getElem hlt⟩
        obtain ⟨x0, x1, x2, x3⟩ := rowP_at ps j p hp
        have hcl : c < w.heap.size := lt_of_cell (hcell _ _ x0)
        have a0 := (hb.cell (p := ⟨c, off + j * 4, none⟩) hcl).trans (hcell _ _ x0)
        have a1 := (hb.cell (p := ⟨c, off + (j * 4 + 1), none⟩) hcl).trans (hcell _ _ x1)
        have a2 := (hb.cell (p := ⟨c, off + (j * 4 + 2), none⟩) hcl).trans (hcell _ _ x2)
        have a3 := (hb.cell (p := ⟨c, off + (j * 4 + 3), none⟩) hcl).trans (hcell _ _ x3)
        simp only [← Nat.add_assoc] at a1 a2 a3
        have jI : (j : Int) < (ps.length : Int) := by omega
        have j0 : (0 : Int) ≤ (j : Int) := by omega
        have Htk : Hid (ps.take j ++ [p] = ps.take (j + 1)) := Lib.hid (by rw [List.take_add_one, hp] <;> rfl)
        have HB := Lib.hid hb
        have HO := Lib.hid hown
        have hz := hb.size
        clear hcell x0 x1 x2 x3 hb hp hown
        obtain ⟨ao2, cap2, rfl⟩ := owns_form HO.out
        go_wp2_with (at_builtin; refine wpList_append_own _ rfl _ _ 52 rfl w.heap.size 116 i0 (.agg #[.string ⟨#[]⟩, .int .i64 0, .int .i64 0, .string ⟨#[]⟩]) 4 48 Tryz.underlying52 hi hz0 hz1 hz2 rfl (by decide) _ _ _ rfl (HO.out.alloc _) ⟨_, 0, none⟩ 1 1 (cellsP p) rfl rfl (cells_new _ _ _) (by simp [Value.oneCell', cellsP]) (by unfold maxLen; omega) (by omega) (by simp; omega) ?_; intro v' w5 hown5 hgrow5 _)
        go_roundw
        case rel =>
          refine ⟨j + 1, by go_num, by omega, ?_, (HB.out.alloc hz _).grown hgrow5 (by simp; omega) (fun k e => (World.ownsRow.lt HO.out k e).1)⟩
          rw [← Htk.out, rowP_snoc]
          exact hown5
        case measure => simp [intOf]; omega
    · obtain rfl : j = ps.length := by omega
      rw [List.take_length] at hown
      have HB := Lib.hid hb
      have HO := Lib.hid hown
      clear hb hown
      obtain ⟨ao2, cap2, rfl⟩ := owns_form HO.out
      go_wp2_with fail
      go_ret
      exact ⟨HB.out, _, rfl, HO.out⟩

abbrev ritemO (k n : Int) (s : ByteArray) (v : Value) : Obj := .cells #[.int .i64 k, .int .i64 n, .string s, v] 54

set_option maxRecDepth 100000 in
set_option maxHeartbeats 1000000 in
theorem ownItem_any (k n : Int) (s : ByteArray) (v : Value) (ps : List Prm) (w : World) (h : Prms w v ps) (hl : ps.length ≤ 2932031007402) :
    Calls Tryz.prog 34 #[.agg #[.int .i64 k, .int .i64 n, .string s, v]] w fun e w' => Below w.heap.size w w' ∧ ∃ u, e = .returned (.agg #[.int .i64 k, .int .i64 n, .string s, u]) ∧ w'.ownsRow (w.heap.size + 2) 116 4 u ps.length (rowP ps) := by
  have cO : ∀ W, Box2 w (itemO k n s v) (ritemO 0 0 ⟨#[]⟩ (.slice none 0 0)) W → Calls Tryz.prog 35 #[v] W fun e w' => ∃ ao cap, e = .returned (.slice ao ps.length cap) ∧ w'.ownsRow (w.heap.size + 2) 116 4 (.slice ao ps.length cap) ps.length (rowP ps) ∧ Box2 w (itemO k n s v) (ritemO 0 0 ⟨#[]⟩ (.slice none 0 0)) w' := fun W hW =>
    (ownParams_any v ps W (h.below hW.later) hl).mono fun e w' ⟨hb, u, he, ho⟩ => by
      obtain ⟨ao, cap, rfl⟩ := owns_form ho
      exact ⟨ao, cap, he, ownsRow_low ho (by have := Below.size hW; simp at this; omega), hW.next hb⟩
  have hK0 : Box2 w (itemO k n s v) (ritemO 0 0 ⟨#[]⟩ (.slice none 0 0)) ((w.alloc (itemO k n s v)).alloc (ritemO 0 0 ⟨#[]⟩ (.slice none 0 0))) := Below.refl _ _
  have hKd : Box2 w (itemO k n s v) (ritemO 0 0 ⟨#[]⟩ (.slice none 0 0)) ((w.alloc (itemO k n s v)).alloc (ritemO 0 0 ⟨#[]⟩ (.slice none 0 0))).drew := hK0.next (Below.refl _ _).drew
  clear h hl
  go_enter Tryz.func34, Tryz.ntmps34
  go_wp2_with fail
  go_region_with (go_at_call 35; refine (cO _ hKd).mono ?_; rintro e w1 ⟨ao2, cap2, rfl, hown, hK⟩; obtain ⟨⟨x0, x1, x2, x3⟩, ⟨y0, y1, y2, y3⟩, f3, g0, g1, g2, g3⟩ := hK.cells)
  all_goals go_wp2_with fail
  all_goals
    refine bodyPost_ret (v := .agg #[.int .i64 k, .int .i64 n, .string s, .slice ao2 ps.length cap2]) (by simp [results, Tryz.results34, go_sem, y0, y1, y2, y3]) rfl ⟨?_, _, rfl, ?_⟩
    · repeat (first | with_reducible refine Below.setCell ?_ (by simp) _)
      exact hK.later
    · exact ownsRow_moved hown (((((Moved.refl (w.heap.size + 1) w1).setCell (o := 0) (.int .i64 k)).setCell (o := 1) (.int .i64 n)).setCell (o := 2) (.string s)).setCell (o := 3) (.slice ao2 ps.length cap2)) (by omega)

end Go.Proofs.YtjbipplaacgnkaaGreatDoor
