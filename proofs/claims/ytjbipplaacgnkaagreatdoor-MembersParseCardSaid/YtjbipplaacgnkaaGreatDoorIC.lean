/- The contract of the document's member (sculleryref04): the member with which a text begins. · The contract of the document's member (sculleryref04) behind a bracket, and of all texts. -/
import Derived.Test.YtjbipplaacgnkaaGreatDoorIB
import Derived.Test.YtjbipplaacgnkaaGreatDoorGN
import Derived.Test.YtjbipplaacgnkaaGreatDoorHA
import Derived.Test.YtjbipplaacgnkaaGreatDoorHB

namespace Go.Proofs.YtjbipplaacgnkaaGreatDoor
open Go.RowKit Go.Maps

def rmemPost (o : Option (Mem × List UInt8)) (z : Nat) (w : World) (e : Ending) (w' : World) : Prop :=
  Below w.heap.size w w' ∧ match o with
    | none => e = .returned (.tuple #[noMem, .int .i64 0, .int .i64 2])
    | some (M, r) => ∃ v, e = .returned (.tuple #[v, .int .i64 ((z - r.length : Nat) : Int), .int .i64 0]) ∧ MemAt w.heap.size none w' M v

theorem spD_drop (l : List UInt8) : spD l = l.drop (spcL l) := by
  unfold spD spcL
  induction l with
  | nil => rfl
  | cons c l ih =>
    rw [List.dropWhile_cons, List.takeWhile_cons]
    cases h : c == 32
    · rfl
    · simpa using ih

set_option maxRecDepth 100000 in
set_option maxHeartbeats 4000000 in
theorem rmem_out (s : ByteArray) (w : World) (hs : s.size ≤ 100000) (h40 : s.data.toList.head? ≠ some 40) :
    Calls Tryz.prog 78 #[.string s] w (rmemPost (memL s.data.toList) s.size w) := by
  have cR := fun W => rread_any s W hs
  have hb0 : Below w.heap.size w (w.alloc zeroR) := (Below.refl _ _).alloc (Nat.le_refl _) _
  have HR0 := Lib.hid (ResM.madeR w)
  have hsz := Lib.size_eq s
  have hcase : (s.size = 0 ∧ s.toList.isEmpty = true ∧ (s.toList == []) = true ∧ s.toList = []) ∨ (s.toList.isEmpty = false ∧ (s.toList == []) = false ∧ ¬ s.toList = [] ∧ ∃ h : 0 < s.size, (((s[0]'h).toNat : Int) == 40) = false) := by
    by_cases h0 : s.size = 0
    · have : s.toList = [] := by rw [Lib.toList_data]; exact List.eq_nil_of_length_eq_zero (by omega)
      exact .inl ⟨h0, by rw [this] <;> rfl, by rw [this] <;> rfl, this⟩
    · have hp : 0 < s.size := by omega
      have hne : ¬ s.toList = [] := by rw [Lib.toList_data]; intro e; rw [e, List.length_nil] at hsz; omega
      refine .inr ⟨by simpa using hne, by simpa using hne, hne, hp, ?_⟩
      have hh := head_is s 0 hp 40
      rw [List.drop_zero] at hh
      simpa using fun e => h40 (hh.2 e)
  have hL : memL s.data.toList = (match itmL s.data.toList with
    | none => none
    | some (g, ps, m) => some (⟨false, ⟨g.k, g.n, g.s, ps⟩, [], []⟩, s.data.toList.drop m)) := by rw [memL, if_neg h40] <;> rfl
  clear h40
  cases hit : itmL s.data.toList with
  | none =>
    have HL : Hid (memL s.data.toList = none) := Lib.hid (by rw [hL, hit])
    rw [hit] at cR
    clear hit hL hsz
    rcases hcase with ⟨q1, q2, q3, q4⟩ | ⟨q1, q2, q3, q4, q5⟩
    all_goals
      go_enter Tryz.func78, Tryz.ntmps78
      go_wp2_with fail
      refine (cR _).mono ?_
      rintro e w1 ⟨hb1, rfl⟩
      have hR1 := HR0.out.next (by simpa using hb1)
      have hB1 := hb0.trans (hb1.mono hb0.size)
      have hlt := hR1.lt
      obtain ⟨r0, r1, r2, r3, r4, r5, r6, g0, g1, g2, g3, g4, g5, g6⟩ := hR1
      clear hb1 cR
      go_wp2_with fail
      refine bodyPost_ret (v := .tuple #[noMem, .int .i64 0, .int .i64 2]) (by simp [results, Tryz.results78, go_sem, r0, r1, r2, r3, r4, r5, r6, hlt]) rfl ?_
      rw [HL.out]
      refine ⟨?_, rfl⟩
      repeat (first | with_reducible refine Below.alloc ?_ (by simp; omega) _ | with_reducible refine Below.setCell ?_ (by simp) _)
      exact hB1
  | some x =>
    obtain ⟨g, ps, m⟩ := x
    have hm := itmL_le _ _ _ _ hit
    have HL : Hid (memL s.data.toList = some (⟨false, ⟨g.k, g.n, g.s, ps⟩, [], []⟩, s.data.toList.drop m)) := Lib.hid (by rw [hL, hit])
    have HM : Hid (s.size - (s.data.toList.drop m).length = m) := Lib.hid (by rw [List.length_drop]; omega)
    rw [hit] at cR
    clear hit hL hsz
    obtain ⟨gk, gn, gs, gm⟩ := g
    dsimp only at cR HL
    rcases hcase with ⟨q1, q2, q3, q4⟩ | ⟨q1, q2, q3, q4, q5⟩
    all_goals
      go_enter Tryz.func78, Tryz.ntmps78
      go_wp2_with fail
      refine (cR _).mono ?_
      rintro e w1 ⟨hb1, v1, rfl, ho⟩
      have hR1 := HR0.out.next (by simpa using hb1)
      have hB1 := hb0.trans (hb1.mono hb0.size)
      have hlt := hR1.lt
      obtain ⟨r0, r1, r2, r3, r4, r5, r6, g0, g1, g2, g3, g4, g5, g6⟩ := hR1
      obtain ⟨ao, cap, rfl⟩ := owns_form ho
      have HU : Hid (PrmsOff (w.heap.size + 1) none w1 (.slice ao ps.length cap) ps) := Lib.hid (PrmsOff.made ho (by simp) (fun g e => by cases e))
      clear hb1 cR ho
      go_wp2_with fail
      refine bodyPost_ret (v := .tuple #[aggM false gk gn (strB gs) (.slice ao ps.length cap) (.slice none 0 0) (.slice none 0 0), .int .i64 (m : Int), .int .i64 0]) (by simp [results, Tryz.results78, go_sem, r0, r1, r2, r3, r4, r5, r6, hlt]) rfl ?_
      rw [HL.out]
      refine ⟨?_, _, by rw [HM.out], .slice ao ps.length cap, .slice none 0 0, .slice none 0 0, rfl, (HU.out.moved (c := w.heap.size) ?_ (Nat.lt_succ_self _)).low (Nat.le_succ _), ⟨none, 0, rfl, .inl rfl⟩, ⟨none, 0, rfl, .inl rfl⟩⟩
      · repeat (first | with_reducible refine Below.alloc ?_ (by simp; omega) _ | with_reducible refine Below.setCell ?_ (by simp) _)
        exact hB1
      · repeat (first | with_reducible refine Moved.drew1 ?_ | with_reducible refine Moved.alloc ?_ _ | with_reducible refine Moved.setCell ?_ _)
        exact Moved.refl _ _

end Go.Proofs.YtjbipplaacgnkaaGreatDoor

namespace Go.Proofs.YtjbipplaacgnkaaGreatDoor
open Go.RowKit Go.Maps

abbrev boxI (k n : Int) (s : ByteArray) (v : Value) : Obj := .cells #[.int .i64 k, .int .i64 n, .string s, v] 54
/-- The cells of the member that is made. -/
abbrev mcs (v5 : Value) : List Value := [.bool true, .int .i64 0, .int .i64 0, .string ⟨#[]⟩, .slice none 0 0, v5, .slice none 0 0]

/-- What the walk holds: the result's cells, the member's, its items. -/
structure MakSt (w : World) (W : World) (v5 : Value) (xs : List Itm) : Prop where
  m : Moved (w.heap.size + 1) ((w.alloc zeroR).alloc (rmemO true 0 0 ⟨#[]⟩ (.slice none 0 0) (.slice none 0 0) (.slice none 0 0))) W
  c : Cel W (w.heap.size + 1) (mcs v5)
  f : W.frozen? ⟨w.heap.size + 1, 5, none⟩ = false
  f6 : W.frozen? ⟨w.heap.size + 1, 6, none⟩ = false
  o : OwnI 54 W (w.heap.size + 2) v5 xs
theorem MakSt.res {w W : World} {v5 : Value} {xs : List Itm} (h : MakSt w W v5 xs) : ResM W w.heap.size := by
  have hb := (ResM.madeR w).next (W1 := (w.alloc zeroR).alloc (rmemO true 0 0 ⟨#[]⟩ (.slice none 0 0) (.slice none 0 0) (.slice none 0 0))) (by have := (Below.refl (w.heap.size + 1) (w.alloc zeroR)).alloc (by simp) (rmemO true 0 0 ⟨#[]⟩ (.slice none 0 0) (.slice none 0 0) (.slice none 0 0)); exact this)
  have kc : ∀ i, W.cell? ⟨w.heap.size, i, none⟩ = ((w.alloc zeroR).alloc (rmemO true 0 0 ⟨#[]⟩ (.slice none 0 0) (.slice none 0 0) (.slice none 0 0))).cell? ⟨w.heap.size, i, none⟩ := fun i => h.m.cell (by simp; omega) (by simp)
  have kf : ∀ i, W.frozen? ⟨w.heap.size, i, none⟩ = ((w.alloc zeroR).alloc (rmemO true 0 0 ⟨#[]⟩ (.slice none 0 0) (.slice none 0 0) (.slice none 0 0))).frozen? ⟨w.heap.size, i, none⟩ := fun i => h.m.frozen (by simp; omega) (by simp)
  exact ⟨(kc 0).trans hb.r0, (kc 1).trans hb.r1, (kc 2).trans hb.r2, (kc 3).trans hb.r3, (kc 4).trans hb.r4, (kc 5).trans hb.r5, (kc 6).trans hb.r6, (kf 0).trans hb.g0, (kf 1).trans hb.g1, (kf 2).trans hb.g2, (kf 3).trans hb.g3, (kf 4).trans hb.g4, (kf 5).trans hb.g5, (kf 6).trans hb.g6⟩

abbrev mw (w : World) : World := (w.alloc zeroR).alloc (rmemO true 0 0 ⟨#[]⟩ (.slice none 0 0) (.slice none 0 0) (.slice none 0 0))
theorem mw_size (w : World) : (mw w).heap.size = w.heap.size + 2 := by simp
theorem mw_low (w : World) : Below w.heap.size w (mw w) := ((Below.refl _ _).alloc (Nat.le_refl _) _).alloc (by simp) _
theorem MakSt.low {w W : World} {v5 : Value} {xs : List Itm} (h : MakSt w W v5 xs) : Below w.heap.size w W := (mw_low w).trans (h.m.below (by omega) (by simp; omega))
theorem MakSt.lt {w W : World} {v5 : Value} {xs : List Itm} (h : MakSt w W v5 xs) : w.heap.size + 1 < W.heap.size := by have := h.m.size; simp at this; omega
theorem MakSt.begin (w : World) : MakSt w (mw w) (.slice none 0 0) [] := by
  refine ⟨Moved.refl _ _, ?_, by simp, by simp, OwnI.nothing _ _ _⟩
  intro i v hi
  have hl : i < 7 := (List.getElem?_eq_some_iff.1 hi).1
  match i, hl with
  | 0, _ => obtain rfl := Option.some.inj hi; simp
  | 1, _ => obtain rfl := Option.some.inj hi; simp
  | 2, _ => obtain rfl := Option.some.inj hi; simp
  | 3, _ => obtain rfl := Option.some.inj hi; simp
  | 4, _ => obtain rfl := Option.some.inj hi; simp
  | 5, _ => obtain rfl := Option.some.inj hi; simp
  | 6, _ => obtain rfl := Option.some.inj hi; simp
theorem MakSt.next {w W W1 : World} {v5 : Value} {xs : List Itm} (h : MakSt w W v5 xs) (hb : Below W.heap.size W W1) : MakSt w W1 v5 xs := by
  have hlt := h.lt
  exact ⟨h.m.low hb, fun i v hi => (hb.cell (p := ⟨w.heap.size + 1, i, none⟩) hlt).trans (h.c i v hi), (hb.frozen (p := ⟨w.heap.size + 1, 5, none⟩) hlt).trans h.f, (hb.frozen (p := ⟨w.heap.size + 1, 6, none⟩) hlt).trans h.f6, h.o.below hb⟩
theorem MakSt.snoc {w wr w3 w5 : World} {x : Itm} {u' v5 : Value} {xs : List Itm} {us : List Value} {g cap : Nat} {o : Obj} (h : MakSt w wr v5 xs) (h1 : us.length = xs.length) (h2 : wr.ownsRow (w.heap.size + 2) 54 4 v5 xs.length (rowI (xs.zip us)))
    (h3 : ∀ (j : Nat) (u : Value) (y : Itm), us[j]? = some u → xs[j]? = some y → PrmsOff (w.heap.size + 2) v5.ownBlock wr u y.ps) (hb : Below wr.heap.size wr w3) (hu : PrmsOff wr.heap.size none w3 u' x.ps)
    (hown : w5.ownsRow (w.heap.size + 2) 54 4 (.slice (some ⟨g, 0, none⟩) (xs.length + 1) cap) (xs.length + 1) (rowI (xs.zip us) ++ cellsI x u')) (hg : (w3.alloc o).grownBy w5 v5.ownBlock) (hat : v5.ownBlock = some g ∨ g = (w3.alloc o).heap.size) :
    MakSt w (w5.setCell ⟨w.heap.size + 1, 5, none⟩ (.slice (some ⟨g, 0, none⟩) (xs.length + 1) cap)) (.slice (some ⟨g, 0, none⟩) (xs.length + 1) cap) (xs ++ [x]) := by
  have e := mw_size w
  have hlt := h.lt
  have f6 := kept_frozen3 h2 hb hg (c := w.heap.size + 1) (i := 6) (by omega) hlt h.f6
  rw [← e] at h2 h3 hown
  obtain ⟨n0, n1, n2, n3⟩ := own_round (wx := mw w) (ob := w.heap.size + 1) rfl h.m (by simp) h.c (by simp) h.f h1 h2 h3 hb hu hown hg hat
  rw [e] at n3
  exact ⟨n0, n1, n2, by rw [World.frozen?_setCell]; exact f6, n3⟩

set_option maxRecDepth 100000 in
set_option maxHeartbeats 8000000 in
theorem rmem_in (s : ByteArray) (w : World) (hs : s.size ≤ 100000) (h40 : s.data.toList.head? = some 40) :
    Calls Tryz.prog 78 #[.string s] w (rmemPost (memL s.data.toList) s.size w) := by
  obtain ⟨i0, hi, hz0, hz1, hz2⟩ := info_parts info_ritem
  have hsz := Lib.size_eq s
  have hL : memL s.data.toList = innL (s.data.toList.drop 1) := by rw [memL, if_pos h40]
  have hp : 0 < s.size := by
    cases hl : s.data.toList with
    | nil => rw [hl] at h40; cases h40
    | cons c r => rw [hl, List.length_cons] at hsz; omega
  have e1 : s.toList.isEmpty = false := by
    rw [Lib.toList_data]
    cases hl : s.data.toList with
    | nil => rw [hl] at h40; cases h40
    | cons c r => rfl
  have e2 : ¬ s.toList = [] := by intro e; rw [e] at e1; cases e1
  have e3 : (s.toList == []) = false := by simpa using e2
  have e4 : (((s[0]'hp).toNat : Int) == 40) = true := by
    have hh := head_is s 0 hp 40
    rw [List.drop_zero] at hh
    simpa using hh.1 h40
  have HE4 : Hid (((s[0]'hp).toNat : Int) = 40) := Lib.hid (by simpa using e4)
  have HM0 := Lib.hid (MakSt.begin w)
  have hI : innL (s.data.toList.drop 1) = (match itsL (s.data.toList.drop 1) with
    | none => none
    | some (xs, r) => match psL r [] 0 with
      | none => none
      | some (ps, m) => some (⟨true, noItm, xs, ps⟩, r.drop m)) := rfl
  have HS : Hid (itsL (s.data.toList.drop 1) = itsF ((s.data.toList.drop 1).length + 1) (spD (s.data.toList.drop 1)) []) := Lib.hid rfl
  have HLN : Hid (itsL (s.data.toList.drop 1) = none → memL s.data.toList = none) := Lib.hid (fun h => by rw [hL, hI, h])
  have HLS : Hid (∀ xs r, itsL (s.data.toList.drop 1) = some (xs, r) → memL s.data.toList = (match psL r [] 0 with
      | none => none
      | some (ps, m) => some (⟨true, noItm, xs, ps⟩, r.drop m))) := Lib.hid (fun xs r h => by rw [hL, hI, h])
  have hfl : s.size - 1 < (s.data.toList.drop 1).length + 1 := by rw [List.length_drop]; omega
  clear h40 hL hI hsz
  go_enter Tryz.func78, Tryz.ntmps78
  go_wp2_with fail
  go_loopw [9] (fun a wr => ∃ (K f : Nat) (xs : List Itm) (v5 : Value), a = .int .i64 K ∧ K ≤ s.size ∧ s.size - K < f ∧ xs.length ≤ K ∧ Hid (itsL (s.data.toList.drop 1) = itsF f (spD (s.data.toList.drop K)) xs) ∧ MakSt w wr v5 xs) (fun a _ => s.size - (intOf a).toNat)
  case atStart => exact ⟨1, _, [], .slice none 0 0, rfl, hp, hfl, Nat.zero_le _, Lib.hid HS.out, HM0.out⟩
  case round =>
    obtain ⟨K, f, xs, v5, rfl, hK, hf, hxl, H, hM⟩ := hrel
    have HM := Lib.hid hM
    clear HM0 hM hfl HS
    obtain ⟨f, rfl⟩ : ∃ f', f = f' + 1 := ⟨f - 1, by omega⟩
    obtain ⟨ns, hns⟩ : ∃ ns, spcL (s.data.toList.drop K) = ns := ⟨_, rfl⟩
    have hspc := spc_at (s.data.toList.drop K)
    have hnl := spc_le (s.data.toList.drop K)
    rw [List.length_drop, ← Lib.size_eq] at hnl
    rw [hns] at hspc hnl
    simp only [List.drop_drop] at hspc
    have Hspc := Lib.hid hspc
    have HSD : Hid (spD (s.data.toList.drop K) = s.data.toList.drop (K + ns)) := Lib.hid (by rw [spD_drop, hns, List.drop_drop])
    clear hspc hns
    rename World => W1
    go_wp2_with fail
    go_loopw [9] (fun a wr => ∃ j : Nat, j ≤ ns ∧ a = .int .i64 ((K + j : Nat) : Int) ∧ wr = W1) (fun a _ => s.size - (intOf a).toNat)
    case atStart => exact ⟨0, Nat.zero_le _, by go_num, rfl⟩
    case round =>
      obtain ⟨j, hj, rfl, rfl⟩ := hrel
      have hjs : K + j ≤ s.size := by omega
      have hjn := Hspc.out j hj
      obtain ⟨J, hJ⟩ : ∃ J, K + j = J := ⟨_, rfl⟩
      rw [hJ] at hjs hjn
      rw [hJ]
      by_cases hlt2 : J < s.size
      · have hh := head_is s J hlt2 32
        cases hc : (((s[J]'hlt2).toNat : Int) == 32)
        · have hjn2 : j = ns := by
            by_cases h : j < ns
            · rw [hh.1 (hjn.2 h)] at hc
              exact absurd hc (by decide)
            · omega
          have HD : Hid (spD (s.data.toList.drop K) = s.data.toList.drop J) := Lib.hid (by rw [HSD.out, ← hjn2, hJ])
          have hKJ : K ≤ J := by omega
          clear hh hjn Hspc hjn2 HSD hJ hj
          have hh41 := head_is s J hlt2 41
          cases h41 : (((s[J]'hlt2).toNat : Int) == 41)
          · have h41' : (s.data.toList.drop J).head? ≠ some 41 := by
              intro e
              rw [hh41.1 e] at h41
              exact absurd h41 (by decide)
            have hxd : (s.extract J s.size).data.toList = s.data.toList.drop J := Lib.extract_to_end s J
            have cR := fun W => rread_any (s.extract J s.size) W (by rw [Lib.size_eq, hxd, List.length_drop, ← Lib.size_eq]; omega)
            rw [hxd] at cR
            clear hxd hh41
            cases hit : itmL (s.data.toList.drop J) with
            | none =>
              have HN : Hid (memL s.data.toList = none) := Lib.hid (HLN.out (by rw [H.out, HD.out, itsF_none f _ xs h41' hit]))
              rw [hit] at cR
              clear hit h41' HD H HLN HLS
              go_wp2_with fail
              refine (cR _).mono ?_
              rintro e w3 ⟨hb3, rfl⟩
              have hM3 := HM.out.next hb3
              have HB3 := Lib.hid hM3.low
              have hlt := hM3.res.lt
              obtain ⟨r0, r1, r2, r3, r4, r5, r6, g0, g1, g2, g3, g4, g5, g6⟩ := hM3.res
              clear hb3 cR hM3
              go_wp2_with fail
              refine bodyPost_ret (v := .tuple #[noMem, .int .i64 0, .int .i64 2]) (by simp [results, Tryz.results78, go_sem, r0, r1, r2, r3, r4, r5, r6, hlt]) rfl ⟨?_, by rw [HN.out]⟩
              repeat (first | with_reducible refine Below.setCell ?_ (by simp) _ | with_reducible refine Below.alloc ?_ (by simp; omega) _)
              exact HB3.out
            | some x =>
              obtain ⟨g, ps, m⟩ := x
              have hm1 := (itm_right _ _ _ _ hit).1
              have hm2 := itmL_le _ _ _ _ hit
              rw [List.length_drop, ← Lib.size_eq] at hm2
              rw [hit] at cR
              obtain ⟨K2, hK2⟩ : ∃ K2, J + m = K2 := ⟨_, rfl⟩
              have hdd : (s.data.toList.drop J).drop m = s.data.toList.drop K2 := by rw [List.drop_drop, hK2]
              have hNo : endI (s.data.toList.drop K2) = false → memL s.data.toList = none := fun he => HLN.out (by rw [H.out, HD.out, itsF_bad f _ xs g ps m h41' hit (by rw [hdd]; exact he)])
              have hYes : endI (s.data.toList.drop K2) = true → itsL (s.data.toList.drop 1) = itsF f (spD (s.data.toList.drop K2)) (xs ++ [⟨g.k, g.n, g.s, ps⟩]) := fun he => by rw [H.out, HD.out, itsF_some f _ xs g ps m h41' hit (by rw [hdd]; exact he), hdd]
              have HNo := Lib.hid hNo
              have HYes := Lib.hid hYes
              clear hit h41' HD H hdd hNo hYes
              obtain ⟨gk, gn, gs, gm⟩ := g
              dsimp only at cR HYes
              have q1 : (J : Int) + (m : Int) = (K2 : Int) := by omega
              have hK2s : K2 ≤ s.size := by omega
              go_wp2_with fail
              refine (cR _).mono ?_
              rintro e w3 ⟨hb3, v3, rfl, ho3⟩
              have HM3 := Lib.hid (HM.out.next hb3)
              have hlt := HM3.out.res.lt
              have hlt1 := HM3.out.lt
              obtain ⟨ao3, cap3, rfl⟩ := owns_form ho3
              have HU3 : Hid (PrmsOff wr.heap.size none w3 (.slice ao3 ps.length cap3) ps) := Lib.hid (PrmsOff.made ho3 (Nat.le_refl _) (fun g e => by cases e))
              have HB3 := Lib.hid hb3
              clear hb3 cR ho3
              have hret : ∀ (he : endI (s.data.toList.drop K2) = false), Hid (memL s.data.toList = none) := fun he => Lib.hid (HNo.out he)
              by_cases hlt4 : K2 < s.size
              · have hh32 := head_is s K2 hlt4 32
                have hh41 := head_is s K2 hlt4 41
                have g1 : decide (s.size ≤ K2) = false := by simp; omega
                have g2 : ¬ s.size ≤ K2 := by omega
                cases h32 : (((s[K2]'hlt4).toNat : Int) == 32)
                · have n32 : (((s[K2]'hlt4).toNat : Int) != 32) = true := by rw [bne, h32] <;> rfl
                  cases h41b : (((s[K2]'hlt4).toNat : Int) == 41)
                  · have HN := hret (by
                      have n1 : (s.data.toList.drop K2).head? ≠ some 32 := fun e => by rw [hh32.1 e] at h32; exact absurd h32 (by decide)
                      have n2 : (s.data.toList.drop K2).head? ≠ some 41 := fun e => by rw [hh41.1 e] at h41b; exact absurd h41b (by decide)
                      unfold endI
                      rw [beq_eq_false_iff_ne.2 n1, beq_eq_false_iff_ne.2 n2]
                      rfl)
                    have n41 : (((s[K2]'hlt4).toNat : Int) != 41) = true := by rw [bne, h41b] <;> rfl
                    obtain ⟨r0, r1, r2, r3, r4, r5, r6, z0, z1, z2, z3, z4, z5, z6⟩ := HM3.out.res
                    clear hret HNo HYes hh32 hh41
                    go_wp2_with fail
                    refine bodyPost_ret (v := .tuple #[noMem, .int .i64 0, .int .i64 2]) (by simp [results, Tryz.results78, go_sem, r0, r1, r2, r3, r4, r5, r6, hlt]) rfl ⟨?_, by rw [HN.out]⟩
                    repeat (first | with_reducible refine Below.setCell ?_ (by simp) _ | with_reducible refine Below.alloc ?_ (by simp; omega) _)
                    exact HM3.out.low
                  · have n41 : (((s[K2]'hlt4).toNat : Int) != 41) = false := by rw [bne, h41b] <;> rfl
                    have HE : Hid (itsL (s.data.toList.drop 1) = itsF f (spD (s.data.toList.drop K2)) (xs ++ [⟨gk, gn, gs, ps⟩])) := Lib.hid (HYes.out (by unfold endI; rw [hh41.2 (by simpa using h41b)] <;> rfl))
                    clear hret HNo HYes hh32 hh41
                    obtain ⟨us, u1, u2, u3⟩ := HM.out.o
                    obtain ⟨a5, c5, rfl⟩ := owns_form u2
                    have hf5 := HM3.out.f
                    have o5 := HM3.out.c 5 _ rfl
                    have hbA : Below w3.heap.size w3 ((w3.alloc (boxI gk gn (strB gs) (.slice ao3 ps.length cap3))).alloc (boxI gk gn (strB gs) (.slice ao3 ps.length cap3))) := ((Below.refl _ _).alloc (Nat.le_refl _) _).alloc (by simp) _
                    have hOW := ownsRow_later (ownsRow_later u2 HB3.out) hbA
                    have hnew := cells_new (w3.alloc (boxI gk gn (strB gs) (.slice ao3 ps.length cap3))) (cellsI ⟨gk, gn, gs, ps⟩ (.slice ao3 ps.length cap3)) 54
                    rw [show (w3.alloc (boxI gk gn (strB gs) (.slice ao3 ps.length cap3))).heap.size = w3.heap.size + 1 by simp] at hnew
                    have HNew := Lib.hid hnew
                    clear hnew hbA
                    have hbox : Below wr.heap.size wr (w3.alloc (boxI gk gn (strB gs) (.slice ao3 ps.length cap3))) := HB3.out.trans (((Below.refl w3.heap.size w3).alloc (Nat.le_refl _) _).mono HB3.out.size)
                    have HUB := Lib.hid (HU3.out.below ((Below.refl w3.heap.size w3).alloc (Nat.le_refl _) (boxI gk gn (strB gs) (.slice ao3 ps.length cap3))))
                    have HBox := Lib.hid hbox
                    have hK0 : (w3.heap.size : Nat) ≠ w.heap.size + 1 := by omega
                    clear hbox
                    go_wp2_with (at_builtin; refine wpList_append_lies _ rfl _ _ 55 rfl (w.heap.size + 2) 54 i0 (.agg #[.int .i64 0, .int .i64 0, .string ⟨#[]⟩, .slice none 0 0]) 4 56 Tryz.underlying55 hi hz0 hz1 hz2 rfl (by decide) _ xs.length (rowI (xs.zip us)) rfl hOW ⟨_, 0, none⟩ 1 1 (cellsI ⟨gk, gn, gs, ps⟩ (.slice ao3 ps.length cap3)) rfl rfl HNew.out (by simp [Value.oneCell', cellsI]) (by decide) (by unfold maxLen; omega) (by omega) (by simp; omega) _ rfl ?_; intro g5 cap5 w5 hown5 hgrow5 hat5 hlt5; have k5 := kept_cell3 u2 HBox.out hgrow5 (c := w.heap.size + 1) (by omega) (HM.out.c 5 _ rfl); have kf5 := kept_frozen3 u2 HBox.out hgrow5 (c := w.heap.size + 1) (by omega) HM.out.lt HM.out.f)
                    go_roundw
                    case rel =>
                      have hN := HM.out.snoc u1 u2 u3 HBox.out HUB.out hown5 hgrow5 hat5
                      rw [HE4.out]
                      repeat apply Exists.intro
                      exact ⟨⟨K2, f, xs ++ [⟨gk, gn, gs, ps⟩], _, by go_num, hK2s, by omega, by simp; omega, Lib.hid HE.out, hN⟩, rfl⟩
                    case measure => simp [intOf]; omega
                · have n32 : (((s[K2]'hlt4).toNat : Int) != 32) = false := by rw [bne, h32] <;> rfl
                  have HE : Hid (itsL (s.data.toList.drop 1) = itsF f (spD (s.data.toList.drop K2)) (xs ++ [⟨gk, gn, gs, ps⟩])) := Lib.hid (HYes.out (by unfold endI; rw [hh32.2 (by simpa using h32)] <;> rfl))
                  clear hret HNo HYes hh32 hh41
                  obtain ⟨us, u1, u2, u3⟩ := HM.out.o
                  obtain ⟨a5, c5, rfl⟩ := owns_form u2
                  have hf5 := HM3.out.f
                  have o5 := HM3.out.c 5 _ rfl
                  have hbA : Below w3.heap.size w3 ((w3.alloc (boxI gk gn (strB gs) (.slice ao3 ps.length cap3))).alloc (boxI gk gn (strB gs) (.slice ao3 ps.length cap3))) := ((Below.refl _ _).alloc (Nat.le_refl _) _).alloc (by simp) _
                  have hOW := ownsRow_later (ownsRow_later u2 HB3.out) hbA
                  have hnew := cells_new (w3.alloc (boxI gk gn (strB gs) (.slice ao3 ps.length cap3))) (cellsI ⟨gk, gn, gs, ps⟩ (.slice ao3 ps.length cap3)) 54
                  rw [show (w3.alloc (boxI gk gn (strB gs) (.slice ao3 ps.length cap3))).heap.size = w3.heap.size + 1 by simp] at hnew
                  have HNew := Lib.hid hnew
                  clear hnew hbA
                  have hbox : Below wr.heap.size wr (w3.alloc (boxI gk gn (strB gs) (.slice ao3 ps.length cap3))) := HB3.out.trans (((Below.refl w3.heap.size w3).alloc (Nat.le_refl _) _).mono HB3.out.size)
                  have HUB := Lib.hid (HU3.out.below ((Below.refl w3.heap.size w3).alloc (Nat.le_refl _) (boxI gk gn (strB gs) (.slice ao3 ps.length cap3))))
                  have HBox := Lib.hid hbox
                  have hK0 : (w3.heap.size : Nat) ≠ w.heap.size + 1 := by omega
                  clear hbox
                  go_wp2_with (at_builtin; refine wpList_append_lies _ rfl _ _ 55 rfl (w.heap.size + 2) 54 i0 (.agg #[.int .i64 0, .int .i64 0, .string ⟨#[]⟩, .slice none 0 0]) 4 56 Tryz.underlying55 hi hz0 hz1 hz2 rfl (by decide) _ xs.length (rowI (xs.zip us)) rfl hOW ⟨_, 0, none⟩ 1 1 (cellsI ⟨gk, gn, gs, ps⟩ (.slice ao3 ps.length cap3)) rfl rfl HNew.out (by simp [Value.oneCell', cellsI]) (by decide) (by unfold maxLen; omega) (by omega) (by simp; omega) _ rfl ?_; intro g5 cap5 w5 hown5 hgrow5 hat5 hlt5; have k5 := kept_cell3 u2 HBox.out hgrow5 (c := w.heap.size + 1) (by omega) (HM.out.c 5 _ rfl); have kf5 := kept_frozen3 u2 HBox.out hgrow5 (c := w.heap.size + 1) (by omega) HM.out.lt HM.out.f)
                  go_roundw
                  case rel =>
                    have hN := HM.out.snoc u1 u2 u3 HBox.out HUB.out hown5 hgrow5 hat5
                    rw [HE4.out]
                    repeat apply Exists.intro
                    exact ⟨⟨K2, f, xs ++ [⟨gk, gn, gs, ps⟩], _, by go_num, hK2s, by omega, by simp; omega, Lib.hid HE.out, hN⟩, rfl⟩
                  case measure => simp [intOf]; omega
              · obtain rfl : K2 = s.size := by omega
                have HN := hret (by rw [List.drop_of_length_le (by rw [← Lib.size_eq]; omega)]; rfl)
                obtain ⟨r0, r1, r2, r3, r4, r5, r6, g0, g1, g2, g3, g4, g5, g6⟩ := HM3.out.res
                clear hret HNo HYes
                go_wp2_with fail
                refine bodyPost_ret (v := .tuple #[noMem, .int .i64 0, .int .i64 2]) (by simp [results, Tryz.results78, go_sem, r0, r1, r2, r3, r4, r5, r6, hlt]) rfl ⟨?_, by rw [HN.out]⟩
                repeat (first | with_reducible refine Below.setCell ?_ (by simp) _ | with_reducible refine Below.alloc ?_ (by simp; omega) _)
                exact HM3.out.low
          · have HE : Hid (itsL (s.data.toList.drop 1) = some (xs, s.data.toList.drop (J + 1))) := Lib.hid (by rw [H.out, HD.out, itsF_end f _ xs (hh41.2 (by simpa using h41)), List.drop_drop])
            have hxd : (s.extract (J + 1) s.size).data.toList = s.data.toList.drop (J + 1) := Lib.extract_to_end s (J + 1)
            have cP := fun W => rparams_any (s.extract (J + 1) s.size) W (by rw [Lib.size_eq, hxd, List.length_drop, ← Lib.size_eq]; omega)
            rw [hxd] at cP
            have HV := Lib.hid (HLS.out _ _ HE.out)
            have j1 : (J : Int) + 1 ≤ (s.size : Int) := by omega
            clear hxd hh41 HD H HE HLN HLS
            cases hps : psL (s.data.toList.drop (J + 1)) [] 0 with
            | none =>
              rw [hps] at cP HV
              clear hps
              go_wp2_with fail
              refine (cP _).mono ?_
              rintro e w3 ⟨hb3, rfl⟩
              have hM3 := HM.out.next hb3
              have HB3 := Lib.hid hM3.low
              have hlt := hM3.res.lt
              obtain ⟨r0, r1, r2, r3, r4, r5, r6, g0, g1, g2, g3, g4, g5, g6⟩ := hM3.res
              clear hb3 cP hM3
              go_wp2_with fail
              refine bodyPost_ret (v := .tuple #[noMem, .int .i64 0, .int .i64 2]) (by simp [results, Tryz.results78, go_sem, r0, r1, r2, r3, r4, r5, r6]) rfl ⟨?_, by rw [HV.out]⟩
              repeat (first | with_reducible refine Below.setCell ?_ (by simp) _ | with_reducible refine Below.alloc ?_ (by simp; omega) _)
              exact HB3.out
            | some y =>
              obtain ⟨ps, n⟩ := y
              have hn := psL_le _ _ _ _ _ _ (Nat.le_refl _) hps
              rw [List.length_drop, ← Lib.size_eq, Nat.zero_add] at hn
              rw [hps] at cP HV
              dsimp only at HV
              have HNz : Hid (s.size - ((s.data.toList.drop (J + 1)).drop n).length = J + 1 + n) := Lib.hid (by rw [List.length_drop, List.length_drop, ← Lib.size_eq]; omega)
              clear hps
              go_wp2_with fail
              refine (cP _).mono ?_
              rintro e w3 ⟨hb3, v3, rfl, ho3⟩
              have hM3 := HM.out.next hb3
              have HM3 := Lib.hid hM3
              have hlt := hM3.res.lt
              have hlt1 := hM3.lt
              obtain ⟨r0, r1, r2, r3, r4, r5, r6, g0, g1, g2, g3, g4, g5, g6⟩ := hM3.res
              have hf6 := hM3.f6
              have o0 := hM3.c 0 _ rfl
              have o1 := hM3.c 1 _ rfl
              have o2 := hM3.c 2 _ rfl
              have o3 := hM3.c 3 _ rfl
              have o4 := hM3.c 4 _ rfl
              have o5 := hM3.c 5 _ rfl
              have o6 := hM3.c 6 _ rfl
              obtain ⟨ao3, cap3, rfl⟩ := owns_form ho3
              have HU3 : Hid (PrmsOff (w.heap.size + 2) none w3 (.slice ao3 ps.length cap3) ps) := Lib.hid (PrmsOff.made ho3 (by have := HM.out.lt; omega) (fun g e => by cases e))
              have HIx := Lib.hid (hM3.o.off (blk := none) (fun g e => by cases e))
              obtain ⟨us, _, hu2, _⟩ := hM3.o
              obtain ⟨a5, c5, rfl⟩ := owns_form hu2
              clear hb3 cP hM3 ho3 hu2
              go_wp2_with fail
              refine bodyPost_ret (v := .tuple #[aggM true 0 0 ⟨#[]⟩ (.slice none 0 0) (.slice a5 xs.length c5) (.slice ao3 ps.length cap3), .int .i64 ((J + 1 + n : Nat) : Int), .int .i64 0]) (by simp [results, Tryz.results78, go_sem, r0, r1, r2, r3, r4, r5, r6]) rfl ?_
              rw [HV.out]
              have hm1 : Moved (w.heap.size + 1) w3 (w3.setCell ⟨w.heap.size + 1, 6, none⟩ (.slice ao3 ps.length cap3)) := (Moved.refl _ _).setCell _
              refine ⟨?_, _, by rw [HNz.out] <;> rfl, .slice none 0 0, .slice a5 xs.length c5, .slice ao3 ps.length cap3, rfl, ⟨none, 0, rfl, .inl rfl⟩, ?_, ?_⟩
              · repeat (first | with_reducible refine Below.setCell ?_ (by simp) _ | with_reducible refine Below.alloc ?_ (by simp; omega) _)
                exact HM3.out.low
              · refine ((HIx.out.moved hm1 (by omega)).moved (c := w.heap.size) ?_ (by omega)).low (by omega)
                repeat (first | with_reducible refine Moved.drew1 ?_ | with_reducible refine Moved.setCell ?_ _)
                exact Moved.refl _ _
              · refine ((HU3.out.moved hm1 (by omega)).moved (c := w.heap.size) ?_ (by omega)).low (by omega)
                repeat (first | with_reducible refine Moved.drew1 ?_ | with_reducible refine Moved.setCell ?_ _)
                exact Moved.refl _ _
        · have hjn2 : j < ns := by
            apply hjn.1
            exact hh.2 (by simpa using hc)
          clear hh hjn
          go_wp2_with fail
          go_roundw
          case rel => exact ⟨j + 1, hjn2, by rw [← hJ]; go_num, by first | rfl | trivial⟩
          case measure => simp [intOf]; omega
      · obtain rfl : J = s.size := by omega
        have hjn2 : j = ns := by omega
        have HN : Hid (memL s.data.toList = none) := Lib.hid (HLN.out (by
          rw [H.out, HSD.out, ← hjn2, hJ, List.drop_of_length_le (by rw [← Lib.size_eq]; omega)]
          exact itsF_none f [] xs (by simp) rfl))
        have hlt := HM.out.res.lt
        obtain ⟨r0, r1, r2, r3, r4, r5, r6, g0, g1, g2, g3, g4, g5, g6⟩ := HM.out.res
        clear hjn2 hjn Hspc HSD hJ H HLN HLS
        go_wp2_with fail
        refine bodyPost_ret (v := .tuple #[noMem, .int .i64 0, .int .i64 2]) (by simp [results, Tryz.results78, go_sem, r0, r1, r2, r3, r4, r5, r6]) rfl ⟨?_, by rw [HN.out]⟩
        repeat (first | with_reducible refine Below.setCell ?_ (by simp) _ | with_reducible refine Below.alloc ?_ (by simp; omega) _)
        exact HM.out.low

theorem rmember_any (s : ByteArray) (w : World) (hs : s.size ≤ 100000) :
    Calls Tryz.prog 78 #[.string s] w (rmemPost (memL s.data.toList) s.size w) := by
  by_cases h40 : s.data.toList.head? = some 40
  · exact rmem_in s w hs h40
  · exact rmem_out s w hs h40

end Go.Proofs.YtjbipplaacgnkaaGreatDoor
