/- The contract of the document's Size (sculleryref03). · Sizes: how long the printed text of a small item is, and that of one which was parsed (plain). · The contract of members.readItems: the items of an inner list, and what is behind its bracket. · The contracts of members.readInner and members.readMember. · The contract of members.readMember. -/
import Derived.Test.YtjbipplaacgnkaaGreatDoorGG
import Derived.Test.YtjbipplaacgnkaaGreatDoorGH
import Derived.Test.YtjbipplaacgnkaaGreatDoorGF
import Derived.Deep.AppendLies

namespace Go.Proofs.YtjbipplaacgnkaaGreatDoor
open Go.RowKit

/-- What a round adds, in 64 bits. -/
def szStep (n : Int) (p : Prm) : Int := wrap64 (wrap64 (wrap64 (n + (p.key.length : Int)) + (p.s.length : Int)) + 1)
def szGo (n : Int) : List Prm → Int
  | [] => n
  | p :: ps => if n < 100000 then szGo (szStep n p) ps else n

set_option maxRecDepth 100000 in
set_option maxHeartbeats 2000000 in
theorem size_any (v : Value) (ps : List Prm) (w : World) (h : Prms w v ps) (hl : ps.length ≤ maxLen) :
    Calls Tryz.prog 55 #[v] w fun e w' => e = .returned (.int .i64 (szGo 0 ps)) ∧ Below w.heap.size w w' := by
  unfold maxLen at hl
  obtain ⟨ao, cap, rfl, hc⟩ := h
  have HC := Lib.hid hc
  clear hc
  go_enter Tryz.func55, Tryz.ntmps55
  go_wp2_with fail
  go_loopw [3, 4] (fun n i wr => ∃ (j : Nat) (N : Int), n = .int .i64 N ∧ i = .int .i64 j ∧ j ≤ ps.length ∧ Hid (szGo 0 ps = szGo N (ps.drop j)) ∧ Below w.heap.size w wr) (fun _ i _ => ps.length - (intOf i).toNat)
  case atStart => exact ⟨0, 0, rfl, rfl, Nat.zero_le _, Lib.hid rfl, Below.refl _ _⟩
  case round =>
    obtain ⟨j, N, rfl, rfl, hj, H, hb⟩ := hrel
    have HB := Lib.hid hb
    by_cases hlt : j < ps.length
    · rcases HC.out with hnil | ⟨c, off, rfl, hcell⟩
      · exfalso
        rw [hnil] at hlt
        simp at hlt
      · obtain ⟨p, hp⟩ : ∃ p, ps[j]? = some p := ⟨_, List.getElem?_eq_getElem hlt⟩
        obtain ⟨x0, x1, x2, x3⟩ := rowP_at ps j p hp
        have hcl : c < w.heap.size := lt_of_cell (hcell _ _ x0)
        have a0 := (hb.cell (p := ⟨c, off + j * 4, none⟩) hcl).trans (hcell _ _ x0)
        have a3 := (hb.cell (p := ⟨c, off + (j * 4 + 3), none⟩) hcl).trans (hcell _ _ x3)
        simp only [← Nat.add_assoc] at a3
        have jI : (j : Int) < (ps.length : Int) := by omega
        have j0 : (0 : Int) ≤ (j : Int) := by omega
        have hd : ps.drop j = p :: ps.drop (j + 1) := by
          obtain ⟨h1, h2⟩ := List.getElem?_eq_some_iff.1 hp
          rw [← h2]
          exact List.drop_eq_getElem_cons h1
        rw [hd] at H
        have HD : Hid (szStep N p = wrap64 (wrap64 (wrap64 (N + ((strB p.key).size : Int)) + ((strB p.s).size : Int)) + 1)) := Lib.hid (by rw [strB_size, strB_size, szStep])
        clear hcell x0 x1 x2 x3 hb hd hp
        cases hN : decide (N < 100000)
        · have HE : Hid (szGo 0 ps = N) := Lib.hid (by rw [H.out, szGo, if_neg (by simpa using hN)])
          clear H HD
          go_wp2_with fail
          go_ret
          exact ⟨by rw [HE.out]; rfl, HB.out⟩
        · have HE : Hid (szGo 0 ps = szGo (szStep N p) (ps.drop (j + 1))) := Lib.hid (by rw [H.out, szGo, if_pos (by simpa using hN)])
          clear H
          generalize strB p.key = K at *
          generalize strB p.s = S at *
          go_wp2_with fail
          go_quiet (fail)
          go_wp2_with fail
          go_roundw
          case rel => exact ⟨j + 1, szStep N p, by rw [HD.out], by go_num, by omega, Lib.hid HE.out, HB.out.trans ((below_drewN _ _).mono HB.out.size)⟩
          case measure => simp [intOf]; omega
    · obtain rfl : j = ps.length := by omega
      have HE : Hid (szGo 0 ps = N) := Lib.hid (by rw [H.out, List.drop_length, szGo])
      clear H hb
      go_wp2_with fail
      go_ret
      exact ⟨by rw [HE.out]; rfl, HB.out⟩

theorem szStep_small (n : Int) (p : Prm) (h0 : 0 ≤ n) (h1 : n < 100000) (h2 : p.key.length + p.s.length ≤ 4611686018427387904) : szStep n p = n + p.key.length + p.s.length + 1 := by
  unfold szStep
  unfold wrap64
  omega

/-- What Size tells, of lengths whose sum does not leave 64 bits. -/
theorem szGo_ok : ∀ (ps : List Prm) (n : Int), 0 ≤ n → (∀ p ∈ ps, p.key.length + p.s.length ≤ 4611686018427387904) → szGo n ps ≤ 500 → n + ps.length ≤ 500 ∧ ∀ p ∈ ps, p.key.length + p.s.length ≤ 500
  | [], n, _, _, h => ⟨by simpa [szGo] using h, fun p hp => by cases hp⟩
  | p :: ps, n, h0, hs, h => by
    by_cases h1 : n < 100000
    · rw [szGo, if_pos h1, szStep_small n p h0 h1 (hs p (List.mem_cons_self ..))] at h
      obtain ⟨r1, r2⟩ := szGo_ok ps _ (by omega) (fun q hq => hs q (List.mem_cons_of_mem _ hq)) h
      refine ⟨by rw [List.length_cons]; omega, ?_⟩
      intro q hq
      rcases List.mem_cons.1 hq with rfl | hq
      · omega
      · exact r2 q hq
    · rw [szGo, if_neg h1] at h
      omega

end Go.Proofs.YtjbipplaacgnkaaGreatDoor

namespace Go.Proofs.YtjbipplaacgnkaaGreatDoor
open Go.RowKit

/-- How much there is of parameters. -/
def szN : List Prm → Nat
  | [] => 0
  | p :: ps => p.key.length + p.s.length + 1 + szN ps

theorem szN_append : ∀ (ps qs : List Prm), szN (ps ++ qs) = szN ps + szN qs
  | [], _ => by simp [szN]
  | p :: ps, qs => by rw [List.cons_append, szN, szN, szN_append ps qs]; omega

theorem szN_set : ∀ (ps : List Prm) (i : Nat) (p : Prm), szN (ps.set i p) ≤ szN ps + (p.key.length + p.s.length + 1)
  | [], _, _ => by simp [szN]
  | q :: ps, 0, p => by simp only [List.set_cons_zero, szN]; omega
  | q :: ps, i + 1, p => by
    have := szN_set ps i p
    simp only [List.set_cons_succ, szN]; omega

theorem szN_put (acc : List Prm) (p : Prm) : szN (putL acc p) ≤ szN acc + (p.key.length + p.s.length + 1) := by
  unfold putL
  split
  · exact szN_set _ _ _
  · rw [szN_append]; simp [szN]

theorem szN_mem : ∀ (ps : List Prm) (p : Prm), p ∈ ps → p.key.length + p.s.length + 1 ≤ szN ps
  | q :: ps, p, h => by
    rcases List.mem_cons.1 h with rfl | h
    · rw [szN]; omega
    · have := szN_mem ps p h
      rw [szN]; omega

theorem szN_len : ∀ ps : List Prm, ps.length ≤ szN ps
  | [] => Nat.le_refl _
  | p :: ps => by
    have := szN_len ps
    rw [szN, List.length_cons]; omega

theorem szGo_szN : ∀ (ps : List Prm) (n : Int), 0 ≤ n → (∀ p ∈ ps, p.key.length + p.s.length ≤ 4611686018427387904) → szGo n ps ≤ 500 → n + szN ps ≤ 500
  | [], n, _, _, h => by simpa [szGo, szN] using h
  | p :: ps, n, h0, hs, h => by
    by_cases h1 : n < 100000
    · rw [szGo, if_pos h1, szStep_small n p h0 h1 (hs p (List.mem_cons_self ..))] at h
      have r1 := szGo_szN ps _ (by omega) (fun q hq => hs q (List.mem_cons_of_mem _ hq)) h
      rw [szN]
      omega
    · rw [szGo, if_neg h1] at h
      omega

theorem ppGo_szN : ∀ (ps : List Prm) (u : List UInt8), ppGo ps = some u → u.length ≤ 22 * szN ps
  | [], u, h => by
    obtain rfl := Option.some.inj h
    simp
  | p :: ps, u, h => by
    cases hp : pmT p with
    | none => rw [ppGo_none p ps hp] at h; cases h
    | some x =>
      have hx := pmT_len p x hp
      rw [ppGo_some p ps x hp] at h
      cases hq : ppGo ps with
      | none => rw [hq] at h; cases h
      | some y =>
        have := ppGo_szN ps y hq
        rw [hq] at h
        obtain rfl := Option.some.inj h
        simp only [List.length_append, szN]
        omega

theorem prT_len (k n : Int) (s u : List UInt8) (ps : List Prm) (h : prT k n s ps = some u) : u.length ≤ 2 * s.length + 20 + 22 * szN ps := by
  obtain ⟨hr, _, v, hv, rfl⟩ := prT_some k n s u ps h
  have h1 := textL_len k n s hr
  have h2 := ppGo_szN ps v hv
  rw [List.length_append]; omega

/-- What a parameter that is handed over may be. -/
def InP (ps : List Prm) : Prop := ps.length * 48 ≤ 140737488355328 ∧ ∀ p ∈ ps, p.key.length ≤ 140737488355328 ∧ p.s.length ≤ 140737488355328 ∧ -9223372036854775808 ≤ p.n ∧ p.n ≤ 9223372036854775807

theorem rsL_used : ∀ (l acc : List UInt8) (m : Nat) (g : Got), rsL l acc m = some g → g.s.length + m ≤ acc.length + g.m
  | [], _, _, _, h => by rw [rsL.eq_def] at h; cases h
  | [c], acc, m, g, h => by
    by_cases h1 : c = 34
    · subst h1
      rw [rsL_quote] at h
      obtain rfl := Option.some.inj h
      show acc.length + m ≤ acc.length + (m + 1)
      omega
    · by_cases h2 : c = 92
      · subst h2
        rw [rsL_esc_end] at h; cases h
      · rw [rsL_other _ _ _ _ h1 h2] at h
        split at h
        · rw [rsL.eq_def] at h; cases h
        · cases h
  | c :: d :: q, acc, m, g, h => by
    by_cases h1 : c = 34
    · subst h1
      rw [rsL_quote] at h
      obtain rfl := Option.some.inj h
      show acc.length + m ≤ acc.length + (m + 1)
      omega
    · by_cases h2 : c = 92
      · subst h2
        rw [rsL_esc] at h
        split at h
        · have r := rsL_used q (acc ++ [d]) (m + 2) g h
          simp only [List.length_append, List.length_cons, List.length_nil] at r
          omega
        · cases h
      · rw [rsL_other _ _ _ _ h1 h2] at h
        split at h
        · have r := rsL_used (d :: q) (acc ++ [c]) (m + 1) g h
          simp only [List.length_append, List.length_cons, List.length_nil] at r
          omega
        · cases h

/-- What is read takes at least as much of the text as it holds. -/
theorem readL_used (l : List UInt8) (g : Got) (h : readL l = some g) : g.s.length ≤ g.m := by
  cases l with
  | nil => cases h
  | cons c r =>
    unfold readL at h
    dsimp only at h
    split at h
    · obtain ⟨_, _, _, h4⟩ := readNumL_right _ g h
      rw [h4]; simp
    · split at h
      · rw [readStrL, List.drop_one, List.tail_cons] at h
        have r := rsL_used r [] 1 g h
        simp only [List.length_nil] at r
        omega
      · split at h
        · obtain rfl := Option.some.inj h
          show ((c :: r).take (tlen (c :: r))).length ≤ tlen (c :: r)
          rw [List.length_take]; omega
        · split at h
          · unfold readBytesL at h
            rw [List.drop_one, List.tail_cons] at h
            split at h
            · cases h
            · rename_i hi
              obtain ⟨i0, i1⟩ := index_le _ _ hi
              split at h
              · cases h
              · rename_i b hb
                obtain rfl := Option.some.inj h
                have e := congrArg List.length (decL_some _ _ hb)
                rw [encL_len, List.length_take] at e
                show b.length ≤ _ + 2
                omega
          · split at h
            · unfold readBoolL at h
              split at h
              · split at h
                · obtain rfl := Option.some.inj h
                  exact Nat.zero_le _
                · cases h
              · cases h
            · cases h

theorem parL_used (l : List UInt8) (p : Prm) (n : Nat) (h : parL l = some (p, n)) : p.key.length + p.s.length ≤ n := by
  unfold parL at h
  split at h
  · cases h
  · split at h
    · split at h
      · cases h
      · rename_i g hg
        have hr := readL_used _ g hg
        obtain ⟨rfl, rfl⟩ := Prod.mk.inj (Option.some.inj h)
        show (List.take _ _).length + g.s.length ≤ _
        rw [List.length_take]
        omega
    · obtain ⟨rfl, rfl⟩ := Prod.mk.inj (Option.some.inj h)
      show (List.take _ _).length + ([] : List UInt8).length ≤ _
      rw [List.length_take, List.length_nil]
      omega

theorem psL_used (n : Nat) : ∀ (l : List UInt8) (acc : List Prm) (m : Nat) (ps : List Prm) (k : Nat), l.length ≤ n → psL l acc m = some (ps, k) → szN ps + m ≤ szN acc + k := by
  induction n with
  | zero =>
    intro l acc m ps k hl h
    rw [psL_end l acc m (by rw [List.length_eq_zero_iff.1 (Nat.le_zero.1 hl)]; simp)] at h
    obtain ⟨rfl, rfl⟩ := Prod.mk.inj (Option.some.inj h)
    exact Nat.le_refl _
  | succ n ih =>
    intro l acc m ps k hl h
    by_cases hh : l.head? = some 59
    · cases hp : parL (l.drop 1) with
      | none => rw [psL_none l acc m hh hp] at h; cases h
      | some x =>
        obtain ⟨p, j⟩ := x
        rw [psL_some l acc m p j hh hp] at h
        have hu := parL_used _ _ _ hp
        have h2 := ih _ _ _ _ _ (by rw [List.length_drop]; omega) h
        have h3 := szN_put acc p
        omega
    · rw [psL_end l acc m hh] at h
      obtain ⟨rfl, rfl⟩ := Prod.mk.inj (Option.some.inj h)
      exact Nat.le_refl _

theorem itmL_used (l : List UInt8) (g : Got) (ps : List Prm) (m : Nat) (h : itmL l = some (g, ps, m)) : szN ps + g.s.length ≤ m := by
  unfold itmL at h
  split at h
  · cases h
  · rename_i g3 hg
    split at h
    · cases h
    · rename_i ps3 m3 hps
      obtain ⟨rfl, h2⟩ := Prod.mk.inj (Option.some.inj h)
      obtain ⟨rfl, rfl⟩ := Prod.mk.inj h2
      have h3 := readL_used _ _ hg
      have h4 := psL_used _ _ _ _ _ _ (Nat.le_refl _) hps
      have h5 : szN [] = 0 := rfl
      omega

theorem parseL_used (l : List UInt8) (g : Got) (ps : List Prm) (h : parseL l = some (g, ps)) : szN ps + g.s.length ≤ l.length := by
  have hb := trimB_le l 32
  unfold parseL at h
  split at h
  · cases h
  · rename_i g2 ps2 m hi
    split at h
    · cases h
    · obtain ⟨rfl, rfl⟩ := Prod.mk.inj (Option.some.inj h)
      have h1 := itmL_used _ _ _ _ hi
      have h2 := itmL_le _ _ _ _ hi
      omega

end Go.Proofs.YtjbipplaacgnkaaGreatDoor

namespace Go.Proofs.YtjbipplaacgnkaaGreatDoor
open Go.RowKit Go.Maps

/-- The items up to a bracket, behind some, and what is behind it; the text without spaces ahead. By so many rounds. -/
def itsF : Nat → List UInt8 → List Itm → Option (List Itm × List UInt8)
  | 0, _, _ => none
  | f + 1, l, acc => if l.head? = some 41 then some (acc, l.drop 1) else match itmL l with
    | none => none
    | some (g, ps, m) => if endI (l.drop m) = true then itsF f (spD (l.drop m)) (acc ++ [⟨g.k, g.n, g.s, ps⟩]) else none
def itsL (l : List UInt8) : Option (List Itm × List UInt8) := itsF (l.length + 1) (spD l) []

theorem itsF_end (f : Nat) (l : List UInt8) (acc : List Itm) (h : l.head? = some 41) : itsF (f + 1) l acc = some (acc, l.drop 1) := by rw [itsF, if_pos h]
theorem itsF_none (f : Nat) (l : List UInt8) (acc : List Itm) (h : l.head? ≠ some 41) (hi : itmL l = none) : itsF (f + 1) l acc = none := by rw [itsF, if_neg h, hi]
theorem itsF_bad (f : Nat) (l : List UInt8) (acc : List Itm) (g : Got) (ps : List Prm) (m : Nat) (h : l.head? ≠ some 41) (hi : itmL l = some (g, ps, m)) (he : endI (l.drop m) = false) : itsF (f + 1) l acc = none := by
  rw [itsF, if_neg h, hi]
  simp [he]
theorem itsF_some (f : Nat) (l : List UInt8) (acc : List Itm) (g : Got) (ps : List Prm) (m : Nat) (h : l.head? ≠ some 41) (hi : itmL l = some (g, ps, m)) (he : endI (l.drop m) = true) : itsF (f + 1) l acc = itsF f (spD (l.drop m)) (acc ++ [⟨g.k, g.n, g.s, ps⟩]) := by
  rw [itsF, if_neg h, hi]
  simp [he]

theorem itmL_pos (l : List UInt8) (g : Got) (ps : List Prm) (m : Nat) (h : itmL l = some (g, ps, m)) : 1 ≤ m := by
  unfold itmL at h
  split at h
  · cases h
  · rename_i g3 hg
    split at h
    · cases h
    · obtain ⟨rfl, h2⟩ := Prod.mk.inj (Option.some.inj h)
      obtain ⟨rfl, rfl⟩ := Prod.mk.inj h2
      have := (readL_right _ _ hg).2.1
      omega

def itsPost (o : Option (List Itm × List UInt8)) (w : World) (e : Ending) (w' : World) : Prop :=
  Below w.heap.size w w' ∧ match o with
    | none => e = .returned (.tuple #[.slice none 0 0, .string ⟨#[]⟩, .int .i64 2])
    | some (xs, r) => ∃ v, e = .returned (.tuple #[v, .string (strB r), .int .i64 0]) ∧ OwnI 46 w' w.heap.size v xs

theorem info_item : (Tryz.prog.info? 46).map (fun i => (i.zero, i.size, i.bytes)) = some (some (.agg #[.int .i64 0, .int .i64 0, .string ⟨#[]⟩, .slice none 0 0]), 4, 56) := by kernel_rfl

set_option maxRecDepth 100000 in
set_option maxHeartbeats 4000000 in
theorem readItems_any (s : ByteArray) (w : World) (hs : s.size ≤ 100000) (hA : Alph w) :
    Calls Tryz.prog 74 #[.string s] w (itsPost (itsL s.data.toList) w) := by
  obtain ⟨i0, hi, hz0, hz1, hz2⟩ := info_parts info_item
  have HA := Lib.hid hA
  clear hA
  have hsp := spD_le s.data.toList
  rw [← Lib.size_eq] at hsp
  go_enter Tryz.func74, Tryz.ntmps74
  go_wp2_with fail
  refine (trimL1_any s _).mono ?_
  rintro e w1 ⟨rfl, hb1⟩
  go_wp2_with fail
  go_loopw [5, 6] (fun v r wr => ∃ (xs : List Itm) (l : List UInt8) (f : Nat), r = .string (strB l) ∧ l.length < f ∧ l.length + xs.length ≤ s.size ∧ Hid (itsL s.data.toList = itsF f l xs) ∧ OwnI 46 wr w.heap.size v xs ∧ Below w.heap.size w wr) (fun _ r _ => Lib.strSize r)
  case atStart => exact ⟨[], spD s.data.toList, s.data.toList.length + 1, rfl, by rw [← Lib.size_eq]; omega, by simpa using hsp, Lib.hid rfl, OwnI.nothing _ _ _, hb1⟩
  case round =>
    obtain ⟨xs, l, f, rfl, hf, hl, H, hown, hb⟩ := hrel
    obtain ⟨f, rfl⟩ : ∃ f', f = f' + 1 := ⟨f - 1, by omega⟩
    have HO := Lib.hid hown
    have HB := Lib.hid hb
    have hbz := hb.size
    have hls := strB_size l
    have HLS := Lib.hid hls
    have hls3 : (strB l).size ≤ 100000 := by omega
    clear hls
    have cH := fun W => hasPrefix_any (strB l) 41 W
    rw [strB_data] at cH
    clear hown hb
    by_cases h41 : l.head? = some 41
    · have HR := Lib.hid (H.out.trans (itsF_end f l xs h41))
      have hl0 : 1 ≤ l.length := by cases l with | nil => cases h41 | cons c r => simp
      rw [show (l.head? == some 41) = true by rw [h41]; rfl] at cH
      have hx : (strB l).extract 1 (strB l).size = strB (l.drop 1) := by
        rw [← strB_of ((strB l).extract 1 (strB l).size), Lib.extract_to_end, strB_data]
      have HX := Lib.hid hx
      have j2 : (1 : Int) ≤ ((strB l).size : Int) := by have := HLS.out; omega
      obtain ⟨us, u1, u2, u3⟩ := HO.out
      obtain ⟨ao, cap, rfl⟩ := owns_form u2
      clear u1 u2 u3 hx h41
      generalize strB l = L at *
      go_wp2_with fail
      refine (cH _).mono ?_
      rintro e w2 ⟨rfl, rfl⟩
      go_wp2_with fail
      go_quiet (fail)
      go_wp2_with fail
      refine bodyPost_ret (v := .tuple #[.slice ao xs.length cap, .string (L.extract 1 L.size), .int .i64 0]) (by simp [results, Tryz.results74, go_sem]) rfl ⟨HB.out.trans ((below_drewN _ _).mono hbz), ?_⟩
      rw [HR.out]
      exact ⟨_, by rw [HX.out], HO.out.below (below_drewN _ _)⟩
    · rw [show (l.head? == some 41) = false by rw [beq_eq_false_iff_ne]; exact h41] at cH
      have cR := fun W hW => iread_any (strB l) W (by omega) hW
      rw [strB_data] at cR
      cases hit : itmL l with
      | none =>
        have HR := Lib.hid (H.out.trans (itsF_none f l xs h41 hit))
        rw [hit] at cR
        clear hit h41
        generalize strB l = L at *
        go_wp2_with fail
        refine (cH _).mono ?_
        rintro e w2 ⟨rfl, rfl⟩
        go_wp2_with fail
        refine (cR _ (HA.out.below HB.out)).mono ?_
        rintro e w3 ⟨hb3, rfl⟩
        go_wp2_with fail
        refine bodyPost_ret (v := .tuple #[.slice none 0 0, .string ⟨#[]⟩, .int .i64 2]) (by simp [results, Tryz.results74, go_sem]) rfl ⟨?_, ?_⟩
        · exact (HB.out.trans (hb3.mono hbz)).alloc (Nat.le_trans hbz hb3.size) _
        · rw [HR.out]
      | some gpm =>
        obtain ⟨g, ps, m⟩ := gpm
        have hm1 := itmL_pos _ _ _ _ hit
        have hm2 := itmL_le _ _ _ _ hit
        have hm3 := itmL_used _ _ _ _ hit
        have hm4 := szN_len ps
        rw [hit] at cR
        have hxd : ((strB l).extract m (strB l).size).data.toList = l.drop m := by rw [Lib.extract_to_end, strB_data]
        have cE := fun W => endsItem_any ((strB l).extract m (strB l).size) W
        rw [hxd] at cE
        have j2 : (m : Int) ≤ ((strB l).size : Int) := by have := HLS.out; omega
        have j0 : (0 : Int) ≤ (m : Int) := by omega
        cases he : endI (l.drop m) with
        | false =>
          have HR := Lib.hid (H.out.trans (itsF_bad f l xs g ps m h41 hit he))
          rw [he] at cE
          clear hit h41 he hxd
          generalize strB l = L at *
          go_wp2_with fail
          refine (cH _).mono ?_
          rintro e w2 ⟨rfl, rfl⟩
          go_wp2_with fail
          refine (cR _ (HA.out.below HB.out)).mono ?_
          rintro e w3 ⟨hb3, v3, rfl, ho3⟩
          obtain ⟨ao3, cap3, rfl⟩ := owns_form ho3
          go_wp2_with fail
          refine (cE _).mono ?_
          rintro e w4 ⟨rfl, rfl⟩
          go_wp2_with fail
          refine bodyPost_ret (v := .tuple #[.slice none 0 0, .string ⟨#[]⟩, .int .i64 2]) (by simp [results, Tryz.results74, go_sem]) rfl ⟨?_, ?_⟩
          · exact (HB.out.trans (hb3.mono hbz)).alloc (Nat.le_trans hbz hb3.size) _
          · rw [HR.out]
        | true =>
          have HR := Lib.hid (H.out.trans (itsF_some f l xs g ps m h41 hit he))
          rw [he] at cE
          have cT := fun W => trimL1_any ((strB l).extract m (strB l).size) W
          rw [hxd] at cT
          have hsd := spD_le (l.drop m)
          rw [List.length_drop] at hsd
          clear hit h41 he hxd
          generalize strB l = L at *
          obtain ⟨gk, gn, gs, gm⟩ := g
          simp only at cR HR
          go_wp2_with fail
          refine (cH _).mono ?_
          rintro e w2 ⟨rfl, rfl⟩
          go_wp2_with fail
          refine (cR _ (HA.out.below HB.out)).mono ?_
          rintro e w3 ⟨hb3, v3, rfl, ho3⟩
          obtain ⟨ao3, cap3, rfl⟩ := owns_form ho3
          obtain ⟨us, u1, u2, u3⟩ := HO.out
          obtain ⟨ao, cap, rfl⟩ := owns_form u2
          have hpo : PrmsOff w.heap.size (Value.slice ao xs.length cap).ownBlock w3 (.slice ao3 ps.length cap3) ps := PrmsOff.made ho3 hbz (fun g hg => (World.ownsRow.lt u2 g hg).2)
          have hz3 := Nat.le_trans hbz hb3.size
          have hbW : Below w3.heap.size w3 ((w3.alloc (.cells #[.int .i64 gk, .int .i64 gn, .string (strB gs), .slice ao3 ps.length cap3] 46)).alloc (.cells #[.int .i64 gk, .int .i64 gn, .string (strB gs), .slice ao3 ps.length cap3] 46)) := ((Below.refl _ _).alloc (Nat.le_refl _) _).alloc (by simp) _
          have hOW := ownsRow_later (ownsRow_later u2 hb3) hbW
          have hnew := cells_new (w3.alloc (.cells #[.int .i64 gk, .int .i64 gn, .string (strB gs), .slice ao3 ps.length cap3] 46)) (cellsI ⟨gk, gn, gs, ps⟩ (.slice ao3 ps.length cap3)) 46
          rw [show (w3.alloc (.cells #[.int .i64 gk, .int .i64 gn, .string (strB gs), .slice ao3 ps.length cap3] 46)).heap.size = w3.heap.size + 1 by simp] at hnew
          have HNew := Lib.hid hnew
          clear hnew
          have HU3 := Lib.hid (fun (j : Nat) (u : Value) (x : Itm) hu hx => ((u3 j u x hu hx).below hb3).below hbW)
          have HPO := Lib.hid (hpo.below hbW)
          have HBW := Lib.hid ((HB.out.trans (hb3.mono hbz)).trans (hbW.mono hz3))
          have HU1 := Lib.hid u1
          clear u3 hpo u2 hb3 ho3 u1
          go_wp2_with fail
          refine (cE _).mono ?_
          rintro e w4 ⟨rfl, rfl⟩
          go_wp2_with (at_builtin; refine wpList_append_lies _ rfl _ _ 47 rfl w.heap.size 46 i0 (.agg #[.int .i64 0, .int .i64 0, .string ⟨#[]⟩, .slice none 0 0]) 4 56 Tryz.underlying47 hi hz0 hz1 hz2 rfl (by decide) _ xs.length (rowI (xs.zip us)) rfl hOW ⟨_, 0, none⟩ 1 1 (cellsI ⟨gk, gn, gs, ps⟩ (.slice ao3 ps.length cap3)) rfl rfl HNew.out (by simp [Value.oneCell', cellsI]) (by decide) (by unfold maxLen; omega) (by omega) (by simp; omega) _ rfl ?_; intro g5 cap5 w5 hown5 hgrow5 hat5 hlt5)
          have hN := OwnI.snoc (x := ⟨gk, gn, gs, ps⟩) HU1.out HU3.out HPO.out hown5 hgrow5 hat5
          refine (cT _).mono ?_
          rintro e w6 ⟨rfl, hb6⟩
          have hN6 := hN.below hb6
          have hB6 : Below w.heap.size w w6 := by
            have h1 := HBW.out
            have h2 : Below w.heap.size w w5 := ⟨hgrow5.os.trans h1.os, hgrow5.tape.trans h1.tape, hgrow5.output.trans h1.output, Nat.le_trans h1.size hgrow5.size, fun i hi => (hgrow5.block i (Nat.lt_of_lt_of_le hi h1.size) (own_ne hOW hi)).trans (h1.block i hi)⟩
            exact h2.trans (hb6.mono h2.size)
          clear hN hown5 hgrow5 hb6 hOW hbW
          go_wp2_with fail
          go_roundw
          case rel => exact ⟨xs ++ [⟨gk, gn, gs, ps⟩], spD (l.drop m), f, rfl, by omega, by simp; omega, HR, by simpa using hN6, hB6⟩
          case measure =>
            have := HLS.out
            simp [Lib.strSize, strB_size]
            omega

end Go.Proofs.YtjbipplaacgnkaaGreatDoor

namespace Go.Proofs.YtjbipplaacgnkaaGreatDoor
open Go.RowKit Go.Maps

/-- A member of a list. -/
structure Mem where
  inner : Bool
  it : Itm
  its : List Itm
  ps : List Prm

def noItm : Itm := ⟨0, 0, [], []⟩

/-- An inner list from behind its bracket, and what is behind it. -/
def innL (l : List UInt8) : Option (Mem × List UInt8) := match itsL l with
  | none => none
  | some (xs, r) => match psL r [] 0 with
    | none => none
    | some (ps, m) => some (⟨true, noItm, xs, ps⟩, r.drop m)
/-- The member with which a text begins, and what is behind it. -/
def memL (l : List UInt8) : Option (Mem × List UInt8) :=
  if l.head? = some 40 then innL (l.drop 1) else match itmL l with
    | none => none
    | some (g, ps, m) => some (⟨false, ⟨g.k, g.n, g.s, ps⟩, [], []⟩, l.drop m)

abbrev aggM (b : Bool) (k n : Int) (s : ByteArray) (u vi vp : Value) : Value := .agg #[.bool b, .int .i64 k, .int .i64 n, .string s, u, vi, vp]
abbrev noMem : Value := aggM false 0 0 ⟨#[]⟩ (.slice none 0 0) (.slice none 0 0) (.slice none 0 0)
abbrev zeroMem : Obj := .cells #[.bool false, .int .i64 0, .int .i64 0, .string ⟨#[]⟩, .slice none 0 0, .slice none 0 0, .slice none 0 0] 49

/-- A member that is handed over, and where its parts lie. -/
def MemAt (lo : Nat) (blk : Option Nat) (w : World) (M : Mem) (v : Value) : Prop :=
  ∃ u vi vp, v = aggM M.inner M.it.k M.it.n (strB M.it.s) u vi vp ∧ PrmsOff lo blk w u M.it.ps ∧ ItmsOff lo blk w vi M.its ∧ PrmsOff lo blk w vp M.ps

def memPost (o : Option (Mem × List UInt8)) (w : World) (e : Ending) (w' : World) : Prop :=
  Below w.heap.size w w' ∧ match o with
    | none => e = .returned (.tuple #[noMem, .string ⟨#[]⟩, .int .i64 2])
    | some (M, r) => ∃ v, e = .returned (.tuple #[v, .string (strB r), .int .i64 0]) ∧ MemAt w.heap.size none w' M v

/-- The cells of a member that is none yet. -/
structure ResM (W : World) (c : Nat) : Prop where
  r0 : W.cell? ⟨c, 0, none⟩ = some (.bool false)
  r1 : W.cell? ⟨c, 1, none⟩ = some (.int .i64 0)
  r2 : W.cell? ⟨c, 2, none⟩ = some (.int .i64 0)
  r3 : W.cell? ⟨c, 3, none⟩ = some (.string ⟨#[]⟩)
  r4 : W.cell? ⟨c, 4, none⟩ = some (.slice none 0 0)
  r5 : W.cell? ⟨c, 5, none⟩ = some (.slice none 0 0)
  r6 : W.cell? ⟨c, 6, none⟩ = some (.slice none 0 0)
  g0 : W.frozen? ⟨c, 0, none⟩ = false
  g1 : W.frozen? ⟨c, 1, none⟩ = false
  g2 : W.frozen? ⟨c, 2, none⟩ = false
  g3 : W.frozen? ⟨c, 3, none⟩ = false
  g4 : W.frozen? ⟨c, 4, none⟩ = false
  g5 : W.frozen? ⟨c, 5, none⟩ = false
  g6 : W.frozen? ⟨c, 6, none⟩ = false
theorem ResM.made (w : World) : ResM (w.alloc zeroMem) w.heap.size := ⟨by simp, by simp, by simp, by simp, by simp, by simp, by simp, by simp, by simp, by simp, by simp, by simp, by simp, by simp⟩
theorem ResM.lt {W : World} {c : Nat} (h : ResM W c) : c < W.heap.size := lt_of_cell h.r0
theorem ResM.next {W W1 : World} {c : Nat} (h : ResM W c) (hb : Below (c + 1) W W1) : ResM W1 c := by
  have hc : ∀ i, W1.cell? ⟨c, i, none⟩ = W.cell? ⟨c, i, none⟩ := fun i => hb.cell (p := ⟨c, i, none⟩) (Nat.lt_succ_self _)
  have hf : ∀ i, W1.frozen? ⟨c, i, none⟩ = W.frozen? ⟨c, i, none⟩ := fun i => hb.frozen (p := ⟨c, i, none⟩) (Nat.lt_succ_self _)
  exact ⟨(hc 0).trans h.r0, (hc 1).trans h.r1, (hc 2).trans h.r2, (hc 3).trans h.r3, (hc 4).trans h.r4, (hc 5).trans h.r5, (hc 6).trans h.r6, (hf 0).trans h.g0, (hf 1).trans h.g1, (hf 2).trans h.g2, (hf 3).trans h.g3, (hf 4).trans h.g4, (hf 5).trans h.g5, (hf 6).trans h.g6⟩

theorem itsF_le (f : Nat) : ∀ (l : List UInt8) (acc xs : List Itm) (r : List UInt8), itsF f l acc = some (xs, r) → r.length ≤ l.length := by
  induction f with
  | zero => intro l acc xs r h; cases h
  | succ f ih =>
    intro l acc xs r h
    by_cases h41 : l.head? = some 41
    · rw [itsF_end f l acc h41] at h
      obtain ⟨_, rfl⟩ := Prod.mk.inj (Option.some.inj h)
      rw [List.length_drop]; omega
    · cases hi : itmL l with
      | none => rw [itsF_none f l acc h41 hi] at h; cases h
      | some x =>
        obtain ⟨g, ps, m⟩ := x
        cases he : endI (l.drop m) with
        | false => rw [itsF_bad f l acc g ps m h41 hi he] at h; cases h
        | true =>
          rw [itsF_some f l acc g ps m h41 hi he] at h
          have h1 := ih _ _ _ _ h
          have h2 := spD_le (l.drop m)
          rw [List.length_drop] at h2
          omega
theorem itsL_le (l : List UInt8) (xs : List Itm) (r : List UInt8) (h : itsL l = some (xs, r)) : r.length ≤ l.length := Nat.le_trans (itsF_le _ _ _ _ _ h) (spD_le l)

set_option maxRecDepth 100000 in
set_option maxHeartbeats 4000000 in
theorem readInner_any (s : ByteArray) (w : World) (hs : s.size ≤ 100000) (hA : Alph w) :
    Calls Tryz.prog 49 #[.string s] w (memPost (innL s.data.toList) w) := by
  have hb0 : Below w.heap.size w (w.alloc zeroMem) := (Below.refl _ _).alloc (Nat.le_refl _) _
  have HA := Lib.hid hA
  have HR0 := Lib.hid (ResM.made w)
  have cI := fun W hW => readItems_any s W hs hW
  clear hA
  cases hits : itsL s.data.toList with
  | none =>
    have HL : Hid (innL s.data.toList = none) := Lib.hid (by rw [innL, hits])
    rw [hits] at cI
    clear hits
    go_enter Tryz.func49, Tryz.ntmps49
    go_wp2_with fail
    refine (cI _ (HA.out.below hb0)).mono ?_
    rintro e w1 ⟨hb1, rfl⟩
    have hR1 := HR0.out.next (by simpa using hb1)
    have hB1 := hb0.trans (hb1.mono hb0.size)
    have hlt := hR1.lt
    obtain ⟨r0, r1, r2, r3, r4, r5, r6, g0, g1, g2, g3, g4, g5, g6⟩ := hR1
    clear hb1 cI
    go_wp2_with fail
    refine bodyPost_ret (v := .tuple #[noMem, .string ⟨#[]⟩, .int .i64 2]) (by simp [results, Tryz.results49, go_sem, r0, r1, r2, r3, r4, r5, r6]) rfl ?_
    rw [HL.out]
    refine ⟨?_, rfl⟩
    repeat (first | with_reducible refine Below.alloc ?_ (by simp; omega) _ | with_reducible refine Below.setCell ?_ (by simp) _)
    exact hB1
  | some x =>
    obtain ⟨xs, r⟩ := x
    have hr := itsL_le _ _ _ hits
    rw [← Lib.size_eq] at hr
    have hrs := strB_size r
    have cP := fun W hW => iparams_any (strB r) W (by omega) hW
    rw [strB_data] at cP
    have HLS := Lib.hid hrs
    have hls3 : (strB r).size ≤ 100000 := by omega
    have hinn : innL s.data.toList = (match psL r [] 0 with
      | none => none
      | some (ps, m) => some (⟨true, noItm, xs, ps⟩, r.drop m)) := by rw [innL, hits]
    rw [hits] at cI
    clear hits hrs
    cases hps : psL r [] 0 with
    | none =>
      have HL : Hid (innL s.data.toList = none) := Lib.hid (by rw [hinn, hps])
      rw [hps] at cP
      clear hps hinn
      generalize hRr : strB r = R at *
      have HRr := Lib.hid hRr
      clear hRr
      go_enter Tryz.func49, Tryz.ntmps49
      go_wp2_with fail
      refine (cI _ (HA.out.below hb0)).mono ?_
      rintro e w1 ⟨hb1, v1, rfl, ho1⟩
      rw [HRr.out]
      obtain ⟨us, u1, u2, u3⟩ := ho1
      obtain ⟨ao1, cap1, rfl⟩ := owns_form u2
      have hR1 := HR0.out.next (by simpa using hb1)
      have hB1 := hb0.trans (hb1.mono hb0.size)
      have HR1 := Lib.hid hR1
      clear hb1 cI u1 u2 u3 hR1
      go_wp2_with fail
      refine (cP _ (HA.out.below hB1)).mono ?_
      rintro e w2 ⟨hb2, rfl⟩
      have hR2 := HR1.out.next (hb2.mono (Nat.succ_le_of_lt HR1.out.lt))
      have hB2 := hB1.trans (hb2.mono hB1.size)
      have hlt := hR2.lt
      obtain ⟨r0, r1, r2, r3, r4, r5, r6, g0, g1, g2, g3, g4, g5, g6⟩ := hR2
      clear hb2 cP
      go_wp2_with fail
      refine bodyPost_ret (v := .tuple #[noMem, .string ⟨#[]⟩, .int .i64 2]) (by simp [results, Tryz.results49, go_sem, r0, r1, r2, r3, r4, r5, r6]) rfl ?_
      rw [HL.out]
      refine ⟨?_, rfl⟩
      repeat (first | with_reducible refine Below.alloc ?_ (by simp; omega) _ | with_reducible refine Below.setCell ?_ (by simp) _)
      exact hB2
    | some y =>
      obtain ⟨ps, m⟩ := y
      have HL : Hid (innL s.data.toList = some (⟨true, noItm, xs, ps⟩, r.drop m)) := Lib.hid (by rw [hinn, hps])
      have hk := psL_le _ _ _ _ _ _ (Nat.le_refl _) hps
      rw [Nat.zero_add] at hk
      rw [hps] at cP
      have j2 : (m : Int) ≤ ((strB r).size : Int) := by have := HLS.out; omega
      have j0 : (0 : Int) ≤ (m : Int) := by omega
      have HX : Hid ((strB r).extract m (strB r).size = strB (r.drop m)) := Lib.hid (by rw [← strB_of ((strB r).extract m (strB r).size), Lib.extract_to_end, strB_data])
      clear hps hinn hk
      generalize hRr : strB r = R at *
      have HRr := Lib.hid hRr
      clear hRr
      go_enter Tryz.func49, Tryz.ntmps49
      go_wp2_with fail
      refine (cI _ (HA.out.below hb0)).mono ?_
      rintro e w1 ⟨hb1, v1, rfl, ho1⟩
      rw [HRr.out]
      have HO1 := Lib.hid ((ho1.off (blk := none) (fun g hg => by cases hg)).low (show w.heap.size + 1 ≤ _ by simp))
      obtain ⟨us, u1, u2, u3⟩ := ho1
      obtain ⟨ao1, cap1, rfl⟩ := owns_form u2
      have hR1 := HR0.out.next (by simpa using hb1)
      have hB1 := hb0.trans (hb1.mono hb0.size)
      have HR1 := Lib.hid hR1
      clear hb1 cI u1 u2 u3 hR1
      go_wp2_with fail
      refine (cP _ (HA.out.below hB1)).mono ?_
      rintro e w2 ⟨hb2, v2, rfl, ho2⟩
      have HP2 := Lib.hid (PrmsOff.made (lo := w.heap.size + 1) (blk := none) ho2 (Nat.succ_le_of_lt HR1.out.lt) (fun g hg => by cases hg))
      obtain ⟨ao2, cap2, rfl⟩ := owns_form ho2
      have HO2 := Lib.hid (HO1.out.below hb2)
      have hR2 := HR1.out.next (hb2.mono (Nat.succ_le_of_lt HR1.out.lt))
      have hB2 := hB1.trans (hb2.mono hB1.size)
      have hlt := hR2.lt
      obtain ⟨r0, r1, r2, r3, r4, r5, r6, g0, g1, g2, g3, g4, g5, g6⟩ := hR2
      clear hb2 cP ho2
      go_wp2_with fail
      go_region
      all_goals
        go_wp2_with fail
        refine bodyPost_ret (v := .tuple #[aggM true 0 0 ⟨#[]⟩ (.slice none 0 0) (.slice ao1 xs.length cap1) (.slice ao2 ps.length cap2), .string (R.extract m R.size), .int .i64 0]) (by simp [results, Tryz.results49, go_sem, r0, r1, r2, r3, r4, r5, r6]) rfl ?_
        rw [HL.out]
        have hm : Moved w.heap.size w2 ((((((((w2.setCell ⟨w.heap.size, 0, none⟩ (.bool true)).setCell ⟨w.heap.size, 1, none⟩ (.int .i64 0)).setCell ⟨w.heap.size, 2, none⟩ (.int .i64 0)).setCell ⟨w.heap.size, 3, none⟩ (.string ⟨#[]⟩)).setCell ⟨w.heap.size, 4, none⟩ (.slice none 0 0)).setCell ⟨w.heap.size, 5, none⟩ (.slice ao1 xs.length cap1)).setCell ⟨w.heap.size, 6, none⟩ (.slice ao2 ps.length cap2)).drew) := by
          repeat (first | with_reducible refine Moved.drew1 ?_ | with_reducible refine Moved.alloc ?_ _ | with_reducible refine Moved.setCell ?_ _)
          exact Moved.refl _ _
        refine ⟨?_, _, by rw [HX.out] <;> rfl, .slice none 0 0, _, _, rfl, PrmsOff.nothing _ _ _, (HO2.out.moved hm (Nat.lt_succ_self _)).low (Nat.le_succ _), (HP2.out.moved hm (Nat.lt_succ_self _)).low (Nat.le_succ _)⟩
        repeat (first | with_reducible refine Below.alloc ?_ (by simp; omega) _ | with_reducible refine Below.setCell ?_ (by simp) _ | with_reducible refine Below.drew ?_)
        exact hB2

end Go.Proofs.YtjbipplaacgnkaaGreatDoor

namespace Go.Proofs.YtjbipplaacgnkaaGreatDoor
open Go.RowKit Go.Maps

abbrev itemO (k n : Int) (s : ByteArray) (v : Value) : Obj := .cells #[.int .i64 k, .int .i64 n, .string s, v] 46

theorem PrmsOff.mono {lo : Nat} {blk : Option Nat} {w : World} {v : Value} {ps : List Prm} {M : Mem} (h : PrmsOff lo blk w v ps) (e : M.ps = ps) : PrmsOff lo blk w v M.ps := by rw [e]; exact h

set_option maxRecDepth 100000 in
set_option maxHeartbeats 4000000 in
theorem readMember_any (s : ByteArray) (w : World) (hs : s.size ≤ 100000) (hA : Alph w) :
    Calls Tryz.prog 25 #[.string s] w (memPost (memL s.data.toList) w) := by
  have hb0 : Below w.heap.size w (w.alloc zeroMem) := (Below.refl _ _).alloc (Nat.le_refl _) _
  have HA := Lib.hid hA
  have HR0 := Lib.hid (ResM.made w)
  clear hA
  by_cases h40 : s.data.toList.head? = some 40
  · have hds := strB_size (s.data.toList.drop 1)
    rw [List.length_drop, ← Lib.size_eq] at hds
    have cC := fun W => cut_yes s 40 W h40
    have cI := fun W hW => readInner_any (strB (s.data.toList.drop 1)) W (by omega) hW
    rw [strB_data] at cI
    have HL : Hid (memL s.data.toList = innL (s.data.toList.drop 1)) := Lib.hid (by rw [memL, if_pos h40])
    clear h40 hds
    generalize strB (s.data.toList.drop 1) = R at *
    cases hin : innL (s.data.toList.drop 1) with
    | none =>
      rw [hin] at cI HL
      clear hin
      go_enter Tryz.func25, Tryz.ntmps25
      go_wp2_with fail
      refine (cC _).mono ?_
      rintro e w1 ⟨rfl, rfl⟩
      go_wp2_with fail
      refine (cI _ (HA.out.below hb0)).mono ?_
      rintro e w1 ⟨hb1, rfl⟩
      have hR1 := HR0.out.next (by simpa using hb1)
      have hB1 := hb0.trans (hb1.mono hb0.size)
      have hlt := hR1.lt
      obtain ⟨r0, r1, r2, r3, r4, r5, r6, g0, g1, g2, g3, g4, g5, g6⟩ := hR1
      clear hb1 cI cC
      go_wp2_with fail
      refine bodyPost_ret (v := .tuple #[noMem, .string ⟨#[]⟩, .int .i64 2]) (by simp [results, Tryz.results25, go_sem, r0, r1, r2, r3, r4, r5, r6]) rfl ?_
      rw [HL.out]
      refine ⟨?_, rfl⟩
      repeat (first | with_reducible refine Below.alloc ?_ (by simp; omega) _ | with_reducible refine Below.setCell ?_ (by simp) _)
      exact hB1
    | some x =>
      obtain ⟨M, r⟩ := x
      rw [hin] at cI HL
      clear hin
      go_enter Tryz.func25, Tryz.ntmps25
      go_wp2_with fail
      refine (cC _).mono ?_
      rintro e w1 ⟨rfl, rfl⟩
      go_wp2_with fail
      refine (cI _ (HA.out.below hb0)).mono ?_
      rintro e w1 ⟨hb1, v1, rfl, u, vi, vp, rfl, hu, hvi, hvp⟩
      have hR1 := HR0.out.next (by simpa using hb1)
      have hB1 := hb0.trans (hb1.mono hb0.size)
      have hlt := hR1.lt
      obtain ⟨r0, r1, r2, r3, r4, r5, r6, g0, g1, g2, g3, g4, g5, g6⟩ := hR1
      obtain ⟨ao1, cap1, rfl⟩ := hu.form
      obtain ⟨ao2, cap2, rfl⟩ := hvi.form
      obtain ⟨ao3, cap3, rfl⟩ := hvp.form
      have HU := Lib.hid (hu.low (show w.heap.size + 1 ≤ _ by simp))
      have HV := Lib.hid (hvi.low (show w.heap.size + 1 ≤ _ by simp))
      have HW := Lib.hid (hvp.low (show w.heap.size + 1 ≤ _ by simp))
      clear hb1 cI cC hu hvi hvp
      go_wp2_with fail
      refine bodyPost_ret (v := .tuple #[aggM M.inner M.it.k M.it.n (strB M.it.s) (.slice ao1 M.it.ps.length cap1) (.slice ao2 M.its.length cap2) (.slice ao3 M.ps.length cap3), .string (strB r), .int .i64 0]) (by simp [results, Tryz.results25, go_sem, r0, r1, r2, r3, r4, r5, r6]) rfl ?_
      rw [HL.out]
      have hm : Moved w.heap.size w1 (((((((w1.setCell ⟨w.heap.size, 0, none⟩ (.bool M.inner)).setCell ⟨w.heap.size, 1, none⟩ (.int .i64 M.it.k)).setCell ⟨w.heap.size, 2, none⟩ (.int .i64 M.it.n)).setCell ⟨w.heap.size, 3, none⟩ (.string (strB M.it.s))).setCell ⟨w.heap.size, 4, none⟩ (.slice ao1 M.it.ps.length cap1)).setCell ⟨w.heap.size, 5, none⟩ (.slice ao2 M.its.length cap2)).setCell ⟨w.heap.size, 6, none⟩ (.slice ao3 M.ps.length cap3)) := by
        repeat (first | with_reducible refine Moved.drew1 ?_ | with_reducible refine Moved.alloc ?_ _ | with_reducible refine Moved.setCell ?_ _)
        exact Moved.refl _ _
      refine ⟨?_, _, rfl, _, _, _, rfl, (HU.out.moved hm (Nat.lt_succ_self _)).low (Nat.le_succ _), (HV.out.moved hm (Nat.lt_succ_self _)).low (Nat.le_succ _), (HW.out.moved hm (Nat.lt_succ_self _)).low (Nat.le_succ _)⟩
      repeat (first | with_reducible refine Below.alloc ?_ (by simp; omega) _ | with_reducible refine Below.setCell ?_ (by simp) _ | with_reducible refine Below.drew ?_)
      exact hB1
  · have cC := fun W => cut_no s 40 W h40
    have cI := fun W hW => iread_any s W hs hW
    have hL : memL s.data.toList = (match itmL s.data.toList with
      | none => none
      | some (g, ps, m) => some (⟨false, ⟨g.k, g.n, g.s, ps⟩, [], []⟩, s.data.toList.drop m)) := by rw [memL, if_neg h40] <;> rfl
    clear h40
    cases hin : itmL s.data.toList with
    | none =>
      have HL : Hid (memL s.data.toList = none) := Lib.hid (by rw [hL, hin])
      rw [hin] at cI
      clear hin hL
      go_enter Tryz.func25, Tryz.ntmps25
      go_wp2_with fail
      refine (cC _).mono ?_
      rintro e w1 ⟨rfl, rfl⟩
      go_wp2_with fail
      refine (cI _ (HA.out.below hb0)).mono ?_
      rintro e w1 ⟨hb1, rfl⟩
      have hR1 := HR0.out.next (by simpa using hb1)
      have hB1 := hb0.trans (hb1.mono hb0.size)
      have hlt := hR1.lt
      obtain ⟨r0, r1, r2, r3, r4, r5, r6, g0, g1, g2, g3, g4, g5, g6⟩ := hR1
      clear hb1 cI cC
      go_wp2_with fail
      refine bodyPost_ret (v := .tuple #[noMem, .string ⟨#[]⟩, .int .i64 2]) (by simp [results, Tryz.results25, go_sem, r0, r1, r2, r3, r4, r5, r6, hlt]) rfl ?_
      rw [HL.out]
      refine ⟨?_, rfl⟩
      repeat (first | with_reducible refine Below.alloc ?_ (by simp; omega) _ | with_reducible refine Below.setCell ?_ (by simp) _)
      exact hB1
    | some x =>
      obtain ⟨g, ps, m⟩ := x
      have HL : Hid (memL s.data.toList = some (⟨false, ⟨g.k, g.n, g.s, ps⟩, [], []⟩, s.data.toList.drop m)) := Lib.hid (by rw [hL, hin])
      have hm2 := itmL_le _ _ _ _ hin
      rw [← Lib.size_eq] at hm2
      rw [hin] at cI
      have j2 : (m : Int) ≤ (s.size : Int) := by omega
      have j0 : (0 : Int) ≤ (m : Int) := by omega
      have HX : Hid (s.extract m s.size = strB (s.data.toList.drop m)) := Lib.hid (by rw [← strB_of (s.extract m s.size), Lib.extract_to_end])
      clear hin hL
      obtain ⟨gk, gn, gs, gm⟩ := g
      simp only at cI HL
      generalize hG : strB gs = G at *
      have HG := Lib.hid hG
      clear hG
      go_enter Tryz.func25, Tryz.ntmps25
      go_wp2_with fail
      refine (cC _).mono ?_
      rintro e w1 ⟨rfl, rfl⟩
      go_wp2_with fail
      refine (cI _ (HA.out.below hb0)).mono ?_
      rintro e w1 ⟨hb1, v1, rfl, ho1⟩
      simp only
      rw [HG.out]
      have HU := Lib.hid (PrmsOff.made (lo := w.heap.size + 1) (blk := none) ho1 (by simp) (fun g hg => by cases hg))
      obtain ⟨ao1, cap1, rfl⟩ := owns_form ho1
      have hR1 := HR0.out.next (by simpa using hb1)
      have hB1 := hb0.trans (hb1.mono hb0.size)
      have hlt := hR1.lt
      obtain ⟨r0, r1, r2, r3, r4, r5, r6, g0, g1, g2, g3, g4, g5, g6⟩ := hR1
      clear hb1 cI cC ho1
      go_wp2_with fail
      go_region
      all_goals
        go_wp2_with fail
        refine bodyPost_ret (v := .tuple #[aggM false gk gn G (.slice ao1 ps.length cap1) (.slice none 0 0) (.slice none 0 0), .string (s.extract m s.size), .int .i64 0]) (by simp [results, Tryz.results25, go_sem, r0, r1, r2, r3, r4, r5, r6, hlt]) rfl ?_
        rw [HL.out]
        refine ⟨?_, _, by rw [HX.out], .slice ao1 ps.length cap1, .slice none 0 0, .slice none 0 0, by rw [HG.out], (HU.out.moved (c := w.heap.size) ?_ (Nat.lt_succ_self _)).low (Nat.le_succ _), ItmsOff.nothing _ _ _, PrmsOff.nothing _ _ _⟩
        · repeat (first | with_reducible refine Below.alloc ?_ (by simp; omega) _ | with_reducible refine Below.setCell ?_ (by simp) _ | with_reducible refine Below.drew ?_)
          exact hB1
        · repeat (first | with_reducible refine Moved.drew1 ?_ | with_reducible refine Moved.alloc ?_ _ | with_reducible refine Moved.setCell ?_ _)
          exact Moved.refl _ _

end Go.Proofs.YtjbipplaacgnkaaGreatDoor
