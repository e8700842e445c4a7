/- Plain: the size of a chunk's line, told from the digits with which it begins. · The document's own digit (sculleryref07). · The document's own size of a chunk's line (sculleryref07). -/
import Derived.Test.YthbfcamfapgodaaGreatDoorGE
import Derived.Test.YthbfcamfapgodaaGreatDoorGB
import Derived.Test.YthbfcamfapgodaaGreatDoorHA
import Derived.BigQuiet
import Derived.Deep.QuietTactic

namespace Go.Proofs.YthbfcamfapgodaaGreatDoor
open Go.RowKit Go.Shelf Go.Lib

def hexB (c : UInt8) : Bool := (hexD c).isSome
/-- The number of signs by sixteen, behind one. -/
def hv : Nat → List UInt8 → Nat
  | a, [] => a
  | a, c :: r => hv (a * 16 + (hexD c).getD 0) r
theorem hv_snoc : ∀ (l : List UInt8) (a : Nat) (c : UInt8), hv a (l ++ [c]) = hv a l * 16 + (hexD c).getD 0
  | [], a, c => rfl
  | x :: l, a, c => by rw [List.cons_append, hv, hv_snoc l, hv]
theorem hv_lt : ∀ (l : List UInt8) (a j : Nat), a < 16 ^ j → hv a l < 16 ^ (j + l.length)
  | [], a, j, h => h
  | c :: l, a, j, h => by
    have hd : (hexD c).getD 0 < 16 := by
      cases hc : hexD c with
      | none => simp
      | some d => exact hexD_lt c d hc
    have := hv_lt l (a * 16 + (hexD c).getD 0) (j + 1) (by rewrite [Nat.pow_succ]; omega)
    rewrite [hv, List.length_cons, show j + (l.length + 1) = j + 1 + l.length by omega]
    exact this
theorem par16_all : ∀ (l : List UInt8) (a j : Nat), (∀ c ∈ l, hexB c = true) → a < 16 ^ j → j + l.length ≤ 15 → par16 a l = .ok (hv a l)
  | [], a, j, _, _, _ => rfl
  | c :: l, a, j, h, ha, hj => by
    have hc := h c (List.mem_cons_self ..)
    rw [List.length_cons] at hj
    have h15 : (16 : Nat) ^ j ≤ 16 ^ 14 := Nat.pow_le_pow_right (by omega) (by omega)
    cases hd : hexD c with
    | none => rw [hexB, hd] at hc; cases hc
    | some d =>
      have hlt := hexD_lt c d hd
      rewrite [par16, hd, hv, hd]
      dsimp only
      rw [if_neg (by have : (16 : Nat) ^ 14 = 72057594037927936 := by decide
                     omega)]
      exact par16_all l (a * 16 + d) (j + 1) (fun x hx => h x (List.mem_cons_of_mem _ hx)) (by rewrite [Nat.pow_succ]; omega) (by omega)
theorem par16_bad : ∀ (l : List UInt8) (a : Nat), (∃ c ∈ l, hexB c = false) → ∀ n, par16 a l ≠ .ok n
  | [], _, h, _ => by obtain ⟨c, hc, _⟩ := h; cases hc
  | c :: l, a, h, n => by
    rewrite [par16]
    cases hd : hexD c with
    | none => simp
    | some d =>
      dsimp only
      split
      · simp
      · refine par16_bad l _ ?_ n
        obtain ⟨x, hx, hb⟩ := h
        rcases List.mem_cons.1 hx with rfl | hx
        · rw [hexB, hd] at hb; cases hb
        · exact ⟨x, hx, hb⟩

theorem sep_not_hex (c : UInt8) (h : sepL.contains c = true) : hexB c = false := by
  have H : ∀ i : Fin 256, sepL.contains (UInt8.ofNat i.val) = true → hexB (UInt8.ofNat i.val) = false := by decide +kernel
  have := H ⟨c.toNat, c.toNat_lt⟩
  simp only [UInt8.ofNat_toNat] at this
  exact this h
theorem sep_cases (c : UInt8) : sepL.contains c = (blkB c || c == 59) := by
  have H : ∀ i : Fin 256, sepL.contains (UInt8.ofNat i.val) = (blkB (UInt8.ofNat i.val) || UInt8.ofNat i.val == 59) := by decide +kernel
  have := H ⟨c.toNat, c.toNat_lt⟩
  simpa using this

/-- Where the first of these bytes stands: it is one, and none stands ahead of it. -/
theorem sep_split (l : List UInt8) : (Lib.indexAny l sepL < 0 ∧ ∀ c ∈ l, sepL.contains c = false) ∨ ∃ D x R, l = D ++ x :: R ∧ Lib.indexAny l sepL = (D.length : Int) ∧ (∀ c ∈ D, sepL.contains c = false) ∧ sepL.contains x = true := by
  induction l with
  | nil => exact .inl ⟨by decide, by simp⟩
  | cons c r ih =>
    by_cases hc : sepL.contains c = true
    · exact .inr ⟨[], c, r, rfl, by rw [Lib.indexAny, if_pos hc] <;> rfl, by simp, hc⟩
    · have hcf : sepL.contains c = false := by simpa using hc
      rcases ih with ⟨h1, h2⟩ | ⟨D, x, R, h1, h2, h3, h4⟩
      · refine .inl ⟨?_, fun y hy => ?_⟩
        · have h3 := Lib.indexAny_ge sepL r
          have h4 : Lib.indexAny r sepL = -1 := by omega
          rewrite [Lib.indexAny, if_neg hc, h4]
          decide
        · rcases List.mem_cons.1 hy with rfl | hy
          · exact hcf
          · exact h2 y hy
      · refine .inr ⟨c :: D, x, R, by rw [h1] <;> rfl, ?_, fun y hy => ?_, h4⟩
        · rewrite [Lib.indexAny, if_neg hc, h2, if_neg (by first | (simp; done) | (simp; omega))]
          simp
        · rcases List.mem_cons.1 hy with rfl | hy
          · exact hcf
          · exact h3 y hy

theorem trL_cons_no (c : UInt8) (r : List UInt8) (h : blkB c = false) : trL (c :: r) = c :: trL r := by
  rewrite [trL, trL, List.reverse_cons, List.dropWhile_append]
  split
  · rename_i he
    rewrite [List.dropWhile_cons_of_neg (by rewrite [h]; decide)]
    have : r.reverse.dropWhile blkB = [] := by simpa using he
    rewrite [this]
    rfl
  · rewrite [List.reverse_append]
    rfl
theorem trL_cons_yes (c : UInt8) (r : List UInt8) (h : blkB c = true) : trL (c :: r) = if trL r = [] then [] else c :: trL r := by
  rewrite [trL, trL, List.reverse_cons, List.dropWhile_append]
  by_cases he : r.reverse.dropWhile blkB = []
  · rewrite [he]
    simp [h]
  · have h1 : ¬ (r.reverse.dropWhile blkB).isEmpty = true := by simpa using he
    rewrite [if_neg h1, if_neg (by simpa using he), List.reverse_append]
    rfl
theorem tl_tr_comm : ∀ l : List UInt8, tlL (trL l) = trL (tlL l)
  | [] => rfl
  | c :: r => by
    cases hc : blkB c
    · rw [trL_cons_no c r hc, tlL, List.dropWhile_cons_of_neg (by rewrite [hc]; decide), tlL, List.dropWhile_cons_of_neg (by rewrite [hc]; decide), trL_cons_no c r hc]
    · have ih := tl_tr_comm r
      rewrite [trL_cons_yes c r hc]
      rewrite [show tlL (c :: r) = tlL r by rewrite [tlL, List.dropWhile_cons_of_pos hc]; rfl]
      split
      · rename_i he
        rw [← ih, he]
      · rewrite [show tlL (c :: trL r) = tlL (trL r) by rewrite [tlL, List.dropWhile_cons_of_pos hc]; rfl]
        exact ih
theorem trimL_tr (l : List UInt8) : trimL (trL l) = trimL l := by
  rw [trimL, trimL, tl_tr_comm, trL_idem]

/-- What may stand behind the digits, told from the front. -/
def extR (r : List UInt8) : Bool := match tlL r with
  | [] => r.isEmpty
  | c :: t => c == 59 && txtL (trimL t)
theorem tlL_cases (r : List UInt8) : tlL r = [] ∨ ∃ c t, tlL r = c :: t ∧ blkB c = false := by
  induction r with
  | nil => exact .inl rfl
  | cons c r ih =>
    cases hc : blkB c
    · exact .inr ⟨c, r, by rw [tlL, List.dropWhile_cons_of_neg (by rewrite [hc]; decide)], hc⟩
    · rewrite [show tlL (c :: r) = tlL r by rewrite [tlL, List.dropWhile_cons_of_pos hc]; rfl]
      exact ih
theorem pre_semi (c : UInt8) (t : List UInt8) : Lib.hasPrefix (c :: t) [59] = (c == 59) := by
  unfold Lib.hasPrefix
  simp [List.isPrefixOf]
  exact Bool.beq_comm
theorem extL_eq (r : List UInt8) : extL r = extR r := by
  rewrite [extL, extR]
  rcases tlL_cases r with h | ⟨c, t, h, hc⟩
  · rewrite [trimL, h]
    cases r <;> rfl
  · rewrite [trimL, h, trL_cons_no c t hc, pre_semi]
    have hr : r.isEmpty = false := by
      cases r with
      | nil => cases h
      | cons _ _ => rfl
    rewrite [hr, Bool.false_or]
    cases h59 : c == 59
    · show (false && _) = (c == 59 && txtL (trimL t))
      rewrite [h59]
      rfl
    · have : c = 59 := by simpa using h59
      subst this
      have hp : Lib.trimPrefix (59 :: trL t) [59] = trL t := by
        unfold Lib.trimPrefix
        rewrite [pre_semi]
        rfl
      rewrite [hp, trimL_tr]
      rfl

/-- The size that a line tells: so many digits, and what stands behind them. -/
def sizR (l : List UInt8) (k : Nat) : Option Nat := if k < 1 ∨ 8 < k then none else if extR (l.drop k) then some (hv 0 (l.take k)) else none

theorem sizeL_eq (l : List UInt8) (k : Nat) (hk : k ≤ l.length) (h1 : ∀ c ∈ l.take k, hexB c = true) (h2 : ∀ c, l[k]? = some c → hexB c = false) : sizeL l = sizR l k := by
  -- the digits are what stands ahead of the first separator, or end ahead of it
  obtain ⟨D, R, hD, hR, hl, hs⟩ : ∃ D R, digsL l = D ∧ restL l = R ∧ l = D ++ R ∧ ((∀ c ∈ D, sepL.contains c = false) ∧ (R = [] ∨ ∃ x t, R = x :: t ∧ sepL.contains x = true)) := by
    rcases sep_split l with ⟨a, b⟩ | ⟨D, x, R, a, b, c, d⟩
    · exact ⟨l, [], by rw [digsL, if_pos a], by rw [restL, if_pos a], by simp, b, .inl rfl⟩
    · refine ⟨D, x :: R, ?_, ?_, a, c, .inr ⟨x, R, rfl, d⟩⟩
      · rewrite [digsL, if_neg (by omega), b, Int.toNat_natCast]
        conv => lhs; rw [a]
        exact List.take_left
      · rewrite [restL, if_neg (by omega), b, Int.toNat_natCast]
        conv => lhs; rw [a]
        exact List.drop_left
  obtain ⟨hsD, hsR⟩ := hs
  rewrite [sizeL, hD, hR]
  by_cases hall : ∀ c ∈ D, hexB c = true
  · -- all are digits: then there are k of them
    have hkD : k = D.length := by
      rcases Nat.lt_trichotomy k D.length with h | h | h
      · exfalso
        have h3 : l[k]? = some D[k] := by rewrite [hl, List.getElem?_append_left h]; exact List.getElem?_eq_getElem h
        have := h2 _ h3
        rw [hall _ (List.getElem_mem h)] at this
        cases this
      · exact h
      · exfalso
        rcases hsR with hr | ⟨x, t, hr, hx⟩
        · rw [hl, hr, List.append_nil] at hk; omega
        · have hm : x ∈ l.take k := by
            rewrite [hl, hr]
            have : (D ++ x :: t).take k = D ++ (x :: t).take (k - D.length) := by rw [List.take_append, List.take_of_length_le (by omega)]
            rewrite [this]
            refine List.mem_append_right _ ?_
            obtain ⟨m, hm⟩ : ∃ m, k - D.length = m + 1 := ⟨k - D.length - 1, by omega⟩
            rewrite [hm]
            simp
          have := h1 x hm
          rw [sep_not_hex x hx] at this
          cases this
    have htk : l.take k = D := by rewrite [hl, hkD]; exact List.take_left
    have hdk : l.drop k = R := by rewrite [hl, hkD]; exact List.drop_left
    rewrite [sizR, htk, hdk, hkD]
    by_cases h8 : 8 < D.length
    · rw [if_pos h8, if_pos (.inr h8)]
    · rewrite [if_neg h8]
      by_cases h0 : D = []
      · rewrite [h0, if_pos (.inl (by simp))]
        rfl
      · have hpos : 0 < D.length := List.length_pos_iff.2 h0
        rewrite [if_neg (by omega), num16, if_neg h0, par16_all D 0 0 hall (by decide) (by omega)]
        dsimp only
        rw [extL_eq]
  · -- one is none: then the number ends ahead of it, at no separator
    have hex : ∃ c ∈ D, hexB c = false := by
      simpa using hall
    have hbad : ∀ n, num16 D ≠ .ok n := fun n => by
      rewrite [num16]
      split
      · intro h; cases h
      · exact par16_bad D 0 hex n
    have hkD : k < D.length := by
      rcases Nat.lt_or_ge k D.length with h | h
      · exact h
      · exfalso
        obtain ⟨c, hc, hb⟩ := hex
        have hm : c ∈ l.take k := by
          rewrite [hl, List.take_append, List.take_of_length_le h]
          exact List.mem_append_left _ hc
        rw [h1 c hm] at hb
        cases hb
    have hlk : l[k]? = some D[k] := by rewrite [hl, List.getElem?_append_left hkD]; exact List.getElem?_eq_getElem hkD
    have hns := hsD D[k] (List.getElem_mem hkD)
    rw [sep_cases] at hns
    have hb : blkB D[k] = false := by
      cases hh : blkB D[k]
      · rfl
      · rw [hh] at hns; cases hns
    have h59 : (D[k] == 59) = false := by
      cases hh : (D[k] == 59)
      · rfl
      · rw [hh, Bool.or_true] at hns; cases hns
    have hdr : ∃ t, l.drop k = D[k] :: t := by
      have hkl : k < l.length := by rewrite [hl, List.length_append]; omega
      refine ⟨l.drop (k + 1), ?_⟩
      rewrite [List.drop_eq_getElem_cons hkl]
      congr 1
      have := List.getElem?_eq_getElem hkl
      rw [hlk] at this
      exact (Option.some.inj this).symm
    obtain ⟨t, ht⟩ := hdr
    have hno : sizR l k = none := by
      rewrite [sizR]
      split
      · rfl
      · have : extR (l.drop k) = false := by
          rewrite [extR, ht, show tlL (D[k] :: t) = D[k] :: t by rw [tlL, List.dropWhile_cons_of_neg (by rewrite [hb]; decide)]]
          dsimp only
          rewrite [h59]
          rfl
        rewrite [this]
        rfl
    rewrite [hno]
    by_cases h8 : 8 < D.length
    · rw [if_pos h8]
    · rewrite [if_neg h8]
      cases hn : num16 D with
      | ok n => exact absurd hn (hbad n)
      | error b => rfl

end Go.Proofs.YthbfcamfapgodaaGreatDoor

namespace Go.Proofs.YthbfcamfapgodaaGreatDoor
open Go.RowKit Go.Shelf Go.Lib

/-- A sign's number, or -1. -/
def digV (c : UInt8) : Int := match hexD c with | some d => (d : Int) | none => -1
theorem hexD_at (k : Nat) (hk : k < 16) (c : UInt8) : ((hexC k).toNat = c.toNat ∨ (9 < k ∧ (hexC k).toNat = c.toNat + 32)) ↔ hexD c = some k := by
  have H : ∀ (i : Fin 16) (j : Fin 256), ((hexC i.val).toNat = j.val ∨ (9 < i.val ∧ (hexC i.val).toNat = j.val + 32)) ↔ hexD (UInt8.ofNat j.val) = some i.val := by decide +kernel
  have := H ⟨k, hk⟩ ⟨c.toNat, c.toNat_lt⟩
  simpa using this
theorem hexC_big (k : Nat) (hk : k < 16) (h9 : 9 < k) : 97 ≤ (hexC k).toNat ∧ (hexC k).toNat ≤ 102 := by
  have H : ∀ (i : Fin 16), 9 < i.val → 97 ≤ (hexC i.val).toNat ∧ (hexC i.val).toNat ≤ 102 := by decide
  exact H ⟨k, hk⟩ h9
theorem digs16_at : ∀ i : Fin 16, ([48, 49, 50, 51, 52, 53, 54, 55, 56, 57, 97, 98, 99, 100, 101, 102] : List UInt8)[i.val]? = some (hexC i.val) := by decide
theorem idx_hex16 (t : TypeId) (ht : Tryz.prog.underlying t = some .string) (k : IntKind) (i : Nat) (hi : i < 16) (w : World) :
    (Instr.index t (.string ⟨#[48, 49, 50, 51, 52, 53, 54, 55, 56, 57, 97, 98, 99, 100, 101, 102]⟩) (.int k (i : Int))).run Tryz.prog w = .ok (.int .u8 ((hexC i).toNat : Int)) w := by
  have hs : (⟨#[48, 49, 50, 51, 52, 53, 54, 55, 56, 57, 97, 98, 99, 100, 101, 102]⟩ : ByteArray).size = 16 := rfl
  rewrite [run_index_string w t _ k _ ht, dif_pos ⟨by omega, by rewrite [hs]; omega⟩]
  have e : ((i : Int)).toNat = i := by omega
  simp only [e]
  have := digs16_at ⟨i, hi⟩
  have h2 : (⟨#[48, 49, 50, 51, 52, 53, 54, 55, 56, 57, 97, 98, 99, 100, 101, 102]⟩ : ByteArray)[i]'(by rewrite [hs]; omega) = hexC i := by
    have h3 := (List.getElem?_eq_some_iff.1 this).2
    rewrite [← h3]
    rfl
  rw [h2]

set_option maxRecDepth 100000 in
set_option maxHeartbeats 4000000 in
theorem rdigit_any (c : UInt8) (w : World) :
    Calls Tryz.prog 105 #[.int .u8 c.toNat] w fun e w' => e = .returned (.int .i64 (digV c)) ∧ w = w' := by
  have hc := c.toNat_lt
  go_enter Tryz.func105, Tryz.ntmps105
  go_wp2_with fail
  go_loop [4] (fun i => ∃ k : Nat, i = .int .i64 k ∧ k ≤ 16 ∧ Hid (∀ j, j < k → hexD c ≠ some j)) (fun i => 16 - (intOf i).toNat)
  case atStart => exact ⟨0, rfl, by omega, Lib.hid (fun j hj => absurd hj (by omega))⟩
  case round =>
    obtain ⟨k, rfl, hk, H⟩ := hrel
    by_cases hlt : k < 16
    · have hix := fun W => idx_hex16 9 Tryz.underlying9 .i64 k hlt W
      have kI : (k : Int) < 16 := by omega
      have hat := hexD_at k hlt c
      have hX := (hexC k).toNat_lt
      by_cases h1 : (hexC k).toNat = c.toNat
      · have e1 : (((hexC k).toNat : Int) == (c.toNat : Int)) = true := by simp [h1]
        have HV : Hid (digV c = (k : Int)) := Lib.hid (by rw [digV, hat.1 (.inl h1)])
        clear hat h1
        generalize (hexC k).toNat = X at *
        go_wp2_with fail
        go_ret
        exact ⟨by rw [HV.out] <;> rfl, rfl⟩
      · have e1 : (((hexC k).toNat : Int) == (c.toNat : Int)) = false := by simpa using (by omega : ¬ ((hexC k).toNat : Int) = (c.toNat : Int))
        by_cases h9 : 9 < k
        · obtain ⟨g1, g2⟩ := hexC_big k hlt h9
          have d9 : (9 : Int) < (k : Int) := by omega
          by_cases h2 : (hexC k).toNat = c.toNat + 32
          · have e2 : (((hexC k).toNat : Int) - 32 == (c.toNat : Int)) = true := by simpa using (by omega : ((hexC k).toNat : Int) - 32 = (c.toNat : Int))
            have HV : Hid (digV c = (k : Int)) := Lib.hid (by rw [digV, hat.1 (.inr ⟨h9, h2⟩)])
            clear hat h1 h2 h9
            generalize (hexC k).toNat = X at *
            go_wp2_with fail
            go_ret
            exact ⟨by rw [HV.out] <;> rfl, rfl⟩
          · have e2 : (((hexC k).toNat : Int) - 32 == (c.toNat : Int)) = false := by simpa using (by omega : ¬ ((hexC k).toNat : Int) - 32 = (c.toNat : Int))
            have Hn : Hid (∀ j, j < k + 1 → hexD c ≠ some j) := Lib.hid fun j hj hd => by
              by_cases e : j = k
              · subst e
                rcases hat.2 hd with h | h <;> omega
              · exact H.out j (by omega) hd
            clear hat h1 h2 h9
            generalize (hexC k).toNat = X at *
            go_wp2_with fail
            go_round
            case rel => exact ⟨k + 1, by go_num, by omega, Lib.hid Hn.out⟩
            case measure => simp [intOf]; omega
        · have d9 : ¬ (9 : Int) < (k : Int) := by omega
          have Hn : Hid (∀ j, j < k + 1 → hexD c ≠ some j) := Lib.hid fun j hj hd => by
            by_cases e : j = k
            · subst e
              rcases hat.2 hd with h | h <;> omega
            · exact H.out j (by omega) hd
          clear hat h1 h9
          generalize (hexC k).toNat = X at *
          go_wp2_with fail
          go_round
          case rel => exact ⟨k + 1, by go_num, by omega, Lib.hid Hn.out⟩
          case measure => simp [intOf]; omega
    · obtain rfl : k = 16 := by omega
      have HV : Hid (digV c = -1) := Lib.hid (by
        rewrite [digV]
        cases hd : hexD c with
        | none => rfl
        | some d => exact absurd hd (H.out d (hexD_lt c d hd)))
      go_wp2_with fail
      go_ret
      exact ⟨by rw [HV.out] <;> rfl, rfl⟩

end Go.Proofs.YthbfcamfapgodaaGreatDoor

namespace Go.Proofs.YthbfcamfapgodaaGreatDoor
open Go.RowKit Go.Shelf Go.Lib

/-- What it answers beside a size that is told. -/
def sizPost (o : Option Nat) (w : World) (e : Ending) (w' : World) : Prop := w = w' ∧ ∃ (x : Int) (b : Bool), e = .returned (.tuple #[.int .i64 x, .bool b]) ∧ match o with
  | none => b = false
  | some n => b = true ∧ x = (n : Int)

theorem digV_yes {c : UInt8} {d : Nat} (h : hexD c = some d) : digV c = (d : Int) := by rw [digV, h]
theorem digV_no {c : UInt8} (h : hexD c = none) : digV c = -1 := by rw [digV, h]
theorem hv_take_succ (s : ByteArray) (k : Nat) (h : k < s.size) : hv 0 (s.data.toList.take (k + 1)) = hv 0 (s.data.toList.take k) * 16 + (hexD s[k]).getD 0 := by
  rw [take_snoc s k h, hv_snoc]

set_option maxRecDepth 100000 in
set_option maxHeartbeats 8000000 in
theorem rsize7_any (s : ByteArray) (w : World) (hs : s.size ≤ 100000) :
    Calls Tryz.prog 85 #[.string s] w (sizPost (sizeL s.data.toList) w) := by
  have hsz := Lib.size_eq s
  have HSz := Lib.hid hsz
  clear hsz
  go_enter Tryz.func85, Tryz.ntmps85
  go_wp2_with fail
  go_loop [4, 5] (fun n i => ∃ k a : Nat, n = .int .i64 (a : Int) ∧ i = .int .i64 k ∧ k ≤ s.size ∧ a ≤ 1099511627776 ∧ Hid (∀ c ∈ s.data.toList.take k, hexB c = true) ∧ Hid (k ≤ 8 → a = hv 0 (s.data.toList.take k))) (fun _ i => s.size - (intOf i).toNat)
  case atStart => exact ⟨0, 0, rfl, rfl, Nat.zero_le _, by omega, Lib.hid (by simp), Lib.hid (fun _ => rfl)⟩
  case round =>
    obtain ⟨k, a, rfl, rfl, hk, ha, H1, H2⟩ := hrel
    by_cases hgo : ∃ h : k < s.size, ∃ d, hexD s[k] = some d
    · obtain ⟨hlt, d, hd⟩ := hgo
      have cG := fun W => rdigit_any s[k] W
      rw [digV_yes hd] at cG
      have hd16 := hexD_lt _ _ hd
      obtain ⟨a2, ha2⟩ : ∃ a2, min (16 * a + d) 1099511627776 = a2 := ⟨_, rfl⟩
      have hmin : min (16 * (a : Int) + (d : Int)) 1099511627776 = (a2 : Int) := by omega
      have hkI : (k : Int) < (s.size : Int) := by omega
      have hk0 : (0 : Int) ≤ (k : Int) := by omega
      have Hn1 : Hid (∀ c ∈ s.data.toList.take (k + 1), hexB c = true) := Lib.hid fun c hc => by
        rw [take_snoc s k hlt] at hc
        rcases List.mem_append.1 hc with hc | hc
        · exact H1.out c hc
        · rw [List.mem_singleton] at hc
          rewrite [hc, hexB, hd]
          rfl
      have Hn2 : Hid (k + 1 ≤ 8 → a2 = hv 0 (s.data.toList.take (k + 1))) := Lib.hid fun h8 => by
        have h := H2.out (by omega)
        have hb := hv_lt (s.data.toList.take k) 0 0 (by decide)
        rw [List.length_take, Nat.zero_add] at hb
        have hb2 : hv 0 (s.data.toList.take k) < 16 ^ 7 := Nat.lt_of_lt_of_le hb (Nat.pow_le_pow_right (by omega) (by omega))
        have h7 : (16 : Nat) ^ 7 = 268435456 := by decide
        rewrite [hv_take_succ s k hlt, hd, ← h, Option.getD_some, ← ha2]
        omega
      have d0 : (0 : Int) ≤ (d : Int) := by omega
      have hm1 : 16 * (a : Int) ≤ 17592186044416 := by omega
      have ha2' : a2 ≤ 1099511627776 := by omega
      clear hd ha2 H1 H2
      go_wp2_with fail
      refine (cG _).mono ?_
      rintro e w1 ⟨rfl, rfl⟩
      go_wp2_with fail
      refine (cG _).mono ?_
      rintro e w1 ⟨rfl, rfl⟩
      go_wp2_with fail
      go_round
      case rel => exact ⟨k + 1, a2, by go_num, by go_num, by omega, ha2', Lib.hid Hn1.out, Lib.hid Hn2.out⟩
      case measure => simp [intOf]; omega
    · have HS : Hid (sizeL s.data.toList = sizR s.data.toList k) := Lib.hid (sizeL_eq _ k (by rewrite [← HSz.out]; exact hk) H1.out (fun c hc => by
        obtain ⟨h, hcc⟩ := List.getElem?_eq_some_iff.1 hc
        have hks : k < s.size := by rewrite [HSz.out]; exact h
        cases hd : hexD c with
        | none => rw [hexB, hd] <;> rfl
        | some d =>
          exfalso
          refine hgo ⟨hks, d, ?_⟩
          rewrite [show s[k] = c from hcc]
          exact hd))
      have hgo2 : k = s.size ∨ ∃ h : k < s.size, hexD s[k] = none := by
        by_cases h : k < s.size
        · right
          refine ⟨h, ?_⟩
          cases hd : hexD s[k] with
          | none => rfl
          | some d => exact absurd ⟨h, d, hd⟩ hgo
        · left; omega
      by_cases hA : k < 1 ∨ 8 < k
      · have HN : Hid (sizeL s.data.toList = none) := Lib.hid (by rw [HS.out, sizR, if_pos hA])
        rcases hA with hA | hA
        · have dA : (k : Int) < 1 := by omega
          rcases hgo2 with hk2 | ⟨hlt, hd⟩
          · have dk : ¬ (k : Int) < (s.size : Int) := by omega
            clear H1 H2 hgo HS hA hk2
            go_wp2_with fail
            refine bodyPost_ret (v := .tuple #[.int .i64 0, .bool false]) (by simp [results, Tryz.results85, go_sem]) rfl ⟨rfl, 0, false, rfl, ?_⟩
            rw [HN.out]
          · have cG := fun W => rdigit_any s[k] W
            rw [digV_no hd] at cG
            have dk : (k : Int) < (s.size : Int) := by omega
            have dk0 : (0 : Int) ≤ (k : Int) := by omega
            clear H1 H2 hgo HS hA hd
            go_wp2_with fail
            refine (cG _).mono ?_
            rintro e w1 ⟨rfl, rfl⟩
            go_wp2_with fail
            refine bodyPost_ret (v := .tuple #[.int .i64 0, .bool false]) (by simp [results, Tryz.results85, go_sem]) rfl ⟨rfl, 0, false, rfl, ?_⟩
            rw [HN.out]
        · have dA : ¬ (k : Int) < 1 := by omega
          have dB : (8 : Int) < (k : Int) := by omega
          rcases hgo2 with hk2 | ⟨hlt, hd⟩
          · have dk : ¬ (k : Int) < (s.size : Int) := by omega
            clear H1 H2 hgo HS hA hk2
            go_wp2_with fail
            refine bodyPost_ret (v := .tuple #[.int .i64 0, .bool false]) (by simp [results, Tryz.results85, go_sem]) rfl ⟨rfl, 0, false, rfl, ?_⟩
            rw [HN.out]
          · have cG := fun W => rdigit_any s[k] W
            rw [digV_no hd] at cG
            have dk : (k : Int) < (s.size : Int) := by omega
            have dk0 : (0 : Int) ≤ (k : Int) := by omega
            clear H1 H2 hgo HS hA hd
            go_wp2_with fail
            refine (cG _).mono ?_
            rintro e w1 ⟨rfl, rfl⟩
            go_wp2_with fail
            refine bodyPost_ret (v := .tuple #[.int .i64 0, .bool false]) (by simp [results, Tryz.results85, go_sem]) rfl ⟨rfl, 0, false, rfl, ?_⟩
            rw [HN.out]
      · have dA : ¬ (k : Int) < 1 := by omega
        have dB : ¬ (8 : Int) < (k : Int) := by omega
        have hav := H2.out (by omega)
        have HN : Hid (sizeL s.data.toList = if extR (s.data.toList.drop k) then some a else none) := Lib.hid (by rw [HS.out, sizR, if_neg hA, hav])
        obtain ⟨q, hq, hq2⟩ : ∃ q : Bool, ((k : Int) == (s.size : Int)) = q ∧ (s.data.toList.drop k).isEmpty = q := by
          refine ⟨_, rfl, ?_⟩
          by_cases hk2 : k = s.size
          · rewrite [List.drop_of_length_le (by rewrite [← HSz.out]; omega)]
            simp [hk2]
          · have h1 : s.data.toList.drop k ≠ [] := fun e => by
              have := congrArg List.length e
              rw [List.length_drop, ← HSz.out, List.length_nil] at this
              omega
            have h2 : (s.data.toList.drop k).isEmpty = false := by
              cases hx : s.data.toList.drop k with
              | nil => exact absurd hx h1
              | cons _ _ => rfl
            rewrite [h2]
            have h3 : ¬ (k : Int) = (s.size : Int) := by omega
            simpa using h3
        have HQ := Lib.hid hq2
        have hkI : (k : Int) ≤ (s.size : Int) := by omega
        have hxl : (s.extract k s.size).data.toList = s.data.toList.drop k := Lib.extract_to_end s k
        have hxs : (s.extract k s.size).size ≤ 100000 := by rewrite [Lib.size_eq, hxl, List.length_drop, ← HSz.out]; omega
        have HXL := Lib.hid (congrArg tlL hxl)
        generalize hXD : s.data.toList.drop k = XD at *
        clear hav H1 H2 hgo HS hA hq2 hxl hXD
        rcases hgo2 with hk2 | ⟨hlt, hd⟩
        · have dk : ¬ (k : Int) < (s.size : Int) := by omega
          clear hk2
          go_wp2_with fail
          generalize s.extract k s.size = r0 at *
          go_loop [6] (fun v => ∃ b : ByteArray, v = .string b ∧ b.size ≤ 100000 ∧ Hid (tlL b.data.toList = tlL XD)) (fun v => lenV v)
          case atStart => exact ⟨r0, rfl, hxs, Lib.hid HXL.out⟩
          case round =>
            obtain ⟨b, rfl, hbs, HB⟩ := hrel
            clear HXL hxs
            by_cases hb0 : b.size = 0
            · have hbl : b.data.toList = [] := List.eq_nil_of_length_eq_zero (by rw [← Lib.size_eq, hb0])
              have e1 : b.toList.isEmpty = true := by rw [Lib.toList_data, hbl] <;> rfl
              have HX : Hid (extR XD = q) := Lib.hid (by
                have h := HB.out
                rw [hbl] at h
                rewrite [extR, ← h]
                exact HQ.out)
              clear hbl hb0
              go_wp2_with fail
              refine bodyPost_ret (v := .tuple #[.int .i64 (a : Int), .bool q]) (by simp [results, Tryz.results85, go_sem]) rfl ⟨rfl, a, q, rfl, ?_⟩
              rewrite [HN.out, HX.out]
              cases q
              · rfl
              · exact ⟨rfl, rfl⟩
            · have hpos : 0 < b.size := by omega
              have hbl : b.data.toList = b[0] :: (b.extract 1 b.size).data.toList := by
                have := drop_cons_at b 0 hpos
                rw [List.drop_zero] at this
                rewrite [Lib.extract_to_end]
                exact this
              have e1 : b.toList.isEmpty = false := by rw [Lib.toList_data, hbl] <;> rfl
              have hes : (b.extract 1 b.size).size = b.size - 1 := by rw [Lib.size_eq, Lib.extract_to_end, List.length_drop, ← Lib.size_eq]
              have hI0 : (0 : Int) < (b.size : Int) := by omega
              have hI1 : (1 : Int) ≤ (b.size : Int) := by omega
              have B1 : ((b[0].toNat : Int) == 32) = (b[0] == 32) := byte_beq b[0] 32
              have B2 : ((b[0].toNat : Int) == 9) = (b[0] == 9) := byte_beq b[0] 9
              have B3 : ((b[0].toNat : Int) == 59) = (b[0] == 59) := byte_beq b[0] 59
              by_cases hc : blkB b[0] = true
              · have Hn : Hid (tlL (b.extract 1 b.size).data.toList = tlL XD) := Lib.hid (by
                  rw [← HB.out, hbl, show tlL (b[0] :: (b.extract 1 b.size).data.toList) = tlL (b.extract 1 b.size).data.toList by rewrite [tlL, List.dropWhile_cons_of_pos hc]; rfl])
                have HES := Lib.hid hes
                have hcc : (b[0] == 32 || b[0] == 9) = true := hc
                cases h32 : (b[0] == 32)
                · have h9 : (b[0] == 9) = true := by rw [h32, Bool.false_or] at hcc; exact hcc
                  rw [h32] at B1
                  rw [h9] at B2
                  clear hcc h32 h9 hc hbl hes B3
                  go_wp2_with fail
                  go_round
                  case rel => exact ⟨b.extract 1 b.size, rfl, by rewrite [HES.out]; omega, Lib.hid Hn.out⟩
                  case measure => simp only [lenV]; rewrite [HES.out]; omega
                · rw [h32] at B1
                  clear hcc h32 hc hbl hes B2 B3
                  go_wp2_with fail
                  go_round
                  case rel => exact ⟨b.extract 1 b.size, rfl, by rewrite [HES.out]; omega, Lib.hid Hn.out⟩
                  case measure => simp only [lenV]; rewrite [HES.out]; omega
              · have hcf : blkB b[0] = false := by simpa using hc
                have hcc : (b[0] == 32 || b[0] == 9) = false := hcf
                rw [Bool.or_eq_false_iff] at hcc
                rw [hcc.1] at B1
                rw [hcc.2] at B2
                have HX : Hid (extR XD = (b[0] == 59 && txtL (trimL (b.extract 1 b.size).data.toList))) := Lib.hid (by
                  rewrite [extR, ← HB.out]
                  conv => lhs; rw [hbl, show tlL (b[0] :: (b.extract 1 b.size).data.toList) = b[0] :: (b.extract 1 b.size).data.toList by rw [tlL, List.dropWhile_cons_of_neg (by rewrite [hcf]; decide)]])
                have cM := fun W => rtrim_any 100000 (b.extract 1 b.size) W (by omega) (by unfold maxLen; omega)
                have hml := trimL_le (b.extract 1 b.size).data.toList
                rw [← Lib.size_eq] at hml
                have cX := fun W => rtext_any (strB (trimL (b.extract 1 b.size).data.toList)) W (by unfold maxLen; rewrite [strB_size]; omega)
                rw [strB_data] at cX
                generalize txtL (trimL (b.extract 1 b.size).data.toList) = tx at *
                generalize strB (trimL (b.extract 1 b.size).data.toList) = TM at *
                generalize hz : (b[0] == 59) = z at *
                clear hbl hes hcc hcf hc hml hz HB
                cases z
                · go_wp2_with fail
                  refine bodyPost_ret (v := .tuple #[.int .i64 (a : Int), .bool false]) (by simp [results, Tryz.results85, go_sem]) rfl ⟨rfl, a, false, rfl, ?_⟩
                  rewrite [HN.out, HX.out]
                  rfl
                · go_wp2_with fail
                  refine (cM _).mono ?_
                  rintro e w2 ⟨rfl, rfl⟩
                  go_wp2_with fail
                  refine (cX _).mono ?_
                  rintro e w2 ⟨rfl, rfl⟩
                  go_wp2_with fail
                  refine bodyPost_ret (v := .tuple #[.int .i64 (a : Int), .bool tx]) (by simp [results, Tryz.results85, go_sem]) rfl ⟨rfl, a, tx, rfl, ?_⟩
                  rewrite [HN.out, HX.out]
                  cases tx
                  · rfl
                  · exact ⟨rfl, rfl⟩
        · have cG := fun W => rdigit_any s[k] W
          rw [digV_no hd] at cG
          have dk : (k : Int) < (s.size : Int) := by omega
          have dk0 : (0 : Int) ≤ (k : Int) := by omega
          clear hd
          go_wp2_with fail
          refine (cG _).mono ?_
          rintro e w1 ⟨rfl, rfl⟩
          clear cG
          go_wp2_with fail
          generalize s.extract k s.size = r0 at *
          go_loop [6] (fun v => ∃ b : ByteArray, v = .string b ∧ b.size ≤ 100000 ∧ Hid (tlL b.data.toList = tlL XD)) (fun v => lenV v)
          case atStart => exact ⟨r0, rfl, hxs, Lib.hid HXL.out⟩
          case round =>
            obtain ⟨b, rfl, hbs, HB⟩ := hrel
            clear HXL hxs
            by_cases hb0 : b.size = 0
            · have hbl : b.data.toList = [] := List.eq_nil_of_length_eq_zero (by rw [← Lib.size_eq, hb0])
              have e1 : b.toList.isEmpty = true := by rw [Lib.toList_data, hbl] <;> rfl
              have HX : Hid (extR XD = q) := Lib.hid (by
                have h := HB.out
                rw [hbl] at h
                rewrite [extR, ← h]
                exact HQ.out)
              clear hbl hb0
              go_wp2_with fail
              refine bodyPost_ret (v := .tuple #[.int .i64 (a : Int), .bool q]) (by simp [results, Tryz.results85, go_sem]) rfl ⟨rfl, a, q, rfl, ?_⟩
              rewrite [HN.out, HX.out]
              cases q
              · rfl
              · exact ⟨rfl, rfl⟩
            · have hpos : 0 < b.size := by omega
              have hbl : b.data.toList = b[0] :: (b.extract 1 b.size).data.toList := by
                have := drop_cons_at b 0 hpos
                rw [List.drop_zero] at this
                rewrite [Lib.extract_to_end]
                exact this
              have e1 : b.toList.isEmpty = false := by rw [Lib.toList_data, hbl] <;> rfl
              have hes : (b.extract 1 b.size).size = b.size - 1 := by rw [Lib.size_eq, Lib.extract_to_end, List.length_drop, ← Lib.size_eq]
              have hI0 : (0 : Int) < (b.size : Int) := by omega
              have hI1 : (1 : Int) ≤ (b.size : Int) := by omega
              have B1 : ((b[0].toNat : Int) == 32) = (b[0] == 32) := byte_beq b[0] 32
              have B2 : ((b[0].toNat : Int) == 9) = (b[0] == 9) := byte_beq b[0] 9
              have B3 : ((b[0].toNat : Int) == 59) = (b[0] == 59) := byte_beq b[0] 59
              by_cases hc : blkB b[0] = true
              · have Hn : Hid (tlL (b.extract 1 b.size).data.toList = tlL XD) := Lib.hid (by
                  rw [← HB.out, hbl, show tlL (b[0] :: (b.extract 1 b.size).data.toList) = tlL (b.extract 1 b.size).data.toList by rewrite [tlL, List.dropWhile_cons_of_pos hc]; rfl])
                have HES := Lib.hid hes
                have hcc : (b[0] == 32 || b[0] == 9) = true := hc
                cases h32 : (b[0] == 32)
                · have h9 : (b[0] == 9) = true := by rw [h32, Bool.false_or] at hcc; exact hcc
                  rw [h32] at B1
                  rw [h9] at B2
                  clear hcc h32 h9 hc hbl hes B3
                  go_wp2_with fail
                  go_round
                  case rel => exact ⟨b.extract 1 b.size, rfl, by rewrite [HES.out]; omega, Lib.hid Hn.out⟩
                  case measure => simp only [lenV]; rewrite [HES.out]; omega
                · rw [h32] at B1
                  clear hcc h32 hc hbl hes B2 B3
                  go_wp2_with fail
                  go_round
                  case rel => exact ⟨b.extract 1 b.size, rfl, by rewrite [HES.out]; omega, Lib.hid Hn.out⟩
                  case measure => simp only [lenV]; rewrite [HES.out]; omega
              · have hcf : blkB b[0] = false := by simpa using hc
                have hcc : (b[0] == 32 || b[0] == 9) = false := hcf
                rw [Bool.or_eq_false_iff] at hcc
                rw [hcc.1] at B1
                rw [hcc.2] at B2
                have HX : Hid (extR XD = (b[0] == 59 && txtL (trimL (b.extract 1 b.size).data.toList))) := Lib.hid (by
                  rewrite [extR, ← HB.out]
                  conv => lhs; rw [hbl, show tlL (b[0] :: (b.extract 1 b.size).data.toList) = b[0] :: (b.extract 1 b.size).data.toList by rw [tlL, List.dropWhile_cons_of_neg (by rewrite [hcf]; decide)]])
                have cM := fun W => rtrim_any 100000 (b.extract 1 b.size) W (by omega) (by unfold maxLen; omega)
                have hml := trimL_le (b.extract 1 b.size).data.toList
                rw [← Lib.size_eq] at hml
                have cX := fun W => rtext_any (strB (trimL (b.extract 1 b.size).data.toList)) W (by unfold maxLen; rewrite [strB_size]; omega)
                rw [strB_data] at cX
                generalize txtL (trimL (b.extract 1 b.size).data.toList) = tx at *
                generalize strB (trimL (b.extract 1 b.size).data.toList) = TM at *
                generalize hz : (b[0] == 59) = z at *
                clear hbl hes hcc hcf hc hml hz HB
                cases z
                · go_wp2_with fail
                  refine bodyPost_ret (v := .tuple #[.int .i64 (a : Int), .bool false]) (by simp [results, Tryz.results85, go_sem]) rfl ⟨rfl, a, false, rfl, ?_⟩
                  rewrite [HN.out, HX.out]
                  rfl
                · go_wp2_with fail
                  refine (cM _).mono ?_
                  rintro e w2 ⟨rfl, rfl⟩
                  go_wp2_with fail
                  refine (cX _).mono ?_
                  rintro e w2 ⟨rfl, rfl⟩
                  go_wp2_with fail
                  refine bodyPost_ret (v := .tuple #[.int .i64 (a : Int), .bool tx]) (by simp [results, Tryz.results85, go_sem]) rfl ⟨rfl, a, tx, rfl, ?_⟩
                  rewrite [HN.out, HX.out]
                  cases tx
                  · rfl
                  · exact ⟨rfl, rfl⟩

end Go.Proofs.YthbfcamfapgodaaGreatDoor
