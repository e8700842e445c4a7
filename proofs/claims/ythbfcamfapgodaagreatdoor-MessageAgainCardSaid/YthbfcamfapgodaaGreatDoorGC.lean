/- Plain: numbers by sixteen, as texts and back. · The contracts of strconv.ParseUint at sixteen and sixty-four bits. · The contracts of strconv.ParseUint and strconv.FormatInt at sixteen. -/
import Derived.Test.YthbfcamfapgodaaGreatDoorG2
import Derived.Test.YthbfcamfapgodaaGreatDoorShelf
import Derived.Test.YthbfcamfapgodaaGreatDoorGA
import Derived.Lib.AtoiAllMem
import Derived.Lib.Hide
import Derived.Lib.ConvBytes
import Derived.Lib.SmallJoins
import Derived.Lib.Walk
import Derived.Laws.Strings3
import Derived.Laws.Closers25
import Derived.Laws.Closers25b
import Derived.WalkKit
import Derived.BigCall
import Derived.BigGuard
import Derived.Lib.ItoaWalk
import Derived.Laws.BitsLemmas

namespace Go.Proofs.YthbfcamfapgodaaGreatDoor
open Go.RowKit

/-- The number of a sign by sixteen, if it is one. -/
def hexD (c : UInt8) : Option Nat :=
  if 48 ≤ c.toNat ∧ c.toNat ≤ 57 then some (c.toNat - 48)
  else if 65 ≤ c.toNat ∧ c.toNat ≤ 70 then some (c.toNat - 55)
  else if 97 ≤ c.toNat ∧ c.toNat ≤ 102 then some (c.toNat - 87)
  else none
theorem hexD_lt (c : UInt8) (d : Nat) (h : hexD c = some d) : d < 16 := by
  unfold hexD at h
  split at h
  · have := Option.some.inj h; omega
  · split at h
    · have := Option.some.inj h; omega
    · split at h
      · have := Option.some.inj h; omega
      · cases h
/-- The number that signs by sixteen tell, behind one; or whether it is no number (true), or too great a one (false). -/
def par16 (acc : Nat) : List UInt8 → Except Bool Nat
  | [] => .ok acc
  | c :: cs => match hexD c with
    | none => .error true
    | some d => if 1152921504606846976 ≤ acc then .error false else par16 (acc * 16 + d) cs

/-- The sign of a number below sixteen. -/
def hexC (d : Nat) : UInt8 := if d < 10 then UInt8.ofNat (48 + d) else UInt8.ofNat (87 + d)
theorem hexD_hexC (d : Nat) (h : d < 16) : hexD (hexC d) = some d := by
  have : ∀ i : Fin 16, hexD (hexC i.val) = some i.val := by decide
  exact this ⟨d, h⟩
/-- A number by sixteen. -/
def hexL (n : Nat) : List UInt8 := if _ : n < 16 then [hexC n] else hexL (n / 16) ++ [hexC (n % 16)]
termination_by n
decreasing_by omega
theorem hexL_small (n : Nat) (h : n < 16) : hexL n = [hexC n] := by rw [hexL, dif_pos h]
theorem hexL_big (n : Nat) (h : ¬ n < 16) : hexL n = hexL (n / 16) ++ [hexC (n % 16)] := by rw [hexL, dif_neg h]
theorem hexL_len (j : Nat) : ∀ n, n < 16 ^ j → 0 < j → (hexL n).length ≤ j := by
  induction j with
  | zero => intro n _ h; omega
  | succ j ih =>
    intro n hn _
    by_cases h : n < 16
    · rewrite [hexL_small n h]; simp
    · rewrite [hexL_big n h, List.length_append, List.length_singleton]
      have hj : 0 < j := by
        cases j with
        | zero => simp at hn; omega
        | succ j => omega
      have := ih (n / 16) (by rw [Nat.pow_succ] at hn; omega) hj
      omega
theorem hexL_ne (n : Nat) : hexL n ≠ [] := by
  by_cases h : n < 16
  · rewrite [hexL_small n h]; simp
  · rewrite [hexL_big n h]; simp
theorem hexL_pos (n : Nat) : 0 < (hexL n).length := List.length_pos_iff.2 (hexL_ne n)
theorem hexC_hex (d : Nat) (h : d < 16) : (48 ≤ (hexC d).toNat ∧ (hexC d).toNat ≤ 57) ∨ (97 ≤ (hexC d).toNat ∧ (hexC d).toNat ≤ 102) := by
  have : ∀ i : Fin 16, (48 ≤ (hexC i.val).toNat ∧ (hexC i.val).toNat ≤ 57) ∨ (97 ≤ (hexC i.val).toNat ∧ (hexC i.val).toNat ≤ 102) := by decide
  exact this ⟨d, h⟩
theorem hexL_mem (n : Nat) : ∀ c ∈ hexL n, (48 ≤ c.toNat ∧ c.toNat ≤ 57) ∨ (97 ≤ c.toNat ∧ c.toNat ≤ 102) := by
  induction n using Nat.strongRecOn with
  | _ n ih =>
    intro c hc
    by_cases h : n < 16
    · rw [hexL_small n h, List.mem_singleton] at hc
      rewrite [hc]
      exact hexC_hex n h
    · rw [hexL_big n h] at hc
      rcases List.mem_append.1 hc with hc | hc
      · exact ih (n / 16) (by omega) c hc
      · rw [List.mem_singleton] at hc
        rewrite [hc]
        exact hexC_hex _ (by omega)

theorem par16_app : ∀ (l : List UInt8) (a n : Nat) (m : List UInt8), par16 a l = .ok n → par16 a (l ++ m) = par16 n m
  | [], a, n, m, h => by
    simp only [par16, Except.ok.injEq] at h
    rw [h, List.nil_append]
  | c :: l, a, n, m, h => by
    rewrite [List.cons_append, par16]
    rw [par16] at h
    cases hd : hexD c with
    | none => rw [hd] at h; cases h
    | some d =>
      rw [hd] at h
      dsimp only at h ⊢
      by_cases hr : 1152921504606846976 ≤ a
      · rw [if_pos hr] at h; cases h
      · rw [if_neg hr] at h ⊢
        exact par16_app l _ n m h
theorem par16_hexL (n : Nat) (h : n < 1152921504606846976) : par16 0 (hexL n) = .ok n := by
  induction n using Nat.strongRecOn with
  | _ n ih =>
    by_cases hs : n < 16
    · rewrite [hexL_small n hs, par16, hexD_hexC n hs]
      dsimp only
      rewrite [if_neg (by omega), par16]
      congr 1
      omega
    · rewrite [hexL_big n hs, par16_app _ _ _ _ (ih (n / 16) (by omega) (by omega)), par16, hexD_hexC _ (by omega)]
      dsimp only
      rewrite [if_neg (by omega), par16]
      congr 1
      omega
theorem par16_lt : ∀ (l : List UInt8) (a n j : Nat), par16 a l = .ok n → a < 16 ^ j → n < 16 ^ (j + l.length)
  | [], a, n, j, h, ha => by
    simp only [par16, Except.ok.injEq] at h
    rewrite [← h]
    exact ha
  | c :: l, a, n, j, h, ha => by
    rw [par16] at h
    cases hd : hexD c with
    | none => rw [hd] at h; cases h
    | some d =>
      rw [hd] at h
      dsimp only at h
      by_cases hr : 1152921504606846976 ≤ a
      · rw [if_pos hr] at h; cases h
      · rw [if_neg hr] at h
        have hdl := hexD_lt c d hd
        have := par16_lt l (a * 16 + d) n (j + 1) h (by rewrite [Nat.pow_succ]; omega)
        rewrite [List.length_cons, show j + (l.length + 1) = j + 1 + l.length by omega]
        exact this

/-- What the library's lower makes of a byte. -/
def lowO (c : UInt8) : Nat := c.toNat ||| 32
theorem lowO_facts : ∀ i : Fin 256, (bits .or .u8 (i.val : Int) 32 = ((i.val ||| 32 : Nat) : Int)) := by decide +kernel
theorem lowO_bits (c : UInt8) : bits .or .u8 (c.toNat : Int) 32 = (lowO c : Int) := lowO_facts ⟨c.toNat, c.toNat_lt⟩
theorem lowO_lt (c : UInt8) : lowO c < 256 := by
  have : ∀ i : Fin 256, (i.val ||| 32) < 256 := by decide +kernel
  exact this ⟨c.toNat, c.toNat_lt⟩
theorem hexD_letter (c : UInt8) (h : ¬ (48 ≤ c.toNat ∧ c.toNat ≤ 57)) : (hexD c = some (lowO c - 87) ∧ 97 ≤ lowO c ∧ lowO c ≤ 102) ∨ (hexD c = none ∧ (lowO c < 97 ∨ 103 ≤ lowO c)) := by
  have H : ∀ i : Fin 256, ¬ (48 ≤ i.val ∧ i.val ≤ 57) → ((if 65 ≤ i.val ∧ i.val ≤ 70 then some (i.val - 55) else if 97 ≤ i.val ∧ i.val ≤ 102 then some (i.val - 87) else none : Option Nat) = some ((i.val ||| 32) - 87) ∧ 97 ≤ (i.val ||| 32) ∧ (i.val ||| 32) ≤ 102) ∨ ((if 65 ≤ i.val ∧ i.val ≤ 70 then some (i.val - 55) else if 97 ≤ i.val ∧ i.val ≤ 102 then some (i.val - 87) else none : Option Nat) = none ∧ ((i.val ||| 32) < 97 ∨ 103 ≤ (i.val ||| 32))) := by decide +kernel
  have := H ⟨c.toNat, c.toNat_lt⟩ h
  unfold hexD lowO
  rewrite [if_neg h]
  exact this

end Go.Proofs.YthbfcamfapgodaaGreatDoor

namespace Go.Proofs.YthbfcamfapgodaaGreatDoor
open Go.RowKit Go.Shelf Go.Lib

theorem lower16_any (c : UInt8) (w : World) :
    Calls Tryz.prog 153 #[.int .u8 c.toNat] w fun e w' => e = .returned (.int .u8 (lowO c : Int)) ∧ w' = w := by
  have := Tryz.internal_strconv_lower (c.toNat : Int) w
  rw [lowO_bits] at this
  exact this

/-- What the library's inner ParseUint tells. -/
def uin16 : Except Bool Nat → Value
  | .ok n => .tuple #[.int .u64 n, .nilIface]
  | .error true => .tuple #[.int .u64 0, .iface 155 (.int .i64 2)]
  | .error false => .tuple #[.int .u64 18446744073709551615, .iface 155 (.int .i64 1)]

set_option maxHeartbeats 8000000 in
set_option maxRecDepth 100000 in
theorem parse16_any (t : ByteArray) (hne : t.size ≠ 0) (hmax : t.size ≤ 100000) (w : World) :
    Calls Tryz.prog 148 #[.string t, .int .i64 16, .int .i64 64] w fun e w' => e = .returned (uin16 (par16 0 t.data.toList)) ∧ Below w.heap.size w w' := by
  have hemp : t.toList.isEmpty = false := by
    rewrite [← decide_eq_emptyBytes]
    exact decide_eq_false (fun h => hne (by rw [h] <;> rfl))
  have hcv := Lib.run_convert_string_bytes (P := Tryz.prog) w 9 24 5 t (u := .string) Tryz.underlying9 Tryz.underlying24 Tryz.underlying5
  have hB : ∀ j, j < t.size → (Lib.bytesWorld w 5 t).cell? ⟨w.heap.size, j, none⟩ = some (.int .u8 (t.data.toList.getD j 0).toNat) := fun j hj => Lib.bytesWorld_cell w 5 t j hj
  have hbW : Below w.heap.size w (Lib.bytesWorld w 5 t) := Go.Joins.below_bytesWorld _ w 5 t (Nat.le_refl _)
  obtain ⟨W1, hW1⟩ : ∃ W1, W1 = Lib.bytesWorld w 5 t := ⟨_, rfl⟩
  rw [← hW1] at hcv hB hbW
  have HbW := Lib.hid hbW
  clear hW1 hbW
  obtain ⟨bs, hL⟩ : ∃ bs, bs = t.data.toList := ⟨_, rfl⟩
  have hLn : bs.length = t.size := by rw [hL, Lib.size_eq]
  rw [← hL] at hB ⊢
  clear hL
  have hmv : IntKind.u64.wrap (IntKind.u64.wrap 18446744073709551616 - 1) = 18446744073709551615 := by
    rewrite [IntKind.wrap_u64, IntKind.wrap_u64]
    decide
  go_enter Tryz.func148, Tryz.ntmps148
  go_wp2
  go_loop [12, 13, 101] (fun vu vn vi => ∃ (k acc : Nat) (a : Int), vu = .bool false ∧ vn = .int .u64 a ∧ vi = .int .i64 k ∧ k ≤ t.size ∧ Hid (a = (acc : Int) ∧ acc < 18446744073709551616 ∧ par16 0 bs = par16 acc (bs.drop k)))
    (fun _ _ vi => t.size - (intOf vi).toNat)
  case atStart => exact ⟨0, 0, 0, rfl, rfl, rfl, by omega, rfl, by omega, rfl⟩
  case round =>
    obtain ⟨k, acc, a, rfl, rfl, rfl, hk, hh⟩ := hrel
    obtain ⟨ha, hacc, hdec⟩ := hh.out
    clear hh
    have a0 : 0 ≤ a := by omega
    have a1 : a < 18446744073709551616 := by omega
    by_cases hkn : k < t.size
    · have hc := hB k hkn
      have hdrop : bs.drop k = bs[k]'(by omega) :: bs.drop (k + 1) := List.drop_eq_getElem_cons (by omega)
      have hget : bs.getD k 0 = bs[k]'(by omega) := by simp [List.getD, List.getElem?_eq_getElem (show k < bs.length by omega)]
      rw [hdrop] at hdec
      rw [hget] at hc
      generalize bs[k]'(by omega) = c at hc hdec
      have hc256 : c.toNat < 256 := c.toNat_lt
      have cL := fun W => lower16_any c W
      have hlo := lowO_lt c
      clear hB hdrop hget
      rw [par16] at hdec
      by_cases hdig : 48 ≤ c.toNat ∧ c.toNat ≤ 57
      · have hD : hexD c = some (c.toNat - 48) := by rw [hexD, if_pos hdig]
        rw [hD] at hdec
        dsimp only at hdec
        obtain ⟨hd0, hd1⟩ := hdig
        by_cases hcut : 1152921504606846976 ≤ acc
        · rw [if_pos hcut] at hdec
          have HD := Lib.hid hdec
          have icut : 1152921504606846976 ≤ a := by omega
          clear hcut hacc ha hdec hD cL hlo
          go_wp2
          go_ret2
          exact ⟨by rw [HD.out] <;> rfl, HbW.out⟩
        · rw [if_neg hcut] at hdec
          have HN : Hid (a * 16 + ((c.toNat : Int) - 48) = ((acc * 16 + (c.toNat - 48) : Nat) : Int) ∧ acc * 16 + (c.toNat - 48) < 18446744073709551616 ∧ par16 0 bs = par16 (acc * 16 + (c.toNat - 48)) (bs.drop (k + 1))) := Lib.hid ⟨by omega, by omega, hdec⟩
          have icut : a < 1152921504606846976 := by omega
          clear hcut hacc hdec ha hD cL hlo
          go_wp2
          refine ⟨⟨k + 1, acc * 16 + (c.toNat - 48), a * 16 + ((c.toNat : Int) - 48), rfl, (by first | rfl | (congr 1; omega)), (by first | rfl | (congr 1; omega)), by omega, HN⟩, by simp [intOf]; omega⟩
      · rcases hexD_letter c hdig with ⟨hD, hl1, hl2⟩ | ⟨hD, hl⟩
        · rw [hD] at hdec
          dsimp only at hdec
          have hndI : (48 : Int) ≤ (c.toNat : Int) → ¬ (c.toNat : Int) ≤ 57 := by omega
          have h95 : ((c.toNat : Int) == 95) = false := by
            have hx : ¬ c.toNat = 95 := fun h => by
              have : lowO c = 127 := by unfold lowO; rw [h] <;> rfl
              omega
            have : ¬ (c.toNat : Int) = 95 := by omega
            simpa using this
          generalize lowO c = lo at *
          by_cases hcut : 1152921504606846976 ≤ acc
          · rw [if_pos hcut] at hdec
            have HD := Lib.hid hdec
            have icut : 1152921504606846976 ≤ a := by omega
            clear hcut hacc ha hdec hD
            cases d1 : decide (48 ≤ (c.toNat : Int)) <;> cases d2 : decide ((c.toNat : Int) ≤ 57)
            all_goals first
              | (exfalso; have := of_decide_eq_true d1; have := of_decide_eq_true d2; omega)
              | (clear hndI hdig
                 go_wp2_with (go_at_call 153; refine (cL _).mono ?_; rintro e w' ⟨rfl, rfl⟩)
                 go_ret2
                 exact ⟨by rw [HD.out] <;> rfl, HbW.out⟩)
          · rw [if_neg hcut] at hdec
            have HN : Hid (a * 16 + ((lo : Int) - 87) = ((acc * 16 + (lo - 87) : Nat) : Int) ∧ acc * 16 + (lo - 87) < 18446744073709551616 ∧ par16 0 bs = par16 (acc * 16 + (lo - 87)) (bs.drop (k + 1))) := Lib.hid ⟨by omega, by omega, hdec⟩
            have icut : a < 1152921504606846976 := by omega
            clear hcut hacc hdec ha hD
            cases d1 : decide (48 ≤ (c.toNat : Int)) <;> cases d2 : decide ((c.toNat : Int) ≤ 57)
            all_goals first
              | (exfalso; have := of_decide_eq_true d1; have := of_decide_eq_true d2; omega)
              | (clear hndI hdig
                 go_wp2_with (go_at_call 153; refine (cL _).mono ?_; rintro e w' ⟨rfl, rfl⟩)
                 refine ⟨⟨k + 1, acc * 16 + (lo - 87), a * 16 + ((lo : Int) - 87), rfl, (by first | rfl | (congr 1; omega)), (by first | rfl | (congr 1; omega)), by omega, HN⟩, by simp [intOf]; omega⟩)
        · rw [hD] at hdec
          dsimp only at hdec
          have HD := Lib.hid hdec
          have hndI : (48 : Int) ≤ (c.toNat : Int) → ¬ (c.toNat : Int) ≤ 57 := by omega
          generalize lowO c = lo at *
          clear hacc ha hdec hD
          cases d1 : decide (48 ≤ (c.toNat : Int)) <;> cases d2 : decide ((c.toNat : Int) ≤ 57)
          all_goals first
            | (exfalso; have := of_decide_eq_true d1; have := of_decide_eq_true d2; omega)
            | (clear hndI hdig
               cases h95 : ((c.toNat : Int) == 95) <;> cases d3 : decide (97 ≤ (lo : Int)) <;> cases d4 : decide ((lo : Int) ≤ 122)
               all_goals first
                 | (have hlI : 103 ≤ (lo : Int) := by (have := of_decide_eq_true d3); omega)
                 | skip
               all_goals clear hl
               all_goals
                 go_wp2_with (go_at_call 153; refine (cL _).mono ?_; rintro e w' ⟨rfl, rfl⟩)
                 all_goals go_ret2
                 all_goals exact ⟨by rw [HD.out] <;> rfl, HbW.out⟩)
    · have hkk : k = t.size := by omega
      subst hkk
      have hF : par16 acc (bs.drop t.size) = .ok acc := by rw [List.drop_eq_nil_of_le (by omega)] <;> rfl
      rw [hF] at hdec
      have HD := Lib.hid hdec
      subst ha
      clear hacc hF a0 a1 hdec
      go_wp2
      go_ret2
      exact ⟨by rw [HD.out] <;> rfl, HbW.out⟩

end Go.Proofs.YthbfcamfapgodaaGreatDoor

namespace Go.Proofs.YthbfcamfapgodaaGreatDoor
open Go.RowKit Go.Shelf Go.Lib

/-- The library's error values lie. -/
def Errs (w : World) : Prop := (∃ ev, w.cell? ⟨6, 0, none⟩ = some ev ∧ (ev = .nilIface ∨ ∃ te pe, ev = .iface te pe)) ∧ (∃ ev, w.cell? ⟨7, 0, none⟩ = some ev ∧ (ev = .nilIface ∨ ∃ te pe, ev = .iface te pe))
theorem Errs.below {w w' : World} (h : Errs w) (hb : Below w.heap.size w w') : Errs w' := by
  obtain ⟨⟨e1, h1, g1⟩, e2, h2, g2⟩ := h
  exact ⟨⟨e1, (hb.cell (p := ⟨_, 0, none⟩) (lt_of_cell h1)).trans h1, g1⟩, e2, (hb.cell (p := ⟨_, 0, none⟩) (lt_of_cell h2)).trans h2, g2⟩

/-- The number that a text tells by sixteen; or the library's error. -/
def num16 (l : List UInt8) : Except Bool Nat := if l = [] then .error true else par16 0 l
def puiPost (o : Except Bool Nat) (w : World) (e : Ending) (w' : World) : Prop := Below w.heap.size w w' ∧ match o with
  | .ok n => e = .returned (.tuple #[.int .u64 n, .nilIface])
  | _ => ∃ (x : Int) (N : Nat), e = .returned (.tuple #[.int .u64 x, .iface 157 (.pointer (some ⟨N, 0, none⟩))])

set_option maxHeartbeats 4000000 in
set_option maxRecDepth 100000 in
theorem inner16_any (t : ByteArray) (hmax : t.size ≤ 100000) (w : World) :
    Calls Tryz.prog 148 #[.string t, .int .i64 16, .int .i64 64] w fun e w' => e = .returned (uin16 (num16 t.data.toList)) ∧ Below w.heap.size w w' := by
  by_cases h : t.size = 0
  · have h1 : t.data.toList = [] := List.eq_nil_of_length_eq_zero (by rw [← Lib.size_eq, h])
    have h2 : t = ⟨#[]⟩ := by
      rw [← Lib.mk_data t, h1]
    subst h2
    go_enter Tryz.func148, Tryz.ntmps148
    go_wp2
    go_ret2
    exact ⟨rfl, Below.refl _ _⟩
  · have h1 : t.data.toList ≠ [] := fun e => h (by rw [Lib.size_eq, e] <;> rfl)
    rewrite [num16, if_neg h1]
    exact parse16_any t h hmax w

set_option maxHeartbeats 4000000 in
set_option maxRecDepth 100000 in
theorem pint_any (t : ByteArray) (hmax : t.size ≤ 100000) (w : World) (hE : Errs w) :
    Calls Tryz.prog 137 #[.string t, .int .i64 16, .int .i64 64] w (puiPost (num16 t.data.toList) w) := by
  have cI := inner16_any t hmax w
  have HE := Lib.hid hE
  clear hE
  generalize num16 t.data.toList = O at *
  cases O with
  | ok n =>
    go_enter Tryz.func137, Tryz.ntmps137
    go_wp2_with fail
    refine cI.mono ?_
    rintro e w1 ⟨rfl, hb1⟩
    unfold uin16
    go_wp2_with fail
    exact bodyPost_ret (v := .tuple #[.int .u64 n, .nilIface]) (by simp [results, Tryz.results137, go_sem]) rfl ⟨hb1, rfl⟩
  | error b =>
    cases b
    · go_enter Tryz.func137, Tryz.ntmps137
      go_wp2_with fail
      refine cI.mono ?_
      rintro e w1 ⟨rfl, hb1⟩
      obtain ⟨_, e1, h1, g1⟩ := HE.out.below hb1
      unfold uin16
      go_wp2_with fail
      refine (Tryz.strconv_toError_range _ t _ _ e1 w1 (by omega) h1 g1).mono ?_
      rintro e w2 ⟨N, rfl, _, _, hb2⟩
      go_wp2_with fail
      exact bodyPost_ret (v := .tuple #[.int .u64 18446744073709551615, .iface 157 (.pointer (some ⟨N, 0, none⟩))]) (by simp [results, Tryz.results137, go_sem]) rfl ⟨hb1.trans (hb2.mono hb1.size), _, N, rfl⟩
    · go_enter Tryz.func137, Tryz.ntmps137
      go_wp2_with fail
      refine cI.mono ?_
      rintro e w1 ⟨rfl, hb1⟩
      obtain ⟨⟨e1, h1, g1⟩, _⟩ := HE.out.below hb1
      unfold uin16
      go_wp2_with fail
      refine (Tryz.strconv_toError_syntax _ t _ _ e1 w1 (by omega) h1 g1).mono ?_
      rintro e w2 ⟨N, rfl, _, _, hb2⟩
      go_wp2_with fail
      exact bodyPost_ret (v := .tuple #[.int .u64 0, .iface 157 (.pointer (some ⟨N, 0, none⟩))]) (by simp [results, Tryz.results137, go_sem]) rfl ⟨hb1.trans (hb2.mono hb1.size), 0, N, rfl⟩

end Go.Proofs.YthbfcamfapgodaaGreatDoor
