/- The contract of the document's Spaces (sculleryref03): a text without those that it begins and ends with. · The contract of the document's Parse (sculleryref03). · The contract of the document's PrintParams (sculleryref03). · What the walks of the laws over package item begin with: the facts of an item that they are handed. · The contract of the document's PrintParams (sculleryref03), walked. · The contract of the document's Print (sculleryref03). -/
import Derived.Test.YtcjnigmklijjiaaGreatDoorGF
import Derived.Test.YtcjnigmklijjiaaGreatDoorGL
import Derived.Test.YtcjnigmklijjiaaGreatDoorGK
import Derived.Test.YtcjnigmklijjiaaGreatDoorGJ
import Derived.Test.YtcjnigmklijjiaaGreatDoorGG

namespace Go.Proofs.YtcjnigmklijjiaaGreatDoor
open Go.RowKit

theorem trimB_space (r : List UInt8) : Lib.trimB (32 :: r) 32 = Lib.trimB r 32 := by
  unfold Lib.trimB Lib.trimRightB Lib.trimLeftB
  rw [List.reverse_cons, List.dropWhile_append]
  split
  · rename_i h
    rw [List.isEmpty_iff] at h
    rw [h]
    simp
  · rw [List.reverse_append]
    simp

theorem trimB_last (l : List UInt8) : Lib.trimB (l ++ [32]) 32 = Lib.trimB l 32 := by
  unfold Lib.trimB Lib.trimRightB
  rw [List.reverse_append]
  simp

theorem last_snoc (s : ByteArray) (m : Nat) (h : s.size = m + 1) : s.data.toList = s.data.toList.take m ++ [s[m]'(by omega)] := by
  have h1 := List.take_append_drop m s.data.toList
  rw [drop_cons_at s m (by omega), List.drop_of_length_le (by rw [← Lib.size_eq]; omega)] at h1
  exact h1.symm

set_option maxRecDepth 100000 in
set_option maxHeartbeats 2000000 in
theorem rspaces_any (s : ByteArray) (w : World) (hs : s.size ≤ 100000) :
    Calls Tryz.prog 52 #[.string s] w fun e w' => e = .returned (.string (strB (Lib.trimB s.data.toList 32))) ∧ w = w' := by
  go_enter Tryz.func52, Tryz.ntmps52
  go_wp2_with fail
  go_loop [0] (fun v => ∃ T : ByteArray, v = .string T ∧ T.size ≤ s.size ∧ Hid (Lib.trimB T.data.toList 32 = Lib.trimB s.data.toList 32)) (fun v => Lib.strSize v)
  case atStart => exact ⟨s, rfl, Nat.le_refl _, Lib.hid rfl⟩
  case round =>
    obtain ⟨T, rfl, hT, H⟩ := hrel
    by_cases h0 : 0 < T.size
    · have hd := drop_cons_at T 0 h0
      rw [List.drop_zero] at hd
      have HD := Lib.hid hd
      clear hd
      cases hc : (((T[0]'h0).toNat : Int) == 32)
      · have hf : firstOk T.data.toList := ⟨_, _, HD.out, fun e => by
          rw [e] at hc
          exact absurd hc (by decide)⟩
        have HQ : Hid (T.data.toList = [] ∨ firstOk T.data.toList) := Lib.hid (.inr hf)
        clear hf
        go_wp2_with fail
        clear hc HD
        go_loop [0] (fun v => ∃ U : ByteArray, v = .string U ∧ U.size ≤ s.size ∧ Hid (Lib.trimB U.data.toList 32 = Lib.trimB s.data.toList 32) ∧ Hid (U.data.toList = [] ∨ firstOk U.data.toList)) (fun v => Lib.strSize v)
        case atStart => exact ⟨T, rfl, hT, H, HQ⟩
        case round =>
          clear HQ H
          obtain ⟨U, rfl, hU, H2, HQ2⟩ := hrel
          by_cases hu0 : 0 < U.size
          · obtain ⟨m, hm⟩ : ∃ m, U.size = m + 1 := ⟨U.size - 1, by omega⟩
            have hmlt : m < U.size := by omega
            have HL := Lib.hid (last_snoc U m hm)
            cases hc2 : (((U[m]'hmlt).toNat : Int) == 32)
            · have HR : Hid (strB (Lib.trimB s.data.toList 32) = U) := Lib.hid (by
                rw [← H2.out, trim_same U.data.toList ?_ ?_]
                · rfl
                · rcases HQ2.out with h | h
                  · have := congrArg List.length h
                    rw [← Lib.size_eq] at this
                    simp only [List.length_nil] at this
                    omega
                  · exact h
                · exact ⟨_, _, HL.out, fun e => by
                    rw [e] at hc2
                    exact absurd hc2 (by decide)⟩)
              go_wp2_with fail
              go_ret
              exact ⟨ret_eq (congrArg Value.string HR.out.symm), rfl⟩
            · have hU1 : (U.extract 0 m).data.toList = U.data.toList.take m := extract_take U m
              have hUs : (U.extract 0 m).size = m := by rw [Lib.size_eq, hU1, List.length_take, ← Lib.size_eq]; omega
              have HN : Hid (Lib.trimB (U.extract 0 m).data.toList 32 = Lib.trimB s.data.toList 32) := Lib.hid (by
                rw [hU1, ← H2.out, HL.out, show U[m]'hmlt = 32 from UInt8.toNat_inj.1 (by have h2 := eq_of_beq hc2; show U[m].toNat = 32; omega), trimB_last, List.take_append_of_le_length (by rw [List.length_take, ← Lib.size_eq]; omega), List.take_take, Nat.min_self])
              have HQ3 : Hid ((U.extract 0 m).data.toList = [] ∨ firstOk (U.extract 0 m).data.toList) := Lib.hid (by
                rw [hU1]
                rcases HQ2.out with h | ⟨c, r, h, hne⟩
                · rw [h]; simp
                · rw [h]
                  cases m with
                  | zero => exact .inl rfl
                  | succ m => exact .inr ⟨c, _, rfl, hne⟩)
              have HS2 := Lib.hid hUs
              clear hU1 hUs
              go_wp2_with fail
              go_round
              case rel => exact ⟨_, rfl, by rw [HS2.out]; omega, HN, HQ3⟩
              case measure => simp [Lib.strSize]; omega
          · have HR : Hid (strB (Lib.trimB s.data.toList 32) = U) := Lib.hid (by
              have he : U.data.toList = [] := List.eq_nil_of_length_eq_zero (by rw [← Lib.size_eq]; omega)
              rw [← H2.out, he]
              show strB [] = U
              rw [← he]; rfl)
            go_wp2_with fail
            go_ret
            exact ⟨ret_eq (congrArg Value.string HR.out.symm), rfl⟩
      · have hT1 : (T.extract 1 T.size).data.toList = T.data.toList.drop 1 := Lib.extract_to_end T 1
        have hsz : (T.extract 1 T.size).size = T.size - 1 := by rw [Lib.size_eq, hT1, List.length_drop, ← Lib.size_eq]
        have HN : Hid (Lib.trimB (T.extract 1 T.size).data.toList 32 = Lib.trimB s.data.toList 32) := Lib.hid (by
          rw [hT1, ← H.out, HD.out, show T[0]'h0 = 32 from UInt8.toNat_inj.1 (by have h2 := eq_of_beq hc; show T[0].toNat = 32; omega), trimB_space]
          rfl)
        have HS := Lib.hid hsz
        clear hT1 hsz
        go_wp2_with fail
        go_round
        case rel => exact ⟨_, rfl, by rw [HS.out]; omega, HN⟩
        case measure => simp [Lib.strSize]; omega
    · have he : T.data.toList = [] := List.eq_nil_of_length_eq_zero (by rw [← Lib.size_eq]; omega)
      have HQ : Hid (T.data.toList = [] ∨ firstOk T.data.toList) := Lib.hid (.inl he)
      clear he
      go_wp2_with fail
      go_loop [0] (fun v => ∃ U : ByteArray, v = .string U ∧ U.size ≤ s.size ∧ Hid (Lib.trimB U.data.toList 32 = Lib.trimB s.data.toList 32) ∧ Hid (U.data.toList = [] ∨ firstOk U.data.toList)) (fun v => Lib.strSize v)
      case atStart => exact ⟨T, rfl, hT, H, HQ⟩
      case round =>
        clear HQ H
        obtain ⟨U, rfl, hU, H2, HQ2⟩ := hrel
        by_cases hu0 : 0 < U.size
        · obtain ⟨m, hm⟩ : ∃ m, U.size = m + 1 := ⟨U.size - 1, by omega⟩
          have hmlt : m < U.size := by omega
          have HL := Lib.hid (last_snoc U m hm)
          cases hc2 : (((U[m]'hmlt).toNat : Int) == 32)
          · have HR : Hid (strB (Lib.trimB s.data.toList 32) = U) := Lib.hid (by
              rw [← H2.out, trim_same U.data.toList ?_ ?_]
              · rfl
              · rcases HQ2.out with h | h
                · have := congrArg List.length h
                  rw [← Lib.size_eq] at this
                  simp only [List.length_nil] at this
                  omega
                · exact h
              · exact ⟨_, _, HL.out, fun e => by
                  rw [e] at hc2
                  exact absurd hc2 (by decide)⟩)
            go_wp2_with fail
            go_ret
            exact ⟨ret_eq (congrArg Value.string HR.out.symm), rfl⟩
          · have hU1 : (U.extract 0 m).data.toList = U.data.toList.take m := extract_take U m
            have hUs : (U.extract 0 m).size = m := by rw [Lib.size_eq, hU1, List.length_take, ← Lib.size_eq]; omega
            have HN : Hid (Lib.trimB (U.extract 0 m).data.toList 32 = Lib.trimB s.data.toList 32) := Lib.hid (by
              rw [hU1, ← H2.out, HL.out, show U[m]'hmlt = 32 from UInt8.toNat_inj.1 (by have h2 := eq_of_beq hc2; show U[m].toNat = 32; omega), trimB_last, List.take_append_of_le_length (by rw [List.length_take, ← Lib.size_eq]; omega), List.take_take, Nat.min_self])
            have HQ3 : Hid ((U.extract 0 m).data.toList = [] ∨ firstOk (U.extract 0 m).data.toList) := Lib.hid (by
              rw [hU1]
              rcases HQ2.out with h | ⟨c, r, h, hne⟩
              · rw [h]; simp
              · rw [h]
                cases m with
                | zero => exact .inl rfl
                | succ m => exact .inr ⟨c, _, rfl, hne⟩)
            have HS2 := Lib.hid hUs
            clear hU1 hUs
            go_wp2_with fail
            go_round
            case rel => exact ⟨_, rfl, by rw [HS2.out]; omega, HN, HQ3⟩
            case measure => simp [Lib.strSize]; omega
        · have HR : Hid (strB (Lib.trimB s.data.toList 32) = U) := Lib.hid (by
            have he : U.data.toList = [] := List.eq_nil_of_length_eq_zero (by rw [← Lib.size_eq]; omega)
            rw [← H2.out, he]
            show strB [] = U
            rw [← he]; rfl)
          go_wp2_with fail
          go_ret
          exact ⟨ret_eq (congrArg Value.string HR.out.symm), rfl⟩

end Go.Proofs.YtcjnigmklijjiaaGreatDoor

namespace Go.Proofs.YtcjnigmklijjiaaGreatDoor
open Go.RowKit Go.Maps

def rparsePost (o : Option (Got × List Prm)) (w : World) (e : Ending) (w' : World) : Prop :=
  Below w.heap.size w w' ∧ match o with
    | none => e = .returned (.tuple #[.agg #[.int .i64 0, .int .i64 0, .string ⟨#[]⟩, .slice none 0 0], .int .i64 2])
    | some (g, ps) => ∃ v, e = .returned (.tuple #[.agg #[.int .i64 g.k, .int .i64 g.n, .string (strB g.s), v], .int .i64 0]) ∧ w'.ownsRow w.heap.size 98 4 v ps.length (rowP ps)

set_option maxRecDepth 100000 in
set_option maxHeartbeats 4000000 in
theorem rparse_any (s : ByteArray) (w : World) (hs : s.size ≤ 100000) :
    Calls Tryz.prog 16 #[.string s] w (rparsePost (parseL s.data.toList) w) := by
  have cT := fun W => rspaces_any s W hs
  have hb0 : Below w.heap.size w (w.alloc rzero) := (Below.refl _ _).alloc (Nat.le_refl _) _
  have HR0 := Lib.hid (ResI.rmade w)
  have hle := trimB_le s.data.toList 32
  rw [← Lib.size_eq] at hle
  have hTs := strB_size (Lib.trimB s.data.toList 32)
  have cR := fun W => rread_any (strB (Lib.trimB s.data.toList 32)) W (by omega)
  rw [strB_data] at cR
  have hP : parseL s.data.toList = (match itmL (Lib.trimB s.data.toList 32) with
    | none => none
    | some (g, ps, m) => if m < (Lib.trimB s.data.toList 32).length then none else some (g, ps)) := rfl
  rw [← hTs] at hP
  have hml := fun g ps m h => itmL_le (Lib.trimB s.data.toList 32) g ps m h
  rw [← hTs] at hml
  generalize itmL (Lib.trimB s.data.toList 32) = o at *
  generalize strB (Lib.trimB s.data.toList 32) = T at *
  have HPL := Lib.hid hP
  clear hP hle hTs
  cases o with
  | none =>
    go_enter Tryz.func16, Tryz.ntmps16
    go_wp2_with fail
    refine (cT _).mono ?_
    rintro e w1 ⟨rfl, rfl⟩
    go_wp2_with fail
    refine (cR _).mono ?_
    rintro e w2 ⟨hb2, rfl⟩
    have hR2 := HR0.out.next (by simpa using hb2)
    have hB2 := hb0.trans (hb2.mono hb0.size)
    have hlt2 := hR2.lt
    obtain ⟨r0, r1, r2, r3, g0, g1, g2, g3⟩ := hR2
    clear hb2 cR cT hml
    go_wp2_with fail
    refine bodyPost_ret (v := .tuple #[.agg #[.int .i64 0, .int .i64 0, .string ⟨#[]⟩, .slice none 0 0], .int .i64 2]) (by simp [results, Tryz.results16, go_sem, r0, r1, r2, r3, hlt2]) rfl ?_
    rw [HPL.out]
    refine ⟨?_, rfl⟩
    repeat (first | with_reducible refine Below.alloc ?_ (by simp; omega) _ | with_reducible refine Below.setCell ?_ (by simp) _)
    exact hB2
  | some x =>
    obtain ⟨g, ps, m⟩ := x
    have hm := hml g ps m rfl
    obtain ⟨gk, gn, gs, gm⟩ := g
    generalize hS : strB gs = S at *
    by_cases hlt : m < T.size
    · have hne : ((m : Int) != (T.size : Int)) = true := by simp; omega
      simp only [if_pos hlt] at HPL
      go_enter Tryz.func16, Tryz.ntmps16
      go_wp2_with fail
      refine (cT _).mono ?_
      rintro e w1 ⟨rfl, rfl⟩
      go_wp2_with fail
      refine (cR _).mono ?_
      rintro e w2 ⟨hb2, v2, rfl, hown2⟩
      have hR2 := HR0.out.next (by simpa using hb2)
      have hB2 := hb0.trans (hb2.mono hb0.size)
      have hlt2 := hR2.lt
      obtain ⟨ao, cap, rfl⟩ := owns_form hown2
      obtain ⟨r0, r1, r2, r3, g0, g1, g2, g3⟩ := hR2
      clear hb2 cR cT hml hown2
      go_wp2_with fail
      refine bodyPost_ret (v := .tuple #[.agg #[.int .i64 0, .int .i64 0, .string ⟨#[]⟩, .slice none 0 0], .int .i64 2]) (by simp [results, Tryz.results16, go_sem, r0, r1, r2, r3, hlt2]) rfl ?_
      rw [HPL.out]
      refine ⟨?_, rfl⟩
      repeat (first | with_reducible refine Below.alloc ?_ (by simp; omega) _ | with_reducible refine Below.setCell ?_ (by simp) _)
      exact hB2
    · have hne : ((m : Int) != (T.size : Int)) = false := by simp; omega
      simp only [if_neg hlt] at HPL
      have HS := Lib.hid hS
      clear hS
      go_enter Tryz.func16, Tryz.ntmps16
      go_wp2_with fail
      refine (cT _).mono ?_
      rintro e w1 ⟨rfl, rfl⟩
      go_wp2_with fail
      refine (cR _).mono ?_
      rintro e w2 ⟨hb2, v2, rfl, hown2⟩
      simp only
      rw [HS.out]
      have hR2 := HR0.out.next (by simpa using hb2)
      have hB2 := hb0.trans (hb2.mono hb0.size)
      have hlt2 := hR2.lt
      obtain ⟨ao, cap, rfl⟩ := owns_form hown2
      obtain ⟨r0, r1, r2, r3, g0, g1, g2, g3⟩ := hR2
      have HO := Lib.hid hown2
      clear hb2 cR cT hml hown2
      go_wp2_with fail
      refine bodyPost_ret (v := .tuple #[.agg #[.int .i64 gk, .int .i64 gn, .string S, .slice ao ps.length cap], .int .i64 0]) (by simp [results, Tryz.results16, go_sem, r0, r1, r2, r3, hlt2]) rfl ?_
      rw [HPL.out]
      refine ⟨?_, _, by rw [HS.out], ?_⟩
      · repeat (first | with_reducible refine Below.alloc ?_ (by simp; omega) _ | with_reducible refine Below.setCell ?_ (by simp) _ | with_reducible refine Below.drew ?_)
        exact hB2
      · refine ownsRow_low (ownsRow_moved HO.out (b := w.heap.size) ?_ (by simp)) (by simp)
        repeat (first | with_reducible refine Moved.drew1 ?_ | with_reducible refine Moved.alloc ?_ _ | with_reducible refine Moved.setCell ?_ _)
        exact Moved.refl _ _

end Go.Proofs.YtcjnigmklijjiaaGreatDoor

namespace Go.Proofs.YtcjnigmklijjiaaGreatDoor
open Go.RowKit

/-- Only the Boolean 1 has the text of it. -/
theorem text_is_one (k n : Int) (s : List UInt8) (h : rightL k n s = true) : textL k n s = [63, 49] ↔ k = 6 ∧ n = 1 := by
  constructor
  · intro e
    have h1 := readL_text k n s [] h rfl
    rw [List.append_nil, e] at h1
    have h2 : readL [63, 49] = some ⟨6, 1, [], 2⟩ := by kernel_rfl
    rw [h2] at h1
    have h3 := Option.some.inj h1
    rw [Got.mk.injEq] at h3
    exact ⟨h3.1.symm, h3.2.1.symm⟩
  · rintro ⟨rfl, rfl⟩
    show 63 :: Lib.itoa 1 = [63, 49]
    simp [Lib.itoa, Lib.decDigits_one]

theorem ppT_none_of (ps : List Prm) (i : Nat) (p : Prm) (hp : ps[i]? = some p) (h : pmT p = none) : ppT ps = none := by
  have : ∀ (l : List Prm) (i : Nat), l[i]? = some p → ppGo l = none := by
    intro l
    induction l with
    | nil => intro i hi; simp at hi
    | cons q l ih =>
      intro i hi
      cases i with
      | zero =>
        obtain rfl := Option.some.inj hi
        exact ppGo_none _ _ h
      | succ i =>
        cases hq : pmT q with
        | none => exact ppGo_none _ _ hq
        | some t =>
          rw [ppGo_some _ _ _ hq, ih i hi]
          rfl
  rw [ppT, this ps i hp]
  split <;> rfl

theorem ppT_none_dup (ps : List Prm) (i j : Nat) (p q : Prm) (hij : j < i) (hp : ps[i]? = some p) (hq : ps[j]? = some q) (h : q.key = p.key) : ppT ps = none := by
  have hd : eqK ps = true := by
    unfold eqK
    simp only [Bool.not_eq_true', decide_eq_false_iff_not]
    intro hn
    have h1 : (ps.map Prm.key)[i]? = some p.key := by rw [List.getElem?_map, hp]; rfl
    have h2 : (ps.map Prm.key)[j]? = some q.key := by rw [List.getElem?_map, hq]; rfl
    obtain ⟨hi, e1⟩ := List.getElem?_eq_some_iff.1 h1
    obtain ⟨hj, e2⟩ := List.getElem?_eq_some_iff.1 h2
    have := (List.getElem_inj (h₀ := hj) (h₁ := hi) hn).1 (by rw [e1, e2, h])
    omega
  rw [ppT, if_pos hd]

theorem take_next (ps : List Prm) (j : Nat) (p : Prm) (hp : ps[j]? = some p) : ps.take (j + 1) = ps.take j ++ [p] := by
  obtain ⟨hj, e⟩ := List.getElem?_eq_some_iff.1 hp
  rw [List.take_add_one, hp]
  rfl

theorem nodup_next (ps : List Prm) (j : Nat) (p : Prm) (hp : ps[j]? = some p) (hn : ((ps.take j).map Prm.key).Nodup) (hb : ∀ (m : Nat) (q : Prm), m < j → ps[m]? = some q → q.key ≠ p.key) : ((ps.take (j + 1)).map Prm.key).Nodup := by
  rw [take_next ps j p hp, List.map_append, List.nodup_append]
  refine ⟨hn, by simp, ?_⟩
  intro a ha b hb'
  simp only [List.map_cons, List.map_nil, List.mem_singleton] at hb'
  subst hb'
  obtain ⟨q, hq, rfl⟩ := List.mem_map.1 ha
  obtain ⟨m, hm⟩ := List.getElem?_of_mem hq
  rw [List.getElem?_take] at hm
  split at hm
  · rename_i hmj
    exact hb m q hmj hm
  · cases hm

theorem ppGo_next (ps : List Prm) (j : Nat) (p : Prm) (u v : List UInt8) (hp : ps[j]? = some p) (h : ppGo (ps.take j) = some u) (hv : pmT p = some v) : ppGo (ps.take (j + 1)) = some (u ++ v) := by
  rw [take_next ps j p hp]
  exact ppGo_snoc _ p u v h hv

theorem ppT_all (ps : List Prm) (u : List UInt8) (hn : (ps.map Prm.key).Nodup) (h : ppGo ps = some u) : ppT ps = some u := by
  have hd : eqK ps = false := by
    unfold eqK
    simp [hn]
  rw [ppT, hd, h]
  rfl

end Go.Proofs.YtcjnigmklijjiaaGreatDoor

namespace Go.Proofs.YtcjnigmklijjiaaGreatDoor
open Go.RowKit

abbrev itemObj (k n : Int) (s : ByteArray) (v : Value) : Obj := .cells #[.int .i64 k, .int .i64 n, .string s, v] 26

theorem InP.sum {ps : List Prm} (h : InP ps) : ∀ p ∈ ps, p.key.length + p.s.length ≤ 4611686018427387904 := fun p hp => by
  have := h.2 p hp
  omega

theorem InP.small {ps : List Prm} (h : InP ps) (hz : szN ps ≤ 500) : ∀ p ∈ ps, Small p := fun p hp => by
  have h1 := szN_mem ps p hp
  obtain ⟨_, _, h4, h5⟩ := h.2 p hp
  exact ⟨by omega, by omega, h4, h5⟩

theorem ok_small {N : Nat} {ps : List Prm} (hN : N ≤ 100000) (h : ∀ p ∈ ps, OkP N p) : ∀ p ∈ ps, Small p := fun p hp => by
  obtain ⟨h1, _, h3, h4⟩ := h p hp
  have := right_n _ _ _ h1
  exact ⟨by omega, by omega, by omega, by omega⟩

theorem item_later {w W : World} {k n : Int} {s : ByteArray} {v : Value} (hb : Below (w.heap.size + 1) (w.alloc (itemObj k n s v)) W) : Below w.heap.size w W :=
  ((Below.refl w.heap.size w).alloc (Nat.le_refl _) (itemObj k n s v)).trans (hb.mono (Nat.le_succ _))

/-- The cells of one of the parameters that lie in memory. -/
theorem Prms.at_ {w : World} {ao : Option Addr} {m cap : Nat} {ps : List Prm} (h : Prms w (.slice ao m cap) ps) (j : Nat) (p : Prm) (hp : ps[j]? = some p) :
    ∃ c off, ao = some ⟨c, off, none⟩ ∧ c < w.heap.size ∧ w.cell? ⟨c, off + j * 4, none⟩ = some (.string (strB p.key)) ∧ w.cell? ⟨c, off + j * 4 + 1, none⟩ = some (.int .i64 p.k) ∧ w.cell? ⟨c, off + j * 4 + 2, none⟩ = some (.int .i64 p.n) ∧ w.cell? ⟨c, off + j * 4 + 3, none⟩ = some (.string (strB p.s)) := by
  obtain ⟨ao1, cap1, hv, hc⟩ := h
  obtain ⟨rfl, _, rfl⟩ := Value.slice.inj hv
  rcases hc with hnil | ⟨c, off, rfl, hcell⟩
  · rw [hnil] at hp; cases hp
  · obtain ⟨x0, x1, x2, x3⟩ := rowP_at ps j p hp
    exact ⟨c, off, rfl, lt_of_cell (hcell _ _ x0), hcell _ _ x0, hcell _ _ x1, hcell _ _ x2, hcell _ _ x3⟩

theorem textV_none : textV none = .tuple #[.string ⟨#[]⟩, .int .i64 2] := rfl
theorem textV_some (t : List UInt8) : textV (some t) = .tuple #[.string (strB t), .int .i64 0] := rfl

theorem textV_form (o : Option (List UInt8)) : ∃ (X : ByteArray) (E : Int), textV o = .tuple #[.string X, .int .i64 E] ∧ ((∃ u, o = some u ∧ X = strB u ∧ E = 0) ∨ (o = none ∧ E = 2)) := by
  cases o with
  | none => exact ⟨_, _, rfl, .inr ⟨rfl, rfl⟩⟩
  | some u => exact ⟨_, _, rfl, .inl ⟨u, rfl, rfl, rfl⟩⟩

theorem item_next {w W W1 : World} {o : Obj} (c : Below (w.heap.size + 1) (w.alloc o) W) (hb : Below W.heap.size W W1) : Below (w.heap.size + 1) (w.alloc o) W1 :=
  c.trans (hb.mono (by simpa using c.size))
theorem item_made {w W : World} {o : Obj} (c : Below (w.heap.size + 1) (w.alloc o) W) (o1 : Obj) : Below (w.heap.size + 1) (w.alloc o) (W.alloc o1) :=
  c.alloc (by simpa using c.size) o1

theorem sameI_self (k n : Int) (s : List UInt8) (ps : List Prm) : sameI k n s ps k n s ps = true := by
  simp [sameI, (samePs_iff ps ps).2 rfl]

theorem parsePost_none (w : World) : parsePost none w = fun e w' => Below w.heap.size w w' ∧ e = .returned (.tuple #[.agg #[.int .i64 0, .int .i64 0, .string ⟨#[]⟩, .slice none 0 0], .int .i64 2]) := rfl
theorem parsePost_some (g : Got) (ps : List Prm) (w : World) : parsePost (some (g, ps)) w = fun e w' => Below w.heap.size w w' ∧ ∃ v, e = .returned (.tuple #[.agg #[.int .i64 g.k, .int .i64 g.n, .string (strB g.s), v], .int .i64 0]) ∧ w'.ownsRow w.heap.size 99 4 v ps.length (rowP ps) := rfl

set_option maxRecDepth 100000 in
theorem run_field_rparams (k n : Int) (s : ByteArray) (ao : Option Addr) (l cap : Nat) (w : World) : Sem.run Tryz.prog (Instr.field 32 (.agg #[.int .i64 k, .int .i64 n, .string s, .slice ao l cap]) 1) w = .ok (.slice ao l cap) w := by
  kernel_rfl

end Go.Proofs.YtcjnigmklijjiaaGreatDoor

namespace Go.Proofs.YtcjnigmklijjiaaGreatDoor
open Go.RowKit

theorem eq_strB (A : ByteArray) (l : List UInt8) (h : A.data.toList = l) : A = strB l := by
  subst h; rfl

set_option maxRecDepth 100000 in
set_option maxHeartbeats 4000000 in
theorem rprintParams_any (v : Value) (ps : List Prm) (w : World) (h : Prms w v ps) (hl : ps.length ≤ 100000) (hk : ∀ p ∈ ps, Small p) :
    Calls Tryz.prog 26 #[v] w (printPost (textV (ppT ps)) w) := by
  have HP := Lib.hid h
  obtain ⟨ao, cap, rfl, hc⟩ := h
  have HK := Lib.hid hk
  clear hc hk
  go_enter Tryz.func26, Tryz.ntmps26
  go_wp2_with fail
  go_loopw [4, 5] (fun s i wr => ∃ (j : Nat) (u : List UInt8), s = .string (strB u) ∧ i = .int .i64 j ∧ j ≤ ps.length ∧ Hid (ppGo (ps.take j) = some u) ∧ Hid (((ps.take j).map Prm.key).Nodup) ∧ Below w.heap.size w wr) (fun _ i _ => ps.length - (intOf i).toNat)
  case atStart => exact ⟨0, [], rfl, rfl, Nat.zero_le _, Lib.hid rfl, Lib.hid (by simp), Below.refl _ _⟩
  case round =>
    obtain ⟨j, u, rfl, rfl, hj, HU, HN, hb⟩ := hrel
    have HB := Lib.hid hb
    have hul : (strB u).size ≤ 40000000000 := by
      have := ppGo_len (ps.take j) u (fun p hp => HK.out p (List.mem_of_mem_take hp)) HU.out
      rw [List.length_take] at this
      rw [strB_size]; omega
    by_cases hlt : j < ps.length
    · obtain ⟨r, hr⟩ : ∃ r, ps[j]? = some r := ⟨_, List.getElem?_eq_getElem hlt⟩
      have hpw := HP.out.below hb
      have HPW := Lib.hid hpw
      obtain ⟨c, off, hao, hcl, a0, a1, a2, a3⟩ := hpw.at_ j r hr
      subst hao
      have jI : (j : Int) < (ps.length : Int) := by omega
      have j0 : (0 : Int) ≤ (j : Int) := by omega
      obtain ⟨hs1, hs2, _, _⟩ := HK.out r (List.mem_of_getElem? hr)
      have cPr := fun W => fprint_any r.k r.n (strB r.s) W (by rw [strB_size]; omega)
      rw [strB_data, printL] at cPr
      have cK := fun W => rkey_any (strB r.key) W (by rw [strB_size]; unfold maxLen; omega)
      rw [strB_data] at cK
      have HR := Lib.hid hr
      have hKs : (strB r.key).size ≤ 100000 := by rw [strB_size]; omega
      clear hb hpw hr
      cases h1 : rightL r.k r.n r.s with
      | false =>
        have HV : Hid (ppT ps = none) := Lib.hid (ppT_none_of ps j r HR.out (pmT_none r (.inl h1)))
        rw [h1, if_neg (by simp), textV_none] at cPr
        clear h1
        go_wp2_with fail
        refine (cPr _).mono ?_
        rintro e w1 ⟨rfl, hb1⟩
        go_wp2_with fail
        refine bodyPost_ret (v := textV none) (by simp [results, Tryz.results26, go_sem, textV_none]) rfl ⟨by rw [HV.out], HB.out.trans (hb1.mono HB.out.size)⟩
      | true =>
        have htl := textL_len _ _ _ h1
        rw [h1, if_pos rfl, textV_some] at cPr
        cases h2 : keyL r.key with
        | false =>
          have HV : Hid (ppT ps = none) := Lib.hid (ppT_none_of ps j r HR.out (pmT_none r (.inr h2)))
          rw [h2] at cK
          clear h1 h2
          go_wp2_with fail
          refine (cPr _).mono ?_
          rintro e w1 ⟨rfl, hb1⟩
          have b0 := cell_next hb1 a0
          go_wp2_with (go_at_call 22; refine (cK _).mono ?_; rintro e w' ⟨rfl, rfl⟩)
          refine bodyPost_ret (v := textV none) (by simp [results, Tryz.results26, go_sem, textV_none]) rfl ⟨by rw [HV.out], HB.out.trans (hb1.mono HB.out.size)⟩
        | true =>
          rw [h2] at cK
          have hTs : (strB (textL r.k r.n r.s)).size ≤ 300000 := by rw [strB_size]; omega
          go_wp2_with fail
          refine (cPr _).mono ?_
          rintro e w1 ⟨rfl, hb1⟩
          have b0 := cell_next hb1 a0
          have HB1 := Lib.hid (HB.out.trans (hb1.mono HB.out.size))
          have HPW1 := Lib.hid (HPW.out.below hb1)
          clear hb1 cPr a0 a1 a2 a3 HPW HB
          go_wp2_with (go_at_call 22; refine (cK _).mono ?_; rintro e w' ⟨rfl, rfl⟩)
          go_loopw [8] (fun x wr => ∃ m : Nat, x = .int .i64 m ∧ m ≤ j ∧ Hid (∀ (m' : Nat) (q : Prm), m' < m → ps[m']? = some q → q.key ≠ r.key) ∧ Below w1.heap.size w1 wr) (fun x _ => j - (intOf x).toNat)
          case atStart => exact ⟨0, rfl, Nat.zero_le _, Lib.hid (fun m q hm => absurd hm (Nat.not_lt_zero _)), Below.refl _ _⟩
          case round =>
            obtain ⟨m, rfl, hm, HD, hb2⟩ := hrel
            clear b0
            have HB2 := Lib.hid hb2
            have hpw2 := HPW1.out.below hb2
            obtain ⟨c2, off2, hao2, hcl2, b0, _, _, _⟩ := hpw2.at_ j r HR.out
            obtain ⟨rfl, rfl, _⟩ := Addr.mk.inj (Option.some.inj hao2)
            by_cases hmj : m < j
            · obtain ⟨q, hq⟩ : ∃ q, ps[m]? = some q := ⟨_, List.getElem?_eq_getElem (by omega)⟩
              obtain ⟨c3, off3, hao3, _, d0, _, _, _⟩ := hpw2.at_ m q hq
              obtain ⟨rfl, rfl, _⟩ := Addr.mk.inj (Option.some.inj hao3)
              have mI : (m : Int) < (ps.length : Int) := by omega
              have m0 : (0 : Int) ≤ (m : Int) := by omega
              have HQ := Lib.hid hq
              clear hb2 hpw2 hq hao2 hao3
              by_cases hkk : q.key = r.key
              · have HV : Hid (ppT ps = none) := Lib.hid (ppT_none_dup ps j m r q hmj HR.out HQ.out hkk)
                rw [hkk] at d0
                go_wp2_with fail
                go_quiet (fail)
                go_wp2_with fail
                refine bodyPost_ret (v := textV none) (by simp [results, Tryz.results26, go_sem, textV_none]) rfl ⟨by rw [HV.out], (HB1.out.trans (HB2.out.mono HB1.out.size)).trans ((below_drewN _ _).mono (HB1.out.trans (HB2.out.mono HB1.out.size)).size)⟩
              · have hT : ((strB q.key).toList == (strB r.key).toList) = false := by
                  rw [beq_eq_false_iff_ne]
                  intro h
                  exact hkk (by simpa only [Lib.toList_data, strB_data] using h)
                have HN2 : Hid (∀ (m' : Nat) (q' : Prm), m' < m + 1 → ps[m']? = some q' → q'.key ≠ r.key) := Lib.hid (fun m' q' hm' hq' => by
                  by_cases e : m' = m
                  · subst e
                    rw [HQ.out] at hq'
                    obtain rfl := Option.some.inj hq'
                    exact hkk
                  · exact HD.out m' q' (by omega) hq')
                clear hkk
                generalize strB q.key = QK at *
                go_wp2_with fail
                go_quiet (fail)
                go_wp2_with fail
                go_roundw
                case rel => exact ⟨m + 1, by go_num, by omega, HN2, HB2.out.trans ((below_drewN _ _).mono HB2.out.size)⟩
                case measure => simp [intOf]; omega
            · obtain rfl : m = j := by omega
              have HN2 : Hid (((ps.take (m + 1)).map Prm.key).Nodup) := Lib.hid (nodup_next ps m r HR.out HN.out HD.out)
              have HBw := Lib.hid (HB1.out.trans (HB2.out.mono HB1.out.size))
              clear hb2 hpw2 hao2
              by_cases h3 : r.k = 6 ∧ r.n = 1
              · have HU2 : Hid (ppGo (ps.take (m + 1)) = some (u ++ 59 :: r.key)) := Lib.hid (ppGo_next ps m r u _ HR.out HU.out (pmT_one r h1 h2 h3))
                have hte : ((strB (textL r.k r.n r.s)).toList == [63, 49]) = true := by
                  rw [Lib.toList_data, strB_data, (text_is_one _ _ _ h1).2 h3]; rfl
                have HE : Hid (strB u ++ (⟨#[59]⟩ : ByteArray) ++ strB r.key = strB (u ++ 59 :: r.key)) := Lib.hid (eq_strB _ _ (by simp [strB_data]))
                clear h1 h2 h3
                generalize strB r.key = RK at *
                generalize strB (textL r.k r.n r.s) = TX at *
                generalize hU : strB u = U at *
                go_wp2_with fail
                go_roundw
                case rel => exact ⟨m + 1, _, by rw [HE.out], by go_num, by omega, HU2, HN2, HBw.out⟩
                case measure => simp [intOf]; omega
              · have HU2 : Hid (ppGo (ps.take (m + 1)) = some (u ++ 59 :: (r.key ++ 61 :: textL r.k r.n r.s))) := Lib.hid (ppGo_next ps m r u _ HR.out HU.out (pmT_all r h1 h2 h3))
                have hte : ((strB (textL r.k r.n r.s)).toList == [63, 49]) = false := by
                  rw [Lib.toList_data, strB_data, beq_eq_false_iff_ne]
                  exact fun e => h3 ((text_is_one _ _ _ h1).1 e)
                have HE : Hid (strB u ++ (⟨#[59]⟩ : ByteArray) ++ strB r.key ++ (⟨#[61]⟩ : ByteArray) ++ strB (textL r.k r.n r.s) = strB (u ++ 59 :: (r.key ++ 61 :: textL r.k r.n r.s))) := Lib.hid (eq_strB _ _ (by simp [strB_data]))
                have hs1 : (strB u ++ (⟨#[59]⟩ : ByteArray) ++ strB r.key).size ≤ 50000000000 := by
                  have h59 : (⟨#[59]⟩ : ByteArray).size = 1 := rfl
                  simp only [ByteArray.size_append]
                  omega
                clear h1 h2 h3
                generalize strB r.key = RK at *
                generalize strB (textL r.k r.n r.s) = TX at *
                generalize hU : strB u = U at *
                go_wp2_with fail
                go_roundw
                case rel => exact ⟨m + 1, _, by rw [HE.out], by go_num, by omega, HU2, HN2, HBw.out⟩
                case measure => simp [intOf]; omega
    · obtain rfl : j = ps.length := by omega
      have HV : Hid (ppT ps = some u) := Lib.hid (by
        have h1 := HU.out
        have h2 := HN.out
        rw [List.take_length] at h1 h2
        exact ppT_all ps u h2 h1)
      clear hb
      go_wp2_with fail
      refine bodyPost_ret (v := textV (some u)) (by simp [results, Tryz.results26, go_sem, textV_some]) rfl ⟨by rw [HV.out], HB.out⟩

end Go.Proofs.YtcjnigmklijjiaaGreatDoor

namespace Go.Proofs.YtcjnigmklijjiaaGreatDoor
open Go.RowKit

theorem prT_none1 (k n : Int) (s : List UInt8) (ps : List Prm) (h : rightL k n s = false) : prT k n s ps = none := by rw [prT, h]; rfl
theorem prT_none2 (k n : Int) (s : List UInt8) (ps : List Prm) (h : ppT ps = none) : prT k n s ps = none := by
  rw [prT, h]
  split <;> rfl
theorem prT_both (k n : Int) (s u : List UInt8) (ps : List Prm) (h : rightL k n s = true) (h2 : ppT ps = some u) : prT k n s ps = some (textL k n s ++ u) := by rw [prT, if_pos h, h2]; rfl

set_option maxRecDepth 100000 in
set_option maxHeartbeats 4000000 in
theorem rprint_any (k n : Int) (s : List UInt8) (v : Value) (ps : List Prm) (w : World) (h : Prms w v ps) (hl : ps.length ≤ 100000) (hk : ∀ p ∈ ps, Small p) (hs : s.length ≤ 100000) :
    Calls Tryz.prog 24 #[.agg #[.int .i64 k, .int .i64 n, .string (strB s), v]] w (printPost (textV (prT k n s ps)) w) := by
  have hb0 : Below w.heap.size w (w.alloc (.cells #[.int .i64 k, .int .i64 n, .string (strB s), v] 32)) := (Below.refl _ _).alloc (Nat.le_refl _) _
  have cV := fun W => fprint_any k n (strB s) W (by rw [strB_size]; omega)
  rw [strB_data, printL] at cV
  have cP := fun W (hW : Prms W v ps) => rprintParams_any v ps W hW hl hk
  have HPr := Lib.hid h
  obtain ⟨ao, cap, rfl, hc⟩ := h
  clear hc
  have hpl : ∀ u, ppT ps = some u → (strB u).size ≤ 40000000000 := fun u hu => by
    have := ppGo_len ps u hk (ppT_some _ _ hu).2
    rw [strB_size]; omega
  have htl : rightL k n s = true → (strB (textL k n s)).size ≤ 300000 := fun hr => by
    have := textL_len _ _ _ hr
    rw [strB_size]; omega
  clear hl hk hs
  cases hr : rightL k n s with
  | false =>
    have HV := Lib.hid (prT_none1 k n s ps hr)
    rw [hr, if_neg (by simp), textV_none] at cV
    obtain ⟨X, E, hX, _⟩ := textV_form (ppT ps)
    rw [hX] at cP
    clear hr htl hpl hX
    generalize strB s = S at *
    go_enter Tryz.func24, Tryz.ntmps24
    go_wp2_with fail
    refine (cV _).mono ?_
    rintro e w1 ⟨rfl, hb1⟩
    have c0 := box_next (Below.refl _ _) hb1
    obtain ⟨p0, p1, p2, p3⟩ := box4 c0
    clear hb1
    go_wp2_with fail
    refine (cP _ (HPr.out.below (box_later c0))).mono ?_
    rintro e w2 ⟨rfl, hb2⟩
    replace c0 := box_next c0 hb2
    clear hb2
    go_wp2_with fail
    refine bodyPost_ret (v := textV none) (by simp [results, Tryz.results24, go_sem, textV_none]) rfl ⟨by rw [HV.out], box_later c0⟩
  | true =>
    rw [hr, if_pos rfl, textV_some] at cV
    have hT := htl hr
    cases hp : ppT ps with
    | none =>
      have HV := Lib.hid (prT_none2 k n s ps hp)
      rw [hp, textV_none] at cP
      clear hr htl hpl hp
      generalize strB s = S at *
      generalize strB (textL k n s) = TX at *
      go_enter Tryz.func24, Tryz.ntmps24
      go_wp2_with fail
      refine (cV _).mono ?_
      rintro e w1 ⟨rfl, hb1⟩
      have c0 := box_next (Below.refl _ _) hb1
      obtain ⟨p0, p1, p2, p3⟩ := box4 c0
      clear hb1
      go_wp2_with fail
      refine (cP _ (HPr.out.below (box_later c0))).mono ?_
      rintro e w2 ⟨rfl, hb2⟩
      replace c0 := box_next c0 hb2
      clear hb2
      go_wp2_with fail
      refine bodyPost_ret (v := textV none) (by simp [results, Tryz.results24, go_sem, textV_none]) rfl ⟨by rw [HV.out], box_later c0⟩
    | some u =>
      have HV := Lib.hid (prT_both k n s u ps hr hp)
      have hU := hpl u hp
      rw [hp, textV_some] at cP
      have HE : Hid (strB (textL k n s) ++ strB u = strB (textL k n s ++ u)) := Lib.hid (eq_strB _ _ (by simp [strB_data]))
      clear hr htl hpl hp
      generalize strB s = S at *
      generalize strB (textL k n s) = TX at *
      generalize strB u = U at *
      go_enter Tryz.func24, Tryz.ntmps24
      go_wp2_with fail
      refine (cV _).mono ?_
      rintro e w1 ⟨rfl, hb1⟩
      have c0 := box_next (Below.refl _ _) hb1
      obtain ⟨p0, p1, p2, p3⟩ := box4 c0
      clear hb1
      go_wp2_with fail
      refine (cP _ (HPr.out.below (box_later c0))).mono ?_
      rintro e w2 ⟨rfl, hb2⟩
      replace c0 := box_next c0 hb2
      clear hb2
      go_wp2_with fail
      refine bodyPost_ret (v := textV (some (textL k n s ++ u))) (by simp [results, Tryz.results24, go_sem, textV_some, HE.out]) rfl ⟨by rw [HV.out], box_later c0⟩

end Go.Proofs.YtcjnigmklijjiaaGreatDoor
