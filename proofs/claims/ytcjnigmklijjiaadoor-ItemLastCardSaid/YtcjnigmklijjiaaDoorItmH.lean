/- The contracts of item.parserOf and item.Parse. -/
import Derived.Test.YtcjnigmklijjiaaDoorItmG
namespace Go.Proofs.YtcjnigmklijjiaaDoor
open Go.RowKit

set_option maxHeartbeats 1000000 in
theorem parserOf_any (s : ByteArray) (w : World) :
    Calls Tryd.prog 15 #[.string s] w fun e w' => e = .returned (.agg #[.string s, .int .i64 0]) ∧ Below w.heap.size w w' := by
  go_enter Tryd.func15, Tryd.ntmps15
  go_wp2
  exact bodyPost_ret (v := .agg #[.string s, .int .i64 0]) (by simp [results, Tryd.results15, go_sem]) rfl ⟨rfl, (Below.refl _ _).alloc (Nat.le_refl _) _⟩

theorem Par.made (w : World) (t : ByteArray) : Par (w.alloc (.cells #[.string t, .int .i64 0] 52)) w.heap.size t 0 := ⟨by simp, by simp, by simp, by simp⟩

theorem trim_any (s : ByteArray) (w : World) (hs : s.size ≤ 100000) :
    Calls Tryd.prog 16 #[.string s, .string ⟨#[32]⟩] w fun e w' => e = .returned (.string (strB (Lib.trimB s.data.toList 32))) ∧ Below w.heap.size w w' := by
  refine (Tryd.strings_Trim_one s 32 (by decide) w (by omega)).mono ?_
  rintro e w' ⟨rfl, rfl | rfl⟩
  · exact ⟨rfl, Below.refl _ _⟩
  · exact ⟨rfl, (Below.refl _ _).drew⟩

theorem trimB_le (l : List UInt8) (c : UInt8) : (Lib.trimB l c).length ≤ l.length := by
  have h1 := trimRightB_le l c
  have h2 : (Lib.trimLeftB (Lib.trimRightB l c) c).length ≤ (Lib.trimRightB l c).length := (List.dropWhile_sublist _).length_le
  exact Nat.le_trans h2 h1

theorem parL_le (l : List UInt8) (p : Prm) (n : Nat) (h : parL l = some (p, n)) : n ≤ l.length := by
  have hs := spc_le l
  have hk := klen_le (l.drop (spcL l))
  rw [List.length_drop] at hk
  unfold parL at h
  split at h
  · cases h
  · split at h
    · rename_i h61
      have hlt : spcL l + klen (l.drop (spcL l)) < l.length := by
        by_cases hc : spcL l + klen (l.drop (spcL l)) < l.length
        · exact hc
        · rw [List.drop_of_length_le (by omega)] at h61; cases h61
      split at h
      · cases h
      · rename_i g hg
        have hm := (readL_right _ g hg).2.2.1
        rw [List.length_drop] at hm
        have := congrArg (fun o => o.map (fun x => x.2)) h
        simp only [Option.map_some, Option.some.injEq] at this
        omega
    · have := congrArg (fun o => o.map (fun x => x.2)) h
      simp only [Option.map_some, Option.some.injEq] at this
      omega

theorem psL_le (n : Nat) : ∀ (l : List UInt8) (acc : List Prm) (m : Nat) (ps : List Prm) (k : Nat), l.length ≤ n → psL l acc m = some (ps, k) → k ≤ m + l.length := by
  induction n with
  | zero =>
    intro l acc m ps k hl h
    have : l = [] := List.eq_nil_of_length_eq_zero (by omega)
    subst this
    rw [psL_end _ _ _ (by simp)] at h
    have := congrArg (fun o => o.map (fun x => x.2)) h
    simp only [Option.map_some, Option.some.injEq] at this
    omega
  | succ n ih =>
    intro l acc m ps k hl h
    by_cases h59 : l.head? = some 59
    · cases hp : parL (l.drop 1) with
      | none => rw [psL_none _ _ _ h59 hp] at h; cases h
      | some pn =>
        obtain ⟨p, j⟩ := pn
        have hj := parL_le _ p j hp
        have hlen : 1 ≤ l.length := by
          cases l with
          | nil => simp at h59
          | cons c r => simp
        rw [List.length_drop] at hj
        rw [psL_some _ _ _ p j h59 hp] at h
        have := ih (l.drop (1 + j)) (putL acc p) (m + 1 + j) ps k (by rw [List.length_drop]; omega) h
        rw [List.length_drop] at this
        omega
    · rw [psL_end _ _ _ h59] at h
      have := congrArg (fun o => o.map (fun x => x.2)) h
      simp only [Option.map_some, Option.some.injEq] at this
      omega

theorem itmL_le (l : List UInt8) (g : Got) (ps : List Prm) (m : Nat) (h : itmL l = some (g, ps, m)) : m ≤ l.length := by
  unfold itmL at h
  split at h
  · cases h
  · rename_i g' hg
    have h1 := (readL_right _ g' hg).2.2.1
    split at h
    · cases h
    · rename_i ps' m' hp
      have h2 := psL_le _ _ _ _ _ _ (Nat.le_refl _) hp
      rw [List.length_drop] at h2
      have := congrArg (fun o => o.map (fun x => x.2.2)) h
      simp only [Option.map_some, Option.some.injEq] at this
      omega

/-- The item that a text is, apart from spaces around it. -/
def parseL (l : List UInt8) : Option (Got × List Prm) := match itmL (Lib.trimB l 32) with
  | none => none
  | some (g, ps, m) => if m < (Lib.trimB l 32).length then none else some (g, ps)

def parsePost (o : Option (Got × List Prm)) (w : World) (e : Ending) (w' : World) : Prop :=
  Below w.heap.size w w' ∧ match o with
    | none => e = .returned (.tuple #[.agg #[.int .i64 0, .int .i64 0, .string ⟨#[]⟩, .slice none 0 0], .int .i64 2])
    | some (g, ps) => ∃ v, e = .returned (.tuple #[.agg #[.int .i64 g.k, .int .i64 g.n, .string (strB g.s), v], .int .i64 0]) ∧ w'.ownsRow w.heap.size 41 4 v ps.length (rowP ps)

set_option maxRecDepth 100000 in
set_option maxHeartbeats 2000000 in
theorem parse_any (s : ByteArray) (w : World) (hs : s.size ≤ 100000) (hA : Alph w) :
    Calls Tryd.prog 9 #[.string s] w (parsePost (parseL s.data.toList) w) := by
  have hgl : 0 < w.heap.size := lt_of_cell (hA 0 (by decide))
  have HA := Lib.hid hA
  have hb0 : Below w.heap.size w (w.alloc zeroItem) := (Below.refl _ _).alloc (Nat.le_refl _) _
  have HR0 := Lib.hid (ResI.made w)
  have cT := fun W => trim_any s W hs
  have hle := trimB_le s.data.toList 32
  rw [← Lib.size_eq] at hle
  obtain ⟨T, hT⟩ : ∃ T, strB (Lib.trimB s.data.toList 32) = T := ⟨_, rfl⟩
  rw [hT] at cT
  have hTd : T.data.toList = Lib.trimB s.data.toList 32 := by rw [← hT]; rfl
  have hTs : T.size ≤ 100000 := by rw [Lib.size_eq, hTd]; omega
  have HL : Hid (parseL s.data.toList = match itmL T.data.toList with
      | none => none
      | some (g, ps, m) => if m < T.size then none else some (g, ps)) := Lib.hid (by rw [parseL, Lib.size_eq, hTd])
  clear hA hT hTd hle
  go_enter Tryd.func9, Tryd.ntmps9
  go_wp2_with fail
  refine (cT _).mono ?_
  rintro e w1 ⟨rfl, hb1⟩
  go_wp2_with fail
  refine (parserOf_any _ _).mono ?_
  rintro e w2 ⟨rfl, hb2⟩
  have hb12 := hb1.trans (hb2.mono hb1.size)
  have hbw := hb0.trans (hb12.mono hb0.size)
  have hz2 : w.heap.size < w2.heap.size := by have := hb12.size; simp at this; omega
  have hR2 := HR0.out.moved (Moved.of_below (b := w2.heap.size) hb12) (by omega)
  have cI := item_any w2.heap.size T 0 (w2.alloc (.cells #[.string T, .int .i64 0] 52)) (Par.made w2 T) hTs (Nat.zero_le _) (HA.out.below (hbw.alloc hbw.size _)) (by omega)
  rw [List.drop_zero] at cI
  have HBw := Lib.hid (hbw.alloc hbw.size (.cells #[.string T, .int .i64 0] 52))
  have HR2 := Lib.hid hR2
  clear hb1 hb2 hb12 hbw hR2 cT HR0 hb0
  cases hit : itmL T.data.toList with
  | none =>
    rw [hit] at cI
    have HN : Hid (parseL s.data.toList = none) := Lib.hid (by rw [HL.out, hit])
    clear hit HL
    go_wp2_with fail
    refine cI.mono ?_
    rintro e w3 ⟨hM3, rfl⟩
    have hR3 := (HR2.out.moved ((Moved.refl w2.heap.size w2).alloc _) (by omega)).moved hM3 (by omega)
    have hB3 := HBw.out.trans (hM3.below (by omega) (by simp; omega))
    have hlt3 := hR3.lt
    obtain ⟨r0, r1, r2, r3, g0, g1, g2, g3⟩ := hR3
    clear cI hM3 HBw HR2
    go_wp2_with fail
    refine bodyPost_ret (v := .tuple #[.agg #[.int .i64 0, .int .i64 0, .string ⟨#[]⟩, .slice none 0 0], .int .i64 2]) (by simp [results, Tryd.results9, go_sem, r0, r1, r2, r3, hlt3]) rfl ?_
    refine ⟨?_, by rw [HN.out]⟩
    repeat (first | with_reducible refine Below.alloc ?_ (by simp; omega) _ | with_reducible refine Below.setCell ?_ (by simp) _)
    exact hB3
  | some x =>
    obtain ⟨g, ps, m⟩ := x
    have hml := itmL_le _ g ps m hit
    rw [← Lib.size_eq] at hml
    rw [hit] at cI
    by_cases hm : m < T.size
    · have HN : Hid (parseL s.data.toList = none) := Lib.hid (by rw [HL.out, hit]; simp only [if_pos hm])
      clear hit HL
      go_wp2_with fail
      refine cI.mono ?_
      rintro e w3 ⟨hM3, v, rfl, hown, hP3⟩
      rw [Nat.zero_add] at hP3
      obtain ⟨ao, cap, rfl⟩ := owns_form hown
      have hR3 := (HR2.out.moved ((Moved.refl w2.heap.size w2).alloc _) (by omega)).moved hM3 (by omega)
      have hB3 := HBw.out.trans (hM3.below (by omega) (by simp; omega))
      have hlt3 := hR3.lt
      have hlt4 : w2.heap.size < w3.heap.size := hP3.lt
      obtain ⟨r0, r1, r2, r3, g0, g1, g2, g3⟩ := hR3
      have c0 := hP3.text
      have c1 := hP3.at_
      clear cI hM3 HBw HR2 hP3 hown
      go_wp2_with fail
      refine bodyPost_ret (v := .tuple #[.agg #[.int .i64 0, .int .i64 0, .string ⟨#[]⟩, .slice none 0 0], .int .i64 2]) (by simp [results, Tryd.results9, go_sem, r0, r1, r2, r3, hlt3]) rfl ?_
      refine ⟨?_, by rw [HN.out]⟩
      repeat (first | with_reducible refine Below.alloc ?_ (by simp; omega) _ | with_reducible refine Below.setCell ?_ (by simp) _)
      exact hB3
    · have HN : Hid (parseL s.data.toList = some (g, ps)) := Lib.hid (by rw [HL.out, hit]; simp only [if_neg hm])
      clear hit HL
      obtain ⟨gk, gn, gs, gm⟩ := g
      go_wp2_with fail
      refine cI.mono ?_
      rintro e w3 ⟨hM3, v, rfl, hown, hP3⟩
      simp only
      generalize hSe : strB gs = S
      have HS := Lib.hid hSe
      clear hSe
      rw [Nat.zero_add] at hP3
      obtain ⟨ao, cap, rfl⟩ := owns_form hown
      have hR3 := (HR2.out.moved ((Moved.refl w2.heap.size w2).alloc _) (by omega)).moved hM3 (by omega)
      have hB3 := HBw.out.trans (hM3.below (by omega) (by simp; omega))
      have hlt3 := hR3.lt
      have hlt4 : w2.heap.size < w3.heap.size := hP3.lt
      obtain ⟨r0, r1, r2, r3, g0, g1, g2, g3⟩ := hR3
      have c0 := hP3.text
      have c1 := hP3.at_
      have HO := Lib.hid hown
      have hmI : ¬ (m : Int) < (T.size : Int) := by omega
      clear cI hM3 HBw HR2 hP3 hown
      go_wp2_with fail
      refine bodyPost_ret (v := .tuple #[.agg #[.int .i64 gk, .int .i64 gn, .string S, .slice ao ps.length cap], .int .i64 0]) (by simp [results, Tryd.results9, go_sem, r0, r1, r2, r3, hlt3]) rfl ?_
      refine ⟨?_, ?_⟩
      · repeat (first | with_reducible refine Below.alloc ?_ (by simp; omega) _ | with_reducible refine Below.setCell ?_ (by simp) _)
        exact hB3
      · rw [HN.out]
        refine ⟨_, by rw [HS.out], ?_⟩
        refine ownsRow_low (ownsRow_moved (HO.out) (b := w.heap.size) ?_ (by simp; omega)) (by simp; omega)
        repeat (first | with_reducible refine Moved.alloc ?_ _ | with_reducible refine Moved.setCell ?_ _)
        exact Moved.refl _ _

end Go.Proofs.YtcjnigmklijjiaaDoor
