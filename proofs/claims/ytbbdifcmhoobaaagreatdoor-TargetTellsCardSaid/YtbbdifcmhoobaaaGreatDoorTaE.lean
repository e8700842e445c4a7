/- The contract of target.splitAhead at its two sets of signs. -/
import Derived.Test.YtbbdifcmhoobaaaGreatDoorTaC
import Derived.Test.YtbbdifcmhoobaaaGreatDoorTgI
import Derived.Test.YtbbdifcmhoobaaaGreatDoorTgN
import Derived.Deep.DeepCutAuto
namespace Go.Proofs.YtbbdifcmhoobaaaGreatDoor
open Go.RowKit Go.Shelf Go.Lib

/-- Where the first byte stands that is not kept. -/
theorem any_cut (p : UInt8 → Bool) (chars : List UInt8) (hpc : ∀ c, p c = !chars.contains c) : ∀ l : List UInt8,
    (Lib.indexAny l chars = -1 ∧ l.takeWhile p = l ∧ l.dropWhile p = []) ∨ ∃ i : Nat, Lib.indexAny l chars = i ∧ i ≤ l.length ∧ l.takeWhile p = l.take i ∧ l.dropWhile p = l.drop i
  | [] => .inl ⟨rfl, rfl, rfl⟩
  | c :: l => by
    cases hc : chars.contains c
    · have hp : p c = true := by rw [hpc, hc]; rfl
      rw [Lib.indexAny, hc, List.takeWhile_cons, List.dropWhile_cons, if_pos hp, if_pos hp, if_neg (by decide)]
      rcases any_cut p chars hpc l with ⟨h1, h2, h3⟩ | ⟨i, h1, h2, h3, h4⟩
      · exact .inl ⟨by rw [h1]; rfl, by rw [h2], h3⟩
      · refine .inr ⟨i + 1, ?_, by simp; exact h2, by rw [h3, List.take_succ_cons], by rw [h4, List.drop_succ_cons]⟩
        have hne : ((i : Int) == -1) = false := by simp
        rw [h1, hne, if_neg (by decide)]
        rfl
    · have hp : p c = false := by rw [hpc, hc]; rfl
      rw [Lib.indexAny, hc, List.takeWhile_cons, List.dropWhile_cons, hp, if_pos rfl, if_neg (by decide), if_neg (by decide)]
      exact .inr ⟨0, rfl, Nat.zero_le _, rfl, rfl⟩
theorem end_chars (c : UInt8) : endB c = !([47, 63] : List UInt8).contains c := by
  have : ∀ y : Fin 256, endB y.val.toUInt8 = !([47, 63] : List UInt8).contains y.val.toUInt8 := by decide +kernel
  have h5 := this ⟨c.toNat, c.toNat_lt⟩
  simpa using h5
theorem que_chars (c : UInt8) : queB c = !([63] : List UInt8).contains c := by
  have : ∀ y : Fin 256, queB y.val.toUInt8 = !([63] : List UInt8).contains y.val.toUInt8 := by decide +kernel
  have h5 := this ⟨c.toNat, c.toNat_lt⟩
  simpa using h5

/-- What splitAhead answers. -/
def spaV (p : UInt8 → Bool) (l : List UInt8) : Value := .tuple #[.string (strB (l.takeWhile p)), .string (strB (l.dropWhile p))]
set_option maxRecDepth 100000 in
set_option maxHeartbeats 2000000 in
theorem splitAhead_at (p : UInt8 → Bool) (cs : ByteArray) (hpc : ∀ c, p c = !cs.data.toList.contains c) (s : ByteArray) (w : World) (hs : s.size ≤ 100000)
    (cI : Calls Tryz.prog 40 #[.string s, .string cs] w fun e w' => e = .returned (.int .i64 (Lib.indexAny s.data.toList cs.data.toList)) ∧ Below w.heap.size w w') :
    Calls Tryz.prog 26 #[.string s, .string cs] w (sgnPost (spaV p s.data.toList) w) := by
  have key : ∃ (i : Int) (o : Nat), Lib.indexAny s.data.toList cs.data.toList = i ∧ o ≤ s.size ∧ ((i < 0 ∧ o = s.size) ∨ i = (o : Int)) ∧ spaV p s.data.toList = .tuple #[.string (s.extract 0 o), .string (s.extract o s.size)] := by
    rcases any_cut p cs.data.toList hpc s.data.toList with ⟨h1, h2, h3⟩ | ⟨i, h1, h2, h3, h4⟩
    · refine ⟨-1, s.size, h1, Nat.le_refl _, .inl ⟨by decide, rfl⟩, ?_⟩
      rw [spaV, h2, h3, ← strB_of (s.extract 0 s.size), ← strB_of (s.extract s.size s.size), extract_take, Lib.extract_to_end, take_all s _ (Nat.le_refl _), List.drop_of_length_le (by rw [Lib.size_eq]; exact Nat.le_refl _)]
    · refine ⟨i, i, h1, by rw [Lib.size_eq]; exact h2, .inr rfl, ?_⟩
      rw [spaV, h3, h4, ← strB_of (s.extract 0 i), ← strB_of (s.extract i s.size), extract_take, Lib.extract_to_end]
  obtain ⟨i, o, hi, ho, hio, hv⟩ := key
  rw [hi] at cI
  rw [hv]
  clear hi hv hpc
  rcases hio with ⟨hneg, rfl⟩ | rfl
  · go_enter Tryz.func26, Tryz.ntmps26
    go_wp2_with (go_at_call 40; refine cI.mono ?_; rintro e w1 ⟨rfl, hb1⟩)
    have a1 : (0 : Int) ≤ (s.size : Int) := by omega
    have a2 : (s.size : Int) ≤ (s.size : Int) := Int.le_refl _
    have a3 : ((s.size : Int)).toNat = s.size := by omega
    have a4 : s.size ≤ s.size := Nat.le_refl _
    go_quiet (fail)
    go_wp2
    exact bodyPost_ret (v := .tuple #[.string (s.extract 0 s.size), .string (s.extract s.size s.size)]) (by simp [results, Tryz.results26, go_sem]) rfl ⟨rfl, hb1.trans ((below_drewN _ _).mono hb1.size)⟩
  · have hge : ¬ ((o : Int) < 0) := by omega
    go_enter Tryz.func26, Tryz.ntmps26
    go_wp2_with (go_at_call 40; refine cI.mono ?_; rintro e w1 ⟨rfl, hb1⟩)
    have a1 : (0 : Int) ≤ (o : Int) := by omega
    have a2 : (o : Int) ≤ (s.size : Int) := by omega
    have a3 : ((o : Int)).toNat = o := by omega
    have a4 : o ≤ s.size := ho
    go_quiet (fail)
    go_wp2
    exact bodyPost_ret (v := .tuple #[.string (s.extract 0 o), .string (s.extract o s.size)]) (by simp [results, Tryz.results26, go_sem]) rfl ⟨rfl, hb1.trans ((below_drewN _ _).mono hb1.size)⟩

theorem splitEnd_any (s : ByteArray) (w : World) (hs : s.size ≤ 100000) :
    Calls Tryz.prog 26 #[.string s, .string ⟨#[47, 63]⟩] w (sgnPost (spaV endB s.data.toList) w) :=
  splitAhead_at endB ⟨#[47, 63]⟩ end_chars s w hs (indexAny2_any s w hs)
theorem splitQue_any (s : ByteArray) (w : World) (hs : s.size ≤ 100000) :
    Calls Tryz.prog 26 #[.string s, .string ⟨#[63]⟩] w (sgnPost (spaV queB s.data.toList) w) := by
  refine splitAhead_at queB ⟨#[63]⟩ que_chars s w hs ?_
  refine (Tryz.strings_IndexAny_one s ⟨#[63]⟩ w rfl (by
    intro j b hb
    match j, hb with
    | 0, hb => obtain rfl := Option.some.inj hb; decide)).mono ?_
  rintro e w' ⟨rfl, rfl⟩
  exact ⟨rfl, Below.refl _ _⟩

end Go.Proofs.YtbbdifcmhoobaaaGreatDoor
