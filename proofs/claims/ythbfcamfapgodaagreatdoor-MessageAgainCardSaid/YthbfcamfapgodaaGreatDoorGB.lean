/- The contracts of strings.IndexRune and ContainsRune over the two blanks, at runes beyond ASCII: there is none. · (for a seat without Digits) The contracts of ascii.Trim, inToken, Token, Text. · The contracts of strings.Cut at one byte, and of head.endless, firstLine, fieldOf. · The contract of head.fieldOf. · The contract of head.Parse. · Plain: rows that a call owns; a map's datum that is a set of keys. (As in the texts of package item, which this seat does not have.) · Fields in memory. · Plain: fields that are valid, and their text; a builder behind a later world. · Plain laws of lowered and trimmed texts and of tokens, as in the texts of package ascii. · Plain: what is printed of fields is parsed, whatever stands behind it; what is parsed is small, and lies within the text. · Plain: the first line of a text, told by the place of its end; the first colon, told from behind. · Plain: texts in memory; the values of a name; fields without names. · Plain: worlds that are the same but for one block (as in DatE, ItmB, for seats that have neither); fields and bytes in memory there. · Plain: the errors of what is parsed; how long it is when it is printed; what printing answers. -/
import Derived.Test.YthbfcamfapgodaaGreatDoorShelf
import Derived.Test.YthbfcamfapgodaaGreatDoorRows
import Derived.Test.YthbfcamfapgodaaGreatDoorG1
import Derived.Test.YthbfcamfapgodaaGreatDoorG2
import Derived.Test.YthbfcamfapgodaaGreatDoorGA
import Derived.WalkKit
import Derived.WalkSpells
import Derived.WalkLawsBesides
import Derived.Lib.Hide
import Derived.Deep.LoopGhost
import Derived.BigQuiet
import Derived.Deep.QuietTactic
import Derived.Lib.OthersKept
import Derived.Lib.IndexLaws
import Derived.IntWalk
import Derived.Laws.AppendOwn
import Derived.Maps.OwnSet
import Derived.Lib.Builder

namespace Go.Proofs.YthbfcamfapgodaaGreatDoor
open Go.RowKit

set_option maxHeartbeats 1000000 in
set_option maxRecDepth 100000 in
theorem indexRune_invalid (s : ByteArray) (r : Int) (w : World) (h0 : 55296 ≤ r) (h1 : r ≤ 57343) :
    Calls Tryz.prog 142 #[.string s, .int .i32 r] w fun e w' => e = .returned (.int .i64 (-1)) ∧ Below w.heap.size w w' := by
  have cV := Tryz.utf8_ValidRune r w
  have hv : Lib.validRune r = false := by unfold Lib.validRune; simp; omega
  rw [hv] at cV
  clear hv
  go_enter Tryz.func142, Tryz.ntmps142
  go_wp2_with (go_at_call 152; refine cV.mono ?_; rintro e w' ⟨rfl, rfl⟩)
  go_ret
  exact ⟨rfl, Below.refl _ _⟩

set_option maxHeartbeats 1000000 in
set_option maxRecDepth 100000 in
theorem indexRune_error (s : ByteArray) (w : World) (ha : ∀ pos (h : pos < s.size), (s[pos]'h).toNat < 128) :
    Calls Tryz.prog 142 #[.string s, .int .i32 65533] w fun e w' => e = .returned (.int .i64 (-1)) ∧ Below w.heap.size w w' := by
  go_enter Tryz.func142, Tryz.ntmps142
  go_wp2_with fail
  go_loopg [] s.size (fun gf wx => ∃ pos : Nat, wx.heap[w.heap.size]? = some (.stringIter s pos) ∧ Below w.heap.size w wx ∧ s.size ≤ pos + gf)
  case atStart => exact ⟨0, World.iter_heap w s 0, (Below.refl _ w).alloc (Nat.le_refl _) _, by omega⟩
  case round =>
    obtain ⟨pos, hit, hbw, hfu⟩ := hrel
    by_cases hps : pos < s.size
    · obtain ⟨g', rfl⟩ : ∃ g', gk = g' + 1 := ⟨gk - 1, by omega⟩
      have ha1 := ha pos hps
      have hnx : ∀ ty, (Instr.next (.pointer (some ⟨w.heap.size, 0, none⟩)) true ty).run Tryz.prog wr = _ := fun ty => Lib.run_next_ascii_at wr w.heap.size s pos ty hit hps ha1
      have hne : (((s[pos]'hps).toNat : Int) == 65533) = false := by simp; omega
      have hit2 := Lib.iterAt_heap wr w.heap.size s pos (pos + 1) hit
      have hbw2 := Lib.below_iterAt hbw (k := w.heap.size) (Nat.le_refl _) s (pos + 1)
      clear ha
      generalize wr.iterAt w.heap.size s (pos + 1) = W at hnx hit2 hbw2
      go_wp2
      go_roundg g'
      case measure => omega
      case rel => exact ⟨pos + 1, hit2, hbw2, by omega⟩
    · have hnx : ∀ ty, (Instr.next (.pointer (some ⟨w.heap.size, 0, none⟩)) true ty).run Tryz.prog wr = _ := fun ty => Lib.run_next_end_at wr w.heap.size s pos ty hit hps
      go_wp2
      go_ret
      exact ⟨rfl, hbw⟩

theorem quiet_add_same {P : Program} {f : FuncId} {args : Array Value} {w : World} {a n : Nat} {v : Value}
    (h : Calls P f args (w.drewN (a + n)) fun e w' => e = .returned v ∧ w' = w.drewN (a + n)) :
    Calls P f args (w.drewN (a + n)) fun e w'' => e = .returned v ∧ ∃ m, w'' = w.drewN (a + m) :=
  h.mono fun _ _ ⟨he, hm⟩ => ⟨he, n, hm⟩

theorem encode_cases (r : Int) (h0 : 128 ≤ r) : (∃ x y : UInt8, 128 ≤ y.toNat ∧ Utf8.encode r = ⟨#[x, y]⟩) ∨ (∃ x y z : UInt8, Utf8.encode r = ⟨#[x, y, z]⟩) ∨ (∃ x y z u : UInt8, Utf8.encode r = ⟨#[x, y, z, u]⟩) := by
  have hc : ∃ c : Nat, 128 ≤ c ∧ (if Utf8.valid r then r.toNat else Utf8.runeError) = c := by
    split
    · exact ⟨_, by omega, rfl⟩
    · exact ⟨_, by decide, rfl⟩
  obtain ⟨c, h, e⟩ := hc
  unfold Utf8.encode
  simp only [e]
  rewrite [if_neg (by omega)]
  split
  · refine .inl ⟨_, _, ?_, rfl⟩
    rewrite [UInt8.toNat_ofNat']
    omega
  · split
    · exact .inr (.inl ⟨_, _, _, rfl⟩)
    · exact .inr (.inr ⟨_, _, _, _, rfl⟩)

set_option maxHeartbeats 1000000 in
set_option maxRecDepth 100000 in
theorem indexRune_valid (r : Int) (w : World) (h0 : 128 ≤ r) (h1 : r ≤ 1114111) (h2 : r < 55296 ∨ 57343 < r) (h3 : (r == 65533) = false) :
    Calls Tryz.prog 142 #[.string ⟨#[32, 9]⟩, .int .i32 r] w fun e w' => e = .returned (.int .i64 (-1)) ∧ Below w.heap.size w w' := by
  have cV := Tryz.utf8_ValidRune r w
  have hv : Lib.validRune r = true := by unfold Lib.validRune; simp; omega
  rw [hv] at cV
  clear hv
  rcases encode_cases r h0 with ⟨x, y, hy, he⟩ | ⟨x, y, z, he⟩ | ⟨x, y, z, u, he⟩
  · have hne : ((((⟨#[32, 9]⟩ : ByteArray)[1]'(by decide)).toNat : Int) != ((((⟨#[x, y]⟩ : ByteArray)[1]'(Nat.lt_succ_self 1))).toNat : Int)) = true := by
      have h9 : ((9 : Int) != (y.toNat : Int)) = true := by simp; omega
      exact h9
    go_enter Tryz.func142, Tryz.ntmps142
    go_wp2_with (go_at_call 152; refine cV.mono ?_; rintro e w' ⟨rfl, rfl⟩)
    go_step3
    go_wp2_with fail
    refine wp_loop_rounds 1 ?_
    rewrite [rounds_succ]
    go_wp2_with fail
    go_step3
    go_wp2_with fail
    go_quiet (fail)
    go_wp2_with fail
    go_quiet ((go_at_call 90; exact quiet_add_same (Tryz.strings_IndexByte _ _ _)))
    go_wp2_with fail
    rewrite [Exit.noGoto_ret]
    go_wp2_with fail
    rewrite [Exit.noGoto_ret]
    go_ret
    exact ⟨rfl, below_drewNg _ _⟩
  · go_enter Tryz.func142, Tryz.ntmps142
    go_wp2_with (go_at_call 152; refine cV.mono ?_; rintro e w' ⟨rfl, rfl⟩)
    go_step3
    go_wp2_with fail
    refine wp_loop_rounds 1 ?_
    rewrite [rounds_succ]
    go_wp2
    rewrite [Exit.noGoto_ret]
    go_ret
    exact ⟨rfl, Below.refl _ _⟩
  · go_enter Tryz.func142, Tryz.ntmps142
    go_wp2_with (go_at_call 152; refine cV.mono ?_; rintro e w' ⟨rfl, rfl⟩)
    go_step3
    go_wp2_with fail
    refine wp_loop_rounds 1 ?_
    rewrite [rounds_succ]
    go_wp2
    rewrite [Exit.noGoto_ret]
    go_ret
    exact ⟨rfl, Below.refl _ _⟩

theorem containsRune_big (r : Nat) (w : World) (h0 : 128 ≤ r) (h1 : r ≤ 1114111) :
    Calls Tryz.prog 127 #[.string ⟨#[32, 9]⟩, .int .i32 r] w fun e w' => e = .returned (.bool false) ∧ Below w.heap.size w w' := by
  have cI : Calls Tryz.prog 142 #[.string ⟨#[32, 9]⟩, .int .i32 r] w fun e w' => e = .returned (.int .i64 (-1)) ∧ Below w.heap.size w w' := by
    by_cases h2 : 55296 ≤ r ∧ r ≤ 57343
    · exact indexRune_invalid _ _ _ (by omega) (by omega)
    · by_cases h3 : r = 65533
      · subst h3
        exact indexRune_error _ _ (by
          intro pos h
          match pos, h with
          | 0, _ => exact (show (32 : UInt8).toNat < 128 by decide)
          | 1, _ => exact (show (9 : UInt8).toNat < 128 by decide))
      · exact indexRune_valid _ _ (by omega) (by omega) (by omega) (by simp; omega)
  go_enter Tryz.func127, Tryz.ntmps127
  go_wp2_with (go_at_call 142; refine cI.mono ?_; rintro e w' ⟨rfl, hb⟩)
  go_ret
  exact ⟨rfl, hb⟩

end Go.Proofs.YthbfcamfapgodaaGreatDoor

namespace Go.Proofs.YthbfcamfapgodaaGreatDoor
open Go.RowKit

theorem blank_ascii : ∀ x : Fin 128, decide (0 ≤ Lib.indexByte [32, 9] x.val.toUInt8) = blkR x.val := by decide

set_option maxHeartbeats 1000000 in
theorem blank_pays (B : Nat) (w : World) (hB : B < w.heap.size) (hc : w.cell? ⟨B, 0, none⟩ = some (.string ⟨#[32, 9]⟩)) :
    PredGrows Tryz.prog 126 #[.pointer (some ⟨B, 0, none⟩)] blkR w := by
  intro W x hx hb
  have hc' := (hb.cell (p := ⟨B, 0, none⟩) hB).trans hc
  have cC : Calls Tryz.prog 127 #[.string ⟨#[32, 9]⟩, .int .i32 x] W fun e w' => e = .returned (.bool (blkR x)) ∧ Below W.heap.size W w' := by
    by_cases h : x < 128
    · refine (Tryz.strings_ContainsRune_ascii ⟨#[32, 9]⟩ x W (by omega) (by omega)).mono ?_
      rintro e w' ⟨rfl, rfl⟩
      refine ⟨?_, Below.refl _ _⟩
      rewrite [← blank_ascii ⟨x, h⟩]
      rfl
    · rewrite [blkR_big x (by omega)]
      exact containsRune_big x W (by omega) hx
  clear hb hc
  generalize blkR x = b at cC
  show Calls Tryz.prog 126 #[.int .i32 x, .pointer (some ⟨B, 0, none⟩)] W _
  go_enter Tryz.func126, Tryz.ntmps126
  go_wp2_with (go_at_call 127; refine cC.mono ?_; rintro e w' ⟨rfl, hb⟩)
  go_ret
  exact ⟨rfl, hb⟩

/-- The tables of package utf8, as they are laid. -/
abbrev Tabs (w : World) : Prop := Lib.Utf8Tabs 4 5 w

theorem trimF_eq (s : ByteArray) : Lib.trimF blkR s = ⟨(trimL s.data.toList).toArray⟩ := by
  rw [← trimF_is, Lib.mk_data]

set_option maxHeartbeats 1000000 in
theorem trim_any (s : ByteArray) (w : World) (hs : s.size ≤ maxLen) (hT : Tabs w) :
    Calls Tryz.prog 88 #[.string s] w fun e w' => e = .returned (.string ⟨(trimL s.data.toList).toArray⟩) ∧ Below w.heap.size w w' := by
  rewrite [← trimF_eq]
  have hb0 : Below w.heap.size w (w.alloc (.cells #[.string ⟨#[32, 9]⟩] 9)) := (Below.refl _ _).alloc (Nat.le_refl _) _
  have cT := Tryz.strings_TrimFunc_grows 126 #[.pointer (some ⟨w.heap.size, 0, none⟩)] (enters_of Tryz.func126 (by kernel_rfl) rfl) blkR s (w.alloc (.cells #[.string ⟨#[32, 9]⟩] 9)) hs (Utf8Tabs_below hT hb0) (blank_pays w.heap.size _ (by simp) (by simp))
  generalize Lib.trimF blkR s = t at cT
  have HT := Lib.hid hT
  clear hT
  go_enter Tryz.func88, Tryz.ntmps88
  go_wp2_with (first | (go_at_call 107; refine cT.mono ?_; rintro e w' ⟨rfl, hb⟩) | go_in)
  go_ret
  exact ⟨rfl, hb0.trans (hb.mono hb0.size)⟩

set_option maxHeartbeats 1000000 in
theorem inToken_any (c : Int) (w : World) :
    Calls Tryz.prog 69 #[.int .u8 c] w fun e w' => e = .returned (.bool (tchI c)) ∧ w = w' := by
  have cL := isLetter_any c w
  have cD := isDigit_any c w
  have cI := Tryz.strings_IndexByte ⟨#[33, 35, 36, 37, 38, 39, 42, 43, 45, 46, 94, 95, 96, 124, 126]⟩ c w
  have hd : tchI c = (ltrI c || digI c || decide (0 ≤ Lib.indexByte marksL c.toNat.toUInt8)) := rfl
  have hm : (⟨#[33, 35, 36, 37, 38, 39, 42, 43, 45, 46, 94, 95, 96, 124, 126]⟩ : ByteArray).data.toList = marksL := rfl
  rw [hm] at cI
  clear hm
  generalize Lib.indexByte marksL c.toNat.toUInt8 = n at cI hd
  generalize ltrI c = l at cL hd
  generalize digI c = d at cD hd
  rewrite [hd]
  clear hd
  cases l <;> cases d
  all_goals
    go_enter Tryz.func69, Tryz.ntmps69
    go_wp2_with (first | (go_at_call 89; refine cL.mono ?_; rintro e w' ⟨rfl, rfl⟩) | (go_at_call 81; refine cD.mono ?_; rintro e w' ⟨rfl, rfl⟩) | (go_at_call 90; refine cI.mono ?_; rintro e w' ⟨rfl, rfl⟩))
    go_ret
    exact ⟨rfl, rfl⟩

set_option maxHeartbeats 1000000 in
theorem token_any (s : ByteArray) (w : World) (hs : s.size ≤ maxLen) :
    Calls Tryz.prog 42 #[.string s] w fun e w' => e = .returned (.bool (tokL s.data.toList)) ∧ w = w' := by
  unfold maxLen at hs
  go_enter Tryz.func42, Tryz.ntmps42
  go_wp2
  go_loop [6] (fun i => ∃ k : Nat, k ≤ s.size ∧ i = .int .i64 k ∧ Hid ((s.data.toList.take k).all (fun c => tchI c.toNat) = true)) (fun i => s.size - (intOf i).toNat)
  case atStart => exact ⟨0, Nat.zero_le _, rfl, Lib.hid rfl⟩
  case round =>
    obtain ⟨k, hk, rfl, Hall⟩ := hrel
    by_cases hlt : k < s.size
    · have cT := inToken_any (s[k].toNat : Int) w
      cases hd : tchI (s[k].toNat : Int)
      · have Hf := Lib.hid (all_false_of (fun c => tchI c.toNat) s k hlt hd)
        rw [hd] at cT
        clear hd
        go_wp2_with (go_at_call 69; refine cT.mono ?_; rintro e w' ⟨rfl, rfl⟩)
        go_ret
        exact ⟨by simp [tokL, Hf.out], rfl⟩
      · have Ha := Lib.hid (all_snoc (fun c => tchI c.toNat) s k hlt)
        rw [hd] at cT
        have Hd := Lib.hid hd
        clear hd
        go_wp2_with (go_at_call 69; refine cT.mono ?_; rintro e w' ⟨rfl, rfl⟩)
        go_round
        case rel => exact ⟨k + 1, by omega, by go_num, Lib.hid (by rewrite [Ha.out, Hd.out, Bool.and_true]; exact Hall.out)⟩
        case measure => simp [intOf]; omega
    · have hk' : s.size ≤ k := by omega
      go_wp2
      go_ret
      refine ⟨ret_eq (bool_eq ?_), rfl⟩
      rw [take_all s k hk'] at Hall
      rw [tokL, Hall.out, Lib.toList_data, Bool.true_and]

/-- A text that may be a field's value. -/
def txtL (l : List UInt8) : Bool := l.all (fun c => txtI c.toNat) && (trimL l == l)

set_option maxHeartbeats 1000000 in
theorem text_any (s : ByteArray) (w : World) (hs : s.size ≤ maxLen) (hT : Tabs w) :
    Calls Tryz.prog 68 #[.string s] w fun e w' => e = .returned (.bool (txtL s.data.toList)) ∧ Below w.heap.size w w' := by
  have cM := trim_any s w hs hT
  clear hT
  unfold maxLen at hs
  go_enter Tryz.func68, Tryz.ntmps68
  go_wp2
  go_loop [6] (fun i => ∃ k : Nat, k ≤ s.size ∧ i = .int .i64 k ∧ Hid ((s.data.toList.take k).all (fun c => txtI c.toNat) = true)) (fun i => s.size - (intOf i).toNat)
  case atStart => exact ⟨0, Nat.zero_le _, rfl, Lib.hid rfl⟩
  case round =>
    obtain ⟨k, hk, rfl, Hall⟩ := hrel
    by_cases hlt : k < s.size
    · have cT := inText_any (s[k].toNat : Int) w
      cases hd : txtI (s[k].toNat : Int)
      · have Hf := Lib.hid (all_false_of (fun c => txtI c.toNat) s k hlt hd)
        rw [hd] at cT
        clear hd
        go_wp2_with (go_at_call 87; refine cT.mono ?_; rintro e w' ⟨rfl, rfl⟩)
        go_ret
        exact ⟨by simp [txtL, Hf.out], Below.refl _ _⟩
      · have Ha := Lib.hid (all_snoc (fun c => txtI c.toNat) s k hlt)
        rw [hd] at cT
        have Hd := Lib.hid hd
        clear hd
        go_wp2_with (go_at_call 87; refine cT.mono ?_; rintro e w' ⟨rfl, rfl⟩)
        go_round
        case rel => exact ⟨k + 1, by omega, by go_num, Lib.hid (by rewrite [Ha.out, Hd.out, Bool.and_true]; exact Hall.out)⟩
        case measure => simp [intOf]; omega
    · have hk' : s.size ≤ k := by omega
      go_wp2_with (go_at_call 88; refine cM.mono ?_; rintro e w' ⟨rfl, hb⟩)
      go_ret
      refine ⟨ret_eq (bool_eq ?_), hb⟩
      rw [take_all s k hk'] at Hall
      rw [txtL, Hall.out, Bool.true_and, Lib.toList_data]

end Go.Proofs.YthbfcamfapgodaaGreatDoor

namespace Go.Proofs.YthbfcamfapgodaaGreatDoor
open Go.RowKit Go.Shelf Go.Lib

/-- What stands ahead of the first such byte, and whether there is one. -/
def cutV (l : List UInt8) (c : UInt8) : Value :=
  if Lib.indexByte l c = -1 then .tuple #[.string (strB l), .string ⟨#[]⟩, .bool false]
  else .tuple #[.string (strB (l.take (Lib.indexByte l c).toNat)), .string (strB (l.drop ((Lib.indexByte l c).toNat + 1))), .bool true]

def cutPost (v : Value) (w : World) (e : Ending) (w' : World) : Prop := e = .returned v ∧ Below w.heap.size w w'

theorem index_le (l : List UInt8) (c : UInt8) (h : Lib.indexByte l c ≠ -1) : 0 ≤ Lib.indexByte l c ∧ (Lib.indexByte l c).toNat < l.length := by
  have h1 := Lib.indexByte_ge l c
  have h2 : 0 ≤ Lib.indexByte l c := by omega
  refine ⟨h2, ?_⟩
  obtain ⟨o, ho⟩ := Int.eq_ofNat_of_zero_le h2
  obtain ⟨h3, _⟩ := Lib.indexByte_some (l := l) (c := c) (o := o) ho
  rewrite [ho]
  exact (List.getElem?_eq_some_iff.1 h3).1

set_option maxHeartbeats 1000000 in
theorem slCut_any (s : ByteArray) (c : UInt8) (w : World) (hs : s.size ≤ 100000) :
    Calls Tryz.prog 75 #[.string s, .string ⟨#[c]⟩] w (cutPost (cutV s.data.toList c) w) := by
  have cI := (Tryz.stringslite_Index_one s c w).mono (R' := fun e w' => e = .returned (.int .i64 (Lib.indexByte s.data.toList c)) ∧ w = w') (fun e w' h => ⟨h.1, h.2.symm⟩)
  by_cases h : Lib.indexByte s.data.toList c = -1
  · have hv : cutV s.data.toList c = .tuple #[.string s, .string ⟨#[]⟩, .bool false] := by rw [cutV, if_pos h, strB_of]
    rewrite [hv]
    rw [h] at cI
    clear hv h
    go_enter Tryz.func75, Tryz.ntmps75
    go_wp2_with (go_at_call 98; refine cI.mono ?_; rintro e w' ⟨rfl, rfl⟩)
    exact bodyPost_ret (v := .tuple #[.string s, .string ⟨#[]⟩, .bool false]) (by simp [results, Tryz.results75, go_sem]) rfl ⟨rfl, Below.refl _ _⟩
  · obtain ⟨h0, h1⟩ := index_le _ _ h
    rw [← Lib.size_eq] at h1
    obtain ⟨o, ho⟩ := Int.eq_ofNat_of_zero_le h0
    have hv : cutV s.data.toList c = .tuple #[.string (s.extract 0 o), .string (s.extract (o + 1) s.size), .bool true] := by
      rw [cutV, if_neg h, ho, Int.toNat_natCast, ← extract_take, ← Lib.extract_to_end, strB_of, strB_of]
    rewrite [hv]
    rw [ho] at cI h1
    rw [Int.toNat_natCast] at h1
    clear hv h h0 ho
    have hge : decide ((0 : Int) ≤ (o : Int)) = true := by simp
    have W1 : Hid (IntKind.i64.wrap ((o : Int) + 1) = (o : Int) + 1) := Lib.hid (IntWalk.i64_in _ (by omega))
    have T1 : Hid (((o : Int) + 1).toNat = o + 1) := Lib.hid (by omega)
    have L1 : Hid ((0 : Int) ≤ (o : Int) + 1) := Lib.hid (by omega)
    have L2 : Hid ((o : Int) + 1 ≤ (s.size : Int)) := Lib.hid (by omega)
    have L3 : Hid ((o : Int) ≤ (s.size : Int)) := Lib.hid (by omega)
    go_enter Tryz.func75, Tryz.ntmps75
    go_wp2_with (go_at_call 98; refine cI.mono ?_; rintro e w' ⟨rfl, rfl⟩)
    have a1 := W1.out
    have a2 := T1.out
    have a3 := L1.out
    have a4 := L2.out
    have a5 := L3.out
    have a6 : o ≤ s.size := by omega
    go_quiet (fail)
    clear a1 a2 a3 a4 a5
    go_wp2
    exact bodyPost_ret (v := .tuple #[.string (s.extract 0 o), .string (s.extract (o + 1) s.size), .bool true]) (by simp [results, Tryz.results75, go_sem]) rfl ⟨rfl, below_drewN _ _⟩

set_option maxHeartbeats 1000000 in
theorem cut_any (s : ByteArray) (c : UInt8) (w : World) (hs : s.size ≤ 100000) :
    Calls Tryz.prog 52 #[.string s, .string ⟨#[c]⟩] w (cutPost (cutV s.data.toList c) w) := by
  have cS := slCut_any s c w hs
  have hex : ∃ a b r, cutV s.data.toList c = .tuple #[.string a, .string b, .bool r] := by
    rewrite [cutV]
    split
    · exact ⟨_, _, _, rfl⟩
    · exact ⟨_, _, _, rfl⟩
  obtain ⟨a, b, r, he⟩ := hex
  rw [he] at cS ⊢
  clear he
  go_enter Tryz.func52, Tryz.ntmps52
  go_wp2_with (go_at_call 75; refine cS.mono ?_; rintro e w1 ⟨rfl, hb1⟩)
  exact bodyPost_ret (v := .tuple #[.string a, .string b, .bool r]) (by simp [results, Tryz.results52, go_sem]) rfl ⟨rfl, hb1⟩

/-- The first line, without its end, or why there is none. -/
def lineL (l : List UInt8) : List UInt8 × Int :=
  if Lib.indexByte l 10 = -1 then ([], if 2002 < l.length then 4 else 3)
  else if Lib.hasSuffix (l.take (Lib.indexByte l 10).toNat) [13] = false then ([], 2)
  else if 2000 < (Lib.trimSuffix (l.take (Lib.indexByte l 10).toNat) [13]).length then ([], 4)
  else (Lib.trimSuffix (l.take (Lib.indexByte l 10).toNat) [13], 0)
def lineV (p : List UInt8 × Int) : Value := .tuple #[.string (strB p.1), .int .i64 p.2]

theorem endless_any (s : ByteArray) (w : World) :
    Calls Tryz.prog 100 #[.string s] w fun e w' => e = .returned (.int .i64 (if 2002 < s.size then 4 else 3)) ∧ w = w' := by
  by_cases h : 2002 < s.size
  · rewrite [if_pos h]
    have d : (2002 : Int) < (s.size : Int) := by omega
    clear h
    go_enter Tryz.func100, Tryz.ntmps100
    go_wp2_with fail
    go_ret
    exact ⟨rfl, rfl⟩
  · rewrite [if_neg h]
    have d : ¬ (2002 : Int) < (s.size : Int) := by omega
    clear h
    go_enter Tryz.func100, Tryz.ntmps100
    go_wp2_with fail
    go_ret
    exact ⟨rfl, rfl⟩

set_option maxHeartbeats 2000000 in
theorem firstLine_any (s : ByteArray) (w : World) (hs : s.size ≤ 100000) :
    Calls Tryz.prog 77 #[.string s] w fun e w' => e = .returned (lineV (lineL s.data.toList)) ∧ Below w.heap.size w w' := by
  have cC := cut_any s 10 w hs
  have cE := fun W => endless_any s W
  have hsz := Lib.size_eq s
  unfold cutV at cC
  by_cases h : Lib.indexByte s.data.toList 10 = -1
  · rw [if_pos h] at cC
    have HL : Hid (lineL s.data.toList = ([], if 2002 < s.size then 4 else 3)) := Lib.hid (by rw [lineL, if_pos h, hsz])
    obtain ⟨z, hz⟩ : ∃ z : Int, (if 2002 < s.size then 4 else 3 : Int) = z := ⟨_, rfl⟩
    rw [hz] at HL cE
    clear h hz hsz
    generalize strB s.data.toList = B at *
    go_enter Tryz.func77, Tryz.ntmps77
    go_wp2_with fail
    refine cC.mono ?_
    rintro e w1 ⟨rfl, hb1⟩
    go_wp2_with fail
    refine (cE _).mono ?_
    rintro e w2 ⟨rfl, rfl⟩
    go_wp2_with fail
    refine bodyPost_ret (v := .tuple #[.string ⟨#[]⟩, .int .i64 z]) (by simp [results, Tryz.results77, go_sem]) rfl ⟨?_, hb1⟩
    rewrite [HL.out]
    rfl
  · rw [if_neg h] at cC
    obtain ⟨k, hk⟩ : ∃ k, (Lib.indexByte s.data.toList 10).toNat = k := ⟨_, rfl⟩
    rw [hk] at cC
    have cS := fun W => Tryz.strings_CutSuffix (strB (s.data.toList.take k)) ⟨#[13]⟩ W (by rewrite [strB_size, List.length_take]; omega)
    rw [strB_data, show (⟨#[13]⟩ : ByteArray).data.toList = [13] from rfl] at cS
    have hL : lineL s.data.toList = (if Lib.hasSuffix (s.data.toList.take k) [13] = false then ([], 2) else if 2000 < (Lib.trimSuffix (s.data.toList.take k) [13]).length then ([], 4) else (Lib.trimSuffix (s.data.toList.take k) [13], 0)) := by rw [lineL, if_neg h, hk]
    obtain ⟨b, hb⟩ : ∃ b, Lib.hasSuffix (s.data.toList.take k) [13] = b := ⟨_, rfl⟩
    obtain ⟨t, ht⟩ : ∃ t, Lib.trimSuffix (s.data.toList.take k) [13] = t := ⟨_, rfl⟩
    rw [hb, ht] at cS hL
    have HL := Lib.hid hL
    generalize strB (s.data.toList.take k) = B at *
    generalize strB (s.data.toList.drop (k + 1)) = D at *
    clear h hk hb ht hL hsz cE
    cases b
    · rw [if_pos rfl] at HL
      go_enter Tryz.func77, Tryz.ntmps77
      go_wp2_with fail
      refine cC.mono ?_
      rintro e w1 ⟨rfl, hb1⟩
      go_wp2_with fail
      refine (cS _).mono ?_
      rintro e w2 ⟨rfl, rfl⟩
      go_wp2_with fail
      refine bodyPost_ret (v := .tuple #[.string ⟨#[]⟩, .int .i64 2]) (by simp [results, Tryz.results77, go_sem]) rfl ⟨?_, hb1⟩
      rewrite [HL.out]
      rfl
    · rw [if_neg (by decide)] at HL
      by_cases hl : 2000 < t.length
      · rw [if_pos hl] at HL
        have d : (2000 : Int) < ((⟨t.toArray⟩ : ByteArray).size : Int) := by rewrite [Lib.size_eq]; simp; omega
        go_enter Tryz.func77, Tryz.ntmps77
        go_wp2_with fail
        refine cC.mono ?_
        rintro e w1 ⟨rfl, hb1⟩
        go_wp2_with fail
        refine (cS _).mono ?_
        rintro e w2 ⟨rfl, rfl⟩
        generalize (⟨t.toArray⟩ : ByteArray) = T at *
        go_wp2_with fail
        refine bodyPost_ret (v := .tuple #[.string ⟨#[]⟩, .int .i64 4]) (by simp [results, Tryz.results77, go_sem]) rfl ⟨?_, hb1⟩
        rewrite [HL.out]
        rfl
      · rw [if_neg hl] at HL
        have d : ¬ (2000 : Int) < ((⟨t.toArray⟩ : ByteArray).size : Int) := by rewrite [Lib.size_eq]; simp; omega
        have HT : Hid (strB t = (⟨t.toArray⟩ : ByteArray)) := Lib.hid rfl
        go_enter Tryz.func77, Tryz.ntmps77
        go_wp2_with fail
        refine cC.mono ?_
        rintro e w1 ⟨rfl, hb1⟩
        go_wp2_with fail
        refine (cS _).mono ?_
        rintro e w2 ⟨rfl, rfl⟩
        generalize (⟨t.toArray⟩ : ByteArray) = T at *
        go_wp2_with fail
        refine bodyPost_ret (v := .tuple #[.string T, .int .i64 0]) (by simp [results, Tryz.results77, go_sem]) rfl ⟨?_, hb1⟩
        rw [HL.out, lineV, HT.out]

end Go.Proofs.YthbfcamfapgodaaGreatDoor

namespace Go.Proofs.YthbfcamfapgodaaGreatDoor
open Go.RowKit Go.Shelf Go.Lib

/-- The field that a line is: its name and its value. -/
def fldL (l : List UInt8) : Option (List UInt8 × List UInt8) :=
  if Lib.indexByte l 58 = -1 then none
  else if tokL (l.take (Lib.indexByte l 58).toNat) = true ∧ txtL (trimL (l.drop ((Lib.indexByte l 58).toNat + 1))) = true then some (lowL (l.take (Lib.indexByte l 58).toNat), trimL (l.drop ((Lib.indexByte l 58).toNat + 1)))
  else none
def fldV (o : Option (List UInt8 × List UInt8)) : Value := match o with
  | none => .tuple #[.agg #[.string ⟨#[]⟩, .string ⟨#[]⟩], .int .i64 2]
  | some p => .tuple #[.agg #[.string (strB p.1), .string (strB p.2)], .int .i64 0]

abbrev zeroF : Obj := .cells #[.string ⟨#[]⟩, .string ⟨#[]⟩] 70
structure Res2 (W : World) (c : Nat) : Prop where
  r0 : W.cell? ⟨c, 0, none⟩ = some (.string ⟨#[]⟩)
  r1 : W.cell? ⟨c, 1, none⟩ = some (.string ⟨#[]⟩)
  g0 : W.frozen? ⟨c, 0, none⟩ = false
  g1 : W.frozen? ⟨c, 1, none⟩ = false
theorem Res2.made (w : World) : Res2 (w.alloc zeroF) w.heap.size := ⟨by simp, by simp, by simp, by simp⟩
theorem Res2.lt {W : World} {c : Nat} (h : Res2 W c) : c < W.heap.size := lt_of_cell h.r0
theorem Res2.next {W W1 : World} {c : Nat} (h : Res2 W c) (hb : Below W.heap.size W W1) : Res2 W1 c :=
  ⟨(hb.cell (p := ⟨c, 0, none⟩) h.lt).trans h.r0, (hb.cell (p := ⟨c, 1, none⟩) h.lt).trans h.r1, (hb.frozen (p := ⟨c, 0, none⟩) h.lt).trans h.g0, (hb.frozen (p := ⟨c, 1, none⟩) h.lt).trans h.g1⟩

theorem dropWhile_le (p : UInt8 → Bool) : ∀ l : List UInt8, (l.dropWhile p).length ≤ l.length
  | [] => Nat.le_refl _
  | c :: l => by
    have := dropWhile_le p l
    rewrite [List.dropWhile_cons]
    split
    · simp only [List.length_cons]; omega
    · exact Nat.le_refl _

theorem trimL_le (l : List UInt8) : (trimL l).length ≤ l.length := by
  unfold trimL trL tlL
  have h1 := dropWhile_le blkB (List.dropWhile blkB l).reverse
  have h2 := dropWhile_le blkB l
  simp only [List.length_reverse] at h1 ⊢
  omega

set_option maxHeartbeats 4000000 in
theorem fieldOf_any (s : ByteArray) (w : World) (hs : s.size ≤ 100000) (hT : Tabs w) :
    Calls Tryz.prog 78 #[.string s] w fun e w' => e = .returned (fldV (fldL s.data.toList)) ∧ Below w.heap.size w w' := by
  have hb0 : Below w.heap.size w (w.alloc zeroF) := (Below.refl _ _).alloc (Nat.le_refl _) _
  have cC := cut_any s 58 (w.alloc zeroF) hs
  have HR0 := Lib.hid (Res2.made w)
  have HT := Lib.hid hT
  have HB0 := Lib.hid hb0
  have hsz := Lib.size_eq s
  unfold cutV at cC
  clear hb0 hT
  by_cases h : Lib.indexByte s.data.toList 58 = -1
  · rw [if_pos h] at cC
    have HL : Hid (fldL s.data.toList = none) := Lib.hid (by rw [fldL, if_pos h])
    have cM := fun W hW => trim_any ⟨#[]⟩ W (by decide) hW
    rw [show trimL (⟨#[]⟩ : ByteArray).data.toList = [] from rfl] at cM
    clear h hsz
    generalize strB s.data.toList = B at *
    go_enter Tryz.func78, Tryz.ntmps78
    go_wp2_with fail
    refine cC.mono ?_
    rintro e w1 ⟨rfl, hb1⟩
    have HB1 := Lib.hid (HB0.out.trans (hb1.mono HB0.out.size))
    have HR1 := Lib.hid (HR0.out.next hb1)
    clear hb1 cC
    go_wp2_with fail
    refine (cM _ (Utf8Tabs_below HT.out HB1.out)).mono ?_
    rintro e w2 ⟨rfl, hb2⟩
    have HB2 := Lib.hid (HB1.out.trans (hb2.mono HB1.out.size))
    have HR2 := Lib.hid (HR1.out.next hb2)
    clear hb2 cM
    obtain ⟨r0, r1, g0, g1⟩ := HR2.out
    have hlt := HR2.out.lt
    go_wp2_with fail
    refine bodyPost_ret (v := .tuple #[.agg #[.string ⟨#[]⟩, .string ⟨#[]⟩], .int .i64 2]) (by simp [results, Tryz.results78, go_sem, r0, r1]) rfl ⟨by rw [HL.out] <;> rfl, ?_⟩
    repeat (first | with_reducible refine Below.setCell ?_ (by simp) _)
    exact HB2.out
  · rw [if_neg h] at cC
    obtain ⟨k, hk⟩ : ∃ k, (Lib.indexByte s.data.toList 58).toNat = k := ⟨_, rfl⟩
    rw [hk] at cC
    have hL : fldL s.data.toList = if tokL (s.data.toList.take k) = true ∧ txtL (trimL (s.data.toList.drop (k + 1))) = true then some (lowL (s.data.toList.take k), trimL (s.data.toList.drop (k + 1))) else none := by rw [fldL, if_neg h, hk]
    have h1 : (s.data.toList.take k).length ≤ 100000 := by rewrite [List.length_take]; omega
    have h2 : (s.data.toList.drop (k + 1)).length ≤ 100000 := by rewrite [List.length_drop]; omega
    obtain ⟨O, hO⟩ : ∃ O, fldL s.data.toList = O := ⟨_, rfl⟩
    rw [hO] at hL ⊢
    clear hO
    generalize s.data.toList.take k = N at *
    generalize s.data.toList.drop (k + 1) = D at *
    have h3 : (trimL D).length ≤ 100000 := Nat.le_trans (trimL_le D) h2
    have cM := fun W hW => trim_any (strB D) W (by rewrite [strB_size]; unfold maxLen; omega) hW
    have cK := fun W => token_any (strB N) W (by rewrite [strB_size]; unfold maxLen; omega)
    have cX := fun W hW => text_any (strB (trimL D)) W (by rewrite [strB_size]; unfold maxLen; omega) hW
    have cW := fun W => lower_any (strB N) W (by rewrite [strB_size]; unfold maxLen; omega)
    rw [strB_data] at cM cK cX cW
    rw [show (⟨(trimL D).toArray⟩ : ByteArray) = strB (trimL D) from rfl] at cM
    rw [show (⟨(lowL N).toArray⟩ : ByteArray) = strB (lowL N) from rfl] at cW
    generalize trimL D = V at *
    have HL := Lib.hid hL
    clear h hk h1 h2 h3 hL hsz
    obtain ⟨SN, hSN⟩ : ∃ SN, strB N = SN := ⟨_, rfl⟩
    obtain ⟨SD, hSD⟩ : ∃ SD, strB D = SD := ⟨_, rfl⟩
    obtain ⟨SV, hSV⟩ : ∃ SV, strB V = SV := ⟨_, rfl⟩
    obtain ⟨SL, hSL⟩ : ∃ SL, strB (lowL N) = SL := ⟨_, rfl⟩
    obtain ⟨a, ha⟩ : ∃ a, tokL N = a := ⟨_, rfl⟩
    obtain ⟨b, hb⟩ : ∃ b, txtL V = b := ⟨_, rfl⟩
    rw [hSL] at cW
    rw [hSN] at cK cC cW
    rw [hSD] at cM cC
    rw [hSV] at cM cX
    rw [ha] at cK HL
    rw [hb] at cX HL
    have HSV := Lib.hid hSV
    have HSL := Lib.hid hSL
    clear ha hb hSN hSD hSV hSL
    cases a
    · have HN : Hid (O = none) := Lib.hid (by rw [HL.out, if_neg (by simp)])
      go_enter Tryz.func78, Tryz.ntmps78
      go_wp2_with fail
      refine cC.mono ?_
      rintro e w1 ⟨rfl, hb1⟩
      have HB1 := Lib.hid (HB0.out.trans (hb1.mono HB0.out.size))
      have HR1 := Lib.hid (HR0.out.next hb1)
      clear hb1 cC
      go_wp2_with fail
      refine (cM _ (Utf8Tabs_below HT.out HB1.out)).mono ?_
      rintro e w2 ⟨rfl, hb2⟩
      have HB2 := Lib.hid (HB1.out.trans (hb2.mono HB1.out.size))
      have HR2 := Lib.hid (HR1.out.next hb2)
      clear hb2 cM
      obtain ⟨r0, r1, g0, g1⟩ := HR2.out
      have hlt := HR2.out.lt
      go_wp2_with (go_at_call 42; refine (cK _).mono ?_; rintro e w' ⟨rfl, rfl⟩)
      refine bodyPost_ret (v := .tuple #[.agg #[.string ⟨#[]⟩, .string ⟨#[]⟩], .int .i64 2]) (by simp [results, Tryz.results78, go_sem, r0, r1]) rfl ⟨by rw [HN.out] <;> rfl, ?_⟩
      repeat (first | with_reducible refine Below.setCell ?_ (by simp) _)
      exact HB2.out
    · cases b
      · have HN : Hid (O = none) := Lib.hid (by rw [HL.out, if_neg (by simp)])
        go_enter Tryz.func78, Tryz.ntmps78
        go_wp2_with fail
        refine cC.mono ?_
        rintro e w1 ⟨rfl, hb1⟩
        have HB1 := Lib.hid (HB0.out.trans (hb1.mono HB0.out.size))
        have HR1 := Lib.hid (HR0.out.next hb1)
        clear hb1 cC
        go_wp2_with fail
        refine (cM _ (Utf8Tabs_below HT.out HB1.out)).mono ?_
        rintro e w2 ⟨rfl, hb2⟩
        have HB2 := Lib.hid (HB1.out.trans (hb2.mono HB1.out.size))
        have HR2 := Lib.hid (HR1.out.next hb2)
        clear hb2 cM
        go_wp2_with (first | (go_at_call 42; refine (cK _).mono ?_; rintro e w' ⟨rfl, rfl⟩) | (go_at_call 68; refine (cX _ (Utf8Tabs_below HT.out HB2.out)).mono ?_; rintro e w3 ⟨rfl, hb3⟩; have hB3 := HB2.out.trans (hb3.mono HB2.out.size); have hR3 := HR2.out.next hb3; have hlt := hR3.lt; obtain ⟨r0, r1, g0, g1⟩ := hR3))
        refine bodyPost_ret (v := .tuple #[.agg #[.string ⟨#[]⟩, .string ⟨#[]⟩], .int .i64 2]) (by simp [results, Tryz.results78, go_sem, r0, r1]) rfl ⟨by rw [HN.out] <;> rfl, ?_⟩
        repeat (first | with_reducible refine Below.setCell ?_ (by simp) _)
        exact hB3
      · have HN : Hid (O = some (lowL N, V)) := Lib.hid (by rw [HL.out, if_pos (by simp)])
        go_enter Tryz.func78, Tryz.ntmps78
        go_wp2_with fail
        refine cC.mono ?_
        rintro e w1 ⟨rfl, hb1⟩
        have HB1 := Lib.hid (HB0.out.trans (hb1.mono HB0.out.size))
        have HR1 := Lib.hid (HR0.out.next hb1)
        clear hb1 cC
        go_wp2_with fail
        refine (cM _ (Utf8Tabs_below HT.out HB1.out)).mono ?_
        rintro e w2 ⟨rfl, hb2⟩
        have HB2 := Lib.hid (HB1.out.trans (hb2.mono HB1.out.size))
        have HR2 := Lib.hid (HR1.out.next hb2)
        clear hb2 cM
        go_wp2_with (first | (go_at_call 42; refine (cK _).mono ?_; rintro e w' ⟨rfl, rfl⟩) | (go_at_call 68; refine (cX _ (Utf8Tabs_below HT.out HB2.out)).mono ?_; rintro e w3 ⟨rfl, hb3⟩; have HB3 := Lib.hid (HB2.out.trans (hb3.mono HB2.out.size)); have HR3 := Lib.hid (HR2.out.next hb3)) | (go_at_call 57; refine (cW _).mono ?_; rintro e w4 ⟨rfl, hb4⟩; have hB4 := HB3.out.trans (hb4.mono HB3.out.size); have hR4 := HR3.out.next hb4; have hlt := hR4.lt; obtain ⟨r0, r1, g0, g1⟩ := hR4))
        refine bodyPost_ret (v := .tuple #[.agg #[.string SL, .string SV], .int .i64 0]) (by simp [results, Tryz.results78, go_sem, r0, r1]) rfl ⟨by rw [HN.out, fldV, HSL.out, HSV.out], ?_⟩
        repeat (first | with_reducible refine Below.setCell ?_ (by simp) _)
        exact hB4

end Go.Proofs.YthbfcamfapgodaaGreatDoor

namespace Go.Proofs.YthbfcamfapgodaaGreatDoor
open Go.RowKit Go.Shelf Go.Lib

abbrev Fld := List UInt8 × List UInt8
/-- Fields as a row. -/
def cellsF (p : Fld) : List Value := [.string (strB p.1), .string (strB p.2)]
def rowF : List Fld → List Value
  | [] => []
  | p :: ps => cellsF p ++ rowF ps
theorem rowF_len : ∀ ps : List Fld, (rowF ps).length = ps.length * 2
  | [] => rfl
  | p :: ps => by rewrite [rowF, List.length_append, rowF_len ps, List.length_cons]; simp [cellsF]; omega
theorem rowF_snoc : ∀ (ps : List Fld) (p : Fld), rowF (ps ++ [p]) = rowF ps ++ cellsF p
  | [], p => by simp [rowF]
  | q :: ps, p => by rw [List.cons_append, rowF, rowF, rowF_snoc ps p, List.append_assoc]

/-- The fields with which a text begins, from a place on, behind some, and where they end; or the error. By so many rounds. -/
def parH : Nat → List UInt8 → Nat → List Fld → Except Int (List Fld × Nat)
  | 0, _, _, _ => .error 4
  | f + 1, l, K, acc =>
    if (lineL (l.drop K)).2 ≠ 0 then .error (lineL (l.drop K)).2
    else if (lineL (l.drop K)).1 = [] then .ok (acc, K + (lineL (l.drop K)).1.length + 2)
    else if acc.length = 64 then .error 4
    else match fldL (lineL (l.drop K)).1 with
      | none => .error 2
      | some p => parH f l (K + (lineL (l.drop K)).1.length + 2) (acc ++ [p])
def parseH (l : List UInt8) : Except Int (List Fld × Nat) := parH 65 l 0 []

/-- A line that is, with its end, lies within the text. -/
theorem lineL_le (l : List UInt8) (h : (lineL l).2 = 0) : (lineL l).1.length + 2 ≤ l.length := by
  unfold lineL at h ⊢
  by_cases h1 : Lib.indexByte l 10 = -1
  · rw [if_pos h1] at h
    simp only at h
    split at h <;> cases h
  · rw [if_neg h1] at h ⊢
    obtain ⟨h0, hk⟩ := index_le l 10 h1
    by_cases h2 : Lib.hasSuffix (l.take (Lib.indexByte l 10).toNat) [13] = false
    · rw [if_pos h2] at h
      cases h
    · rw [if_neg h2] at h ⊢
      have h2' : Lib.hasSuffix (l.take (Lib.indexByte l 10).toNat) [13] = true := by simpa using h2
      by_cases h3 : 2000 < (Lib.trimSuffix (l.take (Lib.indexByte l 10).toNat) [13]).length
      · rw [if_pos h3] at h
        cases h
      · rewrite [if_neg h3]
        dsimp only
        have h4 : [(13 : UInt8)].length ≤ (List.take (Lib.indexByte l 10).toNat l).length := by
          have h5 := h2'
          unfold Lib.hasSuffix at h5
          exact (List.isSuffixOf_iff_suffix.1 h5).length_le
        unfold Lib.trimSuffix
        rewrite [if_pos h2', List.length_take, List.length_take]
        rw [List.length_take] at h4
        simp only [List.length_singleton] at h4 ⊢
        omega

theorem info_field : (Tryz.prog.info? 70).map (fun i => (i.zero, i.size, i.bytes)) = some (some (.agg #[.string ⟨#[]⟩, .string ⟨#[]⟩]), 2, 32) := by kernel_rfl
theorem cells_newF (w : World) (cs : List Value) (T : TypeId) (j : Nat) (u : Value) (h : cs[j]? = some u) : (w.alloc (.cells cs.toArray T)).cell? ((⟨w.heap.size, 0, none⟩ : Addr).add j) = some u := by
  rewrite [add_none]
  have hj : j < cs.length := (List.getElem?_eq_some_iff.1 h).1
  simp [h]

theorem owns_formF {w : World} {base : Nat} {e : TypeId} {size : Nat} {v : Value} {n : Nat} {xs : List Value} (h : w.ownsRow base e size v n xs) : ∃ ao cap, v = .slice ao n cap := by
  rcases h.2 with ⟨hv, h2⟩ | ⟨g, cap, cur, hv, _⟩
  · exact ⟨none, 0, by rw [hv, h2]⟩
  · exact ⟨_, cap, hv⟩

def headPost (o : Except Int (List Fld × Nat)) (w : World) (e : Ending) (w' : World) : Prop :=
  Below w.heap.size w w' ∧ match o with
    | .error n => e = .returned (.tuple #[.slice none 0 0, .int .i64 0, .int .i64 n])
    | .ok (fs, n) => ∃ v, e = .returned (.tuple #[v, .int .i64 (n : Int), .int .i64 0]) ∧ w'.ownsRow w.heap.size 70 2 v fs.length (rowF fs)

set_option maxRecDepth 100000 in
set_option maxHeartbeats 4000000 in
theorem hparse_any (s : ByteArray) (w : World) (hs : s.size ≤ 100000) (hT : Tabs w) :
    Calls Tryz.prog 55 #[.string s] w (headPost (parseH s.data.toList) w) := by
  obtain ⟨i0, hi, hz0, hz1, hz2⟩ := info_parts info_field
  have HT := Lib.hid hT
  clear hT
  go_enter Tryz.func55, Tryz.ntmps55
  go_wp2_with fail
  go_loopw [5, 6] (fun v a wr => ∃ (K f : Nat) (acc : List Fld) (av : Option Addr) (cv : Nat), v = .slice av acc.length cv ∧ a = .int .i64 (K : Int) ∧ K ≤ s.size ∧ f + acc.length = 65 ∧ acc.length ≤ 64 ∧ Hid (parseH s.data.toList = parH f s.data.toList K acc) ∧ wr.ownsRow w.heap.size 70 2 (.slice av acc.length cv) acc.length (rowF acc) ∧ Below w.heap.size w wr) (fun _ a _ => s.size - (intOf a).toNat)
  case atStart => exact ⟨0, 65, [], none, 0, rfl, rfl, Nat.zero_le _, rfl, by simp, Lib.hid rfl, World.ownsRow_nil _ _ _ _, Below.refl _ _⟩
  case round =>
    obtain ⟨K, f, acc, av, cv, rfl, rfl, hK, hf, hal, H, hown, hb⟩ := hrel
    have HO := Lib.hid hown
    have HB := Lib.hid hb
    clear hown hb
    obtain ⟨f, rfl⟩ : ∃ f', f = f' + 1 := ⟨f - 1, by omega⟩
    have hxd : (s.extract K s.size).data.toList = s.data.toList.drop K := Lib.extract_to_end s K
    have hxs : (s.extract K s.size).size = s.size - K := by rw [Lib.size_eq, hxd, List.length_drop, ← Lib.size_eq]
    have cL := fun W => firstLine_any (s.extract K s.size) W (by omega)
    rw [hxd] at cL
    have hH := H.out
    rw [parH] at hH
    have hle := lineL_le (s.data.toList.drop K)
    rw [List.length_drop, ← Lib.size_eq] at hle
    obtain ⟨⟨ln, er⟩, hp⟩ : ∃ p, lineL (s.data.toList.drop K) = p := ⟨_, rfl⟩
    rw [hp] at cL hH hle
    dsimp only at hH hle
    clear hp hxd hxs H
    by_cases he : er = 0
    · subst he
      have hln := hle rfl
      rw [if_neg (by simp)] at hH
      obtain ⟨K2, hK2⟩ : ∃ K2, K + ln.length + 2 = K2 := ⟨_, rfl⟩
      rw [hK2] at hH
      have q1 : (K : Int) + ((ln.length : Int) + 2) = (K2 : Int) := by omega
      have hsz := strB_size ln
      have HSz := Lib.hid hsz
      have hK2s : K2 ≤ s.size := by omega
      by_cases hl : ln = []
      · rw [if_pos hl] at hH
        have HR := Lib.hid hH
        subst hl
        have e1 : (strB []).toList.isEmpty = true := by rw [Lib.toList_data, strB_data] <;> rfl
        have q2 : (K : Int) + 2 = (K2 : Int) := by simpa using q1
        clear hH hle hsz q1
        rw [show lineV ([], 0) = .tuple #[.string ⟨#[]⟩, .int .i64 0] from rfl] at cL
        go_wp2_with fail
        refine (cL _).mono ?_
        rintro e w2 ⟨rfl, hb2⟩
        have HB2 := Lib.hid (HB.out.trans (hb2.mono HB.out.size))
        have HO2 := Lib.hid (ownsRow_later HO.out hb2)
        clear hb2 cL
        go_wp2_with fail
        refine bodyPost_ret (v := .tuple #[.slice av acc.length cv, .int .i64 (K2 : Int), .int .i64 0]) (by simp [results, Tryz.results55, go_sem]) rfl ⟨HB2.out, ?_⟩
        rewrite [HR.out]
        exact ⟨_, rfl, HO2.out⟩
      · rw [if_neg hl] at hH
        have e1 : (strB ln).toList.isEmpty = false := by
          rewrite [Lib.toList_data, strB_data]
          cases ln with
          | nil => exact absurd rfl hl
          | cons c r => rfl
        have e2 : ¬ (strB ln).toList = [] := by intro e; rw [e] at e1; cases e1
        have e3 : ((strB ln).toList == []) = false := by simpa using e2
        have hsz2 : (strB ln).size ≤ 100000 := by rewrite [strB_size]; omega
        have cF := fun W hW => fieldOf_any (strB ln) W hsz2 hW
        rw [strB_data] at cF
        rw [lineV] at cL
        dsimp only at cL
        have q2 : (K : Int) + (((strB ln).size : Int) + 2) = (K2 : Int) := by rewrite [hsz]; exact q1
        clear q1 hl hle
        by_cases h64 : acc.length = 64
        · rw [if_pos h64] at hH
          have HR := Lib.hid hH
          have e4 : ((acc.length : Int) == 64) = true := by simp; omega
          clear hH cF hsz
          generalize strB ln = SL at *
          go_wp2_with fail
          refine (cL _).mono ?_
          rintro e w2 ⟨rfl, hb2⟩
          have HB2 := Lib.hid (HB.out.trans (hb2.mono HB.out.size))
          clear hb2 cL
          go_wp2_with fail
          refine bodyPost_ret (v := .tuple #[.slice none 0 0, .int .i64 0, .int .i64 4]) (by simp [results, Tryz.results55, go_sem]) rfl ⟨HB2.out, ?_⟩
          rw [HR.out]
        · rw [if_neg h64] at hH
          have e4 : ((acc.length : Int) == 64) = false := by simp; omega
          cases hfl : fldL ln with
          | none =>
            rw [hfl] at hH cF
            have HR := Lib.hid hH
            clear hH hsz hfl
            generalize strB ln = SL at *
            go_wp2_with fail
            refine (cL _).mono ?_
            rintro e w2 ⟨rfl, hb2⟩
            have HB2 := Lib.hid (HB.out.trans (hb2.mono HB.out.size))
            clear hb2 cL
            go_wp2_with fail
            refine (cF _ (Utf8Tabs_below HT.out HB2.out)).mono ?_
            rintro e w3 ⟨rfl, hb3⟩
            have HB3 := Lib.hid (HB2.out.trans (hb3.mono HB2.out.size))
            clear hb3 cF
            rewrite [fldV]
            go_wp2_with fail
            refine bodyPost_ret (v := .tuple #[.slice none 0 0, .int .i64 0, .int .i64 2]) (by simp [results, Tryz.results55, go_sem]) rfl ⟨HB3.out.alloc HB3.out.size _, ?_⟩
            rw [HR.out]
          | some p =>
            rw [hfl] at hH cF
            have HR := Lib.hid hH
            clear hH hsz hfl
            generalize strB ln = SL at *
            go_wp2_with fail
            refine (cL _).mono ?_
            rintro e w2 ⟨rfl, hb2⟩
            have HB2 := Lib.hid (HB.out.trans (hb2.mono HB.out.size))
            have HO2 := Lib.hid (ownsRow_later HO.out hb2)
            clear hb2 cL
            go_wp2_with fail
            refine (cF _ (Utf8Tabs_below HT.out HB2.out)).mono ?_
            rintro e w3 ⟨rfl, hb3⟩
            have HB3 := Lib.hid (HB2.out.trans (hb3.mono HB2.out.size))
            have hO3 := ownsRow_later HO2.out hb3
            have hO4 := (hO3.alloc (.cells #[.string (strB p.1), .string (strB p.2)] 70)).alloc (.cells #[.string (strB p.1), .string (strB p.2)] 70)
            have hnew := cells_newF (w3.alloc (.cells #[.string (strB p.1), .string (strB p.2)] 70)) (cellsF p) 70
            rw [show (w3.alloc (.cells #[.string (strB p.1), .string (strB p.2)] 70)).heap.size = w3.heap.size + 1 by simp] at hnew
            have HNew := Lib.hid hnew
            have hz3 := HB3.out.size
            clear hb3 cF hnew
            rewrite [fldV]
            dsimp only
            go_wp2_with (at_builtin; refine wpList_append_own _ rfl _ _ 23 rfl w.heap.size 70 i0 (.agg #[.string ⟨#[]⟩, .string ⟨#[]⟩]) 2 32 Tryz.underlying23 hi hz0 hz1 hz2 rfl (by decide) (.slice av acc.length cv) acc.length (rowF acc) rfl hO4 ⟨w3.heap.size + 1, 0, none⟩ 1 1 (cellsF p) rfl rfl HNew.out (by simp [Value.oneCell', cellsF]) (by unfold maxLen; omega) (by omega) (by simp; omega) ?_; intro v' w5 hown5 hgrow5 _; obtain ⟨a5, c5, rfl⟩ := owns_formF hown5)
            have hbw5 : Below w.heap.size w w5 := ((HB3.out.alloc hz3 _).alloc (by simp; omega) _).grown hgrow5 (by simp; omega) (fun k e => (World.ownsRow.lt hO4 k e).1)
            go_roundw
            case rel => exact ⟨K2, f, acc ++ [p], a5, c5, by rw [List.length_append] <;> rfl, by go_num, hK2s, by simp; omega, by simp; omega, Lib.hid HR.out, by rewrite [List.length_append, rowF_snoc]; exact hown5, hbw5⟩
            case measure => simp [intOf]; omega
    · rw [if_pos he] at hH
      have HR := Lib.hid hH
      have e1 : (er == 0) = false := by simpa using he
      rw [lineV] at cL
      dsimp only at cL
      clear hH hle
      generalize strB ln = SL at *
      go_wp2_with fail
      refine (cL _).mono ?_
      rintro e w2 ⟨rfl, hb2⟩
      have HB2 := Lib.hid (HB.out.trans (hb2.mono HB.out.size))
      clear hb2 cL
      go_wp2_with fail
      refine bodyPost_ret (v := .tuple #[.slice none 0 0, .int .i64 0, .int .i64 er]) (by simp [results, Tryz.results55, go_sem]) rfl ⟨HB2.out, ?_⟩
      rw [HR.out]

end Go.Proofs.YthbfcamfapgodaaGreatDoor

namespace Go.Proofs.YthbfcamfapgodaaGreatDoor
open Go.RowKit Go.Maps
open Go.WideMaps (keyOf_string_mk)

theorem owns_sliceF {w : World} {base : Nat} {e : TypeId} {size : Nat} {v : Value} {n : Nat} {xs : List Value} (h : w.ownsRow base e size v n xs) (hn : 0 < n) : ∃ g cap, v = .slice (some ⟨g, 0, none⟩) n cap ∧ base ≤ g ∧ g < w.heap.size ∧ n ≤ cap := by
  rcases h.2 with ⟨_, h2⟩ | ⟨g, cap, cur, hv, hg, hh, hc, _⟩
  · omega
  · exact ⟨g, cap, hv, hg, (Array.getElem?_eq_some_iff.1 hh).1, hc⟩
theorem owns_cellsF {w : World} {base : Nat} {e : TypeId} {size n g cap : Nat} {xs : List Value} (h : w.ownsRow base e size (.slice (some ⟨g, 0, none⟩) n cap) n xs) (j : Nat) (u : Value) (hj : xs[j]? = some u) : w.cell? ⟨g, j, none⟩ = some u := by
  have := World.ownsRow.cells h (g := g) rfl j u hj
  rw [add_none] at this
  exact this

/-- A map's datum that is a set of keys. -/
def KsetF (D : DataW Unit) (ks : List (List UInt8)) : Prop :=
  Tidy D ∧ (∀ k, Maps.has D (.string k) = decide (k ∈ ks)) ∧ Maps.size D ≤ ks.length ∧ (Maps.size D = ks.length ↔ ks.Nodup)
theorem ksetF_none : KsetF (.map []) [] := ⟨tidy_empty, fun k => by simp [Maps.has], by simp [Maps.size], by simp [Maps.size]⟩
theorem ksetF_put {D : DataW Unit} {ks : List (List UInt8)} (h : KsetF D ks) (k : List UInt8) (d : DataW Unit) : KsetF (D.put (.string k) d) (ks ++ [k]) := by
  obtain ⟨h1, h2, h3, h4⟩ := h
  have hk : WideAt.IsKeyLit (.string k) := trivial
  refine ⟨h1.put hk d, fun q => ?_, ?_, ?_⟩
  · by_cases hq : q = k
    · subst hq
      rewrite [has_put_same h1.isMap hk]; simp
    · rewrite [has_put_other (by simpa using hq), h2]
      simp [hq]
  · rewrite [size_put h1, List.length_append, List.length_singleton]
    split <;> omega
  · rewrite [size_put h1, h2, List.length_append, List.length_singleton]
    by_cases hm : k ∈ ks
    · rewrite [if_pos (by simpa using hm)]
      constructor
      · intro e; omega
      · intro hn
        rw [List.nodup_append] at hn
        exact absurd rfl (hn.2.2 k hm k (by simp))
    · rewrite [if_neg (by simpa using hm)]
      constructor
      · intro e
        rewrite [List.nodup_append]
        refine ⟨h4.1 (by omega), by simp, fun a ha b hb => ?_⟩
        simp only [List.mem_singleton] at hb
        subst hb
        intro e2
        subst e2
        exact hm ha
      · intro hn
        rw [List.nodup_append] at hn
        have := h4.2 hn.1
        omega

end Go.Proofs.YthbfcamfapgodaaGreatDoor

namespace Go.Proofs.YthbfcamfapgodaaGreatDoor
open Go.RowKit Go.Shelf Go.Lib

/-- Fields in memory, read only, from a block on. -/
def Flds (lo : Nat) (w : World) (v : Value) (fs : List Fld) : Prop :=
  ∃ ao cap, v = .slice ao fs.length cap ∧ (fs = [] ∨ ∃ b off, ao = some ⟨b, off, none⟩ ∧ lo ≤ b ∧ b < w.heap.size ∧ ∀ j p, fs[j]? = some p → w.cell? ⟨b, off + j * 2, none⟩ = some (.string (strB p.1)) ∧ w.cell? ⟨b, off + j * 2 + 1, none⟩ = some (.string (strB p.2)))

theorem Flds.nothing (lo : Nat) (w : World) : Flds lo w (.slice none 0 0) [] := ⟨none, 0, rfl, .inl rfl⟩
theorem Flds.below {lo : Nat} {w w' : World} {v : Value} {fs : List Fld} (h : Flds lo w v fs) (hb : Below w.heap.size w w') : Flds lo w' v fs := by
  obtain ⟨ao, cap, hv, hc⟩ := h
  rcases hc with hc | ⟨b, off, h1, h0, h2, h3⟩
  · exact ⟨ao, cap, hv, .inl hc⟩
  · exact ⟨ao, cap, hv, .inr ⟨b, off, h1, h0, Nat.lt_of_lt_of_le h2 hb.size, fun j p hj => ⟨(hb.cell (p := ⟨b, off + j * 2, none⟩) h2).trans (h3 j p hj).1, (hb.cell (p := ⟨b, off + j * 2 + 1, none⟩) h2).trans (h3 j p hj).2⟩⟩⟩
theorem Flds.low {lo lo' : Nat} {w : World} {v : Value} {fs : List Fld} (h : Flds lo w v fs) (hl : lo' ≤ lo) : Flds lo' w v fs := by
  obtain ⟨ao, cap, hv, hc⟩ := h
  rcases hc with hc | ⟨b, off, h1, h0, h2, h3⟩
  · exact ⟨ao, cap, hv, .inl hc⟩
  · exact ⟨ao, cap, hv, .inr ⟨b, off, h1, Nat.le_trans hl h0, h2, h3⟩⟩
theorem rowF_at : ∀ (fs : List Fld) (j : Nat) (p : Fld), fs[j]? = some p → (rowF fs)[j * 2]? = some (.string (strB p.1)) ∧ (rowF fs)[j * 2 + 1]? = some (.string (strB p.2))
  | [], _, _, h => by simp at h
  | q :: fs, 0, p, h => by
    obtain rfl : q = p := by simpa using h
    exact ⟨rfl, rfl⟩
  | q :: fs, j + 1, p, h => by
    have ih := rowF_at fs j p (by simpa using h)
    have e1 : (j + 1) * 2 = j * 2 + 1 + 1 := by omega
    rewrite [e1, rowF]
    exact ih
theorem Flds.of_own {lo base : Nat} {w : World} {v : Value} {fs : List Fld} (h : w.ownsRow base 70 2 v fs.length (rowF fs)) (hl : lo ≤ base) : Flds lo w v fs := by
  obtain ⟨ao, cap, rfl⟩ := owns_formF h
  refine ⟨ao, cap, rfl, ?_⟩
  by_cases hx : fs = []
  · exact .inl hx
  · have hpos : 0 < fs.length := List.length_pos_iff.2 hx
    obtain ⟨g, cap2, hv, hg, hlt, _⟩ := owns_sliceF h hpos
    obtain ⟨rfl, _, rfl⟩ := Value.slice.inj hv
    refine .inr ⟨g, 0, rfl, Nat.le_trans hl hg, hlt, fun j p hj => ?_⟩
    obtain ⟨h1, h2⟩ := rowF_at fs j p hj
    rewrite [Nat.zero_add]
    exact ⟨owns_cellsF h _ _ h1, owns_cellsF h _ _ h2⟩

/-- What bounds fields. -/
def FldsOk (fs : List Fld) : Prop := fs.length ≤ 100000 ∧ ∀ p ∈ fs, p.1.length ≤ 100000 ∧ p.2.length ≤ 100000

end Go.Proofs.YthbfcamfapgodaaGreatDoor

namespace Go.Proofs.YthbfcamfapgodaaGreatDoor
open Go.RowKit Go.Shelf Go.Lib

/-- Is a field wrong? -/
def wrongL (p : Fld) : Bool := decide (2000 < p.1.length + 2 + p.2.length) || !tokL p.1 || !(p.1 == lowL p.1) || !txtL p.2

/-- Are the fields valid? -/
def rightH (fs : List Fld) : Bool := decide (fs.length ≤ 64) && !fs.any wrongL

/-- The line of a field; the lines of fields; the text of fields that are valid. -/
def lineF (p : Fld) : List UInt8 := p.1 ++ [58, 32] ++ p.2 ++ [13, 10]
def prF : List Fld → List UInt8
  | [] => []
  | p :: ps => lineF p ++ prF ps
theorem prF_snoc : ∀ (ps : List Fld) (p : Fld), prF (ps ++ [p]) = prF ps ++ lineF p
  | [], p => by simp [prF]
  | q :: ps, p => by rw [List.cons_append, prF, prF, prF_snoc ps p, List.append_assoc]
def printH (fs : List Fld) : Option (List UInt8) := if rightH fs then some (prF fs ++ [13, 10]) else none
def textH : Option (List UInt8) → Value
  | none => .tuple #[.string ⟨#[]⟩, .int .i64 2]
  | some t => .tuple #[.string (strB t), .int .i64 0]
theorem lineF_len (p : Fld) : (lineF p).length = p.1.length + p.2.length + 4 := by
  simp [lineF]
  omega

theorem IsBuilder_belowF {T e : TypeId} {B b : Nat} {bs : List Value} {w W : World} (h : Lib.IsBuilder T e B b bs w) (hb : Below w.heap.size w W) : Lib.IsBuilder T e B b bs W := by
  have one : ∀ p, Lib.BuilderAt T e B b p bs w → Lib.BuilderAt T e B b p bs W := by
    rintro p ⟨hB, v, hh, ho, hn⟩
    exact ⟨hB, v, (hb.block b (Array.getElem?_eq_some_iff.1 hh).1).trans hh, ownsRow_later ho hb, hn⟩
  rcases h with h | h
  · exact .inl (one _ h)
  · exact .inr (one _ h)
theorem IsBuilder_ltF {T e : TypeId} {B b : Nat} {bs : List Value} {w : World} (h : Lib.IsBuilder T e B b bs w) : b < w.heap.size := by
  rcases h with h | h
  · exact h.lt
  · exact h.lt

end Go.Proofs.YthbfcamfapgodaaGreatDoor

namespace Go.Proofs.YthbfcamfapgodaaGreatDoor

theorem lowB_idem (c : UInt8) : lowB (lowB c) = lowB c := by
  have := all_bytes (fun c => lowB (lowB c) == lowB c) (by decide +kernel) c
  simpa using this
theorem tch_low (c : UInt8) (h : tchI c.toNat = true) : tchI (lowB c).toNat = true := by
  have := all_bytes (fun c => !tchI c.toNat || tchI (lowB c).toNat) (by decide +kernel) c
  simpa [h] using this
theorem tch_not (c : UInt8) (h : tchI c.toNat = true) : blkB c = false ∧ (c == 44) = false ∧ (c == 34) = false ∧ txtI c.toNat = true := by
  have := all_bytes (fun c => !tchI c.toNat || (!blkB c && !(c == 44) && !(c == 34) && txtI c.toNat)) (by decide +kernel) c
  simpa [h, and_assoc] using this

theorem lowL_idem (l : List UInt8) : lowL (lowL l) = lowL l := by
  simp [lowL, lowB_idem]
theorem lowL_length (l : List UInt8) : (lowL l).length = l.length := by simp [lowL]

theorem tokL_iff (l : List UInt8) : tokL l = true ↔ (∀ c ∈ l, tchI c.toNat = true) ∧ l ≠ [] := by
  simp [tokL]

theorem tok_low (l : List UInt8) (h : tokL l = true) : tokL (lowL l) = true := by
  rw [tokL_iff] at h ⊢
  refine ⟨?_, by simpa [lowL] using h.2⟩
  intro c hc
  obtain ⟨d, hd, rfl⟩ := List.mem_map.1 hc
  exact tch_low d (h.1 d hd)

theorem tlL_of (l : List UInt8) (h : ∀ c ∈ l, blkB c = false) : tlL l = l := by
  cases l with
  | nil => rfl
  | cons c r => rw [tlL, List.dropWhile_cons_of_neg (by rewrite [h c (List.mem_cons_self ..)]; decide)]

theorem trL_eq (l : List UInt8) : trL l = (tlL l.reverse).reverse := rfl

theorem trimL_of (l : List UInt8) (h : ∀ c ∈ l, blkB c = false) : trimL l = l := by
  rw [trimL, tlL_of l h, trL_eq, tlL_of l.reverse (fun c hc => h c (List.mem_reverse.1 hc)), List.reverse_reverse]

theorem tlL_idem (l : List UInt8) : tlL (tlL l) = tlL l := by
  induction l with
  | nil => rfl
  | cons c r ih =>
    cases hb : blkB c
    · have e : tlL (c :: r) = c :: r := by rw [tlL, List.dropWhile_cons_of_neg (by rewrite [hb]; decide)]
      rw [e, e]
    · have e : tlL (c :: r) = tlL r := by rw [tlL, List.dropWhile_cons_of_pos hb] <;> rfl
      rw [e, ih]

theorem trL_idem (l : List UInt8) : trL (trL l) = trL l := by
  rw [trL_eq, trL_eq, List.reverse_reverse, tlL_idem]

theorem tlL_head (c : UInt8) (r : List UInt8) (h : tlL (c :: r) = c :: r) : blkB c = false := by
  cases hb : blkB c
  · rfl
  · have e : tlL (c :: r) = tlL r := by rw [tlL, List.dropWhile_cons_of_pos hb] <;> rfl
    rw [e] at h
    have h1 := dropWhile_le blkB r
    have h2 := congrArg List.length h
    simp only [List.length_cons] at h2
    unfold tlL at h2
    omega

theorem trL_prefix (l : List UInt8) : ∃ t, l = trL l ++ t := by
  obtain ⟨t, ht⟩ := List.dropWhile_suffix (l := l.reverse) blkB
  refine ⟨t.reverse, ?_⟩
  have := congrArg List.reverse ht
  rw [List.reverse_append, List.reverse_reverse] at this
  exact this.symm

theorem tl_tr (l : List UInt8) (h : tlL l = l) : tlL (trL l) = trL l := by
  obtain ⟨t, ht⟩ := trL_prefix l
  generalize hm : trL l = m at ht
  cases m with
  | nil => rfl
  | cons c r =>
    have hb : blkB c = false := tlL_head c (r ++ t) (by rewrite [← List.cons_append, ← ht]; exact h)
    rw [tlL, List.dropWhile_cons_of_neg (by rewrite [hb]; decide)]

theorem trimL_idem (l : List UInt8) : trimL (trimL l) = trimL l := by
  show trL (tlL (trL (tlL l))) = trL (tlL l)
  rw [tl_tr _ (tlL_idem l), trL_idem]

theorem tok_trim (l : List UInt8) (h : tokL l = true) : trimL l = l :=
  trimL_of l (fun c hc => (tch_not c (((tokL_iff l).1 h).1 c hc)).1)

theorem tok_text (l : List UInt8) (h : tokL l = true) : txtL l = true := by
  rewrite [txtL, tok_trim l h]
  simp only [beq_self_eq_true, Bool.and_true, List.all_eq_true]
  exact fun c hc => (tch_not c (((tokL_iff l).1 h).1 c hc)).2.2.2

end Go.Proofs.YthbfcamfapgodaaGreatDoor

namespace Go.Proofs.YthbfcamfapgodaaGreatDoor
open Go.RowKit

theorem index_mid : ∀ (t : List UInt8) (c : UInt8) (r : List UInt8), (∀ x ∈ t, x ≠ c) → Lib.indexByte (t ++ c :: r) c = (t.length : Int)
  | [], c, r, _ => by rewrite [List.nil_append, Lib.indexByte]; simp
  | x :: t, c, r, h => by
    have ih := index_mid t c r (fun y hy => h y (List.mem_cons_of_mem _ hy))
    have hx : (x == c) = false := by simpa using h x (List.mem_cons_self ..)
    have h1 : ((t.length : Int) == -1) = false := by
      rewrite [beq_eq_false_iff_ne]
      omega
    rewrite [List.cons_append, Lib.indexByte, hx, ih, h1, List.length_cons]
    simp

theorem suffix_snoc (t : List UInt8) : Lib.hasSuffix (t ++ [13]) [13] = true := by
  unfold Lib.hasSuffix
  rewrite [List.isSuffixOf_iff_suffix]
  exact ⟨t, rfl⟩

/-- A line, with its end and whatever is behind it. -/
theorem lineL_text (t r : List UInt8) (h : ∀ x ∈ t, x ≠ 10) (hl : t.length ≤ 2000) : lineL (t ++ 13 :: 10 :: r) = (t, 0) := by
  have hi : Lib.indexByte (t ++ 13 :: 10 :: r) 10 = ((t ++ [13]).length : Int) := by
    rewrite [show t ++ 13 :: 10 :: r = (t ++ [13]) ++ 10 :: r by simp]
    refine index_mid _ _ _ fun x hx => ?_
    rcases List.mem_append.1 hx with hx | hx
    · exact h x hx
    · simp only [List.mem_singleton] at hx
      subst hx
      decide
  have hn : ¬ (((t ++ [13]).length : Int) = -1) := by omega
  have ht : (t ++ 13 :: 10 :: r).take ((t ++ [13]).length : Int).toNat = t ++ [13] := by
    rw [Int.toNat_natCast, show t ++ 13 :: 10 :: r = (t ++ [13]) ++ 10 :: r by simp, List.take_left']
    rfl
  unfold lineL
  rewrite [hi, if_neg hn, ht, suffix_snoc, if_neg (by decide)]
  have hs : Lib.trimSuffix (t ++ [13]) [13] = t := by
    unfold Lib.trimSuffix
    rewrite [suffix_snoc, if_pos rfl]
    simp
  rw [hs, if_neg (by omega)]

theorem tch_line (c : UInt8) (h : tchI c.toNat = true) : c ≠ 10 ∧ c ≠ 58 := by
  have := all_bytes (fun c => !tchI c.toNat || (!(c == 10) && !(c == 58))) (by decide +kernel) c
  simpa [h] using this
theorem txt_line (c : UInt8) (h : txtI c.toNat = true) : c ≠ 10 := by
  have := all_bytes (fun c => !txtI c.toNat || !(c == 10)) (by decide +kernel) c
  simpa [h] using this
theorem txt_all {l : List UInt8} (h : txtL l = true) : (∀ c ∈ l, txtI c.toNat = true) ∧ trimL l = l := by
  unfold txtL at h
  rw [Bool.and_eq_true, List.all_eq_true, beq_iff_eq] at h
  exact h
theorem trimL_space (l : List UInt8) : trimL (32 :: l) = trimL l := by
  have : tlL (32 :: l) = tlL l := by rw [tlL, List.dropWhile_cons_of_pos (by decide)] <;> rfl
  rw [trimL, trimL, this]

/-- What a field that is valid has. -/
theorem rightF {p : Fld} (h : wrongL p = false) : p.1.length + p.2.length ≤ 1998 ∧ tokL p.1 = true ∧ lowL p.1 = p.1 ∧ txtL p.2 = true := by
  unfold wrongL at h
  simp only [Bool.or_eq_false_iff, decide_eq_false_iff_not, Bool.not_eq_false', beq_iff_eq] at h
  obtain ⟨⟨⟨h1, h2⟩, h3⟩, h4⟩ := h
  exact ⟨by omega, h2, h3.symm, h4⟩

theorem fldL_text {p : Fld} (h : wrongL p = false) : fldL (p.1 ++ [58, 32] ++ p.2) = some p := by
  obtain ⟨_, h2, h3, h4⟩ := rightF h
  have e : p.1 ++ [58, 32] ++ p.2 = p.1 ++ 58 :: (32 :: p.2) := by simp
  have hi : Lib.indexByte (p.1 ++ 58 :: (32 :: p.2)) 58 = (p.1.length : Int) := index_mid _ _ _ fun x hx => (tch_line x (((tokL_iff _).1 h2).1 x hx)).2
  have hn : ¬ ((p.1.length : Int) = -1) := by omega
  have h1 : (p.1 ++ 58 :: (32 :: p.2)).take p.1.length = p.1 := by rw [List.take_left']; rfl
  have hd : (p.1 ++ 58 :: (32 :: p.2)).drop (p.1.length + 1) = 32 :: p.2 := by
    rw [show p.1 ++ 58 :: (32 :: p.2) = (p.1 ++ [58]) ++ (32 :: p.2) by simp, List.drop_left']
    simp
  unfold fldL
  rw [e, hi, if_neg hn, Int.toNat_natCast, h1, hd, trimL_space, (txt_all h4).2, if_pos ⟨h2, h4⟩, h3]

theorem line_text {p : Fld} (h : wrongL p = false) (r : List UInt8) : lineL (lineF p ++ r) = (p.1 ++ [58, 32] ++ p.2, 0) := by
  obtain ⟨h1, h2, h3, h4⟩ := rightF h
  have e : lineF p ++ r = (p.1 ++ [58, 32] ++ p.2) ++ 13 :: 10 :: r := by simp [lineF]
  rewrite [e]
  refine lineL_text _ _ (fun x hx => ?_) (by simp; omega)
  rcases List.mem_append.1 hx with hx | hx
  · rcases List.mem_append.1 hx with hx | hx
    · exact (tch_line x (((tokL_iff _).1 h2).1 x hx)).1
    · simp only [List.mem_cons, List.not_mem_nil, or_false] at hx
      rcases hx with rfl | rfl <;> decide
  · exact txt_line x ((txt_all h4).1 x hx)

theorem parH_print (l r : List UInt8) : ∀ (fs : List Fld) (f K : Nat) (acc : List Fld), (∀ p ∈ fs, wrongL p = false) → fs.length < f → acc.length + fs.length ≤ 64 → l.drop K = prF fs ++ 13 :: 10 :: r →
    parH f l K acc = .ok (acc ++ fs, K + (prF fs).length + 2)
  | fs, 0, _, _, _, hf, _, _ => by omega
  | [], f + 1, K, acc, _, _, _, hd => by
    have hL : lineL (l.drop K) = ([], 0) := by
      rewrite [hd]
      exact lineL_text [] r (fun x hx => by cases hx) (by simp)
    rewrite [parH, hL]
    simp [prF]
  | p :: fs, f + 1, K, acc, hw, hf, ha, hd => by
    have hp := hw p (List.mem_cons_self ..)
    have hL : lineL (l.drop K) = (p.1 ++ [58, 32] ++ p.2, 0) := by
      rewrite [hd, prF, List.append_assoc]
      exact line_text hp _
    have hne : p.1 ++ [58, 32] ++ p.2 ≠ [] := by simp
    have hlen : (lineF p).length = (p.1 ++ [58, 32] ++ p.2).length + 2 := by rw [lineF, List.length_append] <;> rfl
    have hd2 : l.drop (K + (p.1 ++ [58, 32] ++ p.2).length + 2) = prF fs ++ 13 :: 10 :: r := by
      rw [Nat.add_assoc, ← hlen, ← List.drop_drop, hd, prF, List.append_assoc, List.drop_left']
      rfl
    have ih := parH_print l r fs f (K + (p.1 ++ [58, 32] ++ p.2).length + 2) (acc ++ [p]) (fun q hq => hw q (List.mem_cons_of_mem _ hq)) (by simp only [List.length_cons] at hf; omega) (by simp only [List.length_cons, List.length_append, List.length_nil] at ha ⊢; omega) hd2
    have ha' : acc.length ≠ 64 := by simp only [List.length_cons] at ha; omega
    rewrite [parH, hL]
    dsimp only
    rewrite [if_neg (by simp), if_neg hne, if_neg ha', fldL_text hp]
    dsimp only
    have hpl : (prF (p :: fs)).length = (p.1 ++ [58, 32] ++ p.2).length + 2 + (prF fs).length := by rw [prF, List.length_append, hlen]
    rewrite [ih, hpl]
    simp only [List.append_assoc, List.singleton_append, Except.ok.injEq, Prod.mk.injEq, true_and]
    omega

/-- What is printed is parsed, to its end, whatever stands behind it. -/
theorem parse_print (fs : List Fld) (more : List UInt8) (h : rightH fs = true) : parseH (prF fs ++ [13, 10] ++ more) = .ok (fs, (prF fs ++ [13, 10]).length) := by
  unfold rightH at h
  simp only [Bool.and_eq_true, decide_eq_true_eq, Bool.not_eq_true', List.any_eq_false, Bool.not_eq_true] at h
  have := parH_print (prF fs ++ [13, 10] ++ more) more fs 65 0 [] h.2 (by omega) (by simpa using h.1) (by simp)
  rewrite [parseH, this]
  simp

/-- A line is short; so are a field's name and value. -/
theorem lineL_short (l : List UInt8) : (lineL l).1.length ≤ 2000 := by
  unfold lineL
  split
  · simp
  · split
    · simp
    · split
      · simp
      · dsimp only; omega
theorem fldL_short (l : List UInt8) (p : Fld) (h : fldL l = some p) : p.1.length ≤ l.length ∧ p.2.length ≤ l.length := by
  unfold fldL at h
  split at h
  · cases h
  · split at h
    · obtain rfl := Option.some.inj h
      dsimp only
      have := trimL_le (l.drop ((Lib.indexByte l 58).toNat + 1))
      simp only [List.length_drop] at this
      rewrite [lowL_length, List.length_take]
      omega
    · cases h

theorem parH_out (l : List UInt8) : ∀ (f K : Nat) (acc fs : List Fld) (n : Nat), parH f l K acc = .ok (fs, n) → K ≤ l.length → acc.length ≤ 64 → (∀ p ∈ acc, p.1.length ≤ 2000 ∧ p.2.length ≤ 2000) →
    n ≤ l.length ∧ fs.length ≤ 64 ∧ ∀ p ∈ fs, p.1.length ≤ 2000 ∧ p.2.length ≤ 2000
  | 0, _, _, _, _, h, _, _, _ => by cases h
  | f + 1, K, acc, fs, n, h, hK, ha, hp => by
    have hle := lineL_le (l.drop K)
    have hsh := lineL_short (l.drop K)
    rw [List.length_drop] at hle
    rw [parH] at h
    by_cases he : (lineL (l.drop K)).2 ≠ 0
    · rw [if_pos he] at h; cases h
    · rw [if_neg he] at h
      have h0 := hle (by simpa using he)
      by_cases hn : (lineL (l.drop K)).1 = []
      · rw [if_pos hn] at h
        simp only [Except.ok.injEq, Prod.mk.injEq] at h
        obtain ⟨rfl, rfl⟩ := h
        exact ⟨by omega, ha, hp⟩
      · rw [if_neg hn] at h
        by_cases h64 : acc.length = 64
        · rw [if_pos h64] at h; cases h
        · rw [if_neg h64] at h
          cases hf : fldL (lineL (l.drop K)).1 with
          | none => rw [hf] at h; cases h
          | some p =>
            rw [hf] at h
            have hps := fldL_short _ p hf
            refine parH_out l f _ _ fs n h (by omega) (by simp; omega) (fun q hq => ?_)
            rcases List.mem_append.1 hq with hq | hq
            · exact hp q hq
            · simp only [List.mem_singleton] at hq
              subst hq
              omega
theorem parse_out (l : List UInt8) (fs : List Fld) (n : Nat) (h : parseH l = .ok (fs, n)) : n ≤ l.length ∧ fs.length ≤ 64 ∧ ∀ p ∈ fs, p.1.length ≤ 2000 ∧ p.2.length ≤ 2000 :=
  parH_out l 65 0 [] fs n h (Nat.zero_le _) (by simp) (fun p hp => by cases hp)
theorem parse_ok (l : List UInt8) (fs : List Fld) (n : Nat) (h : parseH l = .ok (fs, n)) : FldsOk fs := by
  obtain ⟨_, h2, h3⟩ := parse_out l fs n h
  exact ⟨by omega, fun p hp => by have := h3 p hp; omega⟩

end Go.Proofs.YthbfcamfapgodaaGreatDoor

namespace Go.Proofs.YthbfcamfapgodaaGreatDoor
open Go.RowKit

theorem index_not : ∀ (t : List UInt8) (c : UInt8), (∀ x ∈ t, x ≠ c) → Lib.indexByte t c = -1
  | [], _, _ => rfl
  | x :: t, c, h => by
    have ih := index_not t c (fun y hy => h y (List.mem_cons_of_mem _ hy))
    have hx : (x == c) = false := by simpa using h x (List.mem_cons_self ..)
    rewrite [Lib.indexByte, hx, ih]
    rfl
theorem not_snoc {s : ByteArray} {k : Nat} {c : UInt8} (h : ∀ x ∈ s.data.toList.take k, x ≠ c) (hk : k < s.size) (hc : ¬ s[k] = c) : ∀ x ∈ s.data.toList.take (k + 1), x ≠ c := by
  intro x hx
  rw [take_snoc s k hk] at hx
  rcases List.mem_append.1 hx with hx | hx
  · exact h x hx
  · simp only [List.mem_singleton] at hx
    rewrite [hx]
    exact hc
theorem index_at (s : ByteArray) (k : Nat) (c : UInt8) (h : ∀ x ∈ s.data.toList.take k, x ≠ c) (hk : k < s.size) (hc : s[k] = c) : Lib.indexByte s.data.toList c = (k : Int) := by
  have e : s.data.toList = s.data.toList.take k ++ c :: s.data.toList.drop (k + 1) := by
    rw [← hc, ← drop_cons_at s k hk, List.take_append_drop]
  have := index_mid (s.data.toList.take k) c (s.data.toList.drop (k + 1)) h
  rw [← e, List.length_take, ← Lib.size_eq] at this
  rewrite [this]
  congr 1
  omega

/-- A text without an end of a line. -/
theorem lineL_no (s : ByteArray) (h : ∀ x ∈ s.data.toList, x ≠ 10) : lineL s.data.toList = ([], if 2002 < s.size then 4 else 3) := by
  rw [lineL, index_not _ _ h, if_pos rfl, ← Lib.size_eq]
/-- A line's end at the very beginning. -/
theorem lineL_zero (s : ByteArray) (hk : 0 < s.size) (hc : s[0] = 10) : lineL s.data.toList = ([], 2) := by
  have hi := index_at s 0 10 (by simp) hk hc
  rewrite [lineL, hi, if_neg (by decide)]
  rw [show ((0 : Nat) : Int).toNat = 0 from rfl, List.take_zero, if_pos (by decide)]
/-- A line's end behind another byte. -/
theorem lineL_at (s : ByteArray) (k : Nat) (h : ∀ x ∈ s.data.toList.take (k + 1), x ≠ 10) (hk : k + 1 < s.size) (hc : s[k + 1] = 10) :
    lineL s.data.toList = if s[k] = 13 then (if 2000 < k then ([], 4) else (s.data.toList.take k, 0)) else ([], 2) := by
  have hi := index_at s (k + 1) 10 h hk hc
  have ht := take_snoc s k (by omega)
  have hl : (s.data.toList.take k).length = k := by rewrite [List.length_take, ← Lib.size_eq]; omega
  rewrite [lineL, hi, if_neg (by omega), Int.toNat_natCast, ht]
  by_cases h13 : s[k] = 13
  · have hs : Lib.trimSuffix (s.data.toList.take k ++ [13]) [13] = s.data.toList.take k := by
      unfold Lib.trimSuffix
      rewrite [suffix_snoc, if_pos rfl]
      simp
    rw [if_pos h13, h13, suffix_snoc, if_neg (by decide), hs, hl]
  · have hs : Lib.hasSuffix (s.data.toList.take k ++ [s[k]]) [13] = false := by
      cases hx : Lib.hasSuffix (s.data.toList.take k ++ [s[k]]) [13] with
      | false => rfl
      | true =>
        exfalso
        unfold Lib.hasSuffix at hx
        obtain ⟨t, ht2⟩ := List.isSuffixOf_iff_suffix.1 hx
        have := congrArg List.getLast? ht2
        simp only [List.getLast?_append, List.getLast?_singleton, Option.some_or, Option.some.injEq] at this
        exact h13 this.symm
    rw [if_neg h13, if_pos hs]

/-- The place of the first colon from a place on, or -1. -/
def ixF (l : List UInt8) (c : UInt8) (k : Nat) : Int := if Lib.indexByte (l.drop k) c = -1 then -1 else Lib.indexByte (l.drop k) c + k
theorem ixF_end (l : List UInt8) (c : UInt8) : ixF l c l.length = -1 := by
  rewrite [ixF, List.drop_length]
  rfl
theorem ixF_zero (l : List UInt8) (c : UInt8) : ixF l c 0 = Lib.indexByte l c := by
  rewrite [ixF, List.drop_zero]
  split
  · rename_i h
    exact h.symm
  · simp
theorem ixF_yes (s : ByteArray) (c : UInt8) (k : Nat) (h : k < s.size) (hc : s[k] = c) : ixF s.data.toList c k = k := by
  have : Lib.indexByte (s.data.toList.drop k) c = 0 := by
    rewrite [drop_cons_at s k h, Lib.indexByte, hc]
    simp
  rewrite [ixF, this, if_neg (by decide)]
  omega
theorem ixF_no (s : ByteArray) (c : UInt8) (k : Nat) (h : k < s.size) (hc : ¬ s[k] = c) : ixF s.data.toList c k = ixF s.data.toList c (k + 1) := by
  have hx : (s[k] == c) = false := by simpa using hc
  have h0 := Lib.indexByte_ge (s.data.toList.drop (k + 1)) c
  rewrite [ixF, ixF, drop_cons_at s k h, Lib.indexByte, hx]
  by_cases hm : Lib.indexByte (s.data.toList.drop (k + 1)) c = -1
  · rewrite [hm]
    rfl
  · have hb : (Lib.indexByte (s.data.toList.drop (k + 1)) c == -1) = false := by simpa using hm
    rewrite [hb, if_neg hm]
    simp only [Bool.false_eq_true, if_false]
    rewrite [if_neg (by omega)]
    omega

end Go.Proofs.YthbfcamfapgodaaGreatDoor

namespace Go.Proofs.YthbfcamfapgodaaGreatDoor
open Go.RowKit

/-- A slice of texts in memory. -/
def StrsF (w : World) (v : Value) (ps : List (List UInt8)) : Prop :=
  ∃ ao cap, v = .slice ao ps.length cap ∧ (ps = [] ∨ ∃ b off, ao = some ⟨b, off, none⟩ ∧ b < w.heap.size ∧ ∀ j q, ps[j]? = some q → w.cell? ⟨b, off + j, none⟩ = some (.string (strB q)))
theorem StrsF.below {w w' : World} {v : Value} {ps : List (List UInt8)} (h : StrsF w v ps) (hb : Below w.heap.size w w') : StrsF w' v ps := by
  obtain ⟨ao, cap, hv, hc⟩ := h
  rcases hc with hc | ⟨b, off, h1, h2, h3⟩
  · exact ⟨ao, cap, hv, .inl hc⟩
  · exact ⟨ao, cap, hv, .inr ⟨b, off, h1, Nat.lt_of_lt_of_le h2 hb.size, fun j q hj => (hb.cell (p := ⟨b, off + j, none⟩) h2).trans (h3 j q hj)⟩⟩
/-- A row of texts. -/
def rowS (ps : List (List UInt8)) : List Value := ps.map fun q => .string (strB q)
theorem StrsF.of_own {base : Nat} {w : World} {v : Value} {ps : List (List UInt8)} (h : w.ownsRow base 9 1 v ps.length (rowS ps)) : StrsF w v ps := by
  obtain ⟨ao, cap, rfl⟩ := owns_formF h
  refine ⟨ao, cap, rfl, ?_⟩
  by_cases hx : ps = []
  · exact .inl hx
  · obtain ⟨g, cap2, hv, hg, hlt, _⟩ := owns_sliceF h (List.length_pos_iff.2 hx)
    obtain ⟨rfl, _, rfl⟩ := Value.slice.inj hv
    refine .inr ⟨g, 0, rfl, hlt, fun j q hj => ?_⟩
    rewrite [Nat.zero_add]
    exact owns_cellsF h _ _ (by rw [rowS, List.getElem?_map, hj] <;> rfl)

/-- The fields that have none of the names. -/
def withoutH (fs : List Fld) (ns : List (List UInt8)) : List Fld := fs.filter fun p => !decide (p.1 ∈ ns)
theorem withoutH_yes (fs : List Fld) (ns : List (List UInt8)) (p : Fld) (h : p.1 ∈ ns) : withoutH (fs ++ [p]) ns = withoutH fs ns := by simp [withoutH, h]
theorem withoutH_no (fs : List Fld) (ns : List (List UInt8)) (p : Fld) (h : ¬ p.1 ∈ ns) : withoutH (fs ++ [p]) ns = withoutH fs ns ++ [p] := by simp [withoutH, h]
/-- The values of the fields of a name. -/
def allH (fs : List Fld) (name : List UInt8) : List (List UInt8) := (fs.filter fun p => decide (p.1 = name)).map Prod.snd
theorem allH_yes (fs : List Fld) (name : List UInt8) (p : Fld) (h : p.1 = name) : allH (fs ++ [p]) name = allH fs name ++ [p.2] := by simp [allH, h]
theorem allH_no (fs : List Fld) (name : List UInt8) (p : Fld) (h : ¬ p.1 = name) : allH (fs ++ [p]) name = allH fs name := by simp [allH, h]
theorem allH_len (fs : List Fld) (name : List UInt8) : (allH fs name).length ≤ fs.length := by
  rewrite [allH, List.length_map]
  exact List.length_filter_le _ _
theorem allH_take (fs : List Fld) (name : List UInt8) (k : Nat) : allH (fs.take k) name <+: allH fs name := by
  unfold allH
  exact List.IsPrefix.map _ (List.IsPrefix.filter _ (List.take_prefix k fs))

theorem allH_in {fs : List Fld} {name q : List UInt8} (h : q ∈ allH fs name) : ∃ p ∈ fs, p.1 = name ∧ p.2 = q := by
  unfold allH at h
  obtain ⟨p, hp, rfl⟩ := List.mem_map.1 h
  obtain ⟨h1, h2⟩ := List.mem_filter.1 hp
  exact ⟨p, h1, by simpa using h2, rfl⟩

theorem info_strF : (Tryz.prog.info? 9).map (fun i => (i.zero, i.size, i.bytes)) = some (some (.string ⟨#[]⟩), 1, 16) := by kernel_rfl

theorem allH_snoc (fs : List Fld) (p : Fld) (name : List UInt8) : allH (fs ++ [p]) name = if p.1 = name then allH fs name ++ [p.2] else allH fs name := by
  unfold allH
  rewrite [List.filter_append, List.map_append]
  by_cases h : p.1 = name
  · rewrite [if_pos h]; simp [h]
  · rewrite [if_neg h]; simp [h]
theorem rowS_snoc (ps : List (List UInt8)) (p : List UInt8) : rowS (ps ++ [p]) = rowS ps ++ [.string (strB p)] := by simp [rowS]
theorem cell_newS (w : World) (s : ByteArray) (j : Nat) (u : Value) (h : [Value.string s][j]? = some u) : (w.alloc (.cells #[.string s] 9)).cell? ((⟨w.heap.size, 0, none⟩ : Addr).add j) = some u := by
  rewrite [add_none]
  match j, h with
  | 0, h => obtain rfl := Option.some.inj h; simp

theorem ownsRow_lowF {w : World} {base B : Nat} {e : TypeId} {size : Nat} {v : Value} {n : Nat} {xs : List Value} (h : w.ownsRow base e size v n xs) (hB : B ≤ base) : w.ownsRow B e size v n xs := by
  obtain ⟨h1, h2⟩ := h
  refine ⟨h1, ?_⟩
  rcases h2 with h2 | ⟨g, cap, cur, hv, hg, r⟩
  · exact .inl h2
  · exact .inr ⟨g, cap, cur, hv, Nat.le_trans hB hg, r⟩

end Go.Proofs.YthbfcamfapgodaaGreatDoor

namespace Go.Proofs.YthbfcamfapgodaaGreatDoor
open Go.RowKit

structure Moved (b : Nat) (w w' : World) : Prop where
  os : w'.os = w.os
  tape : w'.tape = w.tape
  output : w'.output = w.output
  size : w.heap.size ≤ w'.heap.size
  block : ∀ k, k < w.heap.size → k ≠ b → w'.heap[k]? = w.heap[k]?

theorem Moved.refl (b : Nat) (w : World) : Moved b w w := ⟨rfl, rfl, rfl, Nat.le_refl _, fun _ _ _ => rfl⟩
theorem Moved.of_below {b : Nat} {w w' : World} (h : Below w.heap.size w w') : Moved b w w' := ⟨h.os, h.tape, h.output, h.size, fun k hk _ => h.block k hk⟩
theorem Moved.trans {b : Nat} {u v w : World} (h : Moved b u v) (k : Moved b v w) : Moved b u w :=
  ⟨k.os.trans h.os, k.tape.trans h.tape, k.output.trans h.output, Nat.le_trans h.size k.size, fun i hi hb => (k.block i (Nat.lt_of_lt_of_le hi h.size) hb).trans (h.block i hi hb)⟩
theorem Moved.below {b B : Nat} {w w' : World} (h : Moved b w w') (h1 : B ≤ b) (h2 : B ≤ w.heap.size) : Below B w w' :=
  ⟨h.os, h.tape, h.output, h.size, fun k hk => h.block k (Nat.lt_of_lt_of_le hk h2) (by omega)⟩
theorem Moved.cell {b : Nat} {w w' : World} (h : Moved b w w') {p : Addr} (h1 : p.block < w.heap.size) (h2 : p.block ≠ b) : w'.cell? p = w.cell? p := World.cell?_of_block (w := w) (h.block p.block h1 h2)
theorem Moved.frozen {b : Nat} {w w' : World} (h : Moved b w w') {p : Addr} (h1 : p.block < w.heap.size) (h2 : p.block ≠ b) : w'.frozen? p = w.frozen? p := World.frozen?_of_block (w := w) (h.block p.block h1 h2)
theorem Moved.setCell {b o : Nat} {w W : World} (h : Moved b w W) (v : Value) : Moved b w (W.setCell ⟨b, o, none⟩ v) := by
  exact ⟨h.os, h.tape, h.output, by simpa using h.size, fun k hk1 hb => (Below.heap_setCell W ⟨b, o, none⟩ v k hb).trans (h.block k hk1 hb)⟩
theorem Moved.drew {b : Nat} {w W : World} (h : Moved b w W) (n : Nat) : Moved b w (W.drewN n) := ⟨h.os, h.tape, h.output, h.size, h.block⟩
theorem Flds.moved {lo x : Nat} {w w' : World} {v : Value} {fs : List Fld} (h : Flds lo w v fs) (hm : Moved x w w') (hx : x < lo) : Flds lo w' v fs := by
  obtain ⟨ao, cap, hv, hc⟩ := h
  rcases hc with hc | ⟨b, off, h1, h2, h3, h4⟩
  · exact ⟨ao, cap, hv, .inl hc⟩
  · exact ⟨ao, cap, hv, .inr ⟨b, off, h1, h2, Nat.lt_of_lt_of_le h3 hm.size, fun j c hj => ⟨(hm.cell (p := ⟨b, off + j * 2, none⟩) h3 (show b ≠ x by omega)).trans (h4 j c hj).1, (hm.cell (p := ⟨b, off + j * 2 + 1, none⟩) h3 (show b ≠ x by omega)).trans (h4 j c hj).2⟩⟩⟩

end Go.Proofs.YthbfcamfapgodaaGreatDoor

namespace Go.Proofs.YthbfcamfapgodaaGreatDoor
open Go.RowKit

theorem lineL_err (l : List UInt8) (h : (lineL l).2 ≠ 0) : (lineL l).2 = 2 ∨ (lineL l).2 = 3 ∨ (lineL l).2 = 4 := by
  unfold lineL at h ⊢
  split
  · dsimp only
    split <;> simp
  · split
    · simp
    · split
      · simp
      · rename_i h1 h2 h3
        rw [if_neg h1, if_neg h2, if_neg h3] at h
        exact absurd rfl h
theorem parH_err (l : List UInt8) : ∀ (f K : Nat) (acc : List Fld) (n : Int), parH f l K acc = .error n → n = 2 ∨ n = 3 ∨ n = 4
  | 0, _, _, n, h => by
    simp only [parH, Except.error.injEq] at h
    omega
  | f + 1, K, acc, n, h => by
    rw [parH] at h
    by_cases he : (lineL (l.drop K)).2 ≠ 0
    · rw [if_pos he] at h
      simp only [Except.error.injEq] at h
      rewrite [← h]
      exact lineL_err _ he
    · rw [if_neg he] at h
      by_cases hn : (lineL (l.drop K)).1 = []
      · rw [if_pos hn] at h; cases h
      · rw [if_neg hn] at h
        by_cases h64 : acc.length = 64
        · rw [if_pos h64] at h
          simp only [Except.error.injEq] at h
          omega
        · rw [if_neg h64] at h
          cases hf : fldL (lineL (l.drop K)).1 with
          | none =>
            rw [hf] at h
            simp only [Except.error.injEq] at h
            omega
          | some p =>
            rw [hf] at h
            exact parH_err l f _ _ n h
theorem parse_err (l : List UInt8) (n : Int) (h : parseH l = .error n) : n = 2 ∨ n = 3 ∨ n = 4 := parH_err l 65 0 [] n h

theorem fldL_sum (l : List UInt8) (p : Fld) (h : fldL l = some p) : p.1.length + p.2.length + 1 ≤ l.length := by
  unfold fldL at h
  split at h
  · cases h
  · rename_i hi
    obtain ⟨h0, h1⟩ := index_le l 58 hi
    split at h
    · obtain rfl := Option.some.inj h
      dsimp only
      have := trimL_le (l.drop ((Lib.indexByte l 58).toNat + 1))
      simp only [List.length_drop] at this
      rewrite [lowL_length, List.length_take]
      omega
    · cases h
theorem parH_sum (l : List UInt8) : ∀ (f K : Nat) (acc fs : List Fld) (n : Nat), parH f l K acc = .ok (fs, n) → (prF acc).length ≤ K + acc.length → acc.length ≤ 64 → (prF fs).length ≤ n + 64
  | 0, _, _, _, _, h, _, _ => by cases h
  | f + 1, K, acc, fs, n, h, hK, ha => by
    rw [parH] at h
    by_cases he : (lineL (l.drop K)).2 ≠ 0
    · rw [if_pos he] at h; cases h
    · rw [if_neg he] at h
      by_cases hn : (lineL (l.drop K)).1 = []
      · rw [if_pos hn] at h
        simp only [Except.ok.injEq, Prod.mk.injEq] at h
        obtain ⟨rfl, rfl⟩ := h
        omega
      · rw [if_neg hn] at h
        by_cases h64 : acc.length = 64
        · rw [if_pos h64] at h; cases h
        · rw [if_neg h64] at h
          cases hf : fldL (lineL (l.drop K)).1 with
          | none => rw [hf] at h; cases h
          | some p =>
            rw [hf] at h
            have hps := fldL_sum _ p hf
            refine parH_sum l f _ _ fs n h ?_ (by simp; omega)
            rewrite [prF_snoc, List.length_append, lineF_len, List.length_append, List.length_singleton]
            omega
theorem parse_sum (l : List UInt8) (fs : List Fld) (n : Nat) (h : parseH l = .ok (fs, n)) : (prF fs).length ≤ n + 64 :=
  parH_sum l 65 0 [] fs n h (by simp [prF]) (by simp)

theorem textH_right (fs : List Fld) : ∃ (T : List UInt8) (E : Int) (R : Bool), textH (printH fs) = .tuple #[.string (strB T), .int .i64 E] ∧ rightH fs = R ∧ (E == 0) = R ∧ ((R = true ∧ E = 0 ∧ T = prF fs ++ [13, 10]) ∨ R = false) := by
  cases h : rightH fs
  · refine ⟨[], 2, false, ?_, rfl, rfl, .inr rfl⟩
    rewrite [printH, h]
    rfl
  · refine ⟨prF fs ++ [13, 10], 0, true, ?_, rfl, rfl, .inl ⟨rfl, rfl, rfl⟩⟩
    rewrite [printH, h]
    rfl

end Go.Proofs.YthbfcamfapgodaaGreatDoor
