/- The contract of ascii.Trim (for a seat on BasP). · The contracts of strings.Cut at one byte, and of head.endless, firstLine, fieldOf. · The contract of head.fieldOf. · The contract of head.Parse. · Fields in memory, behind head.Parse. -/
import Derived.Test.YtclgdmcbbphbcaaDoorZAscE
import Derived.Test.YtclgdmcbbphbcaaDoorZMBasP
import Derived.Test.YtclgdmcbbphbcaaDoorZTrimP
import Derived.Test.YtclgdmcbbphbcaaDoorZMLowA
import Derived.Test.YtclgdmcbbphbcaaDoorRows
import Derived.Test.YtclgdmcbbphbcaaDoorZAscPlain
import Derived.Test.YtclgdmcbbphbcaaDoorShelf
import Derived.Test.YtclgdmcbbphbcaaDoorZMCutP
import Derived.Test.YtclgdmcbbphbcaaDoorZTrmP
import Derived.Test.YtclgdmcbbphbcaaDoorZMFldP
import Derived.WalkKit
import Derived.WalkSpells
import Derived.WalkLawsBesides
import Derived.Lib.Hide
import Derived.Lib.IndexLaws
import Derived.IntWalk
import Derived.Deep.QuietTactic
import Derived.BigQuiet
import Derived.Laws.AppendOwn

namespace Go.Proofs.YtclgdmcbbphbcaaDoor
open Go.RowKit

theorem blank_ascii : ∀ x : Fin 128, decide (0 ≤ Lib.indexByte [32, 9] x.val.toUInt8) = blkR x.val := by decide

/-- The tables of package utf8, as they are laid. -/
abbrev Tabs (w : World) : Prop := Lib.Utf8Tabs 4 5 w

theorem trimF_eq (s : ByteArray) : Lib.trimF blkR s = ⟨(trimL s.data.toList).toArray⟩ := by
  rw [← trimF_is, Lib.mk_data]

end Go.Proofs.YtclgdmcbbphbcaaDoor

namespace Go.Proofs.YtclgdmcbbphbcaaDoor
open Go.RowKit Go.Shelf Go.Lib

/-- The first line, without its end, or why there is none. -/
def lineL (l : List UInt8) : List UInt8 × Int :=
  if Lib.indexByte l 10 = -1 then ([], if 2002 < l.length then 4 else 3)
  else if Lib.hasSuffix (l.take (Lib.indexByte l 10).toNat) [13] = false then ([], 2)
  else if 2000 < (Lib.trimSuffix (l.take (Lib.indexByte l 10).toNat) [13]).length then ([], 4)
  else (Lib.trimSuffix (l.take (Lib.indexByte l 10).toNat) [13], 0)
def lineV (p : List UInt8 × Int) : Value := .tuple #[.string (strB p.1), .int .i64 p.2]

end Go.Proofs.YtclgdmcbbphbcaaDoor

namespace Go.Proofs.YtclgdmcbbphbcaaDoor
open Go.RowKit Go.Shelf Go.Lib

/-- The field that a line is: its name and its value. -/
def fldL (l : List UInt8) : Option (List UInt8 × List UInt8) :=
  if Lib.indexByte l 58 = -1 then none
  else if tokL (l.take (Lib.indexByte l 58).toNat) = true ∧ txtL (trimL (l.drop ((Lib.indexByte l 58).toNat + 1))) = true then some (lowL (l.take (Lib.indexByte l 58).toNat), trimL (l.drop ((Lib.indexByte l 58).toNat + 1)))
  else none
def fldV (o : Option (List UInt8 × List UInt8)) : Value := match o with
  | none => .tuple #[.agg #[.string ⟨#[]⟩, .string ⟨#[]⟩], .int .i64 2]
  | some p => .tuple #[.agg #[.string (strB p.1), .string (strB p.2)], .int .i64 0]

abbrev zeroF : Obj := .cells #[.string ⟨#[]⟩, .string ⟨#[]⟩] 41
structure Res2 (W : World) (c : Nat) : Prop where
  r0 : W.cell? ⟨c, 0, none⟩ = some (.string ⟨#[]⟩)
  r1 : W.cell? ⟨c, 1, none⟩ = some (.string ⟨#[]⟩)
  g0 : W.frozen? ⟨c, 0, none⟩ = false
  g1 : W.frozen? ⟨c, 1, none⟩ = false
theorem Res2.made (w : World) : Res2 (w.alloc zeroF) w.heap.size := ⟨by simp, by simp, by simp, by simp⟩
theorem Res2.lt {W : World} {c : Nat} (h : Res2 W c) : c < W.heap.size := lt_of_cell h.r0
theorem Res2.next {W W1 : World} {c : Nat} (h : Res2 W c) (hb : Below W.heap.size W W1) : Res2 W1 c :=
  ⟨(hb.cell (p := ⟨c, 0, none⟩) h.lt).trans h.r0, (hb.cell (p := ⟨c, 1, none⟩) h.lt).trans h.r1, (hb.frozen (p := ⟨c, 0, none⟩) h.lt).trans h.g0, (hb.frozen (p := ⟨c, 1, none⟩) h.lt).trans h.g1⟩


end Go.Proofs.YtclgdmcbbphbcaaDoor

namespace Go.Proofs.YtclgdmcbbphbcaaDoor
open Go.RowKit Go.Shelf Go.Lib

/-- The fields with which a text begins, from a place on, behind some, and where they end; or the error. By so many rounds. -/
def parH : Nat → List UInt8 → Nat → List Fld → Except Int (List Fld × Nat)
  | 0, _, _, _ => .error 4
  | f + 1, l, K, acc =>
    if (lineL (l.drop K)).2 ≠ 0 then .error (lineL (l.drop K)).2
    else if (lineL (l.drop K)).1 = [] then .ok (acc, K + (lineL (l.drop K)).1.length + 2)
    else if acc.length = 64 then .error 4
    else match fldL (lineL (l.drop K)).1 with
      | none => .error 2
      | some p => parH f l (K + (lineL (l.drop K)).1.length + 2) (acc ++ [p])
def parseH (l : List UInt8) : Except Int (List Fld × Nat) := parH 65 l 0 []

/-- A line that is, with its end, lies within the text. -/
theorem lineL_le (l : List UInt8) (h : (lineL l).2 = 0) : (lineL l).1.length + 2 ≤ l.length := by
  unfold lineL at h ⊢
  by_cases h1 : Lib.indexByte l 10 = -1
  · rw [if_pos h1] at h
    simp only at h
    split at h <;> cases h
  · rw [if_neg h1] at h ⊢
    obtain ⟨h0, hk⟩ := index_le l 10 h1
    by_cases h2 : Lib.hasSuffix (l.take (Lib.indexByte l 10).toNat) [13] = false
    · rw [if_pos h2] at h
      cases h
    · rw [if_neg h2] at h ⊢
      have h2' : Lib.hasSuffix (l.take (Lib.indexByte l 10).toNat) [13] = true := by simpa using h2
      by_cases h3 : 2000 < (Lib.trimSuffix (l.take (Lib.indexByte l 10).toNat) [13]).length
      · rw [if_pos h3] at h
        cases h
      · rw [if_neg h3]
        dsimp only
        have h4 : [(13 : UInt8)].length ≤ (List.take (Lib.indexByte l 10).toNat l).length := by
          have h5 := h2'
          unfold Lib.hasSuffix at h5
          exact (List.isSuffixOf_iff_suffix.1 h5).length_le
        unfold Lib.trimSuffix
        rw [if_pos h2', List.length_take, List.length_take]
        rw [List.length_take] at h4
        simp only [List.length_singleton] at h4 ⊢
        omega

def headPost (o : Except Int (List Fld × Nat)) (w : World) (e : Ending) (w' : World) : Prop :=
  Below w.heap.size w w' ∧ match o with
    | .error n => e = .returned (.tuple #[.slice none 0 0, .int .i64 0, .int .i64 n])
    | .ok (fs, n) => ∃ v, e = .returned (.tuple #[v, .int .i64 (n : Int), .int .i64 0]) ∧ w'.ownsRow w.heap.size 41 2 v fs.length (rowF fs)

end Go.Proofs.YtclgdmcbbphbcaaDoor


