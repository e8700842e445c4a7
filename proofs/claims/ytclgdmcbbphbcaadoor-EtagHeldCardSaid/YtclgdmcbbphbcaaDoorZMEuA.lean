/- The document's own inside and blanks (sculleryref12). · The document's own Take (sculleryref12). · The document's own Parse, Print, Like (sculleryref12). -/
import Derived.Test.YtclgdmcbbphbcaaDoorZMBasP
import Derived.Test.YtclgdmcbbphbcaaDoorRows
import Derived.WalkKit
import Derived.WalkSpells
import Derived.WalkLawsBesides
import Derived.Lib.Hide

namespace Go.Proofs.YtclgdmcbbphbcaaDoor
open Go.RowKit Go.Lib

theorem bnE_more {l : List UInt8} {k : Nat} {c : UInt8} (h : bnE l = k + bnE (l.drop k)) (hd : l.drop k = c :: l.drop (k + 1)) (hb : blkE c = true) : bnE l = (k + 1) + bnE (l.drop (k + 1)) := by
  rw [h, hd]
  unfold bnE
  rw [List.takeWhile_cons, if_pos hb, List.length_cons]
  omega
theorem bnE_stop {l : List UInt8} {k : Nat} {c : UInt8} (h : bnE l = k + bnE (l.drop k)) (hd : l.drop k = c :: l.drop (k + 1)) (hb : blkE c = false) : bnE l = k := by
  rw [h, hd]
  unfold bnE
  rw [List.takeWhile_cons, if_neg (by rw [hb]; decide)]
  rfl

end Go.Proofs.YtclgdmcbbphbcaaDoor

namespace Go.Proofs.YtclgdmcbbphbcaaDoor
open Go.RowKit Go.Lib

theorem taV_some (l : List UInt8) (s : ByteArray) (hl : s.data.toList = l) (wk : Bool) (o k : Nat) (hk : k < s.size) (h : takE l = some ((wk, (l.drop o).take (k - o)), l.drop (k + 1))) :
    taV (takE l) s.size = .tuple #[.agg #[.bool wk, .string (s.extract o k)], .int .i64 ((k : Int) + 1), .bool true] := by
  have hz := Lib.size_eq s
  rw [hl] at hz
  have e : s.size - (l.drop (k + 1)).length = k + 1 := by rw [List.length_drop]; omega
  rw [h]
  show Value.tuple #[.agg #[.bool wk, .string (strB ((l.drop o).take (k - o)))], .int .i64 ((s.size - (l.drop (k + 1)).length : Nat) : Int), .bool true] = _
  rw [e, strB_part s o k, hl]
  rfl
theorem taV_none (l : List UInt8) (n : Nat) (h : takE l = none) : taV (takE l) n = .tuple #[.agg #[.bool false, .string ⟨#[]⟩], .int .i64 0, .bool false] := by rw [h] <;> rfl

end Go.Proofs.YtclgdmcbbphbcaaDoor

namespace Go.Proofs.YtclgdmcbbphbcaaDoor
open Go.RowKit Go.Lib

/-- A tag or why there is none; a text or why there is none. -/
def prV (o : Option Tg) : Value := match o with
  | none => .tuple #[tgV (false, []), .int .i64 2]
  | some t => .tuple #[tgV t, .int .i64 0]
def txV (t : Tg) : Value := if vldE t = true then .tuple #[.string (strB (txtE t)), .int .i64 0] else .tuple #[.string ⟨#[]⟩, .int .i64 2]

end Go.Proofs.YtclgdmcbbphbcaaDoor
