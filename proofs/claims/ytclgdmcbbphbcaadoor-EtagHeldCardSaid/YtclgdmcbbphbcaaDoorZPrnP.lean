/- Plain: fields that are valid, and their text; a builder behind a later world. -/
import Derived.Test.YtclgdmcbbphbcaaDoorZMFldP
import Derived.Test.YtclgdmcbbphbcaaDoorZMBasP
import Derived.Test.YtclgdmcbbphbcaaDoorZTrmP
import Derived.Lib.Builder

namespace Go.Proofs.YtclgdmcbbphbcaaDoor
open Go.RowKit Go.Shelf Go.Lib

/-- Is a field wrong? -/
def wrongL (p : Fld) : Bool := decide (2000 < p.1.length + 2 + p.2.length) || !tokL p.1 || !(p.1 == lowL p.1) || !txtL p.2

/-- Are the fields valid? -/
def rightH (fs : List Fld) : Bool := decide (fs.length ≤ 64) && !fs.any wrongL

/-- The line of a field; the lines of fields; the text of fields that are valid. -/
def lineF (p : Fld) : List UInt8 := p.1 ++ [58, 32] ++ p.2 ++ [13, 10]
def prF : List Fld → List UInt8
  | [] => []
  | p :: ps => lineF p ++ prF ps
theorem prF_snoc : ∀ (ps : List Fld) (p : Fld), prF (ps ++ [p]) = prF ps ++ lineF p
  | [], p => by simp [prF]
  | q :: ps, p => by rw [List.cons_append, prF, prF, prF_snoc ps p, List.append_assoc]
def printH (fs : List Fld) : Option (List UInt8) := if rightH fs then some (prF fs ++ [13, 10]) else none
def textH : Option (List UInt8) → Value
  | none => .tuple #[.string ⟨#[]⟩, .int .i64 2]
  | some t => .tuple #[.string (strB t), .int .i64 0]
theorem lineF_len (p : Fld) : (lineF p).length = p.1.length + p.2.length + 4 := by
  simp [lineF]
  omega

theorem IsBuilder_belowF {T e : TypeId} {B b : Nat} {bs : List Value} {w W : World} (h : Lib.IsBuilder T e B b bs w) (hb : Below w.heap.size w W) : Lib.IsBuilder T e B b bs W := by
  have one : ∀ p, Lib.BuilderAt T e B b p bs w → Lib.BuilderAt T e B b p bs W := by
    rintro p ⟨hB, v, hh, ho, hn⟩
    exact ⟨hB, v, (hb.block b (Array.getElem?_eq_some_iff.1 hh).1).trans hh, ownsRow_later ho hb, hn⟩
  rcases h with h | h
  · exact .inl (one _ h)
  · exact .inr (one _ h)
theorem IsBuilder_ltF {T e : TypeId} {B b : Nat} {bs : List Value} {w : World} (h : Lib.IsBuilder T e B b bs w) : b < w.heap.size := by
  rcases h with h | h
  · exact h.lt
  · exact h.lt

end Go.Proofs.YtclgdmcbbphbcaaDoor
