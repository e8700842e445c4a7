/- Plain: a trimmed text is no longer. -/
import Derived.Test.YtclgdmcbbphbcaaDoorZTrimP
import Derived.Test.YtclgdmcbbphbcaaDoorZMBasP

namespace Go.Proofs.YtclgdmcbbphbcaaDoor

theorem dropWhile_le (p : UInt8 → Bool) : ∀ l : List UInt8, (l.dropWhile p).length ≤ l.length
  | [] => Nat.le_refl _
  | c :: l => by
    have := dropWhile_le p l
    rw [List.dropWhile_cons]
    split
    · simp only [List.length_cons]; omega
    · exact Nat.le_refl _

theorem trimL_le (l : List UInt8) : (trimL l).length ≤ l.length := by
  unfold trimL trL tlL
  have h1 := dropWhile_le blkB (List.dropWhile blkB l).reverse
  have h2 := dropWhile_le blkB l
  simp only [List.length_reverse] at h1 ⊢
  omega

/-- A text that may be a field's value. -/
def txtL (l : List UInt8) : Bool := l.all (fun c => txtI c.toNat) && (trimL l == l)

end Go.Proofs.YtclgdmcbbphbcaaDoor
