/- What the texts over fields share. -/
import Derived.Test.YtjnagifolheloaaDoorMHdV

namespace Go.Proofs.YtjnagifolheloaaDoor
open Go.RowKit Go.Maps
open Go.WideMaps (keyOf_string_mk)

theorem keyStrF : Keyed Tryd.prog 9 := string_keyed Tryd.underlying9
theorem grown_cellF {W V : World} {row : Option Nat} (hg : W.grownBy V row) {c : Nat} (hc : c < W.heap.size) (hne : some c ≠ row) (o : Nat) : V.cell? ⟨c, o, none⟩ = W.cell? ⟨c, o, none⟩ :=
  World.cell?_of_block (w := W) (a := ⟨c, o, none⟩) (hg.block c hc hne)
theorem own_neF {w : World} {base c : Nat} {e : TypeId} {size : Nat} {v : Value} {n : Nat} {xs : List Value} (h : w.ownsRow base e size v n xs) (hc : c < base) : some c ≠ v.ownBlock := by
  intro e1
  have := (World.ownsRow.lt h c e1.symm).1
  omega

end Go.Proofs.YtjnagifolheloaaDoor
