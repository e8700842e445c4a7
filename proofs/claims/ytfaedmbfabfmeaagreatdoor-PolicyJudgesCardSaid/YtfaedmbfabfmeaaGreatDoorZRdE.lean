/- The contract of the document's own forms (sculleryref05). -/
import Derived.Test.YtfaedmbfabfmeaaGreatDoorZMBarA
import Derived.Deep.RegionHeld3
namespace Go.Proofs.YtfaedmbfabfmeaaGreatDoor
open Go.RowKit
def FB (w W:World):Prop:=Below (w.heap.size+1) (w.alloc (.cells #[.string ⟨#[]⟩,.string ⟨#[]⟩,.string ⟨#[]⟩] 42)) W
theorem FB.cells {w W:World} (h:FB w W):W.cell? ⟨w.heap.size,0,none⟩=some (.string ⟨#[]⟩)∧W.cell? ⟨w.heap.size,1,none⟩=some (.string ⟨#[]⟩)∧W.cell? ⟨w.heap.size,2,none⟩=some (.string ⟨#[]⟩)∧W.frozen? ⟨w.heap.size,0,none⟩=false∧W.frozen? ⟨w.heap.size,1,none⟩=false∧W.frozen? ⟨w.heap.size,2,none⟩=false:=by
 have hl:w.heap.size<w.heap.size+1:=Nat.lt_succ_self _
 refine⟨(Below.cell (p:=⟨w.heap.size,0,none⟩) h hl).trans (by simp),(Below.cell (p:=⟨w.heap.size,1,none⟩) h hl).trans (by simp),(Below.cell (p:=⟨w.heap.size,2,none⟩) h hl).trans (by simp),(Below.frozen (p:=⟨w.heap.size,0,none⟩) h hl).trans (by simp),(Below.frozen (p:=⟨w.heap.size,1,none⟩) h hl).trans (by simp),(Below.frozen (p:=⟨w.heap.size,2,none⟩) h hl).trans (by simp)⟩
theorem FB.later {w W:World} (h:FB w W):Below w.heap.size w W:=
 ((Below.refl w.heap.size w).alloc (zR _) _).trans (Below.mono h (by omega))
theorem FB.next {w W W1:World} (h:FB w W) (hb:Below W.heap.size W W1):FB w W1:=
 Below.trans h (hb.mono (by have:=Below.size h;simp at this;omega))
theorem FB.drew {w W:World} (h:FB w W):FB w W.drew:=h.next (Below.refl _ _).drew
structure H3 (W:World) (b:Nat):Prop where
 x:∃v0 v1 v2,W.cell? ⟨b,0,none⟩=some v0∧W.cell? ⟨b,1,none⟩=some v1∧W.cell? ⟨b,2,none⟩=some v2
 f:W.frozen? ⟨b,0,none⟩=false∧W.frozen? ⟨b,1,none⟩=false∧W.frozen? ⟨b,2,none⟩=false
end Go.Proofs.YtfaedmbfabfmeaaGreatDoor
