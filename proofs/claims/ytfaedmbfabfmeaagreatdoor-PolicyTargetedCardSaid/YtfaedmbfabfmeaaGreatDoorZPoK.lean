/- Up to three boxes, as long as a region calls. -/
import Derived.Test.YtfaedmbfabfmeaaGreatDoorZMBasP
namespace Go.Proofs.YtfaedmbfabfmeaaGreatDoor
open Go.RowKit
structure boxesP (V:World) (P:Nat) (lp:List Value) (Q:Nat) (lq:List Value) (R:Nat) (lr:List Value) (W:World):Prop where
 p:BoxN W P lp
 q:BoxN W Q lq
 r:BoxN W R lr
 b:belowA V W
theorem boxesP.next {V W W1:World} {P Q R:Nat} {lp lq lr:List Value} (hb:Below W.heap.size W W1) (h:boxesP V P lp Q lq R lr W):boxesP V P lp Q lq R lr W1:=
 ⟨h.p.next hb,h.q.next hb,h.r.next hb,Below.trans h.b (hb.mono (Below.size h.b))⟩
theorem boxesP.below {V W:World} {P Q R:Nat} {lp lq lr:List Value} (h:boxesP V P lp Q lq R lr W):Below V.heap.size V W:=h.b
end Go.Proofs.YtfaedmbfabfmeaaGreatDoor
