/- A box of three as long as a region stores into its second cell; rows of fields beside a store into another block; names in memory. -/
import Derived.Test.YtfaedmbfabfmeaaGreatDoorZPoK
import Derived.Test.YtfaedmbfabfmeaaGreatDoorZMFldP
namespace Go.Proofs.YtfaedmbfabfmeaaGreatDoor
open Go.RowKit
structure oneP (X:World) (B:Nat) (n z:Value) (W:World):Prop where
 x:∃v,BoxN W B [n,v,z]
 b:belowA X W
theorem oneP.next {X W W1:World} {B:Nat} {n z:Value} (hb:Below W.heap.size W W1) (h:oneP X B n z W):oneP X B n z W1:=by
 obtain⟨v,hv⟩:=h.x
 exact⟨⟨v,hv.next hb⟩,Below.trans h.b (hb.mono (Below.size h.b))⟩
theorem oneP.below {X W:World} {B:Nat} {n z:Value} (h:oneP X B n z W):Below X.heap.size X W:=h.b
theorem oneP.put {X W:World} {B:Nat} {n z:Value} (h:oneP X B n z W) (hB:X.heap.size≤B) (u:Value):oneP X B n z (W.setCell ⟨B,1,none⟩ u):=by
 obtain⟨v,hv⟩:=h.x
 exact⟨⟨u,hv.set 1 u (by simp)⟩,Below.setCell h.b (p:=⟨B,1,none⟩) hB u⟩
theorem Flds.setP {lo:Nat} {W:World} {v:Value} {fs:List Fld} (h:Flds lo W v fs) {c o:Nat} (hc:c<lo) (u:Value):Flds lo (W.setCell ⟨c,o,none⟩ u) v fs:=by
 obtain⟨ao,cap,hv,hx⟩:=h
 rcases hx with hx | ⟨b,off,h1,h2,h3,h4⟩
 ·exact⟨ao,cap,hv,.inl hx⟩
 ·refine⟨ao,cap,hv,.inr ⟨b,off,h1,h2,by simpa using h3,fun j p hj=>?_⟩⟩
  have:=h4 j p hj
  exact⟨(World.cell?_setCell_other W ⟨c,o,none⟩ ⟨b,off+j*2,none⟩ u (by simp<;>omega)).trans this.1,(World.cell?_setCell_other W ⟨c,o,none⟩ ⟨b,off+j*2+1,none⟩ u (by simp<;>omega)).trans this.2⟩
theorem strs_oneP (W:World) (a:List UInt8) (T:TypeId):StrsF (W.alloc (.cells #[.string (strB a)] T)) (.slice (some ⟨W.heap.size,0,none⟩) 1 1) [a]:=by
 refine⟨_,1,rfl,.inr ⟨W.heap.size,0,rfl,by simp,fun j q hj=>?_⟩⟩
 match j,hj with
 | 0,hj =>
  obtain rfl:=Option.some.inj hj
  simp
 | j+1,hj=>simp at hj
theorem strs_threeP (W:World) (a b c:List UInt8) (T:TypeId):StrsF (W.alloc (.cells #[.string (strB a),.string (strB b),.string (strB c)] T)) (.slice (some ⟨W.heap.size,0,none⟩) 3 3) [a,b,c]:=by
 refine⟨_,3,rfl,.inr ⟨W.heap.size,0,rfl,by simp,fun j q hj=>?_⟩⟩
 match j,hj with
 | 0,hj =>
  obtain rfl:=Option.some.inj hj
  simp
 | 1,hj =>
  obtain rfl:=Option.some.inj hj
  simp
 | 2,hj =>
  obtain rfl:=Option.some.inj hj
  simp
 | j+3,hj=>simp at hj
end Go.Proofs.YtfaedmbfabfmeaaGreatDoor
