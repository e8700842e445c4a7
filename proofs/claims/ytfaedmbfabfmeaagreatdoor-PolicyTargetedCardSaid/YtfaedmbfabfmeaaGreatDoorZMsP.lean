/- Plain: what a request and a response are that a text begins with, and how they lie in memory. -/
import Derived.Test.YtfaedmbfabfmeaaGreatDoorZMBasP
import Derived.Test.YtfaedmbfabfmeaaGreatDoorZMLgA
import Derived.Test.YtfaedmbfabfmeaaGreatDoorZMFldP
import Derived.Test.YtfaedmbfabfmeaaGreatDoorZMDirP
import Derived.Test.YtfaedmbfabfmeaaGreatDoorZMSpP
import Derived.Test.YtfaedmbfabfmeaaGreatDoorZShelf
import Derived.Test.YtfaedmbfabfmeaaGreatDoorRows
import Derived.Test.YtfaedmbfabfmeaaGreatDoorZAscPlain
import Derived.Test.YtfaedmbfabfmeaaGreatDoorZMAscN
import Derived.Test.YtfaedmbfabfmeaaGreatDoorZMDigP
import Derived.Test.YtfaedmbfabfmeaaGreatDoorZMBarA
import Derived.Test.YtfaedmbfabfmeaaGreatDoorZTrimP
import Derived.Laws.AppendOwn
import Derived.Lib.AtoiAllMem
import Derived.Lib.Hide
import Derived.Lib.ConvBytes
import Derived.Lib.SmallJoins
import Derived.Lib.Walk
import Derived.Laws.Strings3
import Derived.Laws.Closers25
import Derived.Laws.Closers25b
import Derived.WalkKit
import Derived.BigCall
import Derived.BigGuard
import Derived.WalkSpells
import Derived.WalkLawsBesides
import Derived.Laws.IdiomStrings
import Derived.Lib.ItoaWalk
import Derived.Laws.BitsLemmas
import Derived.Lib.IndexAny
import Derived.Lib.OthersKept
import Derived.Deep.DeepCutAuto
import Derived.Deep.RegionHeld3
import Derived.Deep.RegionWith
import Derived.Deep.AppendLies
import Derived.BigQuiet
namespace Go.Proofs.YtfaedmbfabfmeaaGreatDoor
open Go.RowKit Go.Shelf Go.Lib
def hoN:List UInt8:=[104,111,115,116]
structure Nil4 (W:World) (c:Nat):Prop where
 r0:W.cell? ⟨c,0,none⟩=some (.string ⟨#[]⟩)
 r1:W.cell? ⟨c,1,none⟩=some (.string ⟨#[]⟩)
 r2:W.cell? ⟨c,2,none⟩=some (.slice none 0 0)
 r3:W.cell? ⟨c,3,none⟩=some (.slice none 0 0)
 g0:W.frozen? ⟨c,0,none⟩=false
 g1:W.frozen? ⟨c,1,none⟩=false
 g2:W.frozen? ⟨c,2,none⟩=false
 g3:W.frozen? ⟨c,3,none⟩=false
abbrev nilQ:Obj:=.cells #[.string ⟨#[]⟩,.string ⟨#[]⟩,.slice none 0 0,.slice none 0 0] 25
theorem Nil4.made (w:World):Nil4 (w.alloc nilQ) w.heap.size:=⟨by simp,by simp,by simp,by simp,by simp,by simp,by simp,by simp⟩
theorem Nil4.lt {W:World} {c:Nat} (h:Nil4 W c):c<W.heap.size:=lt_of_cell h.r0
theorem Nil4.next {W W1:World} {c b:Nat} (h:Nil4 W c) (hb:Below b W W1) (hc:c<b):Nil4 W1 c:=
 ⟨(hb.cell (p:=⟨c,0,none⟩) hc).trans h.r0,(hb.cell (p:=⟨c,1,none⟩) hc).trans h.r1,(hb.cell (p:=⟨c,2,none⟩) hc).trans h.r2,(hb.cell (p:=⟨c,3,none⟩) hc).trans h.r3,(hb.frozen (p:=⟨c,0,none⟩) hc).trans h.g0,(hb.frozen (p:=⟨c,1,none⟩) hc).trans h.g1,(hb.frozen (p:=⟨c,2,none⟩) hc).trans h.g2,(hb.frozen (p:=⟨c,3,none⟩) hc).trans h.g3⟩
def BytF (lo:Nat) (w:World) (v:Value) (bs:List UInt8):Prop:=
 ∃ao cap,v=.slice ao bs.length cap∧(bs=[]∨∃b off,ao=some ⟨b,off,none⟩∧lo≤b∧b<w.heap.size∧∀j c,bs[j]? = some c→w.cell? ⟨b,off+j,none⟩=some (bytV c))
theorem BytF.below {lo:Nat} {w w':World} {v:Value} {bs:List UInt8} (h:BytF lo w v bs) (hb:Below w.heap.size w w'):BytF lo w' v bs:=by
 obtain⟨ao,cap,hv,hc⟩:=h
 rcases hc with hc | ⟨b,off,h1,h2,h3,h4⟩
 ·exact⟨ao,cap,hv,.inl hc⟩
 ·exact⟨ao,cap,hv,.inr ⟨b,off,h1,h2,Nat.lt_of_lt_of_le h3 hb.size,fun j c hj=>(hb.cell (p:=⟨b,off+j,none⟩) h3).trans (h4 j c hj)⟩⟩
theorem BytF.moved {lo x:Nat} {w w':World} {v:Value} {bs:List UInt8} (h:BytF lo w v bs) (hm:Moved_MovP x w w') (hx:x<lo):BytF lo w' v bs:=by
 obtain⟨ao,cap,hv,hc⟩:=h
 rcases hc with hc | ⟨b,off,h1,h2,h3,h4⟩
 ·exact⟨ao,cap,hv,.inl hc⟩
 ·exact⟨ao,cap,hv,.inr ⟨b,off,h1,h2,Nat.lt_of_lt_of_le h3 hm.size,fun j c hj=>(hm.cell (p:=⟨b,off+j,none⟩) h3 (show b≠x by omega)).trans (h4 j c hj)⟩⟩
theorem BytF.low {lo lo':Nat} {w:World} {v:Value} {bs:List UInt8} (h:BytF lo w v bs) (hl:lo'≤lo):BytF lo' w v bs:=by
 obtain⟨ao,cap,hv,hc⟩:=h
 rcases hc with hc | ⟨b,off,h1,h2,h3,h4⟩
 ·exact⟨ao,cap,hv,.inl hc⟩
 ·exact⟨ao,cap,hv,.inr ⟨b,off,h1,by omega,h3,h4⟩⟩
structure Rq where
 m:List UInt8
 t:List UInt8
 fs:List Fld
 b:List UInt8
structure Nil3 (W:World) (c:Nat):Prop where
 r0:W.cell? ⟨c,0,none⟩=some (.int .i64 0)
 r1:W.cell? ⟨c,1,none⟩=some (.slice none 0 0)
 r2:W.cell? ⟨c,2,none⟩=some (.slice none 0 0)
 g0:W.frozen? ⟨c,0,none⟩=false
 g1:W.frozen? ⟨c,1,none⟩=false
 g2:W.frozen? ⟨c,2,none⟩=false
abbrev nilP:Obj:=.cells #[.int .i64 0,.slice none 0 0,.slice none 0 0] 27
theorem Nil3.made (w:World):Nil3 (w.alloc nilP) w.heap.size:=⟨by simp,by simp,by simp,by simp,by simp,by simp⟩
theorem Nil3.lt {W:World} {c:Nat} (h:Nil3 W c):c<W.heap.size:=lt_of_cell h.r0
theorem Nil3.next {W W1:World} {c b:Nat} (h:Nil3 W c) (hb:Below b W W1) (hc:c<b):Nil3 W1 c:=
 ⟨(hb.cell (p:=⟨c,0,none⟩) hc).trans h.r0,(hb.cell (p:=⟨c,1,none⟩) hc).trans h.r1,(hb.cell (p:=⟨c,2,none⟩) hc).trans h.r2,(hb.frozen (p:=⟨c,0,none⟩) hc).trans h.g0,(hb.frozen (p:=⟨c,1,none⟩) hc).trans h.g1,(hb.frozen (p:=⟨c,2,none⟩) hc).trans h.g2⟩
structure Rp where
 n:Int
 fs:List Fld
 b:List UInt8
end Go.Proofs.YtfaedmbfabfmeaaGreatDoor
