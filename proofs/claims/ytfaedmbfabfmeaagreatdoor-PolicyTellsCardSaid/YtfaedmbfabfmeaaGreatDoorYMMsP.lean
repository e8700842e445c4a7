/- Plain: what a request and a response are that a text begins with, and how they lie in memory. · Requests, responses and three texts as arguments, opened. -/
import Derived.Test.YtfaedmbfabfmeaaGreatDoorYMBasP
import Derived.Test.YtfaedmbfabfmeaaGreatDoorYMLgA
import Derived.Test.YtfaedmbfabfmeaaGreatDoorYMFldP
import Derived.Test.YtfaedmbfabfmeaaGreatDoorYMDirP
import Derived.Test.YtfaedmbfabfmeaaGreatDoorYMSpP
import Derived.Test.YtfaedmbfabfmeaaGreatDoorYShelf
import Derived.Test.YtfaedmbfabfmeaaGreatDoorRows
import Derived.Test.YtfaedmbfabfmeaaGreatDoorYAscPlain
import Derived.Test.YtfaedmbfabfmeaaGreatDoorYMAscN
import Derived.Test.YtfaedmbfabfmeaaGreatDoorYMDigP
import Derived.Test.YtfaedmbfabfmeaaGreatDoorYMBarA
import Derived.Test.YtfaedmbfabfmeaaGreatDoorYTrimP
import Derived.Test.YtfaedmbfabfmeaaGreatDoorYOpnF
import Derived.Laws.AppendOwn
import Derived.Lib.AtoiAllMem
import Derived.Lib.Hide
import Derived.Lib.ConvBytes
import Derived.Lib.SmallJoins
import Derived.Lib.Walk
import Derived.Laws.Strings3
import Derived.Laws.Closers25
import Derived.Laws.Closers25b
import Derived.WalkKit
import Derived.BigCall
import Derived.BigGuard
import Derived.WalkSpells
import Derived.WalkLawsBesides
import Derived.Laws.IdiomStrings
import Derived.Lib.ItoaWalk
import Derived.Laws.BitsLemmas
import Derived.Lib.IndexAny
import Derived.Lib.OthersKept
import Derived.Deep.DeepCutAuto
import Derived.Deep.RegionHeld3
import Derived.Deep.RegionWith
import Derived.Deep.AppendLies
import Derived.BigQuiet
set_option linter.unusedSimpArgs false
set_option maxRecDepth 100000
set_option maxHeartbeats 1000000
namespace Go.Proofs.YtfaedmbfabfmeaaGreatDoor
open Go.RowKit Go.Shelf Go.Lib
def hoN:List UInt8:=[104,111,115,116]
structure Nil4 (W:World) (c:Nat):Prop where
 r0:W.cell? ⟨c,0,none⟩=some (.string ⟨#[]⟩)
 r1:W.cell? ⟨c,1,none⟩=some (.string ⟨#[]⟩)
 r2:W.cell? ⟨c,2,none⟩=some (.slice none 0 0)
 r3:W.cell? ⟨c,3,none⟩=some (.slice none 0 0)
 g0:W.frozen? ⟨c,0,none⟩=false
 g1:W.frozen? ⟨c,1,none⟩=false
 g2:W.frozen? ⟨c,2,none⟩=false
 g3:W.frozen? ⟨c,3,none⟩=false
abbrev nilQ:Obj:=.cells #[.string ⟨#[]⟩,.string ⟨#[]⟩,.slice none 0 0,.slice none 0 0] 25
theorem Nil4.made (w:World):Nil4 (w.alloc nilQ) w.heap.size:=⟨by simp,by simp,by simp,by simp,by simp,by simp,by simp,by simp⟩
theorem Nil4.lt {W:World} {c:Nat} (h:Nil4 W c):c<W.heap.size:=lt_of_cell h.r0
theorem Nil4.next {W W1:World} {c b:Nat} (h:Nil4 W c) (hb:Below b W W1) (hc:c<b):Nil4 W1 c:=
 ⟨(hb.cell (p:=⟨c,0,none⟩) hc).trans h.r0,(hb.cell (p:=⟨c,1,none⟩) hc).trans h.r1,(hb.cell (p:=⟨c,2,none⟩) hc).trans h.r2,(hb.cell (p:=⟨c,3,none⟩) hc).trans h.r3,(hb.frozen (p:=⟨c,0,none⟩) hc).trans h.g0,(hb.frozen (p:=⟨c,1,none⟩) hc).trans h.g1,(hb.frozen (p:=⟨c,2,none⟩) hc).trans h.g2,(hb.frozen (p:=⟨c,3,none⟩) hc).trans h.g3⟩
def BytF (lo:Nat) (w:World) (v:Value) (bs:List UInt8):Prop:=
 ∃ao cap,v=.slice ao bs.length cap∧(bs=[]∨∃b off,ao=some ⟨b,off,none⟩∧lo≤b∧b<w.heap.size∧∀j c,bs[j]? = some c→w.cell? ⟨b,off+j,none⟩=some (bytV c))
theorem BytF.below {lo:Nat} {w w':World} {v:Value} {bs:List UInt8} (h:BytF lo w v bs) (hb:Below w.heap.size w w'):BytF lo w' v bs:=by
 obtain⟨ao,cap,hv,hc⟩:=h
 rcases hc with hc | ⟨b,off,h1,h2,h3,h4⟩
 ·exact⟨ao,cap,hv,.inl hc⟩
 ·exact⟨ao,cap,hv,.inr ⟨b,off,h1,h2,Nat.lt_of_lt_of_le h3 hb.size,fun j c hj=>(hb.cell (p:=⟨b,off+j,none⟩) h3).trans (h4 j c hj)⟩⟩
theorem BytF.moved {lo x:Nat} {w w':World} {v:Value} {bs:List UInt8} (h:BytF lo w v bs) (hm:Moved_MovP x w w') (hx:x<lo):BytF lo w' v bs:=by
 obtain⟨ao,cap,hv,hc⟩:=h
 rcases hc with hc | ⟨b,off,h1,h2,h3,h4⟩
 ·exact⟨ao,cap,hv,.inl hc⟩
 ·exact⟨ao,cap,hv,.inr ⟨b,off,h1,h2,Nat.lt_of_lt_of_le h3 hm.size,fun j c hj=>(hm.cell (p:=⟨b,off+j,none⟩) h3 (show b≠x by omega)).trans (h4 j c hj)⟩⟩
theorem BytF.low {lo lo':Nat} {w:World} {v:Value} {bs:List UInt8} (h:BytF lo w v bs) (hl:lo'≤lo):BytF lo' w v bs:=by
 obtain⟨ao,cap,hv,hc⟩:=h
 rcases hc with hc | ⟨b,off,h1,h2,h3,h4⟩
 ·exact⟨ao,cap,hv,.inl hc⟩
 ·exact⟨ao,cap,hv,.inr ⟨b,off,h1,by omega,h3,h4⟩⟩
structure Rq where
 m:List UInt8
 t:List UInt8
 fs:List Fld
 b:List UInt8
structure Nil3 (W:World) (c:Nat):Prop where
 r0:W.cell? ⟨c,0,none⟩=some (.int .i64 0)
 r1:W.cell? ⟨c,1,none⟩=some (.slice none 0 0)
 r2:W.cell? ⟨c,2,none⟩=some (.slice none 0 0)
 g0:W.frozen? ⟨c,0,none⟩=false
 g1:W.frozen? ⟨c,1,none⟩=false
 g2:W.frozen? ⟨c,2,none⟩=false
abbrev nilP:Obj:=.cells #[.int .i64 0,.slice none 0 0,.slice none 0 0] 27
theorem Nil3.made (w:World):Nil3 (w.alloc nilP) w.heap.size:=⟨by simp,by simp,by simp,by simp,by simp,by simp⟩
theorem Nil3.lt {W:World} {c:Nat} (h:Nil3 W c):c<W.heap.size:=lt_of_cell h.r0
theorem Nil3.next {W W1:World} {c b:Nat} (h:Nil3 W c) (hb:Below b W W1) (hc:c<b):Nil3 W1 c:=
 ⟨(hb.cell (p:=⟨c,0,none⟩) hc).trans h.r0,(hb.cell (p:=⟨c,1,none⟩) hc).trans h.r1,(hb.cell (p:=⟨c,2,none⟩) hc).trans h.r2,(hb.frozen (p:=⟨c,0,none⟩) hc).trans h.g0,(hb.frozen (p:=⟨c,1,none⟩) hc).trans h.g1,(hb.frozen (p:=⟨c,2,none⟩) hc).trans h.g2⟩
structure Rp where
 n:Int
 fs:List Fld
 b:List UInt8
end Go.Proofs.YtfaedmbfabfmeaaGreatDoor
namespace Go.Proofs.YtfaedmbfabfmeaaGreatDoor
open Go.ChangeShapes Go.WideShapes Go.ChangeAt Go.RowKit Go.Shelf Go.Lib
theorem cells_u8:Tryz.prog.cellsOf 5=1:=by kernel_rfl
theorem bytes_u8:Tryz.prog.bytesOf 5=1:=by kernel_rfl
theorem cells_intM:Tryz.prog.cellsOf 3=1:=by kernel_rfl
theorem cells_fsl:Tryz.prog.cellsOf 22=1:=by kernel_rfl
theorem cells_bsl:Tryz.prog.cellsOf 23=1:=by kernel_rfl
theorem cells_reqM:Tryz.prog.cellsOf 25=4:=by kernel_rfl
theorem cells_rspM:Tryz.prog.cellsOf 27=3:=by kernel_rfl
section
variable {H:Type} {enc:TypeId×Value→H} {W:World} {base:Nat} {spare:Nat→Bool} {held:Bool}
theorem byte_of_OpnM {x:Int} (h:(Lit.int .u8 x).wf=true):∃c:UInt8,(Value.int .u8 x)=bytV c:=by
 have h2:0≤x∧x≤255:=by simpa [Lit.wf,IntKind.min,IntKind.max,IntKind.signed,IntKind.bits] using h
 refine⟨UInt8.ofNat x.toNat,?_⟩
 have:((UInt8.ofNat x.toNat).toNat:Int)=x:=by
  rw [UInt8.toNat_ofNat']
  omega
 rw [bytV,this]
theorem byts_trod {fuel:Nat} {cs:List Value} {x:DataW H×List MemPlace} (h:DataW.trod enc Tryz.prog W base spare held fuel 23 cs=some x) (hz:∀n∈x.1.weights Tryz.prog 23,n≤reachBytes) :
  ∃(v:Value) (bs:List UInt8),cs=[v]∧BytF 0 W v bs∧bs.length≤140737488355328:=by
 rcases Go.Deep.open_slice Tryz.underlying23 h with ⟨rfl,_⟩ | ⟨a,len,cap,m,n,D,Pl,rfl,_,hl,hm,hmm,rfl,hi⟩
 ·exact⟨_,[],rfl,⟨none,0,rfl,.inl rfl⟩,by simp⟩
 ·rw [cells_u8]at hi
  have hlm:len≤m:=by rw [hmm];split<;>omega
  have hpar:∀i,i<m→∃c:UInt8,W.cell? (a.add i)=some (bytV c):=by
   intro i him
   obtain⟨cs',hc,ht⟩:=hi i him
   obtain⟨x0,q0,_,w0⟩:=DataW.trod_int Tryz.underlying5 ht
   obtain⟨c,hcv⟩:=byte_of_OpnM w0
   have:=cells_at hc 0 (by omega)
   rw [q0,Nat.mul_one,Go.Deep.add_add,Nat.add_zero]at this
   exact⟨c,by rw [this,← hcv]<;>rfl⟩
  have hex:∃ps:List UInt8,ps.length=len∧∀(i:Nat) (c:UInt8),ps[i]? = some c→W.cell? (a.add i)=some (bytV c):=by
   have hall:∀l,l≤m→∃ps:List UInt8,ps.length=l∧∀(i:Nat) (c:UInt8),ps[i]? = some c→W.cell? (a.add i)=some (bytV c):=by
    intro l
    induction l with
    | zero=>exact fun _=>⟨[],rfl,fun i p h=>by simp at h⟩
    | succ l ih =>
     intro hl
     obtain⟨ps,hlen,hps⟩:=ih (by omega)
     obtain⟨p,hp⟩:=hpar l (by omega)
     refine⟨ps++[p],by simp [hlen],fun i q hq=>?_⟩
     rw [List.getElem?_append]at hq
     split at hq
     ·exact hps i q hq
     ·rename_i hge
      have hil:i=l:=by
       have:=(List.getElem?_eq_some_iff.1 hq).1
       simp only [List.length_singleton]at this
       omega
      subst hil
      rw [hlen,Nat.sub_self]at hq
      obtain rfl:=Option.some.inj hq
      exact hp
   exact hall len hlm
  obtain⟨ps,rfl,hps⟩:=hex
  have hw:(ps.length+(m-ps.length))*1 :: (DataW.weightsAll Tryz.prog 5 ((List.range ps.length).map D)++DataW.weightsAll Tryz.prog 5 ((List.range (m-ps.length)).map fun j=>D (ps.length+j)))=(DataW.slice ((List.range ps.length).map D) ((List.range (m-ps.length)).map fun j=>D (ps.length+j))).weights Tryz.prog 23:=by
   rw [DataW.weights,Tryz.underlying23]
   simp only [List.length_map,List.length_range,bytes_u8]
  simp only [← hw]at hz
  refine⟨_,ps,rfl,⟨some a,cap,rfl,?_⟩,?_⟩
  ·cases ps with
   | nil=>exact .inl rfl
   | cons p0 ps =>
    obtain⟨b,off,spot⟩:=a
    have hc0:=hps 0 p0 rfl
    have hspot:spot=none:=by simpa [Addr.add] using World.cell?_spot hc0
    subst hspot
    rw [Go.WideShapes.add_plain]at hc0
    refine .inr ⟨b,off,rfl,Nat.zero_le _,lt_of_cell hc0,fun j p hj=>?_⟩
    have:=hps j p hj
    rw [Go.WideShapes.add_plain]at this
    exact this
  ·have:=hz _ (List.mem_cons_self ..)
   unfold reachBytes at this
   omega
theorem str_weight (s:ByteArray):(DataW.lit (.string s.data.toList):DataW H).weights Tryz.prog 9=[s.data.toList.length]:=by
 rw [DataW.weights]
theorem open_req {v:Value} {d:DataW H} {p:List MemPlace} (hv:Value.okWide Tryz.prog W .any base 25 v) (h:DataW.Trod enc Tryz.prog W 0 (fun _=>true) true 25 v d p) (hz:∀n∈d.weights Tryz.prog 25,n≤reachBytes) :
  ∃(q:Rq) (f y:Value),v=.agg #[.string (strB q.m),.string (strB q.t),f,y]∧Flds 0 W f q.fs∧BytF 0 W y q.b∧FldsIn q.fs∧q.m.length≤140737488355328∧q.t.length≤140737488355328∧q.b.length≤140737488355328:=by
 obtain⟨cs,rfl,hsz⟩:=okWide_struct Tryz.underlying25 hv
 obtain⟨l⟩:=cs
 match l,hsz.trans cells_reqM with
 | [c0,c1,c2,c3],_ =>
  obtain⟨fuel,hf⟩:=h
  obtain⟨y0,y1,y2,y3,m,hx,_,h0,h1,h2,h3⟩:=Go.Joins.trod_struct4 Tryz.underlying25 hf
  simp only [Value.cells,cells_string,cells_fsl,cells_bsl,List.drop_zero,List.drop_succ_cons,List.take_succ_cons,List.take_zero]at h0 h1 h2 h3
  rw [Prod.mk.injEq]at hx
  obtain⟨rfl,rfl⟩:=hx
  have hw:(DataW.agg [y0.1,y1.1,y2.1,y3.1]).weights Tryz.prog 25=y0.1.weights Tryz.prog 9++(y1.1.weights Tryz.prog 9++(y2.1.weights Tryz.prog 22++(y3.1.weights Tryz.prog 23++[]))):=by
   rw [DataW.weights,Tryz.underlying25]
   rfl
  rw [hw,List.append_nil]at hz
  obtain⟨K,e0,rfl,_⟩:=DataW.trod_string Tryz.underlying9 h0
  obtain⟨T,e1,rfl,_⟩:=DataW.trod_string Tryz.underlying9 h1
  obtain⟨f,fs,e2,hF,hI⟩:=flds_trod h2 (fun z hz'=>hz z (List.mem_append.2 (.inr (List.mem_append.2 (.inr (List.mem_append.2 (.inl hz')))))))
  obtain⟨y,bs,e3,hY,hB⟩:=byts_trod h3 (fun z hz'=>hz z (List.mem_append.2 (.inr (List.mem_append.2 (.inr (List.mem_append.2 (.inr hz')))))))
  have z0:=hz K.data.toList.length (List.mem_append.2 (.inl (by rw [str_weight];exact List.mem_singleton.2 rfl)))
  have z1:=hz T.data.toList.length (List.mem_append.2 (.inr (List.mem_append.2 (.inl (by rw [str_weight];exact List.mem_singleton.2 rfl)))))
  unfold reachBytes at z0 z1
  simp only [List.cons.injEq,and_true]at e0 e1 e2 e3
  subst e0 e1 e2 e3
  refine⟨⟨K.data.toList,T.data.toList,fs,bs⟩,_,_,?_,hF,hY,hI,by show K.data.toList.length≤_;omega,by show T.data.toList.length≤_;omega,hB⟩
  rw [strB_of,strB_of]
theorem open_rsp {v:Value} {d:DataW H} {p:List MemPlace} (hv:Value.okWide Tryz.prog W .any base 27 v) (h:DataW.Trod enc Tryz.prog W 0 (fun _=>true) true 27 v d p) (hz:∀n∈d.weights Tryz.prog 27,n≤reachBytes) :
  ∃(q:Rp) (f y:Value),v=.agg #[.int .i64 q.n,f,y]∧Flds 0 W f q.fs∧BytF 0 W y q.b∧FldsIn q.fs∧q.b.length≤140737488355328:=by
 obtain⟨cs,rfl,hsz⟩:=okWide_struct Tryz.underlying27 hv
 obtain⟨l⟩:=cs
 match l,hsz.trans cells_rspM with
 | [c0,c2,c3],_ =>
  obtain⟨fuel,hf⟩:=h
  obtain⟨y0,y2,y3,m,hx,_,h0,h2,h3⟩:=Go.Deep.trod_struct3 Tryz.underlying27 hf
  simp only [Value.cells,cells_intM,cells_fsl,cells_bsl,List.drop_zero,List.drop_succ_cons,List.take_succ_cons,List.take_zero]at h0 h2 h3
  rw [Prod.mk.injEq]at hx
  obtain⟨rfl,rfl⟩:=hx
  have hw:(DataW.agg [y0.1,y2.1,y3.1]).weights Tryz.prog 27=y0.1.weights Tryz.prog 3++(y2.1.weights Tryz.prog 22++(y3.1.weights Tryz.prog 23++[])):=by
   rw [DataW.weights,Tryz.underlying27]
   rfl
  rw [hw,List.append_nil]at hz
  obtain⟨n,e0,_,_⟩:=DataW.trod_int Tryz.underlying3 h0
  obtain⟨f,fs,e2,hF,hI⟩:=flds_trod h2 (fun z hz'=>hz z (List.mem_append.2 (.inr (List.mem_append.2 (.inl hz')))))
  obtain⟨y,bs,e3,hY,hB⟩:=byts_trod h3 (fun z hz'=>hz z (List.mem_append.2 (.inr (List.mem_append.2 (.inr hz')))))
  simp only [List.cons.injEq,and_true]at e0 e2 e3
  subst e0 e2 e3
  exact⟨⟨n,fs,bs⟩,_,_,rfl,hF,hY,hI,hB⟩
end
end Go.Proofs.YtfaedmbfabfmeaaGreatDoor
