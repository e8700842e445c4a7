/- Fields and texts as arguments, opened. -/
import Derived.Test.YtfaedmbfabfmeaaGreatDoorYMRoC
import Derived.Test.YtfaedmbfabfmeaaGreatDoorYMFldP
import Derived.ProofKit
import Derived.SizedLaws
import Derived.SliceStrings
import Derived.OpenShut
import Derived.Lib.SmallJoins
import Derived.Deep.Slices
import Derived.Deep.Fields
import Derived.ChangeSame
import Derived.Deep.Strs
namespace Go.Proofs.YtfaedmbfabfmeaaGreatDoor
open Go.ChangeShapes Go.WideShapes Go.ChangeAt Go.RowKit Go.Shelf Go.Lib
theorem cells_string:Tryz.prog.cellsOf 9=1:=by kernel_rfl
theorem cells_field:Tryz.prog.cellsOf 51=2:=by kernel_rfl
theorem bytes_field:Tryz.prog.bytesOf 51=32:=by kernel_rfl
section
variable {H:Type} {enc:TypeId×Value→H} {W:World} {base:Nat} {spare:Nat→Bool} {held:Bool}
def fieldD (H:Type) (p:Fld):DataW H:=.agg [.lit (.string p.1),.lit (.string p.2)]
theorem field_trod {fuel:Nat} {cs:List Value} {x:DataW H×List MemPlace} (hl:cs.length=2) (h:DataW.trod enc Tryz.prog W base spare held fuel 51 cs=some x) :
  ∃p:Fld,cs=cellsF p∧x.1=fieldD H p:=by
 match cs,hl with
 | [c0,c1],_ =>
  obtain⟨y0,y1,m,rfl,_,h0,h1⟩:=trod_struct2 Tryz.underlying51 h
  simp only [cells_string,List.drop_zero,List.drop_succ_cons,List.take_succ_cons,List.take_zero]at h0 h1
  obtain⟨K,e0,rfl,_⟩:=DataW.trod_string Tryz.underlying9 h0
  obtain⟨V,e1,rfl,_⟩:=DataW.trod_string Tryz.underlying9 h1
  simp only [List.cons.injEq,and_true]at e0 e1
  subst e0 e1
  exact⟨(K.data.toList,V.data.toList),by rw [cellsF,strB_of,strB_of],rfl⟩
theorem weights_all_mem {P:Program} {e:TypeId}:∀{ds:List (DataW H)} {d:DataW H},d∈ds→∀n∈d.weights P e,n∈DataW.weightsAll P e ds
 | d0 :: ds,d,hd,n,hn=>by
  rw [DataW.weightsAll,List.mem_append]
  rcases List.mem_cons.1 hd with rfl | hd
  ·exact .inl hn
  ·exact .inr (weights_all_mem hd n hn)
theorem field_weights (p:Fld):(fieldD H p).weights Tryz.prog 51=[p.1.length,p.2.length]:=by
 rw [fieldD,DataW.weights,Tryz.underlying51]
 show DataW.weightsEach Tryz.prog [9,9] _=_
 simp only [DataW.weightsEach,DataW.weights,List.append_nil,List.singleton_append]
theorem cells_at {w:World} {b:Nat} {a:Addr} {n:Nat} {cs:List Value} (h:w.cells? b a n=some cs) (i:Nat) (hi:i<n):w.cell? (a.add i)=cs[i]?:=(World.cells?_some h).2.2 i hi
theorem flds_trod {fuel:Nat} {cs:List Value} {x:DataW H×List MemPlace} (h:DataW.trod enc Tryz.prog W base spare held fuel 22 cs=some x) (hz:∀n∈x.1.weights Tryz.prog 22,n≤reachBytes) :
  ∃(v:Value) (fs:List Fld),cs=[v]∧Flds 0 W v fs∧FldsIn fs:=by
 rcases Go.Deep.open_slice Tryz.underlying22 h with ⟨rfl,_⟩ | ⟨a,len,cap,m,n,D,Pl,rfl,_,hl,hm,hmm,rfl,hi⟩
 ·exact⟨_,[],rfl,⟨none,0,rfl,.inl rfl⟩,by simp,fun p hp=>by cases hp⟩
 ·rw [cells_field]at hi
  have hlm:len≤m:=by rw [hmm];split<;>omega
  have hpar:∀i,i<m→∃p:Fld,D i=fieldD H p∧∀j,j<2→W.cell? (a.add (i*2+j))=(cellsF p)[j]?:=by
   intro i him
   obtain⟨cs',hc,ht⟩:=hi i him
   obtain⟨p,rfl,hx⟩:=field_trod (World.cells?_some hc).2.1 ht
   refine⟨p,hx,fun j hj=>?_⟩
   rw [← Go.Deep.add_add]
   exact cells_at hc j hj
  have hex:∃ps:List Fld,ps.length=len∧∀(i:Nat) (p:Fld),ps[i]? = some p→D i=fieldD H p∧∀j,j<2→W.cell? (a.add (i*2+j))=(cellsF p)[j]?:=by
   have hall:∀l,l≤m→∃ps:List Fld,ps.length=l∧∀(i:Nat) (p:Fld),ps[i]? = some p→D i=fieldD H p∧∀j,j<2→W.cell? (a.add (i*2+j))=(cellsF p)[j]?:=by
    intro l
    induction l with
    | zero=>exact fun _=>⟨[],rfl,fun i p h=>by simp at h⟩
    | succ l ih =>
     intro hl
     obtain⟨ps,hlen,hps⟩:=ih (by omega)
     obtain⟨p,hp⟩:=hpar l (by omega)
     refine⟨ps++[p],by simp [hlen],fun i q hq=>?_⟩
     rw [List.getElem?_append]at hq
     split at hq
     ·exact hps i q hq
     ·rename_i hge
      have hil:i=l:=by
       have:=(List.getElem?_eq_some_iff.1 hq).1
       simp only [List.length_singleton]at this
       omega
      subst hil
      rw [hlen,Nat.sub_self]at hq
      obtain rfl:=Option.some.inj hq
      exact hp
   exact hall len hlm
  obtain⟨ps,rfl,hps⟩:=hex
  have hw:(ps.length+(m-ps.length))*32 :: (DataW.weightsAll Tryz.prog 51 ((List.range ps.length).map D)++DataW.weightsAll Tryz.prog 51 ((List.range (m-ps.length)).map fun j=>D (ps.length+j)))=(DataW.slice ((List.range ps.length).map D) ((List.range (m-ps.length)).map fun j=>D (ps.length+j))).weights Tryz.prog 22:=by
   rw [DataW.weights,Tryz.underlying22]
   simp only [List.length_map,List.length_range,bytes_field]
  simp only [← hw]at hz
  refine⟨_,ps,rfl,⟨some a,cap,rfl,?_⟩,?_,?_⟩
  ·cases ps with
   | nil=>exact .inl rfl
   | cons p0 ps =>
    obtain⟨_,hc0⟩:=hps 0 p0 rfl
    obtain⟨b,off,spot⟩:=a
    have hspot:spot=none:=by
     have:=hc0 0 (by omega)
     rw [show(cellsF p0)[0]? = some (.string (strB p0.1))from rfl]at this
     simpa [Addr.add] using World.cell?_spot this
    subst hspot
    have hlt:b<W.heap.size:=by
     have:=hc0 0 (by omega)
     rw [show(cellsF p0)[0]? = some (.string (strB p0.1))from rfl,Go.WideShapes.add_plain]at this
     exact lt_of_cell this
    refine .inr ⟨b,off,rfl,Nat.zero_le _,hlt,fun j p hj=>?_⟩
    obtain⟨_,hc⟩:=hps j p hj
    have x0:=hc 0 (by omega)
    have x1:=hc 1 (by omega)
    rw [Go.WideShapes.add_plain]at x0 x1
    exact⟨x0,x1⟩
  ·have:=hz _ (List.mem_cons_self ..)
   unfold reachBytes at this
   omega
  ·intro p hp
   obtain⟨i,hi'⟩:=List.getElem?_of_mem hp
   obtain⟨hD,_⟩:=hps i p hi'
   have hmem:fieldD H p∈(List.range ps.length).map D:=by
    rw [← hD]
    exact List.mem_map.2 ⟨i,List.mem_range.2 (List.getElem?_eq_some_iff.1 hi').1,rfl⟩
   have hin:∀n∈(fieldD H p).weights Tryz.prog 51,n≤reachBytes:=fun n hn=>hz n (List.mem_cons_of_mem _ (List.mem_append.2 (.inl (weights_all_mem hmem n hn))))
   rw [field_weights]at hin
   have h1:=hin p.1.length (by simp)
   have h2:=hin p.2.length (by simp)
   unfold reachBytes at h1 h2
   omega
end
end Go.Proofs.YtfaedmbfabfmeaaGreatDoor
