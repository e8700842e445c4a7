/- The contracts of head.lines (its value is ranged over) and of head.All. -/
import Derived.Test.YtfaedmbfabfmeaaGreatDoorYMFldP
import Derived.RangeFuncBox
import Derived.RangeFuncLeaves
import Derived.Shelf.Abstract
import Derived.WalkKit
import Derived.OwnWalkIn
import Derived.TacticsInMore
import Derived.LoopNIn
import Derived.LoopIn
import Derived.Maps.AppendAt
set_option linter.unusedSimpArgs false
set_option maxRecDepth 100000
set_option maxHeartbeats 4000000
namespace Go.Proofs.YtfaedmbfabfmeaaGreatDoor
open Go.RowKit Go.Shelf
attribute [local go_sem] Oper.semAt_some
def KpB (hi ex:Nat) (A B:World):Prop:=A.heap.size≤B.heap.size∧∀b,b<hi→b≠ex→B.heap[b]? = A.heap[b]?
theorem KpB.refl (hi ex:Nat) (A:World):KpB hi ex A A:=⟨zR _,fun _ _ _=>rfl⟩
theorem KpB.trans {hi ex:Nat} {A B C:World} (h:KpB hi ex A B) (k:KpB hi ex B C):KpB hi ex A C:=⟨Nat.le_trans h.1 k.1,fun b h1 h2=>(k.2 b h1 h2).trans (h.2 b h1 h2)⟩
theorem KpB.cell {hi ex:Nat} {A B:World} (h:KpB hi ex A B) {b o:Nat} (h1:b<hi) (h2:b≠ex):B.cell? ⟨b,o,none⟩=A.cell? ⟨b,o,none⟩:=World.cell?_of_block (w:=A) (a:=⟨b,o,none⟩) (h.2 b h1 h2)
theorem KpB.alloc {hi ex:Nat} (A:World) (o:Obj) (hh:hi≤A.heap.size):KpB hi ex A (A.alloc o):=⟨by simp,fun b h1 _=>by
 have:=Below.heap_alloc A o b (Nat.lt_of_lt_of_le h1 hh)
 exact this⟩
theorem KpB.put {hi ex:Nat} {w:World} (hh:hi≤w.heap.size) (W:World) (l:Nat) (o o':Obj) (hl:w.heap.size≤l) (h:W.heap[l]? = some o) (_:o.isCells=false) (_:o.isWalk=false):KpB hi ex W (W.putObj l o'):=
 ⟨(grownBy_putObj' W l o').size,fun b h1 _=>(grownBy_putObj' W l o').block b (by have:=(Array.getElem?_eq_some_iff.1 h).1;omega) (fun e=>by have:=Option.some.inj e;omega)⟩
theorem lines1_in (F:Fence) (n:Nat) (hF:F.fn 153) (hro:F.round=none) (hn:1≤n) (l Bl Bn hi ex:Nat) (ao:Option Addr) (cap:Nat) (fs:List Fld) (name:List UInt8) (hl:fs.length≤100000)
  (_:Bl<hi) (hBn:Bn<hi) (hBx:Bn≠ex) (J Jx:List (List UInt8)→World→Prop)
  (hY:∀pre x W,J pre W→pre.length<fs.length→YieldAt F (n-1) Tryz.prog l #[.string (strB x)] W fun e W' =>
   (e=.returned (.bool true)∧J (pre++[x]) W'∧KpB hi ex W W')∨(e=.returned (.bool false)∧Jx (pre++[x]) W'))
  (W:World) (hhi:hi≤W.heap.size) (hJ:AbidesFrom W.heap.size J) (h1:W.cell? ⟨Bl,0,none⟩=some (.slice ao fs.length cap)) (h2:W.cell? ⟨Bn,0,none⟩=some (.string (strB name)))
  (hc:fs=[]∨∃b off,ao=some ⟨b,off,none⟩∧b<hi∧b≠ex∧∀j p,fs[j]? = some p→W.cell? ⟨b,off+j*2,none⟩=some (.string (strB p.1))∧W.cell? ⟨b,off+j*2+1,none⟩=some (.string (strB p.2))) (h0:J [] W) :
  CallsIn F n Tryz.prog 153 #[.func (.yield l) #[] #[],.pointer (some ⟨Bl,0,none⟩),.pointer (some ⟨Bn,0,none⟩)] W fun e W'=>(∃v,e=.returned v) ∧
   ((∃ys,ys=allH fs name∧J ys W')∨(∃pre,pre <+: allH fs name∧Jx pre W')):=by
 have HC:=zH hc
 have H2:=zH h2
 clear hc h2
 refine callsIn_of_wp Tryz.func153 rfl hF ?_ hro
 simp only [Tryz.ntmps153,List.size_toArray,List.length_cons,List.length_nil,Nat.reduceAdd,Nat.reduceSub,Array.replicate_succ,Array.replicate_zero,List.push_toArray,List.append_toArray,List.nil_append,List.cons_append]
 gi_wp2
 gi_loopw [8] (fun i wr=>∃k:Nat,k≤fs.length∧i=.int .i64 k∧J (allH (fs.take k) name) wr∧KpB hi ex W wr) (fun i _=>fs.length-(intOf i).toNat)
 case atStart=>exact⟨0,Nat.zero_le _,rfl,h0,KpB.refl _ _ _⟩
 case round =>
  obtain⟨k,hk,rfl,hJs,hkp⟩:=hrel
  have HKP:=zH hkp
  by_cases hlt:k<fs.length
  ·rcases HC.out with hnil | ⟨c,off,rfl,hcl,hcx,hcell⟩
   ·exfalso
    rw [hnil]at hlt
    simp at hlt
   ·obtain⟨p,hp⟩:∃p,fs[k]? = some p:=⟨_,List.getElem?_eq_getElem hlt⟩
    have Htk:Hid (fs.take (k+1)=fs.take k++[p]):=zH (by rw [List.take_add_one,hp];rfl)
    obtain⟨x0,x1⟩:=hcell k p hp
    have a0:=(hkp.cell (o:=off+k*2) hcl hcx).trans x0
    have a1:=(hkp.cell (o:=off+k*2+1) hcl hcx).trans x1
    have a2:=(hkp.cell (o:=0) hBn hBx).trans H2.out
    have hkI:(k:Int)<(fs.length:Int):=by omega
    have hws:=hkp.1
    have hla:(allH (fs.take k) name).length<fs.length:=by
     have:=allH_len (fs.take k) name
     rw [List.length_take]at this
     omega
    have hJ2:=hJ _ wr (wr.alloc (.cells #[.string (strB p.1),.string (strB p.2)] 51)) none hJs (World.grownBy_alloc wr _ none) (fun r e=>by cases e)
    have hkp2:=hkp.trans (KpB.alloc (ex:=ex) wr (.cells #[.string (strB p.1),.string (strB p.2)] 51) (by omega))
    have HKP2:=zH hkp2
    have a3:=(hkp2.cell (o:=0) hBn hBx).trans H2.out
    obtain⟨pn,pv⟩:=p
    dsimp only at *
    by_cases hq:pn=name
    ·subst hq
     obtain⟨fn,tmps,assign,body,hy,hR⟩:=hY _ pv _ hJ2 hla
     have HA:Hid (allH (fs.take (k+1)) pn=allH (fs.take k) pn++[pv]):=zH (by rw [Htk.out];exact allH_yes _ _ _ rfl)
     clear hcell x0 x1 hp hkp hkp2 hJ2 hJs
     gi_wp2
     refine hR.mono ?_
     rintro e W3 (⟨rfl,hJ3,hk3⟩ | ⟨rfl,hJx3⟩)
     ·gi_wp2
      go_roundw
      case rel=>exact⟨k+1,by omega,by go_num,by rw [HA.out];exact hJ3,HKP2.out.trans hk3⟩
      case measure=>simp [intOf];omega
     ·gi_wp2
      refine bodyPost_ret (results_none rfl _ _ _) rfl ?_
      exact⟨⟨_,rfl⟩,.inr ⟨_,by rw [← HA.out];exact allH_take _ _ _,hJx3⟩⟩
    ·have HA:Hid (allH (fs.take (k+1)) name=allH (fs.take k) name):=zH (by rw [Htk.out];exact allH_no _ _ _ hq)
     have q1:¬(strB pn).toList=(strB name).toList:=by
      rw [Lib.toList_data,Lib.toList_data,strB_data,strB_data]
      exact hq
     have q2:((strB pn).toList==(strB name).toList)=false:=by simpa using q1
     have HJ:=zH hJ2
     clear hcell x0 x1 hp hkp hkp2 hJ2 hJs hq
     gi_wp2
     refine⟨fun _ h=>(by cases h),?_⟩
     gi_wp2
     go_roundw
     case rel=>exact⟨k+1,by omega,by go_num,by rw [HA.out];exact HJ.out,HKP2.out⟩
     case measure=>simp [intOf];omega
  ·obtain rfl:k=fs.length:=by omega
   have hj:J (allH fs name) wr:=by rwa [List.take_length]at hJs
   clear hJs hkp
   gi_wp2
   go_end0
   exact⟨⟨_,rfl⟩,.inl ⟨_,rfl,hj⟩⟩
theorem lines_in (F:Fence) (n:Nat) (hF:F.fn 114) (hro:F.round=none) (ao:Option Addr) (len cap:Nat) (name:ByteArray) (w:World) :
  CallsIn F n Tryz.prog 114 #[.slice ao len cap,.string name] w fun e w'=>e=.returned (.func (.func 153) #[] #[.pointer (some ⟨w.heap.size,0,none⟩),.pointer (some ⟨w.heap.size+1,0,none⟩)])∧w'=(w.alloc (.cells #[.slice ao len cap] 22)).alloc (.cells #[.string name] 9):=by
 refine callsIn_of_wp Tryz.func114 rfl hF ?_ hro
 simp only [Tryz.ntmps114,List.size_toArray,List.length_cons,List.length_nil,Nat.reduceAdd,Nat.reduceSub,Array.replicate_succ,Array.replicate_zero,List.push_toArray,List.append_toArray,List.nil_append,List.cons_append]
 gi_wp2
 go_ret
 exact⟨by simp,rfl⟩
theorem lines_stops (F:Fence) (n:Nat) (hF:F.fn 153) (hro:F.round=none) (hn:1≤n) (Bl Bn hi ex:Nat) (ao:Option Addr) (cap:Nat) (fs:List Fld) (name:List UInt8) (hl:fs.length≤100000) (hBl:Bl<hi) (hBn:Bn<hi) (hBx:Bn≠ex) (w:World) (hhi:hi≤w.heap.size)
  (h1:w.cell? ⟨Bl,0,none⟩=some (.slice ao fs.length cap)) (h2:w.cell? ⟨Bn,0,none⟩=some (.string (strB name)))
  (hc:fs=[]∨∃b off,ao=some ⟨b,off,none⟩∧b<hi∧b≠ex∧∀j p,fs[j]? = some p→w.cell? ⟨b,off+j*2,none⟩=some (.string (strB p.1))∧w.cell? ⟨b,off+j*2+1,none⟩=some (.string (strB p.2))) :
  SeqStopsK F n Tryz.prog 153 #[.pointer (some ⟨Bl,0,none⟩),.pointer (some ⟨Bn,0,none⟩)] (fun x:List UInt8=>#[Value.string (strB x)]) (KpB hi ex) (fun ys=>ys=allH fs name) (fun pre=>pre <+: allH fs name) fs.length w:=fun l J Jx W hW hJ _ hY h0=>by
 refine lines1_in F n hF hro hn l Bl Bn hi ex ao cap fs name hl hBl hBn hBx J Jx hY W (Nat.le_trans hhi hW.size) hJ ((hW.cell (p:=⟨Bl,0,none⟩) (Nat.lt_of_lt_of_le hBl hhi)).trans h1) ((hW.cell (p:=⟨Bn,0,none⟩) (Nat.lt_of_lt_of_le hBn hhi)).trans h2) ?_ h0
 rcases hc with hc | ⟨b,off,e1,e2,e3,e4⟩
 ·exact .inl hc
 ·exact .inr ⟨b,off,e1,e2,e3,fun j p hp=>⟨(hW.cell (p:=⟨b,off+j*2,none⟩) (Nat.lt_of_lt_of_le e2 hhi)).trans (e4 j p hp).1,(hW.cell (p:=⟨b,off+j*2+1,none⟩) (Nat.lt_of_lt_of_le e2 hhi)).trans (e4 j p hp).2⟩⟩
theorem all_in (F:Fence) (n:Nat) (hA:F.fn 73) (hL:F.fn 114) (hL1:F.fn 153) (hro:F.round=none) (hn:3≤n) (lo:Nat) (v:Value) (fs:List Fld) (name:List UInt8) (w:World) (h:Flds lo w v fs) (hl:fs.length≤100000) :
  CallsIn F n Tryz.prog 73 #[v,.string (strB name)] w fun e w'=>(∃u,e=.returned u∧w'.ownsRow w.heap.size 9 1 u (allH fs name).length (rowS (allH fs name)))∧Below w.heap.size w w':=by
 obtain⟨i0,hi,hz0,hz1,hz2⟩:=info_parts info_strF
 obtain⟨ao,cap,rfl,hc⟩:=h
 have h1:1≤n:=by omega
 refine callsIn_of_wp_marks Tryz.func73 rfl hA ?_ hro
 simp only [Tryz.ntmps73,List.size_toArray,List.length_cons,List.length_nil,Nat.reduceAdd,Nat.reduceSub,Array.replicate_succ,Array.replicate_zero,List.push_toArray,List.append_toArray,List.nil_append,List.cons_append]
 gi_wp2_with (gi_at_call 114;refine(lines_in F (n-1) hL hro _ _ _ _ _).mono ?_;rintro e w' ⟨rfl,rfl⟩)
 have bO:=Boxed.new w 81 (.slice none 0 0)
 have bL:=Boxed.new (w.alloc (.cells #[.slice none 0 0] 81)) 22 (.slice ao fs.length cap)
 have bN:=Boxed.new ((w.alloc (.cells #[.slice none 0 0] 81)).alloc (.cells #[.slice ao fs.length cap] 22)) 9 (.string (strB name))
 have bL2:=bL.alloc (.cells #[.string (strB name)] 9)
 have bO2:=(bO.alloc (.cells #[.slice ao fs.length cap] 22)).alloc (.cells #[.string (strB name)] 9)
 simp only [World.size_alloc]at bL2 bN
 have hB0:Below w.heap.size w (((w.alloc (.cells #[.slice none 0 0] 81)).alloc (.cells #[.slice ao fs.length cap] 22)).alloc (.cells #[.string (strB name)] 9)):=(((Below.refl _ w).alloc (zR _) _).alloc (by simp) _).alloc (by simp;omega) _
 have hc2:fs=[]∨∃b off,ao=some ⟨b,off,none⟩∧b<w.heap.size+3∧b≠w.heap.size∧∀j p,fs[j]? = some p→(((w.alloc (.cells #[.slice none 0 0] 81)).alloc (.cells #[.slice ao fs.length cap] 22)).alloc (.cells #[.string (strB name)] 9)).cell? ⟨b,off+j*2,none⟩=some (.string (strB p.1))∧(((w.alloc (.cells #[.slice none 0 0] 81)).alloc (.cells #[.slice ao fs.length cap] 22)).alloc (.cells #[.string (strB name)] 9)).cell? ⟨b,off+j*2+1,none⟩=some (.string (strB p.2)):=by
  rcases hc with hc | ⟨b,off,e1,_,e2,e3⟩
  ·exact .inl hc
  ·exact .inr ⟨b,off,e1,by omega,by omega,fun j p hp=>⟨(hB0.cell (p:=⟨b,off+j*2,none⟩) e2).trans (e3 j p hp).1,(hB0.cell (p:=⟨b,off+j*2+1,none⟩) e2).trans (e3 j p hp).2⟩⟩
 obtain⟨W0,hW0⟩:∃W0,(((w.alloc (.cells #[.slice none 0 0] 81)).alloc (.cells #[.slice ao fs.length cap] 22)).alloc (.cells #[.string (strB name)] 9))=W0:=⟨_,rfl⟩
 have hsz:W0.heap.size=w.heap.size+3:=by rw [← hW0];simp
 rw [hW0]at bN bL2 bO2 hB0 hc2 ⊢
 clear hc bO bL
 refine wpIn_rangeFunc_ownG hro h1 (gf:=153) (lb:=#[.pointer (some ⟨w.heap.size+1,0,none⟩),.pointer (some ⟨w.heap.size+2,0,none⟩)]) rfl hL1 (enters_of Tryz.func153 (by kernel_rfl) rfl)
  (lines_stops F (n-1) hL1 hro (by omega) (w.heap.size+1) (w.heap.size+2) (w.heap.size+3) w.heap.size ao cap fs name hl (by omega) (by omega) (by omega) W0 (by omega) bL2.cell bN.cell hc2) KpB.trans (KpB.put (by omega)) (Below.refl _ _) (fun _=>rfl)
  (fun pre W=>((∃v,Boxed W w.heap.size 81 v∧W.ownsRow (w.heap.size+3) 9 1 v pre.length (rowS pre)∧True)∧Below w.heap.size w W)∧w.heap.size+3≤W.heap.size)
  (fun _ _ _=>False)
  (OwnFrom.and (OwnFrom.and (Own.from (holdsRow_own (w.heap.size+3) w.heap.size 81 9 1 (fun pre:List (List UInt8)=>pre.length) (fun pre=>rowS pre) (fun _ _=>True)) _) (ownFrom_below (zR _) (by omega))) (fun s A B row hs hg _=>Nat.le_trans hs hg.size))
  (fun _ _ _ _ _ hs _ _=>hs)
  ⟨⟨⟨_,bO2,World.ownsRow_nil _ _ _ _,trivial⟩,hB0⟩,by omega⟩
  (fun x=>{ tmps:=#[.slice ao fs.length cap,.string (strB name),undef,undef,.slice none 0 0,.pointer (some ⟨w.heap.size,0,none⟩),.string (strB x),.slice ao fs.length cap,.string (strB name),.func (.func 153) #[] #[.pointer (some ⟨w.heap.size+1,0,none⟩),.pointer (some ⟨w.heap.size+2,0,none⟩)],.string (strB x),undef,undef,undef,undef,undef],defers:=[] }) ?assign ?body ?done ?stop
 case assign =>
  intro l x W K hK
  gi_wp2
  exact hK
 case body =>
  rintro l pre x W ⟨⟨⟨v,hv,hrow,_⟩,hB⟩,hws⟩ hlt
  have hc:=hv.cell
  gi_wp2_with (gi_at_builtin;refine wpListIn_append_own _ rfl _ _ 81 rfl (w.heap.size+3) 9 i0 (.string ⟨#[]⟩) 1 16 Tryz.underlying81 hi hz0 hz1 hz2 rfl (by decide) _ _ _ rfl (hrow.alloc _) ⟨W.heap.size,0,none⟩ 1 1 [.string (strB x)] rfl rfl (cell_one_new _ _ _) (by simp [Value.oneCell']) (by unfold maxLen;omega) (by omega) (by simp;omega) ?_;intro v' w1 hown' hgrow _;obtain⟨g',cap',rfl⟩:=ownsRow_succ hown';obtain⟨hv1,hv2,hr2,hk2,hb2⟩:=hv.appended (by decide) (ownsRow_lowF hrow (show w.heap.size≤w.heap.size+3 by omega)) (by omega) (zR _) (ownsRow_lowF hown' (show w.heap.size≤w.heap.size+3 by omega)) hgrow;have hc1:=hv1.cell;have hf1:=hv1.frozen)
  have hr3:=hown'.kept (grownBy_setCell' w1 w.heap.size (.slice (some ⟨g',0,none⟩) (pre.length+1) cap')) (.inr (hv1.not_row (by decide) hown').symm)
  refine⟨hk2.from _,⟨hb2.size,fun b hb1 hbx=>?_⟩,⟨⟨_,hv2,by rw [List.length_append,rowS,List.map_append];exact hr3,trivial⟩,hB.trans hb2⟩,Nat.le_trans hws hb2.size⟩
  have e1:=Below.heap_setCell w1 ⟨w.heap.size,0,none⟩ (.slice (some ⟨g',0,none⟩) (pre.length+1) cap') b hbx
  have e2:=hgrow.block b (by simp;omega) (fun e=>by have:=(World.ownsRow.lt hrow b e.symm).1;omega)
  have e3:=Below.heap_alloc W (.cells #[.string (strB x)] 9) b (by omega)
  exact e1.trans (e2.trans e3)
 case done =>
  rintro D ys W hD rfl ⟨⟨⟨v,hv,hrow,_⟩,hB⟩,_⟩ hK
  have hc:=hv.cell
  gi_wp2
  refine⟨by simp,.inl ⟨_,_,rfl,run_takeDeferred hK,?_⟩⟩
  exact⟨_,results_tmp rfl _ _ _,⟨v,rfl,ownsRow_lowF (ownsRow_putObj hrow _ hK rfl) (by omega)⟩,hB.trans (belowK_b (w:=w) (zR _) W D _ _ (by omega) hK rfl rfl)⟩
 case stop =>
  rintro D c pre W _ _ h _
  exact h.elim
theorem hall_any (lo:Nat) (v:Value) (fs:List Fld) (name:List UInt8) (w:World) (h:Flds lo w v fs) (hl:fs.length≤100000) :
  Calls Tryz.prog 73 #[v,.string (strB name)] w fun e w'=>(∃u,e=.returned u∧w'.ownsRow w.heap.size 9 1 u (allH fs name).length (rowS (allH fs name)))∧Below w.heap.size w w':=
 callsIn_wide.1 (all_in Fence.wide 3 trivial trivial trivial rfl (zR _) lo v fs name w h hl)
end Go.Proofs.YtfaedmbfabfmeaaGreatDoor
