/- Plain facts about the bytes that groups of four characters stand for. · The contract of bare.Decode. · The contract of bare.readBytes. · The contract of bare.readNumber. · The contract of bare.readString. · The contract of bare.Read. -/
import Derived.Test.YtfaedmbfabfmeaaGreatDoorYMBarC
import Derived.Test.YtfaedmbfabfmeaaGreatDoorYMBarA
import Derived.Laws.CopyOwn
import Derived.Lib.TrimByte
import Derived.Laws.MakeOwn
import Derived.StillTailTactics
import Derived.IntWalk
import Derived.Lib.IndexLaws
set_option linter.unusedSimpArgs false
set_option maxRecDepth 100000
set_option maxHeartbeats 4000000
namespace Go.Proofs.YtfaedmbfabfmeaaGreatDoor
def by3 (v:Nat):List UInt8:=[b0 v,b1 v,b2 v]
def rawG:List UInt8→List UInt8
 | a :: b :: c :: d :: r=>by3 (gN [a,b,c,d] 4)++rawG r
 | []=>[]
 | l=>by3 (gN l 4)
theorem rawG_step (l:List UInt8) (h:l≠[]):rawG l=by3 (gN (l.take 4) 4)++rawG (l.drop 4):=by
 match l,h with
 | [a],_=>simp [rawG]
 | [a,b],_=>simp [rawG]
 | [a,b,c],_=>simp [rawG]
 | a :: b :: c :: d :: r,_=>simp [rawG]
theorem rawG_len:∀(n:Nat) (l:List UInt8),l.length≤n→(rawG l).length=(l.length+3) / 4*3
 | 0,l,h=>by
  have:l=[]:=List.eq_nil_of_length_eq_zero (by omega)
  subst this;rfl
 | n+1,l,h=>by
  by_cases hl:l=[]
  ·subst hl;rfl
  ·have hp:0<l.length:=List.length_pos_iff.2 hl
   rw [rawG_step l hl,List.length_append,rawG_len n (l.drop 4) (by rw [List.length_drop];omega),List.length_drop]
   simp only [by3,List.length_cons,List.length_nil]
   omega
theorem rawG_app:∀(k:Nat) (l:List UInt8),4*k≤l.length→rawG l=rawG (l.take (4*k))++rawG (l.drop (4*k))
 | 0,l,_=>by simp [rawG]
 | k+1,l,h=>by
  have hl:l≠[]:=by intro e;subst e;simp at h
  have hl2:l.take (4*(k+1))≠[]:=by
   intro e
   have:=congrArg List.length e
   rw [List.length_take,List.length_nil]at this
   omega
  rw [rawG_step l hl,rawG_step (l.take (4*(k+1))) hl2,rawG_app k (l.drop 4) (by rw [List.length_drop];omega)]
  rw [List.take_take,List.drop_take,List.drop_drop,List.append_assoc]
  rw [show min 4 (4*(k+1))=4 by omega,show 4*(k+1)-4=4*k by omega,show 4+4*k=4*(k+1)by omega]
def rawL (l:List UInt8):List UInt8:=(rawG l).take (l.length*3 / 4)
def Filled (l:List UInt8) (k:Nat) (cur:List UInt8):Prop:=cur.length=l.length*3 / 4∧∃tail,cur=(rawG (l.take (4*k))).take (l.length*3 / 4)++tail
theorem filled_zero (l:List UInt8):Filled l 0 (List.replicate (l.length*3 / 4) 0):=⟨by simp,_,by simp [rawG];rfl⟩
theorem filled_step {l cur:List UInt8} {k:Nat} (h:Filled l k cur) (hk:4*k<l.length) :
  Filled l (k+1) (splice cur (3*k) ((by3 (gN ((l.drop (4*k)).take 4) 4)).take (l.length*3 / 4-3*k))):=by
 obtain⟨h1,tail,h2⟩:=h
 have hlen:(rawG (l.take (4*k))).length=3*k:=by
  rw [rawG_len _ _ (zR _),List.length_take];omega
 have hfull:rawG (l.take (4*(k+1)))=rawG (l.take (4*k))++by3 (gN ((l.drop (4*k)).take 4) 4):=by
  rw [rawG_app k (l.take (4*(k+1))) (by rw [List.length_take];omega),List.take_take,List.drop_take]
  rw [show min (4*k) (4*(k+1))=4*k by omega,show 4*(k+1)-4*k=4 by omega]
  congr 1
  have hne:(l.drop (4*k)).take 4≠[]:=by
   intro e
   have:=congrArg List.length e
   rw [List.length_take,List.length_drop,List.length_nil]at this
   omega
  rw [rawG_step _ hne,List.take_take,List.drop_take]
  simp [rawG]
 have h3:((by3 (gN ((l.drop (4*k)).take 4) 4)).take (l.length*3 / 4-3*k)).length=min (l.length*3 / 4-3*k) 3:=by
  rw [List.length_take]<;>rfl
 refine⟨?_,?_⟩
 ·rw [length_splice _ _ _ (by omega)];exact h1
 ·refine⟨tail.drop (min (l.length*3 / 4-3*k) 3),?_⟩
  rw [hfull,splice,h2,List.take_of_length_le (show(rawG (l.take (4*k))).length≤l.length*3 / 4 by omega),h3]
  rw [List.take_append,List.take_append,List.drop_append,hlen]
  rw [List.take_of_length_le (show(rawG (l.take (4*k))).length≤3*k by omega),List.take_of_length_le (show(rawG (l.take (4*k))).length≤l.length*3 / 4 by omega)]
  rw [List.drop_of_length_le (show(rawG (l.take (4*k))).length≤3*k+min (l.length*3 / 4-3*k) 3 by omega)]
  simp
theorem filled_end {l cur:List UInt8} {k:Nat} (h:Filled l k cur) (hk:l.length≤4*k):cur=rawL l:=by
 obtain⟨h1,tail,h2⟩:=h
 rw [List.take_of_length_le hk]at h2
 have h3:((rawG l).take (l.length*3 / 4)).length=l.length*3 / 4:=by
  rw [List.length_take,rawG_len _ _ (zR _)];omega
 have h4:tail=[]:=by
  have:=congrArg List.length h2
  rw [List.length_append,h3]at this
  exact List.eq_nil_of_length_eq_zero (by omega)
 rw [h2,h4,List.append_nil]
 rfl
def decL (s:List UInt8):Option (List UInt8):=if encL (rawL (Lib.trimRightB s 61))=s then some (rawL (Lib.trimRightB s 61))else none
theorem trimRightB_le (l:List UInt8) (c:UInt8):(Lib.trimRightB l c).length≤l.length:=by
  unfold Lib.trimRightB
  rw [List.length_reverse]
  have:(l.reverse.dropWhile (·==c)).length≤l.reverse.length:=(List.dropWhile_sublist _).length_le
  simpa using this
theorem rawL_le (l:List UInt8):(rawL l).length≤l.length:=by
 unfold rawL
 rw [List.length_take]
 omega
end Go.Proofs.YtfaedmbfabfmeaaGreatDoor
namespace Go.Proofs.YtfaedmbfabfmeaaGreatDoor
open Go.RowKit
def decV (o:Option (List UInt8)):Value:=match o with
 | some b=>.tuple #[.string (strB b),.int .i64 0]
 | none=>.tuple #[.string (strB []),.int .i64 2]
theorem wrap_quo (j o:Nat) (h:j<1000000) (ho:(j:Int) / 4*3=(o:Int)):IntKind.i64.wrap (IntKind.i64.wrap ((j:Int) / 4)*3)=(o:Int):=by
 have h1:IntKind.i64.wrap ((j:Int) / 4)=(j:Int) / 4:=IntWalk.i64_in _ (by omega)
 rw [h1,ho]
 exact IntWalk.i64_in _ (by omega)
theorem splice_map (cur l:List UInt8) (o:Nat):splice (cur.map u8V) o (l.map u8V)=(splice cur o l).map u8V:=by
 simp [splice,List.map_take,List.map_drop]
theorem decode_any (s:ByteArray) (w:World) (hs:s.size≤100000) (hA:Alph w) :
  Calls Tryz.prog 267 #[.string s] w fun e w'=>e=.returned (decV (decL s.data.toList))∧Below w.heap.size w w':=by
 have HA:=zH hA
 clear hA
 have Hz:=zH size_u8
 have cT:=Tryz.strings_TrimRight_one s 61 (by decide) w (by omega)
 obtain⟨t,ht⟩:∃t:ByteArray,t=⟨(Lib.trimRightB s.data.toList 61).toArray⟩:=⟨_,rfl⟩
 rw [← ht]at cT
 have Ht:Hid (t.data.toList=Lib.trimRightB s.data.toList 61):=zH (by rw [ht])
 have hts:t.size≤100000:=by
  have:=trimRightB_le s.data.toList 61
  rw [← Lib.size_eq]at this
  rw [Lib.size_eq,Ht.out]
  omega
 clear ht
 have HN:Hid ((t.size:Int)*3 / 4=((t.size*3 / 4:Nat):Int)):=zH (by omega)
 obtain⟨N,hN⟩:∃N,t.size*3 / 4=N:=⟨_,rfl⟩
 rw [hN]at HN
 have hN2:N≤100000:=by omega
 have HN2:=zH hN
 clear hN
 obtain⟨i0,hi,hz0,hz1,hz2⟩:=info_parts info_u8
 have hmk:=run_makeSlice (P:=Tryz.prog) w 23 5 i0 (.int .u8 0) Tryz.underlying23 hi hz0 .i64 .i64 (N:Int) (N:Int) (by omega) (by omega) (by rw [hz1];omega) (by rw [hz2];omega) (by omega)
 rw [hz1,Int.toNat_natCast,Nat.mul_one]at hmk
 obtain⟨M,hM⟩:∃M,madeCells (Value.int .u8 0).cells N=M:=⟨_,rfl⟩
 rw [hM]at hmk
 have HM:Hid (M=((List.replicate N (0:UInt8)).map u8V).toArray):=zH (by
  rw [← hM]
  apply Array.ext
  ·simp [madeCells]
  ·intro i h1 h2
   simp [madeCells,u8V,Value.cells,Nat.mod_one])
 have hb0:Below w.heap.size w (w.alloc (.cells M 5)):=(Below.refl _ _).alloc (zR _) _
 have hg0:=heap_alloc_new w (.cells M 5)
 have Hg0:Hid ((w.alloc (.cells M 5)).heap[w.heap.size]? = some (.cells ((List.replicate N (0:UInt8)).map u8V).toArray 5 (0,0))):=zH (by rw [hg0,HM.out])
 clear hM hg0 HM hi hz0 hz1 hz2
 have hq:=HN.out
 replace cT:=cT.mono (R':=fun e w'=>e=.returned (.string t)∧w=w') (fun e w' h=>⟨h.1,h.2.symm⟩)
 go_enter Tryz.func267,Tryz.ntmps267
 go_wp2_with (go_at_call 268;refine cT.mono ?_;rintro e w' ⟨rfl,rfl⟩)
 go_loopw [6] (fun i wr=>∃(j k:Nat) (cur:List UInt8),i=.int .i64 j∧Hid (j=4*k∧Filled t.data.toList k cur∧wr.heap[w.heap.size]? = some (.cells (cur.map u8V).toArray 5 (0,0)))∧j≤t.size+4∧Below w.heap.size w wr) (fun i _=>t.size-(intOf i).toNat)
 case atStart =>
  refine⟨0,0,_,rfl,zH ⟨rfl,filled_zero _,?_⟩,by omega,hb0⟩
  rw [← Lib.size_eq,HN2.out]
  exact Hg0.out
 case round =>
  obtain⟨j,k,cur,rfl,HI,hj,hb⟩:=hrel
  clear hq hmk Hg0 hb0 cT
  by_cases hlt:j<t.size
  ·have HAr:Hid (Alph wr):=zH (HA.out.below hb)
   have Hx:Hid ((t.extract j (min ((j:Int)+4) (t.size:Int)).toNat).data.toList=(t.data.toList.drop j).take 4):=zH (by
    rw [Lib.extract_data]
    have e:(min ((j:Int)+4) (t.size:Int)).toNat-j=min 4 (t.size-j):=by omega
    rw [e]
    rcases Nat.le_total 4 (t.size-j)with h | h
    ·rw [Nat.min_eq_left h]
    ·rw [Nat.min_eq_right h,List.take_of_length_le (by rw [List.length_drop,← Lib.size_eq];exact zR _),List.take_of_length_le (by rw [List.length_drop,← Lib.size_eq];exact h)])
   have hx4:(t.extract j (min ((j:Int)+4) (t.size:Int)).toNat).size≤4:=by
    rw [Lib.size_eq,Hx.out,List.length_take];omega
   have cB:=bytesOf_any (t.extract j (min ((j:Int)+4) (t.size:Int)).toNat) wr hx4 HAr.out
   rw [Hx.out]at cB
   clear hx4 Hx
   obtain⟨v,hv⟩:∃v,gN ((t.data.toList.drop j).take 4) 4=v:=⟨_,rfl⟩
   rw [hv]at cB
   obtain⟨o,ho⟩:∃o,o=3*k:=⟨_,rfl⟩
   have hlen:=HI.out.2.1.1
   rw [← Lib.size_eq,HN2.out]at hlen
   have Hlen:=zH hlen
   have hoN:o≤N:=by have:=HI.out.1;have:=HN2.out;omega
   have HO:Hid ((j:Int) / 4*3=(o:Int)):=zH (by have:=HI.out.1;omega)
   have HF:Hid (Filled t.data.toList (k+1) (splice cur o ((by3 v).take (N-o)))):=zH (by
    have:=filled_step HI.out.2.1 (by rw [← Lib.size_eq];have:=HI.out.1;omega)
    rw [← HI.out.1,hv,← Lib.size_eq,HN2.out,← ho]at this
    exact this)
   have HJ:Hid (j+4=4*(k+1)):=zH (by have:=HI.out.1;omega)
   have Hg:=zH HI.out.2.2
   clear HI hv ho hlen
   simp only [u8V]at cB
   go_wp2_with fail
   refine cB.mono ?_
   rintro e w1 ⟨rfl,hb1⟩
   clear cB
   have hgw:w.heap.size<wr.heap.size:=(Array.getElem?_eq_some_iff.1 Hg.out).1
   have Hg1:=zH ((hb1.block _ hgw).trans Hg.out)
   have hb1':=hb.trans (hb1.mono hb.size)
   have hgw1:w.heap.size<w1.heap.size:=Nat.lt_of_lt_of_le hgw hb1.size
   clear hb1 hb Hg
   obtain⟨x0,h0⟩:∃x,b0 v=x:=⟨_,rfl⟩
   obtain⟨x1,h1⟩:∃x,b1 v=x:=⟨_,rfl⟩
   obtain⟨x2,h2⟩:∃x,b2 v=x:=⟨_,rfl⟩
   rw [h0,h1,h2]
   have Hv:Hid (by3 v=[x0,x1,x2]):=zH (by rw [by3,h0,h1,h2])
   clear h0 h1 h2
   go_wp2_with fail
   refine wp_region_still_tail 6 (by kernel_rfl) (by kernel_rfl) ?_
   change wpStill _ _ (World.drew _) (fun a'=>wpList _ _ _ _ a' (World.drew _)) _ _
   generalize hW:World.drew (w1.alloc (.cells #[.int .u8 (x0.toNat:Int),.int .u8 (x1.toNat:Int),.int .u8 (x2.toNat:Int)] 289))=W
   have hb2:Below w.heap.size w W:=by
    rw [← hW]
    exact(hb1'.alloc (by omega) _).drew
   have Hg2:Hid (W.heap[w.heap.size]? = some (.cells (cur.map u8V).toArray 5 (0,0))):=zH (by
    rw [← hW]
    exact(Below.heap_alloc w1 _ _ hgw1).trans Hg1.out)
   have Hc:Hid (∀(i:Nat) u,([x0,x1,x2].map u8V)[i]? = some u→W.cell? ((⟨w1.heap.size,0,none⟩:Addr).add i)=some u):=zH (by
    rw [← hW]
    exact cells_new w1 ([x0,x1,x2].map u8V) 289)
   clear hW hb1' Hg1
   have hq:IntKind.i64.wrap (IntKind.i64.wrap ((j:Int) / 4)*3)=(o:Int):=wrap_quo j o (by omega) HO.out
   have hoi:(o:Int)≤(N:Int):=by omega
   have hcell:∀(i:Nat) u,((([x0,x1,x2]:List UInt8).take (N-o)).map u8V)[i]? = some u→W.cell? ((⟨w1.heap.size,0,none⟩:Addr).add i)=some u:=by
    intro i u hu
    refine Hc.out i u ?_
    rw [List.map_take,List.getElem?_take]at hu
    split at hu
    ·exact hu
    ·cases hu
   have Hcell:=zH hcell
   clear hcell Hc
   simp only [List.take_succ_cons,List.take_zero,List.drop_succ_cons,List.drop_zero]
   by_cases hlast:o=N
   ·subst hlast
    have Hz0:Hid (o-o=0):=zH (by omega)
    repeat still_step
    refine wpStill_nil ?_
    refine wpList_copy_splice rfl (.tmp 35) (.tmp 36) 23 23 rfl 5 Tryz.underlying23 Hz.out _ _ _ _ _ _ rfl rfl w.heap.size o (cur.map u8V) 5 Hg2.out ((([x0,x1,x2]:List UInt8).take (o-o)).map u8V) (by simp only [List.length_map,List.length_take,List.length_cons,List.length_nil];show _=min _ _;omega) (fun h=>absurd h (by rw [Hz0.out];simp)) (by have:=Hlen.out;simp only [List.length_map,List.length_take,List.length_cons,List.length_nil];omega) (by
     intro u hu
     obtain⟨c,_,rfl⟩:=List.mem_map.1 hu
     rfl) w.heap.size w hb2 (zR _) ?_
    intro w3 Hg3 hb3
    clear hq hoi Hg2 hb2 Hcell
    go_wp2
    go_roundw
    case rel =>
     refine⟨j+4,k+1,_,by go_num,zH ⟨HJ.out,HF.out,?_⟩,by omega,hb3⟩
     rw [Hg3.out,Hv.out,splice_map]
    case measure=>simp [intOf];omega
   ·have hlo:¬(N=o):=by omega
    repeat still_step
    refine wpStill_nil ?_
    refine wpList_copy_splice rfl (.tmp 35) (.tmp 36) 23 23 rfl 5 Tryz.underlying23 Hz.out _ _ _ _ _ _ rfl rfl w.heap.size o (cur.map u8V) 5 Hg2.out ((([x0,x1,x2]:List UInt8).take (N-o)).map u8V) (by simp only [List.length_map,List.length_take,List.length_cons,List.length_nil];show _=min _ _;omega) (fun _=>⟨rfl,_,rfl,Hcell.out⟩) (by have:=Hlen.out;simp only [List.length_map,List.length_take,List.length_cons,List.length_nil];omega) (by
     intro u hu
     obtain⟨c,_,rfl⟩:=List.mem_map.1 hu
     rfl) w.heap.size w hb2 (zR _) ?_
    intro w3 Hg3 hb3
    clear hq hoi Hg2 hb2 Hcell
    go_wp2
    go_roundw
    case rel =>
     refine⟨j+4,k+1,_,by go_num,zH ⟨HJ.out,HF.out,?_⟩,by omega,hb3⟩
     rw [Hg3.out,Hv.out,splice_map]
    case measure=>simp [intOf];omega
  ·have hcl:cur=rawL t.data.toList:=filled_end HI.out.2.1 (by rw [← Lib.size_eq];have:=HI.out.1;omega)
   have hlen:=HI.out.2.1.1
   rw [← Lib.size_eq,HN2.out]at hlen
   have Hcv:Hid ((convert 23 9 (.slice (some ⟨w.heap.size,0,none⟩) N N)).run Tryz.prog wr=.ok (.string (strB (rawL t.data.toList))) wr):=zH (by
    rw [← hcl]
    have:=run_convert_bytes_back (P:=Tryz.prog) wr 23 9 5 ⟨w.heap.size,0,none⟩ N cur Tryz.underlying23 Tryz.underlying5 Tryz.underlying9 (by
     intro i hi
     rw [add_none,cell_of_row wr w.heap.size i _ _ _ HI.out.2.2]
     simp [hi,u8V])
    rw [hlen]at this
    exact this)
   clear HI hlen hcl
   have hcv:=Hcv.out
   have Hsz:Hid ((strB (rawL t.data.toList)).size≤1000000):=zH (by
    have:=rawL_le t.data.toList
    rw [← Lib.size_eq]at this
    rw [strB_size];omega)
   have cE:=encode_any (strB (rawL t.data.toList)) wr Hsz.out (HA.out.below hb)
   rw [strB_data]at cE
   have Hd:Hid (decL s.data.toList=if encL (rawL t.data.toList)=s.data.toList then some (rawL t.data.toList)else none):=zH (by rw [decL,← Ht.out])
   generalize rawL t.data.toList=q at hcv cE Hd Hsz Hcv
   by_cases he:encL q=s.data.toList
   ·have Hd2:Hid (decL s.data.toList=some q):=zH (by rw [Hd.out,if_pos he])
    have heq:(strB (encL q)).toList=s.toList:=by rw [Lib.toList_data,Lib.toList_data,strB_data,he]
    have heq2:((strB (encL q)).toList==s.toList)=true:=by rw [heq];simp
    clear he heq
    generalize strB (encL q)=z at cE heq2
    go_wp2_with (go_at_call 270;refine cE.mono ?_;rintro e w1 ⟨rfl,hb1⟩)
    go_ret2
    exact⟨by rw [Hd2.out]<;>rfl,hb.trans (hb1.mono hb.size)⟩
   ·have Hd2:Hid (decL s.data.toList=none):=zH (by rw [Hd.out,if_neg he])
    have heq:¬(strB (encL q)).toList=s.toList:=by rw [Lib.toList_data,Lib.toList_data,strB_data];exact he
    have heq2:((strB (encL q)).toList==s.toList)=false:=by simpa using heq
    clear he heq
    generalize strB (encL q)=z at cE heq2
    go_wp2_with (go_at_call 270;refine cE.mono ?_;rintro e w1 ⟨rfl,hb1⟩)
    go_ret2
    exact⟨by rw [Hd2.out]<;>rfl,hb.trans (hb1.mono hb.size)⟩
abbrev zeroBare:Obj:=.cells #[.int .i64 0,.int .i64 0,.string ⟨#[]⟩] 113
theorem no_cells (w w1:World) (hb:Below (w.alloc zeroBare).heap.size (w.alloc zeroBare) w1):(w1.cell? ⟨w.heap.size,0,none⟩=some (.int .i64 0)∧w1.cell? ⟨w.heap.size,1,none⟩=some (.int .i64 0)∧w1.cell? ⟨w.heap.size,2,none⟩=some (.string ⟨#[]⟩))∧(w1.frozen? ⟨w.heap.size,0,none⟩=false∧w1.frozen? ⟨w.heap.size,1,none⟩=false∧w1.frozen? ⟨w.heap.size,2,none⟩=false):=by
 refine⟨⟨?_,?_,?_⟩,?_,?_,?_⟩
 ·rw [hb.cell (p:=⟨w.heap.size,0,none⟩) (by simp)];simp
 ·rw [hb.cell (p:=⟨w.heap.size,1,none⟩) (by simp)];simp
 ·rw [hb.cell (p:=⟨w.heap.size,2,none⟩) (by simp)];simp
 ·rw [hb.frozen (p:=⟨w.heap.size,0,none⟩) (by simp)];simp
 ·rw [hb.frozen (p:=⟨w.heap.size,1,none⟩) (by simp)];simp
 ·rw [hb.frozen (p:=⟨w.heap.size,2,none⟩) (by simp)];simp
def readBytesL (l:List UInt8):Option Got:=
 if Lib.indexByte (l.drop 1) 58=-1 then none
 else match decL ((l.drop 1).take (Lib.indexByte (l.drop 1) 58).toNat)with
  | none=>none
  | some b=>some ⟨5,0,b,(Lib.indexByte (l.drop 1) 58).toNat+2⟩
theorem readBytes_any (s:ByteArray) (w:World) (h0:0<s.size) (hs:s.size≤100000) (hA:Alph w) :
  Calls Tryz.prog 259 #[.string s] w (gotPost (gotV (readBytesL s.data.toList)) w):=by
 have HA:=zH hA
 clear hA
 have cN:=fun W=>noItem_any W
 have hb0:Below w.heap.size w (w.alloc zeroBare):=(Below.refl _ _).alloc (zR _) _
 have hx:(s.extract 1 s.size).data.toList=s.data.toList.drop 1:=Lib.extract_to_end s 1
 have hxs:(s.extract 1 s.size).size≤100000:=by rw [Lib.size_eq,hx,List.length_drop,← Lib.size_eq];omega
 have cC:=fun W=>cut_any (s.extract 1 s.size) 58 W hxs
 rw [hx]at cC
 by_cases hi:Lib.indexByte (s.data.toList.drop 1) 58=-1
 ·have hr:readBytesL s.data.toList=none:=by rw [readBytesL,if_pos hi]
  have hv:cutV (s.data.toList.drop 1) 58=.tuple #[.string (s.extract 1 s.size),.string ⟨#[]⟩,.bool false]:=by rw [cutV,if_pos hi,← hx,strB_of]
  rw [hr]
  rw [hv]at cC
  clear hr hv hi hx hxs
  go_enter Tryz.func259,Tryz.ntmps259
  go_wp2_with fail
  refine(cC _).mono ?_
  rintro e w1 ⟨rfl,hb1⟩
  go_wp2_with fail
  refine(cN _).mono ?_
  rintro e w2 ⟨rfl,hb2⟩
  have hb12:=hb1.trans (hb2.mono hb1.size)
  obtain⟨⟨p0,p1,p2⟩,f0,f1,f2⟩:=no_cells w w2 hb12
  have hb3:=hb0.trans (hb12.mono hb0.size)
  clear hb1 hb2 hb12
  simp only [gotV]
  go_wp2
  exact bodyPost_ret (v:=gotV none) (by simp [results,Tryz.results259,go_sem,gotV,p0,p1,p2]) rfl ⟨rfl,((hb3.setCell (by simp) _).setCell (by simp) _).setCell (by simp) _⟩
 ·obtain⟨i0,i1⟩:=index_le _ _ hi
  obtain⟨o,ho⟩:=Int.eq_ofNat_of_zero_le i0
  have hv:cutV (s.data.toList.drop 1) 58=.tuple #[.string (strB ((s.data.toList.drop 1).take o)),.string (strB ((s.data.toList.drop 1).drop (o+1))),.bool true]:=by
   rw [cutV,if_neg hi,ho,Int.toNat_natCast]
  rw [hv]at cC
  have hr:readBytesL s.data.toList=match decL ((s.data.toList.drop 1).take o)with
    | none=>none
    | some b=>some ⟨5,0,b,o+2⟩:=by rw [readBytesL,if_neg hi,ho,Int.toNat_natCast]
  rw [hr]
  have hol:((s.data.toList.drop 1).take o).length=o:=by
   rw [ho,Int.toNat_natCast]at i1
   rw [List.length_take];omega
  have hoz:(strB ((s.data.toList.drop 1).take o)).size=o:=by rw [strB_size,hol]
  have hob:o≤100000:=by
   rw [ho,Int.toNat_natCast,← hx,← Lib.size_eq]at i1;omega
  have cD:=fun W hW=>decode_any (strB ((s.data.toList.drop 1).take o)) W (by omega) hW
  rw [strB_data]at cD
  generalize strB ((s.data.toList.drop 1).drop (o+1))=z at cC
  generalize decL ((s.data.toList.drop 1).take o)=r at cD
  generalize strB ((s.data.toList.drop 1).take o)=t at cC cD hoz
  have Hoz:=zH hoz
  clear hv hr hi i0 i1 ho hol hx hxs hoz
  cases r with
  | none =>
   simp only [decV]at cD
   show Calls _ _ _ _ (gotPost (gotV none) w)
   go_enter Tryz.func259,Tryz.ntmps259
   go_wp2_with fail
   refine(cC _).mono ?_
   rintro e w1 ⟨rfl,hb1⟩
   go_wp2_with fail
   refine(cD _ (HA.out.below (hb0.trans (hb1.mono hb0.size)))).mono ?_
   rintro e w2 ⟨rfl,hb2⟩
   go_wp2_with fail
   refine(cN _).mono ?_
   rintro e w3 ⟨rfl,hb3⟩
   have hb12:=hb1.trans (hb2.mono hb1.size)
   have hb13:=hb12.trans (hb3.mono hb12.size)
   obtain⟨⟨p0,p1,p2⟩,f0,f1,f2⟩:=no_cells w w3 hb13
   have hb4:=hb0.trans (hb13.mono hb0.size)
   clear hb1 hb2 hb3 hb12 hb13
   simp only [gotV]
   go_wp2
   exact bodyPost_ret (v:=gotV none) (by simp [results,Tryz.results259,go_sem,gotV,p0,p1,p2]) rfl ⟨rfl,((hb4.setCell (by simp) _).setCell (by simp) _).setCell (by simp) _⟩
  | some b =>
   simp only [decV]at cD
   show Calls _ _ _ _ (gotPost (gotV (some ⟨5,0,b,o+2⟩)) w)
   have ho2:=Hoz.out
   go_enter Tryz.func259,Tryz.ntmps259
   go_wp2_with fail
   refine(cC _).mono ?_
   rintro e w1 ⟨rfl,hb1⟩
   go_wp2_with fail
   refine(cD _ (HA.out.below (hb0.trans (hb1.mono hb0.size)))).mono ?_
   rintro e w2 ⟨rfl,hb2⟩
   have hb12:=hb1.trans (hb2.mono hb1.size)
   obtain⟨⟨p0,p1,p2⟩,f0,f1,f2⟩:=no_cells w w2 hb12
   have hb4:=hb0.trans (hb12.mono hb0.size)
   clear hb1 hb2 hb12
   go_wp2
   exact bodyPost_ret (v:=gotV (some ⟨5,0,b,o+2⟩)) (by simp [results,Tryz.results259,go_sem,gotV,p0,p1,p2]) rfl ⟨rfl,((hb4.setCell (by simp) _).setCell (by simp) _).setCell (by simp) _⟩
def numTail (b:Nat) (sg:Int) (l:List UInt8):Option Got:=
 if (ldig (l.drop b)).length=0∨15<(ldig (l.drop b)).length then none
 else if (l.drop (b+(ldig (l.drop b)).length)).head? = some 46 then
  if 12<(ldig (l.drop b)).length∨(ldig (l.drop (b+(ldig (l.drop b)).length+1))).length=0∨3<(ldig (l.drop (b+(ldig (l.drop b)).length+1))).length then none
  else some ⟨2,sg*numL (ldig (l.drop b)++(ldig (l.drop (b+(ldig (l.drop b)).length+1))++[48,48]).take 3),[],b+(ldig (l.drop b)).length+1+(ldig (l.drop (b+(ldig (l.drop b)).length+1))).length⟩
 else some ⟨1,sg*numL (ldig (l.drop b)),[],b+(ldig (l.drop b)).length⟩
def readNumL (l:List UInt8):Option Got:=if l.head? = some 45 then numTail 1 (-1) l else numTail 0 1 l
theorem ldig_all (l:List UInt8):(ldig l).all (fun c=>digI c.toNat)=true:=by
 unfold ldig
 rw [List.all_eq_true]
 intro x hx
 exact List.all_eq_true.1 (List.all_takeWhile) x hx
theorem ldig_len_le (l:List UInt8):(ldig l).length≤l.length:=takeWhile_len_le _ l
theorem emp_of_size {z:ByteArray}:z.toList.isEmpty=decide (z.size=0):=by
 rw [Lib.toList_data,Lib.size_eq]
 cases z.data.toList<;>simp
theorem head_at (s:ByteArray) (k:Nat) (h:k<s.size):(s.data.toList.drop k).head? = some s[k]:=by rw [drop_cons_at s k h]<;>rfl
theorem i64_mul_sign (b:Nat) (sg m:Int) (hb:(b=0∧sg=1)∨(b=1∧sg=-1)) (h0:0≤m) (h1:m<1000000000000000):-1000000000000000<sg*m∧sg*m<1000000000000000:=by
 rcases hb with ⟨_,rfl⟩ | ⟨_,rfl⟩<;>omega
theorem numTail_none {b:Nat} {sg:Int} {l z:List UInt8} (hz:ldig (l.drop b)=z) (h:z.length=0∨15<z.length):numTail b sg l=none:=by
 rw [numTail,hz,if_pos h]
theorem numTail_int {b:Nat} {sg:Int} {l z:List UInt8} (hz:ldig (l.drop b)=z) (h1:1≤z.length) (h2:z.length≤15) (h3:(l.drop (b+z.length)).head?≠some 46):numTail b sg l=some ⟨1,sg*numL z,[],b+z.length⟩:=by
 rw [numTail,hz,if_neg (by omega),if_neg h3]
theorem numTail_bad {b:Nat} {sg:Int} {l z p:List UInt8} (hz:ldig (l.drop b)=z) (h1:1≤z.length) (h2:z.length≤15) (h3:(l.drop (b+z.length)).head? = some 46) (hp:ldig (l.drop (b+z.length+1))=p) (h:12<z.length∨p.length=0∨3<p.length):numTail b sg l=none:=by
 rw [numTail,hz,if_neg (by omega),if_pos h3,hp,if_pos h]
theorem numTail_dec {b:Nat} {sg:Int} {l z p:List UInt8} (hz:ldig (l.drop b)=z) (h1:1≤z.length) (h2:z.length≤12) (h3:(l.drop (b+z.length)).head? = some 46) (hp:ldig (l.drop (b+z.length+1))=p) (h4:1≤p.length) (h5:p.length≤3):numTail b sg l=some ⟨2,sg*numL (z++(p++[48,48]).take 3),[],b+z.length+1+p.length⟩:=by
 rw [numTail,hz,if_neg (by omega),if_pos h3,hp,if_neg (by omega)]
theorem pad_all (p:List UInt8) (h:p.all (fun c=>digI c.toNat)=true):((p++[48,48]).take 3).all (fun c=>digI c.toNat)=true:=by
 rw [List.all_eq_true]
 intro x hx
 have hx2:=List.mem_of_mem_take hx
 rcases List.mem_append.1 hx2 with h1 | h1
 ·exact List.all_eq_true.1 h x h1
 ·simp at h1;subst h1;decide
theorem numMain (s:ByteArray) (w:World) (h0:0<s.size) (hs:s.size≤100000) (b:Nat) (sg:Int) (t:ByteArray)
  (hbt:(b=0∧sg=1∧t=s∧(((s[0]'h0).toNat:Int)==45)=false)∨(b=1∧sg=-1∧t=s.extract 1 s.size∧(((s[0]'h0).toNat:Int)==45)=true)) :
  Calls Tryz.prog 255 #[.string s] w (gotPost (gotV (numTail b sg s.data.toList)) w):=by
 have cN:=fun W=>noItem_any W
 have hb0:Below w.heap.size w (w.alloc zeroBare):=(Below.refl _ _).alloc (zR _) _
 have htl:t.data.toList=s.data.toList.drop b:=by
  rcases hbt with ⟨rfl,_,rfl,_⟩ | ⟨rfl,_,rfl,_⟩
  ·simp
  ·exact Lib.extract_to_end s 1
 have htz:t.size=s.size-b:=by rw [Lib.size_eq,htl,List.length_drop,← Lib.size_eq]
 have cL:=fun W=>leadingDigits_any t W (by unfold maxLen;omega)
 rw [htl]at cL
 have zall:=ldig_all (s.data.toList.drop b)
 have zle:=ldig_len_le (s.data.toList.drop b)
 rw [List.length_drop,← Lib.size_eq]at zle
 have hbs:b≤1:=by rcases hbt with ⟨rfl,_⟩ | ⟨rfl,_⟩<;>omega
 generalize hz:ldig (s.data.toList.drop b)=z at cL zall zle
 generalize hZe:strB z=Z at cL
 have hZ:Z.size=z.length:=by rw [← hZe];exact strB_size z
 have hZd:Z.data.toList=z:=by rw [← hZe]<;>rfl
 have hemp:Z.toList.isEmpty=decide (Z.size=0):=emp_of_size
 by_cases hA:z.length=0
 ·rw [numTail_none hz (.inl hA)]
  rw [hZ,hA]at hemp
  simp only [decide_true]at hemp
  clear hz zall hA zle hZ htl htz hbs hZe hZd
  rcases hbt with ⟨rfl,rfl,rfl,hm⟩ | ⟨rfl,rfl,rfl,hm⟩
  all_goals
   go_enter Tryz.func255,Tryz.ntmps255
   go_wp2_with fail
   refine(cL _).mono ?_
   rintro e w1 ⟨rfl,rfl⟩
   go_wp2_with fail
   refine(cN _).mono ?_
   rintro e w2 ⟨rfl,hb2⟩
   obtain⟨⟨p0,p1,p2⟩,f0,f1,f2⟩:=no_cells w w2 hb2
   have hb3:=hb0.trans (hb2.mono hb0.size)
   clear hb2
   simp only [gotV]
   go_wp2
   exact bodyPost_ret (v:=gotV none) (by simp [results,Tryz.results255,go_sem,gotV,p0,p1,p2]) rfl ⟨rfl,((hb3.setCell (by simp) _).setCell (by simp) _).setCell (by simp) _⟩
 ·have hemp2:Z.toList.isEmpty=false:=by rw [hemp,hZ];simpa using hA
  clear hemp
  by_cases hB:15<z.length
  ·rw [numTail_none hz (.inr hB)]
   rw [← hZ]at hB
   clear hz zall hA zle hZ htl htz hbs hZe hZd
   rcases hbt with ⟨rfl,rfl,rfl,hm⟩ | ⟨rfl,rfl,rfl,hm⟩
   all_goals
    go_enter Tryz.func255,Tryz.ntmps255
    go_wp2_with fail
    refine(cL _).mono ?_
    rintro e w1 ⟨rfl,rfl⟩
    go_wp2_with fail
    refine(cN _).mono ?_
    rintro e w2 ⟨rfl,hb2⟩
    obtain⟨⟨p0,p1,p2⟩,f0,f1,f2⟩:=no_cells w w2 hb2
    have hb3:=hb0.trans (hb2.mono hb0.size)
    clear hb2
    simp only [gotV]
    go_wp2
    exact bodyPost_ret (v:=gotV none) (by simp [results,Tryz.results255,go_sem,gotV,p0,p1,p2]) rfl ⟨rfl,((hb3.setCell (by simp) _).setCell (by simp) _).setCell (by simp) _⟩
  ·have hz15:z.length≤15:=by omega
   have hz1:1≤z.length:=by omega
   obtain⟨m0,m1⟩:=numL_in z zall hz15
   have cM:=fun W=>number_any Z W (by omega) (by rw [hZd];exact zall)
   rw [hZd]at cM
   clear hA hB
   clear hZe
   by_cases hE:b+Z.size<s.size
   ·cases hd:(((s[b+Z.size]'hE).toNat:Int)==46)
    ·have h3:(s.data.toList.drop (b+z.length)).head?≠some 46:=by
      rw [← hZ,head_at s _ hE]
      intro e
      rw [Option.some.inj e]at hd
      exact absurd hd (by decide)
     rw [numTail_int hz hz1 hz15 h3]
     clear h3 hz zall hZd
     generalize numL z=m at *
     rw [← hZ]at hz15 hz1 zle ⊢
     clear hZ htl htz
     rcases hbt with ⟨rfl,rfl,ht,hm⟩ | ⟨rfl,rfl,ht,hm⟩
     ·subst ht
      simp only [Nat.zero_add,Int.one_mul]at hE hd ⊢
      have q1:((Z.size:Int)==(t.size:Int))=false:=by simp;omega
      have q2:(((t[Z.size]'hE).toNat:Int) != 46)=true:=by rw [bne,hd]<;>rfl
      clear hd
      go_enter Tryz.func255,Tryz.ntmps255
      go_wp2_with fail
      refine(cL _).mono ?_
      rintro e w1 ⟨rfl,rfl⟩
      go_wp2_with fail
      refine(cM _).mono ?_
      rintro e w1 ⟨rfl,rfl⟩
      go_wp2
      exact bodyPost_ret (v:=gotV (some ⟨1,m,[],Z.size⟩)) (by simp [results,Tryz.results255,go_sem,gotV,strB]) rfl ⟨rfl,(Below.refl _ _).alloc (zR _) _⟩
     ·subst ht
      have q1:((1+(Z.size:Int))==(s.size:Int))=false:=by simp;omega
      have q2:(((s[1+Z.size]'hE).toNat:Int) != 46)=true:=by rw [bne,hd]<;>rfl
      clear hd
      go_enter Tryz.func255,Tryz.ntmps255
      go_wp2_with fail
      refine(cL _).mono ?_
      rintro e w1 ⟨rfl,rfl⟩
      go_wp2_with fail
      refine(cM _).mono ?_
      rintro e w1 ⟨rfl,rfl⟩
      go_wp2
      exact bodyPost_ret (v:=gotV (some ⟨1,-1*m,[],1+Z.size⟩)) (by simp [results,Tryz.results255,go_sem,gotV,strB]) rfl ⟨rfl,(Below.refl _ _).alloc (zR _) _⟩
    ·have h3:(s.data.toList.drop (b+z.length)).head? = some 46:=by
      rw [← hZ,head_at s _ hE]
      congr 1
      have:=byte_beq (s[b+Z.size]'hE) 46
      rw [show((46:UInt8).toNat:Int)=46 from rfl,hd]at this
      simpa using this.symm
     have hx2:(s.extract (b+Z.size+1) s.size).data.toList=s.data.toList.drop (b+z.length+1):=by rw [Lib.extract_to_end s (b+Z.size+1),hZ]
     have hx2z:(s.extract (b+Z.size+1) s.size).size≤100000:=by rw [Lib.size_eq,hx2,List.length_drop,← Lib.size_eq];omega
     have cP:=fun W=>leadingDigits_any (s.extract (b+Z.size+1) s.size) W (by unfold maxLen;omega)
     rw [hx2]at cP
     have pall:=ldig_all (s.data.toList.drop (b+z.length+1))
     have ple:=ldig_len_le (s.data.toList.drop (b+z.length+1))
     rw [List.length_drop,← Lib.size_eq]at ple
     generalize hp:ldig (s.data.toList.drop (b+z.length+1))=p at cP pall ple
     generalize hPe:strB p=P at cP
     have hP:P.size=p.length:=by rw [← hPe];exact strB_size p
     have hPd:P.data.toList=p:=by rw [← hPe]<;>rfl
     have hPemp:P.toList.isEmpty=decide (P.size=0):=emp_of_size
     clear hPe hx2 hx2z
     by_cases d1:12<z.length
     ·rw [numTail_bad hz hz1 hz15 h3 hp (.inl d1)]
      rw [← hZ]at d1 hz15 hz1 zle
      have q3:decide (12<(Z.size:Int))=true:=by simp;omega
      clear hz hp h3 zall pall hZd hPd htl htz ple hP hPemp hZ d1
      rcases hbt with ⟨rfl,rfl,ht,hm⟩ | ⟨rfl,rfl,ht,hm⟩
      ·subst ht
       simp only [Nat.zero_add]at hE hd cP ⊢
       have q1:((Z.size:Int)==(t.size:Int))=false:=by simp;omega
       have q2:(((t[Z.size]'hE).toNat:Int) != 46)=false:=by rw [bne,hd]<;>rfl
       clear hd
       go_enter Tryz.func255,Tryz.ntmps255
       go_wp2_with fail
       refine(cL _).mono ?_
       rintro e w1 ⟨rfl,rfl⟩
       go_wp2_with fail
       refine(cP _).mono ?_
       rintro e w1 ⟨rfl,rfl⟩
       go_wp2_with fail
       refine(cN _).mono ?_
       rintro e w2 ⟨rfl,hb2⟩
       obtain⟨⟨p0,p1,p2⟩,f0,f1,f2⟩:=no_cells w w2 hb2
       have hb3:=hb0.trans (hb2.mono hb0.size)
       clear hb2
       simp only [gotV]
       go_wp2
       exact bodyPost_ret (v:=gotV none) (by simp [results,Tryz.results255,go_sem,gotV,p0,p1,p2]) rfl ⟨rfl,((hb3.setCell (by simp) _).setCell (by simp) _).setCell (by simp) _⟩
      ·subst ht
       have q1:((1+(Z.size:Int))==(s.size:Int))=false:=by simp;omega
       have q2:(((s[1+Z.size]'hE).toNat:Int) != 46)=false:=by rw [bne,hd]<;>rfl
       clear hd
       go_enter Tryz.func255,Tryz.ntmps255
       go_wp2_with fail
       refine(cL _).mono ?_
       rintro e w1 ⟨rfl,rfl⟩
       go_wp2_with fail
       refine(cP _).mono ?_
       rintro e w1 ⟨rfl,rfl⟩
       go_wp2_with fail
       refine(cN _).mono ?_
       rintro e w2 ⟨rfl,hb2⟩
       obtain⟨⟨p0,p1,p2⟩,f0,f1,f2⟩:=no_cells w w2 hb2
       have hb3:=hb0.trans (hb2.mono hb0.size)
       clear hb2
       simp only [gotV]
       go_wp2
       exact bodyPost_ret (v:=gotV none) (by simp [results,Tryz.results255,go_sem,gotV,p0,p1,p2]) rfl ⟨rfl,((hb3.setCell (by simp) _).setCell (by simp) _).setCell (by simp) _⟩
     ·have q3:decide (12<(Z.size:Int))=false:=by simp;omega
      by_cases d2:p.length=0
      ·rw [numTail_bad hz hz1 hz15 h3 hp (.inr (.inl d2))]
       rw [hP,d2]at hPemp
       simp only [decide_true]at hPemp
       rw [← hZ]at hz15 hz1 zle
       clear hz hp h3 zall pall hZd hPd htl htz ple hP hZ d1
       rcases hbt with ⟨rfl,rfl,ht,hm⟩ | ⟨rfl,rfl,ht,hm⟩
       ·subst ht
        simp only [Nat.zero_add]at hE hd cP ⊢
        have q1:((Z.size:Int)==(t.size:Int))=false:=by simp;omega
        have q2:(((t[Z.size]'hE).toNat:Int) != 46)=false:=by rw [bne,hd]<;>rfl
        clear hd
        go_enter Tryz.func255,Tryz.ntmps255
        go_wp2_with fail
        refine(cL _).mono ?_
        rintro e w1 ⟨rfl,rfl⟩
        go_wp2_with fail
        refine(cP _).mono ?_
        rintro e w1 ⟨rfl,rfl⟩
        go_wp2_with fail
        refine(cN _).mono ?_
        rintro e w2 ⟨rfl,hb2⟩
        obtain⟨⟨p0,p1,p2⟩,f0,f1,f2⟩:=no_cells w w2 hb2
        have hb3:=hb0.trans (hb2.mono hb0.size)
        clear hb2
        simp only [gotV]
        go_wp2
        exact bodyPost_ret (v:=gotV none) (by simp [results,Tryz.results255,go_sem,gotV,p0,p1,p2]) rfl ⟨rfl,((hb3.setCell (by simp) _).setCell (by simp) _).setCell (by simp) _⟩
       ·subst ht
        have q1:((1+(Z.size:Int))==(s.size:Int))=false:=by simp;omega
        have q2:(((s[1+Z.size]'hE).toNat:Int) != 46)=false:=by rw [bne,hd]<;>rfl
        clear hd
        go_enter Tryz.func255,Tryz.ntmps255
        go_wp2_with fail
        refine(cL _).mono ?_
        rintro e w1 ⟨rfl,rfl⟩
        go_wp2_with fail
        refine(cP _).mono ?_
        rintro e w1 ⟨rfl,rfl⟩
        go_wp2_with fail
        refine(cN _).mono ?_
        rintro e w2 ⟨rfl,hb2⟩
        obtain⟨⟨p0,p1,p2⟩,f0,f1,f2⟩:=no_cells w w2 hb2
        have hb3:=hb0.trans (hb2.mono hb0.size)
        clear hb2
        simp only [gotV]
        go_wp2
        exact bodyPost_ret (v:=gotV none) (by simp [results,Tryz.results255,go_sem,gotV,p0,p1,p2]) rfl ⟨rfl,((hb3.setCell (by simp) _).setCell (by simp) _).setCell (by simp) _⟩
      ·have q4:P.toList.isEmpty=false:=by rw [hPemp,hP];simpa using d2
       clear hPemp
       by_cases d3:3<p.length
       ·rw [numTail_bad hz hz1 hz15 h3 hp (.inr (.inr d3))]
        have q5:decide (3<(P.size:Int))=true:=by simp;omega
        rw [← hZ]at hz15 hz1 zle
        clear hz hp h3 zall pall hZd hPd htl htz hZ d1
        rcases hbt with ⟨rfl,rfl,ht,hm⟩ | ⟨rfl,rfl,ht,hm⟩
        ·subst ht
         simp only [Nat.zero_add]at hE hd cP ⊢
         have q1:((Z.size:Int)==(t.size:Int))=false:=by simp;omega
         have q2:(((t[Z.size]'hE).toNat:Int) != 46)=false:=by rw [bne,hd]<;>rfl
         clear hd
         go_enter Tryz.func255,Tryz.ntmps255
         go_wp2_with fail
         refine(cL _).mono ?_
         rintro e w1 ⟨rfl,rfl⟩
         go_wp2_with fail
         refine(cP _).mono ?_
         rintro e w1 ⟨rfl,rfl⟩
         go_wp2_with fail
         refine(cN _).mono ?_
         rintro e w2 ⟨rfl,hb2⟩
         obtain⟨⟨p0,p1,p2⟩,f0,f1,f2⟩:=no_cells w w2 hb2
         have hb3:=hb0.trans (hb2.mono hb0.size)
         clear hb2
         simp only [gotV]
         go_wp2
         exact bodyPost_ret (v:=gotV none) (by simp [results,Tryz.results255,go_sem,gotV,p0,p1,p2]) rfl ⟨rfl,((hb3.setCell (by simp) _).setCell (by simp) _).setCell (by simp) _⟩
        ·subst ht
         have q1:((1+(Z.size:Int))==(s.size:Int))=false:=by simp;omega
         have q2:(((s[1+Z.size]'hE).toNat:Int) != 46)=false:=by rw [bne,hd]<;>rfl
         clear hd
         go_enter Tryz.func255,Tryz.ntmps255
         go_wp2_with fail
         refine(cL _).mono ?_
         rintro e w1 ⟨rfl,rfl⟩
         go_wp2_with fail
         refine(cP _).mono ?_
         rintro e w1 ⟨rfl,rfl⟩
         go_wp2_with fail
         refine(cN _).mono ?_
         rintro e w2 ⟨rfl,hb2⟩
         obtain⟨⟨p0,p1,p2⟩,f0,f1,f2⟩:=no_cells w w2 hb2
         have hb3:=hb0.trans (hb2.mono hb0.size)
         clear hb2
         simp only [gotV]
         go_wp2
         exact bodyPost_ret (v:=gotV none) (by simp [results,Tryz.results255,go_sem,gotV,p0,p1,p2]) rfl ⟨rfl,((hb3.setCell (by simp) _).setCell (by simp) _).setCell (by simp) _⟩
       ·have q5:decide (3<(P.size:Int))=false:=by simp;omega
        rw [numTail_dec hz hz1 (by omega) h3 hp (by omega) (by omega)]
        have hY:(Z++(P++(⟨#[48,48]⟩:ByteArray)).extract 0 3).data.toList=z++(p++[48,48]).take 3:=by
         rw [append_data,extract_take,append_data,hZd,hPd]
        have hYs:(Z++(P++(⟨#[48,48]⟩:ByteArray)).extract 0 3).size≤15:=by
         rw [Lib.size_eq,hY,List.length_append,List.length_take];omega
        have yall:(z++(p++[48,48]).take 3).all (fun c=>digI c.toNat)=true:=by
         rw [List.all_append,zall,pad_all p pall]<;>rfl
        have cM2:=fun W=>number_any (Z++(P++(⟨#[48,48]⟩:ByteArray)).extract 0 3) W hYs (by rw [hY];exact yall)
        rw [hY]at cM2
        obtain⟨y0,y1⟩:=numL_in _ yall (by rw [← hY,← Lib.size_eq];exact hYs)
        generalize numL (z++(p++[48,48]).take 3)=m2 at *
        have hp1:1≤P.size:=by omega
        have hp3:P.size≤3:=by omega
        rw [← hZ]at hz15 hz1 zle ⊢
        rw [← hP]
        have hz12:Z.size≤12:=by omega
        clear hz hp h3 zall pall hZd hPd htl htz hZ d1 d2 d3 hY hYs yall ple hP cM m0 m1 cN
        rcases hbt with ⟨rfl,rfl,ht,hm⟩ | ⟨rfl,rfl,ht,hm⟩
        ·subst ht
         simp only [Nat.zero_add,Int.one_mul]at hE hd cP ⊢
         have q1:((Z.size:Int)==(t.size:Int))=false:=by simp;omega
         have q2:(((t[Z.size]'hE).toNat:Int) != 46)=false:=by rw [bne,hd]<;>rfl
         clear hd
         go_enter Tryz.func255,Tryz.ntmps255
         go_wp2_with fail
         refine(cL _).mono ?_
         rintro e w1 ⟨rfl,rfl⟩
         go_wp2_with fail
         refine(cP _).mono ?_
         rintro e w1 ⟨rfl,rfl⟩
         go_wp2_with fail
         refine(cM2 _).mono ?_
         rintro e w1 ⟨rfl,rfl⟩
         go_wp2
         exact bodyPost_ret (v:=gotV (some ⟨2,m2,[],Z.size+1+P.size⟩)) (by simp [results,Tryz.results255,go_sem,gotV,strB]) rfl ⟨rfl,(Below.refl _ _).alloc (zR _) _⟩
        ·subst ht
         have q1:((1+(Z.size:Int))==(s.size:Int))=false:=by simp;omega
         have q2:(((s[1+Z.size]'hE).toNat:Int) != 46)=false:=by rw [bne,hd]<;>rfl
         clear hd
         go_enter Tryz.func255,Tryz.ntmps255
         go_wp2_with fail
         refine(cL _).mono ?_
         rintro e w1 ⟨rfl,rfl⟩
         go_wp2_with fail
         refine(cP _).mono ?_
         rintro e w1 ⟨rfl,rfl⟩
         go_wp2_with fail
         refine(cM2 _).mono ?_
         rintro e w1 ⟨rfl,rfl⟩
         go_wp2
         exact bodyPost_ret (v:=gotV (some ⟨2,-1*m2,[],1+Z.size+1+P.size⟩)) (by simp [results,Tryz.results255,go_sem,gotV,strB]) rfl ⟨rfl,(Below.refl _ _).alloc (zR _) _⟩
   ·have h3:(s.data.toList.drop (b+z.length)).head?≠some 46:=by
     rw [List.drop_of_length_le (by rw [← Lib.size_eq];omega)]
     simp
    rw [numTail_int hz hz1 hz15 h3]
    clear h3 hz zall hZd
    generalize numL z=m at *
    rw [← hZ]at hz15 hz1 zle ⊢
    clear hZ htl htz
    rcases hbt with ⟨rfl,rfl,ht,hm⟩ | ⟨rfl,rfl,ht,hm⟩
    ·subst ht
     simp only [Nat.zero_add,Int.one_mul]at hE ⊢
     have q1:((Z.size:Int)==(t.size:Int))=true:=by simp;omega
     go_enter Tryz.func255,Tryz.ntmps255
     go_wp2_with fail
     refine(cL _).mono ?_
     rintro e w1 ⟨rfl,rfl⟩
     go_wp2_with fail
     refine(cM _).mono ?_
     rintro e w1 ⟨rfl,rfl⟩
     go_wp2
     exact bodyPost_ret (v:=gotV (some ⟨1,m,[],Z.size⟩)) (by simp [results,Tryz.results255,go_sem,gotV,strB]) rfl ⟨rfl,(Below.refl _ _).alloc (zR _) _⟩
    ·subst ht
     have q1:((1+(Z.size:Int))==(s.size:Int))=true:=by simp;omega
     go_enter Tryz.func255,Tryz.ntmps255
     go_wp2_with fail
     refine(cL _).mono ?_
     rintro e w1 ⟨rfl,rfl⟩
     go_wp2_with fail
     refine(cM _).mono ?_
     rintro e w1 ⟨rfl,rfl⟩
     go_wp2
     exact bodyPost_ret (v:=gotV (some ⟨1,-1*m,[],1+Z.size⟩)) (by simp [results,Tryz.results255,go_sem,gotV,strB]) rfl ⟨rfl,(Below.refl _ _).alloc (zR _) _⟩
theorem readNumber_any (s:ByteArray) (w:World) (h0:0<s.size) (hs:s.size≤100000) :
  Calls Tryz.prog 255 #[.string s] w (gotPost (gotV (readNumL s.data.toList)) w):=by
 have hh:s.data.toList.head? = some (s[0]'h0):=by have:=head_at s 0 h0;rwa [List.drop_zero]at this
 have hb:(((s[0]'h0).toNat:Int)==45)=(s[0]'h0==45):=byte_beq _ 45
 cases hm:(((s[0]'h0).toNat:Int)==45)
 ·have hr:readNumL s.data.toList=numTail 0 1 s.data.toList:=by
   rw [hm]at hb
   have:¬s[0]'h0=45:=by simpa using hb.symm
   rw [readNumL,hh,if_neg (by simpa using this)]
  rw [hr]
  exact numMain s w h0 hs 0 1 s (.inl ⟨rfl,rfl,rfl,hm⟩)
 ·have hr:readNumL s.data.toList=numTail 1 (-1) s.data.toList:=by
   rw [hm]at hb
   have:s[0]'h0=45:=by simpa using hb.symm
   rw [readNumL,hh,if_pos (by rw [this])]
  rw [hr]
  exact numMain s w h0 hs 1 (-1) _ (.inr ⟨rfl,rfl,rfl,hm⟩)
def rsL:List UInt8→List UInt8→Nat→Option Got
 | [],_,_=>none
 | c :: r,acc,m =>
  if c==34 then some ⟨3,0,acc,m+1⟩
  else if c==92 then
   match r with
   | []=>none
   | d :: q=>if escI d.toNat then rsL q (acc++[d]) (m+2)else none
  else if prI c.toNat then rsL r (acc++[c]) (m+1)else none
def readStrL (l:List UInt8):Option Got:=rsL (l.drop 1) [] 1
theorem rsL_quote (r acc:List UInt8) (m:Nat):rsL (34 :: r) acc m=some ⟨3,0,acc,m+1⟩:=by rw [rsL.eq_def]<;>rfl
theorem rsL_esc_end (acc:List UInt8) (m:Nat):rsL [92] acc m=none:=by rw [rsL.eq_def]<;>rfl
theorem rsL_esc (d:UInt8) (r acc:List UInt8) (m:Nat):rsL (92 :: d :: r) acc m=if escI d.toNat then rsL r (acc++[d]) (m+2)else none:=by
 rw [rsL.eq_def]<;>rfl
theorem rsL_other (c:UInt8) (r acc:List UInt8) (m:Nat) (h1:c≠34) (h2:c≠92):rsL (c :: r) acc m=if prI c.toNat then rsL r (acc++[c]) (m+1)else none:=by
 rw [rsL.eq_def]
 dsimp only
 rw [if_neg (by simpa using h1),if_neg (by simpa using h2)]
theorem no_cells2 (w w1:World) (hb:Below (w.heap.size+1) (w.alloc zeroBare) w1):(w1.cell? ⟨w.heap.size,0,none⟩=some (.int .i64 0)∧w1.cell? ⟨w.heap.size,1,none⟩=some (.int .i64 0)∧w1.cell? ⟨w.heap.size,2,none⟩=some (.string ⟨#[]⟩))∧(w1.frozen? ⟨w.heap.size,0,none⟩=false∧w1.frozen? ⟨w.heap.size,1,none⟩=false∧w1.frozen? ⟨w.heap.size,2,none⟩=false):=
 no_cells w w1 (by simpa using hb)
theorem readString_any (s:ByteArray) (w:World) (h0:0<s.size) (hs:s.size≤100000) :
  Calls Tryz.prog 256 #[.string s] w (gotPost (gotV (readStrL s.data.toList)) w):=by
 obtain⟨i0,hi,hz0,hz1,hz2⟩:=info_parts info_u8
 have cN:=fun W=>noItem_any W
 have hb0:Below w.heap.size w (w.alloc zeroBare):=(Below.refl _ _).alloc (zR _) _
 have Hb0:=zH hb0
 have Hs0:Hid ((w.alloc zeroBare).heap.size=w.heap.size+1):=zH (by simp)
 clear hb0
 go_enter Tryz.func256,Tryz.ntmps256
 go_wp2
 go_loopw [5,6] (fun v i wr=>∃(k:Nat) (acc:List UInt8),i=.int .i64 k∧1≤k∧k≤s.size∧acc.length≤k∧Hid (readStrL s.data.toList=rsL (s.data.toList.drop k) acc k)∧wr.ownsRow (w.heap.size+1) 5 1 v acc.length (acc.map u8V)∧Below (w.heap.size+1) (w.alloc zeroBare) wr) (fun _ i _=>s.size-(intOf i).toNat)
 case atStart=>exact⟨1,[],rfl,by omega,by omega,by simp,zH rfl,World.ownsRow_nil _ _ _ _,Below.refl _ _⟩
 case round =>
  obtain⟨k,acc,rfl,hk1,hk,hal,H,hown,hb⟩:=hrel
  have hsz:w.heap.size+1≤wr.heap.size:=by have:=hb.size;rw [Hs0.out]at this;exact this
  by_cases hlt:k<s.size
  ·have hdr:=drop_cons_at s k hlt
   cases h1:(((s[k]'hlt).toNat:Int)==34)
   ·have n1:s[k]'hlt≠34:=by
     intro e;rw [e]at h1;exact absurd h1 (by decide)
    cases h2:(((s[k]'hlt).toNat:Int)==92)
    ·have n2:s[k]'hlt≠92:=by
      intro e;rw [e]at h2;exact absurd h2 (by decide)
     rw [hdr,rsL_other _ _ _ _ n1 n2]at H
     have cP:=fun W=>inString_any ((s[k]'hlt).toNat:Int) W
     cases hp:prI ((s[k]'hlt).toNat:Int)
     ·have HR:Hid (readStrL s.data.toList=none):=zH (by rw [H.out,hp]<;>rfl)
      rw [hp]at cP
      clear hp hdr n1 n2 H
      go_wp2_with fail
      refine(cP _).mono ?_
      rintro e w1 ⟨rfl,rfl⟩
      go_wp2_with fail
      refine(cN _).mono ?_
      rintro e w2 ⟨rfl,hb2⟩
      have hb3:=hb.trans (hb2.mono hsz)
      obtain⟨⟨p0,p1,p2⟩,f0,f1,f2⟩:=no_cells2 w w2 hb3
      have hb4:=Hb0.out.trans (hb3.mono (Nat.le_succ _))
      clear hb2 hb3
      simp only [gotV]
      go_wp2
      exact bodyPost_ret (v:=gotV none) (by simp [results,Tryz.results256,go_sem,gotV,p0,p1,p2]) rfl ⟨by rw [HR.out],((hb4.setCell (by simp) _).setCell (by simp) _).setCell (by simp) _⟩
     ·have HR:Hid (readStrL s.data.toList=rsL (s.data.toList.drop (k+1)) (acc++[s[k]'hlt]) (k+1)):=zH (by rw [H.out,hp]<;>rfl)
      rw [hp]at cP
      clear hp hdr n1 n2 H
      go_wp2_with (first | (go_at_call 265;refine(cP _).mono ?_;rintro e w' ⟨rfl,rfl⟩) | (at_builtin;refine wpList_append_own _ rfl _ _ 23 rfl (w.heap.size+1) 5 i0 (.int .u8 0) 1 1 Tryz.underlying23 hi hz0 hz1 hz2 rfl (by decide) _ _ _ rfl (hown.alloc _) ⟨_,0,none⟩ 1 1 [.int .u8 (s[k].toNat:Int)] rfl rfl (cells_new _ _ _) (by simp [Value.oneCell']) (by unfold maxLen;omega) (by omega) (by simp;omega) ?_;intro v' w2 hown' hgrow _))
      go_roundw
      case rel =>
       refine⟨k+1,acc++[s[k]],by go_num,by omega,by omega,by simp;omega,zH HR.out,by simpa [u8V] using hown',?_⟩
       exact(hb.alloc (by omega) _).grown hgrow (by simp;omega) (fun k e=>(World.ownsRow.lt hown k e).1)
      case measure=>simp [intOf];omega
    ·have e2:s[k]'hlt=92:=by
      have:=byte_beq (s[k]'hlt) 92
      rw [show((92:UInt8).toNat:Int)=92 from rfl,h2]at this
      simpa using this.symm
     by_cases hlt2:k+1<s.size
     ·rw [hdr,e2,drop_cons_at s (k+1) hlt2,rsL_esc]at H
      have q1:(((k:Int)+1)==(s.size:Int))=false:=by simp;omega
      have cE:=fun W=>isEscaped_any ((s[k+1]'hlt2).toNat:Int) W
      cases hp:escI ((s[k+1]'hlt2).toNat:Int)
      ·have HR:Hid (readStrL s.data.toList=none):=zH (by rw [H.out,hp]<;>rfl)
       rw [hp]at cE
       clear hp hdr n1 e2 H
       go_wp2_with fail
       refine(cE _).mono ?_
       rintro e w1 ⟨rfl,rfl⟩
       go_wp2_with fail
       refine(cN _).mono ?_
       rintro e w2 ⟨rfl,hb2⟩
       have hb3:=hb.trans (hb2.mono hsz)
       obtain⟨⟨p0,p1,p2⟩,f0,f1,f2⟩:=no_cells2 w w2 hb3
       have hb4:=Hb0.out.trans (hb3.mono (Nat.le_succ _))
       clear hb2 hb3
       simp only [gotV]
       go_wp2
       exact bodyPost_ret (v:=gotV none) (by simp [results,Tryz.results256,go_sem,gotV,p0,p1,p2]) rfl ⟨by rw [HR.out],((hb4.setCell (by simp) _).setCell (by simp) _).setCell (by simp) _⟩
      ·have HR:Hid (readStrL s.data.toList=rsL (s.data.toList.drop (k+1+1)) (acc++[s[k+1]'hlt2]) (k+2)):=zH (by rw [H.out,hp]<;>rfl)
       rw [hp]at cE
       clear hp hdr n1 e2 H
       go_wp2_with (first | (go_at_call 264;refine(cE _).mono ?_;rintro e w' ⟨rfl,rfl⟩) | (at_builtin;refine wpList_append_own _ rfl _ _ 23 rfl (w.heap.size+1) 5 i0 (.int .u8 0) 1 1 Tryz.underlying23 hi hz0 hz1 hz2 rfl (by decide) _ _ _ rfl (hown.alloc _) ⟨_,0,none⟩ 1 1 [.int .u8 (s[k+1].toNat:Int)] rfl rfl (cells_new _ _ _) (by simp [Value.oneCell']) (by unfold maxLen;omega) (by omega) (by simp;omega) ?_;intro v' w2 hown' hgrow _))
       go_roundw
       case rel =>
        refine⟨k+2,acc++[s[k+1]],by go_num,by omega,by omega,by simp;omega,zH HR.out,by simpa [u8V] using hown',?_⟩
        exact(hb.alloc (by omega) _).grown hgrow (by simp;omega) (fun k e=>(World.ownsRow.lt hown k e).1)
       case measure=>simp [intOf];omega
     ·have hd1:s.data.toList.drop (k+1)=[]:=List.drop_of_length_le (by rw [← Lib.size_eq];omega)
      rw [hdr,e2,hd1,rsL_esc_end]at H
      have q1:(((k:Int)+1)==(s.size:Int))=true:=by simp;omega
      clear hdr n1 e2 hd1
      go_wp2_with fail
      refine(cN _).mono ?_
      rintro e w2 ⟨rfl,hb2⟩
      have hb3:=hb.trans (hb2.mono hsz)
      obtain⟨⟨p0,p1,p2⟩,f0,f1,f2⟩:=no_cells2 w w2 hb3
      have hb4:=Hb0.out.trans (hb3.mono (Nat.le_succ _))
      clear hb2 hb3
      simp only [gotV]
      go_wp2
      exact bodyPost_ret (v:=gotV none) (by simp [results,Tryz.results256,go_sem,gotV,p0,p1,p2]) rfl ⟨by rw [H.out],((hb4.setCell (by simp) _).setCell (by simp) _).setCell (by simp) _⟩
   ·have e1:s[k]'hlt=34:=by
     have:=byte_beq (s[k]'hlt) 34
     rw [show((34:UInt8).toNat:Int)=34 from rfl,h1]at this
     simpa using this.symm
    rw [hdr,e1,rsL_quote]at H
    clear hdr e1
    have hcv:=run_owned_str (P:=Tryz.prog) Tryz.underlying23 Tryz.underlying5 Tryz.underlying9 hown
    obtain⟨⟨p0,p1,p2⟩,f0,f1,f2⟩:=no_cells2 w wr hb
    have hb4:=Hb0.out.trans (hb.mono (Nat.le_succ _))
    go_wp2
    exact bodyPost_ret (v:=gotV (some ⟨3,0,acc,k+1⟩)) (by simp [results,Tryz.results256,go_sem,gotV,p0,p1,p2]) rfl ⟨by rw [H.out],((hb4.setCell (by simp) _).setCell (by simp) _).setCell (by simp) _⟩
  ·have hd1:s.data.toList.drop k=[]:=List.drop_of_length_le (by rw [← Lib.size_eq];omega)
   rw [hd1,rsL]at H
   clear hd1
   go_wp2_with fail
   refine(cN _).mono ?_
   rintro e w2 ⟨rfl,hb2⟩
   have hb3:=hb.trans (hb2.mono hsz)
   obtain⟨⟨p0,p1,p2⟩,f0,f1,f2⟩:=no_cells2 w w2 hb3
   have hb4:=Hb0.out.trans (hb3.mono (Nat.le_succ _))
   clear hb2 hb3
   simp only [gotV]
   go_wp2
   exact bodyPost_ret (v:=gotV none) (by simp [results,Tryz.results256,go_sem,gotV,p0,p1,p2]) rfl ⟨by rw [H.out],((hb4.setCell (by simp) _).setCell (by simp) _).setCell (by simp) _⟩
def readL (l:List UInt8):Option Got:=match l with
 | []=>none
 | c :: _ =>
  if c==45||digI c.toNat then readNumL l
  else if c==34 then readStrL l
  else if btI c.toNat then some ⟨4,0,l.take (tlen l),tlen l⟩
  else if c==58 then readBytesL l
  else if c==63 then readBoolL l
  else none
theorem gotV_is (o:Option Got):∃(a b:Int) (t:ByteArray) (m e:Int),gotV o=.tuple #[.agg #[.int .i64 a,.int .i64 b,.string t],.int .i64 m,.int .i64 e]:=by
 cases o with
 | none=>exact⟨_,_,_,_,_,rfl⟩
 | some g=>exact⟨_,_,_,_,_,rfl⟩
theorem readL_at (s:ByteArray) (h0:0<s.size):readL s.data.toList=if ((s[0]'h0).toNat:Int)==45||digI (s[0]'h0).toNat then readNumL s.data.toList
  else if ((s[0]'h0).toNat:Int)==34 then readStrL s.data.toList
  else if btI (s[0]'h0).toNat then some ⟨4,0,s.data.toList.take (tlen s.data.toList),tlen s.data.toList⟩
  else if ((s[0]'h0).toNat:Int)==58 then readBytesL s.data.toList
  else if ((s[0]'h0).toNat:Int)==63 then readBoolL s.data.toList
  else none:=by
 have hb:=fun d=>byte_beq (s[0]'h0) d
 have b45:=hb 45
 have b34:=hb 34
 have b58:=hb 58
 have b63:=hb 63
 rw [show((45:UInt8).toNat:Int)=45 from rfl]at b45
 rw [show((34:UInt8).toNat:Int)=34 from rfl]at b34
 rw [show((58:UInt8).toNat:Int)=58 from rfl]at b58
 rw [show((63:UInt8).toNat:Int)=63 from rfl]at b63
 rw [b45,b34,b58,b63]
 have e0:=drop_cons_at s 0 h0
 rw [List.drop_zero]at e0
 generalize hl:s.data.toList=l at *
 rw [e0,readL]
theorem read_any (s:ByteArray) (w:World) (hs:s.size≤100000) (hA:Alph w) :
  Calls Tryz.prog 247 #[.string s] w (gotPost (gotV (readL s.data.toList)) w):=by
 have HA:=zH hA
 clear hA
 have cN:=fun W=>noItem_any W
 have hb0:Below w.heap.size w (w.alloc zeroBare):=(Below.refl _ _).alloc (zR _) _
 by_cases h0:0<s.size
 ·have hemp:s.toList.isEmpty=false:=by rw [Lib.toList_data];exact isEmpty_false_of s h0
  have hr:=readL_at s h0
  have cD:=fun W=>isDigit_any ((s[0]'h0).toNat:Int) W
  have cB:=fun W=>beginsToken_any ((s[0]'h0).toNat:Int) W
  have cM:=fun W=>readNumber_any s W h0 hs
  have cS:=fun W=>readString_any s W h0 hs
  have cT:=fun W=>tokenLength_any s W (by unfold maxLen;omega)
  have cY:=fun W hW=>readBytes_any s W h0 hs hW
  have cO:=fun W=>readBoolean_any s W hs
  cases g1:(((s[0]'h0).toNat:Int)==45)
  ·cases g2:digI ((s[0]'h0).toNat:Int)
   ·rw [g1,g2]at hr
    simp only [Bool.or_false,if_false,Bool.false_eq_true]at hr
    rw [g2]at cD
    cases g3:(((s[0]'h0).toNat:Int)==34)
    ·rw [g3]at hr
     simp only [Bool.false_eq_true,ite_false]at hr
     cases g4:btI ((s[0]'h0).toNat:Int)
     ·rw [g4]at hr cB
      simp only [Bool.false_eq_true,ite_false]at hr
      cases g5:(((s[0]'h0).toNat:Int)==58)
      ·rw [g5]at hr
       simp only [Bool.false_eq_true,ite_false]at hr
       cases g6:(((s[0]'h0).toNat:Int)==63)
       ·rw [g6]at hr
        simp only [Bool.false_eq_true,ite_false]at hr
        rw [hr]
        clear hr g2 g4 cM cS cT cY cO
        go_enter Tryz.func247,Tryz.ntmps247
        go_wp2_with fail
        refine(cD _).mono ?_
        rintro e w1 ⟨rfl,rfl⟩
        go_wp2_with fail
        refine(cB _).mono ?_
        rintro e w1 ⟨rfl,rfl⟩
        go_wp2_with fail
        refine(cN _).mono ?_
        rintro e w2 ⟨rfl,hb2⟩
        obtain⟨⟨p0,p1,p2⟩,f0,f1,f2⟩:=no_cells w w2 hb2
        have hb3:=hb0.trans (hb2.mono hb0.size)
        clear hb2
        simp only [gotV]
        go_wp2
        exact bodyPost_ret (v:=gotV none) (by simp [results,Tryz.results247,go_sem,gotV,p0,p1,p2]) rfl ⟨rfl,((hb3.setCell (by simp) _).setCell (by simp) _).setCell (by simp) _⟩
       ·rw [g6]at hr
        simp only [ite_true]at hr
        rw [hr]
        obtain⟨a,b,t,m,x,hv⟩:=gotV_is (readBoolL s.data.toList)
        rw [hv]at cO ⊢
        clear hr hv g2 g4 cM cS cT cY cN
        go_enter Tryz.func247,Tryz.ntmps247
        go_wp2_with fail
        refine(cD _).mono ?_
        rintro e w1 ⟨rfl,rfl⟩
        go_wp2_with fail
        refine(cB _).mono ?_
        rintro e w1 ⟨rfl,rfl⟩
        go_wp2_with fail
        refine(cO _).mono ?_
        rintro e w2 ⟨rfl,hb2⟩
        obtain⟨⟨p0,p1,p2⟩,f0,f1,f2⟩:=no_cells w w2 hb2
        have hb3:=hb0.trans (hb2.mono hb0.size)
        clear hb2
        go_wp2
        exact bodyPost_ret (v:=.tuple #[.agg #[.int .i64 a,.int .i64 b,.string t],.int .i64 m,.int .i64 x]) (by simp [results,Tryz.results247,go_sem,p0,p1,p2]) rfl ⟨rfl,((hb3.setCell (by simp) _).setCell (by simp) _).setCell (by simp) _⟩
      ·rw [g5]at hr
       simp only [ite_true]at hr
       rw [hr]
       obtain⟨a,b,t,m,x,hv⟩:=gotV_is (readBytesL s.data.toList)
       rw [hv]at cY ⊢
       clear hr hv g2 g4 cM cS cT cO cN
       go_enter Tryz.func247,Tryz.ntmps247
       go_wp2_with fail
       refine(cD _).mono ?_
       rintro e w1 ⟨rfl,rfl⟩
       go_wp2_with fail
       refine(cB _).mono ?_
       rintro e w1 ⟨rfl,rfl⟩
       go_wp2_with fail
       refine(cY _ (HA.out.below hb0)).mono ?_
       rintro e w2 ⟨rfl,hb2⟩
       obtain⟨⟨p0,p1,p2⟩,f0,f1,f2⟩:=no_cells w w2 hb2
       have hb3:=hb0.trans (hb2.mono hb0.size)
       clear hb2
       go_wp2
       exact bodyPost_ret (v:=.tuple #[.agg #[.int .i64 a,.int .i64 b,.string t],.int .i64 m,.int .i64 x]) (by simp [results,Tryz.results247,go_sem,p0,p1,p2]) rfl ⟨rfl,((hb3.setCell (by simp) _).setCell (by simp) _).setCell (by simp) _⟩
     ·rw [g4]at hr cB
      simp only [ite_true]at hr
      have hn:=tlen_le s.data.toList
      rw [← Lib.size_eq]at hn
      have hx:strB (s.data.toList.take (tlen s.data.toList))=s.extract 0 (tlen s.data.toList):=by rw [← extract_take,strB_of]
      have HR:Hid (gotV (readL s.data.toList)=.tuple #[.agg #[.int .i64 4,.int .i64 0,.string (s.extract 0 (tlen s.data.toList))],.int .i64 (tlen s.data.toList:Nat),.int .i64 0]):=zH (by rw [hr,gotV,hx])
      clear hr hx g2 g4 cM cS cY cO cN
      rw [HR.out]
      clear HR
      generalize tlen s.data.toList=n at cT hn
      go_enter Tryz.func247,Tryz.ntmps247
      go_wp2_with fail
      refine(cD _).mono ?_
      rintro e w1 ⟨rfl,rfl⟩
      go_wp2_with fail
      refine(cB _).mono ?_
      rintro e w1 ⟨rfl,rfl⟩
      go_wp2_with fail
      refine(cT _).mono ?_
      rintro e w1 ⟨rfl,rfl⟩
      go_wp2
      exact bodyPost_ret (v:=.tuple #[.agg #[.int .i64 4,.int .i64 0,.string (s.extract 0 n)],.int .i64 (n:Int),.int .i64 0]) (by simp [results,Tryz.results247,go_sem]) rfl ⟨rfl,(Below.refl _ _).alloc (zR _) _⟩
    ·rw [g3]at hr
     simp only [ite_true]at hr
     rw [hr]
     obtain⟨a,b,t,m,x,hv⟩:=gotV_is (readStrL s.data.toList)
     rw [hv]at cS ⊢
     clear hr hv g2 cM cB cT cY cO cN
     go_enter Tryz.func247,Tryz.ntmps247
     go_wp2_with fail
     refine(cD _).mono ?_
     rintro e w1 ⟨rfl,rfl⟩
     go_wp2_with fail
     refine(cS _).mono ?_
     rintro e w2 ⟨rfl,hb2⟩
     obtain⟨⟨p0,p1,p2⟩,f0,f1,f2⟩:=no_cells w w2 hb2
     have hb3:=hb0.trans (hb2.mono hb0.size)
     clear hb2
     go_wp2
     exact bodyPost_ret (v:=.tuple #[.agg #[.int .i64 a,.int .i64 b,.string t],.int .i64 m,.int .i64 x]) (by simp [results,Tryz.results247,go_sem,p0,p1,p2]) rfl ⟨rfl,((hb3.setCell (by simp) _).setCell (by simp) _).setCell (by simp) _⟩
   ·rw [g1,g2]at hr
    simp only [Bool.or_true,ite_true]at hr
    rw [g2]at cD
    rw [hr]
    obtain⟨a,b,t,m,x,hv⟩:=gotV_is (readNumL s.data.toList)
    rw [hv]at cM ⊢
    clear hr hv g2 cS cB cT cY cO cN
    go_enter Tryz.func247,Tryz.ntmps247
    go_wp2_with fail
    refine(cD _).mono ?_
    rintro e w1 ⟨rfl,rfl⟩
    go_wp2_with fail
    refine(cM _).mono ?_
    rintro e w2 ⟨rfl,hb2⟩
    obtain⟨⟨p0,p1,p2⟩,f0,f1,f2⟩:=no_cells w w2 hb2
    have hb3:=hb0.trans (hb2.mono hb0.size)
    clear hb2
    go_wp2
    exact bodyPost_ret (v:=.tuple #[.agg #[.int .i64 a,.int .i64 b,.string t],.int .i64 m,.int .i64 x]) (by simp [results,Tryz.results247,go_sem,p0,p1,p2]) rfl ⟨rfl,((hb3.setCell (by simp) _).setCell (by simp) _).setCell (by simp) _⟩
  ·rw [g1]at hr
   simp only [Bool.true_or,ite_true]at hr
   rw [hr]
   obtain⟨a,b,t,m,x,hv⟩:=gotV_is (readNumL s.data.toList)
   rw [hv]at cM ⊢
   clear hr hv cD cS cB cT cY cO cN
   go_enter Tryz.func247,Tryz.ntmps247
   go_wp2_with fail
   refine(cM _).mono ?_
   rintro e w2 ⟨rfl,hb2⟩
   obtain⟨⟨p0,p1,p2⟩,f0,f1,f2⟩:=no_cells w w2 hb2
   have hb3:=hb0.trans (hb2.mono hb0.size)
   clear hb2
   go_wp2
   exact bodyPost_ret (v:=.tuple #[.agg #[.int .i64 a,.int .i64 b,.string t],.int .i64 m,.int .i64 x]) (by simp [results,Tryz.results247,go_sem,p0,p1,p2]) rfl ⟨rfl,((hb3.setCell (by simp) _).setCell (by simp) _).setCell (by simp) _⟩
 ·have he:s.data.toList=[]:=List.eq_nil_of_length_eq_zero (by rw [← Lib.size_eq];omega)
  have hemp:s.toList.isEmpty=true:=by rw [Lib.toList_data,he]<;>rfl
  rw [he]
  show Calls _ _ _ _ (gotPost (gotV none) w)
  clear he
  go_enter Tryz.func247,Tryz.ntmps247
  go_wp2_with fail
  refine(cN _).mono ?_
  rintro e w2 ⟨rfl,hb2⟩
  obtain⟨⟨p0,p1,p2⟩,f0,f1,f2⟩:=no_cells w w2 hb2
  have hb3:=hb0.trans (hb2.mono hb0.size)
  clear hb2
  simp only [gotV]
  go_wp2
  exact bodyPost_ret (v:=gotV none) (by simp [results,Tryz.results247,go_sem,gotV,p0,p1,p2]) rfl ⟨rfl,((hb3.setCell (by simp) _).setCell (by simp) _).setCell (by simp) _⟩
end Go.Proofs.YtfaedmbfabfmeaaGreatDoor
