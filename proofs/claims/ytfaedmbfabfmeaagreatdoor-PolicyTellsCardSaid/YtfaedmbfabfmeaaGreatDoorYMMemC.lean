/- The contract of members.readItems: the items of an inner list, and what is behind its bracket. · The contracts of members.readInner and members.readMember. · The contract of members.readMember. · Rows of whatever is owned whole: members of a list, entries of a dictionary. · The contracts of members.separated at members, and of members.List. · The contracts of members.readValue and members.readEntry. · The contract of members.readEntry. · The contract of members.separated at entries. · The contracts of the document's SameItem (sculleryref04), and of members.isOfOneKind. · The contract of members.joined at items: their texts, with a separator between. · The contract of members.memberText. · Rows in memory, read; the contract of members.joined at members, and of members.PrintList. · Rows that share their parts; entries of which each key comes once. · The contract of members.oneOfEachKey. · Plain: how great a member is that is read; the contract of members.Dict. · Rows that lie, as lists of cells; what a store elsewhere keeps. · The contracts of slices.Clone at parameters and at items, and of members.itemCopy. · The contract of members.Same. -/
import Derived.Test.YtfaedmbfabfmeaaGreatDoorYMemA
import Derived.Test.YtfaedmbfabfmeaaGreatDoorYMItmC
import Derived.Test.YtfaedmbfabfmeaaGreatDoorYMItmUa
import Derived.Deep.AppendLies
import Derived.Lib.SliceRun
set_option linter.unusedSimpArgs false
set_option maxRecDepth 100000
set_option maxHeartbeats 4000000
namespace Go.Proofs.YtfaedmbfabfmeaaGreatDoor
open Go.RowKit Go.Maps
def itsF:Nat→List UInt8→List Itm→Option (List Itm×List UInt8)
 | 0,_,_=>none
 | f+1,l,acc=>if l.head? = some 41 then some (acc,l.drop 1)else match itmL l with
  | none=>none
  | some (g,ps,m)=>if endI (l.drop m)=true then itsF f (spD (l.drop m)) (acc++[⟨g.k,g.n,g.s,ps⟩])else none
def itsL (l:List UInt8):Option (List Itm×List UInt8):=itsF (l.length+1) (spD l) []
theorem itsF_end (f:Nat) (l:List UInt8) (acc:List Itm) (h:l.head? = some 41):itsF (f+1) l acc=some (acc,l.drop 1):=by rw [itsF,if_pos h]
theorem itsF_none (f:Nat) (l:List UInt8) (acc:List Itm) (h:l.head?≠some 41) (hi:itmL l=none):itsF (f+1) l acc=none:=by rw [itsF,if_neg h,hi]
theorem itsF_bad (f:Nat) (l:List UInt8) (acc:List Itm) (g:Got) (ps:List Prm) (m:Nat) (h:l.head?≠some 41) (hi:itmL l=some (g,ps,m)) (he:endI (l.drop m)=false):itsF (f+1) l acc=none:=by
 rw [itsF,if_neg h,hi]
 simp [he]
theorem itsF_some (f:Nat) (l:List UInt8) (acc:List Itm) (g:Got) (ps:List Prm) (m:Nat) (h:l.head?≠some 41) (hi:itmL l=some (g,ps,m)) (he:endI (l.drop m)=true):itsF (f+1) l acc=itsF f (spD (l.drop m)) (acc++[⟨g.k,g.n,g.s,ps⟩]):=by
 rw [itsF,if_neg h,hi]
 simp [he]
theorem itmL_pos (l:List UInt8) (g:Got) (ps:List Prm) (m:Nat) (h:itmL l=some (g,ps,m)):1≤m:=by
 unfold itmL at h
 split at h
 ·cases h
 ·rename_i g3 hg
  split at h
  ·cases h
  ·obtain⟨rfl,h2⟩:=Prod.mk.inj (Option.some.inj h)
   obtain⟨rfl,rfl⟩:=Prod.mk.inj h2
   have:=(readL_right _ _ hg).2.1
   omega
def itsPost (o:Option (List Itm×List UInt8)) (w:World) (e:Ending) (w':World):Prop:=
 Below w.heap.size w w'∧match o with
  | none=>e=.returned (.tuple #[.slice none 0 0,.string ⟨#[]⟩,.int .i64 2])
  | some (xs,r)=>∃v,e=.returned (.tuple #[v,.string (strB r),.int .i64 0])∧OwnI 116 w' w.heap.size v xs
theorem info_item:(Tryz.prog.info? 116).map (fun i=>(i.zero,i.size,i.bytes))=some (some (.agg #[.int .i64 0,.int .i64 0,.string ⟨#[]⟩,.slice none 0 0]),4,56):=by kernel_rfl
theorem readItems_any (s:ByteArray) (w:World) (hs:s.size≤100000) (hA:Alph w) :
  Calls Tryz.prog 219 #[.string s] w (itsPost (itsL s.data.toList) w):=by
 obtain⟨i0,hi,hz0,hz1,hz2⟩:=info_parts info_item
 have HA:=zH hA
 clear hA
 have hsp:=spD_le s.data.toList
 rw [← Lib.size_eq]at hsp
 go_enter Tryz.func219,Tryz.ntmps219
 go_wp2_with fail
 refine(trimL1_any s _).mono ?_
 rintro e w1 ⟨rfl,hb1⟩
 go_wp2_with fail
 go_loopw [5,6] (fun v r wr=>∃(xs:List Itm) (l:List UInt8) (f:Nat),r=.string (strB l)∧l.length<f∧l.length+xs.length≤s.size∧Hid (itsL s.data.toList=itsF f l xs)∧OwnI 116 wr w.heap.size v xs∧Below w.heap.size w wr) (fun _ r _=>Lib.strSize r)
 case atStart=>exact⟨[],spD s.data.toList,s.data.toList.length+1,rfl,by rw [← Lib.size_eq];omega,by simpa using hsp,zH rfl,OwnI.nothing _ _ _,hb1⟩
 case round =>
  obtain⟨xs,l,f,rfl,hf,hl,H,hown,hb⟩:=hrel
  obtain⟨f,rfl⟩:∃f',f=f'+1:=⟨f-1,by omega⟩
  have HO:=zH hown
  have HB:=zH hb
  have hbz:=hb.size
  have hls:=strB_size l
  have HLS:=zH hls
  have hls3:(strB l).size≤100000:=by omega
  clear hls
  have cH:=fun W=>hasPrefix_any (strB l) 41 W
  rw [strB_data]at cH
  clear hown hb
  by_cases h41:l.head? = some 41
  ·have HR:=zH (H.out.trans (itsF_end f l xs h41))
   have hl0:1≤l.length:=by cases l with | nil=>cases h41 | cons c r=>simp
   rw [show(l.head? == some 41)=true by rw [h41];rfl]at cH
   have hx:(strB l).extract 1 (strB l).size=strB (l.drop 1):=by
    rw [← strB_of ((strB l).extract 1 (strB l).size),Lib.extract_to_end,strB_data]
   have HX:=zH hx
   have j2:(1:Int)≤((strB l).size:Int):=by have:=HLS.out;omega
   obtain⟨us,u1,u2,u3⟩:=HO.out
   obtain⟨ao,cap,rfl⟩:=owns_form u2
   clear u1 u2 u3 hx h41
   generalize strB l=L at *
   go_wp2_with fail
   refine(cH _).mono ?_
   rintro e w2 ⟨rfl,rfl⟩
   go_wp2_with fail
   go_quiet (fail)
   go_wp2_with fail
   refine bodyPost_ret (v:=.tuple #[.slice ao xs.length cap,.string (L.extract 1 L.size),.int .i64 0]) (by simp [results,Tryz.results219,go_sem]) rfl ⟨HB.out.trans ((below_drewN _ _).mono hbz),?_⟩
   rw [HR.out]
   exact⟨_,by rw [HX.out],HO.out.below (below_drewN _ _)⟩
  ·rw [show(l.head? == some 41)=false by rw [beq_eq_false_iff_ne];exact h41]at cH
   have cR:=fun W hW=>iread_any (strB l) W (by omega) hW
   rw [strB_data]at cR
   cases hit:itmL l with
   | none =>
    have HR:=zH (H.out.trans (itsF_none f l xs h41 hit))
    rw [hit]at cR
    clear hit h41
    generalize strB l=L at *
    go_wp2_with fail
    refine(cH _).mono ?_
    rintro e w2 ⟨rfl,rfl⟩
    go_wp2_with fail
    refine(cR _ (HA.out.below HB.out)).mono ?_
    rintro e w3 ⟨hb3,rfl⟩
    go_wp2_with fail
    refine bodyPost_ret (v:=.tuple #[.slice none 0 0,.string ⟨#[]⟩,.int .i64 2]) (by simp [results,Tryz.results219,go_sem]) rfl ⟨?_,?_⟩
    ·exact(HB.out.trans (hb3.mono hbz)).alloc (Nat.le_trans hbz hb3.size) _
    ·rw [HR.out]
   | some gpm =>
    obtain⟨g,ps,m⟩:=gpm
    have hm1:=itmL_pos _ _ _ _ hit
    have hm2:=itmL_le _ _ _ _ hit
    have hm3:=itmL_used _ _ _ _ hit
    have hm4:=szN_len ps
    rw [hit]at cR
    have hxd:((strB l).extract m (strB l).size).data.toList=l.drop m:=by rw [Lib.extract_to_end,strB_data]
    have cE:=fun W=>endsItem_any ((strB l).extract m (strB l).size) W
    rw [hxd]at cE
    have j2:(m:Int)≤((strB l).size:Int):=by have:=HLS.out;omega
    have j0:(0:Int)≤(m:Int):=by omega
    cases he:endI (l.drop m)with
    | false =>
     have HR:=zH (H.out.trans (itsF_bad f l xs g ps m h41 hit he))
     rw [he]at cE
     clear hit h41 he hxd
     generalize strB l=L at *
     go_wp2_with fail
     refine(cH _).mono ?_
     rintro e w2 ⟨rfl,rfl⟩
     go_wp2_with fail
     refine(cR _ (HA.out.below HB.out)).mono ?_
     rintro e w3 ⟨hb3,v3,rfl,ho3⟩
     obtain⟨ao3,cap3,rfl⟩:=owns_form ho3
     go_wp2_with fail
     refine(cE _).mono ?_
     rintro e w4 ⟨rfl,rfl⟩
     go_wp2_with fail
     refine bodyPost_ret (v:=.tuple #[.slice none 0 0,.string ⟨#[]⟩,.int .i64 2]) (by simp [results,Tryz.results219,go_sem]) rfl ⟨?_,?_⟩
     ·exact(HB.out.trans (hb3.mono hbz)).alloc (Nat.le_trans hbz hb3.size) _
     ·rw [HR.out]
    | true =>
     have HR:=zH (H.out.trans (itsF_some f l xs g ps m h41 hit he))
     rw [he]at cE
     have cT:=fun W=>trimL1_any ((strB l).extract m (strB l).size) W
     rw [hxd]at cT
     have hsd:=spD_le (l.drop m)
     rw [List.length_drop]at hsd
     clear hit h41 he hxd
     generalize strB l=L at *
     obtain⟨gk,gn,gs,gm⟩:=g
     simp only at cR HR
     go_wp2_with fail
     refine(cH _).mono ?_
     rintro e w2 ⟨rfl,rfl⟩
     go_wp2_with fail
     refine(cR _ (HA.out.below HB.out)).mono ?_
     rintro e w3 ⟨hb3,v3,rfl,ho3⟩
     obtain⟨ao3,cap3,rfl⟩:=owns_form ho3
     obtain⟨us,u1,u2,u3⟩:=HO.out
     obtain⟨ao,cap,rfl⟩:=owns_form u2
     have hpo:PrmsOff w.heap.size (Value.slice ao xs.length cap).ownBlock w3 (.slice ao3 ps.length cap3) ps:=PrmsOff.made ho3 hbz (fun g hg=>(World.ownsRow.lt u2 g hg).2)
     have hz3:=Nat.le_trans hbz hb3.size
     have hbW:Below w3.heap.size w3 ((w3.alloc (.cells #[.int .i64 gk,.int .i64 gn,.string (strB gs),.slice ao3 ps.length cap3] 116)).alloc (.cells #[.int .i64 gk,.int .i64 gn,.string (strB gs),.slice ao3 ps.length cap3] 116)):=((Below.refl _ _).alloc (zR _) _).alloc (by simp) _
     have hOW:=ownsRow_later (ownsRow_later u2 hb3) hbW
     have hnew:=cells_new (w3.alloc (.cells #[.int .i64 gk,.int .i64 gn,.string (strB gs),.slice ao3 ps.length cap3] 116)) (cellsI ⟨gk,gn,gs,ps⟩ (.slice ao3 ps.length cap3)) 116
     rw [show(w3.alloc (.cells #[.int .i64 gk,.int .i64 gn,.string (strB gs),.slice ao3 ps.length cap3] 116)).heap.size=w3.heap.size+1 by simp]at hnew
     have HNew:=zH hnew
     clear hnew
     have HU3:=zH (fun(j:Nat) (u:Value) (x:Itm) hu hx=>((u3 j u x hu hx).below hb3).below hbW)
     have HPO:=zH (hpo.below hbW)
     have HBW:=zH ((HB.out.trans (hb3.mono hbz)).trans (hbW.mono hz3))
     have HU1:=zH u1
     clear u3 hpo u2 hb3 ho3 u1
     go_wp2_with fail
     refine(cE _).mono ?_
     rintro e w4 ⟨rfl,rfl⟩
     go_wp2_with (at_builtin;refine wpList_append_lies _ rfl _ _ 117 rfl w.heap.size 116 i0 (.agg #[.int .i64 0,.int .i64 0,.string ⟨#[]⟩,.slice none 0 0]) 4 56 Tryz.underlying117 hi hz0 hz1 hz2 rfl (by decide) _ xs.length (rowI (xs.zip us)) rfl hOW ⟨_,0,none⟩ 1 1 (cellsI ⟨gk,gn,gs,ps⟩ (.slice ao3 ps.length cap3)) rfl rfl HNew.out (by simp [Value.oneCell',cellsI]) (by decide) (by unfold maxLen;omega) (by omega) (by simp;omega) _ rfl ?_;intro g5 cap5 w5 hown5 hgrow5 hat5 hlt5)
     have hN:=OwnI.snoc (x:=⟨gk,gn,gs,ps⟩) HU1.out HU3.out HPO.out hown5 hgrow5 hat5
     refine(cT _).mono ?_
     rintro e w6 ⟨rfl,hb6⟩
     have hN6:=hN.below hb6
     have hB6:Below w.heap.size w w6:=by
      have h1:=HBW.out
      have h2:Below w.heap.size w w5:=⟨hgrow5.os.trans h1.os,hgrow5.tape.trans h1.tape,hgrow5.output.trans h1.output,Nat.le_trans h1.size hgrow5.size,fun i hi=>(hgrow5.block i (Nat.lt_of_lt_of_le hi h1.size) (own_ne hOW hi)).trans (h1.block i hi)⟩
      exact h2.trans (hb6.mono h2.size)
     clear hN hown5 hgrow5 hb6 hOW hbW
     go_wp2_with fail
     go_roundw
     case rel=>exact⟨xs++[⟨gk,gn,gs,ps⟩],spD (l.drop m),f,rfl,by omega,by simp;omega,HR,by simpa using hN6,hB6⟩
     case measure =>
      have:=HLS.out
      simp [Lib.strSize,strB_size]
      omega
structure Mem where
 inner:Bool
 it:Itm
 its:List Itm
 ps:List Prm
def noItm:Itm:=⟨0,0,[],[]⟩
def innL (l:List UInt8):Option (Mem×List UInt8):=match itsL l with
 | none=>none
 | some (xs,r)=>match psL r [] 0 with
  | none=>none
  | some (ps,m)=>some (⟨true,noItm,xs,ps⟩,r.drop m)
def memL (l:List UInt8):Option (Mem×List UInt8):=
 if l.head? = some 40 then innL (l.drop 1)else match itmL l with
  | none=>none
  | some (g,ps,m)=>some (⟨false,⟨g.k,g.n,g.s,ps⟩,[],[]⟩,l.drop m)
abbrev aggM (b:Bool) (k n:Int) (s:ByteArray) (u vi vp:Value):Value:=.agg #[.bool b,.int .i64 k,.int .i64 n,.string s,u,vi,vp]
abbrev noMem:Value:=aggM false 0 0 ⟨#[]⟩ (.slice none 0 0) (.slice none 0 0) (.slice none 0 0)
abbrev zeroMem:Obj:=.cells #[.bool false,.int .i64 0,.int .i64 0,.string ⟨#[]⟩,.slice none 0 0,.slice none 0 0,.slice none 0 0] 119
def MemAt (lo:Nat) (blk:Option Nat) (w:World) (M:Mem) (v:Value):Prop:=
 ∃u vi vp,v=aggM M.inner M.it.k M.it.n (strB M.it.s) u vi vp∧PrmsOff lo blk w u M.it.ps∧ItmsOff lo blk w vi M.its∧PrmsOff lo blk w vp M.ps
def memPost (o:Option (Mem×List UInt8)) (w:World) (e:Ending) (w':World):Prop:=
 Below w.heap.size w w'∧match o with
  | none=>e=.returned (.tuple #[noMem,.string ⟨#[]⟩,.int .i64 2])
  | some (M,r)=>∃v,e=.returned (.tuple #[v,.string (strB r),.int .i64 0])∧MemAt w.heap.size none w' M v
structure ResM (W:World) (c:Nat):Prop where
 r0:W.cell? ⟨c,0,none⟩=some (.bool false)
 r1:W.cell? ⟨c,1,none⟩=some (.int .i64 0)
 r2:W.cell? ⟨c,2,none⟩=some (.int .i64 0)
 r3:W.cell? ⟨c,3,none⟩=some (.string ⟨#[]⟩)
 r4:W.cell? ⟨c,4,none⟩=some (.slice none 0 0)
 r5:W.cell? ⟨c,5,none⟩=some (.slice none 0 0)
 r6:W.cell? ⟨c,6,none⟩=some (.slice none 0 0)
 g0:W.frozen? ⟨c,0,none⟩=false
 g1:W.frozen? ⟨c,1,none⟩=false
 g2:W.frozen? ⟨c,2,none⟩=false
 g3:W.frozen? ⟨c,3,none⟩=false
 g4:W.frozen? ⟨c,4,none⟩=false
 g5:W.frozen? ⟨c,5,none⟩=false
 g6:W.frozen? ⟨c,6,none⟩=false
theorem ResM.made (w:World):ResM (w.alloc zeroMem) w.heap.size:=⟨by simp,by simp,by simp,by simp,by simp,by simp,by simp,by simp,by simp,by simp,by simp,by simp,by simp,by simp⟩
theorem ResM.lt {W:World} {c:Nat} (h:ResM W c):c<W.heap.size:=lt_of_cell h.r0
theorem ResM.next {W W1:World} {c:Nat} (h:ResM W c) (hb:Below (c+1) W W1):ResM W1 c:=by
 have hc:∀i,W1.cell? ⟨c,i,none⟩=W.cell? ⟨c,i,none⟩:=fun i=>hb.cell (p:=⟨c,i,none⟩) (Nat.lt_succ_self _)
 have hf:∀i,W1.frozen? ⟨c,i,none⟩=W.frozen? ⟨c,i,none⟩:=fun i=>hb.frozen (p:=⟨c,i,none⟩) (Nat.lt_succ_self _)
 exact⟨(hc 0).trans h.r0,(hc 1).trans h.r1,(hc 2).trans h.r2,(hc 3).trans h.r3,(hc 4).trans h.r4,(hc 5).trans h.r5,(hc 6).trans h.r6,(hf 0).trans h.g0,(hf 1).trans h.g1,(hf 2).trans h.g2,(hf 3).trans h.g3,(hf 4).trans h.g4,(hf 5).trans h.g5,(hf 6).trans h.g6⟩
theorem itsF_le (f:Nat):∀(l:List UInt8) (acc xs:List Itm) (r:List UInt8),itsF f l acc=some (xs,r)→r.length≤l.length:=by
 induction f with
 | zero=>intro l acc xs r h;cases h
 | succ f ih =>
  intro l acc xs r h
  by_cases h41:l.head? = some 41
  ·rw [itsF_end f l acc h41]at h
   obtain⟨_,rfl⟩:=Prod.mk.inj (Option.some.inj h)
   rw [List.length_drop];omega
  ·cases hi:itmL l with
   | none=>rw [itsF_none f l acc h41 hi]at h;cases h
   | some x =>
    obtain⟨g,ps,m⟩:=x
    cases he:endI (l.drop m)with
    | false=>rw [itsF_bad f l acc g ps m h41 hi he]at h;cases h
    | true =>
     rw [itsF_some f l acc g ps m h41 hi he]at h
     have h1:=ih _ _ _ _ h
     have h2:=spD_le (l.drop m)
     rw [List.length_drop]at h2
     omega
theorem itsL_le (l:List UInt8) (xs:List Itm) (r:List UInt8) (h:itsL l=some (xs,r)):r.length≤l.length:=Nat.le_trans (itsF_le _ _ _ _ _ h) (spD_le l)
theorem readInner_any (s:ByteArray) (w:World) (hs:s.size≤100000) (hA:Alph w) :
  Calls Tryz.prog 199 #[.string s] w (memPost (innL s.data.toList) w):=by
 have hb0:Below w.heap.size w (w.alloc zeroMem):=(Below.refl _ _).alloc (zR _) _
 have HA:=zH hA
 have HR0:=zH (ResM.made w)
 have cI:=fun W hW=>readItems_any s W hs hW
 clear hA
 cases hits:itsL s.data.toList with
 | none =>
  have HL:Hid (innL s.data.toList=none):=zH (by rw [innL,hits])
  rw [hits]at cI
  clear hits
  go_enter Tryz.func199,Tryz.ntmps199
  go_wp2_with fail
  refine(cI _ (HA.out.below hb0)).mono ?_
  rintro e w1 ⟨hb1,rfl⟩
  have hR1:=HR0.out.next (by simpa using hb1)
  have hB1:=hb0.trans (hb1.mono hb0.size)
  have hlt:=hR1.lt
  obtain⟨r0,r1,r2,r3,r4,r5,r6,g0,g1,g2,g3,g4,g5,g6⟩:=hR1
  clear hb1 cI
  go_wp2_with fail
  refine bodyPost_ret (v:=.tuple #[noMem,.string ⟨#[]⟩,.int .i64 2]) (by simp [results,Tryz.results199,go_sem,r0,r1,r2,r3,r4,r5,r6]) rfl ?_
  rw [HL.out]
  refine⟨?_,rfl⟩
  repeat(first | with_reducible refine Below.alloc ?_ (by simp;omega) _ | with_reducible refine Below.setCell ?_ (by simp) _)
  exact hB1
 | some x =>
  obtain⟨xs,r⟩:=x
  have hr:=itsL_le _ _ _ hits
  rw [← Lib.size_eq]at hr
  have hrs:=strB_size r
  have cP:=fun W hW=>iparams_any (strB r) W (by omega) hW
  rw [strB_data]at cP
  have HLS:=zH hrs
  have hls3:(strB r).size≤100000:=by omega
  have hinn:innL s.data.toList=(match psL r [] 0 with
   | none=>none
   | some (ps,m)=>some (⟨true,noItm,xs,ps⟩,r.drop m)):=by rw [innL,hits]
  rw [hits]at cI
  clear hits hrs
  cases hps:psL r [] 0 with
  | none =>
   have HL:Hid (innL s.data.toList=none):=zH (by rw [hinn,hps])
   rw [hps]at cP
   clear hps hinn
   generalize hRr:strB r=R at *
   have HRr:=zH hRr
   clear hRr
   go_enter Tryz.func199,Tryz.ntmps199
   go_wp2_with fail
   refine(cI _ (HA.out.below hb0)).mono ?_
   rintro e w1 ⟨hb1,v1,rfl,ho1⟩
   rw [HRr.out]
   obtain⟨us,u1,u2,u3⟩:=ho1
   obtain⟨ao1,cap1,rfl⟩:=owns_form u2
   have hR1:=HR0.out.next (by simpa using hb1)
   have hB1:=hb0.trans (hb1.mono hb0.size)
   have HR1:=zH hR1
   clear hb1 cI u1 u2 u3 hR1
   go_wp2_with fail
   refine(cP _ (HA.out.below hB1)).mono ?_
   rintro e w2 ⟨hb2,rfl⟩
   have hR2:=HR1.out.next (hb2.mono (Nat.succ_le_of_lt HR1.out.lt))
   have hB2:=hB1.trans (hb2.mono hB1.size)
   have hlt:=hR2.lt
   obtain⟨r0,r1,r2,r3,r4,r5,r6,g0,g1,g2,g3,g4,g5,g6⟩:=hR2
   clear hb2 cP
   go_wp2_with fail
   refine bodyPost_ret (v:=.tuple #[noMem,.string ⟨#[]⟩,.int .i64 2]) (by simp [results,Tryz.results199,go_sem,r0,r1,r2,r3,r4,r5,r6]) rfl ?_
   rw [HL.out]
   refine⟨?_,rfl⟩
   repeat(first | with_reducible refine Below.alloc ?_ (by simp;omega) _ | with_reducible refine Below.setCell ?_ (by simp) _)
   exact hB2
  | some y =>
   obtain⟨ps,m⟩:=y
   have HL:Hid (innL s.data.toList=some (⟨true,noItm,xs,ps⟩,r.drop m)):=zH (by rw [hinn,hps])
   have hk:=psL_le _ _ _ _ _ _ (zR _) hps
   rw [Nat.zero_add]at hk
   rw [hps]at cP
   have j2:(m:Int)≤((strB r).size:Int):=by have:=HLS.out;omega
   have j0:(0:Int)≤(m:Int):=by omega
   have HX:Hid ((strB r).extract m (strB r).size=strB (r.drop m)):=zH (by rw [← strB_of ((strB r).extract m (strB r).size),Lib.extract_to_end,strB_data])
   clear hps hinn hk
   generalize hRr:strB r=R at *
   have HRr:=zH hRr
   clear hRr
   go_enter Tryz.func199,Tryz.ntmps199
   go_wp2_with fail
   refine(cI _ (HA.out.below hb0)).mono ?_
   rintro e w1 ⟨hb1,v1,rfl,ho1⟩
   rw [HRr.out]
   have HO1:=zH ((ho1.off (blk:=none) (fun g hg=>by cases hg)).low (show w.heap.size+1≤_ by simp))
   obtain⟨us,u1,u2,u3⟩:=ho1
   obtain⟨ao1,cap1,rfl⟩:=owns_form u2
   have hR1:=HR0.out.next (by simpa using hb1)
   have hB1:=hb0.trans (hb1.mono hb0.size)
   have HR1:=zH hR1
   clear hb1 cI u1 u2 u3 hR1
   go_wp2_with fail
   refine(cP _ (HA.out.below hB1)).mono ?_
   rintro e w2 ⟨hb2,v2,rfl,ho2⟩
   have HP2:=zH (PrmsOff.made (lo:=w.heap.size+1) (blk:=none) ho2 (Nat.succ_le_of_lt HR1.out.lt) (fun g hg=>by cases hg))
   obtain⟨ao2,cap2,rfl⟩:=owns_form ho2
   have HO2:=zH (HO1.out.below hb2)
   have hR2:=HR1.out.next (hb2.mono (Nat.succ_le_of_lt HR1.out.lt))
   have hB2:=hB1.trans (hb2.mono hB1.size)
   have hlt:=hR2.lt
   obtain⟨r0,r1,r2,r3,r4,r5,r6,g0,g1,g2,g3,g4,g5,g6⟩:=hR2
   clear hb2 cP ho2
   go_wp2_with fail
   go_region
   all_goals
    go_wp2_with fail
    refine bodyPost_ret (v:=.tuple #[aggM true 0 0 ⟨#[]⟩ (.slice none 0 0) (.slice ao1 xs.length cap1) (.slice ao2 ps.length cap2),.string (R.extract m R.size),.int .i64 0]) (by simp [results,Tryz.results199,go_sem,r0,r1,r2,r3,r4,r5,r6]) rfl ?_
    rw [HL.out]
    have hm:Moved w.heap.size w2 ((((((((w2.setCell ⟨w.heap.size,0,none⟩ (.bool true)).setCell ⟨w.heap.size,1,none⟩ (.int .i64 0)).setCell ⟨w.heap.size,2,none⟩ (.int .i64 0)).setCell ⟨w.heap.size,3,none⟩ (.string ⟨#[]⟩)).setCell ⟨w.heap.size,4,none⟩ (.slice none 0 0)).setCell ⟨w.heap.size,5,none⟩ (.slice ao1 xs.length cap1)).setCell ⟨w.heap.size,6,none⟩ (.slice ao2 ps.length cap2)).drew):=by
     repeat(first | with_reducible refine Moved.drew1 ?_ | with_reducible refine Moved.alloc ?_ _ | with_reducible refine Moved.setCell ?_ _)
     exact Moved.refl _ _
    refine⟨?_,_,by rw [HX.out]<;>rfl,.slice none 0 0,_,_,rfl,PrmsOff.nothing _ _ _,(HO2.out.moved hm (Nat.lt_succ_self _)).low (Nat.le_succ _),(HP2.out.moved hm (Nat.lt_succ_self _)).low (Nat.le_succ _)⟩
    repeat(first | with_reducible refine Below.alloc ?_ (by simp;omega) _ | with_reducible refine Below.setCell ?_ (by simp) _ | with_reducible refine Below.drew ?_)
    exact hB2
abbrev itemO (k n:Int) (s:ByteArray) (v:Value):Obj:=.cells #[.int .i64 k,.int .i64 n,.string s,v] 116
theorem PrmsOff.mono {lo:Nat} {blk:Option Nat} {w:World} {v:Value} {ps:List Prm} {M:Mem} (h:PrmsOff lo blk w v ps) (e:M.ps=ps):PrmsOff lo blk w v M.ps:=by rw [e];exact h
theorem readMember_any (s:ByteArray) (w:World) (hs:s.size≤100000) (hA:Alph w) :
  Calls Tryz.prog 164 #[.string s] w (memPost (memL s.data.toList) w):=by
 have hb0:Below w.heap.size w (w.alloc zeroMem):=(Below.refl _ _).alloc (zR _) _
 have HA:=zH hA
 have HR0:=zH (ResM.made w)
 clear hA
 by_cases h40:s.data.toList.head? = some 40
 ·have hds:=strB_size (s.data.toList.drop 1)
  rw [List.length_drop,← Lib.size_eq]at hds
  have cC:=fun W=>cut_yes s 40 W h40
  have cI:=fun W hW=>readInner_any (strB (s.data.toList.drop 1)) W (by omega) hW
  rw [strB_data]at cI
  have HL:Hid (memL s.data.toList=innL (s.data.toList.drop 1)):=zH (by rw [memL,if_pos h40])
  clear h40 hds
  generalize strB (s.data.toList.drop 1)=R at *
  cases hin:innL (s.data.toList.drop 1)with
  | none =>
   rw [hin]at cI HL
   clear hin
   go_enter Tryz.func164,Tryz.ntmps164
   go_wp2_with fail
   refine(cC _).mono ?_
   rintro e w1 ⟨rfl,rfl⟩
   go_wp2_with fail
   refine(cI _ (HA.out.below hb0)).mono ?_
   rintro e w1 ⟨hb1,rfl⟩
   have hR1:=HR0.out.next (by simpa using hb1)
   have hB1:=hb0.trans (hb1.mono hb0.size)
   have hlt:=hR1.lt
   obtain⟨r0,r1,r2,r3,r4,r5,r6,g0,g1,g2,g3,g4,g5,g6⟩:=hR1
   clear hb1 cI cC
   go_wp2_with fail
   refine bodyPost_ret (v:=.tuple #[noMem,.string ⟨#[]⟩,.int .i64 2]) (by simp [results,Tryz.results164,go_sem,r0,r1,r2,r3,r4,r5,r6]) rfl ?_
   rw [HL.out]
   refine⟨?_,rfl⟩
   repeat(first | with_reducible refine Below.alloc ?_ (by simp;omega) _ | with_reducible refine Below.setCell ?_ (by simp) _)
   exact hB1
  | some x =>
   obtain⟨M,r⟩:=x
   rw [hin]at cI HL
   clear hin
   go_enter Tryz.func164,Tryz.ntmps164
   go_wp2_with fail
   refine(cC _).mono ?_
   rintro e w1 ⟨rfl,rfl⟩
   go_wp2_with fail
   refine(cI _ (HA.out.below hb0)).mono ?_
   rintro e w1 ⟨hb1,v1,rfl,u,vi,vp,rfl,hu,hvi,hvp⟩
   have hR1:=HR0.out.next (by simpa using hb1)
   have hB1:=hb0.trans (hb1.mono hb0.size)
   have hlt:=hR1.lt
   obtain⟨r0,r1,r2,r3,r4,r5,r6,g0,g1,g2,g3,g4,g5,g6⟩:=hR1
   obtain⟨ao1,cap1,rfl⟩:=hu.form
   obtain⟨ao2,cap2,rfl⟩:=hvi.form
   obtain⟨ao3,cap3,rfl⟩:=hvp.form
   have HU:=zH (hu.low (show w.heap.size+1≤_ by simp))
   have HV:=zH (hvi.low (show w.heap.size+1≤_ by simp))
   have HW:=zH (hvp.low (show w.heap.size+1≤_ by simp))
   clear hb1 cI cC hu hvi hvp
   go_wp2_with fail
   refine bodyPost_ret (v:=.tuple #[aggM M.inner M.it.k M.it.n (strB M.it.s) (.slice ao1 M.it.ps.length cap1) (.slice ao2 M.its.length cap2) (.slice ao3 M.ps.length cap3),.string (strB r),.int .i64 0]) (by simp [results,Tryz.results164,go_sem,r0,r1,r2,r3,r4,r5,r6]) rfl ?_
   rw [HL.out]
   have hm:Moved w.heap.size w1 (((((((w1.setCell ⟨w.heap.size,0,none⟩ (.bool M.inner)).setCell ⟨w.heap.size,1,none⟩ (.int .i64 M.it.k)).setCell ⟨w.heap.size,2,none⟩ (.int .i64 M.it.n)).setCell ⟨w.heap.size,3,none⟩ (.string (strB M.it.s))).setCell ⟨w.heap.size,4,none⟩ (.slice ao1 M.it.ps.length cap1)).setCell ⟨w.heap.size,5,none⟩ (.slice ao2 M.its.length cap2)).setCell ⟨w.heap.size,6,none⟩ (.slice ao3 M.ps.length cap3)):=by
    repeat(first | with_reducible refine Moved.drew1 ?_ | with_reducible refine Moved.alloc ?_ _ | with_reducible refine Moved.setCell ?_ _)
    exact Moved.refl _ _
   refine⟨?_,_,rfl,_,_,_,rfl,(HU.out.moved hm (Nat.lt_succ_self _)).low (Nat.le_succ _),(HV.out.moved hm (Nat.lt_succ_self _)).low (Nat.le_succ _),(HW.out.moved hm (Nat.lt_succ_self _)).low (Nat.le_succ _)⟩
   repeat(first | with_reducible refine Below.alloc ?_ (by simp;omega) _ | with_reducible refine Below.setCell ?_ (by simp) _ | with_reducible refine Below.drew ?_)
   exact hB1
 ·have cC:=fun W=>cut_no s 40 W h40
  have cI:=fun W hW=>iread_any s W hs hW
  have hL:memL s.data.toList=(match itmL s.data.toList with
   | none=>none
   | some (g,ps,m)=>some (⟨false,⟨g.k,g.n,g.s,ps⟩,[],[]⟩,s.data.toList.drop m)):=by rw [memL,if_neg h40]<;>rfl
  clear h40
  cases hin:itmL s.data.toList with
  | none =>
   have HL:Hid (memL s.data.toList=none):=zH (by rw [hL,hin])
   rw [hin]at cI
   clear hin hL
   go_enter Tryz.func164,Tryz.ntmps164
   go_wp2_with fail
   refine(cC _).mono ?_
   rintro e w1 ⟨rfl,rfl⟩
   go_wp2_with fail
   refine(cI _ (HA.out.below hb0)).mono ?_
   rintro e w1 ⟨hb1,rfl⟩
   have hR1:=HR0.out.next (by simpa using hb1)
   have hB1:=hb0.trans (hb1.mono hb0.size)
   have hlt:=hR1.lt
   obtain⟨r0,r1,r2,r3,r4,r5,r6,g0,g1,g2,g3,g4,g5,g6⟩:=hR1
   clear hb1 cI cC
   go_wp2_with fail
   refine bodyPost_ret (v:=.tuple #[noMem,.string ⟨#[]⟩,.int .i64 2]) (by simp [results,Tryz.results164,go_sem,r0,r1,r2,r3,r4,r5,r6,hlt]) rfl ?_
   rw [HL.out]
   refine⟨?_,rfl⟩
   repeat(first | with_reducible refine Below.alloc ?_ (by simp;omega) _ | with_reducible refine Below.setCell ?_ (by simp) _)
   exact hB1
  | some x =>
   obtain⟨g,ps,m⟩:=x
   have HL:Hid (memL s.data.toList=some (⟨false,⟨g.k,g.n,g.s,ps⟩,[],[]⟩,s.data.toList.drop m)):=zH (by rw [hL,hin])
   have hm2:=itmL_le _ _ _ _ hin
   rw [← Lib.size_eq]at hm2
   rw [hin]at cI
   have j2:(m:Int)≤(s.size:Int):=by omega
   have j0:(0:Int)≤(m:Int):=by omega
   have HX:Hid (s.extract m s.size=strB (s.data.toList.drop m)):=zH (by rw [← strB_of (s.extract m s.size),Lib.extract_to_end])
   clear hin hL
   obtain⟨gk,gn,gs,gm⟩:=g
   simp only at cI HL
   generalize hG:strB gs=G at *
   have HG:=zH hG
   clear hG
   go_enter Tryz.func164,Tryz.ntmps164
   go_wp2_with fail
   refine(cC _).mono ?_
   rintro e w1 ⟨rfl,rfl⟩
   go_wp2_with fail
   refine(cI _ (HA.out.below hb0)).mono ?_
   rintro e w1 ⟨hb1,v1,rfl,ho1⟩
   simp only
   rw [HG.out]
   have HU:=zH (PrmsOff.made (lo:=w.heap.size+1) (blk:=none) ho1 (by simp) (fun g hg=>by cases hg))
   obtain⟨ao1,cap1,rfl⟩:=owns_form ho1
   have hR1:=HR0.out.next (by simpa using hb1)
   have hB1:=hb0.trans (hb1.mono hb0.size)
   have hlt:=hR1.lt
   obtain⟨r0,r1,r2,r3,r4,r5,r6,g0,g1,g2,g3,g4,g5,g6⟩:=hR1
   clear hb1 cI cC ho1
   go_wp2_with fail
   go_region
   all_goals
    go_wp2_with fail
    refine bodyPost_ret (v:=.tuple #[aggM false gk gn G (.slice ao1 ps.length cap1) (.slice none 0 0) (.slice none 0 0),.string (s.extract m s.size),.int .i64 0]) (by simp [results,Tryz.results164,go_sem,r0,r1,r2,r3,r4,r5,r6,hlt]) rfl ?_
    rw [HL.out]
    refine⟨?_,_,by rw [HX.out],.slice ao1 ps.length cap1,.slice none 0 0,.slice none 0 0,by rw [HG.out],(HU.out.moved (c:=w.heap.size) ?_ (Nat.lt_succ_self _)).low (Nat.le_succ _),ItmsOff.nothing _ _ _,PrmsOff.nothing _ _ _⟩
    ·repeat(first | with_reducible refine Below.alloc ?_ (by simp;omega) _ | with_reducible refine Below.setCell ?_ (by simp) _ | with_reducible refine Below.drew ?_)
     exact hB1
    ·repeat(first | with_reducible refine Moved.drew1 ?_ | with_reducible refine Moved.alloc ?_ _ | with_reducible refine Moved.setCell ?_ _)
     exact Moved.refl _ _
theorem PrmsOff.step {lo g:Nat} {blk:Option Nat} {w w1:World} {v:Value} {ps:List Prm} (h:PrmsOff lo blk w v ps) (hg:w.grownBy w1 blk) (hat:blk=some g∨g=w.heap.size):PrmsOff lo (some g) w1 v ps:=by
 rcases hat with rfl | hat
 ·exact h.grown hg
 ·obtain⟨ao,c2,hv,hc⟩:=h
  rcases hc with hc | ⟨b,off,q1,q0,q2,q3,q4⟩
  ·exact⟨ao,c2,hv,.inl hc⟩
  ·refine⟨ao,c2,hv,.inr ⟨b,off,q1,q0,?_,Nat.lt_of_lt_of_le q3 hg.size,fun j u hj=>(grown_cell hg q3 q2 _).trans (q4 j u hj)⟩⟩
   intro e
   have:=Option.some.inj e
   omega
theorem ItmsOff.step {lo g:Nat} {blk:Option Nat} {w w1:World} {v:Value} {xs:List Itm} (h:ItmsOff lo blk w v xs) (hg:w.grownBy w1 blk) (hat:blk=some g∨g=w.heap.size):ItmsOff lo (some g) w1 v xs:=by
 obtain⟨ao,c2,hv,hc⟩:=h
 rcases hc with hc | ⟨b,off,q1,q0,q2,q3,q4⟩
 ·exact⟨ao,c2,hv,.inl hc⟩
 ·refine⟨ao,c2,hv,.inr ⟨b,off,q1,q0,?_,Nat.lt_of_lt_of_le q3 hg.size,fun j x hx=>?_⟩⟩
  ·rcases hat with rfl | hat
   ·exact q2
   ·intro e
    have:=Option.some.inj e
    omega
  ·obtain⟨u,⟨c0,c1,c2,c3⟩,hp⟩:=q4 j x hx
   have hk:∀i,w1.cell? ⟨b,i,none⟩=w.cell? ⟨b,i,none⟩:=fun i=>grown_cell hg q3 q2 i
   exact⟨u,⟨(hk _).trans c0,(hk _).trans c1,(hk _).trans c2,(hk _).trans c3⟩,hp.step hg hat⟩
structure Rowing (α β:Type) where
 size:Nat
 cells:α→β→List Value
 F:Nat→Option Nat→World→α→β→Prop
 len:∀x u,(cells x u).length=size
 below:∀{lo blk w w' x u},F lo blk w x u→Below w.heap.size w w'→F lo blk w' x u
 step:∀{lo g:Nat} {blk w w1 x u},F lo blk w x u→w.grownBy w1 blk→(blk=some g∨g=w.heap.size)→F lo (some g) w1 x u
 low:∀{lo lo':Nat} {blk w x u},F lo blk w x u→lo'≤lo→F lo' blk w x u
 avoid:∀{lo:Nat} {blk blk':Option Nat} {w x u},F lo blk w x u→(∀g,blk'=some g→g<lo)→F lo blk' w x u
variable {α β:Type}
def rowG (R:Rowing α β):List (α×β)→List Value
 | []=>[]
 | (x,u) :: r=>R.cells x u++rowG R r
theorem rowG_snoc (R:Rowing α β) (l:List (α×β)) (x:α) (u:β):rowG R (l++[(x,u)])=rowG R l++R.cells x u:=by
 induction l with
 | nil=>simp [rowG]
 | cons y r ih =>
  obtain⟨y,v⟩:=y
  rw [List.cons_append,rowG,rowG,ih,List.append_assoc]
theorem rowG_at (R:Rowing α β):∀(l:List (α×β)) (i j:Nat) (x:α) (u:β),l[i]? = some (x,u)→j<R.size→(rowG R l)[i*R.size+j]? = (R.cells x u)[j]?
 | [],i,j,x,u,h,_=>by simp at h
 | (y,v) :: l,0,j,x,u,h,hj=>by
  obtain⟨rfl,rfl⟩:=Prod.mk.inj (Option.some.inj h)
  rw [rowG,Nat.zero_mul,Nat.zero_add,List.getElem?_append_left (by rw [R.len];exact hj)]
 | (y,v) :: l,i+1,j,x,u,h,hj=>by
  have:=rowG_at R l i j x u h hj
  rw [rowG,List.getElem?_append_right (by rw [R.len,Nat.add_mul];omega),R.len,← this]
  congr 1
  rw [Nat.add_mul]
  omega
def OwnG (R:Rowing α β) (T:TypeId) (w:World) (base:Nat) (v:Value) (xs:List α):Prop:=
 ∃us:List β,us.length=xs.length∧w.ownsRow base T R.size v xs.length (rowG R (xs.zip us))∧∀(j:Nat) (u:β) (x:α),us[j]? = some u→xs[j]? = some x→R.F base v.ownBlock w x u
theorem OwnG.nothing (R:Rowing α β) (T:TypeId) (w:World) (base:Nat):OwnG R T w base (.slice none 0 0) []:=⟨[],rfl,World.ownsRow_nil _ _ _ _,fun j u x h=>by simp at h⟩
theorem OwnG.below {R:Rowing α β} {T:TypeId} {w w':World} {base:Nat} {v:Value} {xs:List α} (h:OwnG R T w base v xs) (hb:Below w.heap.size w w'):OwnG R T w' base v xs:=by
 obtain⟨us,h1,h2,h3⟩:=h
 exact⟨us,h1,ownsRow_later h2 hb,fun j u x hu hx=>R.below (h3 j u x hu hx) hb⟩
theorem OwnG.low {R:Rowing α β} {T:TypeId} {w:World} {base B:Nat} {v:Value} {xs:List α} (h:OwnG R T w base v xs) (hB:B≤base):OwnG R T w B v xs:=by
 obtain⟨us,h1,h2,h3⟩:=h
 exact⟨us,h1,ownsRow_low h2 hB,fun j u x hu hx=>R.low (h3 j u x hu hx) hB⟩
theorem OwnG.snoc {R:Rowing α β} {T:TypeId} {w w1:World} {base:Nat} {v:Value} {u:β} {xs:List α} {x:α} {us:List β} {g cap:Nat} (h1:us.length=xs.length) (h3:∀(j:Nat) (u:β) (x:α),us[j]? = some u→xs[j]? = some x→R.F base v.ownBlock w x u) (hu:R.F base v.ownBlock w x u)
  (hown:w1.ownsRow base T R.size (.slice (some ⟨g,0,none⟩) (xs.length+1) cap) (xs.length+1) (rowG R (xs.zip us)++R.cells x u)) (hg:w.grownBy w1 v.ownBlock) (hat:v.ownBlock=some g∨g=w.heap.size):OwnG R T w1 base (.slice (some ⟨g,0,none⟩) (xs.length+1) cap) (xs++[x]):=by
 refine⟨us++[u],by simp [h1],?_,?_⟩
 ·rw [List.length_append,List.zip_append h1.symm]
  show w1.ownsRow base T R.size _ (xs.length+1) (rowG R (xs.zip us++[(x,u)]))
  rw [rowG_snoc]
  exact hown
 ·intro j u' x' hu' hx'
  rw [List.getElem?_append]at hu' hx'
  show R.F base (some g) w1 x' u'
  by_cases hj:j<us.length
  ·rw [if_pos hj]at hu'
   rw [if_pos (by omega)]at hx'
   exact R.step (h3 j u' x' hu' hx') hg hat
  ·rw [if_neg hj]at hu'
   rw [if_neg (by omega)]at hx'
   have hj0:j-us.length=0:=by
    have:=(List.getElem?_eq_some_iff.1 hu').1
    simp only [List.length_singleton]at this
    omega
   rw [hj0]at hu'
   rw [← h1,hj0]at hx'
   obtain rfl:=Option.some.inj hu'
   obtain rfl:=Option.some.inj hx'
   exact R.step hu hg hat
def memR:Rowing Mem (Value×Value×Value) where
 size:=7
 cells M u:=[.bool M.inner,.int .i64 M.it.k,.int .i64 M.it.n,.string (strB M.it.s),u.1,u.2.1,u.2.2]
 F lo blk w M u:=PrmsOff lo blk w u.1 M.it.ps∧ItmsOff lo blk w u.2.1 M.its∧PrmsOff lo blk w u.2.2 M.ps
 len _ _:=rfl
 below h hb:=⟨h.1.below hb,h.2.1.below hb,h.2.2.below hb⟩
 step h hg hat:=⟨h.1.step hg hat,h.2.1.step hg hat,h.2.2.step hg hat⟩
 low h hl:=⟨h.1.low hl,h.2.1.low hl,h.2.2.low hl⟩
 avoid h hb:=⟨h.1.avoid hb,h.2.1.avoid hb,h.2.2.avoid hb⟩
structure Ent where
 key:List UInt8
 val:Mem
def entR:Rowing Ent (Value×Value×Value) where
 size:=8
 cells E u:=.string (strB E.key) :: memR.cells E.val u
 F lo blk w E u:=memR.F lo blk w E.val u
 len _ _:=rfl
 below h hb:=memR.below h hb
 step h hg hat:=memR.step h hg hat
 low h hl:=memR.low h hl
 avoid h hb:=memR.avoid h hb
variable {α β:Type}
def sepF {α:Type} (read:List UInt8→Option (α×List UInt8)):Nat→List UInt8→List α→Option (List α)
 | 0,_,_=>none
 | f+1,l,acc=>match read l with
  | none=>none
  | some (x,r)=>if blD r=[]then some (acc++[x])else if (blD r).head? = some 44 then sepF read f (blD ((blD r).drop 1)) (acc++[x])else none
def sepL {α:Type} (read:List UInt8→Option (α×List UInt8)) (l:List UInt8):Option (List α):=
 if spD l=[]then some []else sepF read (l.length+1) (spD l) []
theorem sepF_none {α:Type} (read:List UInt8→Option (α×List UInt8)) (f:Nat) (l:List UInt8) (acc:List α) (h:read l=none):sepF read (f+1) l acc=none:=by rw [sepF,h]
theorem sepF_end {α:Type} (read:List UInt8→Option (α×List UInt8)) (f:Nat) (l r:List UInt8) (acc:List α) (x:α) (h:read l=some (x,r)) (hb:blD r=[]):sepF read (f+1) l acc=some (acc++[x]):=by
 rw [sepF,h]
 simp [hb]
theorem sepF_bad {α:Type} (read:List UInt8→Option (α×List UInt8)) (f:Nat) (l r:List UInt8) (acc:List α) (x:α) (h:read l=some (x,r)) (hb:blD r≠[]) (hc:(blD r).head?≠some 44):sepF read (f+1) l acc=none:=by
 rw [sepF,h]
 simp [hb,hc]
theorem sepF_more {α:Type} (read:List UInt8→Option (α×List UInt8)) (f:Nat) (l r:List UInt8) (acc:List α) (x:α) (h:read l=some (x,r)) (hb:blD r≠[]) (hc:(blD r).head? = some 44):sepF read (f+1) l acc=sepF read f (blD ((blD r).drop 1)) (acc++[x]):=by
 rw [sepF,h]
 simp [hb,hc]
theorem innL_le (l:List UInt8) (M:Mem) (r:List UInt8) (h:innL l=some (M,r)):r.length≤l.length:=by
 unfold innL at h
 split at h
 ·cases h
 ·rename_i xs r1 hi
  have h1:=itsL_le _ _ _ hi
  split at h
  ·cases h
  ·obtain⟨_,rfl⟩:=Prod.mk.inj (Option.some.inj h)
   rw [List.length_drop];omega
theorem memL_le (l:List UInt8) (M:Mem) (r:List UInt8) (h:memL l=some (M,r)):r.length≤l.length:=by
 unfold memL at h
 split at h
 ·have:=innL_le _ _ _ h
  rw [List.length_drop]at this
  omega
 ·split at h
  ·cases h
  ·obtain⟨_,rfl⟩:=Prod.mk.inj (Option.some.inj h)
   rw [List.length_drop];omega
abbrev memO (b:Bool) (k n:Int) (s:ByteArray) (u vi vp:Value):Obj:=.cells #[.bool b,.int .i64 k,.int .i64 n,.string s,u,vi,vp] 119
theorem empty_iff (l:List UInt8):(strB l).toList.isEmpty=l.isEmpty:=by rw [Lib.toList_data,strB_data]
def valM (l:List UInt8):Option (Mem×List UInt8):=
 if l.head? = some 61 then memL (l.drop 1)else match psL l [] 0 with
  | none=>none
  | some (ps,m)=>some (⟨false,⟨6,1,[],ps⟩,[],[]⟩,l.drop m)
def entL (l:List UInt8):Option (Ent×List UInt8):=
 if klen l=0 then none else match valM (l.drop (klen l))with
  | none=>none
  | some (M,r)=>some (⟨l.take (klen l),M⟩,r)
theorem readValue_any (s:ByteArray) (w:World) (hs:s.size≤100000) (hA:Alph w) :
  Calls Tryz.prog 129 #[.string s] w (memPost (valM s.data.toList) w):=by
 have hb0:Below w.heap.size w (w.alloc zeroMem):=(Below.refl _ _).alloc (zR _) _
 have HA:=zH hA
 have HR0:=zH (ResM.made w)
 clear hA
 by_cases h40:s.data.toList.head? = some 61
 ·have hds:=strB_size (s.data.toList.drop 1)
  rw [List.length_drop,← Lib.size_eq]at hds
  have cC:=fun W=>cut_yes s 61 W h40
  have cI:=fun W hW=>readMember_any (strB (s.data.toList.drop 1)) W (by omega) hW
  rw [strB_data]at cI
  have HL:Hid (valM s.data.toList=memL (s.data.toList.drop 1)):=zH (by rw [valM,if_pos h40])
  clear h40 hds
  generalize strB (s.data.toList.drop 1)=R at *
  cases hin:memL (s.data.toList.drop 1)with
  | none =>
   rw [hin]at cI HL
   clear hin
   go_enter Tryz.func129,Tryz.ntmps129
   go_wp2_with fail
   refine(cC _).mono ?_
   rintro e w1 ⟨rfl,rfl⟩
   go_wp2_with fail
   refine(cI _ (HA.out.below hb0)).mono ?_
   rintro e w1 ⟨hb1,rfl⟩
   have hR1:=HR0.out.next (by simpa using hb1)
   have hB1:=hb0.trans (hb1.mono hb0.size)
   have hlt:=hR1.lt
   obtain⟨r0,r1,r2,r3,r4,r5,r6,g0,g1,g2,g3,g4,g5,g6⟩:=hR1
   clear hb1 cI cC
   go_wp2_with fail
   refine bodyPost_ret (v:=.tuple #[noMem,.string ⟨#[]⟩,.int .i64 2]) (by simp [results,Tryz.results129,go_sem,r0,r1,r2,r3,r4,r5,r6]) rfl ?_
   rw [HL.out]
   refine⟨?_,rfl⟩
   repeat(first | with_reducible refine Below.alloc ?_ (by simp;omega) _ | with_reducible refine Below.setCell ?_ (by simp) _)
   exact hB1
  | some x =>
   obtain⟨M,r⟩:=x
   rw [hin]at cI HL
   clear hin
   go_enter Tryz.func129,Tryz.ntmps129
   go_wp2_with fail
   refine(cC _).mono ?_
   rintro e w1 ⟨rfl,rfl⟩
   go_wp2_with fail
   refine(cI _ (HA.out.below hb0)).mono ?_
   rintro e w1 ⟨hb1,v1,rfl,u,vi,vp,rfl,hu,hvi,hvp⟩
   have hR1:=HR0.out.next (by simpa using hb1)
   have hB1:=hb0.trans (hb1.mono hb0.size)
   have hlt:=hR1.lt
   obtain⟨r0,r1,r2,r3,r4,r5,r6,g0,g1,g2,g3,g4,g5,g6⟩:=hR1
   obtain⟨ao1,cap1,rfl⟩:=hu.form
   obtain⟨ao2,cap2,rfl⟩:=hvi.form
   obtain⟨ao3,cap3,rfl⟩:=hvp.form
   have HU:=zH (hu.low (show w.heap.size+1≤_ by simp))
   have HV:=zH (hvi.low (show w.heap.size+1≤_ by simp))
   have HW:=zH (hvp.low (show w.heap.size+1≤_ by simp))
   clear hb1 cI cC hu hvi hvp
   go_wp2_with fail
   refine bodyPost_ret (v:=.tuple #[aggM M.inner M.it.k M.it.n (strB M.it.s) (.slice ao1 M.it.ps.length cap1) (.slice ao2 M.its.length cap2) (.slice ao3 M.ps.length cap3),.string (strB r),.int .i64 0]) (by simp [results,Tryz.results129,go_sem,r0,r1,r2,r3,r4,r5,r6]) rfl ?_
   rw [HL.out]
   have hm:Moved w.heap.size w1 (((((((w1.setCell ⟨w.heap.size,0,none⟩ (.bool M.inner)).setCell ⟨w.heap.size,1,none⟩ (.int .i64 M.it.k)).setCell ⟨w.heap.size,2,none⟩ (.int .i64 M.it.n)).setCell ⟨w.heap.size,3,none⟩ (.string (strB M.it.s))).setCell ⟨w.heap.size,4,none⟩ (.slice ao1 M.it.ps.length cap1)).setCell ⟨w.heap.size,5,none⟩ (.slice ao2 M.its.length cap2)).setCell ⟨w.heap.size,6,none⟩ (.slice ao3 M.ps.length cap3)):=by
    repeat(first | with_reducible refine Moved.drew1 ?_ | with_reducible refine Moved.alloc ?_ _ | with_reducible refine Moved.setCell ?_ _)
    exact Moved.refl _ _
   refine⟨?_,_,rfl,_,_,_,rfl,(HU.out.moved hm (Nat.lt_succ_self _)).low (Nat.le_succ _),(HV.out.moved hm (Nat.lt_succ_self _)).low (Nat.le_succ _),(HW.out.moved hm (Nat.lt_succ_self _)).low (Nat.le_succ _)⟩
   repeat(first | with_reducible refine Below.alloc ?_ (by simp;omega) _ | with_reducible refine Below.setCell ?_ (by simp) _ | with_reducible refine Below.drew ?_)
   exact hB1
 ·have cC:=fun W=>cut_no s 61 W h40
  have cI:=fun W hW=>iparams_any s W hs hW
  have hL:valM s.data.toList=(match psL s.data.toList [] 0 with
   | none=>none
   | some (ps,m)=>some (⟨false,⟨6,1,[],ps⟩,[],[]⟩,s.data.toList.drop m)):=by rw [valM,if_neg h40]
  clear h40
  cases hin:psL s.data.toList [] 0 with
  | none =>
   have HL:Hid (valM s.data.toList=none):=zH (by rw [hL,hin])
   rw [hin]at cI
   clear hin hL
   go_enter Tryz.func129,Tryz.ntmps129
   go_wp2_with fail
   refine(cC _).mono ?_
   rintro e w1 ⟨rfl,rfl⟩
   go_wp2_with fail
   refine(cI _ (HA.out.below hb0)).mono ?_
   rintro e w1 ⟨hb1,rfl⟩
   have hR1:=HR0.out.next (by simpa using hb1)
   have hB1:=hb0.trans (hb1.mono hb0.size)
   have hlt:=hR1.lt
   obtain⟨r0,r1,r2,r3,r4,r5,r6,g0,g1,g2,g3,g4,g5,g6⟩:=hR1
   clear hb1 cI cC
   go_wp2_with fail
   refine bodyPost_ret (v:=.tuple #[noMem,.string ⟨#[]⟩,.int .i64 2]) (by simp [results,Tryz.results129,go_sem,r0,r1,r2,r3,r4,r5,r6]) rfl ?_
   rw [HL.out]
   refine⟨?_,rfl⟩
   repeat(first | with_reducible refine Below.alloc ?_ (by simp;omega) _ | with_reducible refine Below.setCell ?_ (by simp) _)
   exact hB1
  | some x =>
   obtain⟨ps,m⟩:=x
   have HL:Hid (valM s.data.toList=some (⟨false,⟨6,1,[],ps⟩,[],[]⟩,s.data.toList.drop m)):=zH (by rw [hL,hin])
   have hm2:=psL_le _ _ _ _ _ _ (zR _) hin
   rw [← Lib.size_eq,Nat.zero_add]at hm2
   rw [hin]at cI
   have j2:(m:Int)≤(s.size:Int):=by omega
   have j0:(0:Int)≤(m:Int):=by omega
   have HX:Hid (s.extract m s.size=strB (s.data.toList.drop m)):=zH (by rw [← strB_of (s.extract m s.size),Lib.extract_to_end])
   clear hin hL
   go_enter Tryz.func129,Tryz.ntmps129
   go_wp2_with fail
   refine(cC _).mono ?_
   rintro e w1 ⟨rfl,rfl⟩
   go_wp2_with fail
   refine(cI _ (HA.out.below hb0)).mono ?_
   rintro e w1 ⟨hb1,v1,rfl,ho1⟩
   have HU:=zH (PrmsOff.made (lo:=w.heap.size+1) (blk:=none) ho1 (by simp) (fun g hg=>by cases hg))
   obtain⟨ao1,cap1,rfl⟩:=owns_form ho1
   have hR1:=HR0.out.next (by simpa using hb1)
   have hB1:=hb0.trans (hb1.mono hb0.size)
   have hlt:=hR1.lt
   obtain⟨r0,r1,r2,r3,r4,r5,r6,g0,g1,g2,g3,g4,g5,g6⟩:=hR1
   clear hb1 cI cC ho1
   go_wp2_with fail
   go_region
   all_goals
    go_wp2_with fail
    refine bodyPost_ret (v:=.tuple #[aggM false 6 1 ⟨#[]⟩ (.slice ao1 ps.length cap1) (.slice none 0 0) (.slice none 0 0),.string (s.extract m s.size),.int .i64 0]) (by simp [results,Tryz.results129,go_sem,r0,r1,r2,r3,r4,r5,r6,hlt]) rfl ?_
    rw [HL.out]
    refine⟨?_,_,by rw [HX.out]<;>rfl,.slice ao1 ps.length cap1,.slice none 0 0,.slice none 0 0,rfl,(HU.out.moved (c:=w.heap.size) ?_ (Nat.lt_succ_self _)).low (Nat.le_succ _),ItmsOff.nothing _ _ _,PrmsOff.nothing _ _ _⟩
    ·repeat(first | with_reducible refine Below.alloc ?_ (by simp;omega) _ | with_reducible refine Below.setCell ?_ (by simp) _ | with_reducible refine Below.drew ?_)
     exact hB1
    ·repeat(first | with_reducible refine Moved.drew1 ?_ | with_reducible refine Moved.alloc ?_ _ | with_reducible refine Moved.setCell ?_ _)
     exact Moved.refl _ _
abbrev aggE (K:ByteArray) (b:Bool) (k n:Int) (s:ByteArray) (u vi vp:Value):Value:=.agg #[.string K,.bool b,.int .i64 k,.int .i64 n,.string s,u,vi,vp]
abbrev noEnt:Value:=aggE ⟨#[]⟩ false 0 0 ⟨#[]⟩ (.slice none 0 0) (.slice none 0 0) (.slice none 0 0)
abbrev zeroEnt:Obj:=.cells #[.string ⟨#[]⟩,.bool false,.int .i64 0,.int .i64 0,.string ⟨#[]⟩,.slice none 0 0,.slice none 0 0,.slice none 0 0] 121
def EntAt (lo:Nat) (blk:Option Nat) (w:World) (E:Ent) (v:Value):Prop:=
 ∃u vi vp,v=aggE (strB E.key) E.val.inner E.val.it.k E.val.it.n (strB E.val.it.s) u vi vp∧entR.F lo blk w E (u,vi,vp)
def entPost (o:Option (Ent×List UInt8)) (w:World) (e:Ending) (w':World):Prop:=
 Below w.heap.size w w'∧match o with
  | none=>e=.returned (.tuple #[noEnt,.string ⟨#[]⟩,.int .i64 2])
  | some (E,r)=>∃v,e=.returned (.tuple #[v,.string (strB r),.int .i64 0])∧EntAt w.heap.size none w' E v
structure ResE (W:World) (c:Nat):Prop where
 r0:W.cell? ⟨c,0,none⟩=some (.string ⟨#[]⟩)
 r1:W.cell? ⟨c,1,none⟩=some (.bool false)
 r2:W.cell? ⟨c,2,none⟩=some (.int .i64 0)
 r3:W.cell? ⟨c,3,none⟩=some (.int .i64 0)
 r4:W.cell? ⟨c,4,none⟩=some (.string ⟨#[]⟩)
 r5:W.cell? ⟨c,5,none⟩=some (.slice none 0 0)
 r6:W.cell? ⟨c,6,none⟩=some (.slice none 0 0)
 r7:W.cell? ⟨c,7,none⟩=some (.slice none 0 0)
 g0:W.frozen? ⟨c,0,none⟩=false
 g1:W.frozen? ⟨c,1,none⟩=false
 g2:W.frozen? ⟨c,2,none⟩=false
 g3:W.frozen? ⟨c,3,none⟩=false
 g4:W.frozen? ⟨c,4,none⟩=false
 g5:W.frozen? ⟨c,5,none⟩=false
 g6:W.frozen? ⟨c,6,none⟩=false
 g7:W.frozen? ⟨c,7,none⟩=false
theorem ResE.made (w:World):ResE (w.alloc zeroEnt) w.heap.size:=⟨by simp,by simp,by simp,by simp,by simp,by simp,by simp,by simp,by simp,by simp,by simp,by simp,by simp,by simp,by simp,by simp⟩
theorem ResE.lt {W:World} {c:Nat} (h:ResE W c):c<W.heap.size:=lt_of_cell h.r0
theorem ResE.next {W W1:World} {c:Nat} (h:ResE W c) (hb:Below (c+1) W W1):ResE W1 c:=by
 have hc:∀i,W1.cell? ⟨c,i,none⟩=W.cell? ⟨c,i,none⟩:=fun i=>hb.cell (p:=⟨c,i,none⟩) (Nat.lt_succ_self _)
 have hf:∀i,W1.frozen? ⟨c,i,none⟩=W.frozen? ⟨c,i,none⟩:=fun i=>hb.frozen (p:=⟨c,i,none⟩) (Nat.lt_succ_self _)
 exact⟨(hc 0).trans h.r0,(hc 1).trans h.r1,(hc 2).trans h.r2,(hc 3).trans h.r3,(hc 4).trans h.r4,(hc 5).trans h.r5,(hc 6).trans h.r6,(hc 7).trans h.r7,(hf 0).trans h.g0,(hf 1).trans h.g1,(hf 2).trans h.g2,(hf 3).trans h.g3,(hf 4).trans h.g4,(hf 5).trans h.g5,(hf 6).trans h.g6,(hf 7).trans h.g7⟩
theorem readEntry_any (s:ByteArray) (w:World) (hs:s.size≤100000) (hA:Alph w) :
  Calls Tryz.prog 88 #[.string s] w (entPost (entL s.data.toList) w):=by
 have hb0:Below w.heap.size w (w.alloc zeroEnt):=(Below.refl _ _).alloc (zR _) _
 have HA:=zH hA
 have HR0:=zH (ResE.made w)
 have cK:=fun W=>readKey_any s W (by unfold maxLen;omega)
 have hk:=klen_le s.data.toList
 rw [← Lib.size_eq]at hk
 clear hA
 by_cases h0:klen s.data.toList=0
 ·have HL:Hid (entL s.data.toList=none):=zH (by rw [entL,if_pos h0])
  rw [rkV,if_pos h0]at cK
  have hR1:=HR0.out
  have hlt:=hR1.lt
  have HRx:=zH hR1
  clear h0
  go_enter Tryz.func88,Tryz.ntmps88
  go_wp2_with fail
  refine(cK _).mono ?_
  rintro e w1 ⟨rfl,rfl⟩
  obtain⟨r0,r1,r2,r3,r4,r5,r6,r7,g0,g1,g2,g3,g4,g5,g6,g7⟩:=hR1
  go_wp2_with fail
  refine bodyPost_ret (v:=.tuple #[noEnt,.string ⟨#[]⟩,.int .i64 2]) (by simp [results,Tryz.results88,go_sem]) rfl ?_
  rw [HL.out]
  refine⟨?_,rfl⟩
  repeat(first | with_reducible refine Below.alloc ?_ (by simp) _ | with_reducible refine Below.setCell ?_ (by simp) _)
  exact Below.refl _ _
 ·have hxd:(s.extract (klen s.data.toList) s.size).data.toList=s.data.toList.drop (klen s.data.toList):=Lib.extract_to_end s _
  have cV:=fun W hW=>readValue_any (s.extract (klen s.data.toList) s.size) W (by rw [Lib.size_eq,hxd,List.length_drop,← Lib.size_eq];omega) hW
  rw [hxd]at cV
  rw [rkV,if_neg h0]at cK
  have hE:entL s.data.toList=(match valM (s.data.toList.drop (klen s.data.toList))with
   | none=>none
   | some (M,r)=>some (⟨s.data.toList.take (klen s.data.toList),M⟩,r)):=by rw [entL,if_neg h0]<;>rfl
  have j0:(0:Int)≤(klen s.data.toList:Int):=by omega
  have j2:(klen s.data.toList:Int)≤(s.size:Int):=by omega
  clear hxd h0 hk
  cases hv:valM (s.data.toList.drop (klen s.data.toList))with
  | none =>
   have HL:Hid (entL s.data.toList=none):=zH (by rw [hE,hv])
   rw [hv]at cV
   clear hv hE
   generalize strB (s.data.toList.take (klen s.data.toList))=K at *
   generalize klen s.data.toList=n at *
   go_enter Tryz.func88,Tryz.ntmps88
   go_wp2_with fail
   refine(cK _).mono ?_
   rintro e w1 ⟨rfl,rfl⟩
   go_wp2_with fail
   refine(cV _ (HA.out.below hb0)).mono ?_
   rintro e w1 ⟨hb1,rfl⟩
   have hR1:=HR0.out.next (by simpa using hb1)
   have hB1:=hb0.trans (hb1.mono hb0.size)
   have hlt:=hR1.lt
   obtain⟨r0,r1,r2,r3,r4,r5,r6,r7,g0,g1,g2,g3,g4,g5,g6,g7⟩:=hR1
   clear hb1 cK cV
   go_wp2_with fail
   refine bodyPost_ret (v:=.tuple #[noEnt,.string ⟨#[]⟩,.int .i64 2]) (by simp [results,Tryz.results88,go_sem,r0,r1,r2,r3,r4,r5,r6,r7,hlt]) rfl ?_
   rw [HL.out]
   refine⟨?_,rfl⟩
   repeat(first | with_reducible refine Below.alloc ?_ (by simp;omega) _ | with_reducible refine Below.setCell ?_ (by simp) _)
   exact hB1
  | some x =>
   obtain⟨M,r⟩:=x
   have HL:Hid (entL s.data.toList=some (⟨s.data.toList.take (klen s.data.toList),M⟩,r)):=zH (by rw [hE,hv])
   rw [hv]at cV
   clear hv hE
   generalize hKey:s.data.toList.take (klen s.data.toList)=Key at *
   generalize klen s.data.toList=n at *
   go_enter Tryz.func88,Tryz.ntmps88
   go_wp2_with fail
   refine(cK _).mono ?_
   rintro e w1 ⟨rfl,rfl⟩
   go_wp2_with fail
   refine(cV _ (HA.out.below hb0)).mono ?_
   rintro e w1 ⟨hb1,v1,rfl,u,vi,vp,rfl,hu,hvi,hvp⟩
   have hR1:=HR0.out.next (by simpa using hb1)
   have hB1:=hb0.trans (hb1.mono hb0.size)
   have hlt:=hR1.lt
   obtain⟨r0,r1,r2,r3,r4,r5,r6,r7,g0,g1,g2,g3,g4,g5,g6,g7⟩:=hR1
   obtain⟨ao1,cap1,rfl⟩:=hu.form
   obtain⟨ao2,cap2,rfl⟩:=hvi.form
   obtain⟨ao3,cap3,rfl⟩:=hvp.form
   have HU:=zH (hu.low (show w.heap.size+1≤_ by simp))
   have HV:=zH (hvi.low (show w.heap.size+1≤_ by simp))
   have HW:=zH (hvp.low (show w.heap.size+1≤_ by simp))
   clear hb1 cK cV hu hvi hvp
   go_wp2_with fail
   refine bodyPost_ret (v:=.tuple #[aggE (strB Key) M.inner M.it.k M.it.n (strB M.it.s) (.slice ao1 M.it.ps.length cap1) (.slice ao2 M.its.length cap2) (.slice ao3 M.ps.length cap3),.string (strB r),.int .i64 0]) (by simp [results,Tryz.results88,go_sem,r0,r1,r2,r3,r4,r5,r6,r7,hlt]) rfl ?_
   rw [HL.out]
   refine⟨?_,_,rfl,_,_,_,rfl,(HU.out.moved (c:=w.heap.size) ?_ (Nat.lt_succ_self _)).low (Nat.le_succ _),(HV.out.moved (c:=w.heap.size) ?_ (Nat.lt_succ_self _)).low (Nat.le_succ _),(HW.out.moved (c:=w.heap.size) ?_ (Nat.lt_succ_self _)).low (Nat.le_succ _)⟩
   ·repeat(first | with_reducible refine Below.alloc ?_ (by simp;omega) _ | with_reducible refine Below.setCell ?_ (by simp) _ | with_reducible refine Below.drew ?_)
    exact hB1
   all_goals
    repeat(first | with_reducible refine Moved.drew1 ?_ | with_reducible refine Moved.alloc ?_ _ | with_reducible refine Moved.setCell ?_ _)
    exact Moved.refl _ _
theorem valM_le (l:List UInt8) (M:Mem) (r:List UInt8) (h:valM l=some (M,r)):r.length≤l.length:=by
 unfold valM at h
 split at h
 ·have:=memL_le _ _ _ h
  rw [List.length_drop]at this
  omega
 ·split at h
  ·cases h
  ·obtain⟨_,rfl⟩:=Prod.mk.inj (Option.some.inj h)
   rw [List.length_drop];omega
theorem entL_le (l:List UInt8) (E:Ent) (r:List UInt8) (h:entL l=some (E,r)):r.length≤l.length:=by
 unfold entL at h
 split at h
 ·cases h
 ·split at h
  ·cases h
  ·rename_i M r1 hv
   have h1:=valM_le _ _ _ hv
   rw [List.length_drop]at h1
   obtain⟨_,rfl⟩:=Prod.mk.inj (Option.some.inj h)
   omega
def dictPost (o:Option (List Ent)) (w:World) (e:Ending) (w':World):Prop:=
 Below w.heap.size w w'∧match o with
  | none=>e=.returned (.tuple #[.slice none 0 0,.int .i64 2])
  | some xs=>∃v,e=.returned (.tuple #[v,.int .i64 0])∧OwnG entR 121 w' w.heap.size v xs
theorem info_entry:(Tryz.prog.info? 121).map (fun i=>(i.zero,i.size,i.bytes))=some (some noEnt,8,128):=by kernel_rfl
abbrev entO (K:ByteArray) (b:Bool) (k n:Int) (s:ByteArray) (u vi vp:Value):Obj:=.cells #[.string K,.bool b,.int .i64 k,.int .i64 n,.string s,u,vi,vp] 121
theorem sepE_any (s:ByteArray) (w:World) (hs:s.size≤100000) (hA:Alph w) :
  Calls Tryz.prog 87 #[.string s,.func (.func 88) #[] #[]] w (dictPost (sepL entL s.data.toList) w):=by
 obtain⟨i0,hi,hz0,hz1,hz2⟩:=info_parts info_entry
 have HA:=zH hA
 clear hA
 have hsp:=spD_le s.data.toList
 rw [← Lib.size_eq]at hsp
 have hem:=empty_iff (spD s.data.toList)
 cases h0:(spD s.data.toList).isEmpty with
 | true =>
  have HL:Hid (sepL entL s.data.toList=some []):=zH (by rw [sepL,if_pos (by simpa using h0)])
  rw [h0]at hem
  clear h0
  have cT:=fun W=>trimL1_any s W
  generalize strB (spD s.data.toList)=R at *
  go_enter Tryz.func87,Tryz.ntmps87
  go_wp2_with fail
  refine(cT _).mono ?_
  rintro e w1 ⟨rfl,hb1⟩
  go_wp2_with fail
  refine bodyPost_ret (v:=.tuple #[.slice none 0 0,.int .i64 0]) (by simp [results,Tryz.results87,go_sem]) rfl ⟨hb1,?_⟩
  rw [HL.out]
  exact⟨_,rfl,OwnG.nothing _ _ _ _⟩
 | false =>
  have HL:Hid (sepL entL s.data.toList=sepF entL (s.data.toList.length+1) (spD s.data.toList) []):=zH (by rw [sepL,if_neg (by intro e;rw [e]at h0;cases h0)])
  rw [h0]at hem
  clear h0
  have cT:=fun W=>trimL1_any s W
  go_enter Tryz.func87,Tryz.ntmps87
  go_wp2_with fail
  refine(cT _).mono ?_
  rintro e w1 ⟨rfl,hb1⟩
  go_wp2_with fail
  clear cT hem
  go_loopw [6,7] (fun r v wr=>∃(xs:List Ent) (l:List UInt8) (f:Nat),r=.string (strB l)∧l.length<f∧l.length+xs.length≤s.size∧Hid (sepL entL s.data.toList=sepF entL f l xs)∧OwnG entR 121 wr w.heap.size v xs∧Below w.heap.size w wr) (fun r _ _=>Lib.strSize r)
  case atStart=>exact⟨[],spD s.data.toList,s.data.toList.length+1,rfl,by rw [← Lib.size_eq];omega,by simpa using hsp,HL,OwnG.nothing _ _ _ _,hb1⟩
  case round =>
   obtain⟨xs,l,f,rfl,hf,hl,H,hown,hb⟩:=hrel
   obtain⟨f,rfl⟩:∃f',f=f'+1:=⟨f-1,by omega⟩
   have HO:=zH hown
   have HB:=zH hb
   have hbz:=hb.size
   have hls:=strB_size l
   have cR:=fun W hW=>readEntry_any (strB l) W (by omega) hW
   rw [strB_data]at cR
   have HLS:=zH hls
   clear hown hb hls HL
   cases hm:entL l with
   | none =>
    have HR:=zH (H.out.trans (sepF_none entL f l xs hm))
    rw [hm]at cR
    clear hm
    generalize strB l=L at *
    go_wp2_with fail
    refine(cR _ (HA.out.below HB.out)).mono ?_
    rintro e w3 ⟨hb3,rfl⟩
    go_wp2_with fail
    refine bodyPost_ret (v:=.tuple #[.slice none 0 0,.int .i64 2]) (by simp [results,Tryz.results87,go_sem]) rfl ⟨?_,?_⟩
    ·exact(HB.out.trans (hb3.mono hbz)).alloc (Nat.le_trans hbz hb3.size) _
    ·rw [HR.out]
   | some Mr =>
    obtain⟨M,r⟩:=Mr
    have hrl:=entL_le _ _ _ hm
    rw [hm]at cR
    have HM:=zH hm
    have cT:=fun W=>trimL2_any (strB r) W
    rw [strB_data]at cT
    have hbl:=blD_le r
    have hbs:=strB_size (blD r)
    have hem:=empty_iff (blD r)
    clear hm
    generalize strB l=L at *
    obtain⟨us,u1,u2,u3⟩:=HO.out
    go_wp2_with fail
    refine(cR _ (HA.out.below HB.out)).mono ?_
    rintro e w3 ⟨hb3,v3,rfl,uu,vi,vp,rfl,hu,hvi,hvp⟩
    obtain⟨ao1,cap1,rfl⟩:=hu.form
    obtain⟨ao2,cap2,rfl⟩:=hvi.form
    obtain⟨ao3,cap3,rfl⟩:=hvp.form
    obtain⟨ao,cap,rfl⟩:=owns_form u2
    have hz3:=Nat.le_trans hbz hb3.size
    have hF0:entR.F w.heap.size (Value.slice ao xs.length cap).ownBlock w3 M (.slice ao1 M.val.it.ps.length cap1,.slice ao2 M.val.its.length cap2,.slice ao3 M.val.ps.length cap3):=
     entR.low (entR.avoid ⟨hu,hvi,hvp⟩ (fun g hg=>(World.ownsRow.lt u2 g hg).2)) hbz
    have hbW:Below w3.heap.size w3 ((w3.alloc (entO (strB M.key) M.val.inner M.val.it.k M.val.it.n (strB M.val.it.s) (.slice ao1 M.val.it.ps.length cap1) (.slice ao2 M.val.its.length cap2) (.slice ao3 M.val.ps.length cap3))).alloc (entO (strB M.key) M.val.inner M.val.it.k M.val.it.n (strB M.val.it.s) (.slice ao1 M.val.it.ps.length cap1) (.slice ao2 M.val.its.length cap2) (.slice ao3 M.val.ps.length cap3))):=((Below.refl _ _).alloc (zR _) _).alloc (by simp) _
    have hOW:=ownsRow_later (ownsRow_later u2 hb3) hbW
    have hnew:=cells_new (w3.alloc (entO (strB M.key) M.val.inner M.val.it.k M.val.it.n (strB M.val.it.s) (.slice ao1 M.val.it.ps.length cap1) (.slice ao2 M.val.its.length cap2) (.slice ao3 M.val.ps.length cap3))) (entR.cells M (.slice ao1 M.val.it.ps.length cap1,.slice ao2 M.val.its.length cap2,.slice ao3 M.val.ps.length cap3)) 121
    rw [show(w3.alloc (entO (strB M.key) M.val.inner M.val.it.k M.val.it.n (strB M.val.it.s) (.slice ao1 M.val.it.ps.length cap1) (.slice ao2 M.val.its.length cap2) (.slice ao3 M.val.ps.length cap3))).heap.size=w3.heap.size+1 by simp]at hnew
    have HNew:=zH hnew
    have HU3:=zH (fun(j:Nat) u (x:Ent) hu hx=>entR.below (entR.below (u3 j u x hu hx) hb3) hbW)
    have HF:=zH (entR.below hF0 hbW)
    have HBW:=zH ((HB.out.trans (hb3.mono hbz)).trans (hbW.mono hz3))
    have HU1:=zH u1
    clear u3 hF0 u2 hb3 hu hvi hvp u1 hnew cR
    go_wp2_with (at_builtin;go_loud (refine wpList_append_lies _ rfl _ _ 86 rfl w.heap.size 121 i0 noEnt 8 128 Tryz.underlying86 hi hz0 hz1 hz2 rfl (by decide) _ xs.length (rowG entR (xs.zip us)) rfl hOW ⟨_,0,none⟩ 1 1 (entR.cells M (.slice ao1 M.val.it.ps.length cap1,.slice ao2 M.val.its.length cap2,.slice ao3 M.val.ps.length cap3)) rfl rfl HNew.out (by simp [Value.oneCell',entR,memR]) (by decide) (by unfold maxLen;omega) (by omega) (by simp;omega) _ rfl ?_);intro g5 cap5 w5 hown5 hgrow5 hat5 hlt5)
    have hN:=OwnG.snoc (R:=entR) HU1.out HU3.out HF.out hown5 hgrow5 hat5
    have hB5:Below w.heap.size w w5:=by
     have h1:=HBW.out
     exact⟨hgrow5.os.trans h1.os,hgrow5.tape.trans h1.tape,hgrow5.output.trans h1.output,Nat.le_trans h1.size hgrow5.size,fun i hi=>(hgrow5.block i (Nat.lt_of_lt_of_le hi h1.size) (own_ne hOW hi)).trans (h1.block i hi)⟩
    refine(cT _).mono ?_
    rintro e w6 ⟨rfl,hb6⟩
    have HN6:=zH (hN.below hb6)
    have HB6:=zH (hB5.trans (hb6.mono hB5.size))
    clear hN hown5 hgrow5 hb6 hOW hbW hB5 cT
    by_cases hbe:blD r=[]
    ·have HR:=zH (H.out.trans (sepF_end entL f l r xs M HM.out hbe))
     rw [hbe]at hem ⊢
     go_wp2_with fail
     refine bodyPost_ret (v:=.tuple #[.slice (some ⟨g5,0,none⟩) (xs.length+1) cap5,.int .i64 0]) (by simp [results,Tryz.results87,go_sem]) rfl ⟨HB6.out,?_⟩
     rw [HR.out]
     exact⟨_,rfl,HN6.out⟩
    ·have he2:(blD r).isEmpty=false:=by
      cases hx:blD r with
      | nil=>exact absurd hx hbe
      | cons a b=>rfl
     rw [he2]at hem
     by_cases h44:(blD r).head? = some 44
     ·have HR:=zH (H.out.trans (sepF_more entL f l r xs M HM.out hbe h44))
      have cC:=fun W=>cut_yes (strB (blD r)) 44 W (by rw [strB_data];exact h44)
      rw [strB_data]at cC
      have cT2:=fun W=>trimL2_any (strB ((blD r).drop 1)) W
      rw [strB_data]at cT2
      have hbl2:=blD_le ((blD r).drop 1)
      have hpos:0<(blD r).length:=List.length_pos_iff.2 hbe
      rw [List.length_drop]at hbl2
      clear hbe he2 h44 hbs
      generalize strB (blD r)=B1 at *
      generalize(blD r).drop 1=D1 at *
      generalize strB D1=B2 at *
      go_wp2_with fail
      refine(cC _).mono ?_
      rintro e w7 ⟨rfl,rfl⟩
      go_wp2_with fail
      refine(cT2 _).mono ?_
      rintro e w8 ⟨rfl,hb8⟩
      have hN8:=HN6.out.below hb8
      have hB8:=HB6.out.trans (hb8.mono HB6.out.size)
      go_wp2_with fail
      go_roundw
      case rel=>exact⟨xs++[M],_,f,rfl,by omega,by simp;omega,HR,by simpa using hN8,hB8⟩
      case measure =>
       have:=HLS.out
       simp [Lib.strSize,strB_size]
       omega
     ·have HR:=zH (H.out.trans (sepF_bad entL f l r xs M HM.out hbe h44))
      have cC:=fun W=>cut_no (strB (blD r)) 44 W (by rw [strB_data];exact h44)
      clear hbe he2 h44 hbs
      generalize strB (blD r)=B1 at *
      go_wp2_with fail
      refine(cC _).mono ?_
      rintro e w7 ⟨rfl,rfl⟩
      go_wp2_with fail
      refine bodyPost_ret (v:=.tuple #[.slice none 0 0,.int .i64 2]) (by simp [results,Tryz.results87,go_sem]) rfl ⟨HB6.out,?_⟩
      rw [HR.out]
def kindL (M:Mem):Bool:=if M.inner then sameI M.it.k M.it.n M.it.s M.it.ps 0 0 [] []else M.its.isEmpty&&M.ps.isEmpty
def jnGo {α:Type} (f:α→Option (List UInt8)) (sep:List UInt8):Bool→List α→Option (List UInt8)
 | _,[]=>some []
 | first,x :: xs=>match f x with
  | none=>none
  | some t=>(jnGo f sep false xs).map ((if first then t else sep++t)++·)
theorem jnGo_none {α:Type} (f:α→Option (List UInt8)) (sep:List UInt8) (b:Bool) (x:α) (xs:List α) (h:f x=none):jnGo f sep b (x :: xs)=none:=by rw [jnGo,h]
theorem jnGo_some {α:Type} (f:α→Option (List UInt8)) (sep:List UInt8) (b:Bool) (x:α) (xs:List α) (t:List UInt8) (h:f x=some t):jnGo f sep b (x :: xs)=(jnGo f sep false xs).map ((if b then t else sep++t)++·):=by rw [jnGo,h]
def itT (x:Itm):Option (List UInt8):=prT x.k x.n x.s x.ps
theorem drop_at {α:Type} (xs:List α) (j:Nat) (x:α) (h:xs[j]? = some x):xs.drop j=x :: xs.drop (j+1):=by
 obtain⟨hlt,e⟩:=List.getElem?_eq_some_iff.1 h
 rw [List.drop_eq_getElem_cons hlt,e]
def memT (M:Mem):Option (List UInt8):=if kindL M=false then none else if M.inner=false then itT M.it else match jnGo itT [32] true M.its with
 | none=>none
 | some a=>match ppT M.ps with
  | none=>none
  | some b=>some (40 :: (a++41 :: b))
theorem MemAt.below {lo:Nat} {blk:Option Nat} {w W:World} {M:Mem} {v:Value} (h:MemAt lo blk w M v) (hb:Below w.heap.size w W):MemAt lo blk W M v:=by
 obtain⟨u,vi,vp,hv,h1,h2,h3⟩:=h
 exact⟨u,vi,vp,hv,h1.below hb,h2.below hb,h3.below hb⟩
variable {α β:Type}
def GOff (R:Rowing α β) (lo:Nat) (blk:Option Nat) (w:World) (v:Value) (xs:List α):Prop:=
 ∃ao cap,v=.slice ao xs.length cap∧(xs=[]∨∃b off,ao=some ⟨b,off,none⟩∧lo≤b∧some b≠blk∧b<w.heap.size∧∀j x,xs[j]? = some x→∃u,(∀i,i<R.size→w.cell? ⟨b,off+j*R.size+i,none⟩=(R.cells x u)[i]?)∧R.F lo blk w x u)
theorem GOff.below {R:Rowing α β} {lo:Nat} {blk:Option Nat} {w w':World} {v:Value} {xs:List α} (h:GOff R lo blk w v xs) (hb:Below w.heap.size w w'):GOff R lo blk w' v xs:=by
 obtain⟨ao,cap,hv,hc⟩:=h
 rcases hc with hc | ⟨b,off,h1,h0,h2,h3,h4⟩
 ·exact⟨ao,cap,hv,.inl hc⟩
 ·refine⟨ao,cap,hv,.inr ⟨b,off,h1,h0,h2,Nat.lt_of_lt_of_le h3 hb.size,fun j x hx=>?_⟩⟩
  obtain⟨u,hcs,hF⟩:=h4 j x hx
  exact⟨u,fun i hi=>(hb.cell (p:=⟨b,_,none⟩) h3).trans (hcs i hi),R.below hF hb⟩
variable {α β:Type}
theorem rowG_set8:∀(l:List (Ent×Value×Value×Value)) (i:Nat) (x:Ent) (u:Value×Value×Value),i<l.length →
  rowG entR (l.set i (x,u))=((((((((rowG entR l).set (i*8) (.string (strB x.key))).set (i*8+1) (.bool x.val.inner)).set (i*8+2) (.int .i64 x.val.it.k)).set (i*8+3) (.int .i64 x.val.it.n)).set (i*8+4) (.string (strB x.val.it.s))).set (i*8+5) u.1).set (i*8+6) u.2.1).set (i*8+7) u.2.2
 | [],i,_,_,h=>by simp at h
 | (q,v) :: l,0,x,u,_=>by
  rw [List.set_cons_zero,rowG,rowG]
  rfl
 | (q,v) :: l,i+1,x,u,h=>by
  rw [List.set_cons_succ,rowG,rowG_set8 l i x u (by simpa using h),rowG]
  have e:∀(j:Nat) (r:List Value) (y:Value),(entR.cells q v++r).set ((i+1)*8+j) y=entR.cells q v++r.set (i*8+j) y:=by
   intro j r y
   have hl:(entR.cells q v).length=8:=entR.len q v
   rw [List.set_append,if_neg (by rw [hl];omega),hl]
   congr 2
   omega
  have e0:=e 0
  simp only [Nat.add_zero]at e0
  rw [e0,e 1,e 2,e 3,e 4,e 5,e 6,e 7]
theorem zip_set:∀(xs:List α) (us:List β) (i:Nat) (x:α) (u:β),(xs.set i x).zip (us.set i u)=(xs.zip us).set i (x,u)
 | [],us,i,x,u=>by simp
 | x0 :: xs,[],i,x,u=>by simp
 | x0 :: xs,u0 :: us,0,x,u=>rfl
 | x0 :: xs,u0 :: us,i+1,x,u=>by
  rw [List.set_cons_succ,List.set_cons_succ,List.zip_cons_cons,List.zip_cons_cons,List.set_cons_succ,zip_set xs us i x u]
theorem GOff.of_row {R:Rowing α β} {T:TypeId} {lo base:Nat} {w:World} {v:Value} {xs:List α} {us:List β} (h1:us.length=xs.length) (ho:w.ownsRow base T R.size v xs.length (rowG R (xs.zip us)))
  (hF:∀(j:Nat) (u:β) (x:α),us[j]? = some u→xs[j]? = some x→R.F lo none w x u) (hlo:lo≤base):GOff R lo none w v xs:=by
 obtain⟨ao,cap,rfl⟩:=owns_form ho
 refine⟨ao,cap,rfl,?_⟩
 by_cases hx:xs=[]
 ·exact .inl hx
 ·have hpos:0<xs.length:=List.length_pos_iff.2 hx
  obtain⟨g,cap2,hv,hg,hlt,_⟩:=owns_slice ho hpos
  obtain⟨rfl,_,rfl⟩:=Value.slice.inj hv
  refine .inr ⟨g,0,rfl,Nat.le_trans hlo hg,fun e=>(by cases e),hlt,fun j x hj=>?_⟩
  have hju:j<us.length:=by rw [h1];exact(List.getElem?_eq_some_iff.1 hj).1
  refine⟨us[j],fun i hi=>?_,hF j _ x (List.getElem?_eq_getElem hju) hj⟩
  have hz:(xs.zip us)[j]? = some (x,us[j]):=by
   rw [List.getElem?_zip_eq_some]
   exact⟨hj,List.getElem?_eq_getElem hju⟩
  have hr:=rowG_at R _ j i x us[j] hz hi
  have hil:i<(R.cells x us[j]).length:=by rw [R.len];exact hi
  rw [List.getElem?_eq_getElem hil]at hr ⊢
  rw [Nat.zero_add]
  exact owns_cells ho _ _ hr
theorem OwnG.off {R:Rowing α β} {T:TypeId} {w:World} {base:Nat} {v:Value} {xs:List α} (h:OwnG R T w base v xs):GOff R base none w v xs:=by
 obtain⟨us,h1,h2,h3⟩:=h
 exact GOff.of_row h1 h2 (fun j u x hu hx=>R.avoid (h3 j u x hu hx) (fun g hg=>by cases hg)) (zR _)
theorem GOff.low {R:Rowing α β} {lo lo':Nat} {blk:Option Nat} {w:World} {v:Value} {xs:List α} (h:GOff R lo blk w v xs) (hl:lo'≤lo):GOff R lo' blk w v xs:=by
 obtain⟨ao,cap,hv,hc⟩:=h
 rcases hc with hc | ⟨b,off,h1,h0,h2,h3,h4⟩
 ·exact⟨ao,cap,hv,.inl hc⟩
 ·refine⟨ao,cap,hv,.inr ⟨b,off,h1,Nat.le_trans hl h0,h2,h3,fun j x hx=>?_⟩⟩
  obtain⟨u,hc,hF⟩:=h4 j x hx
  exact⟨u,hc,R.low hF hl⟩
def putE (acc:List Ent) (e:Ent):List Ent:=
 if idxL (acc.map Ent.key) e.key<acc.length then acc.set (idxL (acc.map Ent.key) e.key) e else acc++[e]
def oeK (l:List Ent):List Ent:=l.foldl putE []
theorem ekeys_set (acc:List Ent) (p:Ent) (i:Nat) (hie:idxL (acc.map Ent.key) p.key=i) (hix:i<acc.length):(acc.set i p).map Ent.key=acc.map Ent.key:=by
  have hm:i<(acc.map Ent.key).length:=by simpa using hix
  have hk:(acc.map Ent.key)[i]=p.key:=by
    have h1:(acc.map Ent.key).findIdx (·==p.key)<(acc.map Ent.key).length:=by
      show idxL _ _<_
      rw [hie];exact hm
    have:=List.findIdx_getElem (w:=h1)
    have e:(acc.map Ent.key).findIdx (·==p.key)=i:=hie
    simp only [e,beq_iff_eq]at this
    exact this
  rw [List.map_set,← hk,List.set_getElem_self]
theorem set_F {α β:Type} {P:α→β→Prop} {xs:List α} {us:List β} {i:Nat} {x0:α} {u0:β} (h:∀(k:Nat) (u:β) (x:α),us[k]? = some u→xs[k]? = some x→P x u) (h0:P x0 u0) :
  ∀(k:Nat) (u:β) (x:α),(us.set i u0)[k]? = some u→(xs.set i x0)[k]? = some x→P x u:=by
 intro k u x hu hx
 rw [List.getElem?_set]at hu hx
 by_cases hk:i=k
 ·subst hk
  simp only [if_true]at hu hx
  split at hu
  ·split at hx
   ·obtain rfl:=Option.some.inj hu
    obtain rfl:=Option.some.inj hx
    exact h0
   ·cases hx
  ·cases hu
 ·rw [if_neg hk]at hu hx
  exact h k u x hu hx
theorem snoc_F {α β:Type} {P:α→β→Prop} {xs:List α} {us:List β} {x0:α} {u0:β} (hl:us.length=xs.length) (h:∀(k:Nat) (u:β) (x:α),us[k]? = some u→xs[k]? = some x→P x u) (h0:P x0 u0) :
  ∀(k:Nat) (u:β) (x:α),(us++[u0])[k]? = some u→(xs++[x0])[k]? = some x→P x u:=by
 intro k u x hu hx
 by_cases hk:k<us.length
 ·rw [List.getElem?_append_left hk]at hu
  rw [List.getElem?_append_left (by omega)]at hx
  exact h k u x hu hx
 ·have hk2:k=us.length:=by
   have:=(List.getElem?_eq_some_iff.1 hu).1
   simp only [List.length_append,List.length_singleton]at this
   omega
  subst hk2
  rw [List.getElem?_concat_length]at hu
  rw [hl,List.getElem?_concat_length]at hx
  obtain rfl:=Option.some.inj hu
  obtain rfl:=Option.some.inj hx
  exact h0
theorem zip_snoc {α β:Type} {xs:List α} {us:List β} {x:α} {u:β} (hl:us.length=xs.length):(xs++[x]).zip (us++[u])=xs.zip us++[(x,u)]:=by
 rw [List.zip_append hl.symm]
 rfl
open Go.WideMaps (keyOf_string_mk)
theorem oneOf_any (v:Value) (es:List Ent) (lo:Nat) (w:World) (h:GOff entR lo none w v es) (hlo:lo≤w.heap.size) (hl:es.length≤100000) (hk:∀p∈es,p.key.length≤100000) :
  Calls Tryz.prog 89 #[v] w fun e w'=>Below w.heap.size w w'∧∃u,e=.returned u∧GOff entR lo none w' u (oeK es):=by
 obtain⟨i0,hi,hz0,hz1,hz2⟩:=info_parts info_entry
 obtain⟨ao,cap,rfl,hc⟩:=h
 have Hmap0:=zH (World.ownsMap_made (H:=Unit) w Tryz.prog 9 (plainElem Tryz.prog 3))
 have HB0:Hid (Below w.heap.size w (w.alloc (.map #[] 0))):=zH ((Below.refl _ _).alloc (zR _) _)
 have hmm:=@run_makeMap Tryz.prog
 have HK:=zH hk
 have HC:=zH hc
 clear hk hc
 go_enter Tryz.func89,Tryz.ntmps89
 go_wp2_with fail
 clear hmm
 go_loopw [3,12] (fun v i wr=>∃(j:Nat) (acc:List Ent) (us:List (Value×Value×Value)) (D:DataW Unit),i=.int .i64 j∧j≤es.length∧acc.length≤j∧us.length=acc.length∧Hid (acc=(es.take j).foldl putE [])∧Hid (∀(k:Nat) (u:Value×Value×Value) (x:Ent),us[k]? = some u→acc[k]? = some x→entR.F lo none w x u)∧wr.ownsRow (w.heap.size+1) 121 8 v acc.length (rowG entR (acc.zip us))∧wr.ownsMap Tryz.prog 9 (plainElem Tryz.prog 3) w.heap.size acc.length D∧Hid (PlaceOf D (acc.map Ent.key))∧Below w.heap.size w wr) (fun _ i _=>es.length-(intOf i).toNat)
 case atStart=>exact⟨0,[],[],.map [],rfl,Nat.zero_le _,Nat.zero_le _,rfl,zH rfl,zH (fun k u x hu=>by simp at hu),World.ownsRow_nil _ _ _ _,Hmap0.out,zH placeOf_none,HB0.out⟩
 case round =>
  obtain⟨j,acc,us,D,rfl,hj,hal,hul,HE,HF,hown,hmap,HD,hb⟩:=hrel
  clear Hmap0 HB0
  by_cases hlt:j<es.length
  ·rcases HC.out with hnil | ⟨c,off,rfl,_,_,hcl,hcell⟩
   ·exfalso
    rw [hnil]at hlt
    simp at hlt
   ·obtain⟨p,hp⟩:∃p,es[j]? = some p:=⟨_,List.getElem?_eq_getElem hlt⟩
    obtain⟨⟨u1,u2,u3⟩,hcs,hF⟩:=hcell j p hp
    have HFp:=zH hF
    obtain⟨au,cu,rfl⟩:=hF.1.form
    obtain⟨av,cv,rfl⟩:=hF.2.1.form
    obtain⟨aw,cw,rfl⟩:=hF.2.2.form
    have q0:=hcs 0 (by decide)
    have q1:=hcs 1 (by decide)
    have q2:=hcs 2 (by decide)
    have q3:=hcs 3 (by decide)
    have q4:=hcs 4 (by decide)
    have q5:=hcs 5 (by decide)
    have q6:=hcs 6 (by decide)
    have q7:=hcs 7 (by decide)
    have hck:∀i,wr.cell? ⟨c,i,none⟩=w.cell? ⟨c,i,none⟩:=fun i=>hb.cell (p:=⟨c,i,none⟩) hcl
    have a0:=(hck _).trans q0
    have a1:=(hck _).trans q1
    have a2:=(hck _).trans q2
    have a3:=(hck _).trans q3
    have a4:=(hck _).trans q4
    have a5:=(hck _).trans q5
    have a6:=(hck _).trans q6
    have a7:=(hck _).trans q7
    simp only [Nat.add_zero,entR,memR,List.getElem?_cons_zero,List.getElem?_cons_succ]at a0 a1 a2 a3 a4 a5 a6 a7
    have hkl:=HK.out p (List.mem_of_getElem? hp)
    have Hkey:Hid (keyOf Tryz.prog 9 (.string (strB p.key))=some (.string p.key)):=zH (keyOf_string_mk Tryz.underlying9 (by rw [strB_size];unfold maxLen;omega))
    have HT:Hid ((es.take (j+1)).foldl putE []=putE acc p):=zH (by
     rw [List.take_add_one,hp,Option.toList_some,List.foldl_append,← HE.out]
     rfl)
    have hml:w.heap.size<wr.heap.size:=hmap.lt
    have HO2:=zH hown
    have HT2:=zH hmap
    have HT3:=zH (hmap.alloc (entO (strB p.key) p.val.inner p.val.it.k p.val.it.n (strB p.val.it.s) (.slice au p.val.it.ps.length cu) (.slice av p.val.its.length cv) (.slice aw p.val.ps.length cw)))
    have HB:=zH hb
    clear hcell q0 q1 q2 q3 q4 q5 q6 q7 hcs hF hck hp hb hmap hown HE
    by_cases hmem:p.key∈acc.map Ent.key
    ·have Hhas:Hid (Maps.has D (.string p.key)=true):=zH (by rw [(HD.out.2 p.key).1];simpa using hmem)
     have hix:idxL (acc.map Ent.key) p.key<acc.length:=by have:=(idxL_lt _ _).2 hmem;simpa using this
     have hat0:=(HD.out.2 p.key).2 hmem (.lit (.int .i64 0))
     obtain⟨i,hie⟩:∃i,idxL (acc.map Ent.key) p.key=i:=⟨_,rfl⟩
     rw [hie]at hix hat0
     have Hat0:=zH hat0
     have Hie:=zH hie
     clear hat0 hie hmem
     obtain⟨g,cap2,rfl,hgB,hg2,hcap⟩:=owns_slice HO2.out (by omega)
     obtain⟨t0,b0,f0⟩:=owns_cell HO2.out (i*8) (by omega)
     obtain⟨t1,b1,f1⟩:=owns_cell HO2.out (i*8+1) (by omega)
     obtain⟨t2,b2,f2⟩:=owns_cell HO2.out (i*8+2) (by omega)
     obtain⟨t3,b3,f3⟩:=owns_cell HO2.out (i*8+3) (by omega)
     obtain⟨t4,b4,f4⟩:=owns_cell HO2.out (i*8+4) (by omega)
     obtain⟨t5,b5,f5⟩:=owns_cell HO2.out (i*8+5) (by omega)
     obtain⟨t6,b6,f6⟩:=owns_cell HO2.out (i*8+6) (by omega)
     obtain⟨t7,b7,f7⟩:=owns_cell HO2.out (i*8+7) (by omega)
     have hixI:(i:Int)<(acc.length:Int):=by omega
     generalize hKB:strB p.key=KB at *
     generalize hSB:strB p.val.it.s=SB at *
     have HKB:=zH hKB
     have HSB:=zH hSB
     clear hKB hSB
     go_wp2_with (at_lookup;refine wpList_lookup_own_ok_int _ rfl _ _ 183 rfl 9 3 .i64 keyStr Tryz.underlying183 Tryz.underlying3 (zeroInt _) w.heap.size acc.length _ rfl HT3.out _ _ rfl Hkey.out ?_;intro c2 hat hwc;have hc2:c2=(i:Int):=(by have:=hat.symm.trans Hat0.out;simpa using this);subst hc2;rw [Hhas.out];clear hat hwc)
     go_roundw
     case rel =>
      have s0:=HO2.out.stored (i*8) (.string KB)
      have s1:=s0.1.stored (i*8+1) (.bool p.val.inner)
      have s2:=s1.1.stored (i*8+2) (.int .i64 p.val.it.k)
      have s3:=s2.1.stored (i*8+3) (.int .i64 p.val.it.n)
      have s4:=s3.1.stored (i*8+4) (.string SB)
      have s5:=s4.1.stored (i*8+5) (.slice au p.val.it.ps.length cu)
      have s6:=s5.1.stored (i*8+6) (.slice av p.val.its.length cv)
      have s7:=s6.1.stored (i*8+7) (.slice aw p.val.ps.length cw)
      have hne:some w.heap.size≠some g:=by simp;omega
      have m0:=(((((((HT2.out.kept s0.2 hne).kept s1.2 hne).kept s2.2 hne).kept s3.2 hne).kept s4.2 hne).kept s5.2 hne).kept s6.2 hne).kept s7.2 hne
      have hgw:w.heap.size≤g:=by omega
      refine⟨j+1,acc.set i p,us.set i (.slice au p.val.it.ps.length cu,.slice av p.val.its.length cv,.slice aw p.val.ps.length cw),D,by go_num,by omega,by rw [List.length_set];omega,by rw [List.length_set,List.length_set];exact hul,zH ?_,zH (set_F HF.out HFp.out),?_,?_,zH ?_,?_⟩
      ·rw [HT.out,putE,Hie.out,if_pos hix]
      ·rw [List.length_set,zip_set,rowG_set8 _ _ _ _ (by rw [List.length_zip,hul,Nat.min_self];exact hix),HKB.out,HSB.out]
       exact s7.1.alloc _
      ·rw [List.length_set]
       exact m0.alloc _
      ·rw [ekeys_set acc p i Hie.out hix]
       exact HD.out
      ·exact((((((((HB.out.setCell hgw _).setCell hgw _).setCell hgw _).setCell hgw _).setCell hgw _).setCell hgw _).setCell hgw _).setCell hgw _).alloc (by simp;omega) _
     case measure=>simp [intOf];omega
    ·have Hhas:Hid (Maps.has D (.string p.key)=false):=zH (by rw [(HD.out.2 p.key).1];simpa using hmem)
     have Hmem:=zH hmem
     obtain⟨ao2,cap2,rfl⟩:=owns_form HO2.out
     have HO3:=zH (HO2.out.alloc (entO (strB p.key) p.val.inner p.val.it.k p.val.it.n (strB p.val.it.s) (.slice au p.val.it.ps.length cu) (.slice av p.val.its.length cv) (.slice aw p.val.ps.length cw)))
     have HONE:Hid (∀y∈entR.cells p (.slice au p.val.it.ps.length cu,.slice av p.val.its.length cv,.slice aw p.val.ps.length cw),y.oneCell'=true):=zH (by simp [Value.oneCell',entR,memR])
     clear hmem
     go_wp2_with (first | (at_lookup;refine wpList_lookup_own_ok_int _ rfl _ _ 183 rfl 9 3 .i64 keyStr Tryz.underlying183 Tryz.underlying3 (zeroInt _) w.heap.size acc.length _ rfl HT3.out _ _ rfl Hkey.out ?_;intro c2 hat hwc;rw [Hhas.out];clear hat hwc) | (at_mapUpdate;refine wpList_mapUpdate_own _ rfl _ _ _ 183 rfl 9 3 keyStr Tryz.underlying183 _ w.heap.size acc.length _ rfl HT3.out (by unfold maxLen;omega) _ _ _ rfl rfl Hkey.out _ [] (plainElem_int Tryz.underlying3 (WalkArith.wf_i64 (by omega))) ?_;intro w4 hmap4 hgrow4;have hO4:=HO3.out.kept hgrow4 (.inr (Ne.symm (own_ne HO3.out (Nat.lt_succ_self _))));have hw4:=hgrow4.size;have e0:=grown_cell hgrow4 (c:=wr.heap.size) (by simp) (by simp;omega) 0;have e1:=grown_cell hgrow4 (c:=wr.heap.size) (by simp) (by simp;omega) 1;have e2:=grown_cell hgrow4 (c:=wr.heap.size) (by simp) (by simp;omega) 2;have e3:=grown_cell hgrow4 (c:=wr.heap.size) (by simp) (by simp;omega) 3;have e4:=grown_cell hgrow4 (c:=wr.heap.size) (by simp) (by simp;omega) 4;have e5:=grown_cell hgrow4 (c:=wr.heap.size) (by simp) (by simp;omega) 5;have e6:=grown_cell hgrow4 (c:=wr.heap.size) (by simp) (by simp;omega) 6;have e7:=grown_cell hgrow4 (c:=wr.heap.size) (by simp) (by simp;omega) 7) | (at_builtin;refine wpList_append_own _ rfl _ _ 86 rfl (w.heap.size+1) 121 i0 noEnt 8 128 Tryz.underlying86 hi hz0 hz1 hz2 rfl (by decide) _ _ _ rfl (hO4.alloc _) ⟨_,0,none⟩ 1 1 (entR.cells p (.slice au p.val.it.ps.length cu,.slice av p.val.its.length cv,.slice aw p.val.ps.length cw)) rfl rfl (cells_new _ _ _) HONE.out (by unfold maxLen;omega) (by omega) (by simp at hw4;simp;omega) ?_;intro v' w5 hown5 hgrow5 _))
     go_roundw
     case rel =>
      have hnix:¬idxL (acc.map Ent.key) p.key<acc.length:=by
       intro h1
       exact Hmem.out ((idxL_lt _ _).1 (by simpa using h1))
      refine⟨j+1,acc++[p],us++[(.slice au p.val.it.ps.length cu,.slice av p.val.its.length cv,.slice aw p.val.ps.length cw)],D.put (.string p.key) (.lit (.int .i64 (acc.length:Int))),by go_num,by omega,by simp;omega,by simp [hul],zH ?_,zH (snoc_F hul HF.out HFp.out),?_,?_,zH ?_,?_⟩
      ·rw [HT.out,putE,if_neg hnix]
      ·rw [List.length_append,zip_snoc hul,rowG_snoc]
       exact hown5
      ·rw [List.length_append]
       exact(hmap4.alloc _).kept hgrow5 (own_ne hO4 (Nat.lt_succ_self _))
      ·have:=placeOf_put HD.out p.key Hmem.out
       rw [List.length_map]at this
       rw [List.map_append]
       exact this
      ·have hz4:=hw4
       simp at hz4
       exact(((HB.out.alloc (by omega) _).grown hgrow4 (by simp;omega) (fun k e=>by cases e;exact zR _)).alloc (by omega) _).grown hgrow5 (by simp;omega) (fun k e=>Nat.le_trans (Nat.le_succ _) (World.ownsRow.lt hO4 k e).1)
     case measure=>simp [intOf];omega
  ·obtain rfl:j=es.length:=by omega
   rw [List.take_length]at HE
   have HG:=zH (GOff.of_row (R:=entR) hul hown (fun k u x hu hx=>entR.below (HF.out k u x hu hx) hb) (Nat.le_succ_of_le hlo))
   have HB:=zH hb
   clear hown hmap hb
   obtain⟨ao2,cap2,rfl,hx⟩:=HG.out
   clear hx
   go_wp2_with fail
   go_ret
   refine⟨HB.out,_,rfl,?_⟩
   have:=HG.out
   rw [HE.out]at this ⊢
   exact this
variable {α:Type}
theorem sepF_len (read:List UInt8→Option (α×List UInt8)):∀(f:Nat) (l:List UInt8) (acc xs:List α),sepF read f l acc=some xs→xs.length≤acc.length+f
 | 0,l,acc,xs,h=>by cases h
 | f+1,l,acc,xs,h=>by
  cases hr:read l with
  | none=>rw [sepF_none read f l acc hr]at h;cases h
  | some x =>
   obtain⟨x,r⟩:=x
   by_cases hb:blD r=[]
   ·rw [sepF_end read f l r acc x hr hb]at h
    obtain rfl:=Option.some.inj h
    simp
   ·by_cases hc:(blD r).head? = some 44
    ·rw [sepF_more read f l r acc x hr hb hc]at h
     have:=sepF_len read f _ _ _ h
     simp at this
     omega
    ·rw [sepF_bad read f l r acc x hr hb hc]at h;cases h
theorem sepF_all {P:α→Prop} {read:List UInt8→Option (α×List UInt8)} {N:Nat} (hread:∀l x r,l.length≤N→read l=some (x,r)→P x∧r.length≤l.length) :
  ∀(f:Nat) (l:List UInt8) (acc xs:List α),l.length≤N→(∀x∈acc,P x)→sepF read f l acc=some xs→∀x∈xs,P x
 | 0,l,acc,xs,_,_,h=>by cases h
 | f+1,l,acc,xs,hl,ha,h=>by
  cases hr:read l with
  | none=>rw [sepF_none read f l acc hr]at h;cases h
  | some x =>
   obtain⟨x,r⟩:=x
   obtain⟨hP,hle⟩:=hread l x r hl hr
   have ha2:∀y∈acc++[x],P y:=by
    intro y hy
    rcases List.mem_append.1 hy with hy | hy
    ·exact ha y hy
    ·obtain rfl:=List.mem_singleton.1 hy
     exact hP
   by_cases hb:blD r=[]
   ·rw [sepF_end read f l r acc x hr hb]at h
    obtain rfl:=Option.some.inj h
    exact ha2
   ·by_cases hc:(blD r).head? = some 44
    ·rw [sepF_more read f l r acc x hr hb hc]at h
     have h1:=blD_le r
     have h2:=blD_le ((blD r).drop 1)
     rw [List.length_drop]at h2
     exact sepF_all hread f _ _ _ (by omega) ha2 h
    ·rw [sepF_bad read f l r acc x hr hb hc]at h;cases h
structure MemIn (N:Nat) (M:Mem):Prop where
 s:M.it.s.length≤N
 ip:szN M.it.ps≤N
 ps:szN M.ps≤N
 len:M.its.length≤N
 its:∀x∈M.its,szN x.ps≤N∧x.s.length≤N
theorem itsF_in {N:Nat}:∀(f:Nat) (l:List UInt8) (acc xs:List Itm) (r:List UInt8),l.length+acc.length≤N→(∀x∈acc,szN x.ps≤N∧x.s.length≤N)→itsF f l acc=some (xs,r)→xs.length≤N∧∀x∈xs,szN x.ps≤N∧x.s.length≤N
 | 0,l,acc,xs,r,_,_,h=>by cases h
 | f+1,l,acc,xs,r,hl,ha,h=>by
  by_cases h41:l.head? = some 41
  ·rw [itsF_end f l acc h41]at h
   obtain⟨rfl,_⟩:=Prod.mk.inj (Option.some.inj h)
   exact⟨by omega,ha⟩
  ·cases hi:itmL l with
   | none=>rw [itsF_none f l acc h41 hi]at h;cases h
   | some x =>
    obtain⟨g,ps,m⟩:=x
    have hu:=itmL_used _ _ _ _ hi
    have hm:=itmL_le _ _ _ _ hi
    have hpos:=itmL_pos _ _ _ _ hi
    cases he:endI (l.drop m)with
    | false=>rw [itsF_bad f l acc g ps m h41 hi he]at h;cases h
    | true =>
     rw [itsF_some f l acc g ps m h41 hi he]at h
     have h2:=spD_le (l.drop m)
     rw [List.length_drop]at h2
     refine itsF_in f _ _ _ _ (by rw [List.length_append,List.length_singleton];omega) ?_ h
     intro y hy
     rcases List.mem_append.1 hy with hy | hy
     ·exact ha y hy
     ·obtain rfl:=List.mem_singleton.1 hy
      exact⟨by dsimp only;omega,by dsimp only;omega⟩
theorem memL_in {N:Nat} (l:List UInt8) (M:Mem) (r:List UInt8) (hl:l.length≤N) (h:memL l=some (M,r)):MemIn N M:=by
 unfold memL at h
 by_cases h40:l.head? = some 40
 ·rw [if_pos h40]at h
  unfold innL at h
  cases hi:itsL (l.drop 1)with
  | none=>rw [hi]at h;cases h
  | some x =>
   obtain⟨xs,q⟩:=x
   rw [hi]at h
   dsimp only at h
   have hq:=itsL_le _ _ _ hi
   rw [List.length_drop]at hq
   have hs:=spD_le (l.drop 1)
   rw [List.length_drop]at hs
   obtain⟨h1,h2⟩:=itsF_in (N:=N) _ _ _ _ _ (by rw [List.length_nil];omega) (fun x hx=>by cases hx) hi
   cases hp:psL q [] 0 with
   | none=>rw [hp]at h;cases h
   | some y =>
    obtain⟨ps,m⟩:=y
    rw [hp]at h
    dsimp only at h
    have hu:=psL_used _ _ _ _ _ _ (zR _) hp
    have hk:=psL_le _ _ _ _ _ _ (zR _) hp
    have e0:szN []=0:=rfl
    obtain⟨rfl,_⟩:=Prod.mk.inj (Option.some.inj h)
    exact⟨Nat.zero_le _,Nat.zero_le _,show szN ps≤N by omega,h1,h2⟩
 ·rw [if_neg h40]at h
  cases hi:itmL l with
  | none=>rw [hi]at h;cases h
  | some x =>
   obtain⟨g,ps,m⟩:=x
   rw [hi]at h
   dsimp only at h
   have hu:=itmL_used _ _ _ _ hi
   have hm:=itmL_le _ _ _ _ hi
   obtain⟨rfl,_⟩:=Prod.mk.inj (Option.some.inj h)
   exact⟨show g.s.length≤N by omega,show szN ps≤N by omega,Nat.zero_le _,Nat.zero_le _,fun x hx=>by cases hx⟩
theorem entL_in {N:Nat} (l:List UInt8) (E:Ent) (r:List UInt8) (hl:l.length≤N) (h:entL l=some (E,r)):E.key.length≤N∧MemIn N E.val:=by
 unfold entL at h
 split at h
 ·cases h
 ·cases hv:valM (l.drop (klen l))with
  | none=>rw [hv]at h;cases h
  | some x =>
   obtain⟨M,q⟩:=x
   rw [hv]at h
   dsimp only at h
   obtain⟨rfl,_⟩:=Prod.mk.inj (Option.some.inj h)
   have hkl:=klen_le l
   refine⟨by dsimp only;rw [List.length_take];omega,?_⟩
   dsimp only
   unfold valM at hv
   split at hv
   ·exact memL_in _ _ _ (by rw [List.length_drop,List.length_drop];omega) hv
   ·cases hp:psL (l.drop (klen l)) [] 0 with
    | none=>rw [hp]at hv;cases hv
    | some y =>
     obtain⟨ps,m⟩:=y
     rw [hp]at hv
     dsimp only at hv
     have hu:=psL_used _ _ _ _ _ _ (zR _) hp
     have hk:=psL_le _ _ _ _ _ _ (zR _) hp
     rw [List.length_drop]at hk
     have e0:szN []=0:=rfl
     obtain⟨rfl,_⟩:=Prod.mk.inj (Option.some.inj hv)
     exact⟨Nat.zero_le _,show szN ps≤N by omega,Nat.zero_le _,Nat.zero_le _,fun x hx=>by cases hx⟩
theorem ents_in {N:Nat} (l:List UInt8) (xs:List Ent) (hl:l.length≤N) (h:sepL entL l=some xs):xs.length≤l.length+1∧∀E∈xs,E.key.length≤N∧MemIn N E.val:=by
 unfold sepL at h
 split at h
 ·obtain rfl:=Option.some.inj h
  exact⟨Nat.zero_le _,fun M hM=>by cases hM⟩
 ·have h1:=sepF_len entL _ _ _ _ h
  have h2:=spD_le l
  exact⟨by simpa using h1,sepF_all (P:=fun E:Ent=>E.key.length≤N∧MemIn N E.val) (N:=N) (fun l M r hl hr=>⟨entL_in l M r hl hr,entL_le _ _ _ hr⟩) _ _ _ _ (by omega) (by simp) h⟩
def dicL (l:List UInt8):Option (List Ent):=(sepL entL l).map oeK
def dicPost (o:Option (List Ent)) (w:World) (e:Ending) (w':World):Prop:=
 Below w.heap.size w w'∧match o with
  | none=>e=.returned (.tuple #[.slice none 0 0,.int .i64 2])
  | some xs=>∃v,e=.returned (.tuple #[v,.int .i64 0])∧GOff entR w.heap.size none w' v xs
theorem dict_any (s:ByteArray) (w:World) (hs:s.size≤90000) (hA:Alph w) :
  Calls Tryz.prog 54 #[.string s] w (dicPost (dicL s.data.toList) w):=by
 have cS:=sepE_any s w (by omega) hA
 clear hA
 cases h:sepL entL s.data.toList with
 | none =>
  have HL:Hid (dicL s.data.toList=none):=zH (by rw [dicL,h]<;>rfl)
  rw [h]at cS
  clear h
  go_enter Tryz.func54,Tryz.ntmps54
  go_wp2_with fail
  refine cS.mono ?_
  rintro e w1 ⟨hb1,rfl⟩
  go_wp2_with fail
  go_ret2
  refine⟨hb1,?_⟩
  rw [HL.out]
  rfl
 | some xs =>
  have HL:Hid (dicL s.data.toList=some (oeK xs)):=zH (by rw [dicL,h]<;>rfl)
  obtain⟨hx1,hx2⟩:=ents_in (N:=90000) _ xs (by rw [← Lib.size_eq];exact hs) h
  rw [← Lib.size_eq]at hx1
  rw [h]at cS
  clear h
  go_enter Tryz.func54,Tryz.ntmps54
  go_wp2_with fail
  refine cS.mono ?_
  rintro e w1 ⟨hb1,v,rfl,ho⟩
  have hG:=ho.off
  have cO:=oneOf_any v xs w.heap.size w1 hG hb1.size (by omega) (fun p hp=>by have:=(hx2 p hp).1;omega)
  obtain⟨ao,cap,rfl,hc⟩:=hG
  clear hc ho cS
  go_wp2_with fail
  refine cO.mono ?_
  rintro e w2 ⟨hb2,u,rfl,hG2⟩
  have HG2:=zH hG2
  obtain⟨ao2,cap2,rfl,hc⟩:=hG2
  clear hc
  go_wp2_with fail
  go_ret2
  refine⟨hb1.trans (hb2.mono hb1.size),?_⟩
  rw [HL.out]
  exact⟨_,rfl,HG2.out⟩
variable {α β:Type}
theorem rowG_len (R:Rowing α β):∀l:List (α×β),(rowG R l).length=l.length*R.size
 | []=>by simp [rowG]
 | (x,u) :: l=>by
  rw [rowG,List.length_append,R.len,rowG_len R l,List.length_cons,Nat.add_mul,Nat.one_mul,Nat.add_comm]
theorem GOff.rows {R:Rowing α β} {lo:Nat} {blk:Option Nat} {w:World} {v:Value} {xs:List α} (hsz:0<R.size) (h:GOff R lo blk w v xs) :
  ∃ao cap,∃us:List β,v=.slice ao xs.length cap∧us.length=xs.length∧(∀(j:Nat) (u:β) (x:α),us[j]? = some u→xs[j]? = some x→R.F lo blk w x u) ∧
   (xs=[]∨∃b off,ao=some ⟨b,off,none⟩∧lo≤b∧some b≠blk∧b<w.heap.size∧∀j u,(rowG R (xs.zip us))[j]? = some u→w.cell? ⟨b,off+j,none⟩=some u):=by
 obtain⟨ao,cap,hv,hc⟩:=h
 by_cases hx:xs=[]
 ·subst hx
  exact⟨ao,cap,[],hv,rfl,fun j u x hu=>by simp at hu,.inl rfl⟩
 ·rcases hc with hc | ⟨b,off,h1,h0,h2,h3,h4⟩
  ·exact absurd hc hx
  ·have hch:∀i:Fin xs.length,∃u,(∀k,k<R.size→w.cell? ⟨b,off+i.val*R.size+k,none⟩=(R.cells xs[i.val] u)[k]?)∧R.F lo blk w xs[i.val] u:=fun i=>h4 i.val xs[i.val] (List.getElem?_eq_getElem i.isLt)
   obtain⟨f,hf⟩:=Classical.axiomOfChoice hch
   refine⟨ao,cap,List.ofFn f,hv,List.length_ofFn,?_,.inr ⟨b,off,h1,h0,h2,h3,?_⟩⟩
   ·intro j u x hu hx
    have hj:=(List.getElem?_eq_some_iff.1 hx).1
    rw [List.getElem?_eq_getElem hj]at hx
    obtain rfl:=Option.some.inj hx
    rw [List.getElem?_ofFn,dif_pos hj]at hu
    obtain rfl:=Option.some.inj hu
    exact(hf ⟨j,hj⟩).2
   ·intro j u hu
    have hlt:=(List.getElem?_eq_some_iff.1 hu).1
    rw [rowG_len,List.length_zip,List.length_ofFn,Nat.min_self]at hlt
    have hi:j / R.size<xs.length:=Nat.div_lt_of_lt_mul (by rw [Nat.mul_comm];exact hlt)
    have hm:j % R.size<R.size:=Nat.mod_lt _ hsz
    have hjj:j=j / R.size*R.size+j % R.size:=by rw [Nat.mul_comm];exact(Nat.div_add_mod j R.size).symm
    have hz:(xs.zip (List.ofFn f))[j / R.size]? = some (xs[j / R.size],f ⟨j / R.size,hi⟩):=by
     rw [List.getElem?_zip_eq_some]
     exact⟨List.getElem?_eq_getElem hi,by rw [List.getElem?_ofFn,dif_pos hi]⟩
    have hr:=rowG_at R _ _ (j % R.size) _ _ hz hm
    rw [← hjj,hu]at hr
    have:=(hf ⟨j / R.size,hi⟩).1 (j % R.size) hm
    dsimp only at this
    rw [← hr,Nat.add_assoc,← hjj]at this
    exact this
def itmR:Rowing Itm Value where
 size:=4
 cells x u:=cellsI x u
 F lo blk w x u:=PrmsOff lo blk w u x.ps
 len _ _:=rfl
 below h hb:=h.below hb
 step h hg hat:=h.step hg hat
 low h hl:=h.low hl
 avoid h hb:=h.avoid hb
theorem ItmsOff.g {lo:Nat} {blk:Option Nat} {w:World} {v:Value} {xs:List Itm} (h:ItmsOff lo blk w v xs):GOff itmR lo blk w v xs:=by
 obtain⟨ao,cap,hv,hc⟩:=h
 rcases hc with hc | ⟨b,off,h1,h0,h2,h3,h4⟩
 ·exact⟨ao,cap,hv,.inl hc⟩
 ·refine⟨ao,cap,hv,.inr ⟨b,off,h1,h0,h2,h3,fun j x hx=>?_⟩⟩
  obtain⟨u,⟨c0,c1,c2,c3⟩,hp⟩:=h4 j x hx
  refine⟨u,fun i hi=>?_,hp⟩
  have hi4:i<4:=hi
  match i,hi4 with
  | 0,_=>exact c0
  | 1,_=>exact c1
  | 2,_=>exact c2
  | 3,_=>exact c3
theorem GOff.items {lo:Nat} {blk:Option Nat} {w:World} {v:Value} {xs:List Itm} (h:GOff itmR lo blk w v xs):ItmsOff lo blk w v xs:=by
 obtain⟨ao,cap,hv,hc⟩:=h
 rcases hc with hc | ⟨b,off,h1,h0,h2,h3,h4⟩
 ·exact⟨ao,cap,hv,.inl hc⟩
 ·refine⟨ao,cap,hv,.inr ⟨b,off,h1,h0,h2,h3,fun j x hx=>?_⟩⟩
  obtain⟨u,hcs,hp⟩:=h4 j x hx
  exact⟨u,⟨hcs 0 (by decide),hcs 1 (by decide),hcs 2 (by decide),hcs 3 (by decide)⟩,hp⟩
theorem PrmsOff.other {lo g:Nat} {w w':World} {v:Value} {ps:List Prm} (h:PrmsOff lo (some g) w v ps) (hm:Moved g w w'):PrmsOff lo (some g) w' v ps:=by
 obtain⟨ao,cap,hv,hh⟩:=h
 rcases hh with hh | ⟨b,off,h1,h0,h2,h3,h4⟩
 ·exact⟨ao,cap,hv,.inl hh⟩
 ·exact⟨ao,cap,hv,.inr ⟨b,off,h1,h0,h2,Nat.lt_of_lt_of_le h3 hm.size,fun j u hj=>(hm.cell (p:=⟨b,off+j,none⟩) h3 (fun e=>h2 (congrArg some e))).trans (h4 j u hj)⟩⟩
theorem PrmsOff.free {lo:Nat} {blk:Option Nat} {w:World} {v:Value} {ps:List Prm} (h:PrmsOff lo blk w v ps):PrmsOff lo none w v ps:=by
 obtain⟨ao,cap,hv,hh⟩:=h
 rcases hh with hh | ⟨b,off,h1,h0,h2,h3,h4⟩
 ·exact⟨ao,cap,hv,.inl hh⟩
 ·exact⟨ao,cap,hv,.inr ⟨b,off,h1,h0,fun e=>(by cases e),h3,h4⟩⟩
theorem rowP_one (ps:List Prm):∀u∈rowP ps,u.oneCell'=true:=by
 intro u hu
 obtain⟨p,_,hp⟩:=List.mem_flatMap.1 hu
 simp only [cellsP,List.mem_cons,List.not_mem_nil,or_false]at hp
 rcases hp with rfl | rfl | rfl | rfl<;>rfl
theorem rowG_one {α β:Type} {R:Rowing α β}:∀(xs:List α) (us:List β),(∀(j:Nat) (u:β) (x:α),us[j]? = some u→xs[j]? = some x→∀y∈R.cells x u,y.oneCell'=true)→∀y∈rowG R (xs.zip us),y.oneCell'=true
 | [],us,_,y,hy=>by simp [rowG]at hy
 | x :: xs,[],_,y,hy=>by simp [rowG]at hy
 | x :: xs,u :: us,h,y,hy=>by
  rw [List.zip_cons_cons,rowG,List.mem_append]at hy
  rcases hy with hy | hy
  ·exact h 0 u x rfl rfl y hy
  ·exact rowG_one xs us (fun j u x hu hx=>h (j+1) u x (by simpa using hu) (by simpa using hx)) y hy
theorem itm_one {lo:Nat} {blk:Option Nat} {w:World} {x:Itm} {u:Value} (h:PrmsOff lo blk w u x.ps):∀y∈itmR.cells x u,y.oneCell'=true:=by
 obtain⟨ao,cap,rfl⟩:=h.form
 intro y hy
 simp only [itmR,cellsI,List.mem_cons,List.not_mem_nil,or_false]at hy
 rcases hy with rfl | rfl | rfl | rfl<;>rfl
theorem cloneP_any (v:Value) (ps:List Prm) (w:World) (h:Prms w v ps) (hl:ps.length≤100000) :
  Calls Tryz.prog 168 #[v] w fun e w'=>Below w.heap.size w w'∧∃u,e=.returned u∧w'.ownsRow w.heap.size 215 4 u ps.length (rowP ps):=by
 obtain⟨i0,hi,hz0,hz1,hz2⟩:=info_parts info_param
 obtain⟨ao,cap,rfl,hc⟩:=h
 have qn:∀(w:World) (a:Option Addr) (n c n' c':Nat),(binOp .eql 114 (.slice a n c) (.slice none n' c')).run Tryz.prog w=.ok (.bool a.isNone) w:=fun w a n c n' c'=>Lib.run_eql_slice_nil w _ _ a n c n' c' Tryz.underlying114
 have HC:=zH hc
 clear hc
 cases ao with
 | none =>
  have hps:ps=[]:=by
   rcases HC.out with h | ⟨b,off,h,_⟩
   ·exact h
   ·cases h
  subst hps
  go_enter Tryz.func168,Tryz.ntmps168
  go_wp2_with fail
  go_ret
  exact⟨Below.refl _ _,_,rfl,World.ownsRow_nil _ _ _ _⟩
 | some a =>
  by_cases hps:ps=[]
  ·subst hps
   go_enter Tryz.func168,Tryz.ntmps168
   go_wp2_with (at_builtin;refine wpList_append_own _ rfl _ _ 114 rfl w.heap.size 215 i0 (.agg #[.string ⟨#[]⟩,.int .i64 0,.int .i64 0,.string ⟨#[]⟩]) 4 48 Tryz.underlying114 hi hz0 hz1 hz2 rfl (by decide) _ _ _ rfl (World.ownsRow_made w #[] 0 (zR _) (Nat.zero_le _) rfl) a 0 cap [] rfl rfl (by intro j u hj;simp at hj) (by intro u hu;cases hu) (by unfold maxLen;omega) (by omega) (by simp) ?_)
   intro v' w1 hown hgrow _
   go_wp2
   go_ret
   exact⟨((Below.refl _ w).alloc (zR _) _).grown hgrow (by simp) (by intro k hk;simp [Value.ownBlock]at hk;omega),_,rfl,(show w1.ownsRow w.heap.size 215 4 v' 0 []by simpa using hown)⟩
  ·have hsrc:∃b off,a=⟨b,off,none⟩∧∀j u,(rowP ps)[j]? = some u→w.cell? ⟨b,off+j,none⟩=some u:=by
    rcases HC.out with h | ⟨b,off,h,h2⟩
    ·exact absurd h hps
    ·exact⟨b,off,Option.some.inj h,h2⟩
   obtain⟨b,off,rfl,hcell⟩:=hsrc
   have A:Hid (∀j u,(rowP ps)[j]? = some u→w.cell? ⟨b,off+j,none⟩=some u):=zH hcell
   clear hcell
   go_enter Tryz.func168,Tryz.ntmps168
   go_wp2_with (at_builtin;refine wpList_append_own _ rfl _ _ 114 rfl w.heap.size 215 i0 (.agg #[.string ⟨#[]⟩,.int .i64 0,.int .i64 0,.string ⟨#[]⟩]) 4 48 Tryz.underlying114 hi hz0 hz1 hz2 rfl (by decide) _ _ _ rfl (World.ownsRow_made w #[] 0 (zR _) (Nat.zero_le _) rfl) ⟨b,off,none⟩ ps.length cap (rowP ps) rfl ?qc1 ?qc2 ?qc3 ?qc4 ?qc5 ?qc6 ?_)
   case qc1=>exact rowP_len ps
   case qc2 =>
    intro j u hj
    rw [Addr.add_lit]
    exact Lib.cell?_alloc_some _ (A.out j u hj)
   case qc3=>exact rowP_one ps
   case qc4=>unfold maxLen;omega
   case qc5=>omega
   case qc6=>simp
   intro v' w1 hown hgrow _
   go_wp2
   go_ret
   exact⟨((Below.refl _ w).alloc (zR _) _).grown hgrow (by simp) (by intro k hk;simp [Value.ownBlock]at hk;omega),_,rfl,by simpa using hown⟩
def ClonedI (w:World) (xs:List Itm) (us:List Value) (e:Ending) (w':World):Prop:=
 Below w.heap.size w w'∧∃u,e=.returned u∧w'.ownsRow w.heap.size 116 4 u xs.length (rowG itmR (xs.zip us))
theorem cloneI_us (ao:Option Addr) (cap:Nat) (xs:List Itm) (us:List Value) (w:World) (hul:us.length=xs.length) (hc:xs=[]∨∃b off,ao=some ⟨b,off,none⟩∧∀j u,(rowG itmR (xs.zip us))[j]? = some u→w.cell? ⟨b,off+j,none⟩=some u)
  (hone:∀y∈rowG itmR (xs.zip us),y.oneCell'=true) (hl:xs.length≤100000) :
  Calls Tryz.prog 167 #[.slice ao xs.length cap] w (ClonedI w xs us):=by
 obtain⟨i0,hi,hz0,hz1,hz2⟩:=info_parts info_item
 have qn:∀(w:World) (a:Option Addr) (n c n' c':Nat),(binOp .eql 117 (.slice a n c) (.slice none n' c')).run Tryz.prog w=.ok (.bool a.isNone) w:=fun w a n c n' c'=>Lib.run_eql_slice_nil w _ _ a n c n' c' Tryz.underlying117
 have HC:=zH hc
 have HONE:=zH hone
 clear hc hone
 cases ao with
 | none =>
  have hps:xs=[]:=by
   rcases HC.out with h | ⟨b,off,h,_⟩
   ·exact h
   ·cases h
  subst hps
  obtain rfl:us=[]:=List.eq_nil_of_length_eq_zero hul
  go_enter Tryz.func167,Tryz.ntmps167
  go_wp2_with fail
  go_ret
  exact⟨Below.refl _ _,_,rfl,World.ownsRow_nil _ _ _ _⟩
 | some a =>
  by_cases hps:xs=[]
  ·subst hps
   obtain rfl:us=[]:=List.eq_nil_of_length_eq_zero hul
   go_enter Tryz.func167,Tryz.ntmps167
   go_wp2_with (at_builtin;refine wpList_append_own _ rfl _ _ 117 rfl w.heap.size 116 i0 (.agg #[.int .i64 0,.int .i64 0,.string ⟨#[]⟩,.slice none 0 0]) 4 56 Tryz.underlying117 hi hz0 hz1 hz2 rfl (by decide) _ _ _ rfl (World.ownsRow_made w #[] 0 (zR _) (Nat.zero_le _) rfl) a 0 cap [] rfl rfl (by intro j u hj;simp at hj) (by intro u hu;cases hu) (by unfold maxLen;omega) (by omega) (by simp) ?_)
   intro v' w1 hown hgrow _
   go_wp2
   go_ret
   exact⟨((Below.refl _ w).alloc (zR _) _).grown hgrow (by simp) (by intro k hk;simp [Value.ownBlock]at hk;omega),_,rfl,(show w1.ownsRow w.heap.size 116 4 v' 0 []by simpa using hown)⟩
  ·have hsrc:∃b off,a=⟨b,off,none⟩∧∀j u,(rowG itmR (xs.zip us))[j]? = some u→w.cell? ⟨b,off+j,none⟩=some u:=by
    rcases HC.out with h | ⟨b,off,h,h2⟩
    ·exact absurd h hps
    ·exact⟨b,off,Option.some.inj h,h2⟩
   obtain⟨b,off,rfl,hcell⟩:=hsrc
   have A:Hid (∀j u,(rowG itmR (xs.zip us))[j]? = some u→w.cell? ⟨b,off+j,none⟩=some u):=zH hcell
   clear hcell
   go_enter Tryz.func167,Tryz.ntmps167
   go_wp2_with (at_builtin;refine wpList_append_own _ rfl _ _ 117 rfl w.heap.size 116 i0 (.agg #[.int .i64 0,.int .i64 0,.string ⟨#[]⟩,.slice none 0 0]) 4 56 Tryz.underlying117 hi hz0 hz1 hz2 rfl (by decide) _ _ _ rfl (World.ownsRow_made w #[] 0 (zR _) (Nat.zero_le _) rfl) ⟨b,off,none⟩ xs.length cap (rowG itmR (xs.zip us)) rfl ?qc1 ?qc2 ?qc3 ?qc4 ?qc5 ?qc6 ?_)
   case qc1=>rw [rowG_len,List.length_zip,hul,Nat.min_self]<;>rfl
   case qc2 =>
    intro j u hj
    rw [Addr.add_lit]
    exact Lib.cell?_alloc_some _ (A.out j u hj)
   case qc3=>exact HONE.out
   case qc4=>unfold maxLen;omega
   case qc5=>omega
   case qc6=>simp
   intro v' w1 hown hgrow _
   go_wp2
   go_ret
   exact⟨((Below.refl _ w).alloc (zR _) _).grown hgrow (by simp) (by intro k hk;simp [Value.ownBlock]at hk;omega),_,rfl,by simpa using hown⟩
def Box2 (w:World) (o p:Obj) (W:World):Prop:=Below (w.heap.size+2) ((w.alloc o).alloc p) W
theorem Box2.next {w W W1:World} {o p:Obj} (h:Box2 w o p W) (hb:Below W.heap.size W W1):Box2 w o p W1:=
 Below.trans h (hb.mono (by have:=Below.size h;simp at this;omega))
theorem Box2.later {w W:World} {o p:Obj} (h:Box2 w o p W):Below w.heap.size w W:=
 (((Below.refl w.heap.size w).alloc (zR _) o).alloc (by simp) p).trans (Below.mono h (by omega))
theorem Box2.cells {w W:World} {a b c d a' b' c' d':Value} {T T':TypeId} (h:Box2 w (.cells #[a,b,c,d] T) (.cells #[a',b',c',d'] T') W) :
  (W.cell? ⟨w.heap.size,0,none⟩=some a∧W.cell? ⟨w.heap.size,1,none⟩=some b∧W.cell? ⟨w.heap.size,2,none⟩=some c∧W.cell? ⟨w.heap.size,3,none⟩=some d) ∧
  (W.cell? ⟨w.heap.size+1,0,none⟩=some a'∧W.cell? ⟨w.heap.size+1,1,none⟩=some b'∧W.cell? ⟨w.heap.size+1,2,none⟩=some c'∧W.cell? ⟨w.heap.size+1,3,none⟩=some d') ∧
  (W.frozen? ⟨w.heap.size,3,none⟩=false∧W.frozen? ⟨w.heap.size+1,0,none⟩=false∧W.frozen? ⟨w.heap.size+1,1,none⟩=false∧W.frozen? ⟨w.heap.size+1,2,none⟩=false∧W.frozen? ⟨w.heap.size+1,3,none⟩=false):=by
 have kc:=fun(b o:Nat) (hb:b<w.heap.size+2)=>Below.cell (p:=⟨b,o,none⟩) h hb
 have kf:=fun(b o:Nat) (hb:b<w.heap.size+2)=>Below.frozen (p:=⟨b,o,none⟩) h hb
 refine⟨⟨?_,?_,?_,?_⟩,⟨?_,?_,?_,?_⟩,?_,?_,?_,?_,?_⟩
 ·exact(kc _ _ (by omega)).trans (by simp)
 ·exact(kc _ _ (by omega)).trans (by simp)
 ·exact(kc _ _ (by omega)).trans (by simp)
 ·exact(kc _ _ (by omega)).trans (by simp)
 ·exact(kc _ _ (by omega)).trans (by simp)
 ·exact(kc _ _ (by omega)).trans (by simp)
 ·exact(kc _ _ (by omega)).trans (by simp)
 ·exact(kc _ _ (by omega)).trans (by simp)
 ·exact(kf _ _ (by omega)).trans (by simp)
 ·exact(kf _ _ (by omega)).trans (by simp)
 ·exact(kf _ _ (by omega)).trans (by simp)
 ·exact(kf _ _ (by omega)).trans (by simp)
 ·exact(kf _ _ (by omega)).trans (by simp)
theorem itemCopy_any (k n:Int) (s:ByteArray) (v:Value) (ps:List Prm) (w:World) (h:Prms w v ps) (hl:ps.length≤100000) :
  Calls Tryz.prog 166 #[.agg #[.int .i64 k,.int .i64 n,.string s,v]] w fun e w'=>Below w.heap.size w w'∧∃u,e=.returned (.agg #[.int .i64 k,.int .i64 n,.string s,u])∧w'.ownsRow (w.heap.size+2) 215 4 u ps.length (rowP ps):=by
 have hb0:Below w.heap.size w ((w.alloc (itemO k n s v)).alloc zeroItem):=((Below.refl _ _).alloc (zR _) _).alloc (by simp) _
 have cC:=cloneP_any v ps ((w.alloc (itemO k n s v)).alloc zeroItem) (h.below hb0) hl
 obtain⟨ao,cap,rfl,hc⟩:=h
 clear hc
 go_enter Tryz.func166,Tryz.ntmps166
 go_wp2_with fail
 refine cC.mono ?_
 rintro e w1 ⟨hb1,u,rfl,hown⟩
 have hk1:Box2 w (itemO k n s (.slice ao ps.length cap)) zeroItem w1:=Below.mono hb1 (by simp)
 have hB1:=hk1.later
 obtain⟨⟨x0,x1,x2,x3⟩,⟨y0,y1,y2,y3⟩,f3,g0,g1,g2,g3⟩:=hk1.cells
 have hw1:w.heap.size+1<w1.heap.size:=lt_of_cell y0
 have HO:=zH (ownsRow_low hown (B:=w.heap.size+2) (by simp))
 obtain⟨ao2,cap2,rfl⟩:=owns_form hown
 clear hown hb1 hb0 cC
 go_wp2_with fail
 have hown2:=HO.out
 refine bodyPost_ret (v:=.agg #[.int .i64 k,.int .i64 n,.string s,.slice ao2 ps.length cap2]) (by simp [results,Tryz.results166,go_sem,y0,y1,y2,y3]) rfl ⟨?_,_,rfl,?_⟩
 ·repeat(first | with_reducible refine Below.setCell ?_ (by simp) _)
  exact hB1
 ·have hm1:=(Moved.refl w.heap.size w1).setCell (o:=3) (.slice ao2 ps.length cap2)
  have o1:=ownsRow_moved hown2 hm1 (by omega)
  have hm2:=((((Moved.refl (w.heap.size+1) (w1.setCell ⟨w.heap.size,3,none⟩ (.slice ao2 ps.length cap2))).setCell (o:=0) (.int .i64 k)).setCell (o:=1) (.int .i64 n)).setCell (o:=2) (.string s)).setCell (o:=3) (.slice ao2 ps.length cap2)
  exact ownsRow_moved o1 hm2 (by omega)
structure MemSm (M:Mem):Prop where
 a:M.it.ps.length≤100000
 b:M.its.length≤100000
 c:∀x∈M.its,x.ps.length≤100000
 d:M.ps.length≤100000
end Go.Proofs.YtfaedmbfabfmeaaGreatDoor
