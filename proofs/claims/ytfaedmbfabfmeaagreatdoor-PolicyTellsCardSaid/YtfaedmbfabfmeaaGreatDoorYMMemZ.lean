/- The contract of members.memberCopy. · The contract of members.Get. · The contract of members.entryText. · The contract of members.joined at entries. · The contract of members.hasEqualKeys. · The contract of members.PrintDict. · Plain: what is printed of members and of entries is read as these, whatever stops it behind. · The contracts of the document's Size and Same of members (sculleryref04), and of the law's sameList. -/
import Derived.Test.YtfaedmbfabfmeaaGreatDoorYMMemC
import Derived.Test.YtfaedmbfabfmeaaGreatDoorYMBarG
import Derived.Test.YtfaedmbfabfmeaaGreatDoorYMItmC
import Derived.Deep.RegionWith
set_option linter.unusedSimpArgs false
set_option maxRecDepth 100000
set_option maxHeartbeats 4000000
namespace Go.Proofs.YtfaedmbfabfmeaaGreatDoor
open Go.RowKit Go.Maps
theorem ResM.far {W W1:World} {c d:Nat} (h:ResM W c) (hm:Moved d W W1) (hd:c≠d):ResM W1 c:=by
 have hc:∀i,W1.cell? ⟨c,i,none⟩=W.cell? ⟨c,i,none⟩:=fun i=>hm.cell (p:=⟨c,i,none⟩) h.lt hd
 have hf:∀i,W1.frozen? ⟨c,i,none⟩=W.frozen? ⟨c,i,none⟩:=fun i=>hm.frozen (p:=⟨c,i,none⟩) h.lt hd
 exact⟨(hc 0).trans h.r0,(hc 1).trans h.r1,(hc 2).trans h.r2,(hc 3).trans h.r3,(hc 4).trans h.r4,(hc 5).trans h.r5,(hc 6).trans h.r6,(hf 0).trans h.g0,(hf 1).trans h.g1,(hf 2).trans h.g2,(hf 3).trans h.g3,(hf 4).trans h.g4,(hf 5).trans h.g5,(hf 6).trans h.g6⟩
structure BoxC (w W:World) (cs:List Value):Prop where
 c:∀(i:Nat) (v:Value),cs[i]? = some v→W.cell? ⟨w.heap.size,i,none⟩=some v
 f:∀i:Nat,W.frozen? ⟨w.heap.size,i,none⟩=false
 res:ResM W (w.heap.size+1)
 low:Below w.heap.size w W
theorem BoxC.next {w W W1:World} {cs:List Value} (h:BoxC w W cs) (hb:Below W.heap.size W W1):BoxC w W1 cs:=by
 have hl:=h.res.lt
 exact⟨fun i v hi=>(hb.cell (p:=⟨w.heap.size,i,none⟩) (show w.heap.size<W.heap.size by omega)).trans (h.c i v hi),fun i=>(hb.frozen (p:=⟨w.heap.size,i,none⟩) (show w.heap.size<W.heap.size by omega)).trans (h.f i),h.res.next (hb.mono hl),h.low.trans (hb.mono h.low.size)⟩
theorem BoxC.put {w W:World} {cs:List Value} (h:BoxC w W cs) (i:Nat) (hi:i<cs.length) (v:Value):BoxC w (W.setCell ⟨w.heap.size,i,none⟩ v) (cs.set i v):=by
 refine⟨fun j u hj=>?_,fun j=>by rw [World.frozen?_setCell];exact h.f j,h.res.far ((Moved.refl _ _).setCell v) (by omega),h.low.setCell (zR _) _⟩
 by_cases hij:i=j
 ·subst hij
  rw [List.getElem?_set_self hi]at hj
  obtain rfl:=Option.some.inj hj
  exact World.cell?_setCell_same W _ _ (h.c i cs[i] (List.getElem?_eq_getElem hi))
 ·rw [List.getElem?_set_ne hij]at hj
  exact(World.cell?_setCell_other W ⟨w.heap.size,i,none⟩ ⟨w.heap.size,j,none⟩ _ (by simp)).trans (h.c j u hj)
theorem BoxC.far {w W:World} {cs:List Value} (h:BoxC w W cs) (g o:Nat) (hg:w.heap.size+2≤g) (v:Value):BoxC w (W.setCell ⟨g,o,none⟩ v) cs:=
 ⟨fun j u hj=>(World.cell?_setCell_other W ⟨g,o,none⟩ ⟨w.heap.size,j,none⟩ _ (by simp)).trans (h.c j u hj),fun j=>by rw [World.frozen?_setCell];exact h.f j,h.res.far ((Moved.refl _ _).setCell v) (by omega),h.low.setCell (show w.heap.size≤g by omega) _⟩
theorem BoxC.made (w:World) (b:Bool) (k n:Int) (s:ByteArray) (u vi vp:Value):BoxC w ((w.alloc (memO b k n s u vi vp)).alloc zeroMem) [.bool b,.int .i64 k,.int .i64 n,.string s,u,vi,vp]:=by
 refine⟨fun i v hi=>?_,fun i=>by simp,?_,((Below.refl _ _).alloc (zR _) _).alloc (by simp) _⟩
 ·have hl:i<7:=(List.getElem?_eq_some_iff.1 hi).1
  match i,hl with
  | 0,_ | 1,_ | 2,_ | 3,_ | 4,_ | 5,_ | 6,_ =>
   obtain rfl:=Option.some.inj hi
   simp
 ·have:=ResM.made (w.alloc (memO b k n s u vi vp))
  simpa using this
theorem rowG_set4:∀(l:List (Itm×Value)) (i:Nat) (x:Itm) (u:Value),i<l.length →
  rowG itmR (l.set i (x,u))=((((rowG itmR l).set (i*4) (.int .i64 x.k)).set (i*4+1) (.int .i64 x.n)).set (i*4+2) (.string (strB x.s))).set (i*4+3) u
 | [],i,_,_,h=>by simp at h
 | (q,v) :: l,0,x,u,_=>by
  rw [List.set_cons_zero,rowG,rowG]
  rfl
 | (q,v) :: l,i+1,x,u,h=>by
  rw [List.set_cons_succ,rowG,rowG_set4 l i x u (by simpa using h),rowG]
  have e:∀(j:Nat) (r:List Value) (y:Value),(itmR.cells q v++r).set ((i+1)*4+j) y=itmR.cells q v++r.set (i*4+j) y:=by
   intro j r y
   have hl:(itmR.cells q v).length=4:=itmR.len q v
   rw [List.set_append,if_neg (by rw [hl];omega),hl]
   congr 2
   omega
  have e0:=e 0
  simp only [Nat.add_zero]at e0
  rw [e0,e 1,e 2,e 3]
theorem PrmsOff.apart {lo n size:Nat} {w w2:World} {v v2:Value} {ps:List Prm} {T:TypeId} {xs:List Value} (h:PrmsOff lo none w v ps) (ho:w2.ownsRow w.heap.size T size v2 n xs):PrmsOff lo v2.ownBlock w v ps:=by
 cases hb:v2.ownBlock with
 | none=>exact h
 | some g=>exact h.elsewhere g (.inr (World.ownsRow.lt ho g hb).1)
theorem PrmsOff.otherB {lo:Nat} {blk:Option Nat} {w w':World} {v:Value} {ps:List Prm} {g:Nat} (h:PrmsOff lo blk w v ps) (hg:blk=some g) (hm:Moved g w w'):PrmsOff lo blk w' v ps:=by
 subst hg
 exact h.other hm
theorem memberCopy_any (M:Mem) (v:Value) (w:World) (h:MemAt 0 none w M v) (hM:MemSm M) :
  Calls Tryz.prog 130 #[v] w fun e w'=>Below w.heap.size w w'∧∃v',e=.returned v'∧MemAt (w.heap.size+2) none w' M v':=by
 obtain⟨u,vi,vp,rfl,p1,p2,p3⟩:=h
 obtain⟨ao,cap,us,rfl,hul,hF,hc⟩:=GOff.rows (R:=itmR) (by decide) p2.g
 have hone:=rowG_one (R:=itmR) M.its us (fun j u x hu hx=>itm_one (hF j u x hu hx))
 have hC0:=BoxC.made w M.inner M.it.k M.it.n (strB M.it.s) u (.slice ao M.its.length cap) vp
 have cI:=itemCopy_any M.it.k M.it.n (strB M.it.s) u M.it.ps ((w.alloc (memO M.inner M.it.k M.it.n (strB M.it.s) u (.slice ao M.its.length cap) vp)).alloc zeroMem) (p1.prms.below hC0.low) hM.a
 have cF:=fun W (hW:Below w.heap.size w W)=>cloneI_us ao cap M.its us W hul (by
  rcases hc with hc | ⟨b,off,h1,_,_,h3,h4⟩
  ·exact .inl hc
  ·exact .inr ⟨b,off,h1,fun j u hj=>(hW.cell (p:=⟨b,off+j,none⟩) h3).trans (h4 j u hj)⟩) hone hM.b
 have cP:=fun W (hW:Below w.heap.size w W)=>cloneP_any vp M.ps W (p3.prms.below hW) hM.d
 have HF:=zH hF
 have HS:=zH hM.c
 have hlen:=hM.b
 obtain⟨a1,b1,rfl⟩:=p1.form
 obtain⟨a3,b3,rfl⟩:=p3.form
 clear p1 p2 p3 hc hone hF hM
 have HSt:=zH hC0
 clear hC0
 go_enter Tryz.func130,Tryz.ntmps130
 go_wp2_with fail
 refine cI.mono ?_
 rintro e w1 ⟨hb1,u1,rfl,ho1⟩
 have hC1:=HSt.out.next hb1
 obtain⟨a4,b4,rfl⟩:=owns_form ho1
 have x0:=hC1.c 0 _ rfl
 have x1:=hC1.c 1 _ rfl
 have x2:=hC1.c 2 _ rfl
 have x3:=hC1.c 3 _ rfl
 have x4:=hC1.c 4 _ rfl
 have x5:=hC1.c 5 _ rfl
 have x6:=hC1.c 6 _ rfl
 have f1:=hC1.f 1
 have f2:=hC1.f 2
 have f3:=hC1.f 3
 have f4:=hC1.f 4
 have HO1:=zH (ownsRow_low ho1 (B:=w.heap.size+2) (by simp))
 have HC1:=zH hC1
 clear hb1 ho1 hC1 cI
 go_wp2_with fail
 have hC2:BoxC w ((((w1.setCell ⟨w.heap.size,1,none⟩ (.int .i64 M.it.k)).setCell ⟨w.heap.size,2,none⟩ (.int .i64 M.it.n)).setCell ⟨w.heap.size,3,none⟩ (.string (strB M.it.s))).setCell ⟨w.heap.size,4,none⟩ (.slice a4 M.it.ps.length b4)) [.bool M.inner,.int .i64 M.it.k,.int .i64 M.it.n,.string (strB M.it.s),.slice a4 M.it.ps.length b4,.slice ao M.its.length cap,.slice a3 M.ps.length b3]:=
  (((HC1.out.put 1 (by simp) _).put 2 (by simp) _).put 3 (by simp) _).put 4 (by simp) _
 have HO2:=zH (ownsRow_moved HO1.out (((((Moved.refl w.heap.size w1).setCell (o:=1) (.int .i64 M.it.k)).setCell (o:=2) (.int .i64 M.it.n)).setCell (o:=3) (.string (strB M.it.s))).setCell (o:=4) (.slice a4 M.it.ps.length b4)) (by omega))
 refine(cF _ hC2.low).mono ?_
 rintro e w2 ⟨hb2,vi1,rfl,ho2⟩
 have hC3:=hC2.next hb2
 have HP2:=zH (((PrmsOff.made (lo:=w.heap.size+2) (blk:=none) HO2.out (zR _) (fun g e=>by cases e)).apart ho2).below hb2)
 have HR2:=zH (ownsRow_low ho2 (B:=w.heap.size+2) hC2.res.lt)
 obtain⟨a5,b5,rfl⟩:=owns_form ho2
 have f5:=hC3.f 5
 have z5:=hC3.c 5 _ rfl
 have HC3:=zH hC3
 clear hb2 ho2 hC2 hC3 cF x0 x1 x2 x3 x4 x5 x6 f1 f2 f3 f4 HO1 HO2 HC1 HSt
 go_wp2_with fail
 have hm5:Moved w.heap.size w2 (w2.setCell ⟨w.heap.size,5,none⟩ (.slice a5 M.its.length b5)):=(Moved.refl _ _).setCell _
 have HC4:=zH (HC3.out.put 5 (by simp) (.slice a5 M.its.length b5))
 have HP4:=zH (HP2.out.moved hm5 (by omega))
 have HR4:=zH (ownsRow_moved HR2.out hm5 (by omega))
 clear HC3 HP2 HR2 hm5 f5 z5
 go_loopw [16] (fun i wr=>∃(j:Nat) (us':List Value),i=.int .i64 j∧j≤M.its.length∧us'.length=M.its.length∧wr.ownsRow (w.heap.size+2) 116 4 (.slice a5 M.its.length b5) M.its.length (rowG itmR (M.its.zip us'))∧Hid (∀(k:Nat) (u:Value) (x:Itm),us'[k]? = some u→M.its[k]? = some x→(k<j→PrmsOff (w.heap.size+2) (Value.slice a5 M.its.length b5).ownBlock wr u x.ps)∧(j≤k→PrmsOff 0 none w u x.ps))∧BoxC w wr [.bool M.inner,.int .i64 M.it.k,.int .i64 M.it.n,.string (strB M.it.s),.slice a4 M.it.ps.length b4,.slice a5 M.its.length b5,.slice a3 M.ps.length b3]∧PrmsOff (w.heap.size+2) (Value.slice a5 M.its.length b5).ownBlock wr (.slice a4 M.it.ps.length b4) M.it.ps) (fun i _=>M.its.length-(intOf i).toNat)
 case atStart=>exact⟨0,us,rfl,Nat.zero_le _,hul,HR4.out,zH (fun k u x hu hx=>⟨fun h=>absurd h (by omega),fun _=>HF.out k u x hu hx⟩),HC4.out,HP4.out⟩
 case round =>
  obtain⟨j,us',rfl,hj,hul',hown,HFs,hC,hP⟩:=hrel
  clear HC4 HP4 HR4 HF
  have HC:=zH hC
  have HP:=zH hP
  have HO:=zH hown
  clear hC hP hown
  by_cases hlt:j<M.its.length
  ·obtain⟨g,cap5,hv5,hgB,hg2,hcap⟩:=owns_slice HO.out (by omega)
   obtain⟨rfl,_,rfl⟩:=Value.slice.inj hv5
   clear hv5
   obtain⟨x,hx⟩:∃x,M.its[j]? = some x:=⟨_,List.getElem?_eq_getElem hlt⟩
   obtain⟨uj,hu⟩:∃u,us'[j]? = some u:=⟨_,List.getElem?_eq_getElem (by omega)⟩
   have hst:=(HFs.out j uj x hu hx).2 (zR _)
   have hz:(M.its.zip us')[j]? = some (x,uj):=by rw [List.getElem?_zip_eq_some];exact⟨hx,hu⟩
   have q0:=owns_cells HO.out _ _ (rowG_at itmR _ j 0 x uj hz (by decide))
   have q1:=owns_cells HO.out _ _ (rowG_at itmR _ j 1 x uj hz (by decide))
   have q2:=owns_cells HO.out _ _ (rowG_at itmR _ j 2 x uj hz (by decide))
   have q3:=owns_cells HO.out _ _ (rowG_at itmR _ j 3 x uj hz (by decide))
   rw [show itmR.size=4 from rfl]at q0 q1 q2 q3
   rw [Nat.add_zero]at q0
   have x5:=HC.out.c 5 _ rfl
   have hl2:=HC.out.res.lt
   have jI:(j:Int)<(M.its.length:Int):=by omega
   have j0:(0:Int)≤(j:Int):=by omega
   have hbA:Below wr.heap.size wr (wr.alloc (itemO x.k x.n (strB x.s) uj)):=(Below.refl _ _).alloc (zR _) _
   have hbD:Below wr.heap.size wr (wr.alloc (itemO x.k x.n (strB x.s) uj)).drew:=hbA.drew
   have cI2:=itemCopy_any x.k x.n (strB x.s) uj x.ps (wr.alloc (itemO x.k x.n (strB x.s) uj)).drew (hst.prms.below (HC.out.low.trans (hbD.mono HC.out.low.size))) (HS.out x (List.mem_of_getElem? hx))
   have HCD:=zH (HC.out.next hbD)
   have HOD:=zH (ownsRow_later HO.out hbD)
   have v5:=cell_later (itemO x.k x.n (strB x.s) uj) x5
   obtain⟨au,bu,rfl⟩:=hst.form
   have HX:=zH hx
   have HU:=zH hu
   have HBD:=zH hbD
   generalize hSB:strB x.s=SB at *
   have HSB:=zH hSB
   clear hx hu hst hz hbA hbD hSB
   go_wp2_with fail
   go_region_with (go_at_call 166;refine cI2.mono ?_;rintro e w3 ⟨hb3,un,rfl,ho3⟩;obtain⟨an,bn,rfl⟩:=owns_form ho3;have hC3:=HCD.out.next hb3;have hO3:=ownsRow_later HOD.out hb3;have k5:=hC3.c 5 _ rfl;obtain⟨t0,e0,g0⟩:=owns_cell hO3 (j*4) (by omega);obtain⟨t1,e1,g1⟩:=owns_cell hO3 (j*4+1) (by omega);obtain⟨t2,e2,g2⟩:=owns_cell hO3 (j*4+2) (by omega);obtain⟨t3,e3,g3⟩:=owns_cell hO3 (j*4+3) (by omega))
   all_goals
    go_wp2_with fail
    go_roundw
    case rel =>
     have hm:Moved g w3 ((((w3.setCell ⟨g,j*4,none⟩ (.int .i64 x.k)).setCell ⟨g,j*4+1,none⟩ (.int .i64 x.n)).setCell ⟨g,j*4+2,none⟩ (.string SB)).setCell ⟨g,j*4+3,none⟩ (.slice an x.ps.length bn)):=((((Moved.refl _ _).setCell _).setCell _).setCell _).setCell _
     have s0:=hO3.stored (j*4) (.int .i64 x.k)
     have s1:=s0.1.stored (j*4+1) (.int .i64 x.n)
     have s2:=s1.1.stored (j*4+2) (.string SB)
     have s3:=s2.1.stored (j*4+3) (.slice an x.ps.length bn)
     have hB3:=HBD.out.trans (hb3.mono HBD.out.size)
     have hse:M.its.set j x=M.its:=by
      have:=HX.out
      rw [List.getElem?_eq_getElem hlt]at this
      obtain rfl:=Option.some.inj this
      exact List.set_getElem_self _
     have hgz:=HBD.out.size
     refine⟨j+1,us'.set j (.slice an x.ps.length bn),by go_num,by omega,by rw [List.length_set];exact hul',?_,zH ?_,?_,?_⟩
     ·rw [show M.its.zip (us'.set j (.slice an x.ps.length bn))=(M.its.zip us').set j (x,.slice an x.ps.length bn)by rw [← zip_set,hse],rowG_set4 _ _ _ _ (by rw [List.length_zip,hul',Nat.min_self];exact hlt),HSB.out]
      exact s3.1
     ·intro k u y hu hy
      by_cases e:k=j
      ·subst e
       rw [List.getElem?_set_self (by omega)]at hu
       obtain rfl:=Option.some.inj hu
       obtain rfl:=Option.some.inj (HX.out.symm.trans hy)
       exact⟨fun _=>(PrmsOff.made (lo:=w.heap.size+2) (blk:=some g) ho3 (by omega) (fun g' e=>by cases e;omega)).otherB rfl hm,fun h=>absurd h (by omega)⟩
      ·rw [List.getElem?_set_ne (Ne.symm e)]at hu
       exact⟨fun h=>(((HFs.out k u y hu hy).1 (by omega)).below hB3).otherB rfl hm,fun h=>(HFs.out k u y hu hy).2 (by omega)⟩
     ·exact(((hC3.far g _ hgB _).far g _ hgB _).far g _ hgB _).far g _ hgB _
     ·exact(HP.out.below hB3).otherB rfl hm
    case measure=>simp [intOf];omega
  ·obtain rfl:j=M.its.length:=by omega
   have x6:=HC.out.c 6 _ rfl
   go_wp2_with fail
   refine(cP _ HC.out.low).mono ?_
   rintro e w4 ⟨hb4,vp1,rfl,ho4⟩
   have hC4:=HC.out.next hb4
   have hl2:=HC.out.res.lt
   have HP4:=zH (PrmsOff.made (lo:=w.heap.size+2) (blk:=none) ho4 hl2 (fun g e=>by cases e))
   have HU4:=zH (HP.out.free.below hb4)
   have HR4:=zH (ownsRow_later HO.out hb4)
   have HF4:Hid (∀(k:Nat) (u:Value) (x:Itm),us'[k]? = some u→M.its[k]? = some x→PrmsOff (w.heap.size+2) none w4 u x.ps):=zH (fun k u x hu hx=>((HFs.out k u x hu hx).1 (List.getElem?_eq_some_iff.1 hx).1).free.below hb4)
   obtain⟨a6,b6,rfl⟩:=owns_form ho4
   clear x6
   have x0:=hC4.c 0 _ rfl
   have x1:=hC4.c 1 _ rfl
   have x2:=hC4.c 2 _ rfl
   have x3:=hC4.c 3 _ rfl
   have x4:=hC4.c 4 _ rfl
   have x5:=hC4.c 5 _ rfl
   have x6:=hC4.c 6 _ rfl
   have f6:=hC4.f 6
   have hlt4:=hC4.res.lt
   have HL4:=zH hC4.low
   obtain⟨r0,r1,r2,r3,r4,r5,r6,g0,g1,g2,g3,g4,g5,g6⟩:=hC4.res
   clear hb4 ho4 hC4 cP HC HP HO HFs
   go_wp2_with fail
   refine bodyPost_ret (v:=aggM M.inner M.it.k M.it.n (strB M.it.s) (.slice a4 M.it.ps.length b4) (.slice a5 M.its.length b5) (.slice a6 M.ps.length b6)) (by simp [results,Tryz.results130,go_sem,r0,r1,r2,r3,r4,r5,r6]) rfl ?_
   have hmB:Moved w.heap.size w4 (w4.setCell ⟨w.heap.size,6,none⟩ (.slice a6 M.ps.length b6)):=(Moved.refl _ _).setCell _
   have hmR:Moved (w.heap.size+1) (w4.setCell ⟨w.heap.size,6,none⟩ (.slice a6 M.ps.length b6)) ((((((((w4.setCell ⟨w.heap.size,6,none⟩ (.slice a6 M.ps.length b6)).setCell ⟨w.heap.size+1,0,none⟩ (.bool M.inner)).setCell ⟨w.heap.size+1,1,none⟩ (.int .i64 M.it.k)).setCell ⟨w.heap.size+1,2,none⟩ (.int .i64 M.it.n)).setCell ⟨w.heap.size+1,3,none⟩ (.string (strB M.it.s))).setCell ⟨w.heap.size+1,4,none⟩ (.slice a4 M.it.ps.length b4)).setCell ⟨w.heap.size+1,5,none⟩ (.slice a5 M.its.length b5)).setCell ⟨w.heap.size+1,6,none⟩ (.slice a6 M.ps.length b6)):=by
    repeat(first | with_reducible refine Moved.setCell ?_ _)
    exact Moved.refl _ _
   have fin:=fun(v:Value) (ps:List Prm) (h:PrmsOff (w.heap.size+2) none w4 v ps)=>(h.moved hmB (by omega)).moved hmR (by omega)
   refine⟨?_,_,rfl,_,_,_,rfl,fin _ _ HU4.out,?_,fin _ _ HP4.out⟩
   ·repeat(first | with_reducible refine Below.setCell ?_ (by simp) _)
    exact HL4.out
   ·exact(GOff.of_row (R:=itmR) hul' (ownsRow_moved (ownsRow_moved HR4.out hmB (by omega)) hmR (by omega)) (fun k u x hu hx=>fin _ _ (HF4.out k u x hu hx)) (zR _)).items
theorem MemAt.moved {lo c:Nat} {blk:Option Nat} {w w':World} {M:Mem} {v:Value} (h:MemAt lo blk w M v) (hm:Moved c w w') (hc:c<lo):MemAt lo blk w' M v:=by
 obtain⟨u,vi,vp,rfl,h1,h2,h3⟩:=h
 exact⟨u,vi,vp,rfl,h1.moved hm hc,h2.moved hm hc,h3.moved hm hc⟩
theorem MemAt.low {lo lo':Nat} {blk:Option Nat} {w:World} {M:Mem} {v:Value} (h:MemAt lo blk w M v) (hl:lo'≤lo):MemAt lo' blk w M v:=by
 obtain⟨u,vi,vp,rfl,h1,h2,h3⟩:=h
 exact⟨u,vi,vp,rfl,h1.low hl,h2.low hl,h3.low hl⟩
theorem MemIn.sm {N:Nat} {M:Mem} (h:MemIn N M) (hN:N≤100000):MemSm M:=
 ⟨by have:=szN_len M.it.ps;have:=h.ip;omega,by have:=h.len;omega,fun x hx=>by have:=szN_len x.ps;have:=(h.its x hx).1;omega,by have:=szN_len M.ps;have:=h.ps;omega⟩
def getM (es:List Ent) (k:List UInt8):Option Mem:=match es with
 | []=>none
 | e :: es=>if (strB e.key).toList==(strB k).toList then some e.val else getM es k
def getPost (o:Option Mem) (w:World) (e:Ending) (w':World):Prop:=
 Below w.heap.size w w'∧match o with
  | none=>e=.returned (.tuple #[noMem,.bool false])
  | some M=>∃v,e=.returned (.tuple #[v,.bool true])∧MemAt w.heap.size none w' M v
theorem get_any (v:Value) (es:List Ent) (k:List UInt8) (w:World) (h:GOff entR 0 none w v es) (hl:es.length≤100000) (hk:∀p∈es,MemSm p.val) :
  Calls Tryz.prog 91 #[v,.string (strB k)] w (getPost (getM es k) w):=by
 obtain⟨ao,cap,rfl,hc⟩:=h
 have HK:=zH hk
 have HC:=zH hc
 have HB0:Hid (Below (w.heap.size+1) (w.alloc zeroMem) (w.alloc zeroMem)):=zH (Below.refl _ _)
 clear hk hc
 go_enter Tryz.func91,Tryz.ntmps91
 go_wp2_with fail
 go_loopw [10] (fun i wr=>∃(j:Nat),i=.int .i64 j∧j≤es.length∧Hid (getM es k=getM (es.drop j) k)∧Below (w.heap.size+1) (w.alloc zeroMem) wr) (fun i _=>es.length-(intOf i).toNat)
 case atStart=>exact⟨0,rfl,Nat.zero_le _,zH rfl,HB0.out⟩
 case round =>
  obtain⟨j,rfl,hj,HG,hkb⟩:=hrel
  clear HB0
  have hR:=(ResM.made w).next hkb
  have hRl:=hR.lt
  have hb:Below w.heap.size w wr:=((Below.refl w.heap.size w).alloc (zR _) zeroMem).trans (Below.mono hkb (by omega))
  by_cases hlt:j<es.length
  ·rcases HC.out with hnil | ⟨c,off,rfl,_,_,hcl,hcell⟩
   ·exfalso
    rw [hnil]at hlt
    simp at hlt
   ·obtain⟨p,hp⟩:∃p,es[j]? = some p:=⟨_,List.getElem?_eq_getElem hlt⟩
    obtain⟨⟨u,u2,u3⟩,hcs,hF⟩:=hcell j p hp
    have HF:=zH hF
    obtain⟨au,cu,rfl⟩:=hF.1.form
    obtain⟨av,cv,rfl⟩:=hF.2.1.form
    obtain⟨aw,cw,rfl⟩:=hF.2.2.form
    have q0:=hcs 0 (by decide)
    have q1:=hcs 1 (by decide)
    have q2:=hcs 2 (by decide)
    have q3:=hcs 3 (by decide)
    have q4:=hcs 4 (by decide)
    have q5:=hcs 5 (by decide)
    have q6:=hcs 6 (by decide)
    have q7:=hcs 7 (by decide)
    have hck:∀i,wr.cell? ⟨c,i,none⟩=w.cell? ⟨c,i,none⟩:=fun i=>hb.cell (p:=⟨c,i,none⟩) hcl
    have a0:=(hck _).trans q0
    have a1:=(hck _).trans q1
    have a2:=(hck _).trans q2
    have a3:=(hck _).trans q3
    have a4:=(hck _).trans q4
    have a5:=(hck _).trans q5
    have a6:=(hck _).trans q6
    have a7:=(hck _).trans q7
    simp only [Nat.add_zero,entR,memR,List.getElem?_cons_zero,List.getElem?_cons_succ]at a0 a1 a2 a3 a4 a5 a6 a7
    rw [drop_at es j p hp,getM]at HG
    have hbA:Below wr.heap.size wr (wr.alloc (entO (strB p.key) p.val.inner p.val.it.k p.val.it.n (strB p.val.it.s) (.slice au p.val.it.ps.length cu) (.slice av p.val.its.length cv) (.slice aw p.val.ps.length cw))):=(Below.refl _ _).alloc (zR _) _
    have hbw:=hb.trans (hbA.mono hb.size)
    have cM:=memberCopy_any p.val _ _ (show MemAt 0 none (wr.alloc (entO (strB p.key) p.val.inner p.val.it.k p.val.it.n (strB p.val.it.s) (.slice au p.val.it.ps.length cu) (.slice av p.val.its.length cv) (.slice aw p.val.ps.length cw))) p.val (aggM p.val.inner p.val.it.k p.val.it.n (strB p.val.it.s) (.slice au p.val.it.ps.length cu) (.slice av p.val.its.length cv) (.slice aw p.val.ps.length cw))from⟨_,_,_,rfl,HF.out.1.below hbw,HF.out.2.1.below hbw,HF.out.2.2.below hbw⟩) (HK.out p (List.mem_of_getElem? hp))
    have HKA:=zH (hkb.trans (hbA.mono (Nat.succ_le_of_lt hRl)))
    clear hcell q0 q1 q2 q3 q4 q5 q6 q7 hcs hF hck hp hR hkb hb hbw
    cases he:((strB p.key).toList==(strB k).toList)
    ·rw [he,if_neg (by simp)]at HG
     clear cM
     generalize strB p.key=PK at *
     generalize strB p.val.it.s=SB at *
     generalize strB k=KB at *
     go_wp2_with fail
     go_roundw
     case rel=>exact⟨j+1,by go_num,by omega,zH HG.out,HKA.out⟩
     case measure=>simp [intOf];omega
    ·rw [he,if_pos rfl]at HG
     generalize strB p.key=PK at *
     generalize hSB:strB p.val.it.s=SB at *
     have HSB:=zH hSB
     clear hSB
     generalize strB k=KB at *
     go_wp2_with fail
     refine cM.mono ?_
     rintro e w2 ⟨hb2,v',rfl,hMA⟩
     have hkb2:=HKA.out.trans (hb2.mono (by simp;omega))
     have hR2:=(ResM.made w).next hkb2
     have hRl2:=hR2.lt
     have HB2:Hid (Below w.heap.size w w2):=zH (((Below.refl w.heap.size w).alloc (zR _) zeroMem).trans (Below.mono hkb2 (by omega)))
     have HMA:=zH hMA
     obtain⟨u',vi',vp',rfl,h1,h2,h3⟩:=hMA
     obtain⟨b1,c1,rfl⟩:=h1.form
     obtain⟨b2,c2,rfl⟩:=h2.form
     obtain⟨b3,c3,rfl⟩:=h3.form
     obtain⟨r0,r1,r2,r3,r4,r5,r6,g0,g1,g2,g3,g4,g5,g6⟩:=hR2
     clear h1 h2 h3 hb2 hkb2 cM
     go_wp2_with fail
     have hm:Moved w.heap.size w2 (((((((w2.setCell ⟨w.heap.size,0,none⟩ (.bool p.val.inner)).setCell ⟨w.heap.size,1,none⟩ (.int .i64 p.val.it.k)).setCell ⟨w.heap.size,2,none⟩ (.int .i64 p.val.it.n)).setCell ⟨w.heap.size,3,none⟩ (.string (strB p.val.it.s))).setCell ⟨w.heap.size,4,none⟩ (.slice b1 p.val.it.ps.length c1)).setCell ⟨w.heap.size,5,none⟩ (.slice b2 p.val.its.length c2)).setCell ⟨w.heap.size,6,none⟩ (.slice b3 p.val.ps.length c3)):=by
      repeat(first | with_reducible refine Moved.setCell ?_ _)
      exact Moved.refl _ _
     have hml:=(HMA.out.moved hm (by simp;omega)).low (lo':=w.heap.size) (by simp;omega)
     refine bodyPost_ret (v:=.tuple #[aggM p.val.inner p.val.it.k p.val.it.n (strB p.val.it.s) (.slice b1 p.val.it.ps.length c1) (.slice b2 p.val.its.length c2) (.slice b3 p.val.ps.length c3),.bool true]) (by simp [results,Tryz.results91,go_sem,r0,r1,r2,r3,r4,r5,r6]) rfl ?_
     rw [HG.out]
     refine⟨?_,_,rfl,hml⟩
     repeat(first | with_reducible refine Below.setCell ?_ (by simp) _)
     exact HB2.out
  ·obtain rfl:j=es.length:=by omega
   have HN:Hid (getM es k=none):=zH (by rw [HG.out,List.drop_length]<;>rfl)
   obtain⟨r0,r1,r2,r3,r4,r5,r6,g0,g1,g2,g3,g4,g5,g6⟩:=hR
   have HB:=zH hb
   clear HG hkb hb
   go_wp2_with fail
   refine bodyPost_ret (v:=.tuple #[noMem,.bool false]) (by simp [results,Tryz.results91,go_sem,r0,r1,r2,r3,r4,r5,r6]) rfl ?_
   rw [HN.out]
   refine⟨?_,rfl⟩
   repeat(first | with_reducible refine Below.setCell ?_ (by simp) _)
   exact HB.out
def enT (E:Ent):Option (List UInt8):=match memT E.val with
 | none=>none
 | some t=>if keyL E.key=false then none else if Lib.hasPrefix t [63,49]=true then some (E.key++t.drop 2)else some (E.key++61 :: t)
theorem EntAt.below {lo:Nat} {blk:Option Nat} {w w':World} {E:Ent} {v:Value} (h:EntAt lo blk w E v) (hb:Below w.heap.size w w'):EntAt lo blk w' E v:=by
 obtain⟨u,vi,vp,hv,hF⟩:=h
 exact⟨u,vi,vp,hv,entR.below hF hb⟩
open Go.WideMaps (keyOf_string_mk)
def eqKE (ps:List Ent):Bool:=!decide (ps.map Ent.key).Nodup
def dcT (xs:List Ent):Option (List UInt8):=if eqKE xs=true then none else jnGo enT [44,32] true xs
end Go.Proofs.YtfaedmbfabfmeaaGreatDoor
namespace Go.Proofs.YtfaedmbfabfmeaaGreatDoor
variable {α:Type}
theorem putE_new (acc:List Ent) (e:Ent) (h:e.key∉acc.map Ent.key):putE acc e=acc++[e]:=by
 unfold putE
 rw [if_neg]
 intro hlt
 exact h ((idxL_lt _ _).1 (by rw [List.length_map];exact hlt))
end Go.Proofs.YtfaedmbfabfmeaaGreatDoor
namespace Go.Proofs.YtfaedmbfabfmeaaGreatDoor
open Go.RowKit Go.Maps
def itmsz:List Itm→Nat
 | []=>0
 | x :: xs=>szN x.ps+x.s.length+1+itmsz xs
def memsz (M:Mem):Nat:=szN M.ps+szN M.it.ps+M.it.s.length+1+itmsz M.its
end Go.Proofs.YtfaedmbfabfmeaaGreatDoor
