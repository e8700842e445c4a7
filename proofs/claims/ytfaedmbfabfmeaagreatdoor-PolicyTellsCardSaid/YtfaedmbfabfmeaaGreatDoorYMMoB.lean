/- The contract of modern.rulesOf. · The contracts of modern.Parse and modern.Choose. -/
import Derived.Test.YtfaedmbfabfmeaaGreatDoorYMMoV
import Derived.Test.YtfaedmbfabfmeaaGreatDoorYMLgH
import Derived.Test.YtfaedmbfabfmeaaGreatDoorYMMoP
import Derived.Test.YtfaedmbfabfmeaaGreatDoorYMChsP
import Derived.Test.YtfaedmbfabfmeaaGreatDoorYMBarC
import Derived.Test.YtfaedmbfabfmeaaGreatDoorYMLgA
import Derived.Laws.EntriesVeiled
set_option linter.unusedSimpArgs false
set_option maxRecDepth 100000
set_option maxHeartbeats 8000000
namespace Go.Proofs.YtfaedmbfabfmeaaGreatDoor
open Go.RowKit Go.Maps Go.Lib
structure Rul (w:World) (E R V Q:Nat) (es:List Ent) (vs:List Value) (W:World):Prop where
 x:BoxN W R vs
 r:BoxN W Q [.bool false,.bool false,.bool false,.bool false,.bool false,.bool false,.bool false,.bool false,.int .i64 0,.int .i64 0,.int .i64 0,.int .i64 0,.int .i64 0]
 e:∃(w0:World) (v:Value),w0.heap.size≤R∧Below w0.heap.size w0 W∧E<w0.heap.size∧w0.cell? ⟨E,0,none⟩=some v∧GOff entR 0 none w0 v es
 f:FnH W E V
 b:Below w.heap.size w W
 rv:V≠R
 rq:Q≠R
 wr:w.heap.size≤R
 wq:w.heap.size≤Q
theorem Rul.en {w W:World} {E R V Q:Nat} {es:List Ent} {vs:List Value} (h:Rul w E R V Q es vs W):EnH W E es:=by
 obtain⟨w0,v,_,h1,h2,h3,h4⟩:=h.e
 exact⟨w0,v,h1,h2,h3,h4⟩
theorem Rul.moved {w W W1:World} {E R V Q:Nat} {es:List Ent} {vs vs1:List Value} (h:Rul w E R V Q es vs W) (hm:Moved R W W1) (hx:BoxN W1 R vs1):Rul w E R V Q es vs1 W1:=by
 obtain⟨x,r,⟨w0,v,h0,h1,h2,h3,h4⟩,f,b,rv,rq,wr,wq⟩:=h
 refine⟨hx,⟨Nat.lt_of_lt_of_le r.1 hm.size,fun k u e=>⟨(hm.cell (p:=⟨Q,k,none⟩) r.1 rq).trans (r.2 k u e).1,(hm.frozen (p:=⟨Q,k,none⟩) r.1 rq).trans (r.2 k u e).2⟩⟩,⟨w0,v,h0,h1.trans (hm.below h0 h1.size),h2,h3,h4⟩,⟨Nat.lt_of_lt_of_le f.1 hm.size,(hm.cell (p:=⟨V,0,none⟩) f.1 rv).trans f.2⟩,b.trans (hm.below wr b.size),rv,rq,wr,wq⟩
theorem Rul.next {w W W1:World} {E R V Q:Nat} {es:List Ent} {vs:List Value} (h:Rul w E R V Q es vs W) (hb:Below W.heap.size W W1):Rul w E R V Q es vs W1:=
 h.moved (Moved.of_below hb) (h.x.next hb)
theorem Rul.set {w W:World} {E R V Q:Nat} {es:List Ent} {vs:List Value} (h:Rul w E R V Q es vs W) (k:Nat) (u:Value) (hk:k<vs.length):Rul w E R V Q es (vs.set k u) (W.setCell ⟨R,k,none⟩ u):=
 h.moved ((Moved.refl R W).setCell u) (h.x.set k u hk)
theorem rulM_val (es:List Ent) (hn:(es.map Ent.key).Nodup) (hp:∀E∈es,EntP E):rulM es=.agg #[.bool (yesV es nNoStore),.bool (yesV es nNoCache),.bool (yesV es nPrivate),.bool (yesV es nPublic),.bool (yesV es nMust),.bool (yesV es nProxy),.bool (yesV es nImmut),.bool (yesV es nOnly),.int .i64 (numV es nMaxAge),.int .i64 (numV es nSMax),.int .i64 (if yesV es nStale=true then 2147483648 else numV es nStale),.int .i64 (numV es nFresh),.int .i64 (numV es nIfErr)]:=by
 unfold rulM stlR
 simp only [yes_val es _ hn hp,num_val es _ hn hp]
 rfl
theorem mrules_any (v:Value) (es:List Ent) (w:World) (hv:GOff entR 0 none w v es) (hl:es.length≤100000) (hs:∀p∈es,MemSm p.val) (hn:(es.map Ent.key).Nodup) (hp:∀E∈es,EntP E) :
  Calls Tryz.prog 55 #[v] w fun e w'=>e=.returned (rulM es)∧Below w.heap.size w w':=by
 have cN:=none_any
 rw [rulV_none]at cN
 have HV:=zH (rulM_val es hn hp)
 generalize rulM es=R9 at *
 have s0:=fun E V W (h:EnH W E es) (hf:FnH W E V)=>mtrue_any es nNoStore E V W h hf hl hs hp
 generalize yesV es nNoStore=b0 at *
 have s1:=fun E V W (h:EnH W E es) (hf:FnH W E V)=>mtrue_any es nNoCache E V W h hf hl hs hp
 generalize yesV es nNoCache=b1 at *
 have s2:=fun E V W (h:EnH W E es) (hf:FnH W E V)=>mtrue_any es nPrivate E V W h hf hl hs hp
 generalize yesV es nPrivate=b2 at *
 have s3:=fun E V W (h:EnH W E es) (hf:FnH W E V)=>mtrue_any es nPublic E V W h hf hl hs hp
 generalize yesV es nPublic=b3 at *
 have s4:=fun E V W (h:EnH W E es) (hf:FnH W E V)=>mtrue_any es nMust E V W h hf hl hs hp
 generalize yesV es nMust=b4 at *
 have s5:=fun E V W (h:EnH W E es) (hf:FnH W E V)=>mtrue_any es nProxy E V W h hf hl hs hp
 generalize yesV es nProxy=b5 at *
 have s6:=fun E V W (h:EnH W E es) (hf:FnH W E V)=>mtrue_any es nImmut E V W h hf hl hs hp
 generalize yesV es nImmut=b6 at *
 have s7:=fun E V W (h:EnH W E es) (hf:FnH W E V)=>mtrue_any es nOnly E V W h hf hl hs hp
 generalize yesV es nOnly=b7 at *
 have t0:=fun E V R vs W (h:EnH W E es) (hf:FnH W E V) (hx:BoxN W R vs) (hj:vs[8]? = some (.int .i64 (-1)))=>mnum_any es nMaxAge E V R 8 vs W h hf hx hj hl hs
 generalize numV es nMaxAge=k0 at *
 have t1:=fun E V R vs W (h:EnH W E es) (hf:FnH W E V) (hx:BoxN W R vs) (hj:vs[9]? = some (.int .i64 (-1)))=>mnum_any es nSMax E V R 9 vs W h hf hx hj hl hs
 generalize numV es nSMax=k1 at *
 have t2:=fun E V R vs W (h:EnH W E es) (hf:FnH W E V) (hx:BoxN W R vs) (hj:vs[11]? = some (.int .i64 (-1)))=>mnum_any es nFresh E V R 11 vs W h hf hx hj hl hs
 generalize numV es nFresh=k3 at *
 have t3:=fun E V R vs W (h:EnH W E es) (hf:FnH W E V) (hx:BoxN W R vs) (hj:vs[12]? = some (.int .i64 (-1)))=>mnum_any es nIfErr E V R 12 vs W h hf hx hj hl hs
 generalize numV es nIfErr=k4 at *
 have t4:=fun E V R vs W (h:EnH W E es) (hf:FnH W E V) (hx:BoxN W R vs) (hj:vs[10]? = some (.int .i64 (-1)))=>mnum_any es nStale E V R 10 vs W h hf hx hj hl hs
 generalize numV es nStale=k2 at *
 have s9:=fun E V W (h:EnH W E es) (hf:FnH W E V)=>mtrue_any es nStale E V W h hf hl hs hp
 generalize yesV es nStale=bS at *
 have e1:∀args W,(callFunc 92 args).run Tryz.prog W=.ok (.enter 92 args) W:=enters_of Tryz.func92 (by kernel_rfl) rfl
 have e2:∀args W,(callFunc 93 args).run Tryz.prog W=.ok (.enter 93 args) W:=enters_of Tryz.func93 (by kernel_rfl) rfl
 have hmf:∀(fn:Fn) (first cap:Array Value) (w:World),(Instr.makeFunc fn first cap).run Tryz.prog w=.ok (.func fn first cap) w:=fun _ _ _ _=>rfl
 obtain⟨ao,cap,rfl,_⟩:=id hv
 have hb0:Below w.heap.size w (w.alloc (.cells #[.slice ao es.length cap] 86)):=(Below.refl _ _).alloc (zR _) _
 have HG:=zH (hv.below hb0)
 have HQ0:=zH (BoxN.made (w.alloc (.cells #[.slice ao es.length cap] 86)) [.bool false,.bool false,.bool false,.bool false,.bool false,.bool false,.bool false,.bool false,.int .i64 0,.int .i64 0,.int .i64 0,.int .i64 0,.int .i64 0] 34)
 have HB0:=zH (hb0.alloc hb0.size (.cells #[.bool false,.bool false,.bool false,.bool false,.bool false,.bool false,.bool false,.bool false,.int .i64 0,.int .i64 0,.int .i64 0,.int .i64 0,.int .i64 0] 34))
 clear hb0 hv hl hs hn hp
 go_enter Tryz.func55,Tryz.ntmps55
 go_wp2_with fail
 refine(cN _).mono ?_
 rintro e w1 ⟨rfl,hb⟩
 have HQ1:=zH (HQ0.out.next hb)
 have HB1:=zH (HB0.out.trans (hb.mono HB0.out.size))
 have HX1:=zH (BoxN.made w1 [.bool false,.bool false,.bool false,.bool false,.bool false,.bool false,.bool false,.bool false,.int .i64 (-1),.int .i64 (-1),.int .i64 (-1),.int .i64 (-1),.int .i64 (-1)] 34)
 have hz0:w.heap.size+2≤w1.heap.size:=by
  have:=hb.size
  simpa using this
 have hR:Rul w w.heap.size w1.heap.size (w1.heap.size+1) (w.heap.size+1) es [.bool false,.bool false,.bool false,.bool false,.bool false,.bool false,.bool false,.bool false,.int .i64 (-1),.int .i64 (-1),.int .i64 (-1),.int .i64 (-1),.int .i64 (-1)] ((w1.alloc (.cells #[.bool false,.bool false,.bool false,.bool false,.bool false,.bool false,.bool false,.bool false,.int .i64 (-1),.int .i64 (-1),.int .i64 (-1),.int .i64 (-1),.int .i64 (-1)] 34)).alloc (.cells #[.func (.func 90) #[] #[.pointer (some ⟨w.heap.size,0,none⟩)]] 126)):=by
  have hal1:=(Below.refl w1.heap.size w1).alloc (zR _) (.cells #[.bool false,.bool false,.bool false,.bool false,.bool false,.bool false,.bool false,.bool false,.int .i64 (-1),.int .i64 (-1),.int .i64 (-1),.int .i64 (-1),.int .i64 (-1)] 34)
  have hal2:=(Below.refl (w1.alloc (.cells #[.bool false,.bool false,.bool false,.bool false,.bool false,.bool false,.bool false,.bool false,.int .i64 (-1),.int .i64 (-1),.int .i64 (-1),.int .i64 (-1),.int .i64 (-1)] 34)).heap.size (w1.alloc (.cells #[.bool false,.bool false,.bool false,.bool false,.bool false,.bool false,.bool false,.bool false,.int .i64 (-1),.int .i64 (-1),.int .i64 (-1),.int .i64 (-1),.int .i64 (-1)] 34))).alloc (zR _) (.cells #[.func (.func 90) #[] #[.pointer (some ⟨w.heap.size,0,none⟩)]] 126)
  have hq:BoxN w1 (w.heap.size+1) [.bool false,.bool false,.bool false,.bool false,.bool false,.bool false,.bool false,.bool false,.int .i64 0,.int .i64 0,.int .i64 0,.int .i64 0,.int .i64 0]:=by simpa using HQ1.out
  refine⟨HX1.out.next hal2,(hq.next hal1).next hal2,⟨w.alloc (.cells #[.slice ao es.length cap] 86),.slice ao es.length cap,by simp;omega,?_,by simp,by simp,HG.out⟩,⟨by simp,by simp⟩,(HB1.out.trans (hal1.mono HB1.out.size)).trans (hal2.mono (HB1.out.trans (hal1.mono HB1.out.size)).size),by omega,by omega,by omega,by omega⟩
  have g1:Below (w.alloc (.cells #[.slice ao es.length cap] 86)).heap.size (w.alloc (.cells #[.slice ao es.length cap] 86)) w1:=((Below.refl _ _).alloc (zR _) _).trans (hb.mono (by simp))
  exact(g1.trans (hal1.mono g1.size)).trans (hal2.mono (g1.trans (hal1.mono g1.size)).size)
 have HR:=zH hR
 clear hR hb cN HQ0 HQ1 HB0 HB1 HX1 HG hz0
 go_wp2_with fail
 generalize(w1.alloc (.cells #[.bool false,.bool false,.bool false,.bool false,.bool false,.bool false,.bool false,.bool false,.int .i64 (-1),.int .i64 (-1),.int .i64 (-1),.int .i64 (-1),.int .i64 (-1)] 34)).alloc (.cells #[.func (.func 90) #[] #[.pointer (some ⟨w.heap.size,0,none⟩)]] 126)=U at *
 generalize hRR:w1.heap.size=R at *
 clear hRR
 refine(s0 _ _ _ HR.out.en HR.out.f).mono ?_
 rintro e v0 ⟨rfl,hb⟩
 have HR:=zH (HR.out.next hb)
 have x0:=(HR.out.x.2 0 _ rfl).1
 have g0:=(HR.out.x.2 0 _ rfl).2
 clear hb s0
 go_wp2_with fail
 have HR1:Hid (Rul w w.heap.size R (R+1) (w.heap.size+1) es [.bool b0,.bool false,.bool false,.bool false,.bool false,.bool false,.bool false,.bool false,.int .i64 (-1),.int .i64 (-1),.int .i64 (-1),.int .i64 (-1),.int .i64 (-1)] (v0.setCell ⟨R,0,none⟩ (.bool b0))):=zH (HR.out.set 0 (.bool b0) (by simp))
 clear x0 g0 HR
 have HR:=zH HR1.out
 clear HR1
 generalize v0.setCell ⟨R,0,none⟩ (.bool b0)=U0 at *
 refine(s1 _ _ _ HR.out.en HR.out.f).mono ?_
 rintro e v1 ⟨rfl,hb⟩
 have HR:=zH (HR.out.next hb)
 have x0:=(HR.out.x.2 1 _ rfl).1
 have g0:=(HR.out.x.2 1 _ rfl).2
 clear hb s1
 go_wp2_with fail
 have HR1:Hid (Rul w w.heap.size R (R+1) (w.heap.size+1) es [.bool b0,.bool b1,.bool false,.bool false,.bool false,.bool false,.bool false,.bool false,.int .i64 (-1),.int .i64 (-1),.int .i64 (-1),.int .i64 (-1),.int .i64 (-1)] (v1.setCell ⟨R,1,none⟩ (.bool b1))):=zH (HR.out.set 1 (.bool b1) (by simp))
 clear x0 g0 HR
 have HR:=zH HR1.out
 clear HR1
 generalize v1.setCell ⟨R,1,none⟩ (.bool b1)=U1 at *
 refine(s2 _ _ _ HR.out.en HR.out.f).mono ?_
 rintro e v2 ⟨rfl,hb⟩
 have HR:=zH (HR.out.next hb)
 have x0:=(HR.out.x.2 2 _ rfl).1
 have g0:=(HR.out.x.2 2 _ rfl).2
 clear hb s2
 go_wp2_with fail
 have HR1:Hid (Rul w w.heap.size R (R+1) (w.heap.size+1) es [.bool b0,.bool b1,.bool b2,.bool false,.bool false,.bool false,.bool false,.bool false,.int .i64 (-1),.int .i64 (-1),.int .i64 (-1),.int .i64 (-1),.int .i64 (-1)] (v2.setCell ⟨R,2,none⟩ (.bool b2))):=zH (HR.out.set 2 (.bool b2) (by simp))
 clear x0 g0 HR
 have HR:=zH HR1.out
 clear HR1
 generalize v2.setCell ⟨R,2,none⟩ (.bool b2)=U2 at *
 refine(s3 _ _ _ HR.out.en HR.out.f).mono ?_
 rintro e v3 ⟨rfl,hb⟩
 have HR:=zH (HR.out.next hb)
 have x0:=(HR.out.x.2 3 _ rfl).1
 have g0:=(HR.out.x.2 3 _ rfl).2
 clear hb s3
 go_wp2_with fail
 have HR1:Hid (Rul w w.heap.size R (R+1) (w.heap.size+1) es [.bool b0,.bool b1,.bool b2,.bool b3,.bool false,.bool false,.bool false,.bool false,.int .i64 (-1),.int .i64 (-1),.int .i64 (-1),.int .i64 (-1),.int .i64 (-1)] (v3.setCell ⟨R,3,none⟩ (.bool b3))):=zH (HR.out.set 3 (.bool b3) (by simp))
 clear x0 g0 HR
 have HR:=zH HR1.out
 clear HR1
 generalize v3.setCell ⟨R,3,none⟩ (.bool b3)=U3 at *
 refine(s4 _ _ _ HR.out.en HR.out.f).mono ?_
 rintro e v4 ⟨rfl,hb⟩
 have HR:=zH (HR.out.next hb)
 have x0:=(HR.out.x.2 4 _ rfl).1
 have g0:=(HR.out.x.2 4 _ rfl).2
 clear hb s4
 go_wp2_with fail
 have HR1:Hid (Rul w w.heap.size R (R+1) (w.heap.size+1) es [.bool b0,.bool b1,.bool b2,.bool b3,.bool b4,.bool false,.bool false,.bool false,.int .i64 (-1),.int .i64 (-1),.int .i64 (-1),.int .i64 (-1),.int .i64 (-1)] (v4.setCell ⟨R,4,none⟩ (.bool b4))):=zH (HR.out.set 4 (.bool b4) (by simp))
 clear x0 g0 HR
 have HR:=zH HR1.out
 clear HR1
 generalize v4.setCell ⟨R,4,none⟩ (.bool b4)=U4 at *
 refine(s5 _ _ _ HR.out.en HR.out.f).mono ?_
 rintro e v5 ⟨rfl,hb⟩
 have HR:=zH (HR.out.next hb)
 have x0:=(HR.out.x.2 5 _ rfl).1
 have g0:=(HR.out.x.2 5 _ rfl).2
 clear hb s5
 go_wp2_with fail
 have HR1:Hid (Rul w w.heap.size R (R+1) (w.heap.size+1) es [.bool b0,.bool b1,.bool b2,.bool b3,.bool b4,.bool b5,.bool false,.bool false,.int .i64 (-1),.int .i64 (-1),.int .i64 (-1),.int .i64 (-1),.int .i64 (-1)] (v5.setCell ⟨R,5,none⟩ (.bool b5))):=zH (HR.out.set 5 (.bool b5) (by simp))
 clear x0 g0 HR
 have HR:=zH HR1.out
 clear HR1
 generalize v5.setCell ⟨R,5,none⟩ (.bool b5)=U5 at *
 refine(s6 _ _ _ HR.out.en HR.out.f).mono ?_
 rintro e v6 ⟨rfl,hb⟩
 have HR:=zH (HR.out.next hb)
 have x0:=(HR.out.x.2 6 _ rfl).1
 have g0:=(HR.out.x.2 6 _ rfl).2
 clear hb s6
 go_wp2_with fail
 have HR1:Hid (Rul w w.heap.size R (R+1) (w.heap.size+1) es [.bool b0,.bool b1,.bool b2,.bool b3,.bool b4,.bool b5,.bool b6,.bool false,.int .i64 (-1),.int .i64 (-1),.int .i64 (-1),.int .i64 (-1),.int .i64 (-1)] (v6.setCell ⟨R,6,none⟩ (.bool b6))):=zH (HR.out.set 6 (.bool b6) (by simp))
 clear x0 g0 HR
 have HR:=zH HR1.out
 clear HR1
 generalize v6.setCell ⟨R,6,none⟩ (.bool b6)=U6 at *
 refine(s7 _ _ _ HR.out.en HR.out.f).mono ?_
 rintro e v7 ⟨rfl,hb⟩
 have HR:=zH (HR.out.next hb)
 have x0:=(HR.out.x.2 7 _ rfl).1
 have g0:=(HR.out.x.2 7 _ rfl).2
 clear hb s7
 go_wp2_with fail
 have HR1:Hid (Rul w w.heap.size R (R+1) (w.heap.size+1) es [.bool b0,.bool b1,.bool b2,.bool b3,.bool b4,.bool b5,.bool b6,.bool b7,.int .i64 (-1),.int .i64 (-1),.int .i64 (-1),.int .i64 (-1),.int .i64 (-1)] (v7.setCell ⟨R,7,none⟩ (.bool b7))):=zH (HR.out.set 7 (.bool b7) (by simp))
 clear x0 g0 HR
 have HR:=zH HR1.out
 clear HR1
 generalize v7.setCell ⟨R,7,none⟩ (.bool b7)=U7 at *
 refine(t0 _ _ _ _ _ HR.out.en HR.out.f HR.out.x rfl).mono ?_
 rintro e u0 ⟨rfl,hm,hx⟩
 have HR1:Hid (Rul w w.heap.size R (R+1) (w.heap.size+1) es [.bool b0,.bool b1,.bool b2,.bool b3,.bool b4,.bool b5,.bool b6,.bool b7,.int .i64 k0,.int .i64 (-1),.int .i64 (-1),.int .i64 (-1),.int .i64 (-1)] u0):=zH (HR.out.moved hm hx)
 clear HR hm hx t0
 have HR:=zH HR1.out
 clear HR1
 go_wp2_with fail
 refine(t1 _ _ _ _ _ HR.out.en HR.out.f HR.out.x rfl).mono ?_
 rintro e u1 ⟨rfl,hm,hx⟩
 have HR1:Hid (Rul w w.heap.size R (R+1) (w.heap.size+1) es [.bool b0,.bool b1,.bool b2,.bool b3,.bool b4,.bool b5,.bool b6,.bool b7,.int .i64 k0,.int .i64 k1,.int .i64 (-1),.int .i64 (-1),.int .i64 (-1)] u1):=zH (HR.out.moved hm hx)
 clear HR hm hx t1
 have HR:=zH HR1.out
 clear HR1
 go_wp2_with fail
 refine(t2 _ _ _ _ _ HR.out.en HR.out.f HR.out.x rfl).mono ?_
 rintro e u2 ⟨rfl,hm,hx⟩
 have HR1:Hid (Rul w w.heap.size R (R+1) (w.heap.size+1) es [.bool b0,.bool b1,.bool b2,.bool b3,.bool b4,.bool b5,.bool b6,.bool b7,.int .i64 k0,.int .i64 k1,.int .i64 (-1),.int .i64 k3,.int .i64 (-1)] u2):=zH (HR.out.moved hm hx)
 clear HR hm hx t2
 have HR:=zH HR1.out
 clear HR1
 go_wp2_with fail
 refine(t3 _ _ _ _ _ HR.out.en HR.out.f HR.out.x rfl).mono ?_
 rintro e u3 ⟨rfl,hm,hx⟩
 have HR1:Hid (Rul w w.heap.size R (R+1) (w.heap.size+1) es [.bool b0,.bool b1,.bool b2,.bool b3,.bool b4,.bool b5,.bool b6,.bool b7,.int .i64 k0,.int .i64 k1,.int .i64 (-1),.int .i64 k3,.int .i64 k4] u3):=zH (HR.out.moved hm hx)
 clear HR hm hx t3
 have HR:=zH HR1.out
 clear HR1
 go_wp2_with fail
 refine(t4 _ _ _ _ _ HR.out.en HR.out.f HR.out.x rfl).mono ?_
 rintro e u4 ⟨rfl,hm,hx⟩
 have HR1:Hid (Rul w w.heap.size R (R+1) (w.heap.size+1) es [.bool b0,.bool b1,.bool b2,.bool b3,.bool b4,.bool b5,.bool b6,.bool b7,.int .i64 k0,.int .i64 k1,.int .i64 k2,.int .i64 k3,.int .i64 k4] u4):=zH (HR.out.moved hm hx)
 clear HR hm hx t4
 have HR:=zH HR1.out
 clear HR1
 go_wp2_with fail
 refine(s9 _ _ _ HR.out.en HR.out.f).mono ?_
 rintro e w2 ⟨rfl,hb⟩
 have HR:=zH (HR.out.next hb)
 clear hb s9 e1 e2 hmf
 cases bS
 ·have HV2:Hid (R9=.agg #[.bool b0,.bool b1,.bool b2,.bool b3,.bool b4,.bool b5,.bool b6,.bool b7,.int .i64 k0,.int .i64 k1,.int .i64 k2,.int .i64 k3,.int .i64 k4]):=zH HV.out
  clear HV
  obtain⟨x0,x1,x2,x3,x4,x5,x6,x7,x8,x9,x10,x11,x12⟩:=b13X HR.out.x
  obtain⟨z0,g0,z1,g1,z2,g2,z3,g3,z4,g4,z5,g5,z6,g6,z7,g7,z8,g8,z9,g9,z10,g10,z11,g11,z12,g12⟩:=a13X HR.out.r
  have hrq:=HR.out.rq
  have hrq2:=Ne.symm hrq
  go_wp2_with fail
  clear x0 z0 g0 x1 z1 g1 x2 z2 g2 x3 z3 g3 x4 z4 g4 x5 z5 g5 x6 z6 g6 x7 z7 g7 x8 z8 g8 x9 z9 g9 x10 z10 g10 x11 z11 g11 x12 z12 g12
  have HX:=zH HR.out.r
  have HB:=zH HR.out.b
  have HP:=zH (set13X HX.out rfl (.bool b0) (.bool b1) (.bool b2) (.bool b3) (.bool b4) (.bool b5) (.bool b6) (.bool b7) (.int .i64 k0) (.int .i64 k1) (.int .i64 k2) (.int .i64 k3) (.int .i64 k4))
  have HQ:=zH (((((((((((((HB.out.setCell (p:=⟨w.heap.size+1,0,none⟩) (by simp) (.bool b0)).setCell (p:=⟨w.heap.size+1,1,none⟩) (by simp) (.bool b1)).setCell (p:=⟨w.heap.size+1,2,none⟩) (by simp) (.bool b2)).setCell (p:=⟨w.heap.size+1,3,none⟩) (by simp) (.bool b3)).setCell (p:=⟨w.heap.size+1,4,none⟩) (by simp) (.bool b4)).setCell (p:=⟨w.heap.size+1,5,none⟩) (by simp) (.bool b5)).setCell (p:=⟨w.heap.size+1,6,none⟩) (by simp) (.bool b6)).setCell (p:=⟨w.heap.size+1,7,none⟩) (by simp) (.bool b7)).setCell (p:=⟨w.heap.size+1,8,none⟩) (by simp) (.int .i64 k0)).setCell (p:=⟨w.heap.size+1,9,none⟩) (by simp) (.int .i64 k1)).setCell (p:=⟨w.heap.size+1,10,none⟩) (by simp) (.int .i64 k2)).setCell (p:=⟨w.heap.size+1,11,none⟩) (by simp) (.int .i64 k3)).setCell (p:=⟨w.heap.size+1,12,none⟩) (by simp) (.int .i64 k4))
  generalize World.setCell _ ⟨_,12,none⟩ _=W9 at *
  obtain⟨p0,p1,p2,p3,p4,p5,p6,p7,p8,p9,p10,p11,p12⟩:=b13X HP.out
  refine bodyPost_ret (v:=.agg #[.bool b0,.bool b1,.bool b2,.bool b3,.bool b4,.bool b5,.bool b6,.bool b7,.int .i64 k0,.int .i64 k1,.int .i64 k2,.int .i64 k3,.int .i64 k4]) (by simp [results,Tryz.results55,go_sem,p0,p1,p2,p3,p4,p5,p6,p7,p8,p9,p10,p11,p12]) rfl ⟨by rw [HV2.out],HQ.out⟩
 ·have HV2:Hid (R9=.agg #[.bool b0,.bool b1,.bool b2,.bool b3,.bool b4,.bool b5,.bool b6,.bool b7,.int .i64 k0,.int .i64 k1,.int .i64 2147483648,.int .i64 k3,.int .i64 k4]):=zH HV.out
  clear HV
  obtain⟨x0,x1,x2,x3,x4,x5,x6,x7,x8,x9,x10,x11,x12⟩:=b13X HR.out.x
  have y10:=(HR.out.x.2 10 _ rfl).2
  obtain⟨z0,g0,z1,g1,z2,g2,z3,g3,z4,g4,z5,g5,z6,g6,z7,g7,z8,g8,z9,g9,z10,g10,z11,g11,z12,g12⟩:=a13X HR.out.r
  have hrq:=HR.out.rq
  have hrq2:=Ne.symm hrq
  have HR1:Hid (Rul w w.heap.size R (R+1) (w.heap.size+1) es [.bool b0,.bool b1,.bool b2,.bool b3,.bool b4,.bool b5,.bool b6,.bool b7,.int .i64 k0,.int .i64 k1,.int .i64 2147483648,.int .i64 k3,.int .i64 k4] (w2.setCell ⟨R,10,none⟩ (.int .i64 2147483648))):=zH (HR.out.set 10 (.int .i64 2147483648) (by simp))
  clear HR
  have HR:=zH HR1.out
  clear HR1
  go_wp2_with fail
  clear x0 z0 g0 x1 z1 g1 x2 z2 g2 x3 z3 g3 x4 z4 g4 x5 z5 g5 x6 z6 g6 x7 z7 g7 x8 z8 g8 x9 z9 g9 x10 z10 g10 x11 z11 g11 x12 z12 g12 y10
  have HX:=zH HR.out.r
  have HB:=zH HR.out.b
  have HP:=zH (set13X HX.out rfl (.bool b0) (.bool b1) (.bool b2) (.bool b3) (.bool b4) (.bool b5) (.bool b6) (.bool b7) (.int .i64 k0) (.int .i64 k1) (.int .i64 2147483648) (.int .i64 k3) (.int .i64 k4))
  have HQ:=zH (((((((((((((HB.out.setCell (p:=⟨w.heap.size+1,0,none⟩) (by simp) (.bool b0)).setCell (p:=⟨w.heap.size+1,1,none⟩) (by simp) (.bool b1)).setCell (p:=⟨w.heap.size+1,2,none⟩) (by simp) (.bool b2)).setCell (p:=⟨w.heap.size+1,3,none⟩) (by simp) (.bool b3)).setCell (p:=⟨w.heap.size+1,4,none⟩) (by simp) (.bool b4)).setCell (p:=⟨w.heap.size+1,5,none⟩) (by simp) (.bool b5)).setCell (p:=⟨w.heap.size+1,6,none⟩) (by simp) (.bool b6)).setCell (p:=⟨w.heap.size+1,7,none⟩) (by simp) (.bool b7)).setCell (p:=⟨w.heap.size+1,8,none⟩) (by simp) (.int .i64 k0)).setCell (p:=⟨w.heap.size+1,9,none⟩) (by simp) (.int .i64 k1)).setCell (p:=⟨w.heap.size+1,10,none⟩) (by simp) (.int .i64 2147483648)).setCell (p:=⟨w.heap.size+1,11,none⟩) (by simp) (.int .i64 k3)).setCell (p:=⟨w.heap.size+1,12,none⟩) (by simp) (.int .i64 k4))
  generalize World.setCell _ ⟨_,12,none⟩ _=W9 at *
  obtain⟨p0,p1,p2,p3,p4,p5,p6,p7,p8,p9,p10,p11,p12⟩:=b13X HP.out
  refine bodyPost_ret (v:=.agg #[.bool b0,.bool b1,.bool b2,.bool b3,.bool b4,.bool b5,.bool b6,.bool b7,.int .i64 k0,.int .i64 k1,.int .i64 2147483648,.int .i64 k3,.int .i64 k4]) (by simp [results,Tryz.results55,go_sem,p0,p1,p2,p3,p4,p5,p6,p7,p8,p9,p10,p11,p12]) rfl ⟨by rw [HV2.out],HQ.out⟩
theorem dic_none {l:List UInt8} {w w':World} {e:Ending} (hm:modL l=none) (h:dicPost (dicL l) w e w') :
  (∃(ao:Option Addr) (cap:Nat) (n:Int),e=.returned (.tuple #[.slice ao 0 cap,.int .i64 n]))∧Below w.heap.size w w':=by
 obtain⟨hb,h⟩:=h
 refine⟨?_,hb⟩
 cases hd:dicL l with
 | none =>
  rw [hd]at h
  exact⟨_,_,_,h⟩
 | some es =>
  rw [hd]at h
  obtain⟨v,rfl,ao,cap,rfl,_⟩:=h
  by_cases hn:es=[]
  ·subst hn
   exact⟨_,_,_,rfl⟩
  ·rw [modL_yes hd hn]at hm
   cases hm
theorem dic_some {l:List UInt8} {es:List Ent} {w w':World} {e:Ending} (hm:modL l=some es) (h:dicPost (dicL l) w e w') :
  (∃(ao:Option Addr) (cap:Nat),e=.returned (.tuple #[.slice ao es.length cap,.int .i64 0])∧GOff entR 0 none w' (.slice ao es.length cap) es)∧Below w.heap.size w w':=by
 obtain⟨hb,h⟩:=h
 refine⟨?_,hb⟩
 rw [(modL_some hm).1]at h
 obtain⟨v,rfl,hG⟩:=h
 obtain⟨ao,cap,rfl,_⟩:=id hG
 exact⟨_,_,rfl,hG.low (Nat.zero_le _)⟩
theorem mparse_any (s:ByteArray) (w:World) (hs:s.size≤90000) (hA:Alph w) :
  Calls Tryz.prog 19 #[.string s] w fun e w'=>e=.returned (modA (modL s.data.toList))∧Below w.heap.size w w':=by
 have hb0:Below w.heap.size w (w.alloc (.cells #[.bool false,.bool false,.bool false,.bool false,.bool false,.bool false,.bool false,.bool false,.int .i64 0,.int .i64 0,.int .i64 0,.int .i64 0,.int .i64 0] 34)):=(Below.refl _ _).alloc (zR _) _
 have HB0:=zH hb0
 have HX0:=zH (BoxN.made w [.bool false,.bool false,.bool false,.bool false,.bool false,.bool false,.bool false,.bool false,.int .i64 0,.int .i64 0,.int .i64 0,.int .i64 0,.int .i64 0] 34)
 have cD:=dict_any s _ hs (hA.below hb0)
 have hsl:s.data.toList.length≤90000:=by rw [← Lib.size_eq];exact hs
 unfold modA
 clear hA hb0 hs
 cases hm:modL s.data.toList with
 | none =>
  have cD:=cD.mono (fun e w' h=>dic_none hm h)
  have cN:=none_any
  rw [rulV_none]at cN
  rw [rulO,rulV_none,Option.isSome_none]
  clear hm hsl
  go_enter Tryz.func19,Tryz.ntmps19
  go_wp2_with fail
  refine cD.mono ?_
  rintro e w1 ⟨⟨ao,cap,n,rfl⟩,hb⟩
  have HX:=zH (HX0.out.next hb)
  have HB:=zH (HB0.out.trans (hb.mono HB0.out.size))
  clear hb cD HX0 HB0
  go_wp2_with fail
  refine(cN _).mono ?_
  rintro e w2 ⟨rfl,hb⟩
  have HX:=zH (HX.out.next hb)
  have HB:=zH (HB.out.trans (hb.mono HB.out.size))
  clear hb cN
  obtain⟨z0,g0,z1,g1,z2,g2,z3,g3,z4,g4,z5,g5,z6,g6,z7,g7,z8,g8,z9,g9,z10,g10,z11,g11,z12,g12⟩:=a13X HX.out
  go_wp2_with fail
  clear z0 g0 z1 g1 z2 g2 z3 g3 z4 g4 z5 g5 z6 g6 z7 g7 z8 g8 z9 g9 z10 g10 z11 g11 z12 g12
  have HP:=zH (set13X HX.out rfl (.bool false) (.bool false) (.bool false) (.bool false) (.bool false) (.bool false) (.bool false) (.bool false) (.int .i64 (-1)) (.int .i64 (-1)) (.int .i64 (-1)) (.int .i64 (-1)) (.int .i64 (-1)))
  have HQ:=zH (set13B HB.out (.bool false) (.bool false) (.bool false) (.bool false) (.bool false) (.bool false) (.bool false) (.bool false) (.int .i64 (-1)) (.int .i64 (-1)) (.int .i64 (-1)) (.int .i64 (-1)) (.int .i64 (-1)))
  generalize World.setCell _ ⟨_,12,none⟩ _=W9 at *
  obtain⟨p0,p1,p2,p3,p4,p5,p6,p7,p8,p9,p10,p11,p12⟩:=b13X HP.out
  refine bodyPost_ret (v:=.tuple #[.agg #[.bool false,.bool false,.bool false,.bool false,.bool false,.bool false,.bool false,.bool false,.int .i64 (-1),.int .i64 (-1),.int .i64 (-1),.int .i64 (-1),.int .i64 (-1)],.bool false]) (by simp [results,Tryz.results19,go_sem,p0,p1,p2,p3,p4,p5,p6,p7,p8,p9,p10,p11,p12]) rfl ⟨rfl,HQ.out⟩
 | some es =>
  have cD:=cD.mono (fun e w' h=>dic_some hm h)
  obtain⟨hd,hne⟩:=modL_some hm
  obtain⟨hl,hin⟩:=dicL_in (N:=90000) _ es hsl hd
  obtain⟨hnd,hep⟩:=dic_p hd
  have hlen:es.length≠0:=fun e=>hne (List.eq_nil_of_length_eq_zero e)
  have hlz:((es.length:Int)==0)=false:=beq_false_of_ne (by omega)
  have cR:=fun v W (h:GOff entR 0 none W v es)=>mrules_any v es W h (by omega) (fun p hp=>(hin p hp).2.sm (by decide)) hnd hep
  obtain⟨b0,b1,b2,b3,b4,b5,b6,b7,k0,k1,k2,k3,k4,hR⟩:=rulO_form (some es)
  have hR2:rulM es=.agg #[.bool b0,.bool b1,.bool b2,.bool b3,.bool b4,.bool b5,.bool b6,.bool b7,.int .i64 k0,.int .i64 k1,.int .i64 k2,.int .i64 k3,.int .i64 k4]:=hR
  rw [hR,Option.isSome_some]
  rw [hR2]at cR
  clear hm hsl hR hR2 hd hne hl hin hnd hep hlen
  go_enter Tryz.func19,Tryz.ntmps19
  go_wp2_with fail
  refine cD.mono ?_
  rintro e w1 ⟨⟨ao,cap,rfl,hG⟩,hb⟩
  have HX:=zH (HX0.out.next hb)
  have HB:=zH (HB0.out.trans (hb.mono HB0.out.size))
  have cR:=cR _ _ hG
  clear hb cD HX0 HB0 hG
  go_wp2_with fail
  refine cR.mono ?_
  rintro e w2 ⟨rfl,hb⟩
  have HX:=zH (HX.out.next hb)
  have HB:=zH (HB.out.trans (hb.mono HB.out.size))
  clear hb cR hlz
  obtain⟨z0,g0,z1,g1,z2,g2,z3,g3,z4,g4,z5,g5,z6,g6,z7,g7,z8,g8,z9,g9,z10,g10,z11,g11,z12,g12⟩:=a13X HX.out
  go_wp2_with fail
  clear z0 g0 z1 g1 z2 g2 z3 g3 z4 g4 z5 g5 z6 g6 z7 g7 z8 g8 z9 g9 z10 g10 z11 g11 z12 g12
  have HP:=zH (set13X HX.out rfl (.bool b0) (.bool b1) (.bool b2) (.bool b3) (.bool b4) (.bool b5) (.bool b6) (.bool b7) (.int .i64 k0) (.int .i64 k1) (.int .i64 k2) (.int .i64 k3) (.int .i64 k4))
  have HQ:=zH (set13B HB.out (.bool b0) (.bool b1) (.bool b2) (.bool b3) (.bool b4) (.bool b5) (.bool b6) (.bool b7) (.int .i64 k0) (.int .i64 k1) (.int .i64 k2) (.int .i64 k3) (.int .i64 k4))
  generalize World.setCell _ ⟨_,12,none⟩ _=W9 at *
  obtain⟨p0,p1,p2,p3,p4,p5,p6,p7,p8,p9,p10,p11,p12⟩:=b13X HP.out
  refine bodyPost_ret (v:=.tuple #[.agg #[.bool b0,.bool b1,.bool b2,.bool b3,.bool b4,.bool b5,.bool b6,.bool b7,.int .i64 k0,.int .i64 k1,.int .i64 k2,.int .i64 k3,.int .i64 k4],.bool true]) (by simp [results,Tryz.results19,go_sem,p0,p1,p2,p3,p4,p5,p6,p7,p8,p9,p10,p11,p12]) rfl ⟨rfl,HQ.out⟩
theorem modL_emp:modL []=none:=by rfl
theorem join_emp:joinH []=[]:=by rfl
theorem mchoose_any (lo:Nat) (v:Value) (fs:List Fld) (w:World) (hv:Flds lo w v fs) (hk:FldsOk fs) (hj:∀n,(joinH (allH fs n)).length≤90000) (hA:Alph w) (hT:Tabs w) :
  Calls Tryz.prog 22 #[v] w fun e w'=>e=.returned (chsA fs)∧Below w.heap.size w w':=by
 have hb0:Below w.heap.size w (w.alloc (.cells #[.bool false,.bool false,.bool false,.bool false,.bool false,.bool false,.bool false,.bool false,.int .i64 0,.int .i64 0,.int .i64 0,.int .i64 0,.int .i64 0] 34)):=(Below.refl _ _).alloc (zR _) _
 have HB0:=zH hb0
 have HX0:=zH (BoxN.made w [.bool false,.bool false,.bool false,.bool false,.bool false,.bool false,.bool false,.bool false,.int .i64 0,.int .i64 0,.int .i64 0,.int .i64 0,.int .i64 0] 34)
 have cG:=fun n W (hb:Below w.heap.size w W)=>hget_any lo v fs n W (hv.below hb) hk
 have cL:=fun W (hb:Below w.heap.size w W)=>lread_any lo v fs W (hv.below hb) hk (Nat.le_trans (hj nCtl) (by decide)) (Utf8Tabs_below hT hb)
 have cP:=fun W (hb:Below w.heap.size w W)=>mparse_any (strB (joinH (allH fs nCdn))) W (by rw [strB_size];exact hj nCdn) (hA.below hb)
 rw [strB_data]at cP
 have cN:=none_any
 rw [rulV_none]at cN
 have hcond:(0<(allH fs nCdn).length∧(modL (joinH (allH fs nCdn))).isSome=true)↔(modL (joinH (allH fs nCdn))).isSome=true:=by
  refine⟨fun h=>h.2,fun h=>⟨?_,h⟩⟩
  by_cases h0:0<(allH fs nCdn).length
  ·exact h0
  ·rw [List.eq_nil_of_length_eq_zero (show(allH fs nCdn).length=0 by omega),join_emp,modL_emp]at h
   cases h
 unfold modA at cP
 unfold getV at cG
 have c1:=cG nCdn
 have c2:=cG nCtl
 obtain⟨ao,cap,rfl,_⟩:=id hv
 obtain⟨b0,b1,b2,b3,b4,b5,b6,b7,k0,k1,k2,k3,k4,hR⟩:=rulO_form (modL (joinH (allH fs nCdn)))
 obtain⟨c0,c1',c2',c3,c4,c5,c6,c7,m0,m1,m2,m3,m4,hR2⟩:=rulV_form (ctlD fs)
 rw [hR]at cP
 rw [hR2]at cL
 have RA:Hid ((modL (joinH (allH fs nCdn))).isSome=true→chsA fs=.tuple #[.agg #[.bool b0,.bool b1,.bool b2,.bool b3,.bool b4,.bool b5,.bool b6,.bool b7,.int .i64 k0,.int .i64 k1,.int .i64 k2,.int .i64 k3,.int .i64 k4],.int .i64 2]):=zH (fun h=>by rw [chsA,if_pos (hcond.2 h),hR])
 have RB:Hid ((modL (joinH (allH fs nCdn))).isSome=false→decide (0<(allH fs nCtl).length)=true→chsA fs=.tuple #[.agg #[.bool c0,.bool c1',.bool c2',.bool c3,.bool c4,.bool c5,.bool c6,.bool c7,.int .i64 m0,.int .i64 m1,.int .i64 m2,.int .i64 m3,.int .i64 m4],.int .i64 1]):=zH (fun h h2=>by rw [chsA,if_neg (fun e=>by rw [hcond.1 e]at h;cases h),if_pos (of_decide_eq_true h2),hR2])
 have RC:Hid ((modL (joinH (allH fs nCdn))).isSome=false→decide (0<(allH fs nCtl).length)=false→chsA fs=.tuple #[.agg #[.bool false,.bool false,.bool false,.bool false,.bool false,.bool false,.bool false,.bool false,.int .i64 (-1),.int .i64 (-1),.int .i64 (-1),.int .i64 (-1),.int .i64 (-1)],.int .i64 0]):=zH (fun h h2=>by rw [chsA,if_neg (fun e=>by rw [hcond.1 e]at h;cases h),if_neg (of_decide_eq_false h2),rulV_none])
 generalize chsA fs=R9 at *
 clear hb0 cG hcond hR hR2 hv hk hj hA hT
 generalize(modL (joinH (allH fs nCdn))).isSome=YES at *
 generalize strB (joinH (allH fs nCdn))=J1 at *
 generalize decide (0<(allH fs nCdn).length)=D1 at *
 generalize strB (joinH (allH fs nCtl))=J2 at *
 generalize decide (0<(allH fs nCtl).length)=D2 at *
 go_enter Tryz.func22,Tryz.ntmps22
 go_wp2_with fail
 refine(c1 _ HB0.out).mono ?_
 rintro e w1 ⟨rfl,hb⟩
 have HX:=zH (HX0.out.next hb)
 have HB:=zH (HB0.out.trans (hb.mono HB0.out.size))
 clear hb c1 HX0 HB0
 go_wp2_with fail
 refine(cP _ HB.out).mono ?_
 rintro e w2 ⟨rfl,hb⟩
 have HX:=zH (HX.out.next hb)
 have HB:=zH (HB.out.trans (hb.mono HB.out.size))
 clear hb cP
 cases YES
 ·clear RA
  have hal:=(Below.refl w2.heap.size w2).alloc (zR _) (.cells #[.bool b0,.bool b1,.bool b2,.bool b3,.bool b4,.bool b5,.bool b6,.bool b7,.int .i64 k0,.int .i64 k1,.int .i64 k2,.int .i64 k3,.int .i64 k4] 34)
  have HX:=zH (HX.out.next hal)
  have HB:=zH (HB.out.trans (hal.mono HB.out.size))
  clear hal
  go_wp2_with fail
  generalize w2.alloc (.cells #[.bool b0,.bool b1,.bool b2,.bool b3,.bool b4,.bool b5,.bool b6,.bool b7,.int .i64 k0,.int .i64 k1,.int .i64 k2,.int .i64 k3,.int .i64 k4] 34)=U at *
  generalize w2.heap.size=C at *
  refine(c2 _ HB.out).mono ?_
  rintro e w3 ⟨rfl,hb⟩
  have HX:=zH (HX.out.next hb)
  have HB:=zH (HB.out.trans (hb.mono HB.out.size))
  clear hb c2
  cases D2
  ·have HV:Hid (R9=.tuple #[.agg #[.bool false,.bool false,.bool false,.bool false,.bool false,.bool false,.bool false,.bool false,.int .i64 (-1),.int .i64 (-1),.int .i64 (-1),.int .i64 (-1),.int .i64 (-1)],.int .i64 0]):=zH (RC.out (by first | rfl | trivial) (by first | rfl | trivial))
   clear cL RB RC
   go_wp2_with fail
   refine(cN _).mono ?_
   rintro e w4 ⟨rfl,hb⟩
   have HX:=zH (HX.out.next hb)
   have HB:=zH (HB.out.trans (hb.mono HB.out.size))
   clear hb cN
   obtain⟨z0,g0,z1,g1,z2,g2,z3,g3,z4,g4,z5,g5,z6,g6,z7,g7,z8,g8,z9,g9,z10,g10,z11,g11,z12,g12⟩:=a13X HX.out
   go_wp2_with fail
   clear z0 g0 z1 g1 z2 g2 z3 g3 z4 g4 z5 g5 z6 g6 z7 g7 z8 g8 z9 g9 z10 g10 z11 g11 z12 g12
   have HP:=zH (set13X HX.out rfl (.bool false) (.bool false) (.bool false) (.bool false) (.bool false) (.bool false) (.bool false) (.bool false) (.int .i64 (-1)) (.int .i64 (-1)) (.int .i64 (-1)) (.int .i64 (-1)) (.int .i64 (-1)))
   have HQ:=zH (set13B HB.out (.bool false) (.bool false) (.bool false) (.bool false) (.bool false) (.bool false) (.bool false) (.bool false) (.int .i64 (-1)) (.int .i64 (-1)) (.int .i64 (-1)) (.int .i64 (-1)) (.int .i64 (-1)))
   generalize World.setCell _ ⟨_,12,none⟩ _=W9 at *
   obtain⟨p0,p1,p2,p3,p4,p5,p6,p7,p8,p9,p10,p11,p12⟩:=b13X HP.out
   refine bodyPost_ret (v:=.tuple #[.agg #[.bool false,.bool false,.bool false,.bool false,.bool false,.bool false,.bool false,.bool false,.int .i64 (-1),.int .i64 (-1),.int .i64 (-1),.int .i64 (-1),.int .i64 (-1)],.int .i64 0]) (by simp [results,Tryz.results22,go_sem,p0,p1,p2,p3,p4,p5,p6,p7,p8,p9,p10,p11,p12]) rfl ⟨by rw [HV.out],HQ.out⟩
  ·have HV:Hid (R9=.tuple #[.agg #[.bool c0,.bool c1',.bool c2',.bool c3,.bool c4,.bool c5,.bool c6,.bool c7,.int .i64 m0,.int .i64 m1,.int .i64 m2,.int .i64 m3,.int .i64 m4],.int .i64 1]):=zH (RB.out (by first | rfl | trivial) (by first | rfl | trivial))
   clear cN RB RC
   go_wp2_with fail
   refine(cL _ HB.out).mono ?_
   rintro e w4 ⟨rfl,hb⟩
   have HX:=zH (HX.out.next hb)
   have HB:=zH (HB.out.trans (hb.mono HB.out.size))
   clear hb cL
   obtain⟨z0,g0,z1,g1,z2,g2,z3,g3,z4,g4,z5,g5,z6,g6,z7,g7,z8,g8,z9,g9,z10,g10,z11,g11,z12,g12⟩:=a13X HX.out
   go_wp2_with fail
   clear z0 g0 z1 g1 z2 g2 z3 g3 z4 g4 z5 g5 z6 g6 z7 g7 z8 g8 z9 g9 z10 g10 z11 g11 z12 g12
   have HP:=zH (set13X HX.out rfl (.bool c0) (.bool c1') (.bool c2') (.bool c3) (.bool c4) (.bool c5) (.bool c6) (.bool c7) (.int .i64 m0) (.int .i64 m1) (.int .i64 m2) (.int .i64 m3) (.int .i64 m4))
   have HQ:=zH (set13B HB.out (.bool c0) (.bool c1') (.bool c2') (.bool c3) (.bool c4) (.bool c5) (.bool c6) (.bool c7) (.int .i64 m0) (.int .i64 m1) (.int .i64 m2) (.int .i64 m3) (.int .i64 m4))
   generalize World.setCell _ ⟨_,12,none⟩ _=W9 at *
   obtain⟨p0,p1,p2,p3,p4,p5,p6,p7,p8,p9,p10,p11,p12⟩:=b13X HP.out
   refine bodyPost_ret (v:=.tuple #[.agg #[.bool c0,.bool c1',.bool c2',.bool c3,.bool c4,.bool c5,.bool c6,.bool c7,.int .i64 m0,.int .i64 m1,.int .i64 m2,.int .i64 m3,.int .i64 m4],.int .i64 1]) (by simp [results,Tryz.results22,go_sem,p0,p1,p2,p3,p4,p5,p6,p7,p8,p9,p10,p11,p12]) rfl ⟨by rw [HV.out],HQ.out⟩
 ·have HV:Hid (R9=.tuple #[.agg #[.bool b0,.bool b1,.bool b2,.bool b3,.bool b4,.bool b5,.bool b6,.bool b7,.int .i64 k0,.int .i64 k1,.int .i64 k2,.int .i64 k3,.int .i64 k4],.int .i64 2]):=zH (RA.out (by first | rfl | trivial))
  clear c2 cL cN RA RB RC
  have hlt:=HX.out.1
  obtain⟨z0,g0,z1,g1,z2,g2,z3,g3,z4,g4,z5,g5,z6,g6,z7,g7,z8,g8,z9,g9,z10,g10,z11,g11,z12,g12⟩:=a13X HX.out
  go_wp2_with fail
  clear hlt
  clear z0 g0 z1 g1 z2 g2 z3 g3 z4 g4 z5 g5 z6 g6 z7 g7 z8 g8 z9 g9 z10 g10 z11 g11 z12 g12
  have HP:=zH (set13X HX.out rfl (.bool b0) (.bool b1) (.bool b2) (.bool b3) (.bool b4) (.bool b5) (.bool b6) (.bool b7) (.int .i64 k0) (.int .i64 k1) (.int .i64 k2) (.int .i64 k3) (.int .i64 k4))
  have HQ:=zH (set13B HB.out (.bool b0) (.bool b1) (.bool b2) (.bool b3) (.bool b4) (.bool b5) (.bool b6) (.bool b7) (.int .i64 k0) (.int .i64 k1) (.int .i64 k2) (.int .i64 k3) (.int .i64 k4))
  generalize World.setCell _ ⟨_,12,none⟩ _=W9 at *
  have hal:=(Below.refl W9.heap.size W9).alloc (zR _) (.cells #[.bool b0,.bool b1,.bool b2,.bool b3,.bool b4,.bool b5,.bool b6,.bool b7,.int .i64 k0,.int .i64 k1,.int .i64 k2,.int .i64 k3,.int .i64 k4] 34)
  have HP9:=zH (HP.out.next hal)
  have HQ9:=zH (HQ.out.trans (hal.mono HQ.out.size))
  obtain⟨p0,p1,p2,p3,p4,p5,p6,p7,p8,p9,p10,p11,p12⟩:=b13X HP9.out
  refine bodyPost_ret (v:=.tuple #[.agg #[.bool b0,.bool b1,.bool b2,.bool b3,.bool b4,.bool b5,.bool b6,.bool b7,.int .i64 k0,.int .i64 k1,.int .i64 k2,.int .i64 k3,.int .i64 k4],.int .i64 2]) (by simp [results,Tryz.results22,go_sem,p0,p1,p2,p3,p4,p5,p6,p7,p8,p9,p10,p11,p12]) rfl ⟨by rw [HV.out],HQ9.out⟩
end Go.Proofs.YtfaedmbfabfmeaaGreatDoor
