/- Plain: the value that a dictionary tells of a name, as the code takes it. · The contracts of the three functions that rulesOf makes: a name's value, whether it is true, its number. · The document's own Parse (sculleryref11). -/
import Derived.Test.YtfaedmbfabfmeaaGreatDoorYMMoP
import Derived.Test.YtfaedmbfabfmeaaGreatDoorYMMemZ
import Derived.Test.YtfaedmbfabfmeaaGreatDoorYMSzN
import Derived.Test.YtfaedmbfabfmeaaGreatDoorYMBasP
import Derived.Test.YtfaedmbfabfmeaaGreatDoorYMLgE
set_option linter.unusedSimpArgs false
set_option maxRecDepth 100000
set_option maxHeartbeats 4000000
namespace Go.Proofs.YtfaedmbfabfmeaaGreatDoor
open Go.RowKit Go.Lib
def valR (es:List Ent) (n:List UInt8):Int×Int×List UInt8:=match getM es n with | none=>(0,0,[]) | some M=>(M.it.k,M.it.n,M.it.s)
def EntP (E:Ent):Prop:=(E.val.inner=true→E.val.it.k=0∧E.val.it.n=0∧E.val.it.s=[])∧(E.val.it.k=6→E.val.it.s=[])
theorem getM_cons (e:Ent) (es:List Ent) (k:List UInt8):getM (e :: es) k=if e.key=k then some e.val else getM es k:=by
 rw [getM,name_eq]
 by_cases h:e.key=k
 ·rw [if_pos h,if_pos (decide_eq_true h.symm)]
 ·rw [if_neg h,if_neg (fun e2=>h (of_decide_eq_true e2).symm)]
theorem bitR_out:∀(es:List Ent) (k:List UInt8),k∉es.map Ent.key→bitR es k=none
 | [],_,_=>rfl
 | e :: es,k,h=>by
  rw [List.map_cons,List.mem_cons,not_or]at h
  rw [bitR,if_neg (fun e2=>h.1 e2.1.symm)]
  exact bitR_out es k h.2
theorem val_bit:∀(es:List Ent) (k:List UInt8),(es.map Ent.key).Nodup→(∀E∈es,EntP E)→valR es k=(bitR es k).getD (0,0,[])
 | [],_,_,_=>rfl
 | e :: es,k,hn,hp=>by
  rw [List.map_cons,List.nodup_cons]at hn
  have ih:=val_bit es k hn.2 (fun E hE=>hp E (List.mem_cons_of_mem _ hE))
  have he:=hp e (List.mem_cons_self ..)
  unfold valR at ih ⊢
  rw [getM_cons,bitR]
  by_cases hk:e.key=k
  ·rw [if_pos hk]
   cases hi:e.val.inner
   ·rw [if_pos ⟨hk,rfl⟩]
    rfl
   ·obtain⟨h1,h2,h3⟩:=he.1 hi
    rw [if_neg (fun x=>by cases x.2),bitR_out es k (hk▸hn.1)]
    dsimp only
    rw [h1,h2,h3]
    rfl
  ·rw [if_neg hk,if_neg (fun x=>hk x.1)]
   exact ih
theorem val_txt:∀(es:List Ent) (k:List UInt8),(∀E∈es,EntP E)→(valR es k).1=6→(valR es k).2.2=[]
 | [],_,_,_=>rfl
 | e :: es,k,hp,h=>by
  have ih:=val_txt es k (fun E hE=>hp E (List.mem_cons_of_mem _ hE))
  unfold valR at ih h ⊢
  rw [getM_cons]at h ⊢
  by_cases hk:e.key=k
  ·rw [if_pos hk]at h ⊢
   exact(hp e (List.mem_cons_self ..)).2 h
  ·rw [if_neg hk]at h ⊢
   exact ih h
theorem yes_val (es:List Ent) (k:List UInt8) (hn:(es.map Ent.key).Nodup) (hp:∀E∈es,EntP E):yesR es k=(decide ((valR es k).1=6)&&decide ((valR es k).2.1=1)):=by
 rw [val_bit es k hn hp,yesR]
 cases bitR es k with
 | none=>rfl
 | some q=>rfl
theorem num_val (es:List Ent) (k:List UInt8) (hn:(es.map Ent.key).Nodup) (hp:∀E∈es,EntP E):numR es k=if (valR es k).1=1∧0≤(valR es k).2.1 then min (valR es k).2.1 2147483648 else -1:=by
 rw [val_bit es k hn hp,numR]
 cases bitR es k with
 | none=>rfl
 | some q=>rfl
theorem ent_p {E:Ent} {t:List UInt8} (h:enT E=some t):EntP E:=by
 unfold enT at h
 cases hm:memT E.val with
 | none=>rw [hm]at h;cases h
 | some u =>
  clear h
  unfold memT at hm
  split at hm
  ·cases hm
  ·rename_i hk
   split at hm
   ·rename_i hi
    refine⟨fun e=>(by rw [hi]at e;cases e),fun h6=>?_⟩
    have hr:=(prT_some _ _ _ _ _ (show prT E.val.it.k E.val.it.n E.val.it.s E.val.it.ps=some u from hm)).1
    rw [h6,right_bool,Bool.and_eq_true]at hr
    exact List.isEmpty_iff.1 hr.1
   ·rename_i hi
    have hi2:E.val.inner=true:=by cases hx:E.val.inner;exact absurd hx hi;rfl
    have hk2:kindL E.val=true:=by cases hx:kindL E.val;exact absurd hx hk;rfl
    rw [kindL,if_pos hi2,sameI,Bool.and_eq_true,Bool.and_eq_true,Bool.and_eq_true]at hk2
    obtain⟨⟨h1,h2,h3⟩,_⟩:=hk2
    have h1:=eq_of_beq h1
    have h2:=eq_of_beq h2
    rw [name_eq]at h3
    have h3:=of_decide_eq_true h3
    exact⟨fun _=>⟨h1,h2,h3.symm⟩,fun h6=>(by rw [h1]at h6;cases h6)⟩
theorem jn_each:∀(es:List Ent) (b:Bool) (a:List UInt8),jnGo enT [44,32] b es=some a→∀E∈es,EntP E
 | [],_,_,_,E,hE=>by cases hE
 | e :: es,b,a,h,E,hE=>by
  cases ht:enT e with
  | none=>rw [jnGo_none _ _ _ _ _ ht]at h;cases h
  | some t =>
   rw [jnGo_some _ _ _ _ _ t ht]at h
   cases hr:jnGo enT [44,32] false es with
   | none=>rw [hr]at h;cases h
   | some c =>
    rcases List.mem_cons.1 hE with rfl | hE
    ·exact ent_p ht
    ·exact jn_each es false c hr E hE
theorem dic_p {l:List UInt8} {es:List Ent} (h:dicL l=some es):(es.map Ent.key).Nodup∧∀E∈es,EntP E:=by
 obtain⟨⟨t,ht⟩,_⟩:=dict_right l es h
 unfold dcT at ht
 split at ht
 ·cases ht
 ·rename_i hk
  exact⟨by simpa [eqKE] using hk,jn_each es true t ht⟩
end Go.Proofs.YtfaedmbfabfmeaaGreatDoor
namespace Go.Proofs.YtfaedmbfabfmeaaGreatDoor
open Go.RowKit Go.Maps Go.Lib
def barV (q:Int×Int×List UInt8):Value:=.agg #[.int .i64 q.1,.int .i64 q.2.1,.string (strB q.2.2)]
def EnH (W:World) (E:Nat) (es:List Ent):Prop:=∃(w0:World) (v:Value),Below w0.heap.size w0 W∧E<w0.heap.size∧w0.cell? ⟨E,0,none⟩=some v∧GOff entR 0 none w0 v es
def FnH (W:World) (E V:Nat):Prop:=V<W.heap.size∧W.cell? ⟨V,0,none⟩=some (.func (.func 90) #[] #[.pointer (some ⟨E,0,none⟩)])
theorem EnH.below {W W':World} {E:Nat} {es:List Ent} (h:EnH W E es) (hb:Below W.heap.size W W'):EnH W' E es:=by
 obtain⟨w0,v,h1,h2,h3,h4⟩:=h
 exact⟨w0,v,h1.trans (hb.mono h1.size),h2,h3,h4⟩
theorem FnH.below {W W':World} {E V:Nat} (h:FnH W E V) (hb:Below W.heap.size W W'):FnH W' E V:=
 ⟨Nat.lt_of_lt_of_le h.1 hb.size,(hb.cell (p:=⟨V,0,none⟩) h.1).trans h.2⟩
theorem get_form {es:List Ent} {n:List UInt8} {w w':World} {e:Ending} (h:getPost (getM es n) w e w') :
  (∃(i b:Bool) (a1 a2 a3:Option Addr) (l1 l2 l3 c1 c2 c3:Nat),e=.returned (.tuple #[aggM i (valR es n).1 (valR es n).2.1 (strB (valR es n).2.2) (.slice a1 l1 c1) (.slice a2 l2 c2) (.slice a3 l3 c3),.bool b]))∧Below w.heap.size w w':=by
 obtain⟨hb,h⟩:=h
 refine⟨?_,hb⟩
 unfold valR
 cases hg:getM es n with
 | none =>
  rw [hg]at h
  exact⟨_,_,_,_,_,_,_,_,_,_,_,h⟩
 | some M =>
  rw [hg]at h
  obtain⟨v,rfl,u,vi,vp,rfl,h1,h2,h3⟩:=h
  obtain⟨b1,c1,rfl⟩:=h1.form
  obtain⟨b2,c2,rfl⟩:=h2.form
  obtain⟨b3,c3,rfl⟩:=h3.form
  exact⟨_,_,_,_,_,_,_,_,_,_,_,rfl⟩
theorem mvalue_any (es:List Ent) (n:List UInt8) (E:Nat) (W:World) (h:EnH W E es) (hl:es.length≤100000) (hs:∀p∈es,MemSm p.val) :
  Calls Tryz.prog 90 #[.string (strB n),.pointer (some ⟨E,0,none⟩)] W fun e w'=>e=.returned (barV (valR es n))∧Below W.heap.size W w':=by
 obtain⟨w0,v,hb,hE,hc,hG⟩:=h
 have hW:W.cell? ⟨E,0,none⟩=some v:=(hb.cell (p:=⟨E,0,none⟩) hE).trans hc
 have hEW:E<W.heap.size:=Nat.lt_of_lt_of_le hE hb.size
 have hG:=hG.below hb
 have hb0:Below W.heap.size W (W.alloc (.cells #[.int .i64 0,.int .i64 0,.string ⟨#[]⟩] 113)):=(Below.refl _ _).alloc (zR _) _
 have HX:=zH (BoxN.made W [.int .i64 0,.int .i64 0,.string ⟨#[]⟩] 113)
 have cG:=(get_any v es n _ (hG.below hb0) hl hs).mono (fun e w' h=>get_form h)
 have HB0:=zH hb0
 obtain⟨ao,cap,rfl,_⟩:=id hG
 unfold barV
 generalize valR es n=q at *
 obtain⟨K,N,S⟩:=q
 dsimp only at cG ⊢
 generalize strB S=SB at *
 clear hG hb0 hs hl hb hE hc
 go_enter Tryz.func90,Tryz.ntmps90
 go_wp2_with fail
 refine cG.mono ?_
 rintro e w2 ⟨⟨i,b,a1,a2,a3,l1,l2,l3,c1,c2,c3,rfl⟩,hb⟩
 have HX:=zH (HX.out.next hb)
 have HB:=zH (HB0.out.trans (hb.mono HB0.out.size))
 have hlt:=HX.out.1
 have x0:=(HX.out.2 0 _ rfl).1
 have g0:=(HX.out.2 0 _ rfl).2
 have x1:=(HX.out.2 1 _ rfl).1
 have g1:=(HX.out.2 1 _ rfl).2
 have x2:=(HX.out.2 2 _ rfl).1
 have g2:=(HX.out.2 2 _ rfl).2
 have HP:=zH (((HX.out.set 0 (.int .i64 K) (by simp)).set 1 (.int .i64 N) (by simp)).set 2 (.string SB) (by simp))
 have HQ:=zH (((HB.out.setCell (p:=⟨W.heap.size,0,none⟩) (zR _) (.int .i64 K)).setCell (p:=⟨W.heap.size,1,none⟩) (zR _) (.int .i64 N)).setCell (p:=⟨W.heap.size,2,none⟩) (zR _) (.string SB))
 clear hb cG HB0 hW HX HB
 go_wp2_with fail
 clear x0 g0 x1 g1 x2 g2 hlt
 generalize((w2.setCell ⟨W.heap.size,0,none⟩ (.int .i64 K)).setCell ⟨W.heap.size,1,none⟩ (.int .i64 N)).setCell ⟨W.heap.size,2,none⟩ (.string SB)=U at *
 have hal:=(Below.refl U.heap.size U).alloc (zR _) (.cells #[.bool i,.int .i64 K,.int .i64 N,.string SB,.slice a1 l1 c1,.slice a2 l2 c2,.slice a3 l3 c3] 119)
 have HP9:=zH (HP.out.next hal)
 have HQ9:=zH (HQ.out.trans (hal.mono HQ.out.size))
 have p0:=(HP9.out.2 0 _ rfl).1
 have p1:=(HP9.out.2 1 _ rfl).1
 have p2:=(HP9.out.2 2 _ rfl).1
 refine bodyPost_ret (v:=.agg #[.int .i64 K,.int .i64 N,.string SB]) (by simp [results,Tryz.results90,go_sem,p0,p1,p2]) rfl ⟨rfl,HQ9.out⟩
def yesV (es:List Ent) (n:List UInt8):Bool:=decide ((valR es n).1=6)&&decide ((valR es n).2.1=1)
def numV (es:List Ent) (n:List UInt8):Int:=if (valR es n).1=1∧0≤(valR es n).2.1 then min (valR es n).2.1 2147483648 else -1
theorem mtrue_any (es:List Ent) (n:List UInt8) (E V:Nat) (W:World) (h:EnH W E es) (hf:FnH W E V) (hl:es.length≤100000) (hs:∀p∈es,MemSm p.val) (hp:∀E∈es,EntP E) :
  Calls Tryz.prog 92 #[.string (strB n),.pointer (some ⟨V,0,none⟩)] W fun e w'=>e=.returned (.bool (yesV es n))∧Below W.heap.size W w':=by
 have cV:=mvalue_any es n E W h hl hs
 have ht:=val_txt es n hp
 have hf2:=hf.2
 have e1:∀args W,(callFunc 90 args).run Tryz.prog W=.ok (.enter 90 args) W:=enters_of Tryz.func90 (by kernel_rfl) rfl
 unfold yesV
 unfold barV at cV
 generalize valR es n=q at *
 obtain⟨K,N,S⟩:=q
 dsimp only at cV ht ⊢
 clear h hf hl hs hp
 by_cases hk:K=6
 ·obtain rfl:=ht hk
  subst hk
  clear ht
  by_cases hn:N=1
  ·subst hn
   go_enter Tryz.func92,Tryz.ntmps92
   go_wp2_with fail
   refine cV.mono ?_
   rintro e w2 ⟨rfl,hb⟩
   rw [show strB []=(⟨#[]⟩:ByteArray)from rfl]
   clear cV hf2
   go_wp2_with fail
   go_ret
   exact⟨rfl,hb⟩
  ·have k1:(N==1)=false:=beq_false_of_ne hn
   rw [decide_eq_false hn]
   go_enter Tryz.func92,Tryz.ntmps92
   go_wp2_with fail
   refine cV.mono ?_
   rintro e w2 ⟨rfl,hb⟩
   clear cV hf2
   go_wp2_with fail
   go_ret
   exact⟨rfl,hb⟩
 ·have k1:(K==6)=false:=beq_false_of_ne hk
  rw [decide_eq_false hk]
  clear ht
  generalize strB S=SB at *
  go_enter Tryz.func92,Tryz.ntmps92
  go_wp2_with fail
  refine cV.mono ?_
  rintro e w2 ⟨rfl,hb⟩
  clear cV hf2
  go_wp2_with fail
  go_ret
  exact⟨rfl,hb⟩
theorem set_same_MoA (vs:List Value) (j:Nat) (u:Value) (h:vs[j]? = some u):vs.set j u=vs:=by
 apply List.ext_getElem?
 intro i
 by_cases hij:j=i
 ·subst hij
  rw [List.getElem?_set_self (List.getElem?_eq_some_iff.1 h).1,h]
 ·rw [List.getElem?_set_ne hij]
theorem mnum_any (es:List Ent) (n:List UInt8) (E V R j:Nat) (vs:List Value) (W:World) (h:EnH W E es) (hf:FnH W E V) (hx:BoxN W R vs) (hj:vs[j]? = some (.int .i64 (-1))) (hl:es.length≤100000) (hs:∀p∈es,MemSm p.val) :
  Calls Tryz.prog 93 #[.pointer (some ⟨R,j,none⟩),.string (strB n),.pointer (some ⟨V,0,none⟩)] W fun e w'=>e=.returned (.tuple #[])∧Moved R W w'∧BoxN w' R (vs.set j (.int .i64 (numV es n))):=by
 have cV:=mvalue_any es n E W h hl hs
 have hf2:=hf.2
 have e1:∀args W,(callFunc 90 args).run Tryz.prog W=.ok (.enter 90 args) W:=enters_of Tryz.func90 (by kernel_rfl) rfl
 have HX:=zH hx
 have HJ:=zH hj
 have HV:Hid (numV es n=if (valR es n).1=1∧0≤(valR es n).2.1 then min (valR es n).2.1 2147483648 else -1):=zH rfl
 generalize numV es n=Y at *
 unfold barV at cV
 generalize valR es n=q at *
 obtain⟨K,N,S⟩:=q
 dsimp only at cV HV
 generalize strB S=SB at *
 clear h hf hl hs hx hj
 by_cases hk:K=1
 ·subst hk
  by_cases hn:0≤N
  ·have HR:Hid (Y=min N 2147483648):=zH (by rw [HV.out,if_pos ⟨rfl,hn⟩])
   clear HV
   go_enter Tryz.func93,Tryz.ntmps93
   go_wp2_with fail
   refine cV.mono ?_
   rintro e w2 ⟨rfl,hb⟩
   have HX:=zH (HX.out.next hb)
   have hlt:=HX.out.1
   have x0:=(HX.out.2 j _ HJ.out).1
   have g0:=(HX.out.2 j _ HJ.out).2
   have hm:=((Moved.of_below (b:=R) hb).setCell (o:=j) (.int .i64 (min N 2147483648)))
   have HM:=zH hm
   have HP:=zH (HX.out.set j (.int .i64 (min N 2147483648)) (List.getElem?_eq_some_iff.1 HJ.out).1)
   clear cV hf2 hb hm HX
   go_wp2_with fail
   refine bodyPost_end (v:=.tuple #[]) (by simp [results,Tryz.results93,go_sem]) rfl ?_
   generalize w2.setCell ⟨R,j,none⟩ (.int .i64 (min N 2147483648))=U at *
   have hal:=(Below.refl U.heap.size U).alloc (zR _) (.cells #[.int .i64 1,.int .i64 N,.string SB] 113)
   exact⟨rfl,HM.out.trans (Moved.of_below hal),by rw [HR.out];exact HP.out.next hal⟩
  ·have HR:Hid (Y=-1):=zH (by rw [HV.out,if_neg (fun e=>hn e.2)])
   have k2:decide (0≤N)=false:=decide_eq_false hn
   clear HV
   go_enter Tryz.func93,Tryz.ntmps93
   go_wp2_with fail
   refine cV.mono ?_
   rintro e w2 ⟨rfl,hb⟩
   have HX:=zH (HX.out.next hb)
   have HM:=zH (Moved.of_below (b:=R) hb)
   clear cV hf2 hb
   go_wp2_with fail
   refine bodyPost_end (v:=.tuple #[]) (by simp [results,Tryz.results93,go_sem]) rfl ?_
   have hal:=(Below.refl w2.heap.size w2).alloc (zR _) (.cells #[.int .i64 1,.int .i64 N,.string SB] 113)
   exact⟨rfl,HM.out.trans (Moved.of_below hal),by rw [HR.out,set_same_MoA vs j _ HJ.out];exact HX.out.next hal⟩
 ·have HR:Hid (Y=-1):=zH (by rw [HV.out,if_neg (fun e=>hk e.1)])
  have k2:(K==1)=false:=beq_false_of_ne hk
  clear HV
  go_enter Tryz.func93,Tryz.ntmps93
  go_wp2_with fail
  refine cV.mono ?_
  rintro e w2 ⟨rfl,hb⟩
  have HX:=zH (HX.out.next hb)
  have HM:=zH (Moved.of_below (b:=R) hb)
  clear cV hf2 hb
  go_wp2_with fail
  refine bodyPost_end (v:=.tuple #[]) (by simp [results,Tryz.results93,go_sem]) rfl ?_
  have hal:=(Below.refl w2.heap.size w2).alloc (zR _) (.cells #[.int .i64 K,.int .i64 N,.string SB] 113)
  exact⟨rfl,HM.out.trans (Moved.of_below hal),by rw [HR.out,set_same_MoA vs j _ HJ.out];exact HX.out.next hal⟩
end Go.Proofs.YtfaedmbfabfmeaaGreatDoor
namespace Go.Proofs.YtfaedmbfabfmeaaGreatDoor
open Go.RowKit Go.Lib
theorem r11parse_no (s:ByteArray) (w:World) (hs:s.size≤90000) (h:modL s.data.toList=none) :
  Calls Tryz.prog 66 #[.string s] w fun e w'=>e=.returned (modA (modL s.data.toList))∧Below w.heap.size w w':=by
 have cD:=fun W=>rdict_any s W (by omega)
 have cN:=rnone_any
 rw [h]
 have HV:Hid (modA none=.tuple #[.agg #[.bool false,.bool false,.bool false,.bool false,.bool false,.bool false,.bool false,.bool false,.int .i64 (-1),.int .i64 (-1),.int .i64 (-1),.int .i64 (-1),.int .i64 (-1)],.bool false]):=zH rfl
 generalize modA none=R at *
 have HB0:=zH ((Below.refl w.heap.size w).alloc (zR _) (.cells #[.bool false,.bool false,.bool false,.bool false,.bool false,.bool false,.bool false,.bool false,.int .i64 0,.int .i64 0,.int .i64 0,.int .i64 0,.int .i64 0] 36))
 have HX:=zH (BoxN.made w [.bool false,.bool false,.bool false,.bool false,.bool false,.bool false,.bool false,.bool false,.int .i64 0,.int .i64 0,.int .i64 0,.int .i64 0,.int .i64 0] 36)
 rw [rulV_noneR]at cN
 cases hd:dicL s.data.toList with
 | none =>
  rw [hd]at cD
  clear h hd
  go_enter Tryz.func66,Tryz.ntmps66
  go_wp2_with fail
  refine(cD _).mono ?_
  rintro e w1 ⟨hb,rfl⟩
  have HX:=zH (HX.out.next hb)
  have HB:=zH (HB0.out.trans (hb.mono HB0.out.size))
  clear hb cD HB0
  go_wp2_with fail
  refine(cN _).mono ?_
  rintro e w2 ⟨rfl,hb⟩
  have HX:=zH (HX.out.next hb)
  have HB:=zH (HB.out.trans (hb.mono HB.out.size))
  clear hb cN
  obtain⟨x0,g0,x1,g1,x2,g2,x3,g3,x4,g4,x5,g5,x6,g6,x7,g7,x8,g8,x9,g9,x10,g10,x11,g11,x12,g12⟩:=a13X HX.out
  go_wp2_with fail
  clear x0 g0 x1 g1 x2 g2 x3 g3 x4 g4 x5 g5 x6 g6 x7 g7 x8 g8 x9 g9 x10 g10 x11 g11 x12 g12
  have HP:=zH (set13X HX.out rfl (.bool false) (.bool false) (.bool false) (.bool false) (.bool false) (.bool false) (.bool false) (.bool false) (.int .i64 (-1)) (.int .i64 (-1)) (.int .i64 (-1)) (.int .i64 (-1)) (.int .i64 (-1)))
  have HQ:=zH (set13B HB.out (.bool false) (.bool false) (.bool false) (.bool false) (.bool false) (.bool false) (.bool false) (.bool false) (.int .i64 (-1)) (.int .i64 (-1)) (.int .i64 (-1)) (.int .i64 (-1)) (.int .i64 (-1)))
  generalize World.setCell _ ⟨_,12,none⟩ _=W9 at *
  obtain⟨p0,p1,p2,p3,p4,p5,p6,p7,p8,p9,p10,p11,p12⟩:=b13X HP.out
  refine bodyPost_ret (v:=.tuple #[.agg #[.bool false,.bool false,.bool false,.bool false,.bool false,.bool false,.bool false,.bool false,.int .i64 (-1),.int .i64 (-1),.int .i64 (-1),.int .i64 (-1),.int .i64 (-1)],.bool false]) (by simp [results,Tryz.results66,go_sem,p0,p1,p2,p3,p4,p5,p6,p7,p8,p9,p10,p11,p12]) rfl ⟨by rw [HV.out],HQ.out⟩
 | some es =>
  have hes:es=[]:=Classical.byContradiction fun hn=>by rw [modL_yes hd hn]at h;cases h
  subst hes
  rw [hd]at cD
  clear h hd
  go_enter Tryz.func66,Tryz.ntmps66
  go_wp2_with fail
  refine(cD _).mono ?_
  rintro e w1 ⟨hb,u,rfl,hu⟩
  obtain⟨uo,uc,rfl,_⟩:=hu
  have HX:=zH (HX.out.next hb)
  have HB:=zH (HB0.out.trans (hb.mono HB0.out.size))
  clear hb cD HB0
  go_wp2_with fail
  refine(cN _).mono ?_
  rintro e w2 ⟨rfl,hb⟩
  have HX:=zH (HX.out.next hb)
  have HB:=zH (HB.out.trans (hb.mono HB.out.size))
  clear hb cN
  obtain⟨x0,g0,x1,g1,x2,g2,x3,g3,x4,g4,x5,g5,x6,g6,x7,g7,x8,g8,x9,g9,x10,g10,x11,g11,x12,g12⟩:=a13X HX.out
  go_wp2_with fail
  clear x0 g0 x1 g1 x2 g2 x3 g3 x4 g4 x5 g5 x6 g6 x7 g7 x8 g8 x9 g9 x10 g10 x11 g11 x12 g12
  have HP:=zH (set13X HX.out rfl (.bool false) (.bool false) (.bool false) (.bool false) (.bool false) (.bool false) (.bool false) (.bool false) (.int .i64 (-1)) (.int .i64 (-1)) (.int .i64 (-1)) (.int .i64 (-1)) (.int .i64 (-1)))
  have HQ:=zH (set13B HB.out (.bool false) (.bool false) (.bool false) (.bool false) (.bool false) (.bool false) (.bool false) (.bool false) (.int .i64 (-1)) (.int .i64 (-1)) (.int .i64 (-1)) (.int .i64 (-1)) (.int .i64 (-1)))
  generalize World.setCell _ ⟨_,12,none⟩ _=W9 at *
  obtain⟨p0,p1,p2,p3,p4,p5,p6,p7,p8,p9,p10,p11,p12⟩:=b13X HP.out
  refine bodyPost_ret (v:=.tuple #[.agg #[.bool false,.bool false,.bool false,.bool false,.bool false,.bool false,.bool false,.bool false,.int .i64 (-1),.int .i64 (-1),.int .i64 (-1),.int .i64 (-1),.int .i64 (-1)],.bool false]) (by simp [results,Tryz.results66,go_sem,p0,p1,p2,p3,p4,p5,p6,p7,p8,p9,p10,p11,p12]) rfl ⟨by rw [HV.out],HQ.out⟩
theorem r11parse_0 (s:ByteArray) (es:List Ent) (w:World) (hs:s.size≤90000) (h:modL s.data.toList=some es) (hy:yesR es nStale=false) :
  Calls Tryz.prog 66 #[.string s] w fun e w'=>e=.returned (modA (modL s.data.toList))∧Below w.heap.size w w':=by
 have cD:=fun W=>rdict_any s W (by omega)
 obtain⟨hd,hne⟩:=modL_some h
 obtain⟨hl,_⟩:=dicL_in (N:=90000) s.data.toList es (by rw [← Lib.size_eq];exact hs) hd
 have hl2:es.length≤100000:=by rw [← Lib.size_eq]at hl;omega
 have hnl:((es.length:Int)==0)=false:=by
  have:=List.length_pos_iff.2 hne
  rw [beq_eq_false_iff_ne]
  omega
 rw [h]
 rw [hd]at cD
 have HV:Hid (modA (some es)=.tuple #[.agg #[.bool (yesR es nNoStore),.bool (yesR es nNoCache),.bool (yesR es nPrivate),.bool (yesR es nPublic),.bool (yesR es nMust),.bool (yesR es nProxy),.bool (yesR es nImmut),.bool (yesR es nOnly),.int .i64 (numR es nMaxAge),.int .i64 (numR es nSMax),.int .i64 (numR es nStale),.int .i64 (numR es nFresh),.int .i64 (numR es nIfErr)],.bool true]):=zH (by
  have e:stlR es=numR es nStale:=by rw [stlR,hy]<;>rfl
  rw [modA,rulO,rulM,e]
  rfl)
 generalize modA (some es)=R at *
 have sY:=fun v W (h:GOff entR 0 none W v es)=>ryes_any 0 v es nStale W h hl2
 rw [hy]at sY
 have s0:=fun v W (h:GOff entR 0 none W v es)=>ryes_any 0 v es nNoStore W h hl2
 generalize yesR es nNoStore=b0 at *
 have s1:=fun v W (h:GOff entR 0 none W v es)=>ryes_any 0 v es nNoCache W h hl2
 generalize yesR es nNoCache=b1 at *
 have s2:=fun v W (h:GOff entR 0 none W v es)=>ryes_any 0 v es nPrivate W h hl2
 generalize yesR es nPrivate=b2 at *
 have s3:=fun v W (h:GOff entR 0 none W v es)=>ryes_any 0 v es nPublic W h hl2
 generalize yesR es nPublic=b3 at *
 have s4:=fun v W (h:GOff entR 0 none W v es)=>ryes_any 0 v es nMust W h hl2
 generalize yesR es nMust=b4 at *
 have s5:=fun v W (h:GOff entR 0 none W v es)=>ryes_any 0 v es nProxy W h hl2
 generalize yesR es nProxy=b5 at *
 have s6:=fun v W (h:GOff entR 0 none W v es)=>ryes_any 0 v es nImmut W h hl2
 generalize yesR es nImmut=b6 at *
 have s7:=fun v W (h:GOff entR 0 none W v es)=>ryes_any 0 v es nOnly W h hl2
 generalize yesR es nOnly=b7 at *
 have t0:=fun v W (h:GOff entR 0 none W v es)=>rnum11_any 0 v es nMaxAge W h hl2
 generalize numR es nMaxAge=k0 at *
 have t1:=fun v W (h:GOff entR 0 none W v es)=>rnum11_any 0 v es nSMax W h hl2
 generalize numR es nSMax=k1 at *
 have t2:=fun v W (h:GOff entR 0 none W v es)=>rnum11_any 0 v es nStale W h hl2
 generalize numR es nStale=k2 at *
 have t3:=fun v W (h:GOff entR 0 none W v es)=>rnum11_any 0 v es nFresh W h hl2
 generalize numR es nFresh=k3 at *
 have t4:=fun v W (h:GOff entR 0 none W v es)=>rnum11_any 0 v es nIfErr W h hl2
 generalize numR es nIfErr=k4 at *
 have HB0:=zH ((Below.refl w.heap.size w).alloc (zR _) (.cells #[.bool false,.bool false,.bool false,.bool false,.bool false,.bool false,.bool false,.bool false,.int .i64 0,.int .i64 0,.int .i64 0,.int .i64 0,.int .i64 0] 36))
 have HX0:=zH (BoxN.made w [.bool false,.bool false,.bool false,.bool false,.bool false,.bool false,.bool false,.bool false,.int .i64 0,.int .i64 0,.int .i64 0,.int .i64 0,.int .i64 0] 36)
 clear h hd hne hl hy
 go_enter Tryz.func66,Tryz.ntmps66
 go_wp2_with fail
 refine(cD _).mono ?_
 rintro e w1 ⟨hb,u,rfl,hu⟩
 have HX0:=zH (HX0.out.next hb)
 have HB0:=zH (HB0.out.trans (hb.mono HB0.out.size))
 have HG:=zH hu
 obtain⟨uo,uc,rfl,_⟩:=hu
 clear hb cD
 go_wp2_with fail
 refine(s0 _ _ HG.out).mono ?_
 rintro e v0 ⟨rfl,hb⟩
 have HX0:=zH (HX0.out.next hb)
 have HG:=zH (HG.out.below hb)
 have HB0:=zH (HB0.out.trans (hb.mono HB0.out.size))
 clear hb s0
 go_wp2_with fail
 refine(s1 _ _ HG.out).mono ?_
 rintro e v1 ⟨rfl,hb⟩
 have HX0:=zH (HX0.out.next hb)
 have HG:=zH (HG.out.below hb)
 have HB0:=zH (HB0.out.trans (hb.mono HB0.out.size))
 clear hb s1
 go_wp2_with fail
 refine(s2 _ _ HG.out).mono ?_
 rintro e v2 ⟨rfl,hb⟩
 have HX0:=zH (HX0.out.next hb)
 have HG:=zH (HG.out.below hb)
 have HB0:=zH (HB0.out.trans (hb.mono HB0.out.size))
 clear hb s2
 go_wp2_with fail
 refine(s3 _ _ HG.out).mono ?_
 rintro e v3 ⟨rfl,hb⟩
 have HX0:=zH (HX0.out.next hb)
 have HG:=zH (HG.out.below hb)
 have HB0:=zH (HB0.out.trans (hb.mono HB0.out.size))
 clear hb s3
 go_wp2_with fail
 refine(s4 _ _ HG.out).mono ?_
 rintro e v4 ⟨rfl,hb⟩
 have HX0:=zH (HX0.out.next hb)
 have HG:=zH (HG.out.below hb)
 have HB0:=zH (HB0.out.trans (hb.mono HB0.out.size))
 clear hb s4
 go_wp2_with fail
 refine(s5 _ _ HG.out).mono ?_
 rintro e v5 ⟨rfl,hb⟩
 have HX0:=zH (HX0.out.next hb)
 have HG:=zH (HG.out.below hb)
 have HB0:=zH (HB0.out.trans (hb.mono HB0.out.size))
 clear hb s5
 go_wp2_with fail
 refine(s6 _ _ HG.out).mono ?_
 rintro e v6 ⟨rfl,hb⟩
 have HX0:=zH (HX0.out.next hb)
 have HG:=zH (HG.out.below hb)
 have HB0:=zH (HB0.out.trans (hb.mono HB0.out.size))
 clear hb s6
 go_wp2_with fail
 refine(s7 _ _ HG.out).mono ?_
 rintro e v7 ⟨rfl,hb⟩
 have HX0:=zH (HX0.out.next hb)
 have HG:=zH (HG.out.below hb)
 have HB0:=zH (HB0.out.trans (hb.mono HB0.out.size))
 clear hb s7
 go_wp2_with fail
 have hC:w.heap.size<v7.heap.size:=HX0.out.1
 have HY:=zH (BoxN.made v7 [.bool b0,.bool b1,.bool b2,.bool b3,.bool b4,.bool b5,.bool b6,.bool b7,.int .i64 0,.int .i64 0,.int .i64 0,.int .i64 0,.int .i64 0] 36)
 have hal:=(Below.refl v7.heap.size v7).alloc (zR _) (.cells #[.bool b0,.bool b1,.bool b2,.bool b3,.bool b4,.bool b5,.bool b6,.bool b7,.int .i64 0,.int .i64 0,.int .i64 0,.int .i64 0,.int .i64 0] 36)
 have HX0:=zH (HX0.out.next hal)
 have HB0:=zH (HB0.out.trans (hal.mono HB0.out.size))
 have HGB:Hid (∀W,Below v7.heap.size v7 W→GOff entR 0 none W (.slice uo es.length uc) es):=zH (fun W hb=>HG.out.below hb)
 have HK:=zH hal
 clear hal HG
 generalize v7.alloc (.cells #[.bool b0,.bool b1,.bool b2,.bool b3,.bool b4,.bool b5,.bool b6,.bool b7,.int .i64 0,.int .i64 0,.int .i64 0,.int .i64 0,.int .i64 0] 36)=U at *
 generalize v7.heap.size=C at *
 refine(t0 _ _ (HGB.out _ HK.out)).mono ?_
 rintro e u0 ⟨rfl,hb⟩
 have HX0:=zH (HX0.out.next hb)
 have HK:=zH (HK.out.trans (hb.mono (Nat.le_of_lt HY.out.1)))
 have HY:=zH (HY.out.next hb)
 have HB0:=zH (HB0.out.trans (hb.mono HB0.out.size))
 have y:=(HY.out.2 8 _ rfl).1
 have fy:=(HY.out.2 8 _ rfl).2
 clear hb t0
 go_wp2_with fail
 clear y fy
 have HY:=zH (HY.out.set 8 (.int .i64 k0) (by simp))
 have HX0:=zH (HX0.out.other (Nat.ne_of_gt hC) (k:=8) (.int .i64 k0))
 have HB0:=zH (HB0.out.setCell (p:=⟨C,8,none⟩) (Nat.le_of_lt hC) (.int .i64 k0))
 have HK:=zH (HK.out.setCell (p:=⟨C,8,none⟩) (zR _) (.int .i64 k0))
 generalize u0.setCell ⟨C,8,none⟩ (.int .i64 k0)=U0 at *
 refine(t1 _ _ (HGB.out _ HK.out)).mono ?_
 rintro e u1 ⟨rfl,hb⟩
 have HX0:=zH (HX0.out.next hb)
 have HK:=zH (HK.out.trans (hb.mono (Nat.le_of_lt HY.out.1)))
 have HY:=zH (HY.out.next hb)
 have HB0:=zH (HB0.out.trans (hb.mono HB0.out.size))
 have y:=(HY.out.2 9 _ rfl).1
 have fy:=(HY.out.2 9 _ rfl).2
 clear hb t1
 go_wp2_with fail
 clear y fy
 have HY:=zH (HY.out.set 9 (.int .i64 k1) (by simp))
 have HX0:=zH (HX0.out.other (Nat.ne_of_gt hC) (k:=9) (.int .i64 k1))
 have HB0:=zH (HB0.out.setCell (p:=⟨C,9,none⟩) (Nat.le_of_lt hC) (.int .i64 k1))
 have HK:=zH (HK.out.setCell (p:=⟨C,9,none⟩) (zR _) (.int .i64 k1))
 generalize u1.setCell ⟨C,9,none⟩ (.int .i64 k1)=U1 at *
 refine(t2 _ _ (HGB.out _ HK.out)).mono ?_
 rintro e u2 ⟨rfl,hb⟩
 have HX0:=zH (HX0.out.next hb)
 have HK:=zH (HK.out.trans (hb.mono (Nat.le_of_lt HY.out.1)))
 have HY:=zH (HY.out.next hb)
 have HB0:=zH (HB0.out.trans (hb.mono HB0.out.size))
 have y:=(HY.out.2 10 _ rfl).1
 have fy:=(HY.out.2 10 _ rfl).2
 clear hb t2
 go_wp2_with fail
 clear y fy
 have HY:=zH (HY.out.set 10 (.int .i64 k2) (by simp))
 have HX0:=zH (HX0.out.other (Nat.ne_of_gt hC) (k:=10) (.int .i64 k2))
 have HB0:=zH (HB0.out.setCell (p:=⟨C,10,none⟩) (Nat.le_of_lt hC) (.int .i64 k2))
 have HK:=zH (HK.out.setCell (p:=⟨C,10,none⟩) (zR _) (.int .i64 k2))
 generalize u2.setCell ⟨C,10,none⟩ (.int .i64 k2)=U2 at *
 refine(t3 _ _ (HGB.out _ HK.out)).mono ?_
 rintro e u3 ⟨rfl,hb⟩
 have HX0:=zH (HX0.out.next hb)
 have HK:=zH (HK.out.trans (hb.mono (Nat.le_of_lt HY.out.1)))
 have HY:=zH (HY.out.next hb)
 have HB0:=zH (HB0.out.trans (hb.mono HB0.out.size))
 have y:=(HY.out.2 11 _ rfl).1
 have fy:=(HY.out.2 11 _ rfl).2
 clear hb t3
 go_wp2_with fail
 clear y fy
 have HY:=zH (HY.out.set 11 (.int .i64 k3) (by simp))
 have HX0:=zH (HX0.out.other (Nat.ne_of_gt hC) (k:=11) (.int .i64 k3))
 have HB0:=zH (HB0.out.setCell (p:=⟨C,11,none⟩) (Nat.le_of_lt hC) (.int .i64 k3))
 have HK:=zH (HK.out.setCell (p:=⟨C,11,none⟩) (zR _) (.int .i64 k3))
 generalize u3.setCell ⟨C,11,none⟩ (.int .i64 k3)=U3 at *
 refine(t4 _ _ (HGB.out _ HK.out)).mono ?_
 rintro e u4 ⟨rfl,hb⟩
 have HX0:=zH (HX0.out.next hb)
 have HK:=zH (HK.out.trans (hb.mono (Nat.le_of_lt HY.out.1)))
 have HY:=zH (HY.out.next hb)
 have HB0:=zH (HB0.out.trans (hb.mono HB0.out.size))
 have y:=(HY.out.2 12 _ rfl).1
 have fy:=(HY.out.2 12 _ rfl).2
 clear hb t4
 go_wp2_with fail
 clear y fy
 have HY:=zH (HY.out.set 12 (.int .i64 k4) (by simp))
 have HX0:=zH (HX0.out.other (Nat.ne_of_gt hC) (k:=12) (.int .i64 k4))
 have HB0:=zH (HB0.out.setCell (p:=⟨C,12,none⟩) (Nat.le_of_lt hC) (.int .i64 k4))
 have HK:=zH (HK.out.setCell (p:=⟨C,12,none⟩) (zR _) (.int .i64 k4))
 generalize u4.setCell ⟨C,12,none⟩ (.int .i64 k4)=U4 at *
 refine(sY _ _ (HGB.out _ HK.out)).mono ?_
 rintro e f ⟨rfl,hb⟩
 have HX:=zH (HX0.out.next hb)
 have HY:=zH (HY.out.next hb)
 have HB:=zH (HB0.out.trans (hb.mono HB0.out.size))
 have hne:C≠w.heap.size:=Nat.ne_of_gt hC
 clear hb sY HX0 HB0 HK HGB
 obtain⟨y0,fy0,y1,fy1,y2,fy2,y3,fy3,y4,fy4,y5,fy5,y6,fy6,y7,fy7,y8,fy8,y9,fy9,y10,fy10,y11,fy11,y12,fy12⟩:=a13X HY.out
 obtain⟨x0,g0,x1,g1,x2,g2,x3,g3,x4,g4,x5,g5,x6,g6,x7,g7,x8,g8,x9,g9,x10,g10,x11,g11,x12,g12⟩:=a13X HX.out
 go_wp2_with fail
 clear x0 g0 x1 g1 x2 g2 x3 g3 x4 g4 x5 g5 x6 g6 x7 g7 x8 g8 x9 g9 x10 g10 x11 g11 x12 g12
 clear y0 fy0 y1 fy1 y2 fy2 y3 fy3 y4 fy4 y5 fy5 y6 fy6 y7 fy7 y8 fy8 y9 fy9 y10 fy10 y11 fy11 y12 fy12
 have HP:=zH (set13X HX.out rfl (.bool b0) (.bool b1) (.bool b2) (.bool b3) (.bool b4) (.bool b5) (.bool b6) (.bool b7) (.int .i64 k0) (.int .i64 k1) (.int .i64 k2) (.int .i64 k3) (.int .i64 k4))
 have HQ:=zH (set13B HB.out (.bool b0) (.bool b1) (.bool b2) (.bool b3) (.bool b4) (.bool b5) (.bool b6) (.bool b7) (.int .i64 k0) (.int .i64 k1) (.int .i64 k2) (.int .i64 k3) (.int .i64 k4))
 generalize World.setCell _ ⟨_,12,none⟩ _=W9 at *
 obtain⟨p0,p1,p2,p3,p4,p5,p6,p7,p8,p9,p10,p11,p12⟩:=b13X HP.out
 refine bodyPost_ret (v:=.tuple #[.agg #[.bool b0,.bool b1,.bool b2,.bool b3,.bool b4,.bool b5,.bool b6,.bool b7,.int .i64 k0,.int .i64 k1,.int .i64 k2,.int .i64 k3,.int .i64 k4],.bool true]) (by simp [results,Tryz.results66,go_sem,p0,p1,p2,p3,p4,p5,p6,p7,p8,p9,p10,p11,p12]) rfl ⟨by rw [HV.out],HQ.out⟩
theorem r11parse_1 (s:ByteArray) (es:List Ent) (w:World) (hs:s.size≤90000) (h:modL s.data.toList=some es) (hy:yesR es nStale=true) :
  Calls Tryz.prog 66 #[.string s] w fun e w'=>e=.returned (modA (modL s.data.toList))∧Below w.heap.size w w':=by
 have cD:=fun W=>rdict_any s W (by omega)
 obtain⟨hd,hne⟩:=modL_some h
 obtain⟨hl,_⟩:=dicL_in (N:=90000) s.data.toList es (by rw [← Lib.size_eq];exact hs) hd
 have hl2:es.length≤100000:=by rw [← Lib.size_eq]at hl;omega
 have hnl:((es.length:Int)==0)=false:=by
  have:=List.length_pos_iff.2 hne
  rw [beq_eq_false_iff_ne]
  omega
 rw [h]
 rw [hd]at cD
 have HV:Hid (modA (some es)=.tuple #[.agg #[.bool (yesR es nNoStore),.bool (yesR es nNoCache),.bool (yesR es nPrivate),.bool (yesR es nPublic),.bool (yesR es nMust),.bool (yesR es nProxy),.bool (yesR es nImmut),.bool (yesR es nOnly),.int .i64 (numR es nMaxAge),.int .i64 (numR es nSMax),.int .i64 (2147483648),.int .i64 (numR es nFresh),.int .i64 (numR es nIfErr)],.bool true]):=zH (by
  have e:stlR es=2147483648:=by rw [stlR,hy]<;>rfl
  rw [modA,rulO,rulM,e]
  rfl)
 generalize modA (some es)=R at *
 have sY:=fun v W (h:GOff entR 0 none W v es)=>ryes_any 0 v es nStale W h hl2
 rw [hy]at sY
 have s0:=fun v W (h:GOff entR 0 none W v es)=>ryes_any 0 v es nNoStore W h hl2
 generalize yesR es nNoStore=b0 at *
 have s1:=fun v W (h:GOff entR 0 none W v es)=>ryes_any 0 v es nNoCache W h hl2
 generalize yesR es nNoCache=b1 at *
 have s2:=fun v W (h:GOff entR 0 none W v es)=>ryes_any 0 v es nPrivate W h hl2
 generalize yesR es nPrivate=b2 at *
 have s3:=fun v W (h:GOff entR 0 none W v es)=>ryes_any 0 v es nPublic W h hl2
 generalize yesR es nPublic=b3 at *
 have s4:=fun v W (h:GOff entR 0 none W v es)=>ryes_any 0 v es nMust W h hl2
 generalize yesR es nMust=b4 at *
 have s5:=fun v W (h:GOff entR 0 none W v es)=>ryes_any 0 v es nProxy W h hl2
 generalize yesR es nProxy=b5 at *
 have s6:=fun v W (h:GOff entR 0 none W v es)=>ryes_any 0 v es nImmut W h hl2
 generalize yesR es nImmut=b6 at *
 have s7:=fun v W (h:GOff entR 0 none W v es)=>ryes_any 0 v es nOnly W h hl2
 generalize yesR es nOnly=b7 at *
 have t0:=fun v W (h:GOff entR 0 none W v es)=>rnum11_any 0 v es nMaxAge W h hl2
 generalize numR es nMaxAge=k0 at *
 have t1:=fun v W (h:GOff entR 0 none W v es)=>rnum11_any 0 v es nSMax W h hl2
 generalize numR es nSMax=k1 at *
 have t2:=fun v W (h:GOff entR 0 none W v es)=>rnum11_any 0 v es nStale W h hl2
 generalize numR es nStale=k2 at *
 have t3:=fun v W (h:GOff entR 0 none W v es)=>rnum11_any 0 v es nFresh W h hl2
 generalize numR es nFresh=k3 at *
 have t4:=fun v W (h:GOff entR 0 none W v es)=>rnum11_any 0 v es nIfErr W h hl2
 generalize numR es nIfErr=k4 at *
 have HB0:=zH ((Below.refl w.heap.size w).alloc (zR _) (.cells #[.bool false,.bool false,.bool false,.bool false,.bool false,.bool false,.bool false,.bool false,.int .i64 0,.int .i64 0,.int .i64 0,.int .i64 0,.int .i64 0] 36))
 have HX0:=zH (BoxN.made w [.bool false,.bool false,.bool false,.bool false,.bool false,.bool false,.bool false,.bool false,.int .i64 0,.int .i64 0,.int .i64 0,.int .i64 0,.int .i64 0] 36)
 clear h hd hne hl hy
 go_enter Tryz.func66,Tryz.ntmps66
 go_wp2_with fail
 refine(cD _).mono ?_
 rintro e w1 ⟨hb,u,rfl,hu⟩
 have HX0:=zH (HX0.out.next hb)
 have HB0:=zH (HB0.out.trans (hb.mono HB0.out.size))
 have HG:=zH hu
 obtain⟨uo,uc,rfl,_⟩:=hu
 clear hb cD
 go_wp2_with fail
 refine(s0 _ _ HG.out).mono ?_
 rintro e v0 ⟨rfl,hb⟩
 have HX0:=zH (HX0.out.next hb)
 have HG:=zH (HG.out.below hb)
 have HB0:=zH (HB0.out.trans (hb.mono HB0.out.size))
 clear hb s0
 go_wp2_with fail
 refine(s1 _ _ HG.out).mono ?_
 rintro e v1 ⟨rfl,hb⟩
 have HX0:=zH (HX0.out.next hb)
 have HG:=zH (HG.out.below hb)
 have HB0:=zH (HB0.out.trans (hb.mono HB0.out.size))
 clear hb s1
 go_wp2_with fail
 refine(s2 _ _ HG.out).mono ?_
 rintro e v2 ⟨rfl,hb⟩
 have HX0:=zH (HX0.out.next hb)
 have HG:=zH (HG.out.below hb)
 have HB0:=zH (HB0.out.trans (hb.mono HB0.out.size))
 clear hb s2
 go_wp2_with fail
 refine(s3 _ _ HG.out).mono ?_
 rintro e v3 ⟨rfl,hb⟩
 have HX0:=zH (HX0.out.next hb)
 have HG:=zH (HG.out.below hb)
 have HB0:=zH (HB0.out.trans (hb.mono HB0.out.size))
 clear hb s3
 go_wp2_with fail
 refine(s4 _ _ HG.out).mono ?_
 rintro e v4 ⟨rfl,hb⟩
 have HX0:=zH (HX0.out.next hb)
 have HG:=zH (HG.out.below hb)
 have HB0:=zH (HB0.out.trans (hb.mono HB0.out.size))
 clear hb s4
 go_wp2_with fail
 refine(s5 _ _ HG.out).mono ?_
 rintro e v5 ⟨rfl,hb⟩
 have HX0:=zH (HX0.out.next hb)
 have HG:=zH (HG.out.below hb)
 have HB0:=zH (HB0.out.trans (hb.mono HB0.out.size))
 clear hb s5
 go_wp2_with fail
 refine(s6 _ _ HG.out).mono ?_
 rintro e v6 ⟨rfl,hb⟩
 have HX0:=zH (HX0.out.next hb)
 have HG:=zH (HG.out.below hb)
 have HB0:=zH (HB0.out.trans (hb.mono HB0.out.size))
 clear hb s6
 go_wp2_with fail
 refine(s7 _ _ HG.out).mono ?_
 rintro e v7 ⟨rfl,hb⟩
 have HX0:=zH (HX0.out.next hb)
 have HG:=zH (HG.out.below hb)
 have HB0:=zH (HB0.out.trans (hb.mono HB0.out.size))
 clear hb s7
 go_wp2_with fail
 have hC:w.heap.size<v7.heap.size:=HX0.out.1
 have HY:=zH (BoxN.made v7 [.bool b0,.bool b1,.bool b2,.bool b3,.bool b4,.bool b5,.bool b6,.bool b7,.int .i64 0,.int .i64 0,.int .i64 0,.int .i64 0,.int .i64 0] 36)
 have hal:=(Below.refl v7.heap.size v7).alloc (zR _) (.cells #[.bool b0,.bool b1,.bool b2,.bool b3,.bool b4,.bool b5,.bool b6,.bool b7,.int .i64 0,.int .i64 0,.int .i64 0,.int .i64 0,.int .i64 0] 36)
 have HX0:=zH (HX0.out.next hal)
 have HB0:=zH (HB0.out.trans (hal.mono HB0.out.size))
 have HGB:Hid (∀W,Below v7.heap.size v7 W→GOff entR 0 none W (.slice uo es.length uc) es):=zH (fun W hb=>HG.out.below hb)
 have HK:=zH hal
 clear hal HG
 generalize v7.alloc (.cells #[.bool b0,.bool b1,.bool b2,.bool b3,.bool b4,.bool b5,.bool b6,.bool b7,.int .i64 0,.int .i64 0,.int .i64 0,.int .i64 0,.int .i64 0] 36)=U at *
 generalize v7.heap.size=C at *
 refine(t0 _ _ (HGB.out _ HK.out)).mono ?_
 rintro e u0 ⟨rfl,hb⟩
 have HX0:=zH (HX0.out.next hb)
 have HK:=zH (HK.out.trans (hb.mono (Nat.le_of_lt HY.out.1)))
 have HY:=zH (HY.out.next hb)
 have HB0:=zH (HB0.out.trans (hb.mono HB0.out.size))
 have y:=(HY.out.2 8 _ rfl).1
 have fy:=(HY.out.2 8 _ rfl).2
 clear hb t0
 go_wp2_with fail
 clear y fy
 have HY:=zH (HY.out.set 8 (.int .i64 k0) (by simp))
 have HX0:=zH (HX0.out.other (Nat.ne_of_gt hC) (k:=8) (.int .i64 k0))
 have HB0:=zH (HB0.out.setCell (p:=⟨C,8,none⟩) (Nat.le_of_lt hC) (.int .i64 k0))
 have HK:=zH (HK.out.setCell (p:=⟨C,8,none⟩) (zR _) (.int .i64 k0))
 generalize u0.setCell ⟨C,8,none⟩ (.int .i64 k0)=U0 at *
 refine(t1 _ _ (HGB.out _ HK.out)).mono ?_
 rintro e u1 ⟨rfl,hb⟩
 have HX0:=zH (HX0.out.next hb)
 have HK:=zH (HK.out.trans (hb.mono (Nat.le_of_lt HY.out.1)))
 have HY:=zH (HY.out.next hb)
 have HB0:=zH (HB0.out.trans (hb.mono HB0.out.size))
 have y:=(HY.out.2 9 _ rfl).1
 have fy:=(HY.out.2 9 _ rfl).2
 clear hb t1
 go_wp2_with fail
 clear y fy
 have HY:=zH (HY.out.set 9 (.int .i64 k1) (by simp))
 have HX0:=zH (HX0.out.other (Nat.ne_of_gt hC) (k:=9) (.int .i64 k1))
 have HB0:=zH (HB0.out.setCell (p:=⟨C,9,none⟩) (Nat.le_of_lt hC) (.int .i64 k1))
 have HK:=zH (HK.out.setCell (p:=⟨C,9,none⟩) (zR _) (.int .i64 k1))
 generalize u1.setCell ⟨C,9,none⟩ (.int .i64 k1)=U1 at *
 refine(t2 _ _ (HGB.out _ HK.out)).mono ?_
 rintro e u2 ⟨rfl,hb⟩
 have HX0:=zH (HX0.out.next hb)
 have HK:=zH (HK.out.trans (hb.mono (Nat.le_of_lt HY.out.1)))
 have HY:=zH (HY.out.next hb)
 have HB0:=zH (HB0.out.trans (hb.mono HB0.out.size))
 have y:=(HY.out.2 10 _ rfl).1
 have fy:=(HY.out.2 10 _ rfl).2
 clear hb t2
 go_wp2_with fail
 clear y fy
 have HY:=zH (HY.out.set 10 (.int .i64 k2) (by simp))
 have HX0:=zH (HX0.out.other (Nat.ne_of_gt hC) (k:=10) (.int .i64 k2))
 have HB0:=zH (HB0.out.setCell (p:=⟨C,10,none⟩) (Nat.le_of_lt hC) (.int .i64 k2))
 have HK:=zH (HK.out.setCell (p:=⟨C,10,none⟩) (zR _) (.int .i64 k2))
 generalize u2.setCell ⟨C,10,none⟩ (.int .i64 k2)=U2 at *
 refine(t3 _ _ (HGB.out _ HK.out)).mono ?_
 rintro e u3 ⟨rfl,hb⟩
 have HX0:=zH (HX0.out.next hb)
 have HK:=zH (HK.out.trans (hb.mono (Nat.le_of_lt HY.out.1)))
 have HY:=zH (HY.out.next hb)
 have HB0:=zH (HB0.out.trans (hb.mono HB0.out.size))
 have y:=(HY.out.2 11 _ rfl).1
 have fy:=(HY.out.2 11 _ rfl).2
 clear hb t3
 go_wp2_with fail
 clear y fy
 have HY:=zH (HY.out.set 11 (.int .i64 k3) (by simp))
 have HX0:=zH (HX0.out.other (Nat.ne_of_gt hC) (k:=11) (.int .i64 k3))
 have HB0:=zH (HB0.out.setCell (p:=⟨C,11,none⟩) (Nat.le_of_lt hC) (.int .i64 k3))
 have HK:=zH (HK.out.setCell (p:=⟨C,11,none⟩) (zR _) (.int .i64 k3))
 generalize u3.setCell ⟨C,11,none⟩ (.int .i64 k3)=U3 at *
 refine(t4 _ _ (HGB.out _ HK.out)).mono ?_
 rintro e u4 ⟨rfl,hb⟩
 have HX0:=zH (HX0.out.next hb)
 have HK:=zH (HK.out.trans (hb.mono (Nat.le_of_lt HY.out.1)))
 have HY:=zH (HY.out.next hb)
 have HB0:=zH (HB0.out.trans (hb.mono HB0.out.size))
 have y:=(HY.out.2 12 _ rfl).1
 have fy:=(HY.out.2 12 _ rfl).2
 clear hb t4
 go_wp2_with fail
 clear y fy
 have HY:=zH (HY.out.set 12 (.int .i64 k4) (by simp))
 have HX0:=zH (HX0.out.other (Nat.ne_of_gt hC) (k:=12) (.int .i64 k4))
 have HB0:=zH (HB0.out.setCell (p:=⟨C,12,none⟩) (Nat.le_of_lt hC) (.int .i64 k4))
 have HK:=zH (HK.out.setCell (p:=⟨C,12,none⟩) (zR _) (.int .i64 k4))
 generalize u4.setCell ⟨C,12,none⟩ (.int .i64 k4)=U4 at *
 refine(sY _ _ (HGB.out _ HK.out)).mono ?_
 rintro e f ⟨rfl,hb⟩
 have HX:=zH (HX0.out.next hb)
 have HY:=zH (HY.out.next hb)
 have HB:=zH (HB0.out.trans (hb.mono HB0.out.size))
 have hne:C≠w.heap.size:=Nat.ne_of_gt hC
 clear hb sY HX0 HB0 HK HGB
 obtain⟨y0,fy0,y1,fy1,y2,fy2,y3,fy3,y4,fy4,y5,fy5,y6,fy6,y7,fy7,y8,fy8,y9,fy9,y10,fy10,y11,fy11,y12,fy12⟩:=a13X HY.out
 obtain⟨x0,g0,x1,g1,x2,g2,x3,g3,x4,g4,x5,g5,x6,g6,x7,g7,x8,g8,x9,g9,x10,g10,x11,g11,x12,g12⟩:=a13X HX.out
 go_wp2_with fail
 clear x0 g0 x1 g1 x2 g2 x3 g3 x4 g4 x5 g5 x6 g6 x7 g7 x8 g8 x9 g9 x10 g10 x11 g11 x12 g12
 clear y0 fy0 y1 fy1 y2 fy2 y3 fy3 y4 fy4 y5 fy5 y6 fy6 y7 fy7 y8 fy8 y9 fy9 y10 fy10 y11 fy11 y12 fy12
 have HX:=zH (HX.out.other hne (k:=10) (.int .i64 2147483648))
 have HB:=zH (HB.out.setCell (p:=⟨C,10,none⟩) (Nat.le_of_lt hC) (.int .i64 2147483648))
 have HP:=zH (set13X HX.out rfl (.bool b0) (.bool b1) (.bool b2) (.bool b3) (.bool b4) (.bool b5) (.bool b6) (.bool b7) (.int .i64 k0) (.int .i64 k1) (.int .i64 (2147483648)) (.int .i64 k3) (.int .i64 k4))
 have HQ:=zH (set13B HB.out (.bool b0) (.bool b1) (.bool b2) (.bool b3) (.bool b4) (.bool b5) (.bool b6) (.bool b7) (.int .i64 k0) (.int .i64 k1) (.int .i64 (2147483648)) (.int .i64 k3) (.int .i64 k4))
 generalize World.setCell _ ⟨_,12,none⟩ _=W9 at *
 obtain⟨p0,p1,p2,p3,p4,p5,p6,p7,p8,p9,p10,p11,p12⟩:=b13X HP.out
 refine bodyPost_ret (v:=.tuple #[.agg #[.bool b0,.bool b1,.bool b2,.bool b3,.bool b4,.bool b5,.bool b6,.bool b7,.int .i64 k0,.int .i64 k1,.int .i64 (2147483648),.int .i64 k3,.int .i64 k4],.bool true]) (by simp [results,Tryz.results66,go_sem,p0,p1,p2,p3,p4,p5,p6,p7,p8,p9,p10,p11,p12]) rfl ⟨by rw [HV.out],HQ.out⟩
theorem r11parse_any (s:ByteArray) (w:World) (hs:s.size≤90000) :
  Calls Tryz.prog 66 #[.string s] w fun e w'=>e=.returned (modA (modL s.data.toList))∧Below w.heap.size w w':=by
 cases h:modL s.data.toList with
 | none=>rw [← h];exact r11parse_no s w hs h
 | some es =>
  rw [← h]
  cases hy:yesR es nStale
  ·exact r11parse_0 s es w hs h hy
  ·exact r11parse_1 s es w hs h hy
end Go.Proofs.YtfaedmbfabfmeaaGreatDoor
