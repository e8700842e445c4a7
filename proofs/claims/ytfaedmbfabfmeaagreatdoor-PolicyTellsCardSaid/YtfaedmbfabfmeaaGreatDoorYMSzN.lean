/- The contract of the document's Size of members (sculleryref04). · Plain: what is read of members and entries may be printed; how long that is. · The contract of the law's own (scullerylaw04): a member for the document. · The contract of the document's member (sculleryref04): the member with which a text begins. · The contract of the law's entries (scullerylaw04): a dictionary for the document, while it is small. · The contract of the document's member (sculleryref04) behind a bracket, and of all texts. · The contracts of the document's blanks and entry (sculleryref04). · What the walk of the document's parse (sculleryref04) needs: entries put in place, the rest of a text. · The contract of the document's parse (sculleryref04). · The contract of the document's parse (sculleryref04) with keys, and of List and Dict. · The contracts of the document's Dict and List (sculleryref04). -/
import Derived.Test.YtfaedmbfabfmeaaGreatDoorYMMemZ
import Derived.Test.YtfaedmbfabfmeaaGreatDoorYMItmC
import Derived.Test.YtfaedmbfabfmeaaGreatDoorYMMemC
import Derived.Test.YtfaedmbfabfmeaaGreatDoorYMItmUa
import Derived.Test.YtfaedmbfabfmeaaGreatDoorYMBarG
import Derived.Deep.DeepCutAuto
import Derived.Deep.RegionHeld3
import Derived.Deep.RegionWith
import Derived.BigQuiet
set_option linter.unusedSimpArgs false
set_option maxRecDepth 100000
set_option maxHeartbeats 8000000
namespace Go.Proofs.YtfaedmbfabfmeaaGreatDoor
open Go.RowKit Go.Maps
def Box1 (w:World) (o:Obj) (W:World):Prop:=Below (w.heap.size+1) (w.alloc o) W
theorem Box1.next {w W W1:World} {o:Obj} (h:Box1 w o W) (hb:Below W.heap.size W W1):Box1 w o W1:=
 Below.trans h (hb.mono (by have:=Below.size h;simp at this;omega))
theorem Box1.later {w W:World} {o:Obj} (h:Box1 w o W):Below w.heap.size w W:=
 ((Below.refl w.heap.size w).alloc (zR _) o).trans (Below.mono h (by omega))
end Go.Proofs.YtfaedmbfabfmeaaGreatDoor
namespace Go.Proofs.YtfaedmbfabfmeaaGreatDoor
theorem jn_all {α:Type} {f:α→Option (List UInt8)} {sep:List UInt8}:∀(xs:List α) (b:Bool),(∀x∈xs,∃t,f x=some t)→∃a,jnGo f sep b xs=some a
 | [],_,_=>⟨[],rfl⟩
 | x :: xs,b,h=>by
  obtain⟨t,ht⟩:=h x (by simp)
  obtain⟨a,ha⟩:=jn_all (f:=f) (sep:=sep) xs false (fun y hy=>h y (by simp [hy]))
  exact⟨_,by rw [jnGo_some f sep b x xs t ht,ha]<;>rfl⟩
theorem ps_right (l:List UInt8) (ps:List Prm) (k:Nat) (h:psL l [] 0=some (ps,k)):∃u,ppT ps=some u:=by
 obtain⟨h1,h2,_⟩:=psL_right l.length l.length l [] 0 ps k (zR _) (zR _) (by simp) (fun p hp=>by cases hp) h
 obtain⟨u,hu⟩:=ppGo_right l.length ps h2
 refine⟨u,?_⟩
 unfold ppT
 rw [if_neg (by simpa [eqK] using h1)]
 exact hu
theorem itm_right (l:List UInt8) (g:Got) (ps:List Prm) (m:Nat) (h:itmL l=some (g,ps,m)):1≤m∧∃u,itT ⟨g.k,g.n,g.s,ps⟩=some u:=by
 unfold itmL at h
 cases hr:readL l with
 | none=>rw [hr]at h;cases h
 | some q =>
  rw [hr]at h
  dsimp only at h
  obtain⟨r1,r2,_⟩:=readL_right l q hr
  cases hp:psL (l.drop q.m) [] 0 with
  | none=>rw [hp]at h;cases h
  | some y =>
   obtain⟨ps',k⟩:=y
   rw [hp]at h
   obtain⟨u,hu⟩:=ps_right _ _ _ hp
   dsimp only at h
   obtain⟨rfl,h2⟩:=Prod.mk.inj (Option.some.inj h)
   obtain⟨rfl,rfl⟩:=Prod.mk.inj h2
   refine⟨by omega,textL q.k q.n q.s++u,?_⟩
   unfold itT prT
   dsimp only
   rw [if_pos r1,hu]
   rfl
theorem itmsz_app:∀(xs ys:List Itm),itmsz (xs++ys)=itmsz xs+itmsz ys
 | [],ys=>by simp [itmsz]
 | x :: xs,ys=>by rw [List.cons_append,itmsz,itmsz,itmsz_app xs ys];omega
theorem itsF_right:∀(f:Nat) (l:List UInt8) (acc xs:List Itm) (r:List UInt8),(∀x∈acc,∃u,itT x=some u)→itsF f l acc=some (xs,r)→(∀x∈xs,∃u,itT x=some u)∧itmsz xs+2*r.length≤itmsz acc+2*l.length
 | 0,l,acc,xs,r,_,h=>by cases h
 | f+1,l,acc,xs,r,ha,h=>by
  by_cases h41:l.head? = some 41
  ·rw [itsF_end f l acc h41]at h
   obtain⟨rfl,rfl⟩:=Prod.mk.inj (Option.some.inj h)
   exact⟨ha,by rw [List.length_drop];omega⟩
  ·cases hi:itmL l with
   | none=>rw [itsF_none f l acc h41 hi]at h;cases h
   | some x =>
    obtain⟨g,ps,m⟩:=x
    cases he:endI (l.drop m)with
    | false=>rw [itsF_bad f l acc g ps m h41 hi he]at h;cases h
    | true =>
     rw [itsF_some f l acc g ps m h41 hi he]at h
     obtain⟨i1,i2⟩:=itm_right l g ps m hi
     have i3:=itmL_used l g ps m hi
     have i4:=itmL_le l g ps m hi
     have i5:=spD_le (l.drop m)
     rw [List.length_drop]at i5
     obtain⟨q1,q2⟩:=itsF_right f _ _ _ _ (by
      intro y hy
      rcases List.mem_append.1 hy with hy | hy
      ·exact ha y hy
      ·obtain rfl:=List.mem_singleton.1 hy
       exact i2) h
     refine⟨q1,?_⟩
     have e:itmsz [(⟨g.k,g.n,g.s,ps⟩:Itm)]=szN ps+g.s.length+1:=by simp [itmsz]
     rw [itmsz_app,e]at q2
     omega
theorem inn_right (l:List UInt8) (M:Mem) (r:List UInt8) (h:innL l=some (M,r)):(∃t,memT M=some t)∧memsz M+2*r.length≤2*l.length+2:=by
 unfold innL itsL at h
 cases hi:itsF (l.length+1) (spD l) []with
 | none=>rw [hi]at h;cases h
 | some x =>
  obtain⟨xs,q⟩:=x
  rw [hi]at h
  dsimp only at h
  obtain⟨q1,q2⟩:=itsF_right _ _ _ _ _ (fun x hx=>by cases hx) hi
  have q3:=spD_le l
  cases hp:psL q [] 0 with
  | none=>rw [hp]at h;cases h
  | some y =>
   obtain⟨ps,m⟩:=y
   rw [hp]at h
   obtain⟨u,hu⟩:=ps_right _ _ _ hp
   have p1:=psL_used _ _ _ _ _ _ (zR _) hp
   have p2:=psL_le _ _ _ _ _ _ (zR _) hp
   have e0:szN []=0:=rfl
   have e1:itmsz []=0:=rfl
   obtain⟨rfl,rfl⟩:=Prod.mk.inj (Option.some.inj h)
   refine⟨?_,?_⟩
   ·obtain⟨a,ha⟩:=jn_all (f:=itT) (sep:=[32]) xs true q1
    refine⟨40 :: (a++41 :: u),?_⟩
    unfold memT
    rw [if_neg (by simp [kindL,sameI,noItm,(samePs_iff [] []).2 rfl]),if_neg (by simp),ha]
    dsimp only
    rw [hu]
   ·have:memsz ⟨true,noItm,xs,ps⟩=szN ps+szN []+0+1+itmsz xs:=rfl
    rw [this,List.length_drop]
    omega
theorem mem_right (l:List UInt8) (M:Mem) (r:List UInt8) (h:memL l=some (M,r)):(∃t,memT M=some t)∧memsz M+2*r.length≤2*l.length:=by
 unfold memL at h
 split at h
 ·rename_i h40
  obtain⟨q1,q2⟩:=inn_right _ _ _ h
  refine⟨q1,?_⟩
  cases l with
  | nil=>cases h40
  | cons c l =>
   rw [List.drop_one,List.tail_cons]at q2
   rw [List.length_cons]
   omega
 ·cases hi:itmL l with
  | none=>rw [hi]at h;cases h
  | some x =>
   obtain⟨g,ps,m⟩:=x
   rw [hi]at h
   obtain⟨i1,u,i2⟩:=itm_right l g ps m hi
   have i3:=itmL_used l g ps m hi
   have i4:=itmL_le l g ps m hi
   obtain⟨rfl,rfl⟩:=Prod.mk.inj (Option.some.inj h)
   refine⟨⟨u,?_⟩,?_⟩
   ·unfold memT
    rw [if_neg (by simp [kindL]),if_pos rfl]
    exact i2
   ·have:memsz ⟨false,⟨g.k,g.n,g.s,ps⟩,[],[]⟩=szN []+szN ps+g.s.length+1+0:=rfl
    have e0:szN []=0:=rfl
    rw [this,List.length_drop]
    omega
def entsz (E:Ent):Nat:=E.key.length+memsz E.val
theorem ent_right (l:List UInt8) (E:Ent) (r:List UInt8) (h:entL l=some (E,r)):(∃t,enT E=some t)∧entsz E+2*r.length≤2*l.length:=by
 unfold entL at h
 split at h
 ·cases h
 ·rename_i hk0
  have hkl:=klen_le l
  have hkey:keyL (l.take (klen l))=true:=keyL_take l hk0
  have key:∀(M:Mem) (r:List UInt8),(∃t,memT M=some t)→memsz M+2*r.length≤2*(l.drop (klen l)).length+1→(∃t,enT ⟨l.take (klen l),M⟩=some t)∧entsz ⟨l.take (klen l),M⟩+2*r.length≤2*l.length:=by
   intro M r hM hs
   obtain⟨t,ht⟩:=hM
   refine⟨?_,?_⟩
   ·unfold enT
    dsimp only
    rw [ht]
    dsimp only
    rw [hkey,if_neg (by decide)]
    split
    ·exact⟨_,rfl⟩
    ·exact⟨_,rfl⟩
   ·unfold entsz
    dsimp only
    rw [List.length_take]
    rw [List.length_drop]at hs
    omega
  cases hv:valM (l.drop (klen l))with
  | none=>rw [hv]at h;cases h
  | some x =>
   obtain⟨M,q⟩:=x
   rw [hv]at h
   dsimp only at h
   obtain⟨rfl,rfl⟩:=Prod.mk.inj (Option.some.inj h)
   unfold valM at hv
   split at hv
   ·obtain⟨q1,q2⟩:=mem_right _ _ _ hv
    refine key _ _ q1 ?_
    rw [List.length_drop]at q2
    omega
   ·cases hp:psL (l.drop (klen l)) [] 0 with
    | none=>rw [hp]at hv;cases hv
    | some y =>
     obtain⟨ps,m⟩:=y
     rw [hp]at hv
     have p1:=psL_used _ _ _ _ _ _ (zR _) hp
     have p2:=psL_le _ _ _ _ _ _ (zR _) hp
     obtain⟨u,hu⟩:=ps_right _ _ _ hp
     have e0:szN []=0:=rfl
     obtain⟨rfl,rfl⟩:=Prod.mk.inj (Option.some.inj hv)
     refine key _ _ ⟨textL 6 1 []++u,?_⟩ ?_
     ·unfold memT
      rw [if_neg (by simp [kindL]),if_pos rfl]
      unfold itT prT
      dsimp only
      rw [if_pos (by kernel_rfl),hu]
      rfl
     ·have:memsz ⟨false,⟨6,1,[],ps⟩,[],[]⟩=szN []+szN ps+0+1+0:=rfl
      rw [this,List.length_drop]
      omega
def entSum:List Ent→Nat
 | []=>0
 | E :: Es=>entsz E+entSum Es
theorem entSum_app:∀(xs ys:List Ent),entSum (xs++ys)=entSum xs+entSum ys
 | [],ys=>by simp [entSum]
 | x :: xs,ys=>by rw [List.cons_append,entSum,entSum,entSum_app xs ys];omega
theorem entSum_set:∀(xs:List Ent) (i:Nat) (E:Ent),entSum (xs.set i E)≤entSum xs+entsz E
 | [],_,_=>by simp [entSum]
 | x :: xs,0,E=>by simp only [List.set_cons_zero,entSum];omega
 | x :: xs,i+1,E=>by
  have:=entSum_set xs i E
  simp only [List.set_cons_succ,entSum]
  omega
theorem sepE_sum:∀(f:Nat) (l:List UInt8) (acc xs:List Ent),sepF entL f l acc=some xs→entSum xs≤entSum acc+2*l.length
 | 0,l,acc,xs,h=>by cases h
 | f+1,l,acc,xs,h=>by
  cases hr:entL l with
  | none=>rw [sepF_none entL f l acc hr]at h;cases h
  | some x =>
   obtain⟨E,r⟩:=x
   have hE:=(ent_right l E r hr).2
   have e:entSum [E]=entsz E:=by simp [entSum]
   by_cases hb:blD r=[]
   ·rw [sepF_end entL f l r acc E hr hb]at h
    obtain rfl:=Option.some.inj h
    rw [entSum_app,e]
    omega
   ·by_cases hc:(blD r).head? = some 44
    ·rw [sepF_more entL f l r acc E hr hb hc]at h
     have h1:=blD_le r
     have h2:=blD_le ((blD r).drop 1)
     rw [List.length_drop]at h2
     have:=sepE_sum f _ _ _ h
     rw [entSum_app,e]at this
     omega
    ·rw [sepF_bad entL f l r acc E hr hb hc]at h;cases h
theorem putE_sum (acc:List Ent) (E:Ent):entSum (putE acc E)≤entSum acc+entsz E:=by
 unfold putE
 split
 ·exact entSum_set _ _ _
 ·rw [entSum_app];simp [entSum]
theorem foldE_sum:∀(es acc:List Ent),entSum (es.foldl putE acc)≤entSum acc+entSum es
 | [],acc=>by simp [entSum]
 | e :: es,acc=>by
  have h1:=putE_sum acc e
  have h2:=foldE_sum es (putE acc e)
  rw [List.foldl_cons,entSum]
  omega
theorem putE_mem (acc:List Ent) (e x:Ent) (h:x∈putE acc e):x=e∨x∈acc:=by
 unfold putE at h
 split at h
 ·exact(List.mem_or_eq_of_mem_set h).symm
 ·rcases List.mem_append.1 h with h | h
  ·exact .inr h
  ·exact .inl (List.mem_singleton.1 h)
theorem foldE_mem:∀(es acc:List Ent) (x:Ent),x∈es.foldl putE acc→x∈es∨x∈acc
 | [],acc,x,h=>.inr h
 | e :: es,acc,x,h=>by
  rcases foldE_mem es _ x h with h | h
  ·exact .inl (by simp [h])
  ·rcases putE_mem acc e x h with h | h
   ·exact .inl (by simp [h])
   ·exact .inr h
theorem putE_nodup (acc:List Ent) (e:Ent) (h:(acc.map Ent.key).Nodup):((putE acc e).map Ent.key).Nodup:=by
 by_cases hlt:idxL (acc.map Ent.key) e.key<acc.length
 ·unfold putE
  rw [if_pos hlt,ekeys_set acc e _ rfl hlt]
  exact h
 ·have hn:e.key∉acc.map Ent.key:=fun hm=>hlt (by have:=(idxL_lt _ _).2 hm;rwa [List.length_map]at this)
  rw [putE_new acc e hn,List.map_append,List.nodup_append]
  refine⟨h,by simp,?_⟩
  intro a ha b hb hab
  obtain rfl:b=e.key:=by simpa using hb
  exact hn (hab▸ha)
theorem foldE_nodup:∀(es acc:List Ent),(acc.map Ent.key).Nodup→((es.foldl putE acc).map Ent.key).Nodup
 | [],_,h=>h
 | e :: es,acc,h=>foldE_nodup es _ (putE_nodup acc e h)
theorem dict_right (l:List UInt8) (es:List Ent) (h:dicL l=some es):(∃t,dcT es=some t)∧entSum es≤2*l.length:=by
 unfold dicL at h
 cases hs:sepL entL l with
 | none=>rw [hs]at h;cases h
 | some xs =>
  rw [hs]at h
  obtain rfl:=Option.some.inj h
  have hsum:entSum xs≤2*l.length:=by
   unfold sepL at hs
   split at hs
   ·obtain rfl:=Option.some.inj hs
    simp [entSum]
   ·have h1:=sepE_sum _ _ _ _ hs
    have h2:=spD_le l
    have e:entSum []=0:=rfl
    omega
  have hall:∀x∈xs,∃t,enT x=some t:=by
   unfold sepL at hs
   split at hs
   ·obtain rfl:=Option.some.inj hs
    intro x hx
    cases hx
   ·exact sepF_all (P:=fun E=>∃t,enT E=some t) (N:=l.length) (fun l M r _ hr=>⟨(ent_right l M r hr).1,entL_le _ _ _ hr⟩) _ _ _ _ (spD_le l) (by simp) hs
  refine⟨?_,?_⟩
  ·obtain⟨a,ha⟩:=jn_all (f:=enT) (sep:=[44,32]) (oeK xs) true (fun x hx=>by
    rcases foldE_mem xs [] x hx with h | h
    ·exact hall x h
    ·cases h)
   refine⟨a,?_⟩
   unfold dcT
   rw [if_neg (by
    have:=foldE_nodup xs [] (by simp)
    unfold eqKE oeK
    rw [decide_eq_true this]
    decide)]
   exact ha
  ·have:=foldE_sum xs []
   have e:entSum []=0:=rfl
   unfold oeK
   omega
end Go.Proofs.YtfaedmbfabfmeaaGreatDoor
namespace Go.Proofs.YtfaedmbfabfmeaaGreatDoor
open Go.RowKit Go.Maps
abbrev rmemO (b:Bool) (k n:Int) (s:ByteArray) (u vi vp:Value):Obj:=.cells #[.bool b,.int .i64 k,.int .i64 n,.string s,u,vi,vp] 226
abbrev zeroR:Obj:=rmemO false 0 0 ⟨#[]⟩ (.slice none 0 0) (.slice none 0 0) (.slice none 0 0)
theorem ResM.madeR (w:World):ResM (w.alloc zeroR) w.heap.size:=⟨by simp,by simp,by simp,by simp,by simp,by simp,by simp,by simp,by simp,by simp,by simp,by simp,by simp,by simp⟩
theorem BoxC.madeR (w:World) (b:Bool) (k n:Int) (s:ByteArray) (u vi vp:Value):BoxC w ((w.alloc (memO b k n s u vi vp)).alloc zeroR) [.bool b,.int .i64 k,.int .i64 n,.string s,u,vi,vp]:=by
 refine⟨fun i v hi=>?_,fun i=>by simp,?_,((Below.refl _ _).alloc (zR _) _).alloc (by simp) _⟩
 ·have hl:i<7:=(List.getElem?_eq_some_iff.1 hi).1
  match i,hl with
  | 0,_ | 1,_ | 2,_ | 3,_ | 4,_ | 5,_ | 6,_ =>
   obtain rfl:=Option.some.inj hi
   simp
 ·have:=ResM.madeR (w.alloc (memO b k n s u vi vp))
  simpa using this
theorem PrmsOff.over {lo:Nat} {X:World} {v:Value} {ps:List Prm} (h:PrmsOff lo none X v ps) (o:Obj):PrmsOff lo (some X.heap.size) (X.alloc o) v ps:=
 (h.elsewhere X.heap.size (.inr (zR _))).below ((Below.refl _ _).alloc (zR _) o)
theorem info_ritem:(Tryz.prog.info? 223).map (fun i=>(i.zero,i.size,i.bytes))=some (some (.agg #[.int .i64 0,.int .i64 0,.string ⟨#[]⟩,.slice none 0 0]),4,56):=by kernel_rfl
def Cel (W:World) (b:Nat) (cs:List Value):Prop:=∀(i:Nat) (v:Value),cs[i]? = some v→W.cell? ⟨b,i,none⟩=some v
theorem Cel.put {W:World} {b:Nat} {cs:List Value} (h:Cel W b cs) (i:Nat) (hi:i<cs.length) (v:Value):Cel (W.setCell ⟨b,i,none⟩ v) b (cs.set i v):=by
 intro j u hj
 by_cases hij:i=j
 ·subst hij
  rw [List.getElem?_set_self hi]at hj
  obtain rfl:=Option.some.inj hj
  exact World.cell?_setCell_same W _ _ (h i cs[i] (List.getElem?_eq_getElem hi))
 ·rw [List.getElem?_set_ne hij]at hj
  exact(World.cell?_setCell_other W ⟨b,i,none⟩ ⟨b,j,none⟩ _ (by simp)).trans (h j u hj)
structure OutSt (w W:World) (cs:List Value) (ob:Nat) (os:List Value) (u1 u3:Value) (p1 p3:List Prm):Prop where
 lo:w.heap.size+2≤ob
 lt:ob<W.heap.size
 box:BoxC w W cs
 c:Cel W ob os
 f:W.frozen? ⟨ob,5,none⟩=false
 a1:PrmsOff (w.heap.size+2) (some ob) W u1 p1
 a3:PrmsOff (w.heap.size+2) (some ob) W u3 p3
theorem OutSt.last {w W:World} {cs:List Value} {u1 u3:Value} {p1 p3:List Prm} {b:Bool} {k n:Int} {s:ByteArray} (hB:BoxC w W cs) (h1:PrmsOff (w.heap.size+2) none W u1 p1) (h3:PrmsOff (w.heap.size+2) none W u3 p3) :
  OutSt w (W.alloc (rmemO b k n s u1 (.slice none 0 0) u3)) cs W.heap.size [.bool b,.int .i64 k,.int .i64 n,.string s,u1,.slice none 0 0,u3] u1 u3 p1 p3:=by
 refine⟨hB.res.lt,by simp,hB.next ((Below.refl _ _).alloc (zR _) _),fun i v hi=>?_,by simp,h1.over _,h3.over _⟩
 have hl:i<7:=(List.getElem?_eq_some_iff.1 hi).1
 match i,hl with
 | 0,_ | 1,_ | 2,_ | 3,_ | 4,_ | 5,_ | 6,_ =>
  obtain rfl:=Option.some.inj hi
  simp
theorem BoxC.st {w W:World} {cs:List Value} (h:BoxC w W cs) {ob:Nat} (hlo:w.heap.size+2≤ob) (a b c d e f g:Value) :
  BoxC w (((((((W.setCell ⟨ob,0,none⟩ a).setCell ⟨ob,1,none⟩ b).setCell ⟨ob,2,none⟩ c).setCell ⟨ob,3,none⟩ d).setCell ⟨ob,4,none⟩ e).setCell ⟨ob,5,none⟩ f).setCell ⟨ob,6,none⟩ g) cs:=
 ((((((h.far ob _ hlo _).far ob _ hlo _).far ob _ hlo _).far ob _ hlo _).far ob _ hlo _).far ob _ hlo _).far ob _ hlo _
theorem BoxC.mv {w W W1:World} {cs:List Value} {c:Nat} (h:BoxC w W cs) (hm:Moved c W W1) (hc:w.heap.size+2≤c):BoxC w W1 cs:=by
 have hl:=h.res.lt
 refine⟨fun i v hi=>(hm.cell (p:=⟨w.heap.size,i,none⟩) (by show w.heap.size<_;omega) (by show w.heap.size≠_;omega)).trans (h.c i v hi),fun i=>(hm.frozen (p:=⟨w.heap.size,i,none⟩) (by show w.heap.size<_;omega) (by show w.heap.size≠_;omega)).trans (h.f i),h.res.far hm (by omega),h.low.trans (hm.below (by omega) h.low.size)⟩
theorem OwnI.mv {T:TypeId} {w w':World} {base c:Nat} {v:Value} {xs:List Itm} (h:OwnI T w base v xs) (hm:Moved c w w') (hc:c<base):OwnI T w' base v xs:=by
 obtain⟨us,h1,h2,h3⟩:=h
 exact⟨us,h1,ownsRow_moved h2 hm hc,fun j u x hu hx=>(h3 j u x hu hx).moved hm hc⟩
theorem kept_cell3 {wr w3 w5:World} {o:Obj} {base j size c i:Nat} {e:TypeId} {v u:Value} {xs:List Value} (HO:wr.ownsRow base e size v j xs) (hb:Below wr.heap.size wr w3) (hg:(w3.alloc o).grownBy w5 v.ownBlock) (hc:c<base) (h:wr.cell? ⟨c,i,none⟩=some u):w5.cell? ⟨c,i,none⟩=some u:=by
 have hba:=hb.trans (((Below.refl w3.heap.size w3).alloc (zR _) o).mono hb.size)
 have h2:=(hba.cell (p:=⟨c,i,none⟩) (lt_of_cell h)).trans h
 exact(grown_cell hg (lt_of_cell h2) (own_ne HO hc) i).trans h2
theorem kept_frozen3 {wr w3 w5:World} {o:Obj} {base j size c i:Nat} {e:TypeId} {v:Value} {xs:List Value} (HO:wr.ownsRow base e size v j xs) (hb:Below wr.heap.size wr w3) (hg:(w3.alloc o).grownBy w5 v.ownBlock) (hc:c<base) (hl:c<wr.heap.size) (h:wr.frozen? ⟨c,i,none⟩=false):w5.frozen? ⟨c,i,none⟩=false:=by
 have hba:=hb.trans (((Below.refl w3.heap.size w3).alloc (zR _) o).mono hb.size)
 have h2:=(hba.frozen (p:=⟨c,i,none⟩) hl).trans h
 exact(hg.frozen_far ⟨c,i,none⟩ (Nat.lt_of_lt_of_le hl hba.size) (own_ne HO hc)).trans h2
theorem own_round {wx wr w3 w5:World} {ob g cap n:Nat} {o:Obj} {os:List Value} {v u':Value} {xs:List Itm} {x:Itm} {us:List Value} {T:TypeId} (hn:xs.length=n) (hm:Moved ob wx wr) (hob:ob<wx.heap.size) (hc:Cel wr ob os) (hl:5<os.length) (hf:wr.frozen? ⟨ob,5,none⟩=false)
  (h1:us.length=n) (h2:wr.ownsRow wx.heap.size T 4 v n (rowI (xs.zip us))) (h3:∀(j:Nat) (u:Value) (x:Itm),us[j]? = some u→xs[j]? = some x→PrmsOff wx.heap.size v.ownBlock wr u x.ps)
  (hb:Below wr.heap.size wr w3) (hu:PrmsOff wr.heap.size none w3 u' x.ps)
  (hown:w5.ownsRow wx.heap.size T 4 (.slice (some ⟨g,0,none⟩) (n+1) cap) (n+1) (rowI (xs.zip us)++cellsI x u')) (hg:(w3.alloc o).grownBy w5 v.ownBlock) (hat:v.ownBlock=some g∨g=(w3.alloc o).heap.size) :
  Moved ob wx (w5.setCell ⟨ob,5,none⟩ (.slice (some ⟨g,0,none⟩) (n+1) cap))∧Cel (w5.setCell ⟨ob,5,none⟩ (.slice (some ⟨g,0,none⟩) (n+1) cap)) ob (os.set 5 (.slice (some ⟨g,0,none⟩) (n+1) cap))∧(w5.setCell ⟨ob,5,none⟩ (.slice (some ⟨g,0,none⟩) (n+1) cap)).frozen? ⟨ob,5,none⟩=false ∧
  OwnI T (w5.setCell ⟨ob,5,none⟩ (.slice (some ⟨g,0,none⟩) (n+1) cap)) wx.heap.size (.slice (some ⟨g,0,none⟩) (n+1) cap) (xs++[x]):=by
 subst hn
 have hba:Below wr.heap.size wr (w3.alloc o):=hb.trans (((Below.refl w3.heap.size w3).alloc (zR _) o).mono hb.size)
 have hobr:ob<wr.heap.size:=Nat.lt_of_lt_of_le hob hm.size
 have hm5:Moved ob wx w5:=(hm.low hba).grown hg (fun k hk=>(World.ownsRow.lt h2 k hk).1)
 have hc5:Cel w5 ob os:=fun i u hi=>kept_cell3 h2 hb hg hob (hc i u hi)
 have hf5:w5.frozen? ⟨ob,5,none⟩=false:=kept_frozen3 h2 hb hg hob hobr hf
 have ha:Below w3.heap.size w3 (w3.alloc o):=(Below.refl _ _).alloc (zR _) o
 have hO:=OwnI.snoc (w:=w3.alloc o) h1 (fun j u y hu hy=>(h3 j u y hu hy).below hba) (((hu.avoid (blk':=v.ownBlock) (fun k hk=>(World.ownsRow.lt h2 k hk).2)).low hm.size).below ha) hown hg hat
 exact⟨hm5.setCell _,hc5.put 5 hl _,by rw [World.frozen?_setCell];exact hf5,hO.mv ((Moved.refl ob w5).setCell _) hob⟩
def rmemPost (o:Option (Mem×List UInt8)) (z:Nat) (w:World) (e:Ending) (w':World):Prop:=
 Below w.heap.size w w'∧match o with
  | none=>e=.returned (.tuple #[noMem,.int .i64 0,.int .i64 2])
  | some (M,r)=>∃v,e=.returned (.tuple #[v,.int .i64 ((z-r.length:Nat):Int),.int .i64 0])∧MemAt w.heap.size none w' M v
theorem spD_drop (l:List UInt8):spD l=l.drop (spcL l):=by
 unfold spD spcL
 induction l with
 | nil=>rfl
 | cons c l ih =>
  rw [List.dropWhile_cons,List.takeWhile_cons]
  cases h:c==32
  ·rfl
  ·simpa using ih
theorem rmem_out (s:ByteArray) (w:World) (hs:s.size≤100000) (h40:s.data.toList.head?≠some 40) :
  Calls Tryz.prog 209 #[.string s] w (rmemPost (memL s.data.toList) s.size w):=by
 have cR:=fun W=>rread_any s W hs
 have hb0:Below w.heap.size w (w.alloc zeroR):=(Below.refl _ _).alloc (zR _) _
 have HR0:=zH (ResM.madeR w)
 have hsz:=Lib.size_eq s
 have hcase:(s.size=0∧s.toList.isEmpty=true∧(s.toList==[])=true∧s.toList=[])∨(s.toList.isEmpty=false∧(s.toList==[])=false∧¬s.toList=[]∧∃h:0<s.size,(((s[0]'h).toNat:Int)==40)=false):=by
  by_cases h0:s.size=0
  ·have:s.toList=[]:=by rw [Lib.toList_data];exact List.eq_nil_of_length_eq_zero (by omega)
   exact .inl ⟨h0,by rw [this]<;>rfl,by rw [this]<;>rfl,this⟩
  ·have hp:0<s.size:=by omega
   have hne:¬s.toList=[]:=by rw [Lib.toList_data];intro e;rw [e,List.length_nil]at hsz;omega
   refine .inr ⟨by simpa using hne,by simpa using hne,hne,hp,?_⟩
   have hh:=head_is s 0 hp 40
   rw [List.drop_zero]at hh
   simpa using fun e=>h40 (hh.2 e)
 have hL:memL s.data.toList=(match itmL s.data.toList with
  | none=>none
  | some (g,ps,m)=>some (⟨false,⟨g.k,g.n,g.s,ps⟩,[],[]⟩,s.data.toList.drop m)):=by rw [memL,if_neg h40]<;>rfl
 clear h40
 cases hit:itmL s.data.toList with
 | none =>
  have HL:Hid (memL s.data.toList=none):=zH (by rw [hL,hit])
  rw [hit]at cR
  clear hit hL hsz
  rcases hcase with ⟨q1,q2,q3,q4⟩ | ⟨q1,q2,q3,q4,q5⟩
  all_goals
   go_enter Tryz.func209,Tryz.ntmps209
   go_wp2_with fail
   refine(cR _).mono ?_
   rintro e w1 ⟨hb1,rfl⟩
   have hR1:=HR0.out.next (by simpa using hb1)
   have hB1:=hb0.trans (hb1.mono hb0.size)
   have hlt:=hR1.lt
   obtain⟨r0,r1,r2,r3,r4,r5,r6,g0,g1,g2,g3,g4,g5,g6⟩:=hR1
   clear hb1 cR
   go_wp2_with fail
   refine bodyPost_ret (v:=.tuple #[noMem,.int .i64 0,.int .i64 2]) (by simp [results,Tryz.results209,go_sem,r0,r1,r2,r3,r4,r5,r6,hlt]) rfl ?_
   rw [HL.out]
   refine⟨?_,rfl⟩
   repeat(first | with_reducible refine Below.alloc ?_ (by simp;omega) _ | with_reducible refine Below.setCell ?_ (by simp) _)
   exact hB1
 | some x =>
  obtain⟨g,ps,m⟩:=x
  have hm:=itmL_le _ _ _ _ hit
  have HL:Hid (memL s.data.toList=some (⟨false,⟨g.k,g.n,g.s,ps⟩,[],[]⟩,s.data.toList.drop m)):=zH (by rw [hL,hit])
  have HM:Hid (s.size-(s.data.toList.drop m).length=m):=zH (by rw [List.length_drop];omega)
  rw [hit]at cR
  clear hit hL hsz
  obtain⟨gk,gn,gs,gm⟩:=g
  dsimp only at cR HL
  rcases hcase with ⟨q1,q2,q3,q4⟩ | ⟨q1,q2,q3,q4,q5⟩
  all_goals
   go_enter Tryz.func209,Tryz.ntmps209
   go_wp2_with fail
   refine(cR _).mono ?_
   rintro e w1 ⟨hb1,v1,rfl,ho⟩
   have hR1:=HR0.out.next (by simpa using hb1)
   have hB1:=hb0.trans (hb1.mono hb0.size)
   have hlt:=hR1.lt
   obtain⟨r0,r1,r2,r3,r4,r5,r6,g0,g1,g2,g3,g4,g5,g6⟩:=hR1
   obtain⟨ao,cap,rfl⟩:=owns_form ho
   have HU:Hid (PrmsOff (w.heap.size+1) none w1 (.slice ao ps.length cap) ps):=zH (PrmsOff.made ho (by simp) (fun g e=>by cases e))
   clear hb1 cR ho
   go_wp2_with fail
   refine bodyPost_ret (v:=.tuple #[aggM false gk gn (strB gs) (.slice ao ps.length cap) (.slice none 0 0) (.slice none 0 0),.int .i64 (m:Int),.int .i64 0]) (by simp [results,Tryz.results209,go_sem,r0,r1,r2,r3,r4,r5,r6,hlt]) rfl ?_
   rw [HL.out]
   refine⟨?_,_,by rw [HM.out],.slice ao ps.length cap,.slice none 0 0,.slice none 0 0,rfl,(HU.out.moved (c:=w.heap.size) ?_ (Nat.lt_succ_self _)).low (Nat.le_succ _),⟨none,0,rfl,.inl rfl⟩,⟨none,0,rfl,.inl rfl⟩⟩
   ·repeat(first | with_reducible refine Below.alloc ?_ (by simp;omega) _ | with_reducible refine Below.setCell ?_ (by simp) _)
    exact hB1
   ·repeat(first | with_reducible refine Moved.drew1 ?_ | with_reducible refine Moved.alloc ?_ _ | with_reducible refine Moved.setCell ?_ _)
    exact Moved.refl _ _
theorem info_rent:(Tryz.prog.info? 228).map (fun i=>(i.zero,i.size,i.bytes))=some (some (.agg #[.string ⟨#[]⟩,.bool false,.int .i64 0,.int .i64 0,.string ⟨#[]⟩,.slice none 0 0,.slice none 0 0,.slice none 0 0]),8,128):=by kernel_rfl
abbrev rentO (K:ByteArray) (b:Bool) (k n:Int) (s:ByteArray) (u vi vp:Value):Obj:=.cells #[.string K,.bool b,.int .i64 k,.int .i64 n,.string s,u,vi,vp] 228
abbrev Cells7 (W:World) (b:Nat) (c0 c1 c2 c3 c4 c5 c6:Value):Prop:=
 W.cell? ⟨b,0,none⟩=some c0∧W.cell? ⟨b,1,none⟩=some c1∧W.cell? ⟨b,2,none⟩=some c2∧W.cell? ⟨b,3,none⟩=some c3∧W.cell? ⟨b,4,none⟩=some c4∧W.cell? ⟨b,5,none⟩=some c5∧W.cell? ⟨b,6,none⟩=some c6
theorem Cells7.below {W W1:World} {b:Nat} {c0 c1 c2 c3 c4 c5 c6:Value} (h:Cells7 W b c0 c1 c2 c3 c4 c5 c6) (hb:Below W.heap.size W W1):Cells7 W1 b c0 c1 c2 c3 c4 c5 c6:=by
 have k:∀{i:Nat} {v:Value},W.cell? ⟨b,i,none⟩=some v→W1.cell? ⟨b,i,none⟩=some v:=fun {i v} hc=>(hb.cell (p:=⟨b,i,none⟩) (lt_of_cell hc)).trans hc
 obtain⟨h0,h1,h2,h3,h4,h5,h6⟩:=h
 exact⟨k h0,k h1,k h2,k h3,k h4,k h5,k h6⟩
abbrev boxI (k n:Int) (s:ByteArray) (v:Value):Obj:=.cells #[.int .i64 k,.int .i64 n,.string s,v] 223
abbrev mcs (v5:Value):List Value:=[.bool true,.int .i64 0,.int .i64 0,.string ⟨#[]⟩,.slice none 0 0,v5,.slice none 0 0]
structure MakSt (w:World) (W:World) (v5:Value) (xs:List Itm):Prop where
 m:Moved (w.heap.size+1) ((w.alloc zeroR).alloc (rmemO true 0 0 ⟨#[]⟩ (.slice none 0 0) (.slice none 0 0) (.slice none 0 0))) W
 c:Cel W (w.heap.size+1) (mcs v5)
 f:W.frozen? ⟨w.heap.size+1,5,none⟩=false
 f6:W.frozen? ⟨w.heap.size+1,6,none⟩=false
 o:OwnI 223 W (w.heap.size+2) v5 xs
theorem MakSt.res {w W:World} {v5:Value} {xs:List Itm} (h:MakSt w W v5 xs):ResM W w.heap.size:=by
 have hb:=(ResM.madeR w).next (W1:=(w.alloc zeroR).alloc (rmemO true 0 0 ⟨#[]⟩ (.slice none 0 0) (.slice none 0 0) (.slice none 0 0))) (by have:=(Below.refl (w.heap.size+1) (w.alloc zeroR)).alloc (by simp) (rmemO true 0 0 ⟨#[]⟩ (.slice none 0 0) (.slice none 0 0) (.slice none 0 0));exact this)
 have kc:∀i,W.cell? ⟨w.heap.size,i,none⟩=((w.alloc zeroR).alloc (rmemO true 0 0 ⟨#[]⟩ (.slice none 0 0) (.slice none 0 0) (.slice none 0 0))).cell? ⟨w.heap.size,i,none⟩:=fun i=>h.m.cell (by simp;omega) (by simp)
 have kf:∀i,W.frozen? ⟨w.heap.size,i,none⟩=((w.alloc zeroR).alloc (rmemO true 0 0 ⟨#[]⟩ (.slice none 0 0) (.slice none 0 0) (.slice none 0 0))).frozen? ⟨w.heap.size,i,none⟩:=fun i=>h.m.frozen (by simp;omega) (by simp)
 exact⟨(kc 0).trans hb.r0,(kc 1).trans hb.r1,(kc 2).trans hb.r2,(kc 3).trans hb.r3,(kc 4).trans hb.r4,(kc 5).trans hb.r5,(kc 6).trans hb.r6,(kf 0).trans hb.g0,(kf 1).trans hb.g1,(kf 2).trans hb.g2,(kf 3).trans hb.g3,(kf 4).trans hb.g4,(kf 5).trans hb.g5,(kf 6).trans hb.g6⟩
abbrev mw (w:World):World:=(w.alloc zeroR).alloc (rmemO true 0 0 ⟨#[]⟩ (.slice none 0 0) (.slice none 0 0) (.slice none 0 0))
theorem mw_size (w:World):(mw w).heap.size=w.heap.size+2:=by simp
theorem mw_low (w:World):Below w.heap.size w (mw w):=((Below.refl _ _).alloc (zR _) _).alloc (by simp) _
theorem MakSt.low {w W:World} {v5:Value} {xs:List Itm} (h:MakSt w W v5 xs):Below w.heap.size w W:=(mw_low w).trans (h.m.below (by omega) (by simp;omega))
theorem MakSt.lt {w W:World} {v5:Value} {xs:List Itm} (h:MakSt w W v5 xs):w.heap.size+1<W.heap.size:=by have:=h.m.size;simp at this;omega
theorem MakSt.begin (w:World):MakSt w (mw w) (.slice none 0 0) []:=by
 refine⟨Moved.refl _ _,?_,by simp,by simp,OwnI.nothing _ _ _⟩
 intro i v hi
 have hl:i<7:=(List.getElem?_eq_some_iff.1 hi).1
 match i,hl with
 | 0,_=>obtain rfl:=Option.some.inj hi;simp
 | 1,_=>obtain rfl:=Option.some.inj hi;simp
 | 2,_=>obtain rfl:=Option.some.inj hi;simp
 | 3,_=>obtain rfl:=Option.some.inj hi;simp
 | 4,_=>obtain rfl:=Option.some.inj hi;simp
 | 5,_=>obtain rfl:=Option.some.inj hi;simp
 | 6,_=>obtain rfl:=Option.some.inj hi;simp
theorem MakSt.next {w W W1:World} {v5:Value} {xs:List Itm} (h:MakSt w W v5 xs) (hb:Below W.heap.size W W1):MakSt w W1 v5 xs:=by
 have hlt:=h.lt
 exact⟨h.m.low hb,fun i v hi=>(hb.cell (p:=⟨w.heap.size+1,i,none⟩) hlt).trans (h.c i v hi),(hb.frozen (p:=⟨w.heap.size+1,5,none⟩) hlt).trans h.f,(hb.frozen (p:=⟨w.heap.size+1,6,none⟩) hlt).trans h.f6,h.o.below hb⟩
theorem MakSt.snoc {w wr w3 w5:World} {x:Itm} {u' v5:Value} {xs:List Itm} {us:List Value} {g cap:Nat} {o:Obj} (h:MakSt w wr v5 xs) (h1:us.length=xs.length) (h2:wr.ownsRow (w.heap.size+2) 223 4 v5 xs.length (rowI (xs.zip us)))
  (h3:∀(j:Nat) (u:Value) (y:Itm),us[j]? = some u→xs[j]? = some y→PrmsOff (w.heap.size+2) v5.ownBlock wr u y.ps) (hb:Below wr.heap.size wr w3) (hu:PrmsOff wr.heap.size none w3 u' x.ps)
  (hown:w5.ownsRow (w.heap.size+2) 223 4 (.slice (some ⟨g,0,none⟩) (xs.length+1) cap) (xs.length+1) (rowI (xs.zip us)++cellsI x u')) (hg:(w3.alloc o).grownBy w5 v5.ownBlock) (hat:v5.ownBlock=some g∨g=(w3.alloc o).heap.size) :
  MakSt w (w5.setCell ⟨w.heap.size+1,5,none⟩ (.slice (some ⟨g,0,none⟩) (xs.length+1) cap)) (.slice (some ⟨g,0,none⟩) (xs.length+1) cap) (xs++[x]):=by
 have e:=mw_size w
 have hlt:=h.lt
 have f6:=kept_frozen3 h2 hb hg (c:=w.heap.size+1) (i:=6) (by omega) hlt h.f6
 rw [← e]at h2 h3 hown
 obtain⟨n0,n1,n2,n3⟩:=own_round (wx:=mw w) (ob:=w.heap.size+1) rfl h.m (by simp) h.c (by simp) h.f h1 h2 h3 hb hu hown hg hat
 rw [e]at n3
 exact⟨n0,n1,n2,by rw [World.frozen?_setCell];exact f6,n3⟩
theorem rmem_in (s:ByteArray) (w:World) (hs:s.size≤100000) (h40:s.data.toList.head? = some 40) :
  Calls Tryz.prog 209 #[.string s] w (rmemPost (memL s.data.toList) s.size w):=by
 obtain⟨i0,hi,hz0,hz1,hz2⟩:=info_parts info_ritem
 have hsz:=Lib.size_eq s
 have hL:memL s.data.toList=innL (s.data.toList.drop 1):=by rw [memL,if_pos h40]
 have hp:0<s.size:=by
  cases hl:s.data.toList with
  | nil=>rw [hl]at h40;cases h40
  | cons c r=>rw [hl,List.length_cons]at hsz;omega
 have e1:s.toList.isEmpty=false:=by
  rw [Lib.toList_data]
  cases hl:s.data.toList with
  | nil=>rw [hl]at h40;cases h40
  | cons c r=>rfl
 have e2:¬s.toList=[]:=by intro e;rw [e]at e1;cases e1
 have e3:(s.toList==[])=false:=by simpa using e2
 have e4:(((s[0]'hp).toNat:Int)==40)=true:=by
  have hh:=head_is s 0 hp 40
  rw [List.drop_zero]at hh
  simpa using hh.1 h40
 have HE4:Hid (((s[0]'hp).toNat:Int)=40):=zH (by simpa using e4)
 have HM0:=zH (MakSt.begin w)
 have hI:innL (s.data.toList.drop 1)=(match itsL (s.data.toList.drop 1)with
  | none=>none
  | some (xs,r)=>match psL r [] 0 with
   | none=>none
   | some (ps,m)=>some (⟨true,noItm,xs,ps⟩,r.drop m)):=rfl
 have HS:Hid (itsL (s.data.toList.drop 1)=itsF ((s.data.toList.drop 1).length+1) (spD (s.data.toList.drop 1)) []):=zH rfl
 have HLN:Hid (itsL (s.data.toList.drop 1)=none→memL s.data.toList=none):=zH (fun h=>by rw [hL,hI,h])
 have HLS:Hid (∀xs r,itsL (s.data.toList.drop 1)=some (xs,r)→memL s.data.toList=(match psL r [] 0 with
   | none=>none
   | some (ps,m)=>some (⟨true,noItm,xs,ps⟩,r.drop m))):=zH (fun xs r h=>by rw [hL,hI,h])
 have hfl:s.size-1<(s.data.toList.drop 1).length+1:=by rw [List.length_drop];omega
 clear h40 hL hI hsz
 go_enter Tryz.func209,Tryz.ntmps209
 go_wp2_with fail
 go_loopw [9] (fun a wr=>∃(K f:Nat) (xs:List Itm) (v5:Value),a=.int .i64 K∧K≤s.size∧s.size-K<f∧xs.length≤K∧Hid (itsL (s.data.toList.drop 1)=itsF f (spD (s.data.toList.drop K)) xs)∧MakSt w wr v5 xs) (fun a _=>s.size-(intOf a).toNat)
 case atStart=>exact⟨1,_,[],.slice none 0 0,rfl,hp,hfl,Nat.zero_le _,zH HS.out,HM0.out⟩
 case round =>
  obtain⟨K,f,xs,v5,rfl,hK,hf,hxl,H,hM⟩:=hrel
  have HM:=zH hM
  clear HM0 hM hfl HS
  obtain⟨f,rfl⟩:∃f',f=f'+1:=⟨f-1,by omega⟩
  obtain⟨ns,hns⟩:∃ns,spcL (s.data.toList.drop K)=ns:=⟨_,rfl⟩
  have hspc:=spc_at (s.data.toList.drop K)
  have hnl:=spc_le (s.data.toList.drop K)
  rw [List.length_drop,← Lib.size_eq]at hnl
  rw [hns]at hspc hnl
  simp only [List.drop_drop]at hspc
  have Hspc:=zH hspc
  have HSD:Hid (spD (s.data.toList.drop K)=s.data.toList.drop (K+ns)):=zH (by rw [spD_drop,hns,List.drop_drop])
  clear hspc hns
  rename World=>W1
  go_wp2_with fail
  go_loopw [9] (fun a wr=>∃j:Nat,j≤ns∧a=.int .i64 ((K+j:Nat):Int)∧wr=W1) (fun a _=>s.size-(intOf a).toNat)
  case atStart=>exact⟨0,Nat.zero_le _,by go_num,rfl⟩
  case round =>
   obtain⟨j,hj,rfl,rfl⟩:=hrel
   have hjs:K+j≤s.size:=by omega
   have hjn:=Hspc.out j hj
   obtain⟨J,hJ⟩:∃J,K+j=J:=⟨_,rfl⟩
   rw [hJ]at hjs hjn
   rw [hJ]
   by_cases hlt2:J<s.size
   ·have hh:=head_is s J hlt2 32
    cases hc:(((s[J]'hlt2).toNat:Int)==32)
    ·have hjn2:j=ns:=by
      by_cases h:j<ns
      ·rw [hh.1 (hjn.2 h)]at hc
       exact absurd hc (by decide)
      ·omega
     have HD:Hid (spD (s.data.toList.drop K)=s.data.toList.drop J):=zH (by rw [HSD.out,← hjn2,hJ])
     have hKJ:K≤J:=by omega
     clear hh hjn Hspc hjn2 HSD hJ hj
     have hh41:=head_is s J hlt2 41
     cases h41:(((s[J]'hlt2).toNat:Int)==41)
     ·have h41':(s.data.toList.drop J).head?≠some 41:=by
       intro e
       rw [hh41.1 e]at h41
       exact absurd h41 (by decide)
      have hxd:(s.extract J s.size).data.toList=s.data.toList.drop J:=Lib.extract_to_end s J
      have cR:=fun W=>rread_any (s.extract J s.size) W (by rw [Lib.size_eq,hxd,List.length_drop,← Lib.size_eq];omega)
      rw [hxd]at cR
      clear hxd hh41
      cases hit:itmL (s.data.toList.drop J)with
      | none =>
       have HN:Hid (memL s.data.toList=none):=zH (HLN.out (by rw [H.out,HD.out,itsF_none f _ xs h41' hit]))
       rw [hit]at cR
       clear hit h41' HD H HLN HLS
       go_wp2_with fail
       refine(cR _).mono ?_
       rintro e w3 ⟨hb3,rfl⟩
       have hM3:=HM.out.next hb3
       have HB3:=zH hM3.low
       have hlt:=hM3.res.lt
       obtain⟨r0,r1,r2,r3,r4,r5,r6,g0,g1,g2,g3,g4,g5,g6⟩:=hM3.res
       clear hb3 cR hM3
       go_wp2_with fail
       refine bodyPost_ret (v:=.tuple #[noMem,.int .i64 0,.int .i64 2]) (by simp [results,Tryz.results209,go_sem,r0,r1,r2,r3,r4,r5,r6,hlt]) rfl ⟨?_,by rw [HN.out]⟩
       repeat(first | with_reducible refine Below.setCell ?_ (by simp) _ | with_reducible refine Below.alloc ?_ (by simp;omega) _)
       exact HB3.out
      | some x =>
       obtain⟨g,ps,m⟩:=x
       have hm1:=(itm_right _ _ _ _ hit).1
       have hm2:=itmL_le _ _ _ _ hit
       rw [List.length_drop,← Lib.size_eq]at hm2
       rw [hit]at cR
       obtain⟨K2,hK2⟩:∃K2,J+m=K2:=⟨_,rfl⟩
       have hdd:(s.data.toList.drop J).drop m=s.data.toList.drop K2:=by rw [List.drop_drop,hK2]
       have hNo:endI (s.data.toList.drop K2)=false→memL s.data.toList=none:=fun he=>HLN.out (by rw [H.out,HD.out,itsF_bad f _ xs g ps m h41' hit (by rw [hdd];exact he)])
       have hYes:endI (s.data.toList.drop K2)=true→itsL (s.data.toList.drop 1)=itsF f (spD (s.data.toList.drop K2)) (xs++[⟨g.k,g.n,g.s,ps⟩]):=fun he=>by rw [H.out,HD.out,itsF_some f _ xs g ps m h41' hit (by rw [hdd];exact he),hdd]
       have HNo:=zH hNo
       have HYes:=zH hYes
       clear hit h41' HD H hdd hNo hYes
       obtain⟨gk,gn,gs,gm⟩:=g
       dsimp only at cR HYes
       have q1:(J:Int)+(m:Int)=(K2:Int):=by omega
       have hK2s:K2≤s.size:=by omega
       go_wp2_with fail
       refine(cR _).mono ?_
       rintro e w3 ⟨hb3,v3,rfl,ho3⟩
       have HM3:=zH (HM.out.next hb3)
       have hlt:=HM3.out.res.lt
       have hlt1:=HM3.out.lt
       obtain⟨ao3,cap3,rfl⟩:=owns_form ho3
       have HU3:Hid (PrmsOff wr.heap.size none w3 (.slice ao3 ps.length cap3) ps):=zH (PrmsOff.made ho3 (zR _) (fun g e=>by cases e))
       have HB3:=zH hb3
       clear hb3 cR ho3
       have hret:∀(he:endI (s.data.toList.drop K2)=false),Hid (memL s.data.toList=none):=fun he=>zH (HNo.out he)
       by_cases hlt4:K2<s.size
       ·have hh32:=head_is s K2 hlt4 32
        have hh41:=head_is s K2 hlt4 41
        have g1:decide (s.size≤K2)=false:=by simp;omega
        have g2:¬s.size≤K2:=by omega
        cases h32:(((s[K2]'hlt4).toNat:Int)==32)
        ·have n32:(((s[K2]'hlt4).toNat:Int) != 32)=true:=by rw [bne,h32]<;>rfl
         cases h41b:(((s[K2]'hlt4).toNat:Int)==41)
         ·have HN:=hret (by
           have n1:(s.data.toList.drop K2).head?≠some 32:=fun e=>by rw [hh32.1 e]at h32;exact absurd h32 (by decide)
           have n2:(s.data.toList.drop K2).head?≠some 41:=fun e=>by rw [hh41.1 e]at h41b;exact absurd h41b (by decide)
           unfold endI
           rw [beq_eq_false_iff_ne.2 n1,beq_eq_false_iff_ne.2 n2]
           rfl)
          have n41:(((s[K2]'hlt4).toNat:Int) != 41)=true:=by rw [bne,h41b]<;>rfl
          obtain⟨r0,r1,r2,r3,r4,r5,r6,z0,z1,z2,z3,z4,z5,z6⟩:=HM3.out.res
          clear hret HNo HYes hh32 hh41
          go_wp2_with fail
          refine bodyPost_ret (v:=.tuple #[noMem,.int .i64 0,.int .i64 2]) (by simp [results,Tryz.results209,go_sem,r0,r1,r2,r3,r4,r5,r6,hlt]) rfl ⟨?_,by rw [HN.out]⟩
          repeat(first | with_reducible refine Below.setCell ?_ (by simp) _ | with_reducible refine Below.alloc ?_ (by simp;omega) _)
          exact HM3.out.low
         ·have n41:(((s[K2]'hlt4).toNat:Int) != 41)=false:=by rw [bne,h41b]<;>rfl
          have HE:Hid (itsL (s.data.toList.drop 1)=itsF f (spD (s.data.toList.drop K2)) (xs++[⟨gk,gn,gs,ps⟩])):=zH (HYes.out (by unfold endI;rw [hh41.2 (by simpa using h41b)]<;>rfl))
          clear hret HNo HYes hh32 hh41
          obtain⟨us,u1,u2,u3⟩:=HM.out.o
          obtain⟨a5,c5,rfl⟩:=owns_form u2
          have hf5:=HM3.out.f
          have o5:=HM3.out.c 5 _ rfl
          have hbA:Below w3.heap.size w3 ((w3.alloc (boxI gk gn (strB gs) (.slice ao3 ps.length cap3))).alloc (boxI gk gn (strB gs) (.slice ao3 ps.length cap3))):=((Below.refl _ _).alloc (zR _) _).alloc (by simp) _
          have hOW:=ownsRow_later (ownsRow_later u2 HB3.out) hbA
          have hnew:=cells_new (w3.alloc (boxI gk gn (strB gs) (.slice ao3 ps.length cap3))) (cellsI ⟨gk,gn,gs,ps⟩ (.slice ao3 ps.length cap3)) 223
          rw [show(w3.alloc (boxI gk gn (strB gs) (.slice ao3 ps.length cap3))).heap.size=w3.heap.size+1 by simp]at hnew
          have HNew:=zH hnew
          clear hnew hbA
          have hbox:Below wr.heap.size wr (w3.alloc (boxI gk gn (strB gs) (.slice ao3 ps.length cap3))):=HB3.out.trans (((Below.refl w3.heap.size w3).alloc (zR _) _).mono HB3.out.size)
          have HUB:=zH (HU3.out.below ((Below.refl w3.heap.size w3).alloc (zR _) (boxI gk gn (strB gs) (.slice ao3 ps.length cap3))))
          have HBox:=zH hbox
          have hK0:(w3.heap.size:Nat)≠w.heap.size+1:=by omega
          clear hbox
          go_wp2_with (at_builtin;refine wpList_append_lies _ rfl _ _ 224 rfl (w.heap.size+2) 223 i0 (.agg #[.int .i64 0,.int .i64 0,.string ⟨#[]⟩,.slice none 0 0]) 4 56 Tryz.underlying224 hi hz0 hz1 hz2 rfl (by decide) _ xs.length (rowI (xs.zip us)) rfl hOW ⟨_,0,none⟩ 1 1 (cellsI ⟨gk,gn,gs,ps⟩ (.slice ao3 ps.length cap3)) rfl rfl HNew.out (by simp [Value.oneCell',cellsI]) (by decide) (by unfold maxLen;omega) (by omega) (by simp;omega) _ rfl ?_;intro g5 cap5 w5 hown5 hgrow5 hat5 hlt5;have k5:=kept_cell3 u2 HBox.out hgrow5 (c:=w.heap.size+1) (by omega) (HM.out.c 5 _ rfl);have kf5:=kept_frozen3 u2 HBox.out hgrow5 (c:=w.heap.size+1) (by omega) HM.out.lt HM.out.f)
          go_roundw
          case rel =>
           have hN:=HM.out.snoc u1 u2 u3 HBox.out HUB.out hown5 hgrow5 hat5
           rw [HE4.out]
           repeat apply Exists.intro
           exact⟨⟨K2,f,xs++[⟨gk,gn,gs,ps⟩],_,by go_num,hK2s,by omega,by simp;omega,zH HE.out,hN⟩,rfl⟩
          case measure=>simp [intOf];omega
        ·have n32:(((s[K2]'hlt4).toNat:Int) != 32)=false:=by rw [bne,h32]<;>rfl
         have HE:Hid (itsL (s.data.toList.drop 1)=itsF f (spD (s.data.toList.drop K2)) (xs++[⟨gk,gn,gs,ps⟩])):=zH (HYes.out (by unfold endI;rw [hh32.2 (by simpa using h32)]<;>rfl))
         clear hret HNo HYes hh32 hh41
         obtain⟨us,u1,u2,u3⟩:=HM.out.o
         obtain⟨a5,c5,rfl⟩:=owns_form u2
         have hf5:=HM3.out.f
         have o5:=HM3.out.c 5 _ rfl
         have hbA:Below w3.heap.size w3 ((w3.alloc (boxI gk gn (strB gs) (.slice ao3 ps.length cap3))).alloc (boxI gk gn (strB gs) (.slice ao3 ps.length cap3))):=((Below.refl _ _).alloc (zR _) _).alloc (by simp) _
         have hOW:=ownsRow_later (ownsRow_later u2 HB3.out) hbA
         have hnew:=cells_new (w3.alloc (boxI gk gn (strB gs) (.slice ao3 ps.length cap3))) (cellsI ⟨gk,gn,gs,ps⟩ (.slice ao3 ps.length cap3)) 223
         rw [show(w3.alloc (boxI gk gn (strB gs) (.slice ao3 ps.length cap3))).heap.size=w3.heap.size+1 by simp]at hnew
         have HNew:=zH hnew
         clear hnew hbA
         have hbox:Below wr.heap.size wr (w3.alloc (boxI gk gn (strB gs) (.slice ao3 ps.length cap3))):=HB3.out.trans (((Below.refl w3.heap.size w3).alloc (zR _) _).mono HB3.out.size)
         have HUB:=zH (HU3.out.below ((Below.refl w3.heap.size w3).alloc (zR _) (boxI gk gn (strB gs) (.slice ao3 ps.length cap3))))
         have HBox:=zH hbox
         have hK0:(w3.heap.size:Nat)≠w.heap.size+1:=by omega
         clear hbox
         go_wp2_with (at_builtin;refine wpList_append_lies _ rfl _ _ 224 rfl (w.heap.size+2) 223 i0 (.agg #[.int .i64 0,.int .i64 0,.string ⟨#[]⟩,.slice none 0 0]) 4 56 Tryz.underlying224 hi hz0 hz1 hz2 rfl (by decide) _ xs.length (rowI (xs.zip us)) rfl hOW ⟨_,0,none⟩ 1 1 (cellsI ⟨gk,gn,gs,ps⟩ (.slice ao3 ps.length cap3)) rfl rfl HNew.out (by simp [Value.oneCell',cellsI]) (by decide) (by unfold maxLen;omega) (by omega) (by simp;omega) _ rfl ?_;intro g5 cap5 w5 hown5 hgrow5 hat5 hlt5;have k5:=kept_cell3 u2 HBox.out hgrow5 (c:=w.heap.size+1) (by omega) (HM.out.c 5 _ rfl);have kf5:=kept_frozen3 u2 HBox.out hgrow5 (c:=w.heap.size+1) (by omega) HM.out.lt HM.out.f)
         go_roundw
         case rel =>
          have hN:=HM.out.snoc u1 u2 u3 HBox.out HUB.out hown5 hgrow5 hat5
          rw [HE4.out]
          repeat apply Exists.intro
          exact⟨⟨K2,f,xs++[⟨gk,gn,gs,ps⟩],_,by go_num,hK2s,by omega,by simp;omega,zH HE.out,hN⟩,rfl⟩
         case measure=>simp [intOf];omega
       ·obtain rfl:K2=s.size:=by omega
        have HN:=hret (by rw [List.drop_of_length_le (by rw [← Lib.size_eq];omega)]<;>rfl)
        obtain⟨r0,r1,r2,r3,r4,r5,r6,g0,g1,g2,g3,g4,g5,g6⟩:=HM3.out.res
        clear hret HNo HYes
        go_wp2_with fail
        refine bodyPost_ret (v:=.tuple #[noMem,.int .i64 0,.int .i64 2]) (by simp [results,Tryz.results209,go_sem,r0,r1,r2,r3,r4,r5,r6,hlt]) rfl ⟨?_,by rw [HN.out]⟩
        repeat(first | with_reducible refine Below.setCell ?_ (by simp) _ | with_reducible refine Below.alloc ?_ (by simp;omega) _)
        exact HM3.out.low
     ·have HE:Hid (itsL (s.data.toList.drop 1)=some (xs,s.data.toList.drop (J+1))):=zH (by rw [H.out,HD.out,itsF_end f _ xs (hh41.2 (by simpa using h41)),List.drop_drop])
      have hxd:(s.extract (J+1) s.size).data.toList=s.data.toList.drop (J+1):=Lib.extract_to_end s (J+1)
      have cP:=fun W=>rparams_any (s.extract (J+1) s.size) W (by rw [Lib.size_eq,hxd,List.length_drop,← Lib.size_eq];omega)
      rw [hxd]at cP
      have HV:=zH (HLS.out _ _ HE.out)
      have j1:(J:Int)+1≤(s.size:Int):=by omega
      clear hxd hh41 HD H HE HLN HLS
      cases hps:psL (s.data.toList.drop (J+1)) [] 0 with
      | none =>
       rw [hps]at cP HV
       clear hps
       go_wp2_with fail
       refine(cP _).mono ?_
       rintro e w3 ⟨hb3,rfl⟩
       have hM3:=HM.out.next hb3
       have HB3:=zH hM3.low
       have hlt:=hM3.res.lt
       obtain⟨r0,r1,r2,r3,r4,r5,r6,g0,g1,g2,g3,g4,g5,g6⟩:=hM3.res
       clear hb3 cP hM3
       go_wp2_with fail
       refine bodyPost_ret (v:=.tuple #[noMem,.int .i64 0,.int .i64 2]) (by simp [results,Tryz.results209,go_sem,r0,r1,r2,r3,r4,r5,r6]) rfl ⟨?_,by rw [HV.out]⟩
       repeat(first | with_reducible refine Below.setCell ?_ (by simp) _ | with_reducible refine Below.alloc ?_ (by simp;omega) _)
       exact HB3.out
      | some y =>
       obtain⟨ps,n⟩:=y
       have hn:=psL_le _ _ _ _ _ _ (zR _) hps
       rw [List.length_drop,← Lib.size_eq,Nat.zero_add]at hn
       rw [hps]at cP HV
       dsimp only at HV
       have HNz:Hid (s.size-((s.data.toList.drop (J+1)).drop n).length=J+1+n):=zH (by rw [List.length_drop,List.length_drop,← Lib.size_eq];omega)
       clear hps
       go_wp2_with fail
       refine(cP _).mono ?_
       rintro e w3 ⟨hb3,v3,rfl,ho3⟩
       have hM3:=HM.out.next hb3
       have HM3:=zH hM3
       have hlt:=hM3.res.lt
       have hlt1:=hM3.lt
       obtain⟨r0,r1,r2,r3,r4,r5,r6,g0,g1,g2,g3,g4,g5,g6⟩:=hM3.res
       have hf6:=hM3.f6
       have o0:=hM3.c 0 _ rfl
       have o1:=hM3.c 1 _ rfl
       have o2:=hM3.c 2 _ rfl
       have o3:=hM3.c 3 _ rfl
       have o4:=hM3.c 4 _ rfl
       have o5:=hM3.c 5 _ rfl
       have o6:=hM3.c 6 _ rfl
       obtain⟨ao3,cap3,rfl⟩:=owns_form ho3
       have HU3:Hid (PrmsOff (w.heap.size+2) none w3 (.slice ao3 ps.length cap3) ps):=zH (PrmsOff.made ho3 (by have:=HM.out.lt;omega) (fun g e=>by cases e))
       have HIx:=zH (hM3.o.off (blk:=none) (fun g e=>by cases e))
       obtain⟨us,_,hu2,_⟩:=hM3.o
       obtain⟨a5,c5,rfl⟩:=owns_form hu2
       clear hb3 cP hM3 ho3 hu2
       go_wp2_with fail
       refine bodyPost_ret (v:=.tuple #[aggM true 0 0 ⟨#[]⟩ (.slice none 0 0) (.slice a5 xs.length c5) (.slice ao3 ps.length cap3),.int .i64 ((J+1+n:Nat):Int),.int .i64 0]) (by simp [results,Tryz.results209,go_sem,r0,r1,r2,r3,r4,r5,r6]) rfl ?_
       rw [HV.out]
       have hm1:Moved (w.heap.size+1) w3 (w3.setCell ⟨w.heap.size+1,6,none⟩ (.slice ao3 ps.length cap3)):=(Moved.refl _ _).setCell _
       refine⟨?_,_,by rw [HNz.out]<;>rfl,.slice none 0 0,.slice a5 xs.length c5,.slice ao3 ps.length cap3,rfl,⟨none,0,rfl,.inl rfl⟩,?_,?_⟩
       ·repeat(first | with_reducible refine Below.setCell ?_ (by simp) _ | with_reducible refine Below.alloc ?_ (by simp;omega) _)
        exact HM3.out.low
       ·refine((HIx.out.moved hm1 (by omega)).moved (c:=w.heap.size) ?_ (by omega)).low (by omega)
        repeat(first | with_reducible refine Moved.drew1 ?_ | with_reducible refine Moved.setCell ?_ _)
        exact Moved.refl _ _
       ·refine((HU3.out.moved hm1 (by omega)).moved (c:=w.heap.size) ?_ (by omega)).low (by omega)
        repeat(first | with_reducible refine Moved.drew1 ?_ | with_reducible refine Moved.setCell ?_ _)
        exact Moved.refl _ _
    ·have hjn2:j<ns:=by
      apply hjn.1
      exact hh.2 (by simpa using hc)
     clear hh hjn
     go_wp2_with fail
     go_roundw
     case rel=>exact⟨j+1,hjn2,by rw [← hJ];go_num,by first | rfl | trivial⟩
     case measure=>simp [intOf];omega
   ·obtain rfl:J=s.size:=by omega
    have hjn2:j=ns:=by omega
    have HN:Hid (memL s.data.toList=none):=zH (HLN.out (by
     rw [H.out,HSD.out,← hjn2,hJ,List.drop_of_length_le (by rw [← Lib.size_eq];omega)]
     exact itsF_none f [] xs (by simp) rfl))
    have hlt:=HM.out.res.lt
    obtain⟨r0,r1,r2,r3,r4,r5,r6,g0,g1,g2,g3,g4,g5,g6⟩:=HM.out.res
    clear hjn2 hjn Hspc HSD hJ H HLN HLS
    go_wp2_with fail
    refine bodyPost_ret (v:=.tuple #[noMem,.int .i64 0,.int .i64 2]) (by simp [results,Tryz.results209,go_sem,r0,r1,r2,r3,r4,r5,r6]) rfl ⟨?_,by rw [HN.out]⟩
    repeat(first | with_reducible refine Below.setCell ?_ (by simp) _ | with_reducible refine Below.alloc ?_ (by simp;omega) _)
    exact HM.out.low
theorem rmember_any (s:ByteArray) (w:World) (hs:s.size≤100000) :
  Calls Tryz.prog 209 #[.string s] w (rmemPost (memL s.data.toList) s.size w):=by
 by_cases h40:s.data.toList.head? = some 40
 ·exact rmem_in s w hs h40
 ·exact rmem_out s w hs h40
def blcL (l:List UInt8):Nat:=(l.takeWhile (fun c=>c==32||c==9)).length
theorem blcL_le (l:List UInt8):blcL l≤l.length:=takeWhile_len_le _ l
theorem blD_drop (l:List UInt8):blD l=l.drop (blcL l):=by
 unfold blD blcL
 induction l with
 | nil=>rfl
 | cons c l ih =>
  rw [List.dropWhile_cons,List.takeWhile_cons]
  cases h:(c==32||c==9)
  ·rfl
  ·simpa using ih
theorem blc_at:∀(l:List UInt8) (j:Nat),j≤blcL l→(((l.drop j).head? = some 32∨(l.drop j).head? = some 9)↔j<blcL l)
 | [],j,h=>by
  simp [blcL]at h ⊢
 | c :: l,0,_=>by
  unfold blcL
  rw [List.takeWhile_cons,List.drop_zero,List.head?_cons]
  cases h:(c==32||c==9)
  ·simp only [Bool.or_eq_false_iff,beq_eq_false_iff_ne]at h
   simp [h.1,h.2]
  ·simp only [Bool.or_eq_true,beq_iff_eq]at h
   simp [h]
 | c :: l,j+1,h=>by
  unfold blcL at h ⊢
  rw [List.takeWhile_cons]at h ⊢
  cases hc:(c==32||c==9)
  ·rw [hc]at h
   simp at h
  ·rw [hc]at h
   simp only [if_true,List.length_cons]at h ⊢
   have:=blc_at l j (by unfold blcL;omega)
   unfold blcL at this
   rw [List.drop_succ_cons,this]
   omega
theorem rblanks_any (s:ByteArray) (K:Nat) (w:World) (hs:s.size≤100000) (hK:K≤s.size) :
  Calls Tryz.prog 178 #[.string s,.int .i64 (K:Int)] w fun e w'=>e=.returned (.int .i64 ((K+blcL (s.data.toList.drop K):Nat):Int))∧w=w':=by
 obtain⟨ns,hns⟩:∃ns,blcL (s.data.toList.drop K)=ns:=⟨_,rfl⟩
 have hspc:=blc_at (s.data.toList.drop K)
 have hnl:=blcL_le (s.data.toList.drop K)
 rw [List.length_drop,← Lib.size_eq]at hnl
 rw [hns]at hspc hnl
 simp only [List.drop_drop]at hspc
 have Hspc:=zH hspc
 rw [hns]
 clear hspc hns
 go_enter Tryz.func178,Tryz.ntmps178
 go_wp2_with fail
 go_loopw [1] (fun a wr=>∃j:Nat,j≤ns∧a=.int .i64 ((K+j:Nat):Int)∧wr=w) (fun a _=>s.size-(intOf a).toNat)
 case atStart=>exact⟨0,Nat.zero_le _,by go_num,rfl⟩
 case round =>
  obtain⟨j,hj,rfl,rfl⟩:=hrel
  have hjs:K+j≤s.size:=by omega
  have hjn:=Hspc.out j hj
  obtain⟨J,hJ⟩:∃J,K+j=J:=⟨_,rfl⟩
  rw [hJ]at hjs hjn
  rw [hJ]
  by_cases hlt2:J<s.size
  ·have hh:=head_is s J hlt2 32
   have hh9:=head_is s J hlt2 9
   cases hc:(((s[J]'hlt2).toNat:Int)==32)
   ·cases hc9:(((s[J]'hlt2).toNat:Int)==9)
    ·have hjn2:j=ns:=by
      by_cases h:j<ns
      ·rcases hjn.2 h with h | h
       ·rw [hh.1 h]at hc
        exact absurd hc (by decide)
       ·rw [hh9.1 h]at hc9
        exact absurd hc9 (by decide)
      ·omega
     clear hh hh9 hjn
     go_wp2_with fail
     go_ret
     exact⟨by rw [← hjn2,hJ]<;>rfl,rfl⟩
    ·have hjn2:j<ns:=hjn.1 (.inr (hh9.2 (by simpa using hc9)))
     clear hh hh9 hjn
     go_wp2_with fail
     go_roundw
     case rel=>exact⟨j+1,hjn2,by rw [← hJ];go_num,by first | rfl | trivial⟩
     case measure=>simp [intOf];omega
   ·have hjn2:j<ns:=hjn.1 (.inl (hh.2 (by simpa using hc)))
    clear hh hh9 hjn
    go_wp2_with fail
    go_roundw
    case rel=>exact⟨j+1,hjn2,by rw [← hJ];go_num,by first | rfl | trivial⟩
    case measure=>simp [intOf];omega
  ·have hjn2:j=ns:=by omega
   clear hjn
   go_wp2_with fail
   go_ret
   exact⟨by rw [← hjn2,hJ]<;>rfl,rfl⟩
abbrev rzeroE:Obj:=.cells #[.string ⟨#[]⟩,.bool false,.int .i64 0,.int .i64 0,.string ⟨#[]⟩,.slice none 0 0,.slice none 0 0,.slice none 0 0] 228
theorem ResE.rmade (w:World):ResE (w.alloc rzeroE) w.heap.size:=⟨by simp,by simp,by simp,by simp,by simp,by simp,by simp,by simp,by simp,by simp,by simp,by simp,by simp,by simp,by simp,by simp⟩
def entK (keys:Bool) (l:List UInt8):Option (Ent×List UInt8):=if keys then entL l else(memL l).map (fun p=>(⟨[],p.1⟩,p.2))
def rentPost (o:Option (Ent×List UInt8)) (z:Nat) (w:World) (e:Ending) (w':World):Prop:=
 Below w.heap.size w w'∧match o with
  | none=>∃(K:ByteArray) (m:Int),e=.returned (.tuple #[aggE K false 0 0 ⟨#[]⟩ (.slice none 0 0) (.slice none 0 0) (.slice none 0 0),.int .i64 m,.int .i64 2])
  | some (E,r)=>∃v,e=.returned (.tuple #[v,.int .i64 ((z-r.length:Nat):Int),.int .i64 0])∧EntAt w.heap.size none w' E v
theorem rent_off (s:ByteArray) (w:World) (hs:s.size≤100000) :
  Calls Tryz.prog 177 #[.string s,.bool false] w (rentPost (entK false s.data.toList) s.size w):=by
 have cM:=fun W=>rmember_any s W hs
 have hb0:Below w.heap.size w (w.alloc rzeroE):=(Below.refl _ _).alloc (zR _) _
 have HR0:=zH (ResE.rmade w)
 have hE:entK false s.data.toList=(memL s.data.toList).map (fun p=>(⟨[],p.1⟩,p.2)):=rfl
 cases hm:memL s.data.toList with
 | none =>
  have HL:Hid (entK false s.data.toList=none):=zH (by rw [hE,hm]<;>rfl)
  rw [hm]at cM
  clear hm hE
  go_enter Tryz.func177,Tryz.ntmps177
  go_wp2_with fail
  refine(cM _).mono ?_
  rintro e w1 ⟨hb1,rfl⟩
  have hR1:=HR0.out.next (by simpa using hb1)
  have hB1:=hb0.trans (hb1.mono hb0.size)
  have hlt:=hR1.lt
  obtain⟨r0,r1,r2,r3,r4,r5,r6,r7,g0,g1,g2,g3,g4,g5,g6,g7⟩:=hR1
  clear hb1 cM
  go_wp2_with fail
  refine bodyPost_ret (v:=.tuple #[aggE ⟨#[]⟩ false 0 0 ⟨#[]⟩ (.slice none 0 0) (.slice none 0 0) (.slice none 0 0),.int .i64 0,.int .i64 2]) (by simp [results,Tryz.results177,go_sem,r0,r1,r2,r3,r4,r5,r6,r7,hlt]) rfl ?_
  rw [HL.out]
  refine⟨?_,_,_,rfl⟩
  repeat(first | with_reducible refine Below.alloc ?_ (by simp;omega) _ | with_reducible refine Below.setCell ?_ (by simp) _)
  exact hB1
 | some x =>
  obtain⟨M,r⟩:=x
  have HL:Hid (entK false s.data.toList=some (⟨[],M⟩,r)):=zH (by rw [hE,hm]<;>rfl)
  rw [hm]at cM
  clear hm hE
  generalize hz:s.size-r.length=z at *
  have HZ:=zH hz
  clear hz
  go_enter Tryz.func177,Tryz.ntmps177
  go_wp2_with fail
  refine(cM _).mono ?_
  rintro e w1 ⟨hb1,v,h1,hv⟩
  rw [HZ.out]at h1
  subst h1
  have hR1:=HR0.out.next (by simpa using hb1)
  have hB1:=hb0.trans (hb1.mono hb0.size)
  have hlt:=hR1.lt
  obtain⟨r0,r1,r2,r3,r4,r5,r6,r7,g0,g1,g2,g3,g4,g5,g6,g7⟩:=hR1
  obtain⟨u,vi,vp,rfl,hu,hvi,hvp⟩:=hv
  obtain⟨ao1,cap1,rfl⟩:=hu.form
  obtain⟨ao2,cap2,rfl⟩:=hvi.form
  obtain⟨ao3,cap3,rfl⟩:=hvp.form
  have HU:=zH (hu.low (show w.heap.size+1≤_ by simp))
  have HV:=zH (hvi.low (show w.heap.size+1≤_ by simp))
  have HW:=zH (hvp.low (show w.heap.size+1≤_ by simp))
  clear hb1 cM hu hvi hvp
  go_wp2_with fail
  refine bodyPost_ret (v:=.tuple #[aggE ⟨#[]⟩ M.inner M.it.k M.it.n (strB M.it.s) (.slice ao1 M.it.ps.length cap1) (.slice ao2 M.its.length cap2) (.slice ao3 M.ps.length cap3),.int .i64 (z:Int),.int .i64 0]) (by simp [results,Tryz.results177,go_sem,r0,r1,r2,r3,r4,r5,r6,r7,hlt]) rfl ?_
  rw [HL.out]
  refine⟨?_,_,by rw [HZ.out]<;>rfl,.slice ao1 M.it.ps.length cap1,.slice ao2 M.its.length cap2,.slice ao3 M.ps.length cap3,rfl,(HU.out.moved (c:=w.heap.size) ?_ (Nat.lt_succ_self _)).low (Nat.le_succ _),(HV.out.moved (c:=w.heap.size) ?_ (Nat.lt_succ_self _)).low (Nat.le_succ _),(HW.out.moved (c:=w.heap.size) ?_ (Nat.lt_succ_self _)).low (Nat.le_succ _)⟩
  ·repeat(first | with_reducible refine Below.alloc ?_ (by simp;omega) _ | with_reducible refine Below.setCell ?_ (by simp) _)
   exact hB1
  all_goals
   repeat(first | with_reducible refine Moved.drew1 ?_ | with_reducible refine Moved.alloc ?_ _ | with_reducible refine Moved.setCell ?_ _)
   exact Moved.refl _ _
theorem rent_on (s:ByteArray) (w:World) (hs:s.size≤100000) :
  Calls Tryz.prog 177 #[.string s,.bool true] w (rentPost (entK true s.data.toList) s.size w):=by
 have hb0:Below w.heap.size w (w.alloc rzeroE):=(Below.refl _ _).alloc (zR _) _
 have HR0:=zH (ResE.rmade w)
 have cK:=fun W=>rreadKey_any s W (by unfold maxLen;omega)
 have hk:=klen_le s.data.toList
 rw [← Lib.size_eq]at hk
 rw [rkV]at cK
 have hE:entK true s.data.toList=(if klen s.data.toList=0 then none else match valM (s.data.toList.drop (klen s.data.toList))with
  | none=>none
  | some (M,r)=>some (⟨s.data.toList.take (klen s.data.toList),M⟩,r)):=rfl
 obtain⟨n,hn⟩:∃n,klen s.data.toList=n:=⟨_,rfl⟩
 rw [hn]at cK hE hk
 clear hn
 by_cases h0:n=0
 ·have HL:Hid (entK true s.data.toList=none):=zH (by rw [hE,if_pos h0])
  rw [if_pos h0]at cK
  have hlt:=HR0.out.lt
  obtain⟨r0,r1,r2,r3,r4,r5,r6,r7,g0,g1,g2,g3,g4,g5,g6,g7⟩:=HR0.out
  clear h0 hE
  go_enter Tryz.func177,Tryz.ntmps177
  go_wp2_with fail
  refine(cK _).mono ?_
  rintro e w1 ⟨rfl,rfl⟩
  go_wp2_with fail
  refine bodyPost_ret (v:=.tuple #[aggE ⟨#[]⟩ false 0 0 ⟨#[]⟩ (.slice none 0 0) (.slice none 0 0) (.slice none 0 0),.int .i64 0,.int .i64 2]) (by simp [results,Tryz.results177,go_sem,r0,r1,r2,r3,r4,r5,r6,r7]) rfl ?_
  rw [HL.out]
  refine⟨?_,_,_,rfl⟩
  repeat(first | with_reducible refine Below.alloc ?_ (by simp;omega) _ | with_reducible refine Below.setCell ?_ (by simp) _)
  exact hb0
 ·rw [if_neg h0]at cK hE
  have HKn:Hid ((s.data.toList.take n).length=n):=zH (by rw [List.length_take,← Lib.size_eq];omega)
  generalize hKey:s.data.toList.take n=K at *
  clear hKey
  unfold valM at hE
  rw [List.drop_drop]at hE
  by_cases h61:(s.data.toList.drop n).head? = some 61
  ·have hns:n<s.size:=by
    by_cases h:n<s.size
    ·exact h
    ·rw [List.drop_of_length_le (by rw [← Lib.size_eq];omega)]at h61
     cases h61
   rw [if_pos h61]at hE
   have e61:(((s[n]'hns).toNat:Int)==61)=true:=by simpa using (head_is s n hns 61).1 h61
   have hxd:(s.extract (n+1) s.size).data.toList=s.data.toList.drop (n+1):=Lib.extract_to_end s (n+1)
   have hxs:(s.extract (n+1) s.size).size=s.size-(n+1):=by rw [Lib.size_eq,hxd,List.length_drop,← Lib.size_eq]
   have cM:=fun W=>rmember_any (s.extract (n+1) s.size) W (by omega)
   rw [hxd,hxs]at cM
   have j1:(n:Int)+1≤(s.size:Int):=by omega
   clear h61 hxd hxs h0
   cases hm:memL (s.data.toList.drop (n+1))with
   | none =>
    have HL:Hid (entK true s.data.toList=none):=zH (by rw [hE,hm])
    rw [hm]at cM
    clear hm hE
    go_enter Tryz.func177,Tryz.ntmps177
    go_wp2_with fail
    refine(cK _).mono ?_
    rintro e w1 ⟨rfl,rfl⟩
    go_wp2_with fail
    refine(cM _).mono ?_
    rintro e w1 ⟨hb1,rfl⟩
    have hR1:=HR0.out.next (by simpa using hb1)
    have hB1:=hb0.trans (hb1.mono hb0.size)
    have hlt:=hR1.lt
    obtain⟨r0,r1,r2,r3,r4,r5,r6,r7,g0,g1,g2,g3,g4,g5,g6,g7⟩:=hR1
    clear hb1 cM cK
    go_wp2_with fail
    refine bodyPost_ret (v:=.tuple #[aggE (strB K) false 0 0 ⟨#[]⟩ (.slice none 0 0) (.slice none 0 0) (.slice none 0 0),.int .i64 ((n:Int)+1),.int .i64 2]) (by simp [results,Tryz.results177,go_sem,r0,r1,r2,r3,r4,r5,r6,r7,hlt]) rfl ?_
    rw [HL.out]
    refine⟨?_,_,_,rfl⟩
    repeat(first | with_reducible refine Below.alloc ?_ (by simp;omega) _ | with_reducible refine Below.setCell ?_ (by simp) _)
    exact hB1
   | some x =>
    obtain⟨M,r⟩:=x
    have hrl:=memL_le _ _ _ hm
    rw [List.length_drop,← Lib.size_eq]at hrl
    have HL:Hid (entK true s.data.toList=some (⟨K,M⟩,r)):=zH (by rw [hE,hm])
    rw [hm]at cM
    obtain⟨z,hz⟩:∃z,s.size-(n+1)-r.length=z:=⟨_,rfl⟩
    have HZ1:=zH hz
    have hz2:z≤s.size-(n+1):=by omega
    have HZ:Hid (s.size-r.length=n+1+z):=zH (by omega)
    clear hm hE hz hrl
    go_enter Tryz.func177,Tryz.ntmps177
    go_wp2_with fail
    refine(cK _).mono ?_
    rintro e w1 ⟨rfl,rfl⟩
    go_wp2_with fail
    refine(cM _).mono ?_
    rintro e w1 ⟨hb1,v,h1,hv⟩
    rw [HZ1.out]at h1
    subst h1
    have hR1:=HR0.out.next (by simpa using hb1)
    have hB1:=hb0.trans (hb1.mono hb0.size)
    have hlt:=hR1.lt
    obtain⟨r0,r1,r2,r3,r4,r5,r6,r7,g0,g1,g2,g3,g4,g5,g6,g7⟩:=hR1
    obtain⟨u,vi,vp,rfl,hu,hvi,hvp⟩:=hv
    obtain⟨ao1,cap1,rfl⟩:=hu.form
    obtain⟨ao2,cap2,rfl⟩:=hvi.form
    obtain⟨ao3,cap3,rfl⟩:=hvp.form
    have HU:=zH (hu.low (show w.heap.size+1≤_ by simp))
    have HV:=zH (hvi.low (show w.heap.size+1≤_ by simp))
    have HW:=zH (hvp.low (show w.heap.size+1≤_ by simp))
    clear hb1 cM cK hu hvi hvp
    go_wp2_with fail
    refine bodyPost_ret (v:=.tuple #[aggE (strB K) M.inner M.it.k M.it.n (strB M.it.s) (.slice ao1 M.it.ps.length cap1) (.slice ao2 M.its.length cap2) (.slice ao3 M.ps.length cap3),.int .i64 ((n+1+z:Nat):Int),.int .i64 0]) (by simp [results,Tryz.results177,go_sem,r0,r1,r2,r3,r4,r5,r6,r7,hlt]) rfl ?_
    rw [HL.out]
    refine⟨?_,_,by rw [HZ.out]<;>rfl,.slice ao1 M.it.ps.length cap1,.slice ao2 M.its.length cap2,.slice ao3 M.ps.length cap3,rfl,(HU.out.moved (c:=w.heap.size) ?_ (Nat.lt_succ_self _)).low (Nat.le_succ _),(HV.out.moved (c:=w.heap.size) ?_ (Nat.lt_succ_self _)).low (Nat.le_succ _),(HW.out.moved (c:=w.heap.size) ?_ (Nat.lt_succ_self _)).low (Nat.le_succ _)⟩
    ·repeat(first | with_reducible refine Below.alloc ?_ (by simp;omega) _ | with_reducible refine Below.setCell ?_ (by simp) _)
     exact hB1
    all_goals
     repeat(first | with_reducible refine Moved.drew1 ?_ | with_reducible refine Moved.alloc ?_ _ | with_reducible refine Moved.setCell ?_ _)
     exact Moved.refl _ _
  ·rw [if_neg h61]at hE
   have hxd:(s.extract n s.size).data.toList=s.data.toList.drop n:=Lib.extract_to_end s n
   have cP:=fun W=>rparams_any (s.extract n s.size) W (by rw [Lib.size_eq,hxd,List.length_drop,← Lib.size_eq];omega)
   rw [hxd]at cP
   have j1:(n:Int)≤(s.size:Int):=by omega
   have hcase:(¬n<s.size)∨∃h:n<s.size,(((s[n]'h).toNat:Int)==61)=false:=by
    by_cases h:n<s.size
    ·exact .inr ⟨h,by simpa using fun e=>h61 ((head_is s n h 61).2 e)⟩
    ·exact .inl h
   clear h61 hxd h0
   cases hps:psL (s.data.toList.drop n) [] 0 with
   | none =>
    have HL:Hid (entK true s.data.toList=none):=zH (by rw [hE,hps])
    rw [hps]at cP
    clear hps hE
    rcases hcase with q1 | ⟨q1,q2⟩
    all_goals
     go_enter Tryz.func177,Tryz.ntmps177
     go_wp2_with fail
     refine(cK _).mono ?_
     rintro e w1 ⟨rfl,rfl⟩
     go_wp2_with fail
     refine(cP _).mono ?_
     rintro e w1 ⟨hb1,rfl⟩
     have hR1:=HR0.out.next (by simpa using hb1)
     have hB1:=hb0.trans (hb1.mono hb0.size)
     have hlt:=hR1.lt
     obtain⟨r0,r1,r2,r3,r4,r5,r6,r7,g0,g1,g2,g3,g4,g5,g6,g7⟩:=hR1
     clear hb1 cP cK
     go_wp2_with fail
     refine bodyPost_ret (v:=.tuple #[aggE ⟨#[]⟩ false 0 0 ⟨#[]⟩ (.slice none 0 0) (.slice none 0 0) (.slice none 0 0),.int .i64 0,.int .i64 2]) (by simp [results,Tryz.results177,go_sem,r0,r1,r2,r3,r4,r5,r6,r7]) rfl ?_
     rw [HL.out]
     refine⟨?_,_,_,rfl⟩
     repeat(first | with_reducible refine Below.alloc ?_ (by simp;omega) _ | with_reducible refine Below.setCell ?_ (by simp) _)
     exact hB1
   | some y =>
    obtain⟨ps,m⟩:=y
    have hm:=psL_le _ _ _ _ _ _ (zR _) hps
    rw [List.length_drop,← Lib.size_eq,Nat.zero_add]at hm
    have HL:Hid (entK true s.data.toList=some (⟨K,⟨false,⟨6,1,[],ps⟩,[],[]⟩⟩,s.data.toList.drop (n+m))):=zH (by rw [hE,hps];dsimp only;rw [List.drop_drop])
    have HZ:Hid (s.size-(s.data.toList.drop (n+m)).length=n+m):=zH (by rw [List.length_drop,← Lib.size_eq];omega)
    rw [hps]at cP
    clear hps hE
    rcases hcase with q1 | ⟨q1,q2⟩
    all_goals
     go_enter Tryz.func177,Tryz.ntmps177
     go_wp2_with fail
     refine(cK _).mono ?_
     rintro e w1 ⟨rfl,rfl⟩
     go_wp2_with fail
     refine(cP _).mono ?_
     rintro e w1 ⟨hb1,v1,rfl,ho⟩
     have hR1:=HR0.out.next (by simpa using hb1)
     have hB1:=hb0.trans (hb1.mono hb0.size)
     have hlt:=hR1.lt
     obtain⟨r0,r1,r2,r3,r4,r5,r6,r7,g0,g1,g2,g3,g4,g5,g6,g7⟩:=hR1
     obtain⟨ao,cap,rfl⟩:=owns_form ho
     have HU:Hid (PrmsOff (w.heap.size+1) none w1 (.slice ao ps.length cap) ps):=zH (PrmsOff.made ho (by simp) (fun g e=>by cases e))
     clear hb1 cP cK ho
     go_wp2_with fail
     refine bodyPost_ret (v:=.tuple #[aggE (strB K) false 6 1 ⟨#[]⟩ (.slice ao ps.length cap) (.slice none 0 0) (.slice none 0 0),.int .i64 ((n+m:Nat):Int),.int .i64 0]) (by simp [results,Tryz.results177,go_sem,r0,r1,r2,r3,r4,r5,r6,r7]) rfl ?_
     rw [HL.out]
     refine⟨?_,_,by rw [HZ.out]<;>rfl,.slice ao ps.length cap,.slice none 0 0,.slice none 0 0,rfl,(HU.out.moved (c:=w.heap.size) ?_ (Nat.lt_succ_self _)).low (Nat.le_succ _),⟨none,0,rfl,.inl rfl⟩,⟨none,0,rfl,.inl rfl⟩⟩
     ·repeat(first | with_reducible refine Below.alloc ?_ (by simp;omega) _ | with_reducible refine Below.setCell ?_ (by simp) _)
      exact hB1
     ·repeat(first | with_reducible refine Moved.drew1 ?_ | with_reducible refine Moved.alloc ?_ _ | with_reducible refine Moved.setCell ?_ _)
      exact Moved.refl _ _
theorem rentry_any (s:ByteArray) (keys:Bool) (w:World) (hs:s.size≤100000) :
  Calls Tryz.prog 177 #[.string s,.bool keys] w (rentPost (entK keys s.data.toList) s.size w):=by
 cases keys
 ·exact rent_off s w hs
 ·exact rent_on s w hs
theorem ItmsOff.other {lo g:Nat} {w w':World} {v:Value} {xs:List Itm} (h:ItmsOff lo (some g) w v xs) (hm:Moved g w w'):ItmsOff lo (some g) w' v xs:=by
 obtain⟨ao,cap,hv,hh⟩:=h
 rcases hh with hh | ⟨b,off,h1,h0,h2,h3,h4⟩
 ·exact⟨ao,cap,hv,.inl hh⟩
 ·have hbg:b≠g:=fun e=>h2 (by rw [e])
  refine⟨ao,cap,hv,.inr ⟨b,off,h1,h0,h2,Nat.lt_of_lt_of_le h3 hm.size,fun j x hx=>?_⟩⟩
  obtain⟨u,⟨c0,c1,c2,c3⟩,hp⟩:=h4 j x hx
  have k:∀{i:Nat} {y:Value},w.cell? ⟨b,i,none⟩=some y→w'.cell? ⟨b,i,none⟩=some y:=fun {i y} hc=>(hm.cell (p:=⟨b,i,none⟩) h3 hbg).trans hc
  exact⟨u,⟨k c0,k c1,k c2,k c3⟩,hp.other hm⟩
theorem OwnE.put {T:TypeId} {w:World} {base g cap i:Nat} {xs:List Ent} {x:Ent} {u u2 u3:Value} (h:OwnG entR T w base (.slice (some ⟨g,0,none⟩) xs.length cap) xs) (hi:i<xs.length) (hu:entR.F base (some g) w x (u,u2,u3)) :
  OwnG entR T ((((((((w.setCell ⟨g,i*8,none⟩ (.string (strB x.key))).setCell ⟨g,i*8+1,none⟩ (.bool x.val.inner)).setCell ⟨g,i*8+2,none⟩ (.int .i64 x.val.it.k)).setCell ⟨g,i*8+3,none⟩ (.int .i64 x.val.it.n)).setCell ⟨g,i*8+4,none⟩ (.string (strB x.val.it.s))).setCell ⟨g,i*8+5,none⟩ u).setCell ⟨g,i*8+6,none⟩ u2).setCell ⟨g,i*8+7,none⟩ u3) base (.slice (some ⟨g,0,none⟩) xs.length cap) (xs.set i x):=by
 obtain⟨us,h1,h2,h3⟩:=h
 have s0:=h2.stored (i*8) (.string (strB x.key))
 have s1:=s0.1.stored (i*8+1) (.bool x.val.inner)
 have s2:=s1.1.stored (i*8+2) (.int .i64 x.val.it.k)
 have s3:=s2.1.stored (i*8+3) (.int .i64 x.val.it.n)
 have s4:=s3.1.stored (i*8+4) (.string (strB x.val.it.s))
 have s5:=s4.1.stored (i*8+5) u
 have s6:=s5.1.stored (i*8+6) u2
 have s7:=s6.1.stored (i*8+7) u3
 have hm:Moved g w ((((((((w.setCell ⟨g,i*8,none⟩ (.string (strB x.key))).setCell ⟨g,i*8+1,none⟩ (.bool x.val.inner)).setCell ⟨g,i*8+2,none⟩ (.int .i64 x.val.it.k)).setCell ⟨g,i*8+3,none⟩ (.int .i64 x.val.it.n)).setCell ⟨g,i*8+4,none⟩ (.string (strB x.val.it.s))).setCell ⟨g,i*8+5,none⟩ u).setCell ⟨g,i*8+6,none⟩ u2).setCell ⟨g,i*8+7,none⟩ u3):=(((((((((Moved.refl g w).setCell _).setCell _).setCell _).setCell _).setCell _).setCell _).setCell _).setCell _)
 have hF:∀{y:Ent} {v:Value×Value×Value},entR.F base (some g) w y v→entR.F base (some g) _ y v:=fun {y v} hy=>⟨hy.1.other hm,hy.2.1.other hm,hy.2.2.other hm⟩
 refine⟨us.set i (u,u2,u3),by rw [List.length_set,List.length_set];exact h1,?_,?_⟩
 ·rw [List.length_set,zip_set,rowG_set8 _ _ _ _ (by rw [List.length_zip,h1,Nat.min_self];exact hi)]
  exact s7.1
 ·intro k v y hv hy
  exact set_F (P:=fun y v=>entR.F base (some g) _ y v) (fun k v y hv hy=>hF (h3 k v y hv hy)) (hF hu) k v y hv hy
theorem itsF_rest:∀(f:Nat) (l:List UInt8) (acc xs:List Itm) (r:List UInt8),itsF f l acc=some (xs,r)→∃k,k≤l.length∧r=l.drop k
 | 0,l,acc,xs,r,h=>by cases h
 | f+1,l,acc,xs,r,h=>by
  by_cases h41:l.head? = some 41
  ·rw [itsF_end f l acc h41]at h
   obtain⟨_,rfl⟩:=Prod.mk.inj (Option.some.inj h)
   exact⟨1,by cases l with | nil=>cases h41 | cons c l=>simp,rfl⟩
  ·cases hi:itmL l with
   | none=>rw [itsF_none f l acc h41 hi]at h;cases h
   | some x =>
    obtain⟨g,ps,m⟩:=x
    cases he:endI (l.drop m)with
    | false=>rw [itsF_bad f l acc g ps m h41 hi he]at h;cases h
    | true =>
     rw [itsF_some f l acc g ps m h41 hi he]at h
     have hm:=itmL_le l g ps m hi
     obtain⟨k,hk,rfl⟩:=itsF_rest f _ _ _ _ h
     have h1:=spc_le (l.drop m)
     rw [List.length_drop]at h1
     rw [spD_drop,List.length_drop,List.length_drop]at hk
     exact⟨m+spcL (l.drop m)+k,by omega,by rw [spD_drop,List.drop_drop,List.drop_drop];congr 1;omega⟩
theorem mem_rest (l:List UInt8) (M:Mem) (r:List UInt8) (h:memL l=some (M,r)):∃k,k≤l.length∧r=l.drop k:=by
 unfold memL at h
 split at h
 ·rename_i h40
  have hl1:1≤l.length:=by cases l with | nil=>cases h40 | cons c l=>simp
  unfold innL itsL at h
  cases hi:itsF ((l.drop 1).length+1) (spD (l.drop 1)) []with
  | none=>rw [hi]at h;cases h
  | some x =>
   obtain⟨xs,q⟩:=x
   rw [hi]at h
   dsimp only at h
   obtain⟨k,hk,hq⟩:=itsF_rest _ _ _ _ _ hi
   have h1:=spc_le (l.drop 1)
   rw [List.length_drop]at h1
   rw [spD_drop,List.length_drop,List.length_drop]at hk
   cases hp:psL q [] 0 with
   | none=>rw [hp]at h;cases h
   | some y =>
    obtain⟨ps,m⟩:=y
    rw [hp]at h
    have p2:=psL_le _ _ _ _ _ _ (zR _) hp
    rw [hq,spD_drop,List.length_drop,List.length_drop,List.length_drop]at p2
    obtain⟨_,rfl⟩:=Prod.mk.inj (Option.some.inj h)
    exact⟨1+spcL (l.drop 1)+k+m,by omega,by rw [hq,spD_drop,List.drop_drop,List.drop_drop,List.drop_drop];congr 1;omega⟩
 ·cases hi:itmL l with
  | none=>rw [hi]at h;cases h
  | some x =>
   obtain⟨g,ps,m⟩:=x
   rw [hi]at h
   obtain⟨_,rfl⟩:=Prod.mk.inj (Option.some.inj h)
   exact⟨m,itmL_le _ _ _ _ hi,rfl⟩
theorem entK_rest (keys:Bool) (l:List UInt8) (E:Ent) (r:List UInt8) (h:entK keys l=some (E,r)):∃k,1≤k∧k≤l.length∧r=l.drop k:=by
 have one:∀(l:List UInt8) (M:Mem) (r:List UInt8),memL l=some (M,r)→∃k,1≤k∧k≤l.length∧r=l.drop k:=fun l M r h=>by
  obtain⟨k,hk,rfl⟩:=mem_rest l M r h
  have h2:=(mem_right l M _ h).2
  have h3:1≤memsz M:=by unfold memsz;omega
  rw [List.length_drop]at h2
  exact⟨k,by omega,hk,rfl⟩
 cases keys
 ·unfold entK at h
  rw [if_neg (by decide)]at h
  cases hm:memL l with
  | none=>rw [hm]at h;cases h
  | some x =>
   obtain⟨M,q⟩:=x
   rw [hm]at h
   obtain⟨_,rfl⟩:=Prod.mk.inj (Option.some.inj h)
   exact one l M q hm
 ·unfold entK at h
  rw [if_pos rfl]at h
  unfold entL at h
  split at h
  ·cases h
  ·rename_i h0
   have hkl:=klen_le l
   cases hv:valM (l.drop (klen l))with
   | none=>rw [hv]at h;cases h
   | some x =>
    obtain⟨M,q⟩:=x
    rw [hv]at h
    dsimp only at h
    obtain⟨_,rfl⟩:=Prod.mk.inj (Option.some.inj h)
    unfold valM at hv
    split at hv
    ·rename_i h61
     have hl1:1≤(l.drop (klen l)).length:=by
      cases hd:l.drop (klen l)with
      | nil=>rw [hd]at h61;cases h61
      | cons c q=>simp
     rw [List.length_drop]at hl1
     obtain⟨k,hk1,hk,rfl⟩:=one _ _ _ hv
     rw [List.length_drop,List.length_drop]at hk
     exact⟨klen l+1+k,by omega,by omega,by rw [List.drop_drop,List.drop_drop];congr 1;omega⟩
    ·cases hp:psL (l.drop (klen l)) [] 0 with
     | none=>rw [hp]at hv;cases hv
     | some y =>
      obtain⟨ps,m⟩:=y
      rw [hp]at hv
      have p2:=psL_le _ _ _ _ _ _ (zR _) hp
      rw [List.length_drop]at p2
      obtain⟨_,rfl⟩:=Prod.mk.inj (Option.some.inj hv)
      exact⟨klen l+m,by omega,by omega,by rw [List.drop_drop]⟩
theorem entK_nil (keys:Bool):entK keys []=none:=by cases keys<;>rfl
def shK (keys:Bool) (l:List Ent):List Ent:=if keys then oeK l else l
theorem shK_on (l:List Ent) (E:Ent):shK true (l++[E])=putE (shK true l) E:=by
 show oeK (l++[E])=putE (oeK l) E
 unfold oeK
 rw [List.foldl_append]
 rfl
theorem putE_len (acc:List Ent) (E:Ent):(putE acc E).length≤acc.length+1:=by
 unfold putE
 split
 ·rw [List.length_set];omega
 ·simp
theorem shK_len (keys:Bool):∀l:List Ent,(shK keys l).length≤l.length:=by
 cases keys
 ·intro l;exact zR _
 ·intro l
  have:∀(es acc:List Ent),(es.foldl putE acc).length≤acc.length+es.length:=by
   intro es
   induction es with
   | nil=>intro acc;simp
   | cons e es ih =>
    intro acc
    have h1:=ih (putE acc e)
    have h2:=putE_len acc e
    rw [List.foldl_cons,List.length_cons]
    omega
  have h:=this l []
  simpa [shK,oeK] using h
theorem shK_nodup (l:List Ent):((shK true l).map Ent.key).Nodup:=foldE_nodup l [] (by simp)
def rparPost (o:Option (List Ent)) (w:World) (e:Ending) (w':World):Prop:=
 Below w.heap.size w w'∧match o with
  | none=>e=.returned (.tuple #[.slice none 0 0,.int .i64 2])
  | some xs=>∃v,e=.returned (.tuple #[v,.int .i64 0])∧GOff entR 0 none w' v xs
theorem eidx_only (ks:List (List UInt8)) (k:List UInt8) (hn:ks.Nodup) (i:Nat) (hk:ks[i]? = some k):idxL ks k=i:=by
  obtain⟨hi,hv⟩:=List.getElem?_eq_some_iff.1 hk
  have hm:idxL ks k<ks.length:=(idxL_lt _ _).2 (List.mem_of_getElem? hk)
  have hf:ks[idxL ks k]=k:=by
    have:=List.findIdx_getElem (xs:=ks) (p:=(·==k)) (w:=hm)
    exact eq_of_beq this
  exact(List.getElem_inj hn).1 (hf.trans hv.symm)
theorem putE_at (acc:List Ent) (E:Ent) (t:Nat) (q:Ent) (hn:(acc.map Ent.key).Nodup) (hq:acc[t]? = some q) (hk:q.key=E.key):putE acc E=acc.set t E:=by
 have h1:idxL (acc.map Ent.key) E.key=t:=eidx_only _ _ hn t (by rw [List.getElem?_map,hq,← hk]<;>rfl)
 unfold putE
 rw [h1,if_pos (List.getElem?_eq_some_iff.1 hq).1]
theorem putE_no (acc:List Ent) (E:Ent) (h:∀(m:Nat) (q:Ent),m<acc.length→acc[m]? = some q→q.key≠E.key):putE acc E=acc++[E]:=by
 refine putE_new acc E ?_
 intro hm
 obtain⟨q,hq,hk⟩:=List.mem_map.1 hm
 obtain⟨m,hm2⟩:=List.getElem?_of_mem hq
 exact h m q (List.getElem?_eq_some_iff.1 hm2).1 hm2 hk
theorem rparse_on (s : ByteArray) (w : World) (hs : s.size ≤ 100000) :
    Calls Tryz.prog 138 #[.string s, .bool true] w (rparPost ((sepL (entK true) s.data.toList).map (shK true)) w) := by
  obtain ⟨i0, hi, hz0, hz1, hz2⟩ := info_parts info_rent
  obtain ⟨ns, hns⟩ : ∃ ns, spcL s.data.toList = ns := ⟨_, rfl⟩
  have hspc := spc_at s.data.toList
  have hnl := spc_le s.data.toList
  rw [← Lib.size_eq] at hnl
  rw [hns] at hspc hnl
  have Hspc := zH hspc
  have HSD : Hid (spD s.data.toList = s.data.toList.drop ns) := zH (by rw [spD_drop, hns])
  have HSL : Hid (sepL (entK true) s.data.toList = if spD s.data.toList = [] then some [] else sepF (entK true) (s.size + 1) (spD s.data.toList) []) := zH (by rw [Lib.size_eq] <;> rfl)
  clear hspc hns
  go_enter Tryz.func138, Tryz.ntmps138
  go_wp2_with fail
  go_loopw [7] (fun a wr => ∃ j : Nat, j ≤ ns ∧ a = .int .i64 (j : Int) ∧ wr = w) (fun a _ => s.size - (intOf a).toNat)
  case atStart => exact ⟨0, Nat.zero_le _, rfl, rfl⟩
  case round =>
    obtain ⟨J, hj, rfl, rfl⟩ := hrel
    have hjs : J ≤ s.size := by omega
    have hjn := Hspc.out J hj
    by_cases hlt2 : J < s.size
    · have hh := head_is s J hlt2 32
      cases hc : (((s[J]'hlt2).toNat : Int) == 32)
      · have hjn2 : J = ns := by
          by_cases h : J < ns
          · rw [hh.1 (hjn.2 h)] at hc
            exact absurd hc (by decide)
          · omega
        have H0 : Hid (sepL (entK true) s.data.toList = sepF (entK true) (s.size + 1) (s.data.toList.drop J) []) := zH (by
          rw [HSL.out, if_neg, HSD.out, hjn2]
          rw [HSD.out, ← hjn2]
          intro e
          have := congrArg List.length e
          rw [List.length_drop, ← Lib.size_eq, List.length_nil] at this
          omega)
        have e0 : ((J : Int) == (s.size : Int)) = false := by simp; omega
        have hfl : s.size - J < s.size + 1 := by omega
        have HB0 := zH (Below.refl wr.heap.size wr)
        clear hh hjn Hspc hjn2 HSD HSL hj hnl
        rename World => W0
        go_wp2_with fail
        go_loopw [6, 7] (fun v a wx => ∃ (K f : Nat) (all : List Ent) (av : Option Addr) (cv : Nat), v = .slice av (shK true all).length cv ∧ a = .int .i64 (K : Int) ∧ K ≤ s.size ∧ s.size - K < f ∧ all.length ≤ K ∧ Hid (sepL (entK true) s.data.toList = sepF (entK true) f (s.data.toList.drop K) all) ∧ OwnG entR 228 wx W0.heap.size (.slice av (shK true all).length cv) (shK true all) ∧ Below W0.heap.size W0 wx) (fun _ a _ => s.size - (intOf a).toNat)
        case atStart => exact ⟨J, _, [], none, 0, rfl, rfl, hjs, hfl, Nat.zero_le _, zH H0.out, OwnG.nothing _ _ _ _, HB0.out⟩
        case round =>
          obtain ⟨K, f, all, av, cv, rfl, rfl, hK, hf, hal, H, hown, hb⟩ := hrel
          have HO := zH hown
          have HB := zH hb
          clear H0 hfl HB0 hown hb e0 hc
          rename World => W1
          obtain ⟨f, rfl⟩ : ∃ f', f = f' + 1 := ⟨f - 1, by omega⟩
          have hxd : (s.extract K s.size).data.toList = s.data.toList.drop K := Lib.extract_to_end s K
          have hxs : (s.extract K s.size).size = s.size - K := by rw [Lib.size_eq, hxd, List.length_drop, ← Lib.size_eq]
          have cE := fun W => rentry_any (s.extract K s.size) true W (by omega)
          rw [hxd, hxs] at cE
          clear hxd hxs
          cases hent : entK true (s.data.toList.drop K) with
          | none =>
            have HR : Hid (sepL (entK true) s.data.toList = none) := zH (by rw [H.out, sepF_none _ _ _ _ hent])
            rw [hent] at cE
            clear hent H
            go_wp2_with fail
            refine (cE _).mono ?_
            rintro e w2 ⟨hb2, K0, m, rfl⟩
            have HB2 := zH (HB.out.trans (hb2.mono HB.out.size))
            clear hb2 cE
            go_wp2_with fail
            refine bodyPost_ret (v := .tuple #[.slice none 0 0, .int .i64 2]) (by simp [results, Tryz.results138, go_sem]) rfl ⟨HB2.out.alloc HB2.out.size _, ?_⟩
            rw [HR.out]
            rfl
          | some x =>
            obtain ⟨E, r⟩ := x
            obtain ⟨k, hk1, hk2, hr⟩ := entK_rest true _ _ _ hent
            rw [List.length_drop, ← Lib.size_eq] at hk2
            obtain ⟨K2, hK2⟩ : ∃ K2, K + k = K2 := ⟨_, rfl⟩
            rw [List.drop_drop, hK2] at hr
            subst hr
            rw [hent] at cE
            have HE := zH hent
            have HZ : Hid (s.size - K - (s.data.toList.drop K2).length = k) := zH (by rw [List.length_drop, ← Lib.size_eq]; omega)
            have hK2s : K2 ≤ s.size := by omega
            obtain ⟨K3, hK3⟩ : ∃ K3, K2 + blcL (s.data.toList.drop K2) = K3 := ⟨_, rfl⟩
            have hK3l := blcL_le (s.data.toList.drop K2)
            rw [List.length_drop, ← Lib.size_eq] at hK3l
            have HBL : Hid (blD (s.data.toList.drop K2) = s.data.toList.drop K3) := zH (by rw [blD_drop, List.drop_drop, hK3])
            have cB1 := fun W => rblanks_any s K2 W hs hK2s
            rw [hK3] at cB1
            have q1 : (K : Int) + (k : Int) = (K2 : Int) := by omega
            have hK3s : K3 ≤ s.size := by omega
            clear hent
            go_wp2_with fail
            refine (cE _).mono ?_
            rintro e w2 ⟨hb2, v2, h2, hv2⟩
            rw [HZ.out] at h2
            subst h2
            obtain ⟨u, vi, vp, rfl, hF⟩ := hv2
            obtain ⟨pa1, pb1, rfl⟩ := hF.1.form
            obtain ⟨pa2, pb2, rfl⟩ := hF.2.1.form
            obtain ⟨pa3, pb3, rfl⟩ := hF.2.2.form
            have HF := zH hF
            have HB2 := zH hb2
            clear hb2 hF cE
            have hnd := shK_nodup all
            have hal2 := shK_len true all
            have HSh := zH (shK_on all E)
            obtain ⟨acc, hacc⟩ : ∃ acc, shK true all = acc := ⟨_, rfl⟩
            have HAcc := zH hacc
            have HO' : Hid (OwnG entR 228 W1 W0.heap.size (.slice av acc.length cv) acc) := zH (hacc ▸ HO.out)
            rw [hacc] at hnd hal2 ⊢
            have HSh' : Hid (shK true (all ++ [E]) = putE acc E) := zH (by rw [HSh.out, hacc])
            have HND := zH hnd
            clear hacc hnd HSh HO
            have HO := HO'
            clear HO'
            have hbx : Below w2.heap.size w2 (w2.alloc (rentO (strB E.key) E.val.inner E.val.it.k E.val.it.n (strB E.val.it.s) (.slice pa1 E.val.it.ps.length pb1) (.slice pa2 E.val.its.length pb2) (.slice pa3 E.val.ps.length pb3))) := (Below.refl _ _).alloc (zR _) _
            have HCK : Hid (∀ X, Below (w2.heap.size + 1) (w2.alloc (rentO (strB E.key) E.val.inner E.val.it.k E.val.it.n (strB E.val.it.s) (.slice pa1 E.val.it.ps.length pb1) (.slice pa2 E.val.its.length pb2) (.slice pa3 E.val.ps.length pb3))) X → X.cell? ⟨w2.heap.size, 0, none⟩ = some (.string (strB E.key)) ∧ X.cell? ⟨w2.heap.size, 1, none⟩ = some (.bool E.val.inner) ∧ X.cell? ⟨w2.heap.size, 2, none⟩ = some (.int .i64 E.val.it.k) ∧ X.cell? ⟨w2.heap.size, 3, none⟩ = some (.int .i64 E.val.it.n) ∧ X.cell? ⟨w2.heap.size, 4, none⟩ = some (.string (strB E.val.it.s)) ∧ X.cell? ⟨w2.heap.size, 5, none⟩ = some (.slice pa1 E.val.it.ps.length pb1) ∧ X.cell? ⟨w2.heap.size, 6, none⟩ = some (.slice pa2 E.val.its.length pb2) ∧ X.cell? ⟨w2.heap.size, 7, none⟩ = some (.slice pa3 E.val.ps.length pb3)) := zH (fun X hX => by
              have kc := fun (i : Nat) => hX.cell (p := ⟨w2.heap.size, i, none⟩) (Nat.lt_succ_self _)
              refine ⟨?_, ?_, ?_, ?_, ?_, ?_, ?_, ?_⟩
              all_goals exact (kc _).trans (by simp))
            have HBX := zH hbx
            clear hbx
            go_wp2_with fail
            go_loopw [11, 12] (fun p i wx => ∃ (m : Nat) (P : Int), i = .int .i64 (m : Int) ∧ m ≤ acc.length ∧ p = .int .i64 P ∧ Hid ((P = -1 ∧ ∀ (m' : Nat) (q : Ent), m' < m → acc[m']? = some q → q.key ≠ E.key) ∨ (∃ (t : Nat) (q : Ent), P = (t : Int) ∧ acc[t]? = some q ∧ q.key = E.key)) ∧ Below (w2.heap.size + 1) (w2.alloc (rentO (strB E.key) E.val.inner E.val.it.k E.val.it.n (strB E.val.it.s) (.slice pa1 E.val.it.ps.length pb1) (.slice pa2 E.val.its.length pb2) (.slice pa3 E.val.ps.length pb3))) wx) (fun _ i _ => acc.length - (intOf i).toNat)
            case atStart => exact ⟨0, -1, rfl, Nat.zero_le _, rfl, zH (.inl ⟨rfl, fun m q hm => absurd hm (Nat.not_lt_zero _)⟩), Below.refl _ _⟩
            case round =>
              obtain ⟨m, P, rfl, hm, rfl, HP, hbX⟩ := hrel
              have HX := zH hbX
              have HBr : Hid (Below W1.heap.size W1 wr) := zH (HB2.out.trans ((HBX.out.trans (hbX.mono (by simp))).mono HB2.out.size))
              have hwz : w2.heap.size < wr.heap.size := by have := hbX.size; simp at this; omega
              clear hbX
              by_cases hmn : m < acc.length
              · obtain ⟨q, hq⟩ : ∃ q, acc[m]? = some q := ⟨_, List.getElem?_eq_getElem hmn⟩
                obtain ⟨us, hu1, hu2, _⟩ := HO.out
                obtain ⟨g, cap2, hsl, _, _, _⟩ := owns_slice hu2 (by omega)
                obtain ⟨rfl, _, rfl⟩ := Value.slice.inj hsl
                have hd0 : W1.cell? ⟨g, m * 8, none⟩ = some (.string (strB q.key)) := by
                  have hmu : m < us.length := by rw [hu1]; exact hmn
                  have hz : (acc.zip us)[m]? = some (q, us[m]) := by
                    rw [List.getElem?_zip_eq_some]
                    exact ⟨hq, List.getElem?_eq_getElem hmu⟩
                  have hr := rowG_at entR _ m 0 q us[m] hz (by decide)
                  exact owns_cells hu2 _ _ hr
                have d0 := cell_next HBr.out hd0
                obtain ⟨c0, _⟩ := HCK.out wr HX.out
                have mI : (m : Int) < (acc.length : Int) := by omega
                have m0 : (0 : Int) ≤ (m : Int) := by omega
                have HQ := zH hq
                clear hu1 hu2 hd0 hq hsl
                cases hkk : ((strB q.key).toList == (strB E.key).toList)
                · have HN2 : Hid ((P = -1 ∧ ∀ (m' : Nat) (q : Ent), m' < m + 1 → acc[m']? = some q → q.key ≠ E.key) ∨ (∃ (t : Nat) (q : Ent), P = (t : Int) ∧ acc[t]? = some q ∧ q.key = E.key)) := zH (by
                    rcases HP.out with ⟨h1, h2⟩ | h
                    · refine .inl ⟨h1, fun m' q' hm' hq' => ?_⟩
                      by_cases e : m' = m
                      · subst e
                        rw [HQ.out] at hq'
                        obtain rfl := Option.some.inj hq'
                        intro e2
                        rw [e2] at hkk
                        simp at hkk
                      · exact h2 m' q' (by omega) hq'
                    · exact .inr h)
                  clear HP
                  generalize strB q.key = QK at *
                  generalize strB E.key = EK at *
                  go_wp2_with fail
                  go_quiet (fail)
                  go_wp2_with fail
                  go_roundw
                  case rel =>
                    first
                    | exact ⟨m + 1, P, by go_num, by omega, rfl, HN2, HX.out.trans ((below_drewN _ _).mono (Nat.succ_le_of_lt hwz))⟩
                    | (repeat apply Exists.intro
                       exact ⟨⟨m + 1, P, by go_num, by omega, rfl, HN2, HX.out.trans ((below_drewN _ _).mono (Nat.succ_le_of_lt hwz))⟩, rfl⟩)
                  case measure => simp [intOf]; omega
                · have hqk : q.key = E.key := by
                    have h := eq_of_beq hkk
                    simpa only [Lib.toList_data, strB_data] using h
                  have HN2 : Hid (((m : Int) = -1 ∧ ∀ (m' : Nat) (q : Ent), m' < m + 1 → acc[m']? = some q → q.key ≠ E.key) ∨ (∃ (t : Nat) (q : Ent), (m : Int) = (t : Int) ∧ acc[t]? = some q ∧ q.key = E.key)) := zH (.inr ⟨m, q, rfl, HQ.out, hqk⟩)
                  clear HP hqk
                  generalize strB q.key = QK at *
                  generalize strB E.key = EK at *
                  go_wp2_with fail
                  go_quiet (fail)
                  go_wp2_with fail
                  go_roundw
                  case rel =>
                    first
                    | exact ⟨m + 1, (m : Int), by go_num, by omega, rfl, HN2, HX.out.trans ((below_drewN _ _).mono (Nat.succ_le_of_lt hwz))⟩
                    | (repeat apply Exists.intro
                       exact ⟨⟨m + 1, (m : Int), by go_num, by omega, rfl, HN2, HX.out.trans ((below_drewN _ _).mono (Nat.succ_le_of_lt hwz))⟩, rfl⟩)
                  case measure => simp [intOf]; omega
              · obtain rfl : m = acc.length := by omega
                obtain ⟨c0, c1, c2, c3, c4, c5, c6, c7⟩ := HCK.out wr HX.out
                have hFr : entR.F w2.heap.size none w2 E (.slice pa1 E.val.it.ps.length pb1, .slice pa2 E.val.its.length pb2, .slice pa3 E.val.ps.length pb3) → True := fun _ => trivial
                clear hFr
                have HF3 : Hid (entR.F W1.heap.size none wr E (.slice pa1 E.val.it.ps.length pb1, .slice pa2 E.val.its.length pb2, .slice pa3 E.val.ps.length pb3)) := zH (entR.below HF.out (HBX.out.trans (HX.out.mono (by simp))))
                rcases HP.out with ⟨rfl, hno⟩ | ⟨t, q, rfl, hq, hqk⟩
                · have HPE : Hid (shK true (all ++ [E]) = acc ++ [E]) := zH (by rw [HSh'.out, putE_no acc E hno])
                  clear HP hno HCK
                  obtain ⟨us, hu1, hu2, hu3⟩ := HO.out
                  have hbA : Below wr.heap.size wr (wr.alloc (rentO (strB E.key) E.val.inner E.val.it.k E.val.it.n (strB E.val.it.s) (.slice pa1 E.val.it.ps.length pb1) (.slice pa2 E.val.its.length pb2) (.slice pa3 E.val.ps.length pb3))) := (Below.refl _ _).alloc (zR _) _
                  have hOW := ownsRow_later (ownsRow_later hu2 HBr.out) hbA
                  have hnew := cells_new wr (entR.cells E (.slice pa1 E.val.it.ps.length pb1, .slice pa2 E.val.its.length pb2, .slice pa3 E.val.ps.length pb3)) 228
                  have HNew := zH hnew
                  clear hnew
                  have hzB := Nat.le_trans HB.out.size HBr.out.size
                  have hF2 := entR.below (entR.low (entR.avoid (blk' := (Value.slice av acc.length cv).ownBlock) HF3.out (fun k hk => (World.ownsRow.lt hu2 k hk).2)) HB.out.size) hbA
                  go_wp2_with (at_builtin; (refine wpList_append_lies _ rfl _ _ 139 rfl W0.heap.size 228 i0 (.agg #[.string ⟨#[]⟩, .bool false, .int .i64 0, .int .i64 0, .string ⟨#[]⟩, .slice none 0 0, .slice none 0 0, .slice none 0 0]) 8 128 Tryz.underlying139 hi hz0 hz1 hz2 rfl (by decide) (.slice av acc.length cv) acc.length (rowG entR (acc.zip us)) rfl hOW ⟨_, 0, none⟩ 1 1 (entR.cells E (.slice pa1 E.val.it.ps.length pb1, .slice pa2 E.val.its.length pb2, .slice pa3 E.val.ps.length pb3)) rfl rfl HNew.out (by simp [Value.oneCell', entR, memR]) (by decide) (by unfold maxLen; omega) (by omega) (by simp; omega) _ rfl ?_); intro g5 cap5 w5 hown5 hgrow5 hat5 hlt5)
                  have hN := OwnG.snoc (R := entR) (xs := acc) (us := us) hu1 (fun i u x hu hx => entR.below (entR.below (hu3 i u x hu hx) HBr.out) hbA) hF2 hown5 hgrow5 hat5
                  have hbw5 : Below W0.heap.size W0 w5 := ((HB.out.trans (HBr.out.mono HB.out.size)).trans (hbA.mono hzB)).grown hgrow5 (by simp; omega) (fun k e => (World.ownsRow.lt hu2 k e).1)
                  have HB5 := zH hbw5
                  have HLn : Hid ((shK true (all ++ [E])).length = acc.length + 1) := zH (by rw [HPE.out, List.length_append] <;> rfl)
                  have HN5 : Hid (OwnG entR 228 w5 W0.heap.size (.slice (some ⟨g5, 0, none⟩) (acc.length + 1) cap5) (shK true (all ++ [E]))) := zH (by rw [HPE.out]; exact hN)
                  clear hN hbw5 hgrow5 hown5 hOW hbA hF2 hu2 hu3 c0 c1 c2 c3 c4 c5 c6 c7
                  go_wp2_with fail
                  refine (cB1 _).mono ?_
                  rintro e w6 ⟨rfl, rfl⟩
                  by_cases hend : K3 = s.size
                  · have HR : Hid (sepL (entK true) s.data.toList = some (all ++ [E])) := zH (by rw [H.out, sepF_end _ _ _ _ _ _ HE.out (by rw [HBL.out, hend, List.drop_of_length_le (by rw [← Lib.size_eq]; omega)])])
                    have e1 : ((K3 : Int) == (s.size : Int)) = true := by simp; omega
                    clear H
                    go_wp2_with fail
                    refine bodyPost_ret (v := .tuple #[(.slice (some ⟨g5, 0, none⟩) (acc.length + 1) cap5), .int .i64 0]) (by simp [results, Tryz.results138, go_sem]) rfl ⟨HB5.out, ?_⟩
                    rw [HR.out]
                    exact ⟨_, rfl, HN5.out.off.low (Nat.zero_le _)⟩
                  · have hK3l : K3 < s.size := by omega
                    have e1 : ((K3 : Int) == (s.size : Int)) = false := by simp; omega
                    have hne : s.data.toList.drop K3 ≠ [] := by
                      intro e
                      have := congrArg List.length e
                      rw [List.length_drop, ← Lib.size_eq, List.length_nil] at this
                      omega
                    have hh := head_is s K3 hK3l 44
                    cases h44 : (((s[K3]'hK3l).toNat : Int) == 44)
                    · have HR : Hid (sepL (entK true) s.data.toList = none) := zH (by
                        rw [H.out]
                        refine sepF_bad _ _ _ _ _ _ HE.out (by rw [HBL.out]; exact hne) (by
                          rw [HBL.out]
                          intro e
                          rw [hh.1 e] at h44
                          exact absurd h44 (by decide)))
                      clear H hh hend hne
                      go_wp2_with fail
                      refine bodyPost_ret (v := .tuple #[.slice none 0 0, .int .i64 2]) (by simp [results, Tryz.results138, go_sem]) rfl ⟨HB5.out, ?_⟩
                      rw [HR.out]
                      rfl
                    · have h44' : (s.data.toList.drop K3).head? = some 44 := hh.2 (by simpa using h44)
                      obtain ⟨K4, hK4⟩ : ∃ K4, K3 + 1 + blcL (s.data.toList.drop (K3 + 1)) = K4 := ⟨_, rfl⟩
                      have hK4l := blcL_le (s.data.toList.drop (K3 + 1))
                      rw [List.length_drop, ← Lib.size_eq] at hK4l
                      have HM : Hid (sepL (entK true) s.data.toList = sepF (entK true) f (s.data.toList.drop K4) (all ++ [E])) := zH (by
                        rw [H.out, sepF_more _ _ _ _ _ _ HE.out (by rw [HBL.out]; exact hne) (by rw [HBL.out]; exact h44'), HBL.out, List.drop_drop, blD_drop, List.drop_drop, hK4])
                      have cB2 := fun W => rblanks_any s (K3 + 1) W hs (by omega)
                      rw [hK4] at cB2
                      have q2 : (K3 : Int) + 1 = ((K3 + 1 : Nat) : Int) := by omega
                      rw [← q2] at cB2
                      clear H hh hend hne h44' q2
                      by_cases hend2 : K4 = s.size
                      · have HR : Hid (sepL (entK true) s.data.toList = none) := zH (by
                          rw [HM.out, hend2, List.drop_of_length_le (by rw [← Lib.size_eq]; omega)]
                          cases f with
                          | zero => rfl
                          | succ f => exact sepF_none _ _ _ _ (entK_nil true))
                        have e2 : ((K4 : Int) == (s.size : Int)) = true := by simp; omega
                        go_wp2_with fail
                        refine (cB2 _).mono ?_
                        rintro e w6 ⟨rfl, rfl⟩
                        go_wp2_with fail
                        refine bodyPost_ret (v := .tuple #[.slice none 0 0, .int .i64 2]) (by simp [results, Tryz.results138, go_sem]) rfl ⟨HB5.out, ?_⟩
                        rw [HR.out]
                        rfl
                      · have e2 : ((K4 : Int) == (s.size : Int)) = false := by simp; omega
                        go_wp2_with fail
                        refine (cB2 _).mono ?_
                        rintro e w6 ⟨rfl, rfl⟩
                        go_wp2_with fail
                        go_roundw
                        case rel =>
                          first
                          | exact ⟨K4, f, all ++ [E], some ⟨g5, 0, none⟩, cap5, by rw [HLn.out], by go_num, by omega, by omega, by simp; omega, zH HM.out, by rw [HLn.out]; exact HN5.out, HB5.out⟩
                          | (repeat apply Exists.intro
                             exact ⟨⟨K4, f, all ++ [E], some ⟨g5, 0, none⟩, cap5, by rw [HLn.out], by go_num, by omega, by omega, by simp; omega, zH HM.out, by rw [HLn.out]; exact HN5.out, HB5.out⟩, rfl⟩)
                        case measure => simp [intOf]; omega
                · have htl := (List.getElem?_eq_some_iff.1 hq).1
                  have HPE : Hid (shK true (all ++ [E]) = acc.set t E) := zH (by rw [HSh'.out, putE_at acc E t q HND.out hq hqk])
                  clear HP hq hqk HCK
                  obtain ⟨us, hu1, hu2, hu3⟩ := HO.out
                  obtain ⟨g, cap2, hsl, hgB, hgW, _⟩ := owns_slice hu2 (by omega)
                  obtain ⟨rfl, _, rfl⟩ := Value.slice.inj hsl
                  have hOr : wr.ownsRow W0.heap.size 228 8 (.slice (some ⟨g, 0, none⟩) acc.length cv) acc.length (rowG entR (acc.zip us)) := ownsRow_later hu2 HBr.out
                  obtain ⟨t0, b0, f0⟩ := owns_cell hOr (t * 8) (by omega)
                  obtain ⟨t1, b1, f1⟩ := owns_cell hOr (t * 8 + 1) (by omega)
                  obtain ⟨t2, b2, f2⟩ := owns_cell hOr (t * 8 + 2) (by omega)
                  obtain ⟨t3, b3, f3⟩ := owns_cell hOr (t * 8 + 3) (by omega)
                  obtain ⟨t4, b4, f4⟩ := owns_cell hOr (t * 8 + 4) (by omega)
                  obtain ⟨t5, b5, f5⟩ := owns_cell hOr (t * 8 + 5) (by omega)
                  obtain ⟨t6, b6, f6⟩ := owns_cell hOr (t * 8 + 6) (by omega)
                  obtain ⟨t7, b7, f7⟩ := owns_cell hOr (t * 8 + 7) (by omega)
                  have tI : (t : Int) < (acc.length : Int) := by omega
                  have tz : (0 : Int) ≤ (t : Int) := by omega
                  have HOr : Hid (OwnG entR 228 wr W0.heap.size (.slice (some ⟨g, 0, none⟩) acc.length cv) acc) := zH (OwnG.below ⟨us, hu1, hu2, hu3⟩ HBr.out)
                  have HFg : Hid (entR.F W0.heap.size (some g) wr E (.slice pa1 E.val.it.ps.length pb1, .slice pa2 E.val.its.length pb2, .slice pa3 E.val.ps.length pb3)) := zH (entR.low (entR.avoid (blk' := some g) HF3.out (fun k hk => by cases hk; exact hgW)) HB.out.size)
                  have hN := OwnE.put HOr.out htl HFg.out
                  have hgw : W0.heap.size ≤ g := hgB
                  have hbw := HB.out.trans (HBr.out.mono HB.out.size)
                  have hbw5 := (((((((hbw.setCell (p := ⟨g, t * 8, none⟩) hgw (.string (strB E.key))).setCell (p := ⟨g, t * 8 + 1, none⟩) hgw (.bool E.val.inner)).setCell (p := ⟨g, t * 8 + 2, none⟩) hgw (.int .i64 E.val.it.k)).setCell (p := ⟨g, t * 8 + 3, none⟩) hgw (.int .i64 E.val.it.n)).setCell (p := ⟨g, t * 8 + 4, none⟩) hgw (.string (strB E.val.it.s))).setCell (p := ⟨g, t * 8 + 5, none⟩) hgw (.slice pa1 E.val.it.ps.length pb1)).setCell (p := ⟨g, t * 8 + 6, none⟩) hgw (.slice pa2 E.val.its.length pb2)).setCell (p := ⟨g, t * 8 + 7, none⟩) hgw (.slice pa3 E.val.ps.length pb3)
                  have HB5 := zH hbw5
                  have HLn : Hid ((shK true (all ++ [E])).length = acc.length) := zH (by rw [HPE.out, List.length_set])
                  rw [← HPE.out] at hN
                  have HN5 := zH hN
                  clear hN hbw5 hOr hu1 hu2 hu3 hbw hsl
                  go_wp2_with fail
                  refine (cB1 _).mono ?_
                  rintro e w6 ⟨rfl, rfl⟩
                  by_cases hend : K3 = s.size
                  · have HR : Hid (sepL (entK true) s.data.toList = some (all ++ [E])) := zH (by rw [H.out, sepF_end _ _ _ _ _ _ HE.out (by rw [HBL.out, hend, List.drop_of_length_le (by rw [← Lib.size_eq]; omega)])])
                    have e1 : ((K3 : Int) == (s.size : Int)) = true := by simp; omega
                    clear H
                    go_wp2_with fail
                    refine bodyPost_ret (v := .tuple #[(.slice (some ⟨g, 0, none⟩) acc.length cv), .int .i64 0]) (by simp [results, Tryz.results138, go_sem]) rfl ⟨HB5.out, ?_⟩
                    rw [HR.out]
                    exact ⟨_, rfl, HN5.out.off.low (Nat.zero_le _)⟩
                  · have hK3l : K3 < s.size := by omega
                    have e1 : ((K3 : Int) == (s.size : Int)) = false := by simp; omega
                    have hne : s.data.toList.drop K3 ≠ [] := by
                      intro e
                      have := congrArg List.length e
                      rw [List.length_drop, ← Lib.size_eq, List.length_nil] at this
                      omega
                    have hh := head_is s K3 hK3l 44
                    cases h44 : (((s[K3]'hK3l).toNat : Int) == 44)
                    · have HR : Hid (sepL (entK true) s.data.toList = none) := zH (by
                        rw [H.out]
                        refine sepF_bad _ _ _ _ _ _ HE.out (by rw [HBL.out]; exact hne) (by
                          rw [HBL.out]
                          intro e
                          rw [hh.1 e] at h44
                          exact absurd h44 (by decide)))
                      clear H hh hend hne
                      go_wp2_with fail
                      refine bodyPost_ret (v := .tuple #[.slice none 0 0, .int .i64 2]) (by simp [results, Tryz.results138, go_sem]) rfl ⟨HB5.out, ?_⟩
                      rw [HR.out]
                      rfl
                    · have h44' : (s.data.toList.drop K3).head? = some 44 := hh.2 (by simpa using h44)
                      obtain ⟨K4, hK4⟩ : ∃ K4, K3 + 1 + blcL (s.data.toList.drop (K3 + 1)) = K4 := ⟨_, rfl⟩
                      have hK4l := blcL_le (s.data.toList.drop (K3 + 1))
                      rw [List.length_drop, ← Lib.size_eq] at hK4l
                      have HM : Hid (sepL (entK true) s.data.toList = sepF (entK true) f (s.data.toList.drop K4) (all ++ [E])) := zH (by
                        rw [H.out, sepF_more _ _ _ _ _ _ HE.out (by rw [HBL.out]; exact hne) (by rw [HBL.out]; exact h44'), HBL.out, List.drop_drop, blD_drop, List.drop_drop, hK4])
                      have cB2 := fun W => rblanks_any s (K3 + 1) W hs (by omega)
                      rw [hK4] at cB2
                      have q2 : (K3 : Int) + 1 = ((K3 + 1 : Nat) : Int) := by omega
                      rw [← q2] at cB2
                      clear H hh hend hne h44' q2
                      by_cases hend2 : K4 = s.size
                      · have HR : Hid (sepL (entK true) s.data.toList = none) := zH (by
                          rw [HM.out, hend2, List.drop_of_length_le (by rw [← Lib.size_eq]; omega)]
                          cases f with
                          | zero => rfl
                          | succ f => exact sepF_none _ _ _ _ (entK_nil true))
                        have e2 : ((K4 : Int) == (s.size : Int)) = true := by simp; omega
                        go_wp2_with fail
                        refine (cB2 _).mono ?_
                        rintro e w6 ⟨rfl, rfl⟩
                        go_wp2_with fail
                        refine bodyPost_ret (v := .tuple #[.slice none 0 0, .int .i64 2]) (by simp [results, Tryz.results138, go_sem]) rfl ⟨HB5.out, ?_⟩
                        rw [HR.out]
                        rfl
                      · have e2 : ((K4 : Int) == (s.size : Int)) = false := by simp; omega
                        go_wp2_with fail
                        refine (cB2 _).mono ?_
                        rintro e w6 ⟨rfl, rfl⟩
                        go_wp2_with fail
                        go_roundw
                        case rel =>
                          first
                          | exact ⟨K4, f, all ++ [E], some ⟨g, 0, none⟩, cv, by rw [HLn.out], by go_num, by omega, by omega, by simp; omega, zH HM.out, by rw [HLn.out]; exact HN5.out, HB5.out⟩
                          | (repeat apply Exists.intro
                             exact ⟨⟨K4, f, all ++ [E], some ⟨g, 0, none⟩, cv, by rw [HLn.out], by go_num, by omega, by omega, by simp; omega, zH HM.out, by rw [HLn.out]; exact HN5.out, HB5.out⟩, rfl⟩)
                        case measure => simp [intOf]; omega
      · have hjn2 : J < ns := hjn.1 (hh.2 (by simpa using hc))
        clear hh hjn
        go_wp2_with fail
        go_roundw
        case rel => exact ⟨J + 1, hjn2, by go_num, by first | rfl | trivial⟩
        case measure => simp [intOf]; omega
    · obtain rfl : J = s.size := by omega
      have hjn2 : s.size = ns := by omega
      have HR : Hid (sepL (entK true) s.data.toList = some []) := zH (by
        rw [HSL.out, if_pos]
        rw [HSD.out, ← hjn2, List.drop_of_length_le (by rw [← Lib.size_eq]; omega)])
      have e0 : ((s.size : Int) == (s.size : Int)) = true := by simp
      clear hjn Hspc HSD HSL hjn2
      go_wp2_with fail
      refine bodyPost_ret (v := .tuple #[.slice none 0 0, .int .i64 0]) (by simp [results, Tryz.results138, go_sem]) rfl ⟨Below.refl _ _, ?_⟩
      rw [HR.out]
      exact ⟨_, rfl, none, 0, rfl, .inl rfl⟩
theorem rdict_any (s:ByteArray) (w:World) (hs:s.size≤100000) :
  Calls Tryz.prog 103 #[.string s] w (rparPost (dicL s.data.toList) w):=by
 have cP:=rparse_on s w hs
 have hd:(sepL (entK true) s.data.toList).map (shK true)=dicL s.data.toList:=rfl
 rw [hd]at cP
 clear hd
 cases hx:dicL s.data.toList with
 | none =>
  rw [hx]at cP
  clear hx
  go_enter Tryz.func103,Tryz.ntmps103
  go_wp2_with fail
  refine cP.mono ?_
  rintro e w1 ⟨hb,rfl⟩
  go_wp2_with fail
  exact bodyPost_ret (v:=.tuple #[.slice none 0 0,.int .i64 2]) (by simp [results,Tryz.results103,go_sem]) rfl ⟨hb,rfl⟩
 | some xs =>
  rw [hx]at cP
  clear hx
  go_enter Tryz.func103,Tryz.ntmps103
  go_wp2_with fail
  refine cP.mono ?_
  rintro e w1 ⟨hb,v,rfl,hv⟩
  obtain⟨ao,cap,rfl,hc⟩:=hv
  go_wp2_with fail
  exact bodyPost_ret (v:=.tuple #[.slice ao xs.length cap,.int .i64 0]) (by simp [results,Tryz.results103,go_sem]) rfl ⟨hb,_,rfl,ao,cap,rfl,hc⟩
end Go.Proofs.YtfaedmbfabfmeaaGreatDoor
