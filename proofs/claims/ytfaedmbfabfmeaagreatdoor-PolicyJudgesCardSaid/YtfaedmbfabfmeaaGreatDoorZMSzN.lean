/- The contract of the document's Size of members (sculleryref04). · Plain: what is read of members and entries may be printed; how long that is. -/
import Derived.Test.YtfaedmbfabfmeaaGreatDoorZMMemZ
import Derived.Test.YtfaedmbfabfmeaaGreatDoorZMItmC
import Derived.Deep.DeepCutAuto
import Derived.Deep.RegionHeld3
namespace Go.Proofs.YtfaedmbfabfmeaaGreatDoor
open Go.RowKit Go.Maps
def Box1 (w:World) (o:Obj) (W:World):Prop:=Below (w.heap.size+1) (w.alloc o) W
theorem Box1.next {w W W1:World} {o:Obj} (h:Box1 w o W) (hb:Below W.heap.size W W1):Box1 w o W1:=
 Below.trans h (hb.mono (by have:=Below.size h;simp at this;omega))
theorem Box1.later {w W:World} {o:Obj} (h:Box1 w o W):Below w.heap.size w W:=
 ((Below.refl w.heap.size w).alloc (zR _) o).trans (Below.mono h (by omega))
end Go.Proofs.YtfaedmbfabfmeaaGreatDoor
namespace Go.Proofs.YtfaedmbfabfmeaaGreatDoor
theorem jn_all {α:Type} {f:α→Option (List UInt8)} {sep:List UInt8}:∀(xs:List α) (b:Bool),(∀x∈xs,∃t,f x=some t)→∃a,jnGo f sep b xs=some a
 | [],_,_=>⟨[],rfl⟩
 | x :: xs,b,h=>by
  obtain⟨t,ht⟩:=h x (by simp)
  obtain⟨a,ha⟩:=jn_all (f:=f) (sep:=sep) xs false (fun y hy=>h y (by simp [hy]))
  exact⟨_,by rw [jnGo_some f sep b x xs t ht,ha]<;>rfl⟩
theorem ps_right (l:List UInt8) (ps:List Prm) (k:Nat) (h:psL l [] 0=some (ps,k)):∃u,ppT ps=some u:=by
 obtain⟨h1,h2,_⟩:=psL_right l.length l.length l [] 0 ps k (zR _) (zR _) (by simp) (fun p hp=>by cases hp) h
 obtain⟨u,hu⟩:=ppGo_right l.length ps h2
 refine⟨u,?_⟩
 unfold ppT
 rw [if_neg (by simpa [eqK] using h1)]
 exact hu
theorem itm_right (l:List UInt8) (g:Got) (ps:List Prm) (m:Nat) (h:itmL l=some (g,ps,m)):1≤m∧∃u,itT ⟨g.k,g.n,g.s,ps⟩=some u:=by
 unfold itmL at h
 cases hr:readL l with
 | none=>rw [hr]at h;cases h
 | some q =>
  rw [hr]at h
  dsimp only at h
  obtain⟨r1,r2,_⟩:=readL_right l q hr
  cases hp:psL (l.drop q.m) [] 0 with
  | none=>rw [hp]at h;cases h
  | some y =>
   obtain⟨ps',k⟩:=y
   rw [hp]at h
   obtain⟨u,hu⟩:=ps_right _ _ _ hp
   dsimp only at h
   obtain⟨rfl,h2⟩:=Prod.mk.inj (Option.some.inj h)
   obtain⟨rfl,rfl⟩:=Prod.mk.inj h2
   refine⟨by omega,textL q.k q.n q.s++u,?_⟩
   unfold itT prT
   dsimp only
   rw [if_pos r1,hu]
   rfl
theorem itmsz_app:∀(xs ys:List Itm),itmsz (xs++ys)=itmsz xs+itmsz ys
 | [],ys=>by simp [itmsz]
 | x :: xs,ys=>by rw [List.cons_append,itmsz,itmsz,itmsz_app xs ys];omega
theorem itsF_right:∀(f:Nat) (l:List UInt8) (acc xs:List Itm) (r:List UInt8),(∀x∈acc,∃u,itT x=some u)→itsF f l acc=some (xs,r)→(∀x∈xs,∃u,itT x=some u)∧itmsz xs+2*r.length≤itmsz acc+2*l.length
 | 0,l,acc,xs,r,_,h=>by cases h
 | f+1,l,acc,xs,r,ha,h=>by
  by_cases h41:l.head? = some 41
  ·rw [itsF_end f l acc h41]at h
   obtain⟨rfl,rfl⟩:=Prod.mk.inj (Option.some.inj h)
   exact⟨ha,by rw [List.length_drop];omega⟩
  ·cases hi:itmL l with
   | none=>rw [itsF_none f l acc h41 hi]at h;cases h
   | some x =>
    obtain⟨g,ps,m⟩:=x
    cases he:endI (l.drop m)with
    | false=>rw [itsF_bad f l acc g ps m h41 hi he]at h;cases h
    | true =>
     rw [itsF_some f l acc g ps m h41 hi he]at h
     obtain⟨i1,i2⟩:=itm_right l g ps m hi
     have i3:=itmL_used l g ps m hi
     have i4:=itmL_le l g ps m hi
     have i5:=spD_le (l.drop m)
     rw [List.length_drop]at i5
     obtain⟨q1,q2⟩:=itsF_right f _ _ _ _ (by
      intro y hy
      rcases List.mem_append.1 hy with hy | hy
      ·exact ha y hy
      ·obtain rfl:=List.mem_singleton.1 hy
       exact i2) h
     refine⟨q1,?_⟩
     have e:itmsz [(⟨g.k,g.n,g.s,ps⟩:Itm)]=szN ps+g.s.length+1:=by simp [itmsz]
     rw [itmsz_app,e]at q2
     omega
theorem inn_right (l:List UInt8) (M:Mem) (r:List UInt8) (h:innL l=some (M,r)):(∃t,memT M=some t)∧memsz M+2*r.length≤2*l.length+2:=by
 unfold innL itsL at h
 cases hi:itsF (l.length+1) (spD l) []with
 | none=>rw [hi]at h;cases h
 | some x =>
  obtain⟨xs,q⟩:=x
  rw [hi]at h
  dsimp only at h
  obtain⟨q1,q2⟩:=itsF_right _ _ _ _ _ (fun x hx=>by cases hx) hi
  have q3:=spD_le l
  cases hp:psL q [] 0 with
  | none=>rw [hp]at h;cases h
  | some y =>
   obtain⟨ps,m⟩:=y
   rw [hp]at h
   obtain⟨u,hu⟩:=ps_right _ _ _ hp
   have p1:=psL_used _ _ _ _ _ _ (zR _) hp
   have p2:=psL_le _ _ _ _ _ _ (zR _) hp
   have e0:szN []=0:=rfl
   have e1:itmsz []=0:=rfl
   obtain⟨rfl,rfl⟩:=Prod.mk.inj (Option.some.inj h)
   refine⟨?_,?_⟩
   ·obtain⟨a,ha⟩:=jn_all (f:=itT) (sep:=[32]) xs true q1
    refine⟨40 :: (a++41 :: u),?_⟩
    unfold memT
    rw [if_neg (by simp [kindL,sameI,noItm,(samePs_iff [] []).2 rfl]),if_neg (by simp),ha]
    dsimp only
    rw [hu]
   ·have:memsz ⟨true,noItm,xs,ps⟩=szN ps+szN []+0+1+itmsz xs:=rfl
    rw [this,List.length_drop]
    omega
theorem mem_right (l:List UInt8) (M:Mem) (r:List UInt8) (h:memL l=some (M,r)):(∃t,memT M=some t)∧memsz M+2*r.length≤2*l.length:=by
 unfold memL at h
 split at h
 ·rename_i h40
  obtain⟨q1,q2⟩:=inn_right _ _ _ h
  refine⟨q1,?_⟩
  cases l with
  | nil=>cases h40
  | cons c l =>
   rw [List.drop_one,List.tail_cons]at q2
   rw [List.length_cons]
   omega
 ·cases hi:itmL l with
  | none=>rw [hi]at h;cases h
  | some x =>
   obtain⟨g,ps,m⟩:=x
   rw [hi]at h
   obtain⟨i1,u,i2⟩:=itm_right l g ps m hi
   have i3:=itmL_used l g ps m hi
   have i4:=itmL_le l g ps m hi
   obtain⟨rfl,rfl⟩:=Prod.mk.inj (Option.some.inj h)
   refine⟨⟨u,?_⟩,?_⟩
   ·unfold memT
    rw [if_neg (by simp [kindL]),if_pos rfl]
    exact i2
   ·have:memsz ⟨false,⟨g.k,g.n,g.s,ps⟩,[],[]⟩=szN []+szN ps+g.s.length+1+0:=rfl
    have e0:szN []=0:=rfl
    rw [this,List.length_drop]
    omega
def entsz (E:Ent):Nat:=E.key.length+memsz E.val
theorem ent_right (l:List UInt8) (E:Ent) (r:List UInt8) (h:entL l=some (E,r)):(∃t,enT E=some t)∧entsz E+2*r.length≤2*l.length:=by
 unfold entL at h
 split at h
 ·cases h
 ·rename_i hk0
  have hkl:=klen_le l
  have hkey:keyL (l.take (klen l))=true:=keyL_take l hk0
  have key:∀(M:Mem) (r:List UInt8),(∃t,memT M=some t)→memsz M+2*r.length≤2*(l.drop (klen l)).length+1→(∃t,enT ⟨l.take (klen l),M⟩=some t)∧entsz ⟨l.take (klen l),M⟩+2*r.length≤2*l.length:=by
   intro M r hM hs
   obtain⟨t,ht⟩:=hM
   refine⟨?_,?_⟩
   ·unfold enT
    dsimp only
    rw [ht]
    dsimp only
    rw [hkey,if_neg (by decide)]
    split
    ·exact⟨_,rfl⟩
    ·exact⟨_,rfl⟩
   ·unfold entsz
    dsimp only
    rw [List.length_take]
    rw [List.length_drop]at hs
    omega
  cases hv:valM (l.drop (klen l))with
  | none=>rw [hv]at h;cases h
  | some x =>
   obtain⟨M,q⟩:=x
   rw [hv]at h
   dsimp only at h
   obtain⟨rfl,rfl⟩:=Prod.mk.inj (Option.some.inj h)
   unfold valM at hv
   split at hv
   ·obtain⟨q1,q2⟩:=mem_right _ _ _ hv
    refine key _ _ q1 ?_
    rw [List.length_drop]at q2
    omega
   ·cases hp:psL (l.drop (klen l)) [] 0 with
    | none=>rw [hp]at hv;cases hv
    | some y =>
     obtain⟨ps,m⟩:=y
     rw [hp]at hv
     have p1:=psL_used _ _ _ _ _ _ (zR _) hp
     have p2:=psL_le _ _ _ _ _ _ (zR _) hp
     obtain⟨u,hu⟩:=ps_right _ _ _ hp
     have e0:szN []=0:=rfl
     obtain⟨rfl,rfl⟩:=Prod.mk.inj (Option.some.inj hv)
     refine key _ _ ⟨textL 6 1 []++u,?_⟩ ?_
     ·unfold memT
      rw [if_neg (by simp [kindL]),if_pos rfl]
      unfold itT prT
      dsimp only
      rw [if_pos (by kernel_rfl),hu]
      rfl
     ·have:memsz ⟨false,⟨6,1,[],ps⟩,[],[]⟩=szN []+szN ps+0+1+0:=rfl
      rw [this,List.length_drop]
      omega
def entSum:List Ent→Nat
 | []=>0
 | E :: Es=>entsz E+entSum Es
theorem entSum_app:∀(xs ys:List Ent),entSum (xs++ys)=entSum xs+entSum ys
 | [],ys=>by simp [entSum]
 | x :: xs,ys=>by rw [List.cons_append,entSum,entSum,entSum_app xs ys];omega
theorem entSum_set:∀(xs:List Ent) (i:Nat) (E:Ent),entSum (xs.set i E)≤entSum xs+entsz E
 | [],_,_=>by simp [entSum]
 | x :: xs,0,E=>by simp only [List.set_cons_zero,entSum];omega
 | x :: xs,i+1,E=>by
  have:=entSum_set xs i E
  simp only [List.set_cons_succ,entSum]
  omega
theorem sepE_sum:∀(f:Nat) (l:List UInt8) (acc xs:List Ent),sepF entL f l acc=some xs→entSum xs≤entSum acc+2*l.length
 | 0,l,acc,xs,h=>by cases h
 | f+1,l,acc,xs,h=>by
  cases hr:entL l with
  | none=>rw [sepF_none entL f l acc hr]at h;cases h
  | some x =>
   obtain⟨E,r⟩:=x
   have hE:=(ent_right l E r hr).2
   have e:entSum [E]=entsz E:=by simp [entSum]
   by_cases hb:blD r=[]
   ·rw [sepF_end entL f l r acc E hr hb]at h
    obtain rfl:=Option.some.inj h
    rw [entSum_app,e]
    omega
   ·by_cases hc:(blD r).head? = some 44
    ·rw [sepF_more entL f l r acc E hr hb hc]at h
     have h1:=blD_le r
     have h2:=blD_le ((blD r).drop 1)
     rw [List.length_drop]at h2
     have:=sepE_sum f _ _ _ h
     rw [entSum_app,e]at this
     omega
    ·rw [sepF_bad entL f l r acc E hr hb hc]at h;cases h
theorem putE_sum (acc:List Ent) (E:Ent):entSum (putE acc E)≤entSum acc+entsz E:=by
 unfold putE
 split
 ·exact entSum_set _ _ _
 ·rw [entSum_app];simp [entSum]
theorem foldE_sum:∀(es acc:List Ent),entSum (es.foldl putE acc)≤entSum acc+entSum es
 | [],acc=>by simp [entSum]
 | e :: es,acc=>by
  have h1:=putE_sum acc e
  have h2:=foldE_sum es (putE acc e)
  rw [List.foldl_cons,entSum]
  omega
theorem putE_mem (acc:List Ent) (e x:Ent) (h:x∈putE acc e):x=e∨x∈acc:=by
 unfold putE at h
 split at h
 ·exact(List.mem_or_eq_of_mem_set h).symm
 ·rcases List.mem_append.1 h with h | h
  ·exact .inr h
  ·exact .inl (List.mem_singleton.1 h)
theorem foldE_mem:∀(es acc:List Ent) (x:Ent),x∈es.foldl putE acc→x∈es∨x∈acc
 | [],acc,x,h=>.inr h
 | e :: es,acc,x,h=>by
  rcases foldE_mem es _ x h with h | h
  ·exact .inl (by simp [h])
  ·rcases putE_mem acc e x h with h | h
   ·exact .inl (by simp [h])
   ·exact .inr h
theorem putE_nodup (acc:List Ent) (e:Ent) (h:(acc.map Ent.key).Nodup):((putE acc e).map Ent.key).Nodup:=by
 by_cases hlt:idxL (acc.map Ent.key) e.key<acc.length
 ·unfold putE
  rw [if_pos hlt,ekeys_set acc e _ rfl hlt]
  exact h
 ·have hn:e.key∉acc.map Ent.key:=fun hm=>hlt (by have:=(idxL_lt _ _).2 hm;rwa [List.length_map]at this)
  rw [putE_new acc e hn,List.map_append,List.nodup_append]
  refine⟨h,by simp,?_⟩
  intro a ha b hb hab
  obtain rfl:b=e.key:=by simpa using hb
  exact hn (hab▸ha)
theorem foldE_nodup:∀(es acc:List Ent),(acc.map Ent.key).Nodup→((es.foldl putE acc).map Ent.key).Nodup
 | [],_,h=>h
 | e :: es,acc,h=>foldE_nodup es _ (putE_nodup acc e h)
theorem dict_right (l:List UInt8) (es:List Ent) (h:dicL l=some es):(∃t,dcT es=some t)∧entSum es≤2*l.length:=by
 unfold dicL at h
 cases hs:sepL entL l with
 | none=>rw [hs]at h;cases h
 | some xs =>
  rw [hs]at h
  obtain rfl:=Option.some.inj h
  have hsum:entSum xs≤2*l.length:=by
   unfold sepL at hs
   split at hs
   ·obtain rfl:=Option.some.inj hs
    simp [entSum]
   ·have h1:=sepE_sum _ _ _ _ hs
    have h2:=spD_le l
    have e:entSum []=0:=rfl
    omega
  have hall:∀x∈xs,∃t,enT x=some t:=by
   unfold sepL at hs
   split at hs
   ·obtain rfl:=Option.some.inj hs
    intro x hx
    cases hx
   ·exact sepF_all (P:=fun E=>∃t,enT E=some t) (N:=l.length) (fun l M r _ hr=>⟨(ent_right l M r hr).1,entL_le _ _ _ hr⟩) _ _ _ _ (spD_le l) (by simp) hs
  refine⟨?_,?_⟩
  ·obtain⟨a,ha⟩:=jn_all (f:=enT) (sep:=[44,32]) (oeK xs) true (fun x hx=>by
    rcases foldE_mem xs [] x hx with h | h
    ·exact hall x h
    ·cases h)
   refine⟨a,?_⟩
   unfold dcT
   rw [if_neg (by
    have:=foldE_nodup xs [] (by simp)
    unfold eqKE oeK
    rw [decide_eq_true this]
    decide)]
   exact ha
  ·have:=foldE_sum xs []
   have e:entSum []=0:=rfl
   unfold oeK
   omega
end Go.Proofs.YtfaedmbfabfmeaaGreatDoor
