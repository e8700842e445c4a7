/- Plain: what a dictionary tells, as rules. · Plain: what Parse answers; a form of rules. · The document's own item, yes, number (sculleryref11). -/
import Derived.Test.YtfaedmbfabfmeaaGreatDoorYMMemC
import Derived.Test.YtfaedmbfabfmeaaGreatDoorYMSpP
import Derived.Test.YtfaedmbfabfmeaaGreatDoorYMBasP
import Derived.Test.YtfaedmbfabfmeaaGreatDoorYMDirP
import Derived.WalkKit
import Derived.WalkSpells
import Derived.WalkLawsBesides
set_option linter.unusedSimpArgs false
set_option maxRecDepth 100000
set_option maxHeartbeats 4000000
namespace Go.Proofs.YtfaedmbfabfmeaaGreatDoor
open Go.RowKit
def bitR:List Ent→List UInt8→Option (Int×Int×List UInt8)
 | [],_=>none
 | e :: es,n=>if e.key=n∧e.val.inner=false then some (e.val.it.k,e.val.it.n,e.val.it.s)else bitR es n
def yesR (es:List Ent) (n:List UInt8):Bool:=match bitR es n with | none=>false | some q=>decide (q.1=6)&&decide (q.2.1=1)
def numR (es:List Ent) (n:List UInt8):Int:=match bitR es n with | none=>-1 | some q=>if q.1=1∧0≤q.2.1 then min q.2.1 2147483648 else -1
def stlR (es:List Ent):Int:=if yesR es nStale=true then 2147483648 else numR es nStale
def rulM (es:List Ent):Value:=.agg #[.bool (yesR es nNoStore),.bool (yesR es nNoCache),.bool (yesR es nPrivate),.bool (yesR es nPublic),.bool (yesR es nMust),.bool (yesR es nProxy),.bool (yesR es nImmut),.bool (yesR es nOnly),
 .int .i64 (numR es nMaxAge),.int .i64 (numR es nSMax),.int .i64 (stlR es),.int .i64 (numR es nFresh),.int .i64 (numR es nIfErr)]
def modL (s:List UInt8):Option (List Ent):=match dicL s with | some []=>none | o=>o
def rulO:Option (List Ent)→Value
 | none=>rulV []
 | some es=>rulM es
theorem putE_lenM (acc:List Ent) (E:Ent):(putE acc E).length≤acc.length+1:=by
 unfold putE
 split
 ·rw [List.length_set];omega
 ·rw [List.length_append,List.length_singleton];omega
theorem foldE_lenM:∀(es acc:List Ent),(es.foldl putE acc).length≤acc.length+es.length
 | [],acc=>zR _
 | e :: es,acc=>by
  rw [List.foldl_cons,List.length_cons]
  have h1:=foldE_lenM es (putE acc e)
  have h2:=putE_lenM acc e
  omega
theorem putE_memM (acc:List Ent) (e x:Ent) (h:x∈putE acc e):x=e∨x∈acc:=by
 unfold putE at h
 split at h
 ·rcases List.mem_or_eq_of_mem_set h with h | h
  ·exact .inr h
  ·exact .inl h
 ·rcases List.mem_append.1 h with h | h
  ·exact .inr h
  ·exact .inl (List.mem_singleton.1 h)
theorem foldE_memM:∀(es acc:List Ent) (x:Ent),x∈es.foldl putE acc→x∈es∨x∈acc
 | [],acc,x,h=>.inr h
 | e :: es,acc,x,h=>by
  rw [List.foldl_cons]at h
  rcases foldE_memM es _ x h with h | h
  ·exact .inl (List.mem_cons_of_mem _ h)
  ·rcases putE_memM acc e x h with h | h
   ·exact .inl (h▸List.mem_cons_self ..)
   ·exact .inr h
theorem dicL_in {N:Nat} (l:List UInt8) (es:List Ent) (hl:l.length≤N) (h:dicL l=some es):es.length≤l.length+1∧∀E∈es,E.key.length≤N∧MemIn N E.val:=by
 unfold dicL at h
 cases hs:sepL entL l with
 | none=>rw [hs]at h;cases h
 | some xs =>
  rw [hs]at h
  obtain rfl:=Option.some.inj h
  obtain⟨h1,h2⟩:=ents_in l xs hl hs
  have h3:=foldE_lenM xs []
  refine⟨by unfold oeK;simp only [List.length_nil]at h3;omega,fun E hE=>?_⟩
  rcases foldE_memM xs [] E hE with hE | hE
  ·exact h2 E hE
  ·cases hE
theorem modL_some {l:List UInt8} {es:List Ent} (h:modL l=some es):dicL l=some es∧es≠[]:=by
 unfold modL at h
 split at h
 ·cases h
 ·rename_i hn
  exact⟨h,fun e=>hn (by rw [h,e])⟩
theorem modL_yes {l:List UInt8} {es:List Ent} (h:dicL l=some es) (hn:es≠[]):modL l=some es:=by
 unfold modL
 split
 ·rename_i h2
  rw [h]at h2
  exact absurd (Option.some.inj h2) hn
 ·exact h
end Go.Proofs.YtfaedmbfabfmeaaGreatDoor
namespace Go.Proofs.YtfaedmbfabfmeaaGreatDoor
open Go.RowKit Go.Lib
def modA (o:Option (List Ent)):Value:=.tuple #[rulO o,.bool o.isSome]
theorem rulO_form (o:Option (List Ent)):∃(b0 b1 b2 b3 b4 b5 b6 b7:Bool) (k0 k1 k2 k3 k4:Int),rulO o=.agg #[.bool b0,.bool b1,.bool b2,.bool b3,.bool b4,.bool b5,.bool b6,.bool b7,.int .i64 k0,.int .i64 k1,.int .i64 k2,.int .i64 k3,.int .i64 k4]:=by
 cases o with
 | none=>exact⟨_,_,_,_,_,_,_,_,_,_,_,_,_,rfl⟩
 | some es=>exact⟨_,_,_,_,_,_,_,_,_,_,_,_,_,rfl⟩
def itmA:Option (Int×Int×List UInt8)→Value
 | none=>.tuple #[.agg #[.int .i64 0,.int .i64 0,.string ⟨#[]⟩],.bool false]
 | some q=>.tuple #[.agg #[.int .i64 q.1,.int .i64 q.2.1,.string (strB q.2.2)],.bool true]
theorem ritem_any (lo:Nat) (v:Value) (es:List Ent) (n:List UInt8) (w:World) (hv:GOff entR lo none w v es) (hok:es.length≤100000) :
  Calls Tryz.prog 139 #[v,.string (strB n)] w fun e w'=>e=.returned (itmA (bitR es n))∧Below w.heap.size w w':=by
 obtain⟨ao,cap,rfl,hc⟩:=hv
 have HC:=zH hc
 clear hc
 have HX:=zH (BoxD.made w (.int .i64 0) (.int .i64 0) (.string ⟨#[]⟩) 113)
 go_enter Tryz.func139,Tryz.ntmps139
 go_wp2_with fail
 go_loopw [6] (fun i wr=>∃k:Nat,k≤es.length∧i=.int .i64 k∧Hid (bitR es n=bitR (es.drop k) n)∧wr=w.alloc (.cells #[.int .i64 0,.int .i64 0,.string ⟨#[]⟩] 113)) (fun i _=>es.length-(intOf i).toNat)
 case atStart=>exact⟨0,Nat.zero_le _,rfl,zH rfl,rfl⟩
 case round =>
  obtain⟨k,hk,rfl,HA,rfl⟩:=hrel
  have hb:Below w.heap.size w (w.alloc (.cells #[.int .i64 0,.int .i64 0,.string ⟨#[]⟩] 113)):=(Below.refl _ _).alloc (zR _) _
  have HB:=zH hb
  by_cases hlt:k<es.length
  ·rcases HC.out with hnil | ⟨c,off,rfl,_,_,hcl,hcell⟩
   ·exfalso
    rw [hnil]at hlt
    simp at hlt
   ·obtain⟨p,hp⟩:∃p,es[k]? = some p:=⟨_,List.getElem?_eq_getElem hlt⟩
    have hdr:es.drop k=p :: es.drop (k+1):=by
     rw [List.drop_eq_getElem_cons hlt]
     rw [List.getElem?_eq_getElem hlt]at hp
     rw [Option.some.inj hp]
    obtain⟨u,hcs,_⟩:=hcell k p hp
    have x0:=hcs 0 (by decide)
    have x1:=hcs 1 (by decide)
    have x2:=hcs 2 (by decide)
    have x3:=hcs 3 (by decide)
    have x4:=hcs 4 (by decide)
    have a0:(w.alloc (.cells #[.int .i64 0,.int .i64 0,.string ⟨#[]⟩] 113)).cell? ⟨c,off+k*8,none⟩=some (.string (strB p.key)):=(hb.cell (p:=⟨c,off+k*8,none⟩) hcl).trans x0
    have a1:(w.alloc (.cells #[.int .i64 0,.int .i64 0,.string ⟨#[]⟩] 113)).cell? ⟨c,off+k*8+1,none⟩=some (.bool p.val.inner):=(hb.cell (p:=⟨c,off+k*8+1,none⟩) hcl).trans x1
    have a2:(w.alloc (.cells #[.int .i64 0,.int .i64 0,.string ⟨#[]⟩] 113)).cell? ⟨c,off+k*8+2,none⟩=some (.int .i64 p.val.it.k):=(hb.cell (p:=⟨c,off+k*8+2,none⟩) hcl).trans x2
    have a3:(w.alloc (.cells #[.int .i64 0,.int .i64 0,.string ⟨#[]⟩] 113)).cell? ⟨c,off+k*8+3,none⟩=some (.int .i64 p.val.it.n):=(hb.cell (p:=⟨c,off+k*8+3,none⟩) hcl).trans x3
    have a4:(w.alloc (.cells #[.int .i64 0,.int .i64 0,.string ⟨#[]⟩] 113)).cell? ⟨c,off+k*8+4,none⟩=some (.string (strB p.val.it.s)):=(hb.cell (p:=⟨c,off+k*8+4,none⟩) hcl).trans x4
    have hkI:(k:Int)<(es.length:Int):=by omega
    have hqe:=name_eq p.key n
    obtain⟨N,⟨IN,⟨K,M,S,ps⟩,its,ps2⟩⟩:=p
    dsimp only at a0 a1 a2 a3 a4 hqe
    have HZ:=zH hcl
    clear hcs x0 x1 x2 x3 x4 hcell hp
    by_cases hN:N=n
    ·rw [decide_eq_true hN.symm]at hqe
     cases IN
     ·have HF:Hid (bitR es n=some (K,M,S)):=zH (by rw [HA.out,hdr,bitR,if_pos ⟨hN,rfl⟩])
      clear hN HA hdr
      generalize strB N=SN at *
      generalize strB n=SM at *
      obtain⟨SS,hS⟩:∃SS,strB S=SS:=⟨_,rfl⟩
      rw [hS]at a4
      have HS:=zH hS
      clear hS
      obtain⟨r0,r1,r2,g0,g1,g2⟩:=HX.out
      go_wp2_with fail
      refine bodyPost_ret (v:=.tuple #[.agg #[.int .i64 K,.int .i64 M,.string SS],.bool true]) (by simp [results,Tryz.results139,go_sem]) rfl ⟨by rw [HF.out,itmA,HS.out],?_⟩
      first | exact HB.out | exact(Below.refl w.heap.size w).alloc (zR _) _
     ·have HN:Hid (bitR es n=bitR (es.drop (k+1)) n):=zH (by rw [HA.out,hdr,bitR,if_neg (fun e=>by cases e.2)])
      clear hN HA hdr
      generalize strB N=SN at *
      generalize strB n=SM at *
      go_wp2_with fail
      go_roundw
      case rel=>exact⟨k+1,by omega,by go_num,HN,trivial⟩
      case measure=>simp [intOf];omega
    ·rw [decide_eq_false (fun e=>hN e.symm)]at hqe
     have HN:Hid (bitR es n=bitR (es.drop (k+1)) n):=zH (by rw [HA.out,hdr,bitR,if_neg (fun e=>hN e.1)])
     clear hN HA hdr
     generalize strB N=SN at *
     generalize strB n=SM at *
     go_wp2_with fail
     go_roundw
     case rel=>exact⟨k+1,by omega,by go_num,HN,trivial⟩
     case measure=>simp [intOf];omega
  ·have hkI:¬(k:Int)<(es.length:Int):=by omega
   have HF:Hid (bitR es n=none):=zH (by rw [HA.out,List.drop_of_length_le (by omega)]<;>rfl)
   obtain⟨r0,r1,r2,g0,g1,g2⟩:=HX.out
   clear HA hb
   go_wp2_with fail
   refine bodyPost_ret (v:=.tuple #[.agg #[.int .i64 0,.int .i64 0,.string ⟨#[]⟩],.bool false]) (by simp [results,Tryz.results139,go_sem]) rfl ⟨by rw [HF.out]<;>rfl,HB.out⟩
theorem ryes_any (lo:Nat) (v:Value) (es:List Ent) (n:List UInt8) (w:World) (hv:GOff entR lo none w v es) (hok:es.length≤100000) :
  Calls Tryz.prog 104 #[v,.string (strB n)] w fun e w'=>e=.returned (.bool (yesR es n))∧Below w.heap.size w w':=by
 have cF:=ritem_any lo v es n w hv hok
 obtain⟨ao,cap,rfl,_⟩:=hv
 have HV:Hid (yesR es n=match bitR es n with | none=>false | some q=>decide (q.1=6)&&decide (q.2.1=1)):=zH rfl
 generalize yesR es n=Y at *
 cases hf:bitR es n with
 | none =>
  rw [hf]at cF HV
  simp only [itmA]at cF
  have HH:Hid (Y=false):=zH HV.out
  clear hf HV
  go_enter Tryz.func104,Tryz.ntmps104
  go_wp2_with fail
  refine cF.mono ?_
  rintro e w1 ⟨rfl,hb1⟩
  have HB:=zH (hb1.alloc hb1.size (.cells #[.int .i64 0,.int .i64 0,.string ⟨#[]⟩] 113))
  clear hb1 cF
  go_wp2_with fail
  refine bodyPost_ret (v:=.bool false) (by simp [results,Tryz.results104,go_sem]) rfl ⟨by rw [HH.out],HB.out⟩
 | some q =>
  obtain⟨K,M,S⟩:=q
  rw [hf]at cF HV
  simp only [itmA]at cF
  have HH:Hid (Y=(decide (K=6)&&decide (M=1))):=zH HV.out
  clear hf HV
  obtain⟨a,ha⟩:∃a,decide (K=6)=a:=⟨_,rfl⟩
  obtain⟨b,hb⟩:∃b,decide (M=1)=b:=⟨_,rfl⟩
  have hka:(K==6)=a:=ha
  have hmb:(M==1)=b:=hb
  rw [ha,hb]at HH
  clear ha hb
  generalize strB S=SS at *
  cases a<;>cases b
  all_goals
   go_enter Tryz.func104,Tryz.ntmps104
   go_wp2_with fail
   refine cF.mono ?_
   rintro e w1 ⟨rfl,hb1⟩
   have HB:=zH (hb1.alloc hb1.size (.cells #[.int .i64 K,.int .i64 M,.string SS] 113))
   clear hb1 cF
   go_wp2_with fail
   go_ret
   exact⟨by rw [HH.out]<;>rfl,HB.out⟩
theorem rnum11_any (lo:Nat) (v:Value) (es:List Ent) (n:List UInt8) (w:World) (hv:GOff entR lo none w v es) (hok:es.length≤100000) :
  Calls Tryz.prog 105 #[v,.string (strB n)] w fun e w'=>e=.returned (.int .i64 (numR es n))∧Below w.heap.size w w':=by
 have cF:=ritem_any lo v es n w hv hok
 obtain⟨ao,cap,rfl,_⟩:=hv
 have HV:Hid (numR es n=match bitR es n with | none=>-1 | some q=>if q.1=1∧0≤q.2.1 then min q.2.1 2147483648 else -1):=zH rfl
 generalize numR es n=Y at *
 cases hf:bitR es n with
 | none =>
  rw [hf]at cF HV
  simp only [itmA]at cF
  have HH:Hid (Y=-1):=zH HV.out
  clear hf HV
  go_enter Tryz.func105,Tryz.ntmps105
  go_wp2_with fail
  refine cF.mono ?_
  rintro e w1 ⟨rfl,hb1⟩
  have HB:=zH (hb1.alloc hb1.size (.cells #[.int .i64 0,.int .i64 0,.string ⟨#[]⟩] 113))
  clear hb1 cF
  go_wp2_with fail
  refine bodyPost_ret (v:=.int .i64 (-1)) (by simp [results,Tryz.results105,go_sem]) rfl ⟨by rw [HH.out],HB.out⟩
 | some q =>
  obtain⟨K,M,S⟩:=q
  rw [hf]at cF HV
  simp only [itmA]at cF
  have HH:Hid (Y=if K=1∧0≤M then min M 2147483648 else -1):=zH HV.out
  clear hf HV
  generalize strB S=SS at *
  by_cases h1:K=1
  ·have k1:(K != 1)=false:=by rw [h1]<;>rfl
   by_cases h2:0≤M
   ·have HR:Hid (Y=min M 2147483648):=zH (by rw [HH.out,if_pos ⟨h1,h2⟩])
    have d2:¬M<0:=by omega
    clear HH h1 h2
    go_enter Tryz.func105,Tryz.ntmps105
    go_wp2_with fail
    refine cF.mono ?_
    rintro e w1 ⟨rfl,hb1⟩
    have HB:=zH (hb1.alloc hb1.size (.cells #[.int .i64 K,.int .i64 M,.string SS] 113))
    clear hb1 cF
    go_wp2_with fail
    refine bodyPost_ret (v:=.int .i64 (min M 2147483648)) (by simp [results,Tryz.results105,go_sem]) rfl ⟨by rw [HR.out],HB.out⟩
   ·have HR:Hid (Y=-1):=zH (by rw [HH.out,if_neg (fun e=>h2 e.2)])
    have d2:M<0:=by omega
    clear HH h1 h2
    go_enter Tryz.func105,Tryz.ntmps105
    go_wp2_with fail
    refine cF.mono ?_
    rintro e w1 ⟨rfl,hb1⟩
    have HB:=zH (hb1.alloc hb1.size (.cells #[.int .i64 K,.int .i64 M,.string SS] 113))
    clear hb1 cF
    go_wp2_with fail
    refine bodyPost_ret (v:=.int .i64 (-1)) (by simp [results,Tryz.results105,go_sem]) rfl ⟨by rw [HR.out],HB.out⟩
  ·have k1:(K != 1)=true:=by rw [bne,beq_eq_false_iff_ne.2 h1]<;>rfl
   have HR:Hid (Y=-1):=zH (by rw [HH.out,if_neg (fun e=>h1 e.1)])
   clear HH h1
   go_enter Tryz.func105,Tryz.ntmps105
   go_wp2_with fail
   refine cF.mono ?_
   rintro e w1 ⟨rfl,hb1⟩
   have HB:=zH (hb1.alloc hb1.size (.cells #[.int .i64 K,.int .i64 M,.string SS] 113))
   clear hb1 cF
   go_wp2_with fail
   refine bodyPost_ret (v:=.int .i64 (-1)) (by simp [results,Tryz.results105,go_sem]) rfl ⟨by rw [HR.out],HB.out⟩
end Go.Proofs.YtfaedmbfabfmeaaGreatDoor
