/- What stays of cells and rows where a row grows: for walks that own items. · The contract of the document's Put (sculleryref03): a parameter more, or another value of one. · The contract of the document's Params (sculleryref03): the parameters with which a text begins. · The contracts of the document's Read, Spaces and Parse (sculleryref03). -/
import Derived.Test.YtfaedmbfabfmeaaGreatDoorYMItmC
import Derived.Test.YtfaedmbfabfmeaaGreatDoorYMBarG
import Derived.Test.YtfaedmbfabfmeaaGreatDoorYRfH
import Derived.Deep.RegionLaw
import Derived.Deep.AppendLies
set_option linter.unusedSimpArgs false
set_option maxRecDepth 100000
set_option maxHeartbeats 4000000
namespace Go.Proofs.YtfaedmbfabfmeaaGreatDoor
open Go.RowKit Go.Maps
theorem info_rparam:(Tryz.prog.info? 272).map (fun i=>(i.zero,i.size,i.bytes))=some (some (.agg #[.string ⟨#[]⟩,.int .i64 0,.int .i64 0,.string ⟨#[]⟩]),4,48):=by kernel_rfl
theorem cell_later {w:World} {b i:Nat} {v:Value} (o:Obj) (h:w.cell? ⟨b,i,none⟩=some v):(w.alloc o).cell? ⟨b,i,none⟩=some v:=
 (((Below.refl w.heap.size w).alloc (zR _) o).cell (p:=⟨b,i,none⟩) (lt_of_cell h)).trans h
theorem frozen_later {w:World} {b i:Nat} (o:Obj) (hb:b<w.heap.size) (h:w.frozen? ⟨b,i,none⟩=false):(w.alloc o).frozen? ⟨b,i,none⟩=false:=
 (((Below.refl w.heap.size w).alloc (zR _) o).frozen (p:=⟨b,i,none⟩) hb).trans h
theorem ResI.later {w:World} {c:Nat} (o:Obj) (h:ResI w c):ResI (w.alloc o) c:=
 ⟨cell_later o h.r0,cell_later o h.r1,cell_later o h.r2,cell_later o h.r3,frozen_later o h.lt h.g0,frozen_later o h.lt h.g1,frozen_later o h.lt h.g2,frozen_later o h.lt h.g3⟩
abbrev rparamObj (p:Prm):Obj:=.cells #[.string (strB p.key),.int .i64 p.k,.int .i64 p.n,.string (strB p.s)] 272
def rputPost (acc:List Prm) (p:Prm) (base:Nat) (w:World) (e:Ending) (w':World):Prop:=
 Below base w w'∧∃v,e=.returned v∧w'.ownsRow base 272 4 v (putL acc p).length (rowP (putL acc p))
theorem box4 {w W:World} {a b c d:Value} {T:TypeId} (hb:Below (w.heap.size+1) (w.alloc (.cells #[a,b,c,d] T)) W) :
  W.cell? ⟨w.heap.size,0,none⟩=some a∧W.cell? ⟨w.heap.size,1,none⟩=some b∧W.cell? ⟨w.heap.size,2,none⟩=some c∧W.cell? ⟨w.heap.size,3,none⟩=some d:=by
 refine⟨?_,?_,?_,?_⟩
 ·rw [hb.cell (p:=⟨w.heap.size,0,none⟩) (by simp)];simp
 ·rw [hb.cell (p:=⟨w.heap.size,1,none⟩) (by simp)];simp
 ·rw [hb.cell (p:=⟨w.heap.size,2,none⟩) (by simp)];simp
 ·rw [hb.cell (p:=⟨w.heap.size,3,none⟩) (by simp)];simp
theorem box_next {w W W1:World} {o:Obj} (c:Below (w.heap.size+1) (w.alloc o) W) (hb:Below W.heap.size W W1):Below (w.heap.size+1) (w.alloc o) W1:=
 c.trans (hb.mono (by simpa using c.size))
theorem box_later {w W:World} {o:Obj} (c:Below (w.heap.size+1) (w.alloc o) W):Below w.heap.size w W:=
 ((Below.refl w.heap.size w).alloc (zR _) o).trans (c.mono (Nat.le_succ _))
theorem owns_at {w:World} {base:Nat} {e:TypeId} {ao:Option Addr} {m cap:Nat} {ps:List Prm} (h:w.ownsRow base e 4 (.slice ao m cap) ps.length (rowP ps)) (j:Nat) (p:Prm) (hp:ps[j]? = some p) :
  ∃g,ao=some ⟨g,0,none⟩∧base≤g∧g<w.heap.size∧(w.cell? ⟨g,j*4,none⟩=some (.string (strB p.key))∧w.cell? ⟨g,j*4+1,none⟩=some (.int .i64 p.k)∧w.cell? ⟨g,j*4+2,none⟩=some (.int .i64 p.n)∧w.cell? ⟨g,j*4+3,none⟩=some (.string (strB p.s))) ∧
   w.frozen? ⟨g,j*4+1,none⟩=false∧w.frozen? ⟨g,j*4+2,none⟩=false∧w.frozen? ⟨g,j*4+3,none⟩=false:=by
 have hj:j<ps.length:=(List.getElem?_eq_some_iff.1 hp).1
 obtain⟨g,cap1,hv,hg,hg2,_⟩:=owns_slice h (by omega)
 obtain⟨rfl,_,rfl⟩:=Value.slice.inj hv
 obtain⟨ao2,cap2,hv2,hc⟩:=Prms.of_own h
 obtain⟨rfl,rfl,rfl⟩:=Value.slice.inj hv2
 rcases hc with hnil | ⟨c,off,hao,hcell⟩
 ·rw [hnil]at hp;cases hp
 ·obtain⟨rfl,rfl,_⟩:=Addr.mk.inj (Option.some.inj hao)
  obtain⟨x0,x1,x2,x3⟩:=rowP_at ps j p hp
  have c0:=hcell _ _ x0
  have c1:=hcell _ _ x1
  have c2:=hcell _ _ x2
  have c3:=hcell _ _ x3
  simp only [Nat.zero_add]at c0 c1 c2 c3
  obtain⟨_,_,f1⟩:=owns_cell h (j*4+1) (by omega)
  obtain⟨_,_,f2⟩:=owns_cell h (j*4+2) (by omega)
  obtain⟨_,_,f3⟩:=owns_cell h (j*4+3) (by omega)
  exact⟨g,rfl,hg,hg2,⟨c0,c1,c2,c3⟩,f1,f2,f3⟩
theorem idx_first (acc:List Prm) (p r:Prm) (j:Nat) (hr:acc[j]? = some r) (hk:r.key=p.key) (hb:∀(m:Nat) (q:Prm),m<j→acc[m]? = some q→q.key≠p.key):idxL (acc.map Prm.key) p.key=j:=by
 have hj:j<acc.length:=(List.getElem?_eq_some_iff.1 hr).1
 have hjm:j<(acc.map Prm.key).length:=by rw [List.length_map];exact hj
 unfold idxL
 rw [List.findIdx_eq hjm]
 constructor
 ·have:(acc.map Prm.key)[j]? = some r.key:=by rw [List.getElem?_map,hr]<;>rfl
  rw [List.getElem?_eq_getElem hjm,Option.some.injEq]at this
  rw [this,hk];simp
 ·intro m hm
  have hml:m<acc.length:=by omega
  have:=hb m _ hm (List.getElem?_eq_getElem hml)
  simpa using this
theorem idx_none (acc:List Prm) (p:Prm) (hb:∀(m:Nat) (q:Prm),m<acc.length→acc[m]? = some q→q.key≠p.key):¬idxL (acc.map Prm.key) p.key<acc.length:=by
 intro h
 have hm:p.key∈acc.map Prm.key:=(idxL_lt _ _).1 (by rw [List.length_map];exact h)
 obtain⟨q,hq,hk⟩:=List.mem_map.1 hm
 obtain⟨m,hm⟩:=List.getElem?_of_mem hq
 exact hb m q (List.getElem?_eq_some_iff.1 hm).1 hm hk
theorem set_same {α:Type} (l:List α) (i:Nat) (a:α) (h:l[i]? = some a):l.set i a=l:=by
 obtain⟨hi,rfl⟩:=List.getElem?_eq_some_iff.1 h
 exact List.set_getElem_self hi
theorem rput_any (v:Value) (acc:List Prm) (p:Prm) (base:Nat) (w:World) (h:w.ownsRow base 272 4 v acc.length (rowP acc)) (hb:base≤w.heap.size) (hl:acc.length≤100000) :
  Calls Tryz.prog 233 #[v,.agg #[.string (strB p.key),.int .i64 p.k,.int .i64 p.n,.string (strB p.s)]] w (rputPost acc p base w):=by
 obtain⟨i0,hi,hz0,hz1,hz2⟩:=info_parts info_rparam
 obtain⟨ao,cap,rfl⟩:=owns_form h
 have HO:=zH (ownsRow_later h ((Below.refl w.heap.size w).alloc (zR _) (rparamObj p)))
 have HB:=zH hb
 clear h hb
 go_enter Tryz.func233,Tryz.ntmps233
 go_wp2_with fail
 obtain⟨W0,hW0⟩:∃W0,w.alloc (rparamObj p)=W0:=⟨_,rfl⟩
 have c0:Below (w.heap.size+1) (w.alloc (rparamObj p)) W0:=by rw [← hW0];exact Below.refl _ _
 rw [hW0]at HO
 rw [show w.alloc (.cells #[.string (strB p.key),.int .i64 p.k,.int .i64 p.n,.string (strB p.s)] 272)=W0 from hW0]
 clear hW0
 go_loopw [5] (fun i wr=>∃j:Nat,i=.int .i64 j∧j≤acc.length∧Hid (∀(m:Nat) (q:Prm),m<j→acc[m]? = some q→q.key≠p.key)∧Below W0.heap.size W0 wr) (fun i _=>acc.length-(intOf i).toNat)
 case atStart=>exact⟨0,rfl,Nat.zero_le _,zH (fun m q hm=>absurd hm (Nat.not_lt_zero _)),Below.refl _ _⟩
 case round =>
  obtain⟨j,rfl,hj,H,hb⟩:=hrel
  obtain⟨p0,p1,p2,p3⟩:=box4 (box_next c0 hb)
  have HB2:=zH hb
  have HOw:=zH (ownsRow_later HO.out hb)
  have HBw:Hid (Below base w wr):=zH ((box_later (box_next c0 hb)).mono HB.out)
  have hbs:base≤wr.heap.size:=Nat.le_trans HB.out HBw.out.size
  clear hb
  by_cases hlt:j<acc.length
  ·obtain⟨r,hr⟩:∃r,acc[j]? = some r:=⟨_,List.getElem?_eq_getElem hlt⟩
   obtain⟨g,rfl,hg,hg2,⟨a0,a1,a2,a3⟩,f1,f2,f3⟩:=owns_at HOw.out j r hr
   have jI:(j:Int)<(acc.length:Int):=by omega
   have j0:(0:Int)≤(j:Int):=by omega
   have HR:=zH hr
   by_cases hkk:r.key=p.key
   ·have HI:=zH (idx_first acc p r j hr hkk H.out)
    rw [hkk]at a0
    have hx0:=zH (rowP_at acc j r hr).1
    rw [hkk]at hx0
    clear hr
    go_wp2_with fail
    go_quiet (fail)
    go_wp2_with fail
    refine bodyPost_ret (v:=.slice (some ⟨g,0,none⟩) acc.length cap) (by simp [results,Tryz.results233,go_sem]) rfl ⟨?_,_,rfl,?_⟩
    ·exact(((HBw.out.trans ((below_drewN _ _).mono hbs)).setCell hg _).setCell hg _).setCell hg _
    ·have s0:=(ownsRow_later HOw.out (below_drewN wr nq)).stored (j*4+1) (.int .i64 p.k)
     have s1:=s0.1.stored (j*4+1+1) (.int .i64 p.n)
     have s2:=s1.1.stored (j*4+1+2) (.string (strB p.s))
     rw [putL,HI.out,if_pos hlt,List.length_set,rowP_set acc j p hlt,set_same (rowP acc) (j*4) (.string (strB p.key)) hx0.out]
     exact s2.1
   ·have hT:((strB r.key).toList==(strB p.key).toList)=false:=by
     rw [beq_eq_false_iff_ne]
     intro h
     exact hkk (by simpa only [Lib.toList_data,strB_data] using h)
    have HN:Hid (∀(m:Nat) (q:Prm),m<j+1→acc[m]? = some q→q.key≠p.key):=zH (fun m q hm hq=>by
     by_cases e:m=j
     ·subst e
      rw [HR.out]at hq
      obtain rfl:=Option.some.inj hq
      exact hkk
     ·exact H.out m q (by omega) hq)
    clear hr hkk
    generalize strB r.key=RK at *
    go_wp2_with fail
    go_quiet (fail)
    go_wp2_with fail
    go_roundw
    case rel=>exact⟨j+1,by go_num,by omega,HN,HB2.out.trans ((below_drewN _ _).mono HB2.out.size)⟩
    case measure=>simp [intOf];omega
  ·obtain rfl:j=acc.length:=by omega
   have HI:=zH (idx_none acc p H.out)
   go_wp2_with (at_builtin;refine wpList_append_own _ rfl _ _ 221 rfl base 272 i0 (.agg #[.string ⟨#[]⟩,.int .i64 0,.int .i64 0,.string ⟨#[]⟩]) 4 48 Tryz.underlying221 hi hz0 hz1 hz2 rfl (by decide) _ _ _ rfl (HOw.out.alloc _) ⟨_,0,none⟩ 1 1 (cellsP p) rfl rfl (cells_new _ _ _) (by simp [Value.oneCell',cellsP]) (by unfold maxLen;omega) (by omega) (by simp;omega) ?_;intro v' w5 hown5 hgrow5 _)
   refine bodyPost_ret (v:=v') (by simp [results,Tryz.results233,go_sem]) rfl ⟨?_,_,rfl,?_⟩
   ·have h1:=HBw.out.alloc hbs (.cells #[.string (strB p.key),.int .i64 p.k,.int .i64 p.n,.string (strB p.s)] 272)
    exact⟨hgrow5.os.trans h1.os,hgrow5.tape.trans h1.tape,hgrow5.output.trans h1.output,Nat.le_trans h1.size hgrow5.size,fun i hi=>(hgrow5.block i (Nat.lt_of_lt_of_le hi (by simp;omega)) (own_ne HOw.out hi)).trans (h1.block i hi)⟩
   ·rw [putL,if_neg HI.out,List.length_append,rowP_snoc]
    exact hown5
def rpsPost (o:Option (List Prm×Nat)) (w:World) (e:Ending) (w':World):Prop:=
 Below w.heap.size w w'∧match o with
  | none=>e=.returned (.tuple #[.slice none 0 0,.int .i64 0,.int .i64 2])
  | some (ps,m)=>∃v,e=.returned (.tuple #[v,.int .i64 (m:Int),.int .i64 0])∧w'.ownsRow w.heap.size 272 4 v ps.length (rowP ps)
theorem head_is (s:ByteArray) (k:Nat) (h:k<s.size) (c:UInt8):(s.data.toList.drop k).head? = some c↔((s[k]'h).toNat:Int)=(c.toNat:Int):=by
 rw [drop_cons_at s k h,List.head?_cons,Option.some.injEq]
 constructor
 ·rintro rfl;rfl
 ·intro e
  exact UInt8.toNat_inj.1 (by omega)
theorem rparams_any (s:ByteArray) (w:World) (hs:s.size≤100000) :
  Calls Tryz.prog 211 #[.string s] w (rpsPost (psL s.data.toList [] 0) w):=by
 go_enter Tryz.func211,Tryz.ntmps211
 go_wp2_with fail
 go_loopw [5,6] (fun v a wr=>∃(K:Nat) (acc:List Prm),a=.int .i64 K∧K≤s.size∧acc.length≤K∧Hid (psL s.data.toList [] 0=psL (s.data.toList.drop K) acc K)∧wr.ownsRow w.heap.size 272 4 v acc.length (rowP acc)∧Below w.heap.size w wr) (fun _ a _=>s.size-(intOf a).toNat)
 case atStart=>exact⟨0,[],rfl,Nat.zero_le _,Nat.zero_le _,zH (by rw [List.drop_zero]),World.ownsRow_nil _ _ _ _,Below.refl _ _⟩
 case round =>
  obtain⟨K,acc,rfl,hK,hal,H,hown,hb⟩:=hrel
  have HO:=zH hown
  have HB:=zH hb
  have hbz:=hb.size
  clear hown hb
  have hret:∀(h59:(s.data.toList.drop K).head?≠some 59),Hid (psL s.data.toList [] 0=some (acc,K)):=fun h59=>zH (by rw [H.out,psL_end _ _ _ h59])
  by_cases hlt:K<s.size
  ·have hh:=head_is s K hlt 59
   cases hc:(((s[K]'hlt).toNat:Int)==59)
   ·have HL:=hret (by
     intro e
     rw [hh.1 e]at hc
     exact absurd hc (by decide))
    clear hret hh
    obtain⟨ao,cap,rfl⟩:=owns_form HO.out
    go_wp2_with fail
    refine bodyPost_ret (v:=.tuple #[.slice ao acc.length cap,.int .i64 (K:Int),.int .i64 0]) (by simp [results,Tryz.results211,go_sem]) rfl ⟨HB.out,?_⟩
    rw [HL.out]
    exact⟨_,rfl,HO.out⟩
   ·have h59:(s.data.toList.drop K).head? = some 59:=hh.2 (by simpa using hc)
    clear hret hh
    have hparN:=psL_none (s.data.toList.drop K) acc K h59
    have hparS:=psL_some (s.data.toList.drop K) acc K
    simp only [List.drop_drop]at hparN hparS
    obtain⟨ns,hns⟩:∃ns,spcL (s.data.toList.drop (K+1))=ns:=⟨_,rfl⟩
    have hspc:=spc_at (s.data.toList.drop (K+1))
    have hnl:=spc_le (s.data.toList.drop (K+1))
    rw [List.length_drop,← Lib.size_eq]at hnl
    rw [hns]at hspc hnl
    simp only [List.drop_drop]at hspc
    have Hspc:=zH hspc
    obtain⟨K1,hK1⟩:∃K1,K+1+ns=K1:=⟨_,rfl⟩
    obtain⟨n,hn⟩:∃n,klen (s.data.toList.drop K1)=n:=⟨_,rfl⟩
    have HL:=zH (parL_at s.data.toList (K+1) ns K1 n hns hK1 hn)
    have HpN:=zH hparN
    have HpS:=zH (fun p n hp=>hparS p n h59 hp)
    clear hspc hparN hparS h59
    rename World=>W1
    go_wp2_with fail
    clear hc
    go_loopw [6] (fun a wr=>∃j:Nat,j≤ns∧a=.int .i64 ((K+1+j:Nat):Int)∧wr=W1) (fun a _=>s.size-(intOf a).toNat)
    case atStart=>exact⟨0,Nat.zero_le _,by go_num,rfl⟩
    case round =>
     obtain⟨j,hj,rfl,rfl⟩:=hrel
     have hjs:K+1+j≤s.size:=by omega
     have hjn:=Hspc.out j hj
     generalize hJ:K+1+j=J at *
     by_cases hlt2:J<s.size
     ·have hh:=head_is s J hlt2 32
      cases hc:(((s[J]'hlt2).toNat:Int)==32)
      ·have hjn2:j=ns:=by
        by_cases h:j<ns
        ·rw [hh.1 (hjn.2 h)]at hc
         exact absurd hc (by decide)
        ·omega
       clear hh hjn Hspc
       subst hjn2
       obtain rfl:K1=J:=by omega
       have hxd:(s.extract K1 s.size).data.toList=s.data.toList.drop K1:=Lib.extract_to_end s K1
       have cK:=fun W=>rreadKey_any (s.extract K1 s.size) W (by rw [Lib.size_eq,hxd,List.length_drop,← Lib.size_eq];unfold maxLen;omega)
       have hn2:K1+n≤s.size:=by
        have:=klen_le (s.data.toList.drop K1)
        rw [hn,List.length_drop,← Lib.size_eq]at this;omega
       rw [hxd,rkV,hn]at cK
       by_cases hn0:n=0
       ·rw [if_pos hn0]at cK HL
        have HR:Hid (psL s.data.toList [] 0=none):=zH (by rw [H.out];exact HpN.out HL.out)
        go_wp2_with fail
        refine(cK _).mono ?_
        rintro e w2 ⟨rfl,rfl⟩
        go_wp2_with fail
        refine bodyPost_ret (v:=.tuple #[.slice none 0 0,.int .i64 0,.int .i64 2]) (by simp [results,Tryz.results211,go_sem]) rfl ⟨HB.out,?_⟩
        rw [HR.out]
       ·rw [if_neg hn0]at cK HL
        obtain⟨K2,hK2⟩:∃K2,K1+n=K2:=⟨_,rfl⟩
        rw [hK2]at HL hn2
        have q1:(K1:Int)+(n:Int)=(K2:Int):=by omega
        have HK2:=zH hK2
        have hKl:((s.data.toList.drop K1).take n).length≤100000:=by rw [List.length_take,List.length_drop,← Lib.size_eq];omega
        generalize hKey:(s.data.toList.drop K1).take n=Key at *
        clear hK2 hKey
        go_wp2_with fail
        refine(cK _).mono ?_
        rintro e w2 ⟨rfl,rfl⟩
        by_cases hlt3:K2<s.size
        ·have hh3:=head_is s K2 hlt3 61
         cases h61:(((s[K2]'hlt3).toNat:Int)==61)
         ·rw [if_neg (by intro e;rw [hh3.1 e]at h61;exact absurd h61 (by decide))]at HL
          clear hh3
          have cP:=rput_any u5 acc ⟨Key,6,1,[]⟩ w.heap.size (wr.alloc (.cells #[.int .i64 6,.int .i64 1,.string ⟨#[]⟩] 113)) (HO.out.alloc _) (Nat.le_trans hbz (by simp)) (by omega)
          go_wp2_with fail
          refine cP.mono ?_
          rintro e w3 ⟨hb3,v3,rfl,hown3⟩
          go_wp2_with fail
          go_roundw
          case rel =>
           refine⟨K2,putL acc ⟨Key,6,1,[]⟩,by go_num,hn2,by have:=putL_len acc ⟨Key,6,1,[]⟩;omega,zH ?_,hown3,(HB.out.alloc hbz _).trans hb3⟩
           rw [H.out,HpS.out _ _ HL.out,show K+(1+(j+n))=K2 by omega,show K+1+(j+n)=K2 by omega]
          case measure=>simp [intOf];omega
         ·rw [if_pos (hh3.2 (by simpa using h61))]at HL
          clear hh3
          have hxd2:(s.extract (K2+1) s.size).data.toList=s.data.toList.drop (K2+1):=Lib.extract_to_end s (K2+1)
          have cV:=fun W=>fread_any (s.extract (K2+1) s.size) W (by rw [Lib.size_eq,hxd2,List.length_drop,← Lib.size_eq];omega)
          rw [hxd2]at cV
          cases ho:readL (s.data.toList.drop (K2+1))with
          | none =>
           rw [ho]at HL cV
           rw [gotV]at cV
           have HR:Hid (psL s.data.toList [] 0=none):=zH (by rw [H.out];exact HpN.out HL.out)
           clear ho
           go_wp2_with fail
           refine(cV _).mono ?_
           rintro e w3 ⟨rfl,hb3⟩
           go_wp2_with fail
           refine bodyPost_ret (v:=.tuple #[.slice none 0 0,.int .i64 0,.int .i64 2]) (by simp [results,Tryz.results211,go_sem]) rfl ⟨?_,?_⟩
           ·exact((HB.out.alloc hbz _).trans (hb3.mono (Nat.le_trans hbz (by simp)))).alloc (Nat.le_trans hbz (Nat.le_trans (by simp) hb3.size)) _
           ·rw [HR.out]
          | some g =>
           have hgm:=(readL_right _ _ ho).2.2.1
           rw [List.length_drop,← Lib.size_eq]at hgm
           obtain⟨gk,gn,gs,gm⟩:=g
           rw [ho]at HL cV
           rw [gotV]at cV
           simp only at HL cV hgm
           clear ho
           go_wp2_with fail
           refine(cV _).mono ?_
           rintro e w3 ⟨rfl,hb3⟩
           have hb30:Below wr.heap.size wr w3:=((Below.refl _ _).alloc (zR _) (.cells #[.int .i64 6,.int .i64 1,.string ⟨#[]⟩] 113)).trans (hb3.mono (by simp))
           have hO3:=ownsRow_later HO.out hb30
           have hB3:=HB.out.trans (hb30.mono hbz)
           have hz3:wr.heap.size<w3.heap.size:=by have:=hb3.size;simp at this;omega
           obtain⟨b0,b1,b2⟩:=bare_cells wr 6 1 ⟨#[]⟩ w3 (by simpa using hb3)
           have f0:w3.frozen? ⟨wr.heap.size,0,none⟩=false:=(hb3.frozen (p:=⟨wr.heap.size,0,none⟩) (by simp)).trans (by simp)
           have f1:w3.frozen? ⟨wr.heap.size,1,none⟩=false:=(hb3.frozen (p:=⟨wr.heap.size,1,none⟩) (by simp)).trans (by simp)
           have f2:w3.frozen? ⟨wr.heap.size,2,none⟩=false:=(hb3.frozen (p:=⟨wr.heap.size,2,none⟩) (by simp)).trans (by simp)
           have hb4:=((((hb30.setCell (p:=⟨wr.heap.size,0,none⟩) (zR _) (.int .i64 gk)).setCell (p:=⟨wr.heap.size,1,none⟩) (zR _) (.int .i64 gn)).setCell (p:=⟨wr.heap.size,2,none⟩) (zR _) (.string (strB gs))).alloc (by simp;omega) (.cells #[.int .i64 gk,.int .i64 gn,.string (strB gs)] 113))
           have hO4:=ownsRow_later HO.out hb4
           have hB4:=HB.out.trans (hb4.mono hbz)
           go_wp2_with fail
           refine(rput_any u5 acc ⟨Key,gk,gn,gs⟩ w.heap.size _ hO4 hB4.size (by omega)).mono ?_
           rintro e w5 ⟨hb5,v5,rfl,hown5⟩
           have hB5:=hB4.trans hb5
           clear hb5 hb4 hB4 hO4 f0 f1 f2 b0 b1 b2 hO3 hB3 hb30 hb3
           go_wp2_with fail
           go_roundw
           case rel =>
            refine⟨K2+1+gm,putL acc ⟨Key,gk,gn,gs⟩,by go_num,by omega,by have:=putL_len acc ⟨Key,gk,gn,gs⟩;omega,zH ?_,hown5,hB5⟩
            rw [H.out,HpS.out _ _ HL.out,show K+(1+(j+n+1+gm))=K2+1+gm by omega,show K+1+(j+n+1+gm)=K2+1+gm by omega]
           case measure=>simp [intOf];omega
        ·rw [if_neg (by rw [List.drop_of_length_le (by rw [← Lib.size_eq];omega)];simp)]at HL
         have cP:=rput_any u5 acc ⟨Key,6,1,[]⟩ w.heap.size (wr.alloc (.cells #[.int .i64 6,.int .i64 1,.string ⟨#[]⟩] 113)) (HO.out.alloc _) (Nat.le_trans hbz (by simp)) (by omega)
         go_wp2_with fail
         refine cP.mono ?_
         rintro e w3 ⟨hb3,v3,rfl,hown3⟩
         go_wp2_with fail
         go_roundw
         case rel =>
          refine⟨K2,putL acc ⟨Key,6,1,[]⟩,by go_num,hn2,by have:=putL_len acc ⟨Key,6,1,[]⟩;omega,zH ?_,hown3,(HB.out.alloc hbz _).trans hb3⟩
          rw [H.out,HpS.out _ _ HL.out,show K+(1+(j+n))=K2 by omega,show K+1+(j+n)=K2 by omega]
         case measure=>simp [intOf];omega
      ·have hjn2:j<ns:=hjn.1 (hh.2 (by simpa using hc))
       clear hh hjn
       go_wp2_with fail
       go_roundw
       case rel=>exact⟨j+1,by omega,by go_num,trivial⟩
       case measure=>simp [intOf];omega
     ·have hjn2:j=ns:=by omega
      subst hjn2
      obtain rfl:K1=J:=by omega
      have hnil:s.data.toList.drop K1=[]:=List.drop_of_length_le (by rw [← Lib.size_eq];omega)
      have hxd:(s.extract K1 s.size).data.toList=s.data.toList.drop K1:=Lib.extract_to_end s K1
      have cK:=fun W=>rreadKey_any (s.extract K1 s.size) W (by rw [Lib.size_eq,hxd,List.length_drop,← Lib.size_eq];unfold maxLen;omega)
      rw [hxd,rkV,hn]at cK
      have hn0:n=0:=by rw [← hn,hnil]<;>rfl
      rw [if_pos hn0]at cK HL
      have HR:Hid (psL s.data.toList [] 0=none):=zH (by rw [H.out];exact HpN.out HL.out)
      go_wp2_with fail
      refine(cK _).mono ?_
      rintro e w2 ⟨rfl,rfl⟩
      go_wp2_with fail
      refine bodyPost_ret (v:=.tuple #[.slice none 0 0,.int .i64 0,.int .i64 2]) (by simp [results,Tryz.results211,go_sem]) rfl ⟨HB.out,?_⟩
      rw [HR.out]
  ·have HL:=hret (by
    rw [List.drop_of_length_le (by rw [← Lib.size_eq];omega)]
    simp)
   clear hret
   obtain⟨ao,cap,rfl⟩:=owns_form HO.out
   go_wp2_with fail
   refine bodyPost_ret (v:=.tuple #[.slice ao acc.length cap,.int .i64 (K:Int),.int .i64 0]) (by simp [results,Tryz.results211,go_sem]) rfl ⟨HB.out,?_⟩
   rw [HL.out]
   exact⟨_,rfl,HO.out⟩
abbrev rzero:Obj:=.cells #[.int .i64 0,.int .i64 0,.string ⟨#[]⟩,.slice none 0 0] 223
theorem ResI.rmade (w:World):ResI (w.alloc rzero) w.heap.size:=⟨by simp,by simp,by simp,by simp,by simp,by simp,by simp,by simp⟩
theorem ResI.next {W W1:World} {c:Nat} (h:ResI W c) (hb:Below (c+1) W W1):ResI W1 c:=by
 have hl:=h.lt
 have hc:∀i,W1.cell? ⟨c,i,none⟩=W.cell? ⟨c,i,none⟩:=fun i=>hb.cell (p:=⟨c,i,none⟩) (Nat.lt_succ_self _)
 have hf:∀i,W1.frozen? ⟨c,i,none⟩=W.frozen? ⟨c,i,none⟩:=fun i=>hb.frozen (p:=⟨c,i,none⟩) (Nat.lt_succ_self _)
 exact⟨(hc 0).trans h.r0,(hc 1).trans h.r1,(hc 2).trans h.r2,(hc 3).trans h.r3,(hf 0).trans h.g0,(hf 1).trans h.g1,(hf 2).trans h.g2,(hf 3).trans h.g3⟩
def rreadPost (o:Option (Got×List Prm×Nat)) (w:World) (e:Ending) (w':World):Prop:=
 Below w.heap.size w w'∧match o with
  | none=>e=.returned (.tuple #[.agg #[.int .i64 0,.int .i64 0,.string ⟨#[]⟩,.slice none 0 0],.int .i64 0,.int .i64 2])
  | some (g,ps,m)=>∃v,e=.returned (.tuple #[.agg #[.int .i64 g.k,.int .i64 g.n,.string (strB g.s),v],.int .i64 (m:Int),.int .i64 0])∧w'.ownsRow w.heap.size 272 4 v ps.length (rowP ps)
theorem rread_any (s:ByteArray) (w:World) (hs:s.size≤100000) :
  Calls Tryz.prog 229 #[.string s] w (rreadPost (itmL s.data.toList) w):=by
 have cV:=fun W=>fread_any s W hs
 have hb0:Below w.heap.size w (w.alloc rzero):=(Below.refl _ _).alloc (zR _) _
 have HR0:=zH (ResI.rmade w)
 cases ho:readL s.data.toList with
 | none =>
  have HL:Hid (itmL s.data.toList=none):=zH (by rw [itmL,ho])
  rw [ho,gotV]at cV
  clear ho
  go_enter Tryz.func229,Tryz.ntmps229
  go_wp2_with fail
  refine(cV _).mono ?_
  rintro e w1 ⟨rfl,hb1⟩
  have hR1:=HR0.out.next (by simpa using hb1)
  have hB1:=hb0.trans (hb1.mono hb0.size)
  have hlt1:=hR1.lt
  obtain⟨r0,r1,r2,r3,g0,g1,g2,g3⟩:=hR1
  clear hb1 cV
  go_wp2_with fail
  refine bodyPost_ret (v:=.tuple #[.agg #[.int .i64 0,.int .i64 0,.string ⟨#[]⟩,.slice none 0 0],.int .i64 0,.int .i64 2]) (by simp [results,Tryz.results229,go_sem,r0,r1,r2,r3,hlt1]) rfl ?_
  rw [HL.out]
  refine⟨?_,rfl⟩
  repeat(first | with_reducible refine Below.alloc ?_ (by simp;omega) _ | with_reducible refine Below.setCell ?_ (by simp) _)
  exact hB1
 | some g =>
  have hgm:=(readL_right _ _ ho).2.2.1
  rw [← Lib.size_eq]at hgm
  have hxd:(s.extract g.m s.size).data.toList=s.data.toList.drop g.m:=Lib.extract_to_end s g.m
  have cP:=fun W=>rparams_any (s.extract g.m s.size) W (by rw [Lib.size_eq,hxd,List.length_drop,← Lib.size_eq];omega)
  rw [hxd]at cP
  rw [ho,gotV]at cV
  have hit:itmL s.data.toList=(match psL (s.data.toList.drop g.m) [] 0 with
   | none=>none
   | some (ps,m)=>some (g,ps,g.m+m)):=by rw [itmL,ho]<;>rfl
  have HL:=zH hit
  clear ho hit hxd
  obtain⟨gk,gn,gs,gm⟩:=g
  simp only at cV cP HL hgm
  generalize hS:strB gs=S at *
  have HS:=zH hS
  clear hS
  go_enter Tryz.func229,Tryz.ntmps229
  go_wp2_with fail
  refine(cV _).mono ?_
  rintro e w1 ⟨rfl,hb1⟩
  have hR1:=HR0.out.next (by simpa using hb1)
  have hB1:=hb0.trans (hb1.mono hb0.size)
  have HR1:=zH (ResI.later (.cells #[.int .i64 gk,.int .i64 gn,.string S] 113) hR1)
  have HB1:=zH (hB1.alloc hB1.size (.cells #[.int .i64 gk,.int .i64 gn,.string S] 113))
  clear hb1 cV hR1 hB1
  go_wp2_with fail
  refine(cP _).mono ?_
  cases hps:psL (s.data.toList.drop gm) [] 0 with
  | none =>
   rw [hps]at HL
   rintro e w2 ⟨hb2,rfl⟩
   have hR2:=HR1.out.next (hb2.mono (Nat.succ_le_of_lt HR1.out.lt))
   have hB2:=HB1.out.trans (hb2.mono HB1.out.size)
   have hlt2:=hR2.lt
   obtain⟨r0,r1,r2,r3,g0,g1,g2,g3⟩:=hR2
   clear hb2 cP hps
   go_wp2_with fail
   refine bodyPost_ret (v:=.tuple #[.agg #[.int .i64 0,.int .i64 0,.string ⟨#[]⟩,.slice none 0 0],.int .i64 0,.int .i64 2]) (by simp [results,Tryz.results229,go_sem,r0,r1,r2,r3]) rfl ?_
   rw [HL.out]
   refine⟨?_,rfl⟩
   repeat(first | with_reducible refine Below.alloc ?_ (by simp;omega) _ | with_reducible refine Below.setCell ?_ (by simp) _)
   exact hB2
  | some x =>
   obtain⟨ps,m⟩:=x
   rw [hps]at HL
   rintro e w2 ⟨hb2,v2,rfl,hown2⟩
   obtain⟨ao,cap,rfl⟩:=owns_form hown2
   have hR2:=HR1.out.next (hb2.mono (Nat.succ_le_of_lt HR1.out.lt))
   have hB2:=HB1.out.trans (hb2.mono HB1.out.size)
   have hlt2:=hR2.lt
   have hk:=psL_le _ _ _ _ _ _ (zR _) hps
   rw [List.length_drop,← Lib.size_eq,Nat.zero_add]at hk
   obtain⟨b0,b1,b2⟩:=bare_cells w1 gk gn S w2 (by simpa using hb2)
   have hlb:w1.heap.size<w2.heap.size:=lt_of_cell b0
   obtain⟨r0,r1,r2,r3,g0,g1,g2,g3⟩:=hR2
   have HO:=zH hown2
   have hne:w.heap.size<(w1.alloc (.cells #[.int .i64 gk,.int .i64 gn,.string S] 113)).heap.size:=HR1.out.lt
   have HNe:=zH hne
   clear hb2 cP hps hown2 hne
   go_wp2_with fail
   refine bodyPost_ret (v:=.tuple #[.agg #[.int .i64 gk,.int .i64 gn,.string S,.slice ao ps.length cap],.int .i64 ((gm+m:Nat):Int),.int .i64 0]) (by simp [results,Tryz.results229,go_sem,r0,r1,r2,r3]) rfl ?_
   rw [HL.out]
   refine⟨?_,_,by rw [HS.out],?_⟩
   ·repeat(first | with_reducible refine Below.alloc ?_ (by simp;omega) _ | with_reducible refine Below.setCell ?_ (by simp) _ | with_reducible refine Below.drew ?_)
    exact hB2
   ·refine ownsRow_low (ownsRow_moved HO.out (b:=w.heap.size) ?_ HNe.out) (Nat.le_of_lt HNe.out)
    repeat(first | with_reducible refine Moved.drew1 ?_ | with_reducible refine Moved.alloc ?_ _ | with_reducible refine Moved.setCell ?_ _)
    exact Moved.refl _ _
end Go.Proofs.YtfaedmbfabfmeaaGreatDoor
