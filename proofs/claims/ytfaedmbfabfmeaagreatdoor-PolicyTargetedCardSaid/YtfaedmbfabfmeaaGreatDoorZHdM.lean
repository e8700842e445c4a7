/- The contracts of slices.Grow at nothing, of slices.Concat at two slices of fields, and of head.With. -/
import Derived.Test.YtfaedmbfabfmeaaGreatDoorZMDirS
import Derived.Lib.AppendZeros
import Derived.Laws.OwnMore
set_option linter.unusedSimpArgs false
set_option linter.unusedVariables false
set_option maxRecDepth 100000
set_option maxHeartbeats 4000000
namespace Go.Proofs.YtfaedmbfabfmeaaGreatDoor
open Go.RowKit
theorem run_append_zero {P:Program} (w:World) (t ty e:TypeId) (i:TypeInfo) (ht:P.underlying t=some (.slice e)) (hi:P.info? e=some i) (ao bo:Option Addr) (n m cap c2:Nat) (hn:n≤cap) (hm:m=0) :
  (Builtin.append_ #[t,t] ty #[.slice ao n cap,.slice bo m c2]).run P w=.ok (.slice ao n cap) w:=by
 subst hm
 cases ao<;>cases bo<;>simp [Builtin.append_,run_underlying ht,sizeOf,typeInfo,hi,Builtin.lenOf,Builtin.firstCells,hn,storeCells,loadCells,loadCellsFrom]
theorem rowF_cell {w:World} {b off:Nat}:∀(fs:List Fld) (k:Nat),(∀j p,fs[j]? = some p→w.cell? ⟨b,off+(k+j)*2,none⟩=some (.string (strB p.1))∧w.cell? ⟨b,off+(k+j)*2+1,none⟩=some (.string (strB p.2))) →
  ∀(j:Nat) (u:Value),(rowF fs)[j]? = some u→w.cell? ⟨b,off+k*2+j,none⟩=some u
 | [],_,_,_,_,h=>by simp [rowF]at h
 | p :: fs,k,hc,0,u,h=>by
  obtain rfl:Value.string (strB p.1)=u:=by simpa [rowF,cellsF] using h
  exact(hc 0 p rfl).1
 | p :: fs,k,hc,1,u,h=>by
  obtain rfl:Value.string (strB p.2)=u:=by simpa [rowF,cellsF] using h
  exact(hc 0 p rfl).2
 | p :: fs,k,hc,j+2,u,h=>by
  have h':(rowF fs)[j]? = some u:=by simpa [rowF,cellsF] using h
  have:=rowF_cell fs (k+1) (fun m q hq=>by
   have:=hc (m+1) q (by simpa using hq)
   rwa [show k+(m+1)=k+1+m by omega]at this) j u h'
  rwa [show off+k*2+(j+2)=off+(k+1)*2+j by omega]
theorem rowF_one (fs:List Fld):∀u∈rowF fs,u.oneCell'=true:=by
 induction fs with
 | nil=>intro u hu;cases hu
 | cons p fs ih =>
  intro u hu
  rw [rowF,List.mem_append]at hu
  rcases hu with hu | hu
  ·simp only [cellsF,List.mem_cons,List.not_mem_nil,or_false]at hu
   rcases hu with rfl | rfl<;>rfl
  ·exact ih u hu
theorem rowF_app:∀fs gs:List Fld,rowF (fs++gs)=rowF fs++rowF gs
 | [],_=>rfl
 | p :: fs,gs=>by rw [List.cons_append,rowF,rowF,rowF_app fs gs,List.append_assoc]
theorem growF_any (n:Nat) (w:World) (h0:0<n) (hn:n≤200000) :
  Calls Tryz.prog 86 #[.slice none 0 0,.int .i64 n] w fun e w'=>(∃cap,e=.returned (.slice (some ⟨w.heap.size,0,none⟩) 0 cap)∧w'.ownsRow w.heap.size 51 2 (.slice (some ⟨w.heap.size,0,none⟩) 0 cap) 0 [])∧Below w.heap.size w w':=by
 obtain⟨i0,hi,hz0,hz1,hz2⟩:=info_parts info_field
 have h:=Lib.run_append_nil_zeros (P:=Tryz.prog) w 22 3 22 51 i0 _ .i64 .i64 Tryz.underlying22 Tryz.underlying3 hi hz0 n h0 (by rw [hz1];decide) (by omega) (by rw [hz2];omega)
 have hge:=grownCap_ge w n 0 51
 have hle:=grownCap_le_maxLen w n 0 51 (by unfold maxLen;omega)
 generalize grownCap w n 0 51=gc at *
 have hcs:(Builtin.zeroCells (Value.agg #[.string ⟨#[]⟩,.string ⟨#[]⟩]).cells n++Builtin.zeroCells (Value.agg #[.string ⟨#[]⟩,.string ⟨#[]⟩]).cells (gc-n)).size=gc*2:=by
  have hz:(Value.agg #[.string ⟨#[]⟩,.string ⟨#[]⟩]).cells.size=2:=rfl
  rw [Array.size_append,size_zeroCells,size_zeroCells,hz]
  omega
 generalize(Builtin.zeroCells (Value.agg #[.string ⟨#[]⟩,.string ⟨#[]⟩]).cells n++Builtin.zeroCells (Value.agg #[.string ⟨#[]⟩,.string ⟨#[]⟩]).cells (gc-n))=cs at *
 have HO:=zH (World.ownsRow_made (base:=w.heap.size) (e:=51) (size:=2) w.drew cs gc (zR _) hle hcs)
 have hgc:0≤gc:=Nat.zero_le _
 clear hcs hle
 go_enter Tryz.func86,Tryz.ntmps86
 go_wp2_with (at_builtin;refine Lib.wpList_append_run _ rfl _ _ _ _ rfl _ _ rfl rfl _ _ h ?_)
 go_ret
 exact⟨⟨gc,rfl,HO.out⟩,((Below.refl _ w).drew).alloc (zR _) _⟩
theorem concatF_any (lo B B2:Nat) (v1:Value) (fs:List Fld) (p:Fld) (w:World) (h:Flds lo w v1 fs) (hl:fs.length≤100000)
  (c0:w.cell? ⟨B,0,none⟩=some v1) (c1:w.cell? ⟨B,1,none⟩=some (.slice (some ⟨B2,0,none⟩) 1 1)) (d0:w.cell? ⟨B2,0,none⟩=some (.string (strB p.1))) (d1:w.cell? ⟨B2,1,none⟩=some (.string (strB p.2))) :
  Calls Tryz.prog 53 #[.slice (some ⟨B,0,none⟩) 2 2] w fun e w'=>(∃u,e=.returned u∧w'.ownsRow w.heap.size 51 2 u (fs++[p]).length (rowF (fs++[p])))∧Below w.heap.size w w':=by
 obtain⟨i0,hi,hz0,hz1,hz2⟩:=info_parts info_field
 obtain⟨ao,cap,rfl,hc⟩:=h
 have HC:=zH hc
 have hB:=lt_of_cell c0
 have hB2:=lt_of_cell d0
 have cG:=fun W=>growF_any (fs.length+1) W (by omega) (by omega)
 have hcast:((fs.length+1:Nat):Int)=(fs.length:Int)+1:=by omega
 rw [hcast]at cG
 clear hc
 go_enter Tryz.func53,Tryz.ntmps53
 go_wp2_with fail
 go_loop [3,11] (fun n i=>∃j m:Nat,n=.int .i64 m∧i=.int .i64 j∧((j=0∧m=0)∨(j=1∧m=fs.length)∨(j=2∧m=fs.length+1))) (fun _ i=>2-(intOf i).toNat)
 case atStart=>exact⟨0,0,rfl,rfl,.inl ⟨rfl,rfl⟩⟩
 case round =>
  obtain⟨j,m,rfl,rfl,⟨rfl,rfl⟩ | ⟨rfl,rfl⟩ | ⟨rfl,rfl⟩⟩:=hrel
  ·clear cG
   go_wp2_with fail
   go_round
   case rel=>exact⟨1,fs.length,by go_num,by go_num,.inr (.inl ⟨rfl,rfl⟩)⟩
   case measure=>simp [intOf]
  ·clear cG
   go_wp2_with fail
   go_round
   case rel=>exact⟨2,fs.length+1,by go_num,by go_num,.inr (.inr ⟨rfl,rfl⟩)⟩
   case measure=>simp [intOf]
  ·rw [hcast]
   clear hcast
   go_wp2_with fail
   refine(cG _).mono ?_
   rintro e w1 ⟨⟨gc,rfl,hown⟩,hb⟩
   have HO:=zH hown
   have HB:=zH hb
   have k0:Hid (w.cell? ⟨B,0,none⟩=some (.slice ao fs.length cap)):=zH c0
   have k1:Hid (w.cell? ⟨B,1,none⟩=some (.slice (some ⟨B2,0,none⟩) 1 1)):=zH c1
   have k2:=zH d0
   have k3:=zH d1
   clear cG hown hb c0 c1 d0 d1
   go_wp2_with fail
   go_loopw [6,27] (fun u i wr=>∃(j:Nat) (acc:List Fld) (av:Option Addr) (cv:Nat),u=.slice av acc.length cv∧i=.int .i64 j∧wr.ownsRow w.heap.size 51 2 (.slice av acc.length cv) acc.length (rowF acc)∧Below w.heap.size w wr∧((j=0∧acc=[])∨(j=1∧fs=acc)∨(j=2∧acc=fs++[p]))) (fun _ i _=>2-(intOf i).toNat)
   case atStart=>exact⟨0,[],_,gc,rfl,rfl,HO.out,HB.out,.inl ⟨rfl,rfl⟩⟩
   case round =>
    obtain⟨j,acc,av,cv,rfl,rfl,hown,hb,hj⟩:=hrel
    clear HO HB
    have e0:=(hb.cell (p:=⟨B,0,none⟩) hB).trans k0.out
    have e1:=(hb.cell (p:=⟨B,1,none⟩) hB).trans k1.out
    have hcv:acc.length≤cv:=by
     rcases hown.2 with ⟨hv,h0⟩ | ⟨g,cap',cur,hv,_,_,hle,_⟩
     ·omega
     ·cases hv;exact hle
    have HO:=zH hown
    have HB:=zH hb
    have hbs:=hb.size
    rcases hj with ⟨rfl,rfl⟩ | ⟨rfl,rfl⟩ | ⟨rfl,rfl⟩
    ·rcases HC.out with hnil | ⟨b,off,rfl,_,hcl,hcell⟩
     ·have hr:=run_append_zero (P:=Tryz.prog) wr 22 22 51 i0 Tryz.underlying22 hi av ao 0 fs.length cv cap (Nat.zero_le _) (by rw [hnil];rfl)
      have HN:=zH hnil
      clear hown hb hnil
      go_wp2_with (at_builtin;refine Lib.wpList_append_run _ rfl _ _ _ _ rfl _ _ rfl rfl _ _ hr ?_)
      go_roundw
      case rel=>exact⟨1,[],av,cv,rfl,by go_num,HO.out,HB.out,.inr (.inl ⟨rfl,HN.out⟩)⟩
      case measure=>simp [intOf]
     ·have hcs:Hid (∀(j:Nat) (u:Value),(rowF fs)[j]? = some u→wr.cell? ((⟨b,off,none⟩:Addr).add j)=some u):=zH fun j u hu=>by
       have:=rowF_cell (w:=w) (b:=b) (off:=off) fs 0 (fun j q hq=>by rw [Nat.zero_add];exact hcell j q hq) j u hu
       rw [Nat.zero_mul,Nat.add_zero]at this
       rw [Addr.add_lit]
       exact(hb.cell (p:=⟨b,off+j,none⟩) hcl).trans this
      clear hown hb hcell
      go_wp2_with (at_builtin;refine wpList_append_own _ rfl _ _ 22 rfl w.heap.size 51 i0 (.agg #[.string ⟨#[]⟩,.string ⟨#[]⟩]) 2 32 Tryz.underlying22 hi hz0 hz1 hz2 rfl (by decide) _ _ _ rfl HO.out ⟨b,off,none⟩ fs.length cap (rowF fs) rfl (rowF_len fs) hcs.out (rowF_one fs) (by simp;unfold maxLen;omega) (by simp;omega) hbs ?_;intro v' w5 hown5 hgrow5 _;obtain⟨a5,c5,rfl⟩:=owns_formF hown5)
      go_roundw
      case rel=>exact⟨1,fs,a5,c5,by simp,by go_num,by simpa [rowF] using hown5,HB.out.grown hgrow5 hbs (fun k e=>(World.ownsRow.lt HO.out k e).1),.inr (.inl ⟨rfl,rfl⟩)⟩
      case measure=>simp [intOf]
    ·have hcs:Hid (∀(j:Nat) (u:Value),(rowF [p])[j]? = some u→wr.cell? ((⟨B2,0,none⟩:Addr).add j)=some u):=zH fun j u hu=>by
      rw [Addr.add_lit,Nat.zero_add]
      match j,hu with
      | 0,hu =>
       obtain rfl:=Option.some.inj hu
       exact(hb.cell (p:=⟨B2,0,none⟩) hB2).trans k2.out
      | 1,hu =>
       obtain rfl:=Option.some.inj hu
       exact(hb.cell (p:=⟨B2,1,none⟩) hB2).trans k3.out
     clear hown hb
     go_wp2_with (at_builtin;refine wpList_append_own _ rfl _ _ 22 rfl w.heap.size 51 i0 (.agg #[.string ⟨#[]⟩,.string ⟨#[]⟩]) 2 32 Tryz.underlying22 hi hz0 hz1 hz2 rfl (by decide) _ _ _ rfl HO.out ⟨B2,0,none⟩ 1 1 (rowF [p]) rfl (rowF_len [p]) hcs.out (rowF_one [p]) (by unfold maxLen;omega) (by omega) hbs ?_;intro v' w5 hown5 hgrow5 _;obtain⟨a5,c5,rfl⟩:=owns_formF hown5)
     go_roundw
     case rel=>exact⟨2,fs++[p],a5,c5,by rw [List.length_append];rfl,by go_num,by rw [List.length_append,rowF_app];exact hown5,HB.out.grown hgrow5 hbs (fun k e=>(World.ownsRow.lt HO.out k e).1),.inr (.inr ⟨rfl,rfl⟩)⟩
     case measure=>simp [intOf]
    ·clear hown hb
     go_wp2_with fail
     go_ret
     exact⟨⟨_,rfl,HO.out⟩,HB.out⟩
theorem hwith_any (lo:Nat) (v:Value) (fs:List Fld) (p:Fld) (w:World) (h:Flds lo w v fs) (hl:fs.length≤100000) :
  Calls Tryz.prog 18 #[v,.string (strB p.1),.string (strB p.2)] w fun e w'=>(∃u,e=.returned u∧w'.ownsRow w.heap.size 51 2 u (fs++[p]).length (rowF (fs++[p])))∧Below w.heap.size w w':=by
 obtain⟨W1,hW1⟩:∃W1,w.alloc (.cells #[.string (strB p.1),.string (strB p.2)] 51)=W1:=⟨_,rfl⟩
 obtain⟨W2,hW2⟩:∃W2,W1.alloc (.cells #[v,.slice (some ⟨w.heap.size,0,none⟩) 1 1] 22)=W2:=⟨_,rfl⟩
 have z1:W1.heap.size=w.heap.size+1:=by rw [← hW1];simp
 have hb1:Below w.heap.size w W1:=by rw [← hW1];exact(Below.refl _ w).alloc (zR _) _
 have hb12:Below W1.heap.size W1 W2:=by rw [← hW2];exact(Below.refl _ W1).alloc (zR _) _
 have hb2:Below w.heap.size w W2:=hb1.trans (hb12.mono hb1.size)
 have x0:W1.cell? ⟨w.heap.size,0,none⟩=some (.string (strB p.1)):=by rw [← hW1];simp
 have x1:W1.cell? ⟨w.heap.size,1,none⟩=some (.string (strB p.2)):=by rw [← hW1];simp
 have y0:W2.cell? ⟨w.heap.size+1,0,none⟩=some v:=by rw [← hW2,← z1];simp
 have y1:W2.cell? ⟨w.heap.size+1,1,none⟩=some (.slice (some ⟨w.heap.size,0,none⟩) 1 1):=by rw [← hW2,← z1];simp
 have cC:=concatF_any lo (w.heap.size+1) w.heap.size v fs p W2 (h.below hb2) hl y0 y1 ((hb12.cell (p:=⟨w.heap.size,0,none⟩) (by rw [z1];exact Nat.lt_succ_self _)).trans x0) ((hb12.cell (p:=⟨w.heap.size,1,none⟩) (by rw [z1];exact Nat.lt_succ_self _)).trans x1)
 have HB2:=zH hb2
 obtain⟨ao,cap,rfl,_⟩:=h
 rw [← hW2,← hW1]at cC
 have hW:Hid (((w.alloc (.cells #[.string (strB p.1),.string (strB p.2)] 51)).alloc (.cells #[.slice ao fs.length cap,.slice (some ⟨w.heap.size,0,none⟩) 1 1] 22))=W2):=zH (by rw [hW1,hW2])
 clear hW1 hW2 hb1 hb12 hb2 x0 x1 y0 y1 z1
 generalize strB p.1=N at *
 generalize strB p.2=V at *
 go_enter Tryz.func18,Tryz.ntmps18
 go_wp2_with fail
 refine cC.mono ?_
 rintro e w3 ⟨⟨u,rfl,hown⟩,hb3⟩
 rw [hW.out]at hown hb3
 have hown:=ownsRow_lowF hown HB2.out.size
 rw [List.length_append]at hown
 have hown:w3.ownsRow w.heap.size 51 2 u (fs.length+1) (rowF (fs++[p])):=hown
 have HO:=zH hown
 have HB3:=zH (HB2.out.trans (hb3.mono HB2.out.size))
 obtain⟨a3,c3,rfl⟩:=owns_formF hown
 clear hown hb3 cC
 go_wp2_with fail
 go_ret
 exact⟨⟨_,rfl,by rw [List.length_append];exact HO.out⟩,HB3.out⟩
end Go.Proofs.YtfaedmbfabfmeaaGreatDoor
