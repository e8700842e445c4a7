/- The document's own Parse (sculleryref10). · The document's own Size and Same of fields (sculleryref06). -/
import Derived.Test.YtfaedmbfabfmeaaGreatDoorYMLgE
import Derived.Test.YtfaedmbfabfmeaaGreatDoorYMDirP
import Derived.Laws.AppendOwn
import Derived.WalkSpells
import Derived.WalkLawsBesides
import Derived.BigQuiet
import Derived.Deep.QuietTactic
set_option linter.unusedSimpArgs false
set_option maxRecDepth 100000
set_option maxHeartbeats 4000000
namespace Go.Proofs.YtfaedmbfabfmeaaGreatDoor
open Go.RowKit Go.Lib
theorem info_rdir2:(Tryz.prog.info? 146).map (fun i=>(i.zero,i.size,i.bytes))=some (some (.agg #[.string ⟨#[]⟩,.string ⟨#[]⟩,.bool false]),3,40):=by kernel_rfl
theorem rparse_any (s:ByteArray) (w:World) (hs:s.size≤100000) :
  Calls Tryz.prog 69 #[.string s] w fun e w'=>(∃u,e=.returned u∧Dirs w.heap.size w' u (dirsL s.data.toList))∧Below w.heap.size w w':=by
 obtain⟨i0,hi,hz0,hz1,hz2⟩:=info_parts info_rdir2
 have cS:=rsplit_any s w (by omega)
 obtain⟨hn1,hn2⟩:=splitL_small _ s.data.toList (zR _)
 rw [← Lib.size_eq]at hn1 hn2
 have HD:Hid (dirsL s.data.toList=(splitL s.data.toList).filterMap oneL):=zH rfl
 generalize dirsL s.data.toList=DS at *
 generalize splitL s.data.toList=ps at *
 have HN2:=zH hn2
 clear hn2
 go_enter Tryz.func69,Tryz.ntmps69
 go_wp2_with fail
 refine cS.mono ?_
 rintro e w1 ⟨vs,rfl,hown,hb1⟩
 have HS1:=zH hown
 have HB1:=zH hb1
 obtain⟨sa,sc,rfl⟩:=owns_formF hown
 clear hown hb1 cS
 go_wp2_with fail
 go_loopw [3,5] (fun r i wr=>∃(j:Nat) (acc:List Dir) (av:Option Addr) (cv:Nat),r=.slice av acc.length cv∧i=.int .i64 j∧j≤ps.length∧acc.length≤j∧Hid (acc=(ps.take j).filterMap oneL)∧Hid (wr.ownsRow w1.heap.size 146 3 (.slice av acc.length cv) acc.length (rowD acc))∧Hid (Below w1.heap.size w1 wr)) (fun _ i _=>ps.length-(intOf i).toNat)
 case atStart=>exact⟨0,[],none,0,rfl,rfl,Nat.zero_le _,by simp,zH rfl,zH (World.ownsRow_nil _ _ _ _),zH (Below.refl _ _)⟩
 case round =>
  obtain⟨j,acc,av,cv,rfl,rfl,hj,hal,HA,HO,HB⟩:=hrel
  by_cases hlt:j<ps.length
  ·obtain⟨p,hp⟩:∃p,ps[j]? = some p:=⟨_,List.getElem?_eq_getElem hlt⟩
   have Htk:Hid ((ps.take (j+1)).filterMap oneL=(ps.take j).filterMap oneL++(oneL p).toList):=zH (by
    rw [List.take_add_one,hp,List.filterMap_append]
    cases h:oneL p<;>simp [h])
   have hpl:p.length≤100000:=Nat.le_trans (HN2.out p (List.mem_of_getElem? hp)) hs
   have cO:=fun W=>rone_any (strB p) W (by rw [Lib.size_eq,strB_data];exact hpl)
   rw [strB_data]at cO
   obtain⟨g,cap2,hv,hg,hgl,_⟩:=owns_sliceF HS1.out (Nat.lt_of_le_of_lt (Nat.zero_le _) hlt)
   obtain⟨rfl,_,rfl⟩:=Value.slice.inj hv
   have a0:=(HB.out.cell (p:=⟨g,j,none⟩) hgl).trans (owns_cellsF HS1.out j (.string (strB p)) (by rw [List.getElem?_map,hp]<;>rfl))
   have hjI:(j:Int)<(ps.length:Int):=by omega
   have hj0:(0:Int)≤(j:Int):=by omega
   have HP:=zH hp
   have hz:=HB.out.size
   clear hv hp hpl
   cases ho:oneL p with
   | none =>
    have HN:Hid ((ps.take (j+1)).filterMap oneL=(ps.take j).filterMap oneL):=zH (by rw [Htk.out,ho];simp)
    have cO1:∀W,Calls Tryz.prog 110 #[.string (strB p)] W (fun e w'=>(∃N V H,e=.returned (.tuple #[.agg #[.string (strB N),.string (strB V),.bool H],.bool false]))∧Below W.heap.size W w'):=fun W=>(cO W).mono fun e w' h=>by
     rw [ho]at h
     obtain⟨⟨N,V,H,he,_⟩,hb⟩:=h
     exact⟨⟨N,V,H,he⟩,hb⟩
    clear cO ho Htk
    go_wp2_with (go_at_call 110;refine(cO1 _).mono ?_;rintro e w2 ⟨⟨N,V,H,rfl⟩,hb2⟩;have HX:=zH (HB.out.trans (hb2.mono hz));have HO2:=zH (ownsRow_later HO.out hb2))
    go_roundw
    case rel=>exact⟨j+1,acc,av,cv,rfl,by go_num,by omega,by omega,zH (by rw [HN.out];exact HA.out),zH (HO2.out.alloc _),zH (HX.out.alloc HX.out.size _)⟩
    case measure=>simp [intOf];omega
   | some d =>
    have HN:Hid ((ps.take (j+1)).filterMap oneL=(ps.take j).filterMap oneL++[d]):=zH (by rw [Htk.out,ho]<;>rfl)
    obtain⟨N,V,H⟩:=d
    have cO1:∀W,Calls Tryz.prog 110 #[.string (strB p)] W (fun e w'=>e=.returned (.tuple #[.agg #[.string (strB N),.string (strB V),.bool H],.bool true])∧Below W.heap.size W w'):=fun W=>(cO W).mono fun e w' h=>by
     rw [ho]at h
     obtain⟨⟨N',V',H',he,hd⟩,hb⟩:=h
     have hd:=hd _ rfl
     simp only [Prod.mk.injEq]at hd
     obtain⟨rfl,rfl,rfl⟩:=hd
     exact⟨he,hb⟩
    clear cO ho Htk
    have HC:=zH (show cellsD (N,V,H)=[.string (strB N),.string (strB V),.bool H]from rfl)
    have HRS:=zH (rowD_snoc acc (N,V,H))
    go_wp2_with (first | (go_at_call 110;refine(cO1 _).mono ?_;rintro e w2 ⟨rfl,hb2⟩;have HX:=zH (HB.out.trans (hb2.mono hz));have HO2:=zH (ownsRow_later HO.out hb2)) | (at_builtin;refine wpList_append_own _ rfl _ _ 99 rfl w1.heap.size 146 i0 (.agg #[.string ⟨#[]⟩,.string ⟨#[]⟩,.bool false]) 3 40 Tryz.underlying99 hi hz0 hz1 hz2 rfl (by decide) (.slice av acc.length cv) acc.length (rowD acc) rfl ((HO2.out.alloc _).alloc _) ⟨_,0,none⟩ 1 1 (cellsD (N,V,H)) rfl rfl (fun j u h=>by have e:=cells_newF (w2.alloc (.cells #[.string (strB N),.string (strB V),.bool H] 146)) (cellsD (N,V,H)) 146 j u h;rw [show(w2.alloc (.cells #[.string (strB N),.string (strB V),.bool H] 146)).heap.size=w2.heap.size+1 by simp]at e;exact e) (by simp [Value.oneCell',cellsD]) (by unfold maxLen;omega) (by omega) (by have:=HX.out.size;simp<;>omega) ?_;intro v' w5 hown5 hgrow5 _;obtain⟨a5,c5,rfl⟩:=owns_formF hown5))
    go_roundw
    case rel =>
     refine⟨j+1,acc++[(N,V,H)],a5,c5,by rw [List.length_append]<;>rfl,by go_num,by omega,by simp;omega,zH (by rw [HN.out,HA.out]),zH (by rw [List.length_append,HRS.out];exact hown5),zH ?_⟩
     exact((HX.out.alloc HX.out.size _).alloc (by have:=HX.out.size;simp<;>omega) _).grown hgrow5 (by have:=HX.out.size;simp<;>omega) (fun k e=>(World.ownsRow.lt HO2.out k e).1)
    case measure=>simp [intOf];omega
  ·obtain rfl:j=ps.length:=by omega
   have HR:Hid (acc=DS):=zH (by have:=HA.out;rw [List.take_length]at this;rw [HD.out];exact this)
   have HX:=zH (HB1.out.trans (HB.out.mono HB1.out.size))
   have HF:=zH (Dirs.of_own HO.out HB1.out.size)
   go_wp2_with fail
   refine bodyPost_ret (v:=.slice av acc.length cv) (by simp [results,Tryz.results69,go_sem]) rfl ⟨⟨_,rfl,by rw [← HR.out];exact HF.out⟩,HX.out⟩
end Go.Proofs.YtfaedmbfabfmeaaGreatDoor
namespace Go.Proofs.YtfaedmbfabfmeaaGreatDoor
open Go.RowKit
def FldsIn (fs:List Fld):Prop:=fs.length≤140737488355328∧∀p∈fs,p.1.length≤140737488355328∧p.2.length≤140737488355328
def szH:Nat→List Fld→Nat
 | n,[]=>n
 | n,p :: fs=>if n<100000 then szH (n+p.1.length+p.2.length+4) fs else n
theorem szH_small:∀(fs:List Fld) (n:Nat),szH n fs≤10000→n+(prF fs).length=szH n fs
 | [],n,_=>rfl
 | p :: fs,n,h=>by
  rw [szH]at h ⊢
  split at h
  ·rename_i hn
   rw [if_pos hn,prF,List.length_append,lineF_len]
   have:=szH_small fs _ h
   omega
  ·omega
theorem prF_ge:∀fs:List Fld,4*fs.length≤(prF fs).length
 | []=>zR _
 | p :: fs=>by
  have:=prF_ge fs
  rw [prF,List.length_append,lineF_len,List.length_cons]
  omega
theorem prF_mem:∀(fs:List Fld) (p:Fld),p∈fs→p.1.length+p.2.length≤(prF fs).length
 | [],_,h=>by cases h
 | q :: fs,p,h=>by
  rw [prF,List.length_append,lineF_len]
  rcases List.mem_cons.1 h with rfl | h
  ·omega
  ·have:=prF_mem fs p h
   omega
theorem szH_ok (fs:List Fld) (h:szH 0 fs≤10000):FldsOk fs∧(prF fs).length≤10000:=by
 have h1:=szH_small fs 0 h
 have h2:=prF_ge fs
 refine⟨⟨by omega,fun p hp=>?_⟩,by omega⟩
 have:=prF_mem fs p hp
 omega
def szStep_SizA (n:Int) (p:Fld):Int:=wrap64 (wrap64 (wrap64 (n+(p.1.length:Int))+(p.2.length:Int))+4)
def szI (n:Int):List Fld→Int
 | []=>n
 | p :: fs=>if n<100000 then szI (szStep_SizA n p) fs else n
theorem szI_eq:∀(fs:List Fld) (n:Nat),(∀p∈fs,p.1.length≤140737488355328∧p.2.length≤140737488355328)→szI (n:Int) fs=((szH n fs:Nat):Int)
 | [],_,_=>rfl
 | p :: fs,n,h=>by
  obtain⟨h1,h2⟩:=h p (List.mem_cons_self ..)
  by_cases hn:n<100000
  ·have e:szStep_SizA (n:Int) p=((n+p.1.length+p.2.length+4:Nat):Int):=by
    unfold szStep_SizA wrap64
    omega
   rw [szI,szH,if_pos hn,if_pos (by omega),e]
   exact szI_eq fs _ (fun q hq=>h q (List.mem_cons_of_mem _ hq))
  ·rw [szI,szH,if_neg hn,if_neg (by omega)]
theorem rsizeI_any (lo:Nat) (v:Value) (fs:List Fld) (w:World) (h:Flds lo w v fs) (hl:fs.length≤maxLen) :
  Calls Tryz.prog 8 #[v] w fun e w'=>e=.returned (.int .i64 (szI 0 fs))∧Below w.heap.size w w':=by
 unfold maxLen at hl
 obtain⟨ao,cap,rfl,hc⟩:=h
 have HC:=zH hc
 clear hc
 go_enter Tryz.func8,Tryz.ntmps8
 go_wp2_with fail
 go_loopw [3,4] (fun n i wr=>∃(j:Nat) (N:Int),n=.int .i64 N∧i=.int .i64 j∧j≤fs.length∧Hid (szI 0 fs=szI N (fs.drop j))∧Below w.heap.size w wr) (fun _ i _=>fs.length-(intOf i).toNat)
 case atStart=>exact⟨0,0,rfl,rfl,Nat.zero_le _,zH rfl,Below.refl _ _⟩
 case round =>
  obtain⟨j,N,rfl,rfl,hj,H,hb⟩:=hrel
  have HB:=zH hb
  by_cases hlt:j<fs.length
  ·rcases HC.out with hnil | ⟨c,off,rfl,_,hcl,hcell⟩
   ·exfalso
    rw [hnil]at hlt
    simp at hlt
   ·obtain⟨p,hp⟩:∃p,fs[j]? = some p:=⟨_,List.getElem?_eq_getElem hlt⟩
    obtain⟨x0,x1⟩:=hcell j p hp
    have a0:=(hb.cell (p:=⟨c,off+j*2,none⟩) hcl).trans x0
    have a1:=(hb.cell (p:=⟨c,off+j*2+1,none⟩) hcl).trans x1
    have jI:(j:Int)<(fs.length:Int):=by omega
    have j0:(0:Int)≤(j:Int):=by omega
    have hd:fs.drop j=p :: fs.drop (j+1):=by
     obtain⟨h1,h2⟩:=List.getElem?_eq_some_iff.1 hp
     rw [← h2]
     exact List.drop_eq_getElem_cons h1
    rw [hd]at H
    have HD:Hid (szStep_SizA N p=wrap64 (wrap64 (wrap64 (N+((strB p.1).size:Int))+((strB p.2).size:Int))+4)):=zH (by rw [strB_size,strB_size,szStep_SizA])
    clear hcell x0 x1 hb hd hp
    cases hN:decide (N<100000)
    ·have HE:Hid (szI 0 fs=N):=zH (by rw [H.out,szI,if_neg (by simpa using hN)])
     clear H HD
     go_wp2_with fail
     go_ret
     exact⟨by rw [HE.out]<;>rfl,HB.out⟩
    ·have HE:Hid (szI 0 fs=szI (szStep_SizA N p) (fs.drop (j+1))):=zH (by rw [H.out,szI,if_pos (by simpa using hN)])
     clear H
     generalize strB p.1=K at *
     generalize strB p.2=S at *
     go_wp2_with fail
     go_quiet (fail)
     go_wp2_with fail
     go_roundw
     case rel=>exact⟨j+1,szStep_SizA N p,by rw [HD.out],by go_num,by omega,zH HE.out,HB.out.trans ((below_drewN _ _).mono HB.out.size)⟩
     case measure=>simp [intOf];omega
  ·obtain rfl:j=fs.length:=by omega
   have HE:Hid (szI 0 fs=N):=zH (by rw [H.out,List.drop_length,szI])
   clear H hb
   go_wp2_with fail
   go_ret
   exact⟨by rw [HE.out]<;>rfl,HB.out⟩
theorem rsize_any (lo:Nat) (v:Value) (fs:List Fld) (w:World) (h:Flds lo w v fs) (hk:FldsIn fs) :
  Calls Tryz.prog 8 #[v] w fun e w'=>e=.returned (.int .i64 ((szH 0 fs:Nat):Int))∧Below w.heap.size w w':=by
 have:=rsizeI_any lo v fs w h (by have:=hk.1;unfold maxLen;omega)
 rwa [show szI 0 fs=((szH 0 fs:Nat):Int)from szI_eq fs 0 hk.2]at this
end Go.Proofs.YtfaedmbfabfmeaaGreatDoor
