/- The contract of head.Get. · The document's own Get of fields (sculleryref06). -/
import Derived.Test.YtfaedmbfabfmeaaGreatDoorYMHdS
import Derived.Test.YtfaedmbfabfmeaaGreatDoorYHdI
set_option linter.unusedSimpArgs false
set_option maxRecDepth 100000
set_option maxHeartbeats 4000000
namespace Go.Proofs.YtfaedmbfabfmeaaGreatDoor
open Go.RowKit Go.Shelf Go.Lib
def getV (fs:List Fld) (name:List UInt8):Value:=.tuple #[.string (strB (joinH (allH fs name))),.bool (decide (0<(allH fs name).length))]
theorem hget_any (lo:Nat) (v:Value) (fs:List Fld) (name:List UInt8) (w:World) (h:Flds lo w v fs) (hk:FldsOk fs) :
  Calls Tryz.prog 39 #[v,.string (strB name)] w fun e w'=>e=.returned (getV fs name)∧Below w.heap.size w w':=by
 have cA:=hall_any lo v fs name w h hk.1
 have hlen:=Nat.le_trans (allH_len fs name) hk.1
 have hl:∀q∈allH fs name,q.length≤100000:=fun q hq=>by
  obtain⟨p,hp,_,rfl⟩:=allH_in hq
  exact(hk.2 p hp).2
 have HL:=zH hl
 have HV:Hid (getV fs name=.tuple #[.string (strB (joinH (allH fs name))),.bool (decide (0<(allH fs name).length))]):=zH rfl
 obtain⟨ao,cap,rfl,_⟩:=h
 generalize allH fs name=ps at *
 generalize getV fs name=V at *
 generalize strB name=N at *
 clear hl hk
 obtain⟨b,hb⟩:∃b,decide (0<ps.length)=b:=⟨_,rfl⟩
 have d:decide ((0:Int)<(ps.length:Int))=b:=by rw [← hb];exact decide_eq_decide.2 (by omega)
 rw [hb]at HV
 have HBb:=zH hb
 clear hb
 go_enter Tryz.func39,Tryz.ntmps39
 go_wp2_with fail
 refine cA.mono ?_
 rintro e w1 ⟨⟨u,rfl,hown⟩,hb1⟩
 have cJ:=join_any _ _ _ w1 hown hlen HL.out
 obtain⟨a1,c1,rfl⟩:=owns_formF hown
 generalize strB (joinH ps)=J at *
 clear hown cA
 go_wp2_with fail
 refine cJ.mono ?_
 rintro e w2 ⟨rfl,hb2⟩
 have HB2:=zH (hb1.trans (hb2.mono hb1.size))
 clear hb1 hb2 cJ
 go_wp2_with fail
 refine bodyPost_ret (v:=.tuple #[.string J,.bool b]) (by simp [results,Tryz.results39,go_sem,HBb.out]) rfl ⟨by rw [HV.out],HB2.out⟩
theorem tail_one (ps:List (List UInt8)) (p:List UInt8) (h:ps≠[]):joinH (ps++[p])=joinH ps++[44,32]++p:=by
 cases ps with
 | nil=>exact absurd rfl h
 | cons q r=>rw [List.cons_append,joinH,joinH,tailH_snoc];simp
theorem rget_any (lo:Nat) (v:Value) (fs:List Fld) (name:List UInt8) (w:World) (h:Flds lo w v fs) (hk:FldsOk fs) :
  Calls Tryz.prog 35 #[v,.string (strB name)] w fun e w'=>e=.returned (getV fs name)∧Below w.heap.size w w':=by
 have cA:=rall_any lo v fs name w h hk.1
 have hlen:=Nat.le_trans (allH_len fs name) hk.1
 have hl:∀q∈allH fs name,q.length≤100000:=fun q hq=>by
  obtain⟨p,hp,_,rfl⟩:=allH_in hq
  exact(hk.2 p hp).2
 have HL:=zH hl
 have HV:Hid (getV fs name=.tuple #[.string (strB (joinH (allH fs name))),.bool (decide (0<(allH fs name).length))]):=zH rfl
 obtain⟨ao,cap,rfl,_⟩:=h
 generalize allH fs name=ps at *
 generalize getV fs name=V at *
 generalize strB name=N at *
 clear hl hk
 go_enter Tryz.func35,Tryz.ntmps35
 go_wp2_with fail
 refine cA.mono ?_
 rintro e w1 ⟨⟨u,rfl,hown⟩,hb1⟩
 have HO:=zH hown
 have HB1:=zH hb1
 obtain⟨a1,c1,rfl⟩:=owns_formF hown
 clear hown hb1 cA
 go_wp2_with fail
 go_loop [7,8] (fun t i=>∃(j:Nat) (A:ByteArray),t=.string A∧i=.int .i64 j∧j≤ps.length∧A.size≤j*200000∧Hid (A=strB (joinH (ps.take j)))) (fun _ i=>ps.length-(RowKit.intOf i).toNat)
 case atStart=>exact⟨0,⟨#[]⟩,rfl,rfl,Nat.zero_le _,by decide,zH rfl⟩
 case round =>
  obtain⟨j,A,rfl,rfl,hj,hal,H⟩:=hrel
  by_cases hlt:j<ps.length
  ·obtain⟨p,hp⟩:∃p,ps[j]? = some p:=⟨_,List.getElem?_eq_getElem hlt⟩
   have hpl:=HL.out p (List.mem_of_getElem? hp)
   obtain⟨g,cap2,hv,hg,hglt,_⟩:=owns_sliceF HO.out (by omega)
   obtain⟨rfl,_,rfl⟩:=Value.slice.inj hv
   have a0:=owns_cellsF HO.out j (.string (strB p)) (by rw [rowS,List.getElem?_map,hp]<;>rfl)
   have hz:(strB p).size≤100000:=by rw [strB_size];exact hpl
   have jI:(j:Int)<(ps.length:Int):=by omega
   have j0:(0:Int)≤(j:Int):=by omega
   by_cases h0:j=0
   ·subst h0
    have hA:A=⟨#[]⟩:=H.out
    have Hn:Hid (strB p=strB (joinH (ps.take 1))):=zH (by rw [List.take_add_one,hp];simp [joinH,tailH])
    have hap:(⟨#[]⟩:ByteArray)++strB p=strB p:=by rw [show(⟨#[]⟩:ByteArray)=strB []from rfl,strB_append]<;>rfl
    subst hA
    have HAp:=zH hap
    have s1:¬9223372036854775807<(strB p).size:=by omega
    have s2:¬9223372036854775807<0+(strB p).size:=by omega
    clear hap H hp hv
    generalize strB p=SP at *
    go_wp2_with fail
    rw [HAp.out]
    go_round
    case rel=>exact⟨1,SP,rfl,by go_num,by omega,by omega,zH Hn.out⟩
    case measure=>simp [RowKit.intOf];omega
   ·have d0:(0:Int)<(j:Int):=by omega
    have Hn:Hid (A++(⟨#[44,32]⟩:ByteArray)++strB p=strB (joinH (ps.take (j+1)))):=zH (by
     have hne:ps.take j≠[]:=fun e=>by
      have:=congrArg List.length e
      rw [List.length_take,List.length_nil]at this
      omega
     rw [List.take_add_one,hp,Option.toList_some,tail_one _ _ hne,H.out,show(⟨#[44,32]⟩:ByteArray)=strB [44,32]from rfl,strB_append,strB_append])
    have hal2:(A++(⟨#[44,32]⟩:ByteArray)++strB p).size≤(j+1)*200000:=by
     rw [ByteArray.size_append,ByteArray.size_append]
     have:(⟨#[44,32]⟩:ByteArray).size=2:=rfl
     omega
    have s1:¬9223372036854775807<A.size+2:=by omega
    have s2:¬9223372036854775807<A.size+2+(strB p).size:=by omega
    have Hal2:=zH hal2
    clear H hp hv hal2
    generalize strB p=SP at *
    go_wp2_with fail
    go_round
    case rel=>exact⟨j+1,_,rfl,by go_num,by omega,Hal2.out,zH Hn.out⟩
    case measure=>simp [RowKit.intOf];omega
  ·obtain rfl:j=ps.length:=by omega
   have hH:=H.out
   rw [List.take_length]at hH
   obtain⟨b,hbb⟩:∃b,decide (0<ps.length)=b:=⟨_,rfl⟩
   have d:decide ((0:Int)<(ps.length:Int))=b:=by rw [← hbb];exact decide_eq_decide.2 (by omega)
   have HV2:Hid (V=.tuple #[.string A,.bool b]):=zH (by rw [HV.out,hH,hbb])
   have Hbb:=zH hbb
   clear hH H hbb
   go_wp2_with fail
   refine bodyPost_ret (v:=.tuple #[.string A,.bool b]) (by simp [results,Tryz.results35,go_sem,Hbb.out]) rfl ⟨by rw [HV2.out],HB1.out⟩
end Go.Proofs.YtfaedmbfabfmeaaGreatDoor
