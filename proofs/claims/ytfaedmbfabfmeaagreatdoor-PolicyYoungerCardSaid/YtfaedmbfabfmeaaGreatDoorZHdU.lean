/- The contract of head.Get. -/
import Derived.Test.YtfaedmbfabfmeaaGreatDoorZMHdS
import Derived.Test.YtfaedmbfabfmeaaGreatDoorZHdI
set_option linter.unusedSimpArgs false
set_option linter.unusedVariables false
set_option maxRecDepth 100000
set_option maxHeartbeats 2000000
namespace Go.Proofs.YtfaedmbfabfmeaaGreatDoor
open Go.RowKit Go.Shelf Go.Lib
def getV (fs:List Fld) (name:List UInt8):Value:=.tuple #[.string (strB (joinH (allH fs name))),.bool (decide (0<(allH fs name).length))]
theorem hget_any (lo:Nat) (v:Value) (fs:List Fld) (name:List UInt8) (w:World) (h:Flds lo w v fs) (hk:FldsOk fs) :
  Calls Tryz.prog 39 #[v,.string (strB name)] w fun e w'=>e=.returned (getV fs name)∧Below w.heap.size w w':=by
 have cA:=hall_any lo v fs name w h hk.1
 have hlen:=Nat.le_trans (allH_len fs name) hk.1
 have hl:∀q∈allH fs name,q.length≤100000:=fun q hq=>by
  obtain⟨p,hp,_,rfl⟩:=allH_in hq
  exact(hk.2 p hp).2
 have HL:=zH hl
 have HV:Hid (getV fs name=.tuple #[.string (strB (joinH (allH fs name))),.bool (decide (0<(allH fs name).length))]):=zH rfl
 obtain⟨ao,cap,rfl,_⟩:=h
 generalize allH fs name=ps at *
 generalize getV fs name=V at *
 generalize strB name=N at *
 clear hl hk
 obtain⟨b,hb⟩:∃b,decide (0<ps.length)=b:=⟨_,rfl⟩
 have d:decide ((0:Int)<(ps.length:Int))=b:=by rw [← hb];exact decide_eq_decide.2 (by omega)
 rw [hb]at HV
 have HBb:=zH hb
 clear hb
 go_enter Tryz.func39,Tryz.ntmps39
 go_wp2_with fail
 refine cA.mono ?_
 rintro e w1 ⟨⟨u,rfl,hown⟩,hb1⟩
 have cJ:=join_any _ _ _ w1 hown hlen HL.out
 obtain⟨a1,c1,rfl⟩:=owns_formF hown
 generalize strB (joinH ps)=J at *
 clear hown cA
 go_wp2_with fail
 refine cJ.mono ?_
 rintro e w2 ⟨rfl,hb2⟩
 have HB2:=zH (hb1.trans (hb2.mono hb1.size))
 clear hb1 hb2 cJ
 go_wp2_with fail
 refine bodyPost_ret (v:=.tuple #[.string J,.bool b]) (by simp [results,Tryz.results39,go_sem,HBb.out]) rfl ⟨by rw [HV.out],HB2.out⟩
end Go.Proofs.YtfaedmbfabfmeaaGreatDoor
