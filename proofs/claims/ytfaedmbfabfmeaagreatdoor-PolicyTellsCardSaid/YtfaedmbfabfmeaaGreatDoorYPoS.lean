/- The document's own Storable (sculleryref14). -/
import Derived.Test.YtfaedmbfabfmeaaGreatDoorYMChsP
import Derived.Test.YtfaedmbfabfmeaaGreatDoorYSrC
import Derived.Test.YtfaedmbfabfmeaaGreatDoorYMMsP
set_option linter.unusedSimpArgs false
set_option maxRecDepth 100000
set_option maxHeartbeats 16000000
namespace Go.Proofs.YtfaedmbfabfmeaaGreatDoor
open Go.RowKit Go.Lib
theorem rstor_any (lo:Nat) (q:Rq) (p:Rp) (f y f2 y2:Value) (w:World) (hF:Flds lo w f q.fs) (hY:BytF lo w y q.b) (hF2:Flds lo w f2 p.fs) (hY2:BytF lo w y2 p.b) (hk:FldsOk q.fs) (hk2:FldsOk p.fs) (hj:∀n,(joinH (allH q.fs n)).length≤90000) (hj2:∀n,(joinH (allH p.fs n)).length≤90000) :
  Calls Tryz.prog 10 #[.agg #[.string (strB q.m),.string (strB q.t),f,y],.agg #[.int .i64 p.n,f2,y2]] w fun e w'=>e=.returned (.bool (storP q.m q.fs p.n p.fs))∧Below w.heap.size w w':=by
 have cC:=fun W (hb:Below w.heap.size w W)=>r11choose_any lo f2 p.fs W (hF2.below hb) hk2 hj2
 have cR:=fun W (hb:Below w.heap.size w W)=>r10read_any lo f q.fs W (hF.below hb) hk (Nat.le_trans (hj nCtl) (by decide))
 have cA:=fun W (hb:Below w.heap.size w W)=>rget_any lo f q.fs nAuth W (hF.below hb) hk
 have cE:=fun W (hb:Below w.heap.size w W)=>rget_any lo f2 p.fs nExp W (hF2.below hb) hk2
 simp only [chs_v]at cC
 simp only [ruD_v]at cR
 have eA:getV q.fs nAuth=.tuple #[.string (strB (joinH (allH q.fs nAuth))),.bool (isN q.fs nAuth)]:=rfl
 have eE:getV p.fs nExp=.tuple #[.string (strB (joinH (allH p.fs nExp))),.bool (isN p.fs nExp)]:=rfl
 rw [eA]at cA
 rw [eE]at cE
 clear eA eE
 have cS:=fun W=>rstrict_any (chR p.fs) W
 have cU:=fun W=>rusual_any p.n W
 obtain⟨J,hJ⟩:∃J,storP q.m q.fs p.n p.fs=J:=⟨_,rfl⟩
 rw [hJ]
 rw [storP,storR]at hJ
 have hM:(decide (q.m=nGet))=decide ((strB q.m).toList=[71,69,84]):=by rw [Lib.toList_data,strB_data];rfl
 rw [hM]at hJ
 clear hM
 obtain⟨fo,fc,rfl,_⟩:=id hF
 obtain⟨go_,gc,rfl,_⟩:=id hF2
 obtain⟨yo,yc,rfl,_⟩:=id hY
 obtain⟨zo,zc,rfl,_⟩:=id hY2
 clear hF hF2 hY hY2 hk hk2 hj hj2
 generalize strictR_RuP (chR p.fs)=S at *
 generalize usual_RuP p.n=U at *
 generalize isN q.fs nAuth=se at *
 generalize isN p.fs nExp=ex at *
 generalize strB (joinH (allH q.fs nAuth))=J1 at *
 generalize strB (joinH (allH p.fs nExp))=J2 at *
 generalize chT p.fs=t at *
 generalize ruD (ctlD q.fs)=Ra at *
 generalize chR p.fs=Rb at *
 generalize strB q.m=m at *
 generalize strB q.t=tg at *
 generalize p.n=st at *
 generalize q.fs.length=L1 at *
 generalize p.fs.length=L2 at *
 generalize q.b.length=L3 at *
 generalize p.b.length=L4 at *
 obtain⟨b0,b1,b2,b3,b4,b5,b6,b7,k0,k1,k2,k3,k4⟩:=Rb
 obtain⟨a0,a1,a2,a3,a4,a5,a6,a7,n0,n1,n2,n3,n4⟩:=Ra
 dsimp only [Ru_RuP.v]at *
 have HJ:=hJ.symm
 clear hJ
 have HQ0:=BoxN.made w [.string m,.string tg,.slice fo L1 fc,.slice yo L3 yc] 25
 have hb0:=(Below.refl w.heap.size w).alloc (zR _) (.cells #[.string m,.string tg,.slice fo L1 fc,.slice yo L3 yc] 25)
 have hb1:Below (w.heap.size+1) (w.alloc (.cells #[.string m,.string tg,.slice fo L1 fc,.slice yo L3 yc] 25)) ((w.alloc (.cells #[.string m,.string tg,.slice fo L1 fc,.slice yo L3 yc] 25)).alloc (.cells #[.int .i64 st,.slice go_ L2 gc,.slice zo L4 zc] 27)):=(Below.refl _ _).alloc (by simp) _
 have hp1:=BoxN.made (w.alloc (.cells #[.string m,.string tg,.slice fo L1 fc,.slice yo L3 yc] 25)) [.int .i64 st,.slice go_ L2 gc,.slice zo L4 zc] 27
 have hsz:(w.alloc (.cells #[.string m,.string tg,.slice fo L1 fc,.slice yo L3 yc] 25)).heap.size=w.heap.size+1:=by simp
 rw [hsz]at hp1
 have HP:=zH hp1
 have HQ:=zH (HQ0.next (by rw [hsz];exact hb1))
 have HB:=zH (hb0.trans (by first | (rw [hsz];exact hb1.mono (by omega)) | exact hb1.mono (by omega)))
 clear hp1 HQ0 hb0 hb1 hsz
 go_enter Tryz.func10,Tryz.ntmps10
 go_wp2_with fail
 refine(cC _ HB.out).mono ?_
 rintro e w1 ⟨rfl,hb⟩
 replace HQ:=zH (HQ.out.next hb)
 replace HP:=zH (HP.out.next hb)
 replace HB:=zH (HB.out.trans (hb.mono HB.out.size))
 clear hb
 have hal:=(Below.refl w1.heap.size w1).alloc (zR _) (.cells #[.bool b0,.bool b1,.bool b2,.bool b3,.bool b4,.bool b5,.bool b6,.bool b7,.int .i64 k0,.int .i64 k1,.int .i64 k2,.int .i64 k3,.int .i64 k4] 36)
 have HR:=zH (BoxN.made w1 [.bool b0,.bool b1,.bool b2,.bool b3,.bool b4,.bool b5,.bool b6,.bool b7,.int .i64 k0,.int .i64 k1,.int .i64 k2,.int .i64 k3,.int .i64 k4] 36)
 replace HQ:=zH (HQ.out.next hal)
 replace HP:=zH (HP.out.next hal)
 replace HB:=zH (HB.out.trans (hal.mono HB.out.size))
 have qf2:=(HQ.out.2 2 _ rfl).1
 clear hal
 go_wp2_with fail
 refine(cR _ HB.out).mono ?_
 rintro e w2 ⟨rfl,hb⟩
 clear qf2
 replace HQ:=zH (HQ.out.next hb)
 replace HP:=zH (HP.out.next hb)
 replace HR:=zH (HR.out.next hb)
 replace HB:=zH (HB.out.trans (hb.mono HB.out.size))
 clear hb
 have hal:=(Below.refl w2.heap.size w2).alloc (zR _) (.cells #[.bool a0,.bool a1,.bool a2,.bool a3,.bool a4,.bool a5,.bool a6,.bool a7,.int .i64 n0,.int .i64 n1,.int .i64 n2,.int .i64 n3,.int .i64 n4] 36)
 have HA:=zH (BoxN.made w2 [.bool a0,.bool a1,.bool a2,.bool a3,.bool a4,.bool a5,.bool a6,.bool a7,.int .i64 n0,.int .i64 n1,.int .i64 n2,.int .i64 n3,.int .i64 n4] 36)
 replace HQ:=zH (HQ.out.next hal)
 replace HP:=zH (HP.out.next hal)
 replace HR:=zH (HR.out.next hal)
 replace HB:=zH (HB.out.trans (hal.mono HB.out.size))
 clear hal
 have qf0:=(HQ.out.2 0 _ rfl).1
 have qf2:=(HQ.out.2 2 _ rfl).1
 have pf0:=(HP.out.2 0 _ rfl).1
 have pf1:=(HP.out.2 1 _ rfl).1
 obtain⟨rf0,rf1,rf2,rf3,rf4,rf5,rf6,rf7,rf8,rf9,rf10,rf11,rf12⟩:=b13X HR.out
 have af0:=(HA.out.2 0 _ rfl).1
 by_cases g0:m.toList=[71,69,84]
 ·have e_g0:(m.toList==[71,69,84])=true:=by simpa using g0
  by_cases g1:200≤st
  ·by_cases g2:st=206
   ·have e_g2:(st==206)=true:=by simpa using g2
    have HV:Hid (J=false):=zH (HJ.trans (by simp [*]))
    clear HJ
    go_wp2_with fail
    go_ret
    exact⟨by rw [HV.out];rfl,HB.out⟩
   ·have e_g2:(st==206)=false:=by simpa using g2
    by_cases g3:st=304
    ·have e_g3:(st==304)=true:=by simpa using g3
     have HV:Hid (J=false):=zH (HJ.trans (by simp [*]))
     clear HJ
     go_wp2_with fail
     go_ret
     exact⟨by rw [HV.out];rfl,HB.out⟩
    ·have e_g3:(st==304)=false:=by simpa using g3
     cases a0
     ·cases b0
      ·cases b2
       ·go_wp2_with fail
        refine(cA _ HB.out).mono ?_
        rintro e w4 ⟨rfl,hb⟩
        clear qf0 qf2 pf0 pf1 rf0 rf1 rf2 rf3 rf4 rf5 rf6 rf7 rf8 rf9 rf10 rf11 rf12 af0
        replace HQ:=zH (HQ.out.next hb)
        replace HP:=zH (HP.out.next hb)
        replace HR:=zH (HR.out.next hb)
        replace HA:=zH (HA.out.next hb)
        replace HB:=zH (HB.out.trans (hb.mono HB.out.size))
        clear hb
        have qf0:=(HQ.out.2 0 _ rfl).1
        have qf2:=(HQ.out.2 2 _ rfl).1
        have pf0:=(HP.out.2 0 _ rfl).1
        have pf1:=(HP.out.2 1 _ rfl).1
        obtain⟨rf0,rf1,rf2,rf3,rf4,rf5,rf6,rf7,rf8,rf9,rf10,rf11,rf12⟩:=b13X HR.out
        have af0:=(HA.out.2 0 _ rfl).1
        cases se
        ·go_wp2_with fail
         refine(cE _ HB.out).mono ?_
         rintro e w6 ⟨rfl,hb⟩
         clear qf0 qf2 pf0 pf1 rf0 rf1 rf2 rf3 rf4 rf5 rf6 rf7 rf8 rf9 rf10 rf11 rf12 af0
         replace HQ:=zH (HQ.out.next hb)
         replace HP:=zH (HP.out.next hb)
         replace HR:=zH (HR.out.next hb)
         replace HA:=zH (HA.out.next hb)
         replace HB:=zH (HB.out.trans (hb.mono HB.out.size))
         clear hb
         have qf0:=(HQ.out.2 0 _ rfl).1
         have qf2:=(HQ.out.2 2 _ rfl).1
         have pf0:=(HP.out.2 0 _ rfl).1
         have pf1:=(HP.out.2 1 _ rfl).1
         obtain⟨rf0,rf1,rf2,rf3,rf4,rf5,rf6,rf7,rf8,rf9,rf10,rf11,rf12⟩:=b13X HR.out
         have af0:=(HA.out.2 0 _ rfl).1
         by_cases g4:t=2
         ·have e_g4:(t==2)=true:=by simpa using g4
          have HV:Hid (J=true):=zH (HJ.trans (by simp [*]))
          clear HJ
          go_wp2_with fail
          go_ret
          exact⟨by rw [HV.out];rfl,HB.out⟩
         ·have e_g4:(t==2)=false:=by simpa using g4
          cases b3
          ·by_cases g5:0≤k0
           ·have HV:Hid (J=true):=zH (HJ.trans (by simp [*]))
            clear HJ
            go_wp2_with fail
            go_ret
            exact⟨by rw [HV.out];rfl,HB.out⟩
           ·by_cases g6:0≤k1
            ·have HV:Hid (J=true):=zH (HJ.trans (by simp [*]))
             clear HJ
             go_wp2_with fail
             go_ret
             exact⟨by rw [HV.out];rfl,HB.out⟩
            ·cases ex
             ·have HV:Hid (J=U):=zH (HJ.trans (by simp [*]))
              clear HJ
              go_wp2_with fail
              refine(cU _).mono ?_
              rintro e w7 ⟨rfl,hb⟩
              clear qf0 qf2 pf0 pf1 rf0 rf1 rf2 rf3 rf4 rf5 rf6 rf7 rf8 rf9 rf10 rf11 rf12 af0
              replace HQ:=zH (HQ.out.next hb)
              replace HP:=zH (HP.out.next hb)
              replace HR:=zH (HR.out.next hb)
              replace HA:=zH (HA.out.next hb)
              replace HB:=zH (HB.out.trans (hb.mono HB.out.size))
              clear hb
              have qf0:=(HQ.out.2 0 _ rfl).1
              have qf2:=(HQ.out.2 2 _ rfl).1
              have pf0:=(HP.out.2 0 _ rfl).1
              have pf1:=(HP.out.2 1 _ rfl).1
              obtain⟨rf0,rf1,rf2,rf3,rf4,rf5,rf6,rf7,rf8,rf9,rf10,rf11,rf12⟩:=b13X HR.out
              have af0:=(HA.out.2 0 _ rfl).1
              go_wp2_with fail
              go_ret
              exact⟨by rw [HV.out];first | rfl | simp [show ¬(0:Int)≤k0 by omega,show ¬(0:Int)≤k1 by omega],HB.out⟩
             ·have HV:Hid (J=true):=zH (HJ.trans (by simp [*]))
              clear HJ
              go_wp2_with fail
              go_ret
              exact⟨by rw [HV.out];rfl,HB.out⟩
          ·have HV:Hid (J=true):=zH (HJ.trans (by simp [*]))
           clear HJ
           go_wp2_with fail
           go_ret
           exact⟨by rw [HV.out];rfl,HB.out⟩
        ·go_wp2_with fail
         refine(cS _).mono ?_
         rintro e w5 ⟨rfl,hb⟩
         clear qf0 qf2 pf0 pf1 rf0 rf1 rf2 rf3 rf4 rf5 rf6 rf7 rf8 rf9 rf10 rf11 rf12 af0
         replace HQ:=zH (HQ.out.next hb)
         replace HP:=zH (HP.out.next hb)
         replace HR:=zH (HR.out.next hb)
         replace HA:=zH (HA.out.next hb)
         replace HB:=zH (HB.out.trans (hb.mono HB.out.size))
         clear hb
         have qf0:=(HQ.out.2 0 _ rfl).1
         have qf2:=(HQ.out.2 2 _ rfl).1
         have pf0:=(HP.out.2 0 _ rfl).1
         have pf1:=(HP.out.2 1 _ rfl).1
         obtain⟨rf0,rf1,rf2,rf3,rf4,rf5,rf6,rf7,rf8,rf9,rf10,rf11,rf12⟩:=b13X HR.out
         have af0:=(HA.out.2 0 _ rfl).1
         cases S
         ·cases b3
          ·have HV:Hid (J=false):=zH (HJ.trans (by simp [*]))
           clear HJ
           go_wp2_with fail
           go_ret
           exact⟨by rw [HV.out];rfl,HB.out⟩
          ·go_wp2_with fail
           refine(cE _ HB.out).mono ?_
           rintro e w6 ⟨rfl,hb⟩
           clear qf0 qf2 pf0 pf1 rf0 rf1 rf2 rf3 rf4 rf5 rf6 rf7 rf8 rf9 rf10 rf11 rf12 af0
           replace HQ:=zH (HQ.out.next hb)
           replace HP:=zH (HP.out.next hb)
           replace HR:=zH (HR.out.next hb)
           replace HA:=zH (HA.out.next hb)
           replace HB:=zH (HB.out.trans (hb.mono HB.out.size))
           clear hb
           have qf0:=(HQ.out.2 0 _ rfl).1
           have qf2:=(HQ.out.2 2 _ rfl).1
           have pf0:=(HP.out.2 0 _ rfl).1
           have pf1:=(HP.out.2 1 _ rfl).1
           obtain⟨rf0,rf1,rf2,rf3,rf4,rf5,rf6,rf7,rf8,rf9,rf10,rf11,rf12⟩:=b13X HR.out
           have af0:=(HA.out.2 0 _ rfl).1
           by_cases g4:t=2
           ·have e_g4:(t==2)=true:=by simpa using g4
            have HV:Hid (J=true):=zH (HJ.trans (by simp [*]))
            clear HJ
            go_wp2_with fail
            go_ret
            exact⟨by rw [HV.out];rfl,HB.out⟩
           ·have e_g4:(t==2)=false:=by simpa using g4
            have HV:Hid (J=true):=zH (HJ.trans (by simp [*]))
            clear HJ
            go_wp2_with fail
            go_ret
            exact⟨by rw [HV.out];rfl,HB.out⟩
         ·go_wp2_with fail
          refine(cE _ HB.out).mono ?_
          rintro e w6 ⟨rfl,hb⟩
          clear qf0 qf2 pf0 pf1 rf0 rf1 rf2 rf3 rf4 rf5 rf6 rf7 rf8 rf9 rf10 rf11 rf12 af0
          replace HQ:=zH (HQ.out.next hb)
          replace HP:=zH (HP.out.next hb)
          replace HR:=zH (HR.out.next hb)
          replace HA:=zH (HA.out.next hb)
          replace HB:=zH (HB.out.trans (hb.mono HB.out.size))
          clear hb
          have qf0:=(HQ.out.2 0 _ rfl).1
          have qf2:=(HQ.out.2 2 _ rfl).1
          have pf0:=(HP.out.2 0 _ rfl).1
          have pf1:=(HP.out.2 1 _ rfl).1
          obtain⟨rf0,rf1,rf2,rf3,rf4,rf5,rf6,rf7,rf8,rf9,rf10,rf11,rf12⟩:=b13X HR.out
          have af0:=(HA.out.2 0 _ rfl).1
          by_cases g4:t=2
          ·have e_g4:(t==2)=true:=by simpa using g4
           have HV:Hid (J=true):=zH (HJ.trans (by simp [*]))
           clear HJ
           go_wp2_with fail
           go_ret
           exact⟨by rw [HV.out];rfl,HB.out⟩
          ·have e_g4:(t==2)=false:=by simpa using g4
           cases b3
           ·by_cases g5:0≤k0
            ·have HV:Hid (J=true):=zH (HJ.trans (by simp [*]))
             clear HJ
             go_wp2_with fail
             go_ret
             exact⟨by rw [HV.out];rfl,HB.out⟩
            ·by_cases g6:0≤k1
             ·have HV:Hid (J=true):=zH (HJ.trans (by simp [*]))
              clear HJ
              go_wp2_with fail
              go_ret
              exact⟨by rw [HV.out];rfl,HB.out⟩
             ·cases ex
              ·have HV:Hid (J=U):=zH (HJ.trans (by simp [*]))
               clear HJ
               go_wp2_with fail
               refine(cU _).mono ?_
               rintro e w7 ⟨rfl,hb⟩
               clear qf0 qf2 pf0 pf1 rf0 rf1 rf2 rf3 rf4 rf5 rf6 rf7 rf8 rf9 rf10 rf11 rf12 af0
               replace HQ:=zH (HQ.out.next hb)
               replace HP:=zH (HP.out.next hb)
               replace HR:=zH (HR.out.next hb)
               replace HA:=zH (HA.out.next hb)
               replace HB:=zH (HB.out.trans (hb.mono HB.out.size))
               clear hb
               have qf0:=(HQ.out.2 0 _ rfl).1
               have qf2:=(HQ.out.2 2 _ rfl).1
               have pf0:=(HP.out.2 0 _ rfl).1
               have pf1:=(HP.out.2 1 _ rfl).1
               obtain⟨rf0,rf1,rf2,rf3,rf4,rf5,rf6,rf7,rf8,rf9,rf10,rf11,rf12⟩:=b13X HR.out
               have af0:=(HA.out.2 0 _ rfl).1
               go_wp2_with fail
               go_ret
               exact⟨by rw [HV.out];first | rfl | simp [show ¬(0:Int)≤k0 by omega,show ¬(0:Int)≤k1 by omega],HB.out⟩
              ·have HV:Hid (J=true):=zH (HJ.trans (by simp [*]))
               clear HJ
               go_wp2_with fail
               go_ret
               exact⟨by rw [HV.out];rfl,HB.out⟩
           ·have HV:Hid (J=true):=zH (HJ.trans (by simp [*]))
            clear HJ
            go_wp2_with fail
            go_ret
            exact⟨by rw [HV.out];rfl,HB.out⟩
       ·have HV:Hid (J=false):=zH (HJ.trans (by simp [*]))
        clear HJ
        go_wp2_with fail
        go_ret
        exact⟨by rw [HV.out];rfl,HB.out⟩
      ·have HV:Hid (J=false):=zH (HJ.trans (by simp [*]))
       clear HJ
       go_wp2_with fail
       go_ret
       exact⟨by rw [HV.out];rfl,HB.out⟩
     ·have HV:Hid (J=false):=zH (HJ.trans (by simp [*]))
      clear HJ
      go_wp2_with fail
      go_ret
      exact⟨by rw [HV.out];rfl,HB.out⟩
  ·have HV:Hid (J=false):=zH (HJ.trans (by simp [*]))
   clear HJ
   go_wp2_with fail
   go_ret
   exact⟨by rw [HV.out];rfl,HB.out⟩
 ·have e_g0:(m.toList==[71,69,84])=false:=by simpa using g0
  have HV:Hid (J=false):=zH (HJ.trans (by simp [*]))
  clear HJ
  go_wp2_with fail
  go_ret
  exact⟨by rw [HV.out];rfl,HB.out⟩
end Go.Proofs.YtfaedmbfabfmeaaGreatDoor
