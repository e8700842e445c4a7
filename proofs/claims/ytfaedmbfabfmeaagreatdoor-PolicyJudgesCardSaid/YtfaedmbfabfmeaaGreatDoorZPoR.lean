/- The document's own usual_RuP, strict, Judge, OnError (sculleryref14). -/
import Derived.Test.YtfaedmbfabfmeaaGreatDoorZMChsP
import Derived.Test.YtfaedmbfabfmeaaGreatDoorZMBasP
import Derived.Test.YtfaedmbfabfmeaaGreatDoorRows
import Derived.IntWalk
import Derived.BigQuiet
import Derived.Deep.QuietTactic
import Derived.WalkKit
import Derived.WalkSpells
import Derived.WalkLawsBesides
import Derived.Lib.Hide
set_option linter.unusedSimpArgs false
set_option linter.unusedVariables false
set_option maxRecDepth 100000
set_option maxHeartbeats 16000000
namespace Go.Proofs.YtfaedmbfabfmeaaGreatDoor
open Go.RowKit Go.Lib
theorem rstrict_any (r:Ru_RuP) (w:World) :
  Calls Tryz.prog 36 #[r.v] w fun e w'=>e=.returned (.bool (strictR_RuP r))∧Below w.heap.size w w':=by
 obtain⟨b0,b1,b2,b3,b4,b5,b6,b7,k0,k1,k2,k3,k4⟩:=r
 dsimp only [Ru_RuP.v,strictR_RuP]
 have HB:=zH ((Below.refl w.heap.size w).alloc (zR _) (.cells #[.bool b0,.bool b1,.bool b2,.bool b3,.bool b4,.bool b5,.bool b6,.bool b7,.int .i64 k0,.int .i64 k1,.int .i64 k2,.int .i64 k3,.int .i64 k4] 36))
 cases b4
 ·cases b5
  ·go_enter Tryz.func36,Tryz.ntmps36
   go_wp2_with fail
   go_ret
   exact⟨by simp,HB.out⟩
  ·go_enter Tryz.func36,Tryz.ntmps36
   go_wp2_with fail
   go_ret
   exact⟨by simp,HB.out⟩
 ·go_enter Tryz.func36,Tryz.ntmps36
  go_wp2_with fail
  go_ret
  exact⟨by simp,HB.out⟩
theorem rjudge_any (a l:Int) (r q:Ru_RuP) (w:World) (ha0:0≤a) (ha1:a≤2147483648) (hl0:0≤l) (hl1:l≤2147483648) :
  Calls Tryz.prog 14 #[.int .i64 a,.int .i64 l,r.v,q.v] w fun e w'=>e=.returned (.int .i64 (judP_RuP a l r q))∧Below w.heap.size w w':=by
 have cS:=fun W=>rstrict_any r W
 obtain⟨J,hJ⟩:∃J,judP_RuP a l r q=J:=⟨_,rfl⟩
 rw [hJ]
 unfold judP_RuP at hJ
 generalize strictR_RuP r=S at *
 obtain⟨b0,b1,b2,b3,b4,b5,b6,b7,k0,k1,k2,k3,k4⟩:=r
 obtain⟨c0,c1,c2,c3,c4,c5,c6,c7,m0,m1,m2,m3,m4⟩:=q
 dsimp only [Ru_RuP.v]at *
 have HJ:J=(if b1=true then 1 else if a<l∧b6=true then 0 else if c1=true∨(0≤m0∧m0<a)∨(0≤m3∧l-a<m3)then 2 else if a<l∨(0≤m2∧a-l≤m2∧S=false)then 0 else 1:Int):=hJ.symm
 clear hJ
 have HB:=zH (((Below.refl w.heap.size w).alloc (zR _) (.cells #[.bool b0,.bool b1,.bool b2,.bool b3,.bool b4,.bool b5,.bool b6,.bool b7,.int .i64 k0,.int .i64 k1,.int .i64 k2,.int .i64 k3,.int .i64 k4] 36)).alloc (by simp) (.cells #[.bool c0,.bool c1,.bool c2,.bool c3,.bool c4,.bool c5,.bool c6,.bool c7,.int .i64 m0,.int .i64 m1,.int .i64 m2,.int .i64 m3,.int .i64 m4] 36))
 cases b1
 ·by_cases h1:a<l
  ·cases b6
   ·cases c1
    ·by_cases h3:0≤m0
     ·by_cases h4:m0<a
      ·have HV:Hid (J=2):=zH (HJ.trans (by simp [*]))
       clear HJ
       go_enter Tryz.func14,Tryz.ntmps14
       go_wp2_with fail
       go_ret
       exact⟨by rw [HV.out];rfl,HB.out⟩
      ·by_cases h5:0≤m3
       ·by_cases h6:l-a<m3
        ·have HV:Hid (J=2):=zH (HJ.trans (by simp [*]))
         clear HJ
         go_enter Tryz.func14,Tryz.ntmps14
         go_wp2_with fail
         go_ret
         exact⟨by rw [HV.out];rfl,HB.out⟩
        ·have HV:Hid (J=0):=zH (HJ.trans (by simp [*]))
         clear HJ
         go_enter Tryz.func14,Tryz.ntmps14
         go_wp2_with fail
         go_ret
         exact⟨by rw [HV.out];rfl,HB.out⟩
       ·have HV:Hid (J=0):=zH (HJ.trans (by simp [*]))
        clear HJ
        go_enter Tryz.func14,Tryz.ntmps14
        go_wp2_with fail
        go_ret
        exact⟨by rw [HV.out];rfl,HB.out⟩
     ·by_cases h5:0≤m3
      ·by_cases h6:l-a<m3
       ·have HV:Hid (J=2):=zH (HJ.trans (by simp [*]))
        clear HJ
        go_enter Tryz.func14,Tryz.ntmps14
        go_wp2_with fail
        go_ret
        exact⟨by rw [HV.out];rfl,HB.out⟩
       ·have HV:Hid (J=0):=zH (HJ.trans (by simp [*]))
        clear HJ
        go_enter Tryz.func14,Tryz.ntmps14
        go_wp2_with fail
        go_ret
        exact⟨by rw [HV.out];rfl,HB.out⟩
      ·have HV:Hid (J=0):=zH (HJ.trans (by simp [*]))
       clear HJ
       go_enter Tryz.func14,Tryz.ntmps14
       go_wp2_with fail
       go_ret
       exact⟨by rw [HV.out];rfl,HB.out⟩
    ·have HV:Hid (J=2):=zH (HJ.trans (by simp [*]))
     clear HJ
     go_enter Tryz.func14,Tryz.ntmps14
     go_wp2_with fail
     go_ret
     exact⟨by rw [HV.out];rfl,HB.out⟩
   ·have HV:Hid (J=0):=zH (HJ.trans (by simp [*]))
    clear HJ
    go_enter Tryz.func14,Tryz.ntmps14
    go_wp2_with fail
    go_ret
    exact⟨by rw [HV.out];rfl,HB.out⟩
  ·cases c1
   ·by_cases h3:0≤m0
    ·by_cases h4:m0<a
     ·have HV:Hid (J=2):=zH (HJ.trans (by simp [*]))
      clear HJ
      go_enter Tryz.func14,Tryz.ntmps14
      go_wp2_with fail
      go_ret
      exact⟨by rw [HV.out];rfl,HB.out⟩
     ·by_cases h5:0≤m3
      ·by_cases h6:l-a<m3
       ·have HV:Hid (J=2):=zH (HJ.trans (by simp [*]))
        clear HJ
        go_enter Tryz.func14,Tryz.ntmps14
        go_wp2_with fail
        go_ret
        exact⟨by rw [HV.out];rfl,HB.out⟩
       ·by_cases h7:0≤m2
        ·by_cases h8:a-l≤m2
         ·cases S
          ·have HV:Hid (J=0):=zH (HJ.trans (by simp [*]))
           clear HJ
           go_enter Tryz.func14,Tryz.ntmps14
           go_wp2_with fail
           refine(cS _).mono ?_
           rintro e w1 ⟨rfl,hb⟩
           have HB:=zH (HB.out.trans (hb.mono HB.out.size))
           clear hb
           go_wp2_with fail
           go_ret
           exact⟨by rw [HV.out];rfl,HB.out⟩
          ·have HV:Hid (J=1):=zH (HJ.trans (by simp [*]))
           clear HJ
           go_enter Tryz.func14,Tryz.ntmps14
           go_wp2_with fail
           refine(cS _).mono ?_
           rintro e w1 ⟨rfl,hb⟩
           have HB:=zH (HB.out.trans (hb.mono HB.out.size))
           clear hb
           go_wp2_with fail
           go_ret
           exact⟨by rw [HV.out];rfl,HB.out⟩
         ·exfalso
          omega
        ·have HV:Hid (J=1):=zH (HJ.trans (by simp [*]))
         clear HJ
         go_enter Tryz.func14,Tryz.ntmps14
         go_wp2_with fail
         go_ret
         exact⟨by rw [HV.out];rfl,HB.out⟩
      ·by_cases h7:0≤m2
       ·by_cases h8:a-l≤m2
        ·cases S
         ·have HV:Hid (J=0):=zH (HJ.trans (by simp [*]))
          clear HJ
          go_enter Tryz.func14,Tryz.ntmps14
          go_wp2_with fail
          refine(cS _).mono ?_
          rintro e w1 ⟨rfl,hb⟩
          have HB:=zH (HB.out.trans (hb.mono HB.out.size))
          clear hb
          go_wp2_with fail
          go_ret
          exact⟨by rw [HV.out];rfl,HB.out⟩
         ·have HV:Hid (J=1):=zH (HJ.trans (by simp [*]))
          clear HJ
          go_enter Tryz.func14,Tryz.ntmps14
          go_wp2_with fail
          refine(cS _).mono ?_
          rintro e w1 ⟨rfl,hb⟩
          have HB:=zH (HB.out.trans (hb.mono HB.out.size))
          clear hb
          go_wp2_with fail
          go_ret
          exact⟨by rw [HV.out];rfl,HB.out⟩
        ·have HV:Hid (J=1):=zH (HJ.trans (by simp [*]))
         clear HJ
         go_enter Tryz.func14,Tryz.ntmps14
         go_wp2_with fail
         go_ret
         exact⟨by rw [HV.out];rfl,HB.out⟩
       ·have HV:Hid (J=1):=zH (HJ.trans (by simp [*]))
        clear HJ
        go_enter Tryz.func14,Tryz.ntmps14
        go_wp2_with fail
        go_ret
        exact⟨by rw [HV.out];rfl,HB.out⟩
    ·by_cases h5:0≤m3
     ·by_cases h6:l-a<m3
      ·have HV:Hid (J=2):=zH (HJ.trans (by simp [*]))
       clear HJ
       go_enter Tryz.func14,Tryz.ntmps14
       go_wp2_with fail
       go_ret
       exact⟨by rw [HV.out];rfl,HB.out⟩
      ·by_cases h7:0≤m2
       ·by_cases h8:a-l≤m2
        ·cases S
         ·have HV:Hid (J=0):=zH (HJ.trans (by simp [*]))
          clear HJ
          go_enter Tryz.func14,Tryz.ntmps14
          go_wp2_with fail
          refine(cS _).mono ?_
          rintro e w1 ⟨rfl,hb⟩
          have HB:=zH (HB.out.trans (hb.mono HB.out.size))
          clear hb
          go_wp2_with fail
          go_ret
          exact⟨by rw [HV.out];rfl,HB.out⟩
         ·have HV:Hid (J=1):=zH (HJ.trans (by simp [*]))
          clear HJ
          go_enter Tryz.func14,Tryz.ntmps14
          go_wp2_with fail
          refine(cS _).mono ?_
          rintro e w1 ⟨rfl,hb⟩
          have HB:=zH (HB.out.trans (hb.mono HB.out.size))
          clear hb
          go_wp2_with fail
          go_ret
          exact⟨by rw [HV.out];rfl,HB.out⟩
        ·exfalso
         omega
       ·have HV:Hid (J=1):=zH (HJ.trans (by simp [*]))
        clear HJ
        go_enter Tryz.func14,Tryz.ntmps14
        go_wp2_with fail
        go_ret
        exact⟨by rw [HV.out];rfl,HB.out⟩
     ·by_cases h7:0≤m2
      ·by_cases h8:a-l≤m2
       ·cases S
        ·have HV:Hid (J=0):=zH (HJ.trans (by simp [*]))
         clear HJ
         go_enter Tryz.func14,Tryz.ntmps14
         go_wp2_with fail
         refine(cS _).mono ?_
         rintro e w1 ⟨rfl,hb⟩
         have HB:=zH (HB.out.trans (hb.mono HB.out.size))
         clear hb
         go_wp2_with fail
         go_ret
         exact⟨by rw [HV.out];rfl,HB.out⟩
        ·have HV:Hid (J=1):=zH (HJ.trans (by simp [*]))
         clear HJ
         go_enter Tryz.func14,Tryz.ntmps14
         go_wp2_with fail
         refine(cS _).mono ?_
         rintro e w1 ⟨rfl,hb⟩
         have HB:=zH (HB.out.trans (hb.mono HB.out.size))
         clear hb
         go_wp2_with fail
         go_ret
         exact⟨by rw [HV.out];rfl,HB.out⟩
       ·have HV:Hid (J=1):=zH (HJ.trans (by simp [*]))
        clear HJ
        go_enter Tryz.func14,Tryz.ntmps14
        go_wp2_with fail
        go_ret
        exact⟨by rw [HV.out];rfl,HB.out⟩
      ·have HV:Hid (J=1):=zH (HJ.trans (by simp [*]))
       clear HJ
       go_enter Tryz.func14,Tryz.ntmps14
       go_wp2_with fail
       go_ret
       exact⟨by rw [HV.out];rfl,HB.out⟩
   ·have HV:Hid (J=2):=zH (HJ.trans (by simp [*]))
    clear HJ
    go_enter Tryz.func14,Tryz.ntmps14
    go_wp2_with fail
    go_ret
    exact⟨by rw [HV.out];rfl,HB.out⟩
 ·have HV:Hid (J=1):=zH (HJ.trans (by simp [*]))
  clear HJ
  go_enter Tryz.func14,Tryz.ntmps14
  go_wp2_with fail
  go_ret
  exact⟨by rw [HV.out];rfl,HB.out⟩
theorem ronerr_any (a l:Int) (r:Ru_RuP) (w:World) (ha0:0≤a) (ha1:a≤2147483648) (hl0:0≤l) (hl1:l≤2147483648) :
  Calls Tryz.prog 16 #[.int .i64 a,.int .i64 l,r.v] w fun e w'=>e=.returned (.bool (errP_RuP a l r))∧Below w.heap.size w w':=by
 have cS:=fun W=>rstrict_any r W
 obtain⟨J,hJ⟩:∃J,errP_RuP a l r=J:=⟨_,rfl⟩
 rw [hJ]
 unfold errP_RuP at hJ
 generalize strictR_RuP r=S at *
 obtain⟨b0,b1,b2,b3,b4,b5,b6,b7,k0,k1,k2,k3,k4⟩:=r
 dsimp only [Ru_RuP.v]at *
 have HJ:J=(!b1&&(decide (a<l)||(!S||(decide (0≤k4)&&(decide (a-l≤k4)&&!b4))))):=hJ.symm
 clear hJ
 have HB:=zH ((Below.refl w.heap.size w).alloc (zR _) (.cells #[.bool b0,.bool b1,.bool b2,.bool b3,.bool b4,.bool b5,.bool b6,.bool b7,.int .i64 k0,.int .i64 k1,.int .i64 k2,.int .i64 k3,.int .i64 k4] 36))
 have HX:=zH (BoxN.made w [.bool b0,.bool b1,.bool b2,.bool b3,.bool b4,.bool b5,.bool b6,.bool b7,.int .i64 k0,.int .i64 k1,.int .i64 k2,.int .i64 k3,.int .i64 k4] 36)
 cases b1
 ·by_cases h1:a<l
  ·have HV:Hid (J=true):=zH (HJ.trans (by simp [*]))
   clear HJ
   go_enter Tryz.func16,Tryz.ntmps16
   go_wp2_with fail
   go_ret
   exact⟨by rw [HV.out];rfl,HB.out⟩
  ·cases S
   ·have HV:Hid (J=true):=zH (HJ.trans (by simp [*]))
    clear HJ
    go_enter Tryz.func16,Tryz.ntmps16
    go_wp2_with fail
    refine(cS _).mono ?_
    rintro e w1 ⟨rfl,hb⟩
    have HB:=zH (HB.out.trans (hb.mono HB.out.size))
    have hx:=HX.out.next hb
    have x4:=(hx.2 4 _ rfl).1
    have x12:=(hx.2 12 _ rfl).1
    clear hx hb
    go_wp2_with fail
    go_ret
    exact⟨by rw [HV.out];rfl,HB.out⟩
   ·by_cases h3:0≤k4
    ·by_cases h4:a-l≤k4
     ·cases b4
      ·have HV:Hid (J=true):=zH (HJ.trans (by simp [*]))
       clear HJ
       go_enter Tryz.func16,Tryz.ntmps16
       go_wp2_with fail
       refine(cS _).mono ?_
       rintro e w1 ⟨rfl,hb⟩
       have HB:=zH (HB.out.trans (hb.mono HB.out.size))
       have hx:=HX.out.next hb
       have x4:=(hx.2 4 _ rfl).1
       have x12:=(hx.2 12 _ rfl).1
       clear hx hb
       go_wp2_with fail
       go_ret
       exact⟨by rw [HV.out];rfl,HB.out⟩
      ·have HV:Hid (J=false):=zH (HJ.trans (by simp [*]))
       clear HJ
       go_enter Tryz.func16,Tryz.ntmps16
       go_wp2_with fail
       refine(cS _).mono ?_
       rintro e w1 ⟨rfl,hb⟩
       have HB:=zH (HB.out.trans (hb.mono HB.out.size))
       have hx:=HX.out.next hb
       have x4:=(hx.2 4 _ rfl).1
       have x12:=(hx.2 12 _ rfl).1
       clear hx hb
       go_wp2_with fail
       go_ret
       exact⟨by rw [HV.out];rfl,HB.out⟩
     ·have HV:Hid (J=false):=zH (HJ.trans (by simp [*]))
      clear HJ
      go_enter Tryz.func16,Tryz.ntmps16
      go_wp2_with fail
      refine(cS _).mono ?_
      rintro e w1 ⟨rfl,hb⟩
      have HB:=zH (HB.out.trans (hb.mono HB.out.size))
      have hx:=HX.out.next hb
      have x4:=(hx.2 4 _ rfl).1
      have x12:=(hx.2 12 _ rfl).1
      clear hx hb
      go_wp2_with fail
      go_ret
      exact⟨by rw [HV.out];rfl,HB.out⟩
    ·have HV:Hid (J=false):=zH (HJ.trans (by simp [*]))
     clear HJ
     go_enter Tryz.func16,Tryz.ntmps16
     go_wp2_with fail
     refine(cS _).mono ?_
     rintro e w1 ⟨rfl,hb⟩
     have HB:=zH (HB.out.trans (hb.mono HB.out.size))
     have hx:=HX.out.next hb
     have x4:=(hx.2 4 _ rfl).1
     have x12:=(hx.2 12 _ rfl).1
     clear hx hb
     go_wp2_with fail
     go_ret
     exact⟨by rw [HV.out];rfl,HB.out⟩
 ·have HV:Hid (J=false):=zH (HJ.trans (by simp [*]))
  clear HJ
  go_enter Tryz.func16,Tryz.ntmps16
  go_wp2_with fail
  go_ret
  exact⟨by rw [HV.out];rfl,HB.out⟩
end Go.Proofs.YtfaedmbfabfmeaaGreatDoor
