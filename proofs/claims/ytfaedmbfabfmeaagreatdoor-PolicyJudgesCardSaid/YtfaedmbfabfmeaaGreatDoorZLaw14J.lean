/- The walk of the law PolicyJudges. -/
import Derived.Test.YtfaedmbfabfmeaaGreatDoorZAwk14
import Derived.Test.YtfaedmbfabfmeaaGreatDoorZPoK
import Derived.Test.YtfaedmbfabfmeaaGreatDoorZPoR
import Derived.Deep.RegionHeld3
import Derived.IntWalk
set_option linter.unusedSimpArgs false
set_option maxRecDepth 100000
set_option maxHeartbeats 16000000
namespace Go.Proofs.YtfaedmbfabfmeaaGreatDoor
open Go.RowKit Go.Shelf Go.Lib
theorem pjudges_walk (a l:Int) (r q:Ru_RuP) (w:World) (hA:Alph w) (hT:Tabs w) (hC:Cal w) :
  Calls Tryz.prog 4 #[.int .i64 a,.int .i64 l,.agg (r.l++q.l).toArray] w fun e w'=>e=.returned (.bool true)∧Below w.heap.size w w':=by
 have HC:=zH hC
 have HA:=zH hA
 have HT:=zH hT
 have cA:=fun W (hb:Below w.heap.size w W)=>awake14_any W (Alph.below HA.out hb) (Utf8Tabs_below HT.out hb) (Cal.below HC.out hb)
 clear hA hT hC
 obtain⟨b0,b1,b2,b3,b4,b5,b6,b7,k0,k1,k2,k3,k4⟩:=r
 obtain⟨c0,c1,c2,c3,c4,c5,c6,c7,m0,m1,m2,m3,m4⟩:=q
 have hv:(((Ru_RuP.mk b0 b1 b2 b3 b4 b5 b6 b7 k0 k1 k2 k3 k4).l++(Ru_RuP.mk c0 c1 c2 c3 c4 c5 c6 c7 m0 m1 m2 m3 m4).l).toArray:Array Value)=#[.bool b0,.bool b1,.bool b2,.bool b3,.bool b4,.bool b5,.bool b6,.bool b7,.int .i64 k0,.int .i64 k1,.int .i64 k2,.int .i64 k3,.int .i64 k4,.bool c0,.bool c1,.bool c2,.bool c3,.bool c4,.bool c5,.bool c6,.bool c7,.int .i64 m0,.int .i64 m1,.int .i64 m2,.int .i64 m3,.int .i64 m4]:=rfl
 rw [hv]
 clear hv
 have HL:=zH (BoxN.made w [.bool b0,.bool b1,.bool b2,.bool b3,.bool b4,.bool b5,.bool b6,.bool b7,.int .i64 k0,.int .i64 k1,.int .i64 k2,.int .i64 k3,.int .i64 k4,.bool c0,.bool c1,.bool c2,.bool c3,.bool c4,.bool c5,.bool c6,.bool c7,.int .i64 m0,.int .i64 m1,.int .i64 m2,.int .i64 m3,.int .i64 m4] 35)
 have HB:=zH ((Below.refl w.heap.size w).alloc (zR _) (.cells #[.bool b0,.bool b1,.bool b2,.bool b3,.bool b4,.bool b5,.bool b6,.bool b7,.int .i64 k0,.int .i64 k1,.int .i64 k2,.int .i64 k3,.int .i64 k4,.bool c0,.bool c1,.bool c2,.bool c3,.bool c4,.bool c5,.bool c6,.bool c7,.int .i64 m0,.int .i64 m1,.int .i64 m2,.int .i64 m3,.int .i64 m4] 35))
 by_cases g1:a<0
 ·go_enter Tryz.func4,Tryz.ntmps4
  go_wp2_with fail
  refine(cA _ HB.out).mono ?_
  rintro e w1 ⟨rfl,hb⟩
  have hlt:w.heap.size<w1.heap.size:=(HL.out.next hb).1
  replace HL:=zH (HL.out.next hb)
  replace HB:=zH (HB.out.trans (hb.mono HB.out.size))
  clear hb cA
  go_wp2_with fail
  go_ret
  exact⟨rfl,HB.out⟩
 ·by_cases g2:l<0
  ·go_enter Tryz.func4,Tryz.ntmps4
   go_wp2_with fail
   refine(cA _ HB.out).mono ?_
   rintro e w1 ⟨rfl,hb⟩
   have hlt:w.heap.size<w1.heap.size:=(HL.out.next hb).1
   replace HL:=zH (HL.out.next hb)
   replace HB:=zH (HB.out.trans (hb.mono HB.out.size))
   clear hb cA
   go_wp2_with fail
   go_ret
   exact⟨rfl,HB.out⟩
  ·by_cases g3:2147483648<a
   ·go_enter Tryz.func4,Tryz.ntmps4
    go_wp2_with fail
    refine(cA _ HB.out).mono ?_
    rintro e w1 ⟨rfl,hb⟩
    have hlt:w.heap.size<w1.heap.size:=(HL.out.next hb).1
    replace HL:=zH (HL.out.next hb)
    replace HB:=zH (HB.out.trans (hb.mono HB.out.size))
    clear hb cA
    go_wp2_with fail
    go_ret
    exact⟨rfl,HB.out⟩
   ·by_cases g4:2147483648<l
    ·go_enter Tryz.func4,Tryz.ntmps4
     go_wp2_with fail
     refine(cA _ HB.out).mono ?_
     rintro e w1 ⟨rfl,hb⟩
     have hlt:w.heap.size<w1.heap.size:=(HL.out.next hb).1
     replace HL:=zH (HL.out.next hb)
     replace HB:=zH (HB.out.trans (hb.mono HB.out.size))
     clear hb cA
     go_wp2_with fail
     go_ret
     exact⟨rfl,HB.out⟩
    ·have cx1:=fun W=>pjudge_any a l ⟨b0,b1,b2,b3,b4,b5,b6,b7,k0,k1,k2,k3,k4⟩ ⟨c0,c1,c2,c3,c4,c5,c6,c7,m0,m1,m2,m3,m4⟩ W (by omega) (by omega) (by omega) (by omega)
     have cx2:=fun W=>rjudge_any a l ⟨b0,b1,b2,b3,b4,b5,b6,b7,k0,k1,k2,k3,k4⟩ ⟨c0,c1,c2,c3,c4,c5,c6,c7,m0,m1,m2,m3,m4⟩ W (by omega) (by omega) (by omega) (by omega)
     have cx3:=fun W=>ponerr_any a l ⟨b0,b1,b2,b3,b4,b5,b6,b7,k0,k1,k2,k3,k4⟩ W (by omega) (by omega) (by omega) (by omega)
     have cx4:=fun W=>ronerr_any a l ⟨b0,b1,b2,b3,b4,b5,b6,b7,k0,k1,k2,k3,k4⟩ W (by omega) (by omega) (by omega) (by omega)
     generalize judP_RuP a l ⟨b0,b1,b2,b3,b4,b5,b6,b7,k0,k1,k2,k3,k4⟩ ⟨c0,c1,c2,c3,c4,c5,c6,c7,m0,m1,m2,m3,m4⟩=J at *
     generalize errP_RuP a l ⟨b0,b1,b2,b3,b4,b5,b6,b7,k0,k1,k2,k3,k4⟩=E at *
     dsimp only [Ru_RuP.v]at cx1 cx2 cx3 cx4
     go_enter Tryz.func4,Tryz.ntmps4
     go_wp2_with fail
     refine(cA _ HB.out).mono ?_
     rintro e w1 ⟨rfl,hb⟩
     have hlt:w.heap.size<w1.heap.size:=(HL.out.next hb).1
     replace HL:=zH (HL.out.next hb)
     replace HB:=zH (HB.out.trans (hb.mono HB.out.size))
     clear hb cA
     have lf0:=(HL.out.2 0 _ rfl).1
     have lf1:=(HL.out.2 1 _ rfl).1
     have lf2:=(HL.out.2 2 _ rfl).1
     have lf3:=(HL.out.2 3 _ rfl).1
     have lf4:=(HL.out.2 4 _ rfl).1
     have lf5:=(HL.out.2 5 _ rfl).1
     have lf6:=(HL.out.2 6 _ rfl).1
     have lf7:=(HL.out.2 7 _ rfl).1
     have lf8:=(HL.out.2 8 _ rfl).1
     have lf9:=(HL.out.2 9 _ rfl).1
     have lf10:=(HL.out.2 10 _ rfl).1
     have lf11:=(HL.out.2 11 _ rfl).1
     have lf12:=(HL.out.2 12 _ rfl).1
     have lf13:=(HL.out.2 13 _ rfl).1
     have lf14:=(HL.out.2 14 _ rfl).1
     have lf15:=(HL.out.2 15 _ rfl).1
     have lf16:=(HL.out.2 16 _ rfl).1
     have lf17:=(HL.out.2 17 _ rfl).1
     have lf18:=(HL.out.2 18 _ rfl).1
     have lf19:=(HL.out.2 19 _ rfl).1
     have lf20:=(HL.out.2 20 _ rfl).1
     have lf21:=(HL.out.2 21 _ rfl).1
     have lf22:=(HL.out.2 22 _ rfl).1
     have lf23:=(HL.out.2 23 _ rfl).1
     have lf24:=(HL.out.2 24 _ rfl).1
     have lf25:=(HL.out.2 25 _ rfl).1
     obtain⟨W4,hW4⟩:∃W4,w1.alloc (.cells #[.bool b0,.bool b1,.bool b2,.bool b3,.bool b4,.bool b5,.bool b6,.bool b7,.int .i64 k0,.int .i64 k1,.int .i64 k2,.int .i64 k3,.int .i64 k4] 36)=W4:=⟨_,rfl⟩
     obtain⟨V,hV⟩:∃V,W4.alloc (.cells #[.bool c0,.bool c1,.bool c2,.bool c3,.bool c4,.bool c5,.bool c6,.bool c7,.int .i64 m0,.int .i64 m1,.int .i64 m2,.int .i64 m3,.int .i64 m4] 36)=V:=⟨_,rfl⟩
     have s4:W4.heap.size=w1.heap.size+1:=by rw [← hW4];simp
     have be4:Below w1.heap.size w1 W4:=by rw [← hW4];exact(Below.refl _ _).alloc (zR _) _
     have be5:Below W4.heap.size W4 V:=by rw [← hV];exact(Below.refl _ _).alloc (zR _) _
     have hr:BoxN W4 w1.heap.size [.bool b0,.bool b1,.bool b2,.bool b3,.bool b4,.bool b5,.bool b6,.bool b7,.int .i64 k0,.int .i64 k1,.int .i64 k2,.int .i64 k3,.int .i64 k4]:=by rw [← hW4];exact BoxN.made w1 [.bool b0,.bool b1,.bool b2,.bool b3,.bool b4,.bool b5,.bool b6,.bool b7,.int .i64 k0,.int .i64 k1,.int .i64 k2,.int .i64 k3,.int .i64 k4] _
     have hq:BoxN V W4.heap.size [.bool c0,.bool c1,.bool c2,.bool c3,.bool c4,.bool c5,.bool c6,.bool c7,.int .i64 m0,.int .i64 m1,.int .i64 m2,.int .i64 m3,.int .i64 m4]:=by rw [← hV];exact BoxN.made W4 [.bool c0,.bool c1,.bool c2,.bool c3,.bool c4,.bool c5,.bool c6,.bool c7,.int .i64 m0,.int .i64 m1,.int .i64 m2,.int .i64 m3,.int .i64 m4] _
     rw [s4]at hq
     have HS:Hid (boxesP V w.heap.size [.bool b0,.bool b1,.bool b2,.bool b3,.bool b4,.bool b5,.bool b6,.bool b7,.int .i64 k0,.int .i64 k1,.int .i64 k2,.int .i64 k3,.int .i64 k4,.bool c0,.bool c1,.bool c2,.bool c3,.bool c4,.bool c5,.bool c6,.bool c7,.int .i64 m0,.int .i64 m1,.int .i64 m2,.int .i64 m3,.int .i64 m4] w1.heap.size [.bool b0,.bool b1,.bool b2,.bool b3,.bool b4,.bool b5,.bool b6,.bool b7,.int .i64 k0,.int .i64 k1,.int .i64 k2,.int .i64 k3,.int .i64 k4] (w1.heap.size+1) [.bool c0,.bool c1,.bool c2,.bool c3,.bool c4,.bool c5,.bool c6,.bool c7,.int .i64 m0,.int .i64 m1,.int .i64 m2,.int .i64 m3,.int .i64 m4] V.drew):=zH ((boxesP.mk ((HL.out.next be4).next be5) (hr.next be5) hq (Below.refl _ _)).next (drewA V))
     have HBV:=zH ((HB.out.trans (be4.mono HB.out.size)).trans (be5.mono (HB.out.trans (be4.mono HB.out.size)).size))
     have HW4:=zH hW4
     have HW5:=zH hV
     clear s4 be4 be5 hr hq hW4 hV
     go_wp2_with fail
     rw [HW4.out,HW5.out]
     clear lf0 lf1 lf2 lf3 lf4 lf5 lf6 lf7 lf8 lf9 lf10 lf11 lf12 lf13 lf14 lf15 lf16 lf17 lf18 lf19 lf20 lf21 lf22 lf23 lf24 lf25
     clear hlt HL HB HW4 HW5 g1 g2 g3 g4
     have kj1:∀W,boxesP V w.heap.size [.bool b0,.bool b1,.bool b2,.bool b3,.bool b4,.bool b5,.bool b6,.bool b7,.int .i64 k0,.int .i64 k1,.int .i64 k2,.int .i64 k3,.int .i64 k4,.bool c0,.bool c1,.bool c2,.bool c3,.bool c4,.bool c5,.bool c6,.bool c7,.int .i64 m0,.int .i64 m1,.int .i64 m2,.int .i64 m3,.int .i64 m4] w1.heap.size [.bool b0,.bool b1,.bool b2,.bool b3,.bool b4,.bool b5,.bool b6,.bool b7,.int .i64 k0,.int .i64 k1,.int .i64 k2,.int .i64 k3,.int .i64 k4] (w1.heap.size+1) [.bool c0,.bool c1,.bool c2,.bool c3,.bool c4,.bool c5,.bool c6,.bool c7,.int .i64 m0,.int .i64 m1,.int .i64 m2,.int .i64 m3,.int .i64 m4] W→Calls Tryz.prog 13 #[.int .i64 a,.int .i64 l,.agg #[.bool b0,.bool b1,.bool b2,.bool b3,.bool b4,.bool b5,.bool b6,.bool b7,.int .i64 k0,.int .i64 k1,.int .i64 k2,.int .i64 k3,.int .i64 k4],.agg #[.bool c0,.bool c1,.bool c2,.bool c3,.bool c4,.bool c5,.bool c6,.bool c7,.int .i64 m0,.int .i64 m1,.int .i64 m2,.int .i64 m3,.int .i64 m4]] W fun e W=>e=.returned (.int .i64 J)∧boxesP V w.heap.size [.bool b0,.bool b1,.bool b2,.bool b3,.bool b4,.bool b5,.bool b6,.bool b7,.int .i64 k0,.int .i64 k1,.int .i64 k2,.int .i64 k3,.int .i64 k4,.bool c0,.bool c1,.bool c2,.bool c3,.bool c4,.bool c5,.bool c6,.bool c7,.int .i64 m0,.int .i64 m1,.int .i64 m2,.int .i64 m3,.int .i64 m4] w1.heap.size [.bool b0,.bool b1,.bool b2,.bool b3,.bool b4,.bool b5,.bool b6,.bool b7,.int .i64 k0,.int .i64 k1,.int .i64 k2,.int .i64 k3,.int .i64 k4] (w1.heap.size+1) [.bool c0,.bool c1,.bool c2,.bool c3,.bool c4,.bool c5,.bool c6,.bool c7,.int .i64 m0,.int .i64 m1,.int .i64 m2,.int .i64 m3,.int .i64 m4] W:=fun W h=>(cx1 W).mono fun e w' hh=>⟨hh.1,h.next hh.2⟩
     have kj2:∀W,boxesP V w.heap.size [.bool b0,.bool b1,.bool b2,.bool b3,.bool b4,.bool b5,.bool b6,.bool b7,.int .i64 k0,.int .i64 k1,.int .i64 k2,.int .i64 k3,.int .i64 k4,.bool c0,.bool c1,.bool c2,.bool c3,.bool c4,.bool c5,.bool c6,.bool c7,.int .i64 m0,.int .i64 m1,.int .i64 m2,.int .i64 m3,.int .i64 m4] w1.heap.size [.bool b0,.bool b1,.bool b2,.bool b3,.bool b4,.bool b5,.bool b6,.bool b7,.int .i64 k0,.int .i64 k1,.int .i64 k2,.int .i64 k3,.int .i64 k4] (w1.heap.size+1) [.bool c0,.bool c1,.bool c2,.bool c3,.bool c4,.bool c5,.bool c6,.bool c7,.int .i64 m0,.int .i64 m1,.int .i64 m2,.int .i64 m3,.int .i64 m4] W→Calls Tryz.prog 14 #[.int .i64 a,.int .i64 l,.agg #[.bool b0,.bool b1,.bool b2,.bool b3,.bool b4,.bool b5,.bool b6,.bool b7,.int .i64 k0,.int .i64 k1,.int .i64 k2,.int .i64 k3,.int .i64 k4],.agg #[.bool c0,.bool c1,.bool c2,.bool c3,.bool c4,.bool c5,.bool c6,.bool c7,.int .i64 m0,.int .i64 m1,.int .i64 m2,.int .i64 m3,.int .i64 m4]] W fun e W=>e=.returned (.int .i64 J)∧boxesP V w.heap.size [.bool b0,.bool b1,.bool b2,.bool b3,.bool b4,.bool b5,.bool b6,.bool b7,.int .i64 k0,.int .i64 k1,.int .i64 k2,.int .i64 k3,.int .i64 k4,.bool c0,.bool c1,.bool c2,.bool c3,.bool c4,.bool c5,.bool c6,.bool c7,.int .i64 m0,.int .i64 m1,.int .i64 m2,.int .i64 m3,.int .i64 m4] w1.heap.size [.bool b0,.bool b1,.bool b2,.bool b3,.bool b4,.bool b5,.bool b6,.bool b7,.int .i64 k0,.int .i64 k1,.int .i64 k2,.int .i64 k3,.int .i64 k4] (w1.heap.size+1) [.bool c0,.bool c1,.bool c2,.bool c3,.bool c4,.bool c5,.bool c6,.bool c7,.int .i64 m0,.int .i64 m1,.int .i64 m2,.int .i64 m3,.int .i64 m4] W:=fun W h=>(cx2 W).mono fun e w' hh=>⟨hh.1,h.next hh.2⟩
     have kj3:∀W,boxesP V w.heap.size [.bool b0,.bool b1,.bool b2,.bool b3,.bool b4,.bool b5,.bool b6,.bool b7,.int .i64 k0,.int .i64 k1,.int .i64 k2,.int .i64 k3,.int .i64 k4,.bool c0,.bool c1,.bool c2,.bool c3,.bool c4,.bool c5,.bool c6,.bool c7,.int .i64 m0,.int .i64 m1,.int .i64 m2,.int .i64 m3,.int .i64 m4] w1.heap.size [.bool b0,.bool b1,.bool b2,.bool b3,.bool b4,.bool b5,.bool b6,.bool b7,.int .i64 k0,.int .i64 k1,.int .i64 k2,.int .i64 k3,.int .i64 k4] (w1.heap.size+1) [.bool c0,.bool c1,.bool c2,.bool c3,.bool c4,.bool c5,.bool c6,.bool c7,.int .i64 m0,.int .i64 m1,.int .i64 m2,.int .i64 m3,.int .i64 m4] W→Calls Tryz.prog 15 #[.int .i64 a,.int .i64 l,.agg #[.bool b0,.bool b1,.bool b2,.bool b3,.bool b4,.bool b5,.bool b6,.bool b7,.int .i64 k0,.int .i64 k1,.int .i64 k2,.int .i64 k3,.int .i64 k4]] W fun e W=>e=.returned (.bool E)∧boxesP V w.heap.size [.bool b0,.bool b1,.bool b2,.bool b3,.bool b4,.bool b5,.bool b6,.bool b7,.int .i64 k0,.int .i64 k1,.int .i64 k2,.int .i64 k3,.int .i64 k4,.bool c0,.bool c1,.bool c2,.bool c3,.bool c4,.bool c5,.bool c6,.bool c7,.int .i64 m0,.int .i64 m1,.int .i64 m2,.int .i64 m3,.int .i64 m4] w1.heap.size [.bool b0,.bool b1,.bool b2,.bool b3,.bool b4,.bool b5,.bool b6,.bool b7,.int .i64 k0,.int .i64 k1,.int .i64 k2,.int .i64 k3,.int .i64 k4] (w1.heap.size+1) [.bool c0,.bool c1,.bool c2,.bool c3,.bool c4,.bool c5,.bool c6,.bool c7,.int .i64 m0,.int .i64 m1,.int .i64 m2,.int .i64 m3,.int .i64 m4] W:=fun W h=>(cx3 W).mono fun e w' hh=>⟨hh.1,h.next hh.2⟩
     have kj4:∀W,boxesP V w.heap.size [.bool b0,.bool b1,.bool b2,.bool b3,.bool b4,.bool b5,.bool b6,.bool b7,.int .i64 k0,.int .i64 k1,.int .i64 k2,.int .i64 k3,.int .i64 k4,.bool c0,.bool c1,.bool c2,.bool c3,.bool c4,.bool c5,.bool c6,.bool c7,.int .i64 m0,.int .i64 m1,.int .i64 m2,.int .i64 m3,.int .i64 m4] w1.heap.size [.bool b0,.bool b1,.bool b2,.bool b3,.bool b4,.bool b5,.bool b6,.bool b7,.int .i64 k0,.int .i64 k1,.int .i64 k2,.int .i64 k3,.int .i64 k4] (w1.heap.size+1) [.bool c0,.bool c1,.bool c2,.bool c3,.bool c4,.bool c5,.bool c6,.bool c7,.int .i64 m0,.int .i64 m1,.int .i64 m2,.int .i64 m3,.int .i64 m4] W→Calls Tryz.prog 16 #[.int .i64 a,.int .i64 l,.agg #[.bool b0,.bool b1,.bool b2,.bool b3,.bool b4,.bool b5,.bool b6,.bool b7,.int .i64 k0,.int .i64 k1,.int .i64 k2,.int .i64 k3,.int .i64 k4]] W fun e W=>e=.returned (.bool E)∧boxesP V w.heap.size [.bool b0,.bool b1,.bool b2,.bool b3,.bool b4,.bool b5,.bool b6,.bool b7,.int .i64 k0,.int .i64 k1,.int .i64 k2,.int .i64 k3,.int .i64 k4,.bool c0,.bool c1,.bool c2,.bool c3,.bool c4,.bool c5,.bool c6,.bool c7,.int .i64 m0,.int .i64 m1,.int .i64 m2,.int .i64 m3,.int .i64 m4] w1.heap.size [.bool b0,.bool b1,.bool b2,.bool b3,.bool b4,.bool b5,.bool b6,.bool b7,.int .i64 k0,.int .i64 k1,.int .i64 k2,.int .i64 k3,.int .i64 k4] (w1.heap.size+1) [.bool c0,.bool c1,.bool c2,.bool c3,.bool c4,.bool c5,.bool c6,.bool c7,.int .i64 m0,.int .i64 m1,.int .i64 m2,.int .i64 m3,.int .i64 m4] W:=fun W h=>(cx4 W).mono fun e w' hh=>⟨hh.1,h.next hh.2⟩
     clear cx1 cx2 cx3 cx4
     refine wp_region_held_drew (S:=(boxesP V w.heap.size [.bool b0,.bool b1,.bool b2,.bool b3,.bool b4,.bool b5,.bool b6,.bool b7,.int .i64 k0,.int .i64 k1,.int .i64 k2,.int .i64 k3,.int .i64 k4,.bool c0,.bool c1,.bool c2,.bool c3,.bool c4,.bool c5,.bool c6,.bool c7,.int .i64 m0,.int .i64 m1,.int .i64 m2,.int .i64 m3,.int .i64 m4] w1.heap.size [.bool b0,.bool b1,.bool b2,.bool b3,.bool b4,.bool b5,.bool b6,.bool b7,.int .i64 k0,.int .i64 k1,.int .i64 k2,.int .i64 k3,.int .i64 k4] (w1.heap.size+1) [.bool c0,.bool c1,.bool c2,.bool c3,.bool c4,.bool c5,.bool c6,.bool c7,.int .i64 m0,.int .i64 m1,.int .i64 m2,.int .i64 m3,.int .i64 m4])) (by kernel_rfl) ?_ (fun hHeld=>?_)
     ·exact HS.out
     refine wpAnyH_take (i:=0) (v:=?_) rfl (by kernel_rfl) (by kernel_rfl) (by kernel_rfl) (fun _ _ _ h=>h) (Or.inl ⟨by rfl,?_⟩) (by assumption) ?_
     rotate_left 1
     ·intro w hSw;(try dsimp only at hSw);go_simp;(try with_reducible rfl)
     try simp only [Act.put,List.getElem_toArray,List.getElem_cons_zero,List.setIfInBounds_toArray,List.set_cons_zero,List.set_cons_succ]
     refine wpAnyH_take (i:=1) (v:=?_) rfl (by kernel_rfl) (by kernel_rfl) (by kernel_rfl) (fun _ _ _ h=>h) (Or.inl ⟨by rfl,?_⟩) (by assumption) ?_
     rotate_left 1
     ·intro w hSw;(try dsimp only at hSw);go_simp;(try with_reducible rfl)
     try simp only [Act.put,List.getElem_toArray,List.getElem_cons_succ,List.getElem_cons_zero,List.setIfInBounds_toArray,List.set_cons_zero,List.set_cons_succ]
     refine wpAnyH_take (i:=2) (v:=?_) rfl (by kernel_rfl) (by kernel_rfl) (by kernel_rfl) (fun _ _ _ h=>h) (Or.inl ⟨by rfl,?_⟩) (by assumption) ?_
     rotate_left 1
     ·intro w hSw;(try dsimp only at hSw);go_simp;(try with_reducible rfl)
     try simp only [Act.put,List.getElem_toArray,List.getElem_cons_succ,List.getElem_cons_zero,List.setIfInBounds_toArray,List.set_cons_zero,List.set_cons_succ]
     refine wpAnyH_take (i:=3) (v:=?_) rfl (by kernel_rfl) (by kernel_rfl) (by kernel_rfl) (fun _ _ _ h=>h) (Or.inl ⟨by rfl,?_⟩) (by assumption) ?_
     rotate_left 1
     ·intro w hSw;(try dsimp only at hSw);go_simp;(try with_reducible rfl)
     try simp only [Act.put,List.getElem_toArray,List.getElem_cons_succ,List.getElem_cons_zero,List.setIfInBounds_toArray,List.set_cons_zero,List.set_cons_succ]
     refine wpAnyH_take (i:=4) (v:=?_) rfl (by kernel_rfl) (by kernel_rfl) (by kernel_rfl) (fun _ _ _ h=>h) (Or.inl ⟨by rfl,?_⟩) (by assumption) ?_
     rotate_left 1
     ·intro w hSw;(try dsimp only at hSw);go_simp;(try with_reducible rfl)
     try simp only [Act.put,List.getElem_toArray,List.getElem_cons_succ,List.getElem_cons_zero,List.setIfInBounds_toArray,List.set_cons_zero,List.set_cons_succ]
     refine wpAnyH_take (i:=5) (v:=?_) rfl (by kernel_rfl) (by kernel_rfl) (by kernel_rfl) (fun _ _ _ h=>h) (Or.inl ⟨by rfl,?_⟩) (by assumption) ?_
     rotate_left 1
     ·intro w hSw;(try dsimp only at hSw);have y0:=(hSw.p.2 0 _ rfl).1;have y1:=(hSw.p.2 1 _ rfl).1;have y2:=(hSw.p.2 2 _ rfl).1;have y3:=(hSw.p.2 3 _ rfl).1;have y4:=(hSw.p.2 4 _ rfl).1;have y5:=(hSw.p.2 5 _ rfl).1;have y6:=(hSw.p.2 6 _ rfl).1;have y7:=(hSw.p.2 7 _ rfl).1;have y8:=(hSw.p.2 8 _ rfl).1;have y9:=(hSw.p.2 9 _ rfl).1;have y10:=(hSw.p.2 10 _ rfl).1;have y11:=(hSw.p.2 11 _ rfl).1;have y12:=(hSw.p.2 12 _ rfl).1;clear hSw;go_simp;(try with_reducible rfl)
     try simp only [Act.put,List.getElem_toArray,List.getElem_cons_succ,List.getElem_cons_zero,List.setIfInBounds_toArray,List.set_cons_zero,List.set_cons_succ]
     refine wpAnyH_take (i:=6) (v:=?_) rfl (by kernel_rfl) (by kernel_rfl) (by kernel_rfl) (fun _ _ _ h=>h) (Or.inl ⟨by rfl,?_⟩) (by assumption) ?_
     rotate_left 1
     ·intro w hSw;(try dsimp only at hSw);go_simp;(try with_reducible rfl)
     try simp only [Act.put,List.getElem_toArray,List.getElem_cons_succ,List.getElem_cons_zero,List.setIfInBounds_toArray,List.set_cons_zero,List.set_cons_succ]
     refine wpAnyH_take (i:=7) (v:=?_) rfl (by kernel_rfl) (by kernel_rfl) (by kernel_rfl) (fun _ _ _ h=>h) (Or.inl ⟨by rfl,?_⟩) (by assumption) ?_
     rotate_left 1
     ·intro w hSw;(try dsimp only at hSw);have y13:=(hSw.p.2 13 _ rfl).1;have y14:=(hSw.p.2 14 _ rfl).1;have y15:=(hSw.p.2 15 _ rfl).1;have y16:=(hSw.p.2 16 _ rfl).1;have y17:=(hSw.p.2 17 _ rfl).1;have y18:=(hSw.p.2 18 _ rfl).1;have y19:=(hSw.p.2 19 _ rfl).1;have y20:=(hSw.p.2 20 _ rfl).1;have y21:=(hSw.p.2 21 _ rfl).1;have y22:=(hSw.p.2 22 _ rfl).1;have y23:=(hSw.p.2 23 _ rfl).1;have y24:=(hSw.p.2 24 _ rfl).1;have y25:=(hSw.p.2 25 _ rfl).1;clear hSw;go_simp;(try with_reducible rfl)
     try simp only [Act.put,List.getElem_toArray,List.getElem_cons_succ,List.getElem_cons_zero,List.setIfInBounds_toArray,List.set_cons_zero,List.set_cons_succ]
     refine wpAnyH_take (i:=9) (v:=?_) rfl (by kernel_rfl) (by kernel_rfl) (by kernel_rfl) (fun _ _ _ h=>h) (Or.inl ⟨by rfl,?_⟩) (by assumption) ?_
     rotate_left 1
     ·intro w hSw;(try dsimp only at hSw);go_simp;(try with_reducible rfl)
     try simp only [Act.put,List.getElem_toArray,List.getElem_cons_succ,List.getElem_cons_zero,List.setIfInBounds_toArray,List.set_cons_zero,List.set_cons_succ]
     refine wpAnyH_take (i:=10) (v:=?_) rfl (by kernel_rfl) (by kernel_rfl) (by kernel_rfl) (fun _ _ _ h=>h) (Or.inl ⟨by rfl,?_⟩) (by assumption) ?_
     rotate_left 1
     ·intro w hSw;(try dsimp only at hSw);go_simp;(try with_reducible rfl)
     try simp only [Act.put,List.getElem_toArray,List.getElem_cons_succ,List.getElem_cons_zero,List.setIfInBounds_toArray,List.set_cons_zero,List.set_cons_succ]
     refine wpAnyH_take (i:=11) (v:=?_) rfl (by kernel_rfl) (by kernel_rfl) (by kernel_rfl) (fun _ _ _ h=>h) (Or.inl ⟨by rfl,?_⟩) (by assumption) ?_
     rotate_left 1
     ·intro w hSw;(try dsimp only at hSw);have y0:=(hSw.q.2 0 _ rfl).1;have y1:=(hSw.q.2 1 _ rfl).1;have y2:=(hSw.q.2 2 _ rfl).1;have y3:=(hSw.q.2 3 _ rfl).1;have y4:=(hSw.q.2 4 _ rfl).1;have y5:=(hSw.q.2 5 _ rfl).1;have y6:=(hSw.q.2 6 _ rfl).1;have y7:=(hSw.q.2 7 _ rfl).1;have y8:=(hSw.q.2 8 _ rfl).1;have y9:=(hSw.q.2 9 _ rfl).1;have y10:=(hSw.q.2 10 _ rfl).1;have y11:=(hSw.q.2 11 _ rfl).1;have y12:=(hSw.q.2 12 _ rfl).1;clear hSw;go_simp;(try with_reducible rfl)
     try simp only [Act.put,List.getElem_toArray,List.getElem_cons_succ,List.getElem_cons_zero,List.setIfInBounds_toArray,List.set_cons_zero,List.set_cons_succ]
     refine wpAnyH_take (i:=12) (v:=?_) rfl (by kernel_rfl) (by kernel_rfl) (by kernel_rfl) (fun _ _ _ h=>h) (Or.inl ⟨by rfl,?_⟩) (by assumption) ?_
     rotate_left 1
     ·intro w hSw;(try dsimp only at hSw);have y0:=(hSw.r.2 0 _ rfl).1;have y1:=(hSw.r.2 1 _ rfl).1;have y2:=(hSw.r.2 2 _ rfl).1;have y3:=(hSw.r.2 3 _ rfl).1;have y4:=(hSw.r.2 4 _ rfl).1;have y5:=(hSw.r.2 5 _ rfl).1;have y6:=(hSw.r.2 6 _ rfl).1;have y7:=(hSw.r.2 7 _ rfl).1;have y8:=(hSw.r.2 8 _ rfl).1;have y9:=(hSw.r.2 9 _ rfl).1;have y10:=(hSw.r.2 10 _ rfl).1;have y11:=(hSw.r.2 11 _ rfl).1;have y12:=(hSw.r.2 12 _ rfl).1;clear hSw;go_simp;(try with_reducible rfl)
     try simp only [Act.put,List.getElem_toArray,List.getElem_cons_succ,List.getElem_cons_zero,List.setIfInBounds_toArray,List.set_cons_zero,List.set_cons_succ]
     refine wpAnyH_ready (rs:=[8]) (by kernel_rfl) (by simp) ?_
     refine AllReadyH.cons rfl (fun K hK=>?_) AllReadyH.nil
     go_simp
     refine Calls.mono (kj1 _ hHeld) ?_
     rintro e w6 ⟨rfl,hh⟩
     dsimp only
     refine hK.out _ _ hh (fun hHeld=>?_)
     clear hK K hh
     try simp only [Act.put,List.getElem_toArray,List.getElem_cons_succ,List.getElem_cons_zero,List.setIfInBounds_toArray,List.set_cons_zero,List.set_cons_succ]
     refine wpAnyH_ready (rs:=[13]) (by kernel_rfl) (by simp) ?_
     refine AllReadyH.cons rfl (fun K hK=>?_) AllReadyH.nil
     go_simp
     refine Calls.mono (kj2 _ hHeld) ?_
     rintro e w6 ⟨rfl,hh⟩
     dsimp only
     refine hK.out _ _ hh (fun hHeld=>?_)
     clear hK K hh
     try simp only [Act.put,List.getElem_toArray,List.getElem_cons_succ,List.getElem_cons_zero,List.setIfInBounds_toArray,List.set_cons_zero,List.set_cons_succ]
     refine wpAnyH_take (i:=14) (v:=?_) rfl (by kernel_rfl) (by kernel_rfl) (by kernel_rfl) (fun _ _ _ h=>h) (Or.inl ⟨by rfl,?_⟩) (by assumption) ?_
     rotate_left 1
     ·intro w hSw;(try dsimp only at hSw);go_simp;(try with_reducible rfl)
     try simp only [Act.put,List.getElem_toArray,List.getElem_cons_succ,List.getElem_cons_zero,List.setIfInBounds_toArray,List.set_cons_zero,List.set_cons_succ]
     refine wpAnyH_take (i:=15) (v:=?_) rfl (by kernel_rfl) (by kernel_rfl) (by kernel_rfl) (fun _ _ _ h=>h) (Or.inl ⟨by rfl,?_⟩) (by assumption) ?_
     rotate_left 1
     ·intro w hSw;(try dsimp only at hSw);go_simp;(try with_reducible rfl)
     try simp only [Act.put,List.getElem_toArray,List.getElem_cons_succ,List.getElem_cons_zero,List.setIfInBounds_toArray,List.set_cons_zero,List.set_cons_succ]
     refine wpAnyH_take (i:=16) (v:=?_) rfl (by kernel_rfl) (by kernel_rfl) (by kernel_rfl) (fun _ _ _ h=>h) (Or.inl ⟨by rfl,?_⟩) (by assumption) ?_
     rotate_left 1
     ·intro w hSw;(try dsimp only at hSw);go_simp;(try with_reducible rfl)
     try simp only [Act.put,List.getElem_toArray,List.getElem_cons_succ,List.getElem_cons_zero,List.setIfInBounds_toArray,List.set_cons_zero,List.set_cons_succ]
     refine wpAnyH_take (i:=17) (v:=?_) rfl (by kernel_rfl) (by kernel_rfl) (by kernel_rfl) (fun _ _ _ h=>h) (Or.inl ⟨by rfl,?_⟩) (by assumption) ?_
     rotate_left 1
     ·intro w hSw;(try dsimp only at hSw);go_simp;(try with_reducible rfl)
     try simp only [Act.put,List.getElem_toArray,List.getElem_cons_succ,List.getElem_cons_zero,List.setIfInBounds_toArray,List.set_cons_zero,List.set_cons_succ]
     refine wpAnyH_take (i:=18) (v:=?_) rfl (by kernel_rfl) (by kernel_rfl) (by kernel_rfl) (fun _ _ _ h=>h) (Or.inl ⟨by rfl,?_⟩) (by assumption) ?_
     rotate_left 1
     ·intro w hSw;(try dsimp only at hSw);go_simp;(try with_reducible rfl)
     try simp only [Act.put,List.getElem_toArray,List.getElem_cons_succ,List.getElem_cons_zero,List.setIfInBounds_toArray,List.set_cons_zero,List.set_cons_succ]
     refine wpAnyH_take (i:=19) (v:=?_) rfl (by kernel_rfl) (by kernel_rfl) (by kernel_rfl) (fun _ _ _ h=>h) (Or.inl ⟨by rfl,?_⟩) (by assumption) ?_
     rotate_left 1
     ·intro w hSw;(try dsimp only at hSw);go_simp;(try with_reducible rfl)
     try simp only [Act.put,List.getElem_toArray,List.getElem_cons_succ,List.getElem_cons_zero,List.setIfInBounds_toArray,List.set_cons_zero,List.set_cons_succ]
     refine wpAnyH_take (i:=20) (v:=?_) rfl (by kernel_rfl) (by kernel_rfl) (by kernel_rfl) (fun _ _ _ h=>h) (Or.inl ⟨by rfl,?_⟩) (by assumption) ?_
     rotate_left 1
     ·intro w hSw;(try dsimp only at hSw);have y0:=(hSw.p.2 0 _ rfl).1;have y1:=(hSw.p.2 1 _ rfl).1;have y2:=(hSw.p.2 2 _ rfl).1;have y3:=(hSw.p.2 3 _ rfl).1;have y4:=(hSw.p.2 4 _ rfl).1;have y5:=(hSw.p.2 5 _ rfl).1;have y6:=(hSw.p.2 6 _ rfl).1;have y7:=(hSw.p.2 7 _ rfl).1;have y8:=(hSw.p.2 8 _ rfl).1;have y9:=(hSw.p.2 9 _ rfl).1;have y10:=(hSw.p.2 10 _ rfl).1;have y11:=(hSw.p.2 11 _ rfl).1;have y12:=(hSw.p.2 12 _ rfl).1;clear hSw;go_simp;(try with_reducible rfl)
     try simp only [Act.put,List.getElem_toArray,List.getElem_cons_succ,List.getElem_cons_zero,List.setIfInBounds_toArray,List.set_cons_zero,List.set_cons_succ]
     refine wpAnyH_take (i:=22) (v:=?_) rfl (by kernel_rfl) (by kernel_rfl) (by kernel_rfl) (fun _ _ _ h=>h) (Or.inl ⟨by rfl,?_⟩) (by assumption) ?_
     rotate_left 1
     ·intro w hSw;(try dsimp only at hSw);go_simp;(try with_reducible rfl)
     try simp only [Act.put,List.getElem_toArray,List.getElem_cons_succ,List.getElem_cons_zero,List.setIfInBounds_toArray,List.set_cons_zero,List.set_cons_succ]
     refine wpAnyH_take (i:=23) (v:=?_) rfl (by kernel_rfl) (by kernel_rfl) (by kernel_rfl) (fun _ _ _ h=>h) (Or.inl ⟨by rfl,?_⟩) (by assumption) ?_
     rotate_left 1
     ·intro w hSw;(try dsimp only at hSw);go_simp;(try with_reducible rfl)
     try simp only [Act.put,List.getElem_toArray,List.getElem_cons_succ,List.getElem_cons_zero,List.setIfInBounds_toArray,List.set_cons_zero,List.set_cons_succ]
     refine wpAnyH_take (i:=24) (v:=?_) rfl (by kernel_rfl) (by kernel_rfl) (by kernel_rfl) (fun _ _ _ h=>h) (Or.inl ⟨by rfl,?_⟩) (by assumption) ?_
     rotate_left 1
     ·intro w hSw;(try dsimp only at hSw);have y0:=(hSw.q.2 0 _ rfl).1;have y1:=(hSw.q.2 1 _ rfl).1;have y2:=(hSw.q.2 2 _ rfl).1;have y3:=(hSw.q.2 3 _ rfl).1;have y4:=(hSw.q.2 4 _ rfl).1;have y5:=(hSw.q.2 5 _ rfl).1;have y6:=(hSw.q.2 6 _ rfl).1;have y7:=(hSw.q.2 7 _ rfl).1;have y8:=(hSw.q.2 8 _ rfl).1;have y9:=(hSw.q.2 9 _ rfl).1;have y10:=(hSw.q.2 10 _ rfl).1;have y11:=(hSw.q.2 11 _ rfl).1;have y12:=(hSw.q.2 12 _ rfl).1;clear hSw;go_simp;(try with_reducible rfl)
     try simp only [Act.put,List.getElem_toArray,List.getElem_cons_succ,List.getElem_cons_zero,List.setIfInBounds_toArray,List.set_cons_zero,List.set_cons_succ]
     refine wpAnyH_ready (rs:=[21]) (by kernel_rfl) (by simp) ?_
     refine AllReadyH.cons rfl (fun K hK=>?_) AllReadyH.nil
     go_simp
     refine Calls.mono (kj3 _ hHeld) ?_
     rintro e w6 ⟨rfl,hh⟩
     dsimp only
     refine hK.out _ _ hh (fun hHeld=>?_)
     clear hK K hh
     try simp only [Act.put,List.getElem_toArray,List.getElem_cons_succ,List.getElem_cons_zero,List.setIfInBounds_toArray,List.set_cons_zero,List.set_cons_succ]
     refine wpAnyH_ready (rs:=[25]) (by kernel_rfl) (by simp) ?_
     refine AllReadyH.cons rfl (fun K hK=>?_) AllReadyH.nil
     go_simp
     refine Calls.mono (kj4 _ hHeld) ?_
     rintro e w6 ⟨rfl,hh⟩
     dsimp only
     refine hK.out _ _ hh (fun hHeld=>?_)
     clear hK K hh
     try simp only [Act.put,List.getElem_toArray,List.getElem_cons_succ,List.getElem_cons_zero,List.setIfInBounds_toArray,List.set_cons_zero,List.set_cons_succ]
     refine wpAnyH_take (i:=26) (v:=?_) rfl (by kernel_rfl) (by kernel_rfl) (by kernel_rfl) (fun _ _ _ h=>h) (Or.inl ⟨by rfl,?_⟩) (by assumption) ?_
     rotate_left 1
     ·intro w hSw;(try dsimp only at hSw);go_simp;(try with_reducible rfl)
     try simp only [Act.put,List.getElem_toArray,List.getElem_cons_succ,List.getElem_cons_zero,List.setIfInBounds_toArray,List.set_cons_zero,List.set_cons_succ]
     refine wpAnyH_take (i:=27) (v:=?_) rfl (by kernel_rfl) (by kernel_rfl) (by kernel_rfl) (fun _ _ _ h=>h) (Or.inl ⟨by rfl,?_⟩) (by assumption) ?_
     rotate_left 1
     ·intro w hSw;(try dsimp only at hSw);go_simp;(try with_reducible rfl)
     try simp only [Act.put,List.getElem_toArray,List.getElem_cons_succ,List.getElem_cons_zero,List.setIfInBounds_toArray,List.set_cons_zero,List.set_cons_succ]
     refine wpAnyH_take (i:=28) (v:=?_) rfl (by kernel_rfl) (by kernel_rfl) (by kernel_rfl) (fun _ _ _ h=>h) (Or.inl ⟨by rfl,?_⟩) (by assumption) ?_
     rotate_left 1
     ·intro w hSw;(try dsimp only at hSw);go_simp;(try with_reducible rfl)
     try simp only [Act.put,List.getElem_toArray,List.getElem_cons_succ,List.getElem_cons_zero,List.setIfInBounds_toArray,List.set_cons_zero,List.set_cons_succ]
     refine wpAnyH_done (by kernel_rfl) ?_ _
     have HB:=zH (HBV.out.trans (Below.mono hHeld.below HBV.out.size))
     clear hHeld kj1 kj2 kj3 kj4 HS
     go_wp2_with fail
     go_ret
     exact⟨by first | rfl | simp,HB.out⟩
end Go.Proofs.YtfaedmbfabfmeaaGreatDoor
