/- The walk of the law PolicyYounger: where it is a hit. · The walk of the law PolicyYounger: where it is none. · The walk of the law PolicyYounger. -/
import Derived.Test.YtfaedmbfabfmeaaGreatDoorZAwk14
import Derived.Test.YtfaedmbfabfmeaaGreatDoorZMBasP
import Derived.Deep.RegionHeld3
import Derived.IntWalk
set_option linter.unusedSimpArgs false
set_option maxRecDepth 100000
set_option maxHeartbeats 16000000
namespace Go.Proofs.YtfaedmbfabfmeaaGreatDoor
open Go.RowKit Go.Shelf Go.Lib
theorem pyounger_z1 (a l x y:Int) (b0 b1 b2 b3 b4 b5 b6 b7 c0 c1 c2 c3 c4 c5 c6 c7:Bool) (k0 k1 k2 k3 k4 m0 m1 m2 m3 m4:Int) (w:World) (hA:Alph w) (hT:Tabs w) (hC:Cal w) (g1:¬a<0) (g2:¬l<0) (g3:¬2147483648<a) (g4:¬2147483648<l) (g5:¬x<0) (g6:¬a<x) (g7:¬y<0) (g8:¬2147483648-l<y) (hj:judP_RuP a l ⟨b0,b1,b2,b3,b4,b5,b6,b7,k0,k1,k2,k3,k4⟩ ⟨c0,c1,c2,c3,c4,c5,c6,c7,m0,m1,m2,m3,m4⟩=0) (h9:a<l) :
  Calls Tryz.prog 6 #[.agg #[.int .i64 a,.int .i64 l],.agg #[.bool b0,.bool b1,.bool b2,.bool b3,.bool b4,.bool b5,.bool b6,.bool b7,.int .i64 k0,.int .i64 k1,.int .i64 k2,.int .i64 k3,.int .i64 k4,.bool c0,.bool c1,.bool c2,.bool c3,.bool c4,.bool c5,.bool c6,.bool c7,.int .i64 m0,.int .i64 m1,.int .i64 m2,.int .i64 m3,.int .i64 m4],.agg #[.int .i64 x,.int .i64 y]] w fun e w'=>e=.returned (.bool true)∧Below w.heap.size w w':=by
 have HC:=zH hC
 have HA:=zH hA
 have HTt:=zH hT
 have cA:=fun W (hb:Below w.heap.size w W)=>awake14_any W (Alph.below HA.out hb) (Utf8Tabs_below HTt.out hb) (Cal.below HC.out hb)
 clear hA hT hC
 obtain⟨W1,hW1⟩:∃W1,w.alloc (.cells #[.int .i64 a,.int .i64 l] 48)=W1:=⟨_,rfl⟩
 obtain⟨W2,hW2⟩:∃W2,W1.alloc (.cells #[.bool b0,.bool b1,.bool b2,.bool b3,.bool b4,.bool b5,.bool b6,.bool b7,.int .i64 k0,.int .i64 k1,.int .i64 k2,.int .i64 k3,.int .i64 k4,.bool c0,.bool c1,.bool c2,.bool c3,.bool c4,.bool c5,.bool c6,.bool c7,.int .i64 m0,.int .i64 m1,.int .i64 m2,.int .i64 m3,.int .i64 m4] 35)=W2:=⟨_,rfl⟩
 obtain⟨W3,hW3⟩:∃W3,W2.alloc (.cells #[.int .i64 x,.int .i64 y] 48)=W3:=⟨_,rfl⟩
 have s1:W1.heap.size=w.heap.size+1:=by rw [← hW1];simp
 have s2:W2.heap.size=w.heap.size+1+1:=by rw [← hW2];simp [s1]
 have be1:Below w.heap.size w W1:=by rw [← hW1];exact(Below.refl _ _).alloc (zR _) _
 have be2:Below W1.heap.size W1 W2:=by rw [← hW2];exact(Below.refl _ _).alloc (zR _) _
 have be3:Below W2.heap.size W2 W3:=by rw [← hW3];exact(Below.refl _ _).alloc (zR _) _
 have ht:BoxN W1 w.heap.size [.int .i64 a,.int .i64 l]:=by rw [← hW1];exact BoxN.made w [.int .i64 a,.int .i64 l] _
 have HT:=zH ((ht.next be2).next be3)
 have hl:BoxN W2 W1.heap.size [.bool b0,.bool b1,.bool b2,.bool b3,.bool b4,.bool b5,.bool b6,.bool b7,.int .i64 k0,.int .i64 k1,.int .i64 k2,.int .i64 k3,.int .i64 k4,.bool c0,.bool c1,.bool c2,.bool c3,.bool c4,.bool c5,.bool c6,.bool c7,.int .i64 m0,.int .i64 m1,.int .i64 m2,.int .i64 m3,.int .i64 m4]:=by rw [← hW2];exact BoxN.made W1 [.bool b0,.bool b1,.bool b2,.bool b3,.bool b4,.bool b5,.bool b6,.bool b7,.int .i64 k0,.int .i64 k1,.int .i64 k2,.int .i64 k3,.int .i64 k4,.bool c0,.bool c1,.bool c2,.bool c3,.bool c4,.bool c5,.bool c6,.bool c7,.int .i64 m0,.int .i64 m1,.int .i64 m2,.int .i64 m3,.int .i64 m4] _
 rw [s1]at hl
 have HL:=zH (hl.next be3)
 have hx:BoxN W3 W2.heap.size [.int .i64 x,.int .i64 y]:=by rw [← hW3];exact BoxN.made W2 [.int .i64 x,.int .i64 y] _
 rw [s2]at hx
 have HX:=zH hx
 have HB:=zH ((be1.trans (be2.mono be1.size)).trans (be3.mono (be1.trans (be2.mono be1.size)).size))
 have HW1:=zH hW1
 have HW2:=zH hW2
 have HW3:=zH hW3
 clear ht hl hx be1 be2 be3 s1 s2 hW1 hW2 hW3
 have cJ1:=fun W=>pjudge_any a l ⟨b0,b1,b2,b3,b4,b5,b6,b7,k0,k1,k2,k3,k4⟩ ⟨c0,c1,c2,c3,c4,c5,c6,c7,m0,m1,m2,m3,m4⟩ W (by omega) (by omega) (by omega) (by omega)
 have cJ2:=fun W=>pjudge_any (a-x) (l+y) ⟨b0,b1,b2,b3,b4,b5,b6,b7,k0,k1,k2,k3,k4⟩ ⟨c0,c1,c2,c3,c4,c5,c6,c7,m0,m1,m2,m3,m4⟩ W (by omega) (by omega) (by omega) (by omega)
 have cE1:=fun W=>ponerr_any a l ⟨b0,b1,b2,b3,b4,b5,b6,b7,k0,k1,k2,k3,k4⟩ W (by omega) (by omega) (by omega) (by omega)
 have cE2:=fun W=>ponerr_any (a-x) (l+y) ⟨b0,b1,b2,b3,b4,b5,b6,b7,k0,k1,k2,k3,k4⟩ W (by omega) (by omega) (by omega) (by omega)
 have f1:=jud_younger_RuP a l x y ⟨b0,b1,b2,b3,b4,b5,b6,b7,k0,k1,k2,k3,k4⟩ ⟨c0,c1,c2,c3,c4,c5,c6,c7,m0,m1,m2,m3,m4⟩ (by omega) (by omega)
 have f2:=jud_in_RuP a l ⟨b0,b1,b2,b3,b4,b5,b6,b7,k0,k1,k2,k3,k4⟩ ⟨c0,c1,c2,c3,c4,c5,c6,c7,m0,m1,m2,m3,m4⟩
 have f3:=jud_immutable_RuP a l ⟨b0,b1,b2,b3,b4,b5,b6,b7,k0,k1,k2,k3,k4⟩ ⟨c0,c1,c2,c3,c4,c5,c6,c7,m0,m1,m2,m3,m4⟩
 have f4:=err_younger_RuP a l x y ⟨b0,b1,b2,b3,b4,b5,b6,b7,k0,k1,k2,k3,k4⟩ (by omega) (by omega)
 have f5:=err_hit_RuP a l ⟨b0,b1,b2,b3,b4,b5,b6,b7,k0,k1,k2,k3,k4⟩ ⟨c0,c1,c2,c3,c4,c5,c6,c7,m0,m1,m2,m3,m4⟩
 dsimp only [Ru_RuP.v]at cJ1 cJ2 cE1 cE2 f3
 generalize judP_RuP a l ⟨b0,b1,b2,b3,b4,b5,b6,b7,k0,k1,k2,k3,k4⟩ ⟨c0,c1,c2,c3,c4,c5,c6,c7,m0,m1,m2,m3,m4⟩=J1 at *
 generalize judP_RuP (a-x) (l+y) ⟨b0,b1,b2,b3,b4,b5,b6,b7,k0,k1,k2,k3,k4⟩ ⟨c0,c1,c2,c3,c4,c5,c6,c7,m0,m1,m2,m3,m4⟩=J2 at *
 generalize errP_RuP a l ⟨b0,b1,b2,b3,b4,b5,b6,b7,k0,k1,k2,k3,k4⟩=E1 at *
 generalize errP_RuP (a-x) (l+y) ⟨b0,b1,b2,b3,b4,b5,b6,b7,k0,k1,k2,k3,k4⟩=E2 at *
 have e2:=f1 hj
 subst hj e2
 obtain rfl:E1=true:=f5 rfl h9
 obtain rfl:E2=true:=f4 rfl
 cases b6
 ·go_enter Tryz.func6,Tryz.ntmps6
  go_wp2_with fail
  rw [HW1.out,HW2.out,HW3.out]
  refine(cA _ HB.out).mono ?_
  rintro e w1 ⟨rfl,hb⟩
  clear HW1 HW2 HW3 cA
  replace HT:=zH (HT.out.next hb)
  replace HL:=zH (HL.out.next hb)
  replace HX:=zH (HX.out.next hb)
  replace HB:=zH (HB.out.trans (hb.mono HB.out.size))
  clear hb
  have tf0:=(HT.out.2 0 _ rfl).1
  have tf1:=(HT.out.2 1 _ rfl).1
  have lf0:=(HL.out.2 0 _ rfl).1
  have lf1:=(HL.out.2 1 _ rfl).1
  have lf2:=(HL.out.2 2 _ rfl).1
  have lf3:=(HL.out.2 3 _ rfl).1
  have lf4:=(HL.out.2 4 _ rfl).1
  have lf5:=(HL.out.2 5 _ rfl).1
  have lf6:=(HL.out.2 6 _ rfl).1
  have lf7:=(HL.out.2 7 _ rfl).1
  have lf8:=(HL.out.2 8 _ rfl).1
  have lf9:=(HL.out.2 9 _ rfl).1
  have lf10:=(HL.out.2 10 _ rfl).1
  have lf11:=(HL.out.2 11 _ rfl).1
  have lf12:=(HL.out.2 12 _ rfl).1
  have lf13:=(HL.out.2 13 _ rfl).1
  have lf14:=(HL.out.2 14 _ rfl).1
  have lf15:=(HL.out.2 15 _ rfl).1
  have lf16:=(HL.out.2 16 _ rfl).1
  have lf17:=(HL.out.2 17 _ rfl).1
  have lf18:=(HL.out.2 18 _ rfl).1
  have lf19:=(HL.out.2 19 _ rfl).1
  have lf20:=(HL.out.2 20 _ rfl).1
  have lf21:=(HL.out.2 21 _ rfl).1
  have lf22:=(HL.out.2 22 _ rfl).1
  have lf23:=(HL.out.2 23 _ rfl).1
  have lf24:=(HL.out.2 24 _ rfl).1
  have lf25:=(HL.out.2 25 _ rfl).1
  have xf0:=(HX.out.2 0 _ rfl).1
  have xf1:=(HX.out.2 1 _ rfl).1
  go_wp2_with fail
  refine(cJ1 _).mono ?_
  rintro e w2 ⟨rfl,hb⟩
  clear tf0 tf1
  clear lf0 lf1 lf2 lf3 lf4 lf5 lf6 lf7 lf8 lf9 lf10 lf11 lf12 lf13 lf14 lf15 lf16 lf17 lf18 lf19 lf20 lf21 lf22 lf23 lf24 lf25
  clear xf0 xf1
  replace HT:=zH (HT.out.next hb)
  replace HL:=zH (HL.out.next hb)
  replace HX:=zH (HX.out.next hb)
  replace HB:=zH (HB.out.trans (hb.mono HB.out.size))
  clear hb
  have tf0:=(HT.out.2 0 _ rfl).1
  have tf1:=(HT.out.2 1 _ rfl).1
  have lf0:=(HL.out.2 0 _ rfl).1
  have lf1:=(HL.out.2 1 _ rfl).1
  have lf2:=(HL.out.2 2 _ rfl).1
  have lf3:=(HL.out.2 3 _ rfl).1
  have lf4:=(HL.out.2 4 _ rfl).1
  have lf5:=(HL.out.2 5 _ rfl).1
  have lf6:=(HL.out.2 6 _ rfl).1
  have lf7:=(HL.out.2 7 _ rfl).1
  have lf8:=(HL.out.2 8 _ rfl).1
  have lf9:=(HL.out.2 9 _ rfl).1
  have lf10:=(HL.out.2 10 _ rfl).1
  have lf11:=(HL.out.2 11 _ rfl).1
  have lf12:=(HL.out.2 12 _ rfl).1
  have lf13:=(HL.out.2 13 _ rfl).1
  have lf14:=(HL.out.2 14 _ rfl).1
  have lf15:=(HL.out.2 15 _ rfl).1
  have lf16:=(HL.out.2 16 _ rfl).1
  have lf17:=(HL.out.2 17 _ rfl).1
  have lf18:=(HL.out.2 18 _ rfl).1
  have lf19:=(HL.out.2 19 _ rfl).1
  have lf20:=(HL.out.2 20 _ rfl).1
  have lf21:=(HL.out.2 21 _ rfl).1
  have lf22:=(HL.out.2 22 _ rfl).1
  have lf23:=(HL.out.2 23 _ rfl).1
  have lf24:=(HL.out.2 24 _ rfl).1
  have lf25:=(HL.out.2 25 _ rfl).1
  have xf0:=(HX.out.2 0 _ rfl).1
  have xf1:=(HX.out.2 1 _ rfl).1
  go_wp2_with fail
  refine(cJ2 _).mono ?_
  rintro e w3 ⟨rfl,hb⟩
  clear tf0 tf1
  clear lf0 lf1 lf2 lf3 lf4 lf5 lf6 lf7 lf8 lf9 lf10 lf11 lf12 lf13 lf14 lf15 lf16 lf17 lf18 lf19 lf20 lf21 lf22 lf23 lf24 lf25
  clear xf0 xf1
  replace HT:=zH (HT.out.next hb)
  replace HL:=zH (HL.out.next hb)
  replace HX:=zH (HX.out.next hb)
  replace HB:=zH (HB.out.trans (hb.mono HB.out.size))
  clear hb
  have tf0:=(HT.out.2 0 _ rfl).1
  have tf1:=(HT.out.2 1 _ rfl).1
  have lf0:=(HL.out.2 0 _ rfl).1
  have lf1:=(HL.out.2 1 _ rfl).1
  have lf2:=(HL.out.2 2 _ rfl).1
  have lf3:=(HL.out.2 3 _ rfl).1
  have lf4:=(HL.out.2 4 _ rfl).1
  have lf5:=(HL.out.2 5 _ rfl).1
  have lf6:=(HL.out.2 6 _ rfl).1
  have lf7:=(HL.out.2 7 _ rfl).1
  have lf8:=(HL.out.2 8 _ rfl).1
  have lf9:=(HL.out.2 9 _ rfl).1
  have lf10:=(HL.out.2 10 _ rfl).1
  have lf11:=(HL.out.2 11 _ rfl).1
  have lf12:=(HL.out.2 12 _ rfl).1
  have lf13:=(HL.out.2 13 _ rfl).1
  have lf14:=(HL.out.2 14 _ rfl).1
  have lf15:=(HL.out.2 15 _ rfl).1
  have lf16:=(HL.out.2 16 _ rfl).1
  have lf17:=(HL.out.2 17 _ rfl).1
  have lf18:=(HL.out.2 18 _ rfl).1
  have lf19:=(HL.out.2 19 _ rfl).1
  have lf20:=(HL.out.2 20 _ rfl).1
  have lf21:=(HL.out.2 21 _ rfl).1
  have lf22:=(HL.out.2 22 _ rfl).1
  have lf23:=(HL.out.2 23 _ rfl).1
  have lf24:=(HL.out.2 24 _ rfl).1
  have lf25:=(HL.out.2 25 _ rfl).1
  have xf0:=(HX.out.2 0 _ rfl).1
  have xf1:=(HX.out.2 1 _ rfl).1
  go_wp2_with fail
  refine(cE1 _).mono ?_
  rintro e w4 ⟨rfl,hb⟩
  clear tf0 tf1
  clear lf0 lf1 lf2 lf3 lf4 lf5 lf6 lf7 lf8 lf9 lf10 lf11 lf12 lf13 lf14 lf15 lf16 lf17 lf18 lf19 lf20 lf21 lf22 lf23 lf24 lf25
  clear xf0 xf1
  replace HT:=zH (HT.out.next hb)
  replace HL:=zH (HL.out.next hb)
  replace HX:=zH (HX.out.next hb)
  replace HB:=zH (HB.out.trans (hb.mono HB.out.size))
  clear hb
  have tf0:=(HT.out.2 0 _ rfl).1
  have tf1:=(HT.out.2 1 _ rfl).1
  have lf0:=(HL.out.2 0 _ rfl).1
  have lf1:=(HL.out.2 1 _ rfl).1
  have lf2:=(HL.out.2 2 _ rfl).1
  have lf3:=(HL.out.2 3 _ rfl).1
  have lf4:=(HL.out.2 4 _ rfl).1
  have lf5:=(HL.out.2 5 _ rfl).1
  have lf6:=(HL.out.2 6 _ rfl).1
  have lf7:=(HL.out.2 7 _ rfl).1
  have lf8:=(HL.out.2 8 _ rfl).1
  have lf9:=(HL.out.2 9 _ rfl).1
  have lf10:=(HL.out.2 10 _ rfl).1
  have lf11:=(HL.out.2 11 _ rfl).1
  have lf12:=(HL.out.2 12 _ rfl).1
  have lf13:=(HL.out.2 13 _ rfl).1
  have lf14:=(HL.out.2 14 _ rfl).1
  have lf15:=(HL.out.2 15 _ rfl).1
  have lf16:=(HL.out.2 16 _ rfl).1
  have lf17:=(HL.out.2 17 _ rfl).1
  have lf18:=(HL.out.2 18 _ rfl).1
  have lf19:=(HL.out.2 19 _ rfl).1
  have lf20:=(HL.out.2 20 _ rfl).1
  have lf21:=(HL.out.2 21 _ rfl).1
  have lf22:=(HL.out.2 22 _ rfl).1
  have lf23:=(HL.out.2 23 _ rfl).1
  have lf24:=(HL.out.2 24 _ rfl).1
  have lf25:=(HL.out.2 25 _ rfl).1
  have xf0:=(HX.out.2 0 _ rfl).1
  have xf1:=(HX.out.2 1 _ rfl).1
  go_wp2_with fail
  refine(cE2 _).mono ?_
  rintro e w5 ⟨rfl,hb⟩
  clear tf0 tf1
  clear lf0 lf1 lf2 lf3 lf4 lf5 lf6 lf7 lf8 lf9 lf10 lf11 lf12 lf13 lf14 lf15 lf16 lf17 lf18 lf19 lf20 lf21 lf22 lf23 lf24 lf25
  clear xf0 xf1
  replace HT:=zH (HT.out.next hb)
  replace HL:=zH (HL.out.next hb)
  replace HX:=zH (HX.out.next hb)
  replace HB:=zH (HB.out.trans (hb.mono HB.out.size))
  clear hb
  have tf0:=(HT.out.2 0 _ rfl).1
  have tf1:=(HT.out.2 1 _ rfl).1
  have lf0:=(HL.out.2 0 _ rfl).1
  have lf1:=(HL.out.2 1 _ rfl).1
  have lf2:=(HL.out.2 2 _ rfl).1
  have lf3:=(HL.out.2 3 _ rfl).1
  have lf4:=(HL.out.2 4 _ rfl).1
  have lf5:=(HL.out.2 5 _ rfl).1
  have lf6:=(HL.out.2 6 _ rfl).1
  have lf7:=(HL.out.2 7 _ rfl).1
  have lf8:=(HL.out.2 8 _ rfl).1
  have lf9:=(HL.out.2 9 _ rfl).1
  have lf10:=(HL.out.2 10 _ rfl).1
  have lf11:=(HL.out.2 11 _ rfl).1
  have lf12:=(HL.out.2 12 _ rfl).1
  have lf13:=(HL.out.2 13 _ rfl).1
  have lf14:=(HL.out.2 14 _ rfl).1
  have lf15:=(HL.out.2 15 _ rfl).1
  have lf16:=(HL.out.2 16 _ rfl).1
  have lf17:=(HL.out.2 17 _ rfl).1
  have lf18:=(HL.out.2 18 _ rfl).1
  have lf19:=(HL.out.2 19 _ rfl).1
  have lf20:=(HL.out.2 20 _ rfl).1
  have lf21:=(HL.out.2 21 _ rfl).1
  have lf22:=(HL.out.2 22 _ rfl).1
  have lf23:=(HL.out.2 23 _ rfl).1
  have lf24:=(HL.out.2 24 _ rfl).1
  have lf25:=(HL.out.2 25 _ rfl).1
  have xf0:=(HX.out.2 0 _ rfl).1
  have xf1:=(HX.out.2 1 _ rfl).1
  go_wp2_with fail
  go_ret
  exact⟨by first | rfl | simp,HB.out⟩
 ·cases b1
  ·go_enter Tryz.func6,Tryz.ntmps6
   go_wp2_with fail
   rw [HW1.out,HW2.out,HW3.out]
   refine(cA _ HB.out).mono ?_
   rintro e w1 ⟨rfl,hb⟩
   clear HW1 HW2 HW3 cA
   replace HT:=zH (HT.out.next hb)
   replace HL:=zH (HL.out.next hb)
   replace HX:=zH (HX.out.next hb)
   replace HB:=zH (HB.out.trans (hb.mono HB.out.size))
   clear hb
   have tf0:=(HT.out.2 0 _ rfl).1
   have tf1:=(HT.out.2 1 _ rfl).1
   have lf0:=(HL.out.2 0 _ rfl).1
   have lf1:=(HL.out.2 1 _ rfl).1
   have lf2:=(HL.out.2 2 _ rfl).1
   have lf3:=(HL.out.2 3 _ rfl).1
   have lf4:=(HL.out.2 4 _ rfl).1
   have lf5:=(HL.out.2 5 _ rfl).1
   have lf6:=(HL.out.2 6 _ rfl).1
   have lf7:=(HL.out.2 7 _ rfl).1
   have lf8:=(HL.out.2 8 _ rfl).1
   have lf9:=(HL.out.2 9 _ rfl).1
   have lf10:=(HL.out.2 10 _ rfl).1
   have lf11:=(HL.out.2 11 _ rfl).1
   have lf12:=(HL.out.2 12 _ rfl).1
   have lf13:=(HL.out.2 13 _ rfl).1
   have lf14:=(HL.out.2 14 _ rfl).1
   have lf15:=(HL.out.2 15 _ rfl).1
   have lf16:=(HL.out.2 16 _ rfl).1
   have lf17:=(HL.out.2 17 _ rfl).1
   have lf18:=(HL.out.2 18 _ rfl).1
   have lf19:=(HL.out.2 19 _ rfl).1
   have lf20:=(HL.out.2 20 _ rfl).1
   have lf21:=(HL.out.2 21 _ rfl).1
   have lf22:=(HL.out.2 22 _ rfl).1
   have lf23:=(HL.out.2 23 _ rfl).1
   have lf24:=(HL.out.2 24 _ rfl).1
   have lf25:=(HL.out.2 25 _ rfl).1
   have xf0:=(HX.out.2 0 _ rfl).1
   have xf1:=(HX.out.2 1 _ rfl).1
   go_wp2_with fail
   refine(cJ1 _).mono ?_
   rintro e w2 ⟨rfl,hb⟩
   clear tf0 tf1
   clear lf0 lf1 lf2 lf3 lf4 lf5 lf6 lf7 lf8 lf9 lf10 lf11 lf12 lf13 lf14 lf15 lf16 lf17 lf18 lf19 lf20 lf21 lf22 lf23 lf24 lf25
   clear xf0 xf1
   replace HT:=zH (HT.out.next hb)
   replace HL:=zH (HL.out.next hb)
   replace HX:=zH (HX.out.next hb)
   replace HB:=zH (HB.out.trans (hb.mono HB.out.size))
   clear hb
   have tf0:=(HT.out.2 0 _ rfl).1
   have tf1:=(HT.out.2 1 _ rfl).1
   have lf0:=(HL.out.2 0 _ rfl).1
   have lf1:=(HL.out.2 1 _ rfl).1
   have lf2:=(HL.out.2 2 _ rfl).1
   have lf3:=(HL.out.2 3 _ rfl).1
   have lf4:=(HL.out.2 4 _ rfl).1
   have lf5:=(HL.out.2 5 _ rfl).1
   have lf6:=(HL.out.2 6 _ rfl).1
   have lf7:=(HL.out.2 7 _ rfl).1
   have lf8:=(HL.out.2 8 _ rfl).1
   have lf9:=(HL.out.2 9 _ rfl).1
   have lf10:=(HL.out.2 10 _ rfl).1
   have lf11:=(HL.out.2 11 _ rfl).1
   have lf12:=(HL.out.2 12 _ rfl).1
   have lf13:=(HL.out.2 13 _ rfl).1
   have lf14:=(HL.out.2 14 _ rfl).1
   have lf15:=(HL.out.2 15 _ rfl).1
   have lf16:=(HL.out.2 16 _ rfl).1
   have lf17:=(HL.out.2 17 _ rfl).1
   have lf18:=(HL.out.2 18 _ rfl).1
   have lf19:=(HL.out.2 19 _ rfl).1
   have lf20:=(HL.out.2 20 _ rfl).1
   have lf21:=(HL.out.2 21 _ rfl).1
   have lf22:=(HL.out.2 22 _ rfl).1
   have lf23:=(HL.out.2 23 _ rfl).1
   have lf24:=(HL.out.2 24 _ rfl).1
   have lf25:=(HL.out.2 25 _ rfl).1
   have xf0:=(HX.out.2 0 _ rfl).1
   have xf1:=(HX.out.2 1 _ rfl).1
   go_wp2_with fail
   refine(cJ2 _).mono ?_
   rintro e w3 ⟨rfl,hb⟩
   clear tf0 tf1
   clear lf0 lf1 lf2 lf3 lf4 lf5 lf6 lf7 lf8 lf9 lf10 lf11 lf12 lf13 lf14 lf15 lf16 lf17 lf18 lf19 lf20 lf21 lf22 lf23 lf24 lf25
   clear xf0 xf1
   replace HT:=zH (HT.out.next hb)
   replace HL:=zH (HL.out.next hb)
   replace HX:=zH (HX.out.next hb)
   replace HB:=zH (HB.out.trans (hb.mono HB.out.size))
   clear hb
   have tf0:=(HT.out.2 0 _ rfl).1
   have tf1:=(HT.out.2 1 _ rfl).1
   have lf0:=(HL.out.2 0 _ rfl).1
   have lf1:=(HL.out.2 1 _ rfl).1
   have lf2:=(HL.out.2 2 _ rfl).1
   have lf3:=(HL.out.2 3 _ rfl).1
   have lf4:=(HL.out.2 4 _ rfl).1
   have lf5:=(HL.out.2 5 _ rfl).1
   have lf6:=(HL.out.2 6 _ rfl).1
   have lf7:=(HL.out.2 7 _ rfl).1
   have lf8:=(HL.out.2 8 _ rfl).1
   have lf9:=(HL.out.2 9 _ rfl).1
   have lf10:=(HL.out.2 10 _ rfl).1
   have lf11:=(HL.out.2 11 _ rfl).1
   have lf12:=(HL.out.2 12 _ rfl).1
   have lf13:=(HL.out.2 13 _ rfl).1
   have lf14:=(HL.out.2 14 _ rfl).1
   have lf15:=(HL.out.2 15 _ rfl).1
   have lf16:=(HL.out.2 16 _ rfl).1
   have lf17:=(HL.out.2 17 _ rfl).1
   have lf18:=(HL.out.2 18 _ rfl).1
   have lf19:=(HL.out.2 19 _ rfl).1
   have lf20:=(HL.out.2 20 _ rfl).1
   have lf21:=(HL.out.2 21 _ rfl).1
   have lf22:=(HL.out.2 22 _ rfl).1
   have lf23:=(HL.out.2 23 _ rfl).1
   have lf24:=(HL.out.2 24 _ rfl).1
   have lf25:=(HL.out.2 25 _ rfl).1
   have xf0:=(HX.out.2 0 _ rfl).1
   have xf1:=(HX.out.2 1 _ rfl).1
   go_wp2_with fail
   refine(cE1 _).mono ?_
   rintro e w4 ⟨rfl,hb⟩
   clear tf0 tf1
   clear lf0 lf1 lf2 lf3 lf4 lf5 lf6 lf7 lf8 lf9 lf10 lf11 lf12 lf13 lf14 lf15 lf16 lf17 lf18 lf19 lf20 lf21 lf22 lf23 lf24 lf25
   clear xf0 xf1
   replace HT:=zH (HT.out.next hb)
   replace HL:=zH (HL.out.next hb)
   replace HX:=zH (HX.out.next hb)
   replace HB:=zH (HB.out.trans (hb.mono HB.out.size))
   clear hb
   have tf0:=(HT.out.2 0 _ rfl).1
   have tf1:=(HT.out.2 1 _ rfl).1
   have lf0:=(HL.out.2 0 _ rfl).1
   have lf1:=(HL.out.2 1 _ rfl).1
   have lf2:=(HL.out.2 2 _ rfl).1
   have lf3:=(HL.out.2 3 _ rfl).1
   have lf4:=(HL.out.2 4 _ rfl).1
   have lf5:=(HL.out.2 5 _ rfl).1
   have lf6:=(HL.out.2 6 _ rfl).1
   have lf7:=(HL.out.2 7 _ rfl).1
   have lf8:=(HL.out.2 8 _ rfl).1
   have lf9:=(HL.out.2 9 _ rfl).1
   have lf10:=(HL.out.2 10 _ rfl).1
   have lf11:=(HL.out.2 11 _ rfl).1
   have lf12:=(HL.out.2 12 _ rfl).1
   have lf13:=(HL.out.2 13 _ rfl).1
   have lf14:=(HL.out.2 14 _ rfl).1
   have lf15:=(HL.out.2 15 _ rfl).1
   have lf16:=(HL.out.2 16 _ rfl).1
   have lf17:=(HL.out.2 17 _ rfl).1
   have lf18:=(HL.out.2 18 _ rfl).1
   have lf19:=(HL.out.2 19 _ rfl).1
   have lf20:=(HL.out.2 20 _ rfl).1
   have lf21:=(HL.out.2 21 _ rfl).1
   have lf22:=(HL.out.2 22 _ rfl).1
   have lf23:=(HL.out.2 23 _ rfl).1
   have lf24:=(HL.out.2 24 _ rfl).1
   have lf25:=(HL.out.2 25 _ rfl).1
   have xf0:=(HX.out.2 0 _ rfl).1
   have xf1:=(HX.out.2 1 _ rfl).1
   go_wp2_with fail
   refine(cE2 _).mono ?_
   rintro e w5 ⟨rfl,hb⟩
   clear tf0 tf1
   clear lf0 lf1 lf2 lf3 lf4 lf5 lf6 lf7 lf8 lf9 lf10 lf11 lf12 lf13 lf14 lf15 lf16 lf17 lf18 lf19 lf20 lf21 lf22 lf23 lf24 lf25
   clear xf0 xf1
   replace HT:=zH (HT.out.next hb)
   replace HL:=zH (HL.out.next hb)
   replace HX:=zH (HX.out.next hb)
   replace HB:=zH (HB.out.trans (hb.mono HB.out.size))
   clear hb
   have tf0:=(HT.out.2 0 _ rfl).1
   have tf1:=(HT.out.2 1 _ rfl).1
   have lf0:=(HL.out.2 0 _ rfl).1
   have lf1:=(HL.out.2 1 _ rfl).1
   have lf2:=(HL.out.2 2 _ rfl).1
   have lf3:=(HL.out.2 3 _ rfl).1
   have lf4:=(HL.out.2 4 _ rfl).1
   have lf5:=(HL.out.2 5 _ rfl).1
   have lf6:=(HL.out.2 6 _ rfl).1
   have lf7:=(HL.out.2 7 _ rfl).1
   have lf8:=(HL.out.2 8 _ rfl).1
   have lf9:=(HL.out.2 9 _ rfl).1
   have lf10:=(HL.out.2 10 _ rfl).1
   have lf11:=(HL.out.2 11 _ rfl).1
   have lf12:=(HL.out.2 12 _ rfl).1
   have lf13:=(HL.out.2 13 _ rfl).1
   have lf14:=(HL.out.2 14 _ rfl).1
   have lf15:=(HL.out.2 15 _ rfl).1
   have lf16:=(HL.out.2 16 _ rfl).1
   have lf17:=(HL.out.2 17 _ rfl).1
   have lf18:=(HL.out.2 18 _ rfl).1
   have lf19:=(HL.out.2 19 _ rfl).1
   have lf20:=(HL.out.2 20 _ rfl).1
   have lf21:=(HL.out.2 21 _ rfl).1
   have lf22:=(HL.out.2 22 _ rfl).1
   have lf23:=(HL.out.2 23 _ rfl).1
   have lf24:=(HL.out.2 24 _ rfl).1
   have lf25:=(HL.out.2 25 _ rfl).1
   have xf0:=(HX.out.2 0 _ rfl).1
   have xf1:=(HX.out.2 1 _ rfl).1
   go_wp2_with fail
   go_ret
   exact⟨by first | rfl | simp,HB.out⟩
  ·go_enter Tryz.func6,Tryz.ntmps6
   go_wp2_with fail
   rw [HW1.out,HW2.out,HW3.out]
   refine(cA _ HB.out).mono ?_
   rintro e w1 ⟨rfl,hb⟩
   clear HW1 HW2 HW3 cA
   replace HT:=zH (HT.out.next hb)
   replace HL:=zH (HL.out.next hb)
   replace HX:=zH (HX.out.next hb)
   replace HB:=zH (HB.out.trans (hb.mono HB.out.size))
   clear hb
   have tf0:=(HT.out.2 0 _ rfl).1
   have tf1:=(HT.out.2 1 _ rfl).1
   have lf0:=(HL.out.2 0 _ rfl).1
   have lf1:=(HL.out.2 1 _ rfl).1
   have lf2:=(HL.out.2 2 _ rfl).1
   have lf3:=(HL.out.2 3 _ rfl).1
   have lf4:=(HL.out.2 4 _ rfl).1
   have lf5:=(HL.out.2 5 _ rfl).1
   have lf6:=(HL.out.2 6 _ rfl).1
   have lf7:=(HL.out.2 7 _ rfl).1
   have lf8:=(HL.out.2 8 _ rfl).1
   have lf9:=(HL.out.2 9 _ rfl).1
   have lf10:=(HL.out.2 10 _ rfl).1
   have lf11:=(HL.out.2 11 _ rfl).1
   have lf12:=(HL.out.2 12 _ rfl).1
   have lf13:=(HL.out.2 13 _ rfl).1
   have lf14:=(HL.out.2 14 _ rfl).1
   have lf15:=(HL.out.2 15 _ rfl).1
   have lf16:=(HL.out.2 16 _ rfl).1
   have lf17:=(HL.out.2 17 _ rfl).1
   have lf18:=(HL.out.2 18 _ rfl).1
   have lf19:=(HL.out.2 19 _ rfl).1
   have lf20:=(HL.out.2 20 _ rfl).1
   have lf21:=(HL.out.2 21 _ rfl).1
   have lf22:=(HL.out.2 22 _ rfl).1
   have lf23:=(HL.out.2 23 _ rfl).1
   have lf24:=(HL.out.2 24 _ rfl).1
   have lf25:=(HL.out.2 25 _ rfl).1
   have xf0:=(HX.out.2 0 _ rfl).1
   have xf1:=(HX.out.2 1 _ rfl).1
   go_wp2_with fail
   refine(cJ1 _).mono ?_
   rintro e w2 ⟨rfl,hb⟩
   clear tf0 tf1
   clear lf0 lf1 lf2 lf3 lf4 lf5 lf6 lf7 lf8 lf9 lf10 lf11 lf12 lf13 lf14 lf15 lf16 lf17 lf18 lf19 lf20 lf21 lf22 lf23 lf24 lf25
   clear xf0 xf1
   replace HT:=zH (HT.out.next hb)
   replace HL:=zH (HL.out.next hb)
   replace HX:=zH (HX.out.next hb)
   replace HB:=zH (HB.out.trans (hb.mono HB.out.size))
   clear hb
   have tf0:=(HT.out.2 0 _ rfl).1
   have tf1:=(HT.out.2 1 _ rfl).1
   have lf0:=(HL.out.2 0 _ rfl).1
   have lf1:=(HL.out.2 1 _ rfl).1
   have lf2:=(HL.out.2 2 _ rfl).1
   have lf3:=(HL.out.2 3 _ rfl).1
   have lf4:=(HL.out.2 4 _ rfl).1
   have lf5:=(HL.out.2 5 _ rfl).1
   have lf6:=(HL.out.2 6 _ rfl).1
   have lf7:=(HL.out.2 7 _ rfl).1
   have lf8:=(HL.out.2 8 _ rfl).1
   have lf9:=(HL.out.2 9 _ rfl).1
   have lf10:=(HL.out.2 10 _ rfl).1
   have lf11:=(HL.out.2 11 _ rfl).1
   have lf12:=(HL.out.2 12 _ rfl).1
   have lf13:=(HL.out.2 13 _ rfl).1
   have lf14:=(HL.out.2 14 _ rfl).1
   have lf15:=(HL.out.2 15 _ rfl).1
   have lf16:=(HL.out.2 16 _ rfl).1
   have lf17:=(HL.out.2 17 _ rfl).1
   have lf18:=(HL.out.2 18 _ rfl).1
   have lf19:=(HL.out.2 19 _ rfl).1
   have lf20:=(HL.out.2 20 _ rfl).1
   have lf21:=(HL.out.2 21 _ rfl).1
   have lf22:=(HL.out.2 22 _ rfl).1
   have lf23:=(HL.out.2 23 _ rfl).1
   have lf24:=(HL.out.2 24 _ rfl).1
   have lf25:=(HL.out.2 25 _ rfl).1
   have xf0:=(HX.out.2 0 _ rfl).1
   have xf1:=(HX.out.2 1 _ rfl).1
   go_wp2_with fail
   refine(cJ2 _).mono ?_
   rintro e w3 ⟨rfl,hb⟩
   clear tf0 tf1
   clear lf0 lf1 lf2 lf3 lf4 lf5 lf6 lf7 lf8 lf9 lf10 lf11 lf12 lf13 lf14 lf15 lf16 lf17 lf18 lf19 lf20 lf21 lf22 lf23 lf24 lf25
   clear xf0 xf1
   replace HT:=zH (HT.out.next hb)
   replace HL:=zH (HL.out.next hb)
   replace HX:=zH (HX.out.next hb)
   replace HB:=zH (HB.out.trans (hb.mono HB.out.size))
   clear hb
   have tf0:=(HT.out.2 0 _ rfl).1
   have tf1:=(HT.out.2 1 _ rfl).1
   have lf0:=(HL.out.2 0 _ rfl).1
   have lf1:=(HL.out.2 1 _ rfl).1
   have lf2:=(HL.out.2 2 _ rfl).1
   have lf3:=(HL.out.2 3 _ rfl).1
   have lf4:=(HL.out.2 4 _ rfl).1
   have lf5:=(HL.out.2 5 _ rfl).1
   have lf6:=(HL.out.2 6 _ rfl).1
   have lf7:=(HL.out.2 7 _ rfl).1
   have lf8:=(HL.out.2 8 _ rfl).1
   have lf9:=(HL.out.2 9 _ rfl).1
   have lf10:=(HL.out.2 10 _ rfl).1
   have lf11:=(HL.out.2 11 _ rfl).1
   have lf12:=(HL.out.2 12 _ rfl).1
   have lf13:=(HL.out.2 13 _ rfl).1
   have lf14:=(HL.out.2 14 _ rfl).1
   have lf15:=(HL.out.2 15 _ rfl).1
   have lf16:=(HL.out.2 16 _ rfl).1
   have lf17:=(HL.out.2 17 _ rfl).1
   have lf18:=(HL.out.2 18 _ rfl).1
   have lf19:=(HL.out.2 19 _ rfl).1
   have lf20:=(HL.out.2 20 _ rfl).1
   have lf21:=(HL.out.2 21 _ rfl).1
   have lf22:=(HL.out.2 22 _ rfl).1
   have lf23:=(HL.out.2 23 _ rfl).1
   have lf24:=(HL.out.2 24 _ rfl).1
   have lf25:=(HL.out.2 25 _ rfl).1
   have xf0:=(HX.out.2 0 _ rfl).1
   have xf1:=(HX.out.2 1 _ rfl).1
   go_wp2_with fail
   refine(cE1 _).mono ?_
   rintro e w4 ⟨rfl,hb⟩
   clear tf0 tf1
   clear lf0 lf1 lf2 lf3 lf4 lf5 lf6 lf7 lf8 lf9 lf10 lf11 lf12 lf13 lf14 lf15 lf16 lf17 lf18 lf19 lf20 lf21 lf22 lf23 lf24 lf25
   clear xf0 xf1
   replace HT:=zH (HT.out.next hb)
   replace HL:=zH (HL.out.next hb)
   replace HX:=zH (HX.out.next hb)
   replace HB:=zH (HB.out.trans (hb.mono HB.out.size))
   clear hb
   have tf0:=(HT.out.2 0 _ rfl).1
   have tf1:=(HT.out.2 1 _ rfl).1
   have lf0:=(HL.out.2 0 _ rfl).1
   have lf1:=(HL.out.2 1 _ rfl).1
   have lf2:=(HL.out.2 2 _ rfl).1
   have lf3:=(HL.out.2 3 _ rfl).1
   have lf4:=(HL.out.2 4 _ rfl).1
   have lf5:=(HL.out.2 5 _ rfl).1
   have lf6:=(HL.out.2 6 _ rfl).1
   have lf7:=(HL.out.2 7 _ rfl).1
   have lf8:=(HL.out.2 8 _ rfl).1
   have lf9:=(HL.out.2 9 _ rfl).1
   have lf10:=(HL.out.2 10 _ rfl).1
   have lf11:=(HL.out.2 11 _ rfl).1
   have lf12:=(HL.out.2 12 _ rfl).1
   have lf13:=(HL.out.2 13 _ rfl).1
   have lf14:=(HL.out.2 14 _ rfl).1
   have lf15:=(HL.out.2 15 _ rfl).1
   have lf16:=(HL.out.2 16 _ rfl).1
   have lf17:=(HL.out.2 17 _ rfl).1
   have lf18:=(HL.out.2 18 _ rfl).1
   have lf19:=(HL.out.2 19 _ rfl).1
   have lf20:=(HL.out.2 20 _ rfl).1
   have lf21:=(HL.out.2 21 _ rfl).1
   have lf22:=(HL.out.2 22 _ rfl).1
   have lf23:=(HL.out.2 23 _ rfl).1
   have lf24:=(HL.out.2 24 _ rfl).1
   have lf25:=(HL.out.2 25 _ rfl).1
   have xf0:=(HX.out.2 0 _ rfl).1
   have xf1:=(HX.out.2 1 _ rfl).1
   go_wp2_with fail
   refine(cE2 _).mono ?_
   rintro e w5 ⟨rfl,hb⟩
   clear tf0 tf1
   clear lf0 lf1 lf2 lf3 lf4 lf5 lf6 lf7 lf8 lf9 lf10 lf11 lf12 lf13 lf14 lf15 lf16 lf17 lf18 lf19 lf20 lf21 lf22 lf23 lf24 lf25
   clear xf0 xf1
   replace HT:=zH (HT.out.next hb)
   replace HL:=zH (HL.out.next hb)
   replace HX:=zH (HX.out.next hb)
   replace HB:=zH (HB.out.trans (hb.mono HB.out.size))
   clear hb
   have tf0:=(HT.out.2 0 _ rfl).1
   have tf1:=(HT.out.2 1 _ rfl).1
   have lf0:=(HL.out.2 0 _ rfl).1
   have lf1:=(HL.out.2 1 _ rfl).1
   have lf2:=(HL.out.2 2 _ rfl).1
   have lf3:=(HL.out.2 3 _ rfl).1
   have lf4:=(HL.out.2 4 _ rfl).1
   have lf5:=(HL.out.2 5 _ rfl).1
   have lf6:=(HL.out.2 6 _ rfl).1
   have lf7:=(HL.out.2 7 _ rfl).1
   have lf8:=(HL.out.2 8 _ rfl).1
   have lf9:=(HL.out.2 9 _ rfl).1
   have lf10:=(HL.out.2 10 _ rfl).1
   have lf11:=(HL.out.2 11 _ rfl).1
   have lf12:=(HL.out.2 12 _ rfl).1
   have lf13:=(HL.out.2 13 _ rfl).1
   have lf14:=(HL.out.2 14 _ rfl).1
   have lf15:=(HL.out.2 15 _ rfl).1
   have lf16:=(HL.out.2 16 _ rfl).1
   have lf17:=(HL.out.2 17 _ rfl).1
   have lf18:=(HL.out.2 18 _ rfl).1
   have lf19:=(HL.out.2 19 _ rfl).1
   have lf20:=(HL.out.2 20 _ rfl).1
   have lf21:=(HL.out.2 21 _ rfl).1
   have lf22:=(HL.out.2 22 _ rfl).1
   have lf23:=(HL.out.2 23 _ rfl).1
   have lf24:=(HL.out.2 24 _ rfl).1
   have lf25:=(HL.out.2 25 _ rfl).1
   have xf0:=(HX.out.2 0 _ rfl).1
   have xf1:=(HX.out.2 1 _ rfl).1
   go_wp2_with fail
   go_ret
   exact⟨by first | rfl | simp,HB.out⟩
theorem pyounger_z2 (a l x y:Int) (b0 b1 b2 b3 b4 b5 b6 b7 c0 c1 c2 c3 c4 c5 c6 c7:Bool) (k0 k1 k2 k3 k4 m0 m1 m2 m3 m4:Int) (w:World) (hA:Alph w) (hT:Tabs w) (hC:Cal w) (g1:¬a<0) (g2:¬l<0) (g3:¬2147483648<a) (g4:¬2147483648<l) (g5:¬x<0) (g6:¬a<x) (g7:¬y<0) (g8:¬2147483648-l<y) (hj:judP_RuP a l ⟨b0,b1,b2,b3,b4,b5,b6,b7,k0,k1,k2,k3,k4⟩ ⟨c0,c1,c2,c3,c4,c5,c6,c7,m0,m1,m2,m3,m4⟩=0) (h9:¬a<l) :
  Calls Tryz.prog 6 #[.agg #[.int .i64 a,.int .i64 l],.agg #[.bool b0,.bool b1,.bool b2,.bool b3,.bool b4,.bool b5,.bool b6,.bool b7,.int .i64 k0,.int .i64 k1,.int .i64 k2,.int .i64 k3,.int .i64 k4,.bool c0,.bool c1,.bool c2,.bool c3,.bool c4,.bool c5,.bool c6,.bool c7,.int .i64 m0,.int .i64 m1,.int .i64 m2,.int .i64 m3,.int .i64 m4],.agg #[.int .i64 x,.int .i64 y]] w fun e w'=>e=.returned (.bool true)∧Below w.heap.size w w':=by
 have HC:=zH hC
 have HA:=zH hA
 have HTt:=zH hT
 have cA:=fun W (hb:Below w.heap.size w W)=>awake14_any W (Alph.below HA.out hb) (Utf8Tabs_below HTt.out hb) (Cal.below HC.out hb)
 clear hA hT hC
 obtain⟨W1,hW1⟩:∃W1,w.alloc (.cells #[.int .i64 a,.int .i64 l] 48)=W1:=⟨_,rfl⟩
 obtain⟨W2,hW2⟩:∃W2,W1.alloc (.cells #[.bool b0,.bool b1,.bool b2,.bool b3,.bool b4,.bool b5,.bool b6,.bool b7,.int .i64 k0,.int .i64 k1,.int .i64 k2,.int .i64 k3,.int .i64 k4,.bool c0,.bool c1,.bool c2,.bool c3,.bool c4,.bool c5,.bool c6,.bool c7,.int .i64 m0,.int .i64 m1,.int .i64 m2,.int .i64 m3,.int .i64 m4] 35)=W2:=⟨_,rfl⟩
 obtain⟨W3,hW3⟩:∃W3,W2.alloc (.cells #[.int .i64 x,.int .i64 y] 48)=W3:=⟨_,rfl⟩
 have s1:W1.heap.size=w.heap.size+1:=by rw [← hW1];simp
 have s2:W2.heap.size=w.heap.size+1+1:=by rw [← hW2];simp [s1]
 have be1:Below w.heap.size w W1:=by rw [← hW1];exact(Below.refl _ _).alloc (zR _) _
 have be2:Below W1.heap.size W1 W2:=by rw [← hW2];exact(Below.refl _ _).alloc (zR _) _
 have be3:Below W2.heap.size W2 W3:=by rw [← hW3];exact(Below.refl _ _).alloc (zR _) _
 have ht:BoxN W1 w.heap.size [.int .i64 a,.int .i64 l]:=by rw [← hW1];exact BoxN.made w [.int .i64 a,.int .i64 l] _
 have HT:=zH ((ht.next be2).next be3)
 have hl:BoxN W2 W1.heap.size [.bool b0,.bool b1,.bool b2,.bool b3,.bool b4,.bool b5,.bool b6,.bool b7,.int .i64 k0,.int .i64 k1,.int .i64 k2,.int .i64 k3,.int .i64 k4,.bool c0,.bool c1,.bool c2,.bool c3,.bool c4,.bool c5,.bool c6,.bool c7,.int .i64 m0,.int .i64 m1,.int .i64 m2,.int .i64 m3,.int .i64 m4]:=by rw [← hW2];exact BoxN.made W1 [.bool b0,.bool b1,.bool b2,.bool b3,.bool b4,.bool b5,.bool b6,.bool b7,.int .i64 k0,.int .i64 k1,.int .i64 k2,.int .i64 k3,.int .i64 k4,.bool c0,.bool c1,.bool c2,.bool c3,.bool c4,.bool c5,.bool c6,.bool c7,.int .i64 m0,.int .i64 m1,.int .i64 m2,.int .i64 m3,.int .i64 m4] _
 rw [s1]at hl
 have HL:=zH (hl.next be3)
 have hx:BoxN W3 W2.heap.size [.int .i64 x,.int .i64 y]:=by rw [← hW3];exact BoxN.made W2 [.int .i64 x,.int .i64 y] _
 rw [s2]at hx
 have HX:=zH hx
 have HB:=zH ((be1.trans (be2.mono be1.size)).trans (be3.mono (be1.trans (be2.mono be1.size)).size))
 have HW1:=zH hW1
 have HW2:=zH hW2
 have HW3:=zH hW3
 clear ht hl hx be1 be2 be3 s1 s2 hW1 hW2 hW3
 have cJ1:=fun W=>pjudge_any a l ⟨b0,b1,b2,b3,b4,b5,b6,b7,k0,k1,k2,k3,k4⟩ ⟨c0,c1,c2,c3,c4,c5,c6,c7,m0,m1,m2,m3,m4⟩ W (by omega) (by omega) (by omega) (by omega)
 have cJ2:=fun W=>pjudge_any (a-x) (l+y) ⟨b0,b1,b2,b3,b4,b5,b6,b7,k0,k1,k2,k3,k4⟩ ⟨c0,c1,c2,c3,c4,c5,c6,c7,m0,m1,m2,m3,m4⟩ W (by omega) (by omega) (by omega) (by omega)
 have cE1:=fun W=>ponerr_any a l ⟨b0,b1,b2,b3,b4,b5,b6,b7,k0,k1,k2,k3,k4⟩ W (by omega) (by omega) (by omega) (by omega)
 have cE2:=fun W=>ponerr_any (a-x) (l+y) ⟨b0,b1,b2,b3,b4,b5,b6,b7,k0,k1,k2,k3,k4⟩ W (by omega) (by omega) (by omega) (by omega)
 have f1:=jud_younger_RuP a l x y ⟨b0,b1,b2,b3,b4,b5,b6,b7,k0,k1,k2,k3,k4⟩ ⟨c0,c1,c2,c3,c4,c5,c6,c7,m0,m1,m2,m3,m4⟩ (by omega) (by omega)
 have f2:=jud_in_RuP a l ⟨b0,b1,b2,b3,b4,b5,b6,b7,k0,k1,k2,k3,k4⟩ ⟨c0,c1,c2,c3,c4,c5,c6,c7,m0,m1,m2,m3,m4⟩
 have f3:=jud_immutable_RuP a l ⟨b0,b1,b2,b3,b4,b5,b6,b7,k0,k1,k2,k3,k4⟩ ⟨c0,c1,c2,c3,c4,c5,c6,c7,m0,m1,m2,m3,m4⟩
 have f4:=err_younger_RuP a l x y ⟨b0,b1,b2,b3,b4,b5,b6,b7,k0,k1,k2,k3,k4⟩ (by omega) (by omega)
 have f5:=err_hit_RuP a l ⟨b0,b1,b2,b3,b4,b5,b6,b7,k0,k1,k2,k3,k4⟩ ⟨c0,c1,c2,c3,c4,c5,c6,c7,m0,m1,m2,m3,m4⟩
 dsimp only [Ru_RuP.v]at cJ1 cJ2 cE1 cE2 f3
 generalize judP_RuP a l ⟨b0,b1,b2,b3,b4,b5,b6,b7,k0,k1,k2,k3,k4⟩ ⟨c0,c1,c2,c3,c4,c5,c6,c7,m0,m1,m2,m3,m4⟩=J1 at *
 generalize judP_RuP (a-x) (l+y) ⟨b0,b1,b2,b3,b4,b5,b6,b7,k0,k1,k2,k3,k4⟩ ⟨c0,c1,c2,c3,c4,c5,c6,c7,m0,m1,m2,m3,m4⟩=J2 at *
 generalize errP_RuP a l ⟨b0,b1,b2,b3,b4,b5,b6,b7,k0,k1,k2,k3,k4⟩=E1 at *
 generalize errP_RuP (a-x) (l+y) ⟨b0,b1,b2,b3,b4,b5,b6,b7,k0,k1,k2,k3,k4⟩=E2 at *
 have e2:=f1 hj
 subst hj e2
 cases E1
 ·go_enter Tryz.func6,Tryz.ntmps6
  go_wp2_with fail
  rw [HW1.out,HW2.out,HW3.out]
  refine(cA _ HB.out).mono ?_
  rintro e w1 ⟨rfl,hb⟩
  clear HW1 HW2 HW3 cA
  replace HT:=zH (HT.out.next hb)
  replace HL:=zH (HL.out.next hb)
  replace HX:=zH (HX.out.next hb)
  replace HB:=zH (HB.out.trans (hb.mono HB.out.size))
  clear hb
  have tf0:=(HT.out.2 0 _ rfl).1
  have tf1:=(HT.out.2 1 _ rfl).1
  have lf0:=(HL.out.2 0 _ rfl).1
  have lf1:=(HL.out.2 1 _ rfl).1
  have lf2:=(HL.out.2 2 _ rfl).1
  have lf3:=(HL.out.2 3 _ rfl).1
  have lf4:=(HL.out.2 4 _ rfl).1
  have lf5:=(HL.out.2 5 _ rfl).1
  have lf6:=(HL.out.2 6 _ rfl).1
  have lf7:=(HL.out.2 7 _ rfl).1
  have lf8:=(HL.out.2 8 _ rfl).1
  have lf9:=(HL.out.2 9 _ rfl).1
  have lf10:=(HL.out.2 10 _ rfl).1
  have lf11:=(HL.out.2 11 _ rfl).1
  have lf12:=(HL.out.2 12 _ rfl).1
  have lf13:=(HL.out.2 13 _ rfl).1
  have lf14:=(HL.out.2 14 _ rfl).1
  have lf15:=(HL.out.2 15 _ rfl).1
  have lf16:=(HL.out.2 16 _ rfl).1
  have lf17:=(HL.out.2 17 _ rfl).1
  have lf18:=(HL.out.2 18 _ rfl).1
  have lf19:=(HL.out.2 19 _ rfl).1
  have lf20:=(HL.out.2 20 _ rfl).1
  have lf21:=(HL.out.2 21 _ rfl).1
  have lf22:=(HL.out.2 22 _ rfl).1
  have lf23:=(HL.out.2 23 _ rfl).1
  have lf24:=(HL.out.2 24 _ rfl).1
  have lf25:=(HL.out.2 25 _ rfl).1
  have xf0:=(HX.out.2 0 _ rfl).1
  have xf1:=(HX.out.2 1 _ rfl).1
  go_wp2_with fail
  refine(cJ1 _).mono ?_
  rintro e w2 ⟨rfl,hb⟩
  clear tf0 tf1
  clear lf0 lf1 lf2 lf3 lf4 lf5 lf6 lf7 lf8 lf9 lf10 lf11 lf12 lf13 lf14 lf15 lf16 lf17 lf18 lf19 lf20 lf21 lf22 lf23 lf24 lf25
  clear xf0 xf1
  replace HT:=zH (HT.out.next hb)
  replace HL:=zH (HL.out.next hb)
  replace HX:=zH (HX.out.next hb)
  replace HB:=zH (HB.out.trans (hb.mono HB.out.size))
  clear hb
  have tf0:=(HT.out.2 0 _ rfl).1
  have tf1:=(HT.out.2 1 _ rfl).1
  have lf0:=(HL.out.2 0 _ rfl).1
  have lf1:=(HL.out.2 1 _ rfl).1
  have lf2:=(HL.out.2 2 _ rfl).1
  have lf3:=(HL.out.2 3 _ rfl).1
  have lf4:=(HL.out.2 4 _ rfl).1
  have lf5:=(HL.out.2 5 _ rfl).1
  have lf6:=(HL.out.2 6 _ rfl).1
  have lf7:=(HL.out.2 7 _ rfl).1
  have lf8:=(HL.out.2 8 _ rfl).1
  have lf9:=(HL.out.2 9 _ rfl).1
  have lf10:=(HL.out.2 10 _ rfl).1
  have lf11:=(HL.out.2 11 _ rfl).1
  have lf12:=(HL.out.2 12 _ rfl).1
  have lf13:=(HL.out.2 13 _ rfl).1
  have lf14:=(HL.out.2 14 _ rfl).1
  have lf15:=(HL.out.2 15 _ rfl).1
  have lf16:=(HL.out.2 16 _ rfl).1
  have lf17:=(HL.out.2 17 _ rfl).1
  have lf18:=(HL.out.2 18 _ rfl).1
  have lf19:=(HL.out.2 19 _ rfl).1
  have lf20:=(HL.out.2 20 _ rfl).1
  have lf21:=(HL.out.2 21 _ rfl).1
  have lf22:=(HL.out.2 22 _ rfl).1
  have lf23:=(HL.out.2 23 _ rfl).1
  have lf24:=(HL.out.2 24 _ rfl).1
  have lf25:=(HL.out.2 25 _ rfl).1
  have xf0:=(HX.out.2 0 _ rfl).1
  have xf1:=(HX.out.2 1 _ rfl).1
  go_wp2_with fail
  refine(cJ2 _).mono ?_
  rintro e w3 ⟨rfl,hb⟩
  clear tf0 tf1
  clear lf0 lf1 lf2 lf3 lf4 lf5 lf6 lf7 lf8 lf9 lf10 lf11 lf12 lf13 lf14 lf15 lf16 lf17 lf18 lf19 lf20 lf21 lf22 lf23 lf24 lf25
  clear xf0 xf1
  replace HT:=zH (HT.out.next hb)
  replace HL:=zH (HL.out.next hb)
  replace HX:=zH (HX.out.next hb)
  replace HB:=zH (HB.out.trans (hb.mono HB.out.size))
  clear hb
  have tf0:=(HT.out.2 0 _ rfl).1
  have tf1:=(HT.out.2 1 _ rfl).1
  have lf0:=(HL.out.2 0 _ rfl).1
  have lf1:=(HL.out.2 1 _ rfl).1
  have lf2:=(HL.out.2 2 _ rfl).1
  have lf3:=(HL.out.2 3 _ rfl).1
  have lf4:=(HL.out.2 4 _ rfl).1
  have lf5:=(HL.out.2 5 _ rfl).1
  have lf6:=(HL.out.2 6 _ rfl).1
  have lf7:=(HL.out.2 7 _ rfl).1
  have lf8:=(HL.out.2 8 _ rfl).1
  have lf9:=(HL.out.2 9 _ rfl).1
  have lf10:=(HL.out.2 10 _ rfl).1
  have lf11:=(HL.out.2 11 _ rfl).1
  have lf12:=(HL.out.2 12 _ rfl).1
  have lf13:=(HL.out.2 13 _ rfl).1
  have lf14:=(HL.out.2 14 _ rfl).1
  have lf15:=(HL.out.2 15 _ rfl).1
  have lf16:=(HL.out.2 16 _ rfl).1
  have lf17:=(HL.out.2 17 _ rfl).1
  have lf18:=(HL.out.2 18 _ rfl).1
  have lf19:=(HL.out.2 19 _ rfl).1
  have lf20:=(HL.out.2 20 _ rfl).1
  have lf21:=(HL.out.2 21 _ rfl).1
  have lf22:=(HL.out.2 22 _ rfl).1
  have lf23:=(HL.out.2 23 _ rfl).1
  have lf24:=(HL.out.2 24 _ rfl).1
  have lf25:=(HL.out.2 25 _ rfl).1
  have xf0:=(HX.out.2 0 _ rfl).1
  have xf1:=(HX.out.2 1 _ rfl).1
  go_wp2_with fail
  refine(cE1 _).mono ?_
  rintro e w4 ⟨rfl,hb⟩
  clear tf0 tf1
  clear lf0 lf1 lf2 lf3 lf4 lf5 lf6 lf7 lf8 lf9 lf10 lf11 lf12 lf13 lf14 lf15 lf16 lf17 lf18 lf19 lf20 lf21 lf22 lf23 lf24 lf25
  clear xf0 xf1
  replace HT:=zH (HT.out.next hb)
  replace HL:=zH (HL.out.next hb)
  replace HX:=zH (HX.out.next hb)
  replace HB:=zH (HB.out.trans (hb.mono HB.out.size))
  clear hb
  have tf0:=(HT.out.2 0 _ rfl).1
  have tf1:=(HT.out.2 1 _ rfl).1
  have lf0:=(HL.out.2 0 _ rfl).1
  have lf1:=(HL.out.2 1 _ rfl).1
  have lf2:=(HL.out.2 2 _ rfl).1
  have lf3:=(HL.out.2 3 _ rfl).1
  have lf4:=(HL.out.2 4 _ rfl).1
  have lf5:=(HL.out.2 5 _ rfl).1
  have lf6:=(HL.out.2 6 _ rfl).1
  have lf7:=(HL.out.2 7 _ rfl).1
  have lf8:=(HL.out.2 8 _ rfl).1
  have lf9:=(HL.out.2 9 _ rfl).1
  have lf10:=(HL.out.2 10 _ rfl).1
  have lf11:=(HL.out.2 11 _ rfl).1
  have lf12:=(HL.out.2 12 _ rfl).1
  have lf13:=(HL.out.2 13 _ rfl).1
  have lf14:=(HL.out.2 14 _ rfl).1
  have lf15:=(HL.out.2 15 _ rfl).1
  have lf16:=(HL.out.2 16 _ rfl).1
  have lf17:=(HL.out.2 17 _ rfl).1
  have lf18:=(HL.out.2 18 _ rfl).1
  have lf19:=(HL.out.2 19 _ rfl).1
  have lf20:=(HL.out.2 20 _ rfl).1
  have lf21:=(HL.out.2 21 _ rfl).1
  have lf22:=(HL.out.2 22 _ rfl).1
  have lf23:=(HL.out.2 23 _ rfl).1
  have lf24:=(HL.out.2 24 _ rfl).1
  have lf25:=(HL.out.2 25 _ rfl).1
  have xf0:=(HX.out.2 0 _ rfl).1
  have xf1:=(HX.out.2 1 _ rfl).1
  go_wp2_with fail
  go_ret
  exact⟨by first | rfl | simp,HB.out⟩
 ·obtain rfl:E2=true:=f4 rfl
  go_enter Tryz.func6,Tryz.ntmps6
  go_wp2_with fail
  rw [HW1.out,HW2.out,HW3.out]
  refine(cA _ HB.out).mono ?_
  rintro e w1 ⟨rfl,hb⟩
  clear HW1 HW2 HW3 cA
  replace HT:=zH (HT.out.next hb)
  replace HL:=zH (HL.out.next hb)
  replace HX:=zH (HX.out.next hb)
  replace HB:=zH (HB.out.trans (hb.mono HB.out.size))
  clear hb
  have tf0:=(HT.out.2 0 _ rfl).1
  have tf1:=(HT.out.2 1 _ rfl).1
  have lf0:=(HL.out.2 0 _ rfl).1
  have lf1:=(HL.out.2 1 _ rfl).1
  have lf2:=(HL.out.2 2 _ rfl).1
  have lf3:=(HL.out.2 3 _ rfl).1
  have lf4:=(HL.out.2 4 _ rfl).1
  have lf5:=(HL.out.2 5 _ rfl).1
  have lf6:=(HL.out.2 6 _ rfl).1
  have lf7:=(HL.out.2 7 _ rfl).1
  have lf8:=(HL.out.2 8 _ rfl).1
  have lf9:=(HL.out.2 9 _ rfl).1
  have lf10:=(HL.out.2 10 _ rfl).1
  have lf11:=(HL.out.2 11 _ rfl).1
  have lf12:=(HL.out.2 12 _ rfl).1
  have lf13:=(HL.out.2 13 _ rfl).1
  have lf14:=(HL.out.2 14 _ rfl).1
  have lf15:=(HL.out.2 15 _ rfl).1
  have lf16:=(HL.out.2 16 _ rfl).1
  have lf17:=(HL.out.2 17 _ rfl).1
  have lf18:=(HL.out.2 18 _ rfl).1
  have lf19:=(HL.out.2 19 _ rfl).1
  have lf20:=(HL.out.2 20 _ rfl).1
  have lf21:=(HL.out.2 21 _ rfl).1
  have lf22:=(HL.out.2 22 _ rfl).1
  have lf23:=(HL.out.2 23 _ rfl).1
  have lf24:=(HL.out.2 24 _ rfl).1
  have lf25:=(HL.out.2 25 _ rfl).1
  have xf0:=(HX.out.2 0 _ rfl).1
  have xf1:=(HX.out.2 1 _ rfl).1
  go_wp2_with fail
  refine(cJ1 _).mono ?_
  rintro e w2 ⟨rfl,hb⟩
  clear tf0 tf1
  clear lf0 lf1 lf2 lf3 lf4 lf5 lf6 lf7 lf8 lf9 lf10 lf11 lf12 lf13 lf14 lf15 lf16 lf17 lf18 lf19 lf20 lf21 lf22 lf23 lf24 lf25
  clear xf0 xf1
  replace HT:=zH (HT.out.next hb)
  replace HL:=zH (HL.out.next hb)
  replace HX:=zH (HX.out.next hb)
  replace HB:=zH (HB.out.trans (hb.mono HB.out.size))
  clear hb
  have tf0:=(HT.out.2 0 _ rfl).1
  have tf1:=(HT.out.2 1 _ rfl).1
  have lf0:=(HL.out.2 0 _ rfl).1
  have lf1:=(HL.out.2 1 _ rfl).1
  have lf2:=(HL.out.2 2 _ rfl).1
  have lf3:=(HL.out.2 3 _ rfl).1
  have lf4:=(HL.out.2 4 _ rfl).1
  have lf5:=(HL.out.2 5 _ rfl).1
  have lf6:=(HL.out.2 6 _ rfl).1
  have lf7:=(HL.out.2 7 _ rfl).1
  have lf8:=(HL.out.2 8 _ rfl).1
  have lf9:=(HL.out.2 9 _ rfl).1
  have lf10:=(HL.out.2 10 _ rfl).1
  have lf11:=(HL.out.2 11 _ rfl).1
  have lf12:=(HL.out.2 12 _ rfl).1
  have lf13:=(HL.out.2 13 _ rfl).1
  have lf14:=(HL.out.2 14 _ rfl).1
  have lf15:=(HL.out.2 15 _ rfl).1
  have lf16:=(HL.out.2 16 _ rfl).1
  have lf17:=(HL.out.2 17 _ rfl).1
  have lf18:=(HL.out.2 18 _ rfl).1
  have lf19:=(HL.out.2 19 _ rfl).1
  have lf20:=(HL.out.2 20 _ rfl).1
  have lf21:=(HL.out.2 21 _ rfl).1
  have lf22:=(HL.out.2 22 _ rfl).1
  have lf23:=(HL.out.2 23 _ rfl).1
  have lf24:=(HL.out.2 24 _ rfl).1
  have lf25:=(HL.out.2 25 _ rfl).1
  have xf0:=(HX.out.2 0 _ rfl).1
  have xf1:=(HX.out.2 1 _ rfl).1
  go_wp2_with fail
  refine(cJ2 _).mono ?_
  rintro e w3 ⟨rfl,hb⟩
  clear tf0 tf1
  clear lf0 lf1 lf2 lf3 lf4 lf5 lf6 lf7 lf8 lf9 lf10 lf11 lf12 lf13 lf14 lf15 lf16 lf17 lf18 lf19 lf20 lf21 lf22 lf23 lf24 lf25
  clear xf0 xf1
  replace HT:=zH (HT.out.next hb)
  replace HL:=zH (HL.out.next hb)
  replace HX:=zH (HX.out.next hb)
  replace HB:=zH (HB.out.trans (hb.mono HB.out.size))
  clear hb
  have tf0:=(HT.out.2 0 _ rfl).1
  have tf1:=(HT.out.2 1 _ rfl).1
  have lf0:=(HL.out.2 0 _ rfl).1
  have lf1:=(HL.out.2 1 _ rfl).1
  have lf2:=(HL.out.2 2 _ rfl).1
  have lf3:=(HL.out.2 3 _ rfl).1
  have lf4:=(HL.out.2 4 _ rfl).1
  have lf5:=(HL.out.2 5 _ rfl).1
  have lf6:=(HL.out.2 6 _ rfl).1
  have lf7:=(HL.out.2 7 _ rfl).1
  have lf8:=(HL.out.2 8 _ rfl).1
  have lf9:=(HL.out.2 9 _ rfl).1
  have lf10:=(HL.out.2 10 _ rfl).1
  have lf11:=(HL.out.2 11 _ rfl).1
  have lf12:=(HL.out.2 12 _ rfl).1
  have lf13:=(HL.out.2 13 _ rfl).1
  have lf14:=(HL.out.2 14 _ rfl).1
  have lf15:=(HL.out.2 15 _ rfl).1
  have lf16:=(HL.out.2 16 _ rfl).1
  have lf17:=(HL.out.2 17 _ rfl).1
  have lf18:=(HL.out.2 18 _ rfl).1
  have lf19:=(HL.out.2 19 _ rfl).1
  have lf20:=(HL.out.2 20 _ rfl).1
  have lf21:=(HL.out.2 21 _ rfl).1
  have lf22:=(HL.out.2 22 _ rfl).1
  have lf23:=(HL.out.2 23 _ rfl).1
  have lf24:=(HL.out.2 24 _ rfl).1
  have lf25:=(HL.out.2 25 _ rfl).1
  have xf0:=(HX.out.2 0 _ rfl).1
  have xf1:=(HX.out.2 1 _ rfl).1
  go_wp2_with fail
  refine(cE1 _).mono ?_
  rintro e w4 ⟨rfl,hb⟩
  clear tf0 tf1
  clear lf0 lf1 lf2 lf3 lf4 lf5 lf6 lf7 lf8 lf9 lf10 lf11 lf12 lf13 lf14 lf15 lf16 lf17 lf18 lf19 lf20 lf21 lf22 lf23 lf24 lf25
  clear xf0 xf1
  replace HT:=zH (HT.out.next hb)
  replace HL:=zH (HL.out.next hb)
  replace HX:=zH (HX.out.next hb)
  replace HB:=zH (HB.out.trans (hb.mono HB.out.size))
  clear hb
  have tf0:=(HT.out.2 0 _ rfl).1
  have tf1:=(HT.out.2 1 _ rfl).1
  have lf0:=(HL.out.2 0 _ rfl).1
  have lf1:=(HL.out.2 1 _ rfl).1
  have lf2:=(HL.out.2 2 _ rfl).1
  have lf3:=(HL.out.2 3 _ rfl).1
  have lf4:=(HL.out.2 4 _ rfl).1
  have lf5:=(HL.out.2 5 _ rfl).1
  have lf6:=(HL.out.2 6 _ rfl).1
  have lf7:=(HL.out.2 7 _ rfl).1
  have lf8:=(HL.out.2 8 _ rfl).1
  have lf9:=(HL.out.2 9 _ rfl).1
  have lf10:=(HL.out.2 10 _ rfl).1
  have lf11:=(HL.out.2 11 _ rfl).1
  have lf12:=(HL.out.2 12 _ rfl).1
  have lf13:=(HL.out.2 13 _ rfl).1
  have lf14:=(HL.out.2 14 _ rfl).1
  have lf15:=(HL.out.2 15 _ rfl).1
  have lf16:=(HL.out.2 16 _ rfl).1
  have lf17:=(HL.out.2 17 _ rfl).1
  have lf18:=(HL.out.2 18 _ rfl).1
  have lf19:=(HL.out.2 19 _ rfl).1
  have lf20:=(HL.out.2 20 _ rfl).1
  have lf21:=(HL.out.2 21 _ rfl).1
  have lf22:=(HL.out.2 22 _ rfl).1
  have lf23:=(HL.out.2 23 _ rfl).1
  have lf24:=(HL.out.2 24 _ rfl).1
  have lf25:=(HL.out.2 25 _ rfl).1
  have xf0:=(HX.out.2 0 _ rfl).1
  have xf1:=(HX.out.2 1 _ rfl).1
  go_wp2_with fail
  refine(cE2 _).mono ?_
  rintro e w5 ⟨rfl,hb⟩
  clear tf0 tf1
  clear lf0 lf1 lf2 lf3 lf4 lf5 lf6 lf7 lf8 lf9 lf10 lf11 lf12 lf13 lf14 lf15 lf16 lf17 lf18 lf19 lf20 lf21 lf22 lf23 lf24 lf25
  clear xf0 xf1
  replace HT:=zH (HT.out.next hb)
  replace HL:=zH (HL.out.next hb)
  replace HX:=zH (HX.out.next hb)
  replace HB:=zH (HB.out.trans (hb.mono HB.out.size))
  clear hb
  have tf0:=(HT.out.2 0 _ rfl).1
  have tf1:=(HT.out.2 1 _ rfl).1
  have lf0:=(HL.out.2 0 _ rfl).1
  have lf1:=(HL.out.2 1 _ rfl).1
  have lf2:=(HL.out.2 2 _ rfl).1
  have lf3:=(HL.out.2 3 _ rfl).1
  have lf4:=(HL.out.2 4 _ rfl).1
  have lf5:=(HL.out.2 5 _ rfl).1
  have lf6:=(HL.out.2 6 _ rfl).1
  have lf7:=(HL.out.2 7 _ rfl).1
  have lf8:=(HL.out.2 8 _ rfl).1
  have lf9:=(HL.out.2 9 _ rfl).1
  have lf10:=(HL.out.2 10 _ rfl).1
  have lf11:=(HL.out.2 11 _ rfl).1
  have lf12:=(HL.out.2 12 _ rfl).1
  have lf13:=(HL.out.2 13 _ rfl).1
  have lf14:=(HL.out.2 14 _ rfl).1
  have lf15:=(HL.out.2 15 _ rfl).1
  have lf16:=(HL.out.2 16 _ rfl).1
  have lf17:=(HL.out.2 17 _ rfl).1
  have lf18:=(HL.out.2 18 _ rfl).1
  have lf19:=(HL.out.2 19 _ rfl).1
  have lf20:=(HL.out.2 20 _ rfl).1
  have lf21:=(HL.out.2 21 _ rfl).1
  have lf22:=(HL.out.2 22 _ rfl).1
  have lf23:=(HL.out.2 23 _ rfl).1
  have lf24:=(HL.out.2 24 _ rfl).1
  have lf25:=(HL.out.2 25 _ rfl).1
  have xf0:=(HX.out.2 0 _ rfl).1
  have xf1:=(HX.out.2 1 _ rfl).1
  go_wp2_with fail
  go_ret
  exact⟨by first | rfl | simp,HB.out⟩
theorem pyounger_n1 (a l x y:Int) (b0 b1 b2 b3 b4 b5 b6 b7 c0 c1 c2 c3 c4 c5 c6 c7:Bool) (k0 k1 k2 k3 k4 m0 m1 m2 m3 m4:Int) (w:World) (hA:Alph w) (hT:Tabs w) (hC:Cal w) (g1:¬a<0) (g2:¬l<0) (g3:¬2147483648<a) (g4:¬2147483648<l) (g5:¬x<0) (g6:¬a<x) (g7:¬y<0) (g8:¬2147483648-l<y) (hj:¬judP_RuP a l ⟨b0,b1,b2,b3,b4,b5,b6,b7,k0,k1,k2,k3,k4⟩ ⟨c0,c1,c2,c3,c4,c5,c6,c7,m0,m1,m2,m3,m4⟩=0) (h9:a<l) :
  Calls Tryz.prog 6 #[.agg #[.int .i64 a,.int .i64 l],.agg #[.bool b0,.bool b1,.bool b2,.bool b3,.bool b4,.bool b5,.bool b6,.bool b7,.int .i64 k0,.int .i64 k1,.int .i64 k2,.int .i64 k3,.int .i64 k4,.bool c0,.bool c1,.bool c2,.bool c3,.bool c4,.bool c5,.bool c6,.bool c7,.int .i64 m0,.int .i64 m1,.int .i64 m2,.int .i64 m3,.int .i64 m4],.agg #[.int .i64 x,.int .i64 y]] w fun e w'=>e=.returned (.bool true)∧Below w.heap.size w w':=by
 have HC:=zH hC
 have HA:=zH hA
 have HTt:=zH hT
 have cA:=fun W (hb:Below w.heap.size w W)=>awake14_any W (Alph.below HA.out hb) (Utf8Tabs_below HTt.out hb) (Cal.below HC.out hb)
 clear hA hT hC
 obtain⟨W1,hW1⟩:∃W1,w.alloc (.cells #[.int .i64 a,.int .i64 l] 48)=W1:=⟨_,rfl⟩
 obtain⟨W2,hW2⟩:∃W2,W1.alloc (.cells #[.bool b0,.bool b1,.bool b2,.bool b3,.bool b4,.bool b5,.bool b6,.bool b7,.int .i64 k0,.int .i64 k1,.int .i64 k2,.int .i64 k3,.int .i64 k4,.bool c0,.bool c1,.bool c2,.bool c3,.bool c4,.bool c5,.bool c6,.bool c7,.int .i64 m0,.int .i64 m1,.int .i64 m2,.int .i64 m3,.int .i64 m4] 35)=W2:=⟨_,rfl⟩
 obtain⟨W3,hW3⟩:∃W3,W2.alloc (.cells #[.int .i64 x,.int .i64 y] 48)=W3:=⟨_,rfl⟩
 have s1:W1.heap.size=w.heap.size+1:=by rw [← hW1];simp
 have s2:W2.heap.size=w.heap.size+1+1:=by rw [← hW2];simp [s1]
 have be1:Below w.heap.size w W1:=by rw [← hW1];exact(Below.refl _ _).alloc (zR _) _
 have be2:Below W1.heap.size W1 W2:=by rw [← hW2];exact(Below.refl _ _).alloc (zR _) _
 have be3:Below W2.heap.size W2 W3:=by rw [← hW3];exact(Below.refl _ _).alloc (zR _) _
 have ht:BoxN W1 w.heap.size [.int .i64 a,.int .i64 l]:=by rw [← hW1];exact BoxN.made w [.int .i64 a,.int .i64 l] _
 have HT:=zH ((ht.next be2).next be3)
 have hl:BoxN W2 W1.heap.size [.bool b0,.bool b1,.bool b2,.bool b3,.bool b4,.bool b5,.bool b6,.bool b7,.int .i64 k0,.int .i64 k1,.int .i64 k2,.int .i64 k3,.int .i64 k4,.bool c0,.bool c1,.bool c2,.bool c3,.bool c4,.bool c5,.bool c6,.bool c7,.int .i64 m0,.int .i64 m1,.int .i64 m2,.int .i64 m3,.int .i64 m4]:=by rw [← hW2];exact BoxN.made W1 [.bool b0,.bool b1,.bool b2,.bool b3,.bool b4,.bool b5,.bool b6,.bool b7,.int .i64 k0,.int .i64 k1,.int .i64 k2,.int .i64 k3,.int .i64 k4,.bool c0,.bool c1,.bool c2,.bool c3,.bool c4,.bool c5,.bool c6,.bool c7,.int .i64 m0,.int .i64 m1,.int .i64 m2,.int .i64 m3,.int .i64 m4] _
 rw [s1]at hl
 have HL:=zH (hl.next be3)
 have hx:BoxN W3 W2.heap.size [.int .i64 x,.int .i64 y]:=by rw [← hW3];exact BoxN.made W2 [.int .i64 x,.int .i64 y] _
 rw [s2]at hx
 have HX:=zH hx
 have HB:=zH ((be1.trans (be2.mono be1.size)).trans (be3.mono (be1.trans (be2.mono be1.size)).size))
 have HW1:=zH hW1
 have HW2:=zH hW2
 have HW3:=zH hW3
 clear ht hl hx be1 be2 be3 s1 s2 hW1 hW2 hW3
 have cJ1:=fun W=>pjudge_any a l ⟨b0,b1,b2,b3,b4,b5,b6,b7,k0,k1,k2,k3,k4⟩ ⟨c0,c1,c2,c3,c4,c5,c6,c7,m0,m1,m2,m3,m4⟩ W (by omega) (by omega) (by omega) (by omega)
 have cJ2:=fun W=>pjudge_any (a-x) (l+y) ⟨b0,b1,b2,b3,b4,b5,b6,b7,k0,k1,k2,k3,k4⟩ ⟨c0,c1,c2,c3,c4,c5,c6,c7,m0,m1,m2,m3,m4⟩ W (by omega) (by omega) (by omega) (by omega)
 have cE1:=fun W=>ponerr_any a l ⟨b0,b1,b2,b3,b4,b5,b6,b7,k0,k1,k2,k3,k4⟩ W (by omega) (by omega) (by omega) (by omega)
 have cE2:=fun W=>ponerr_any (a-x) (l+y) ⟨b0,b1,b2,b3,b4,b5,b6,b7,k0,k1,k2,k3,k4⟩ W (by omega) (by omega) (by omega) (by omega)
 have f1:=jud_younger_RuP a l x y ⟨b0,b1,b2,b3,b4,b5,b6,b7,k0,k1,k2,k3,k4⟩ ⟨c0,c1,c2,c3,c4,c5,c6,c7,m0,m1,m2,m3,m4⟩ (by omega) (by omega)
 have f2:=jud_in_RuP a l ⟨b0,b1,b2,b3,b4,b5,b6,b7,k0,k1,k2,k3,k4⟩ ⟨c0,c1,c2,c3,c4,c5,c6,c7,m0,m1,m2,m3,m4⟩
 have f3:=jud_immutable_RuP a l ⟨b0,b1,b2,b3,b4,b5,b6,b7,k0,k1,k2,k3,k4⟩ ⟨c0,c1,c2,c3,c4,c5,c6,c7,m0,m1,m2,m3,m4⟩
 have f4:=err_younger_RuP a l x y ⟨b0,b1,b2,b3,b4,b5,b6,b7,k0,k1,k2,k3,k4⟩ (by omega) (by omega)
 have f5:=err_hit_RuP a l ⟨b0,b1,b2,b3,b4,b5,b6,b7,k0,k1,k2,k3,k4⟩ ⟨c0,c1,c2,c3,c4,c5,c6,c7,m0,m1,m2,m3,m4⟩
 dsimp only [Ru_RuP.v]at cJ1 cJ2 cE1 cE2 f3
 generalize judP_RuP a l ⟨b0,b1,b2,b3,b4,b5,b6,b7,k0,k1,k2,k3,k4⟩ ⟨c0,c1,c2,c3,c4,c5,c6,c7,m0,m1,m2,m3,m4⟩=J1 at *
 generalize judP_RuP (a-x) (l+y) ⟨b0,b1,b2,b3,b4,b5,b6,b7,k0,k1,k2,k3,k4⟩ ⟨c0,c1,c2,c3,c4,c5,c6,c7,m0,m1,m2,m3,m4⟩=J2 at *
 generalize errP_RuP a l ⟨b0,b1,b2,b3,b4,b5,b6,b7,k0,k1,k2,k3,k4⟩=E1 at *
 generalize errP_RuP (a-x) (l+y) ⟨b0,b1,b2,b3,b4,b5,b6,b7,k0,k1,k2,k3,k4⟩=E2 at *
 have e_j:(J1==0)=false:=by simpa using hj
 have j0:¬J1<0:=by omega
 have j2:¬2<J1:=by omega
 cases b6
 ·cases E1
  ·go_enter Tryz.func6,Tryz.ntmps6
   go_wp2_with fail
   rw [HW1.out,HW2.out,HW3.out]
   refine(cA _ HB.out).mono ?_
   rintro e w1 ⟨rfl,hb⟩
   clear HW1 HW2 HW3 cA
   replace HT:=zH (HT.out.next hb)
   replace HL:=zH (HL.out.next hb)
   replace HX:=zH (HX.out.next hb)
   replace HB:=zH (HB.out.trans (hb.mono HB.out.size))
   clear hb
   have tf0:=(HT.out.2 0 _ rfl).1
   have tf1:=(HT.out.2 1 _ rfl).1
   have lf0:=(HL.out.2 0 _ rfl).1
   have lf1:=(HL.out.2 1 _ rfl).1
   have lf2:=(HL.out.2 2 _ rfl).1
   have lf3:=(HL.out.2 3 _ rfl).1
   have lf4:=(HL.out.2 4 _ rfl).1
   have lf5:=(HL.out.2 5 _ rfl).1
   have lf6:=(HL.out.2 6 _ rfl).1
   have lf7:=(HL.out.2 7 _ rfl).1
   have lf8:=(HL.out.2 8 _ rfl).1
   have lf9:=(HL.out.2 9 _ rfl).1
   have lf10:=(HL.out.2 10 _ rfl).1
   have lf11:=(HL.out.2 11 _ rfl).1
   have lf12:=(HL.out.2 12 _ rfl).1
   have lf13:=(HL.out.2 13 _ rfl).1
   have lf14:=(HL.out.2 14 _ rfl).1
   have lf15:=(HL.out.2 15 _ rfl).1
   have lf16:=(HL.out.2 16 _ rfl).1
   have lf17:=(HL.out.2 17 _ rfl).1
   have lf18:=(HL.out.2 18 _ rfl).1
   have lf19:=(HL.out.2 19 _ rfl).1
   have lf20:=(HL.out.2 20 _ rfl).1
   have lf21:=(HL.out.2 21 _ rfl).1
   have lf22:=(HL.out.2 22 _ rfl).1
   have lf23:=(HL.out.2 23 _ rfl).1
   have lf24:=(HL.out.2 24 _ rfl).1
   have lf25:=(HL.out.2 25 _ rfl).1
   have xf0:=(HX.out.2 0 _ rfl).1
   have xf1:=(HX.out.2 1 _ rfl).1
   go_wp2_with fail
   refine(cJ1 _).mono ?_
   rintro e w2 ⟨rfl,hb⟩
   clear tf0 tf1
   clear lf0 lf1 lf2 lf3 lf4 lf5 lf6 lf7 lf8 lf9 lf10 lf11 lf12 lf13 lf14 lf15 lf16 lf17 lf18 lf19 lf20 lf21 lf22 lf23 lf24 lf25
   clear xf0 xf1
   replace HT:=zH (HT.out.next hb)
   replace HL:=zH (HL.out.next hb)
   replace HX:=zH (HX.out.next hb)
   replace HB:=zH (HB.out.trans (hb.mono HB.out.size))
   clear hb
   have tf0:=(HT.out.2 0 _ rfl).1
   have tf1:=(HT.out.2 1 _ rfl).1
   have lf0:=(HL.out.2 0 _ rfl).1
   have lf1:=(HL.out.2 1 _ rfl).1
   have lf2:=(HL.out.2 2 _ rfl).1
   have lf3:=(HL.out.2 3 _ rfl).1
   have lf4:=(HL.out.2 4 _ rfl).1
   have lf5:=(HL.out.2 5 _ rfl).1
   have lf6:=(HL.out.2 6 _ rfl).1
   have lf7:=(HL.out.2 7 _ rfl).1
   have lf8:=(HL.out.2 8 _ rfl).1
   have lf9:=(HL.out.2 9 _ rfl).1
   have lf10:=(HL.out.2 10 _ rfl).1
   have lf11:=(HL.out.2 11 _ rfl).1
   have lf12:=(HL.out.2 12 _ rfl).1
   have lf13:=(HL.out.2 13 _ rfl).1
   have lf14:=(HL.out.2 14 _ rfl).1
   have lf15:=(HL.out.2 15 _ rfl).1
   have lf16:=(HL.out.2 16 _ rfl).1
   have lf17:=(HL.out.2 17 _ rfl).1
   have lf18:=(HL.out.2 18 _ rfl).1
   have lf19:=(HL.out.2 19 _ rfl).1
   have lf20:=(HL.out.2 20 _ rfl).1
   have lf21:=(HL.out.2 21 _ rfl).1
   have lf22:=(HL.out.2 22 _ rfl).1
   have lf23:=(HL.out.2 23 _ rfl).1
   have lf24:=(HL.out.2 24 _ rfl).1
   have lf25:=(HL.out.2 25 _ rfl).1
   have xf0:=(HX.out.2 0 _ rfl).1
   have xf1:=(HX.out.2 1 _ rfl).1
   go_wp2_with fail
   refine(cJ2 _).mono ?_
   rintro e w3 ⟨rfl,hb⟩
   clear tf0 tf1
   clear lf0 lf1 lf2 lf3 lf4 lf5 lf6 lf7 lf8 lf9 lf10 lf11 lf12 lf13 lf14 lf15 lf16 lf17 lf18 lf19 lf20 lf21 lf22 lf23 lf24 lf25
   clear xf0 xf1
   replace HT:=zH (HT.out.next hb)
   replace HL:=zH (HL.out.next hb)
   replace HX:=zH (HX.out.next hb)
   replace HB:=zH (HB.out.trans (hb.mono HB.out.size))
   clear hb
   have tf0:=(HT.out.2 0 _ rfl).1
   have tf1:=(HT.out.2 1 _ rfl).1
   have lf0:=(HL.out.2 0 _ rfl).1
   have lf1:=(HL.out.2 1 _ rfl).1
   have lf2:=(HL.out.2 2 _ rfl).1
   have lf3:=(HL.out.2 3 _ rfl).1
   have lf4:=(HL.out.2 4 _ rfl).1
   have lf5:=(HL.out.2 5 _ rfl).1
   have lf6:=(HL.out.2 6 _ rfl).1
   have lf7:=(HL.out.2 7 _ rfl).1
   have lf8:=(HL.out.2 8 _ rfl).1
   have lf9:=(HL.out.2 9 _ rfl).1
   have lf10:=(HL.out.2 10 _ rfl).1
   have lf11:=(HL.out.2 11 _ rfl).1
   have lf12:=(HL.out.2 12 _ rfl).1
   have lf13:=(HL.out.2 13 _ rfl).1
   have lf14:=(HL.out.2 14 _ rfl).1
   have lf15:=(HL.out.2 15 _ rfl).1
   have lf16:=(HL.out.2 16 _ rfl).1
   have lf17:=(HL.out.2 17 _ rfl).1
   have lf18:=(HL.out.2 18 _ rfl).1
   have lf19:=(HL.out.2 19 _ rfl).1
   have lf20:=(HL.out.2 20 _ rfl).1
   have lf21:=(HL.out.2 21 _ rfl).1
   have lf22:=(HL.out.2 22 _ rfl).1
   have lf23:=(HL.out.2 23 _ rfl).1
   have lf24:=(HL.out.2 24 _ rfl).1
   have lf25:=(HL.out.2 25 _ rfl).1
   have xf0:=(HX.out.2 0 _ rfl).1
   have xf1:=(HX.out.2 1 _ rfl).1
   go_wp2_with fail
   refine(cE1 _).mono ?_
   rintro e w4 ⟨rfl,hb⟩
   clear tf0 tf1
   clear lf0 lf1 lf2 lf3 lf4 lf5 lf6 lf7 lf8 lf9 lf10 lf11 lf12 lf13 lf14 lf15 lf16 lf17 lf18 lf19 lf20 lf21 lf22 lf23 lf24 lf25
   clear xf0 xf1
   replace HT:=zH (HT.out.next hb)
   replace HL:=zH (HL.out.next hb)
   replace HX:=zH (HX.out.next hb)
   replace HB:=zH (HB.out.trans (hb.mono HB.out.size))
   clear hb
   have tf0:=(HT.out.2 0 _ rfl).1
   have tf1:=(HT.out.2 1 _ rfl).1
   have lf0:=(HL.out.2 0 _ rfl).1
   have lf1:=(HL.out.2 1 _ rfl).1
   have lf2:=(HL.out.2 2 _ rfl).1
   have lf3:=(HL.out.2 3 _ rfl).1
   have lf4:=(HL.out.2 4 _ rfl).1
   have lf5:=(HL.out.2 5 _ rfl).1
   have lf6:=(HL.out.2 6 _ rfl).1
   have lf7:=(HL.out.2 7 _ rfl).1
   have lf8:=(HL.out.2 8 _ rfl).1
   have lf9:=(HL.out.2 9 _ rfl).1
   have lf10:=(HL.out.2 10 _ rfl).1
   have lf11:=(HL.out.2 11 _ rfl).1
   have lf12:=(HL.out.2 12 _ rfl).1
   have lf13:=(HL.out.2 13 _ rfl).1
   have lf14:=(HL.out.2 14 _ rfl).1
   have lf15:=(HL.out.2 15 _ rfl).1
   have lf16:=(HL.out.2 16 _ rfl).1
   have lf17:=(HL.out.2 17 _ rfl).1
   have lf18:=(HL.out.2 18 _ rfl).1
   have lf19:=(HL.out.2 19 _ rfl).1
   have lf20:=(HL.out.2 20 _ rfl).1
   have lf21:=(HL.out.2 21 _ rfl).1
   have lf22:=(HL.out.2 22 _ rfl).1
   have lf23:=(HL.out.2 23 _ rfl).1
   have lf24:=(HL.out.2 24 _ rfl).1
   have lf25:=(HL.out.2 25 _ rfl).1
   have xf0:=(HX.out.2 0 _ rfl).1
   have xf1:=(HX.out.2 1 _ rfl).1
   go_wp2_with fail
   go_ret
   exact⟨by first | rfl | simp,HB.out⟩
  ·obtain rfl:E2=true:=f4 rfl
   go_enter Tryz.func6,Tryz.ntmps6
   go_wp2_with fail
   rw [HW1.out,HW2.out,HW3.out]
   refine(cA _ HB.out).mono ?_
   rintro e w1 ⟨rfl,hb⟩
   clear HW1 HW2 HW3 cA
   replace HT:=zH (HT.out.next hb)
   replace HL:=zH (HL.out.next hb)
   replace HX:=zH (HX.out.next hb)
   replace HB:=zH (HB.out.trans (hb.mono HB.out.size))
   clear hb
   have tf0:=(HT.out.2 0 _ rfl).1
   have tf1:=(HT.out.2 1 _ rfl).1
   have lf0:=(HL.out.2 0 _ rfl).1
   have lf1:=(HL.out.2 1 _ rfl).1
   have lf2:=(HL.out.2 2 _ rfl).1
   have lf3:=(HL.out.2 3 _ rfl).1
   have lf4:=(HL.out.2 4 _ rfl).1
   have lf5:=(HL.out.2 5 _ rfl).1
   have lf6:=(HL.out.2 6 _ rfl).1
   have lf7:=(HL.out.2 7 _ rfl).1
   have lf8:=(HL.out.2 8 _ rfl).1
   have lf9:=(HL.out.2 9 _ rfl).1
   have lf10:=(HL.out.2 10 _ rfl).1
   have lf11:=(HL.out.2 11 _ rfl).1
   have lf12:=(HL.out.2 12 _ rfl).1
   have lf13:=(HL.out.2 13 _ rfl).1
   have lf14:=(HL.out.2 14 _ rfl).1
   have lf15:=(HL.out.2 15 _ rfl).1
   have lf16:=(HL.out.2 16 _ rfl).1
   have lf17:=(HL.out.2 17 _ rfl).1
   have lf18:=(HL.out.2 18 _ rfl).1
   have lf19:=(HL.out.2 19 _ rfl).1
   have lf20:=(HL.out.2 20 _ rfl).1
   have lf21:=(HL.out.2 21 _ rfl).1
   have lf22:=(HL.out.2 22 _ rfl).1
   have lf23:=(HL.out.2 23 _ rfl).1
   have lf24:=(HL.out.2 24 _ rfl).1
   have lf25:=(HL.out.2 25 _ rfl).1
   have xf0:=(HX.out.2 0 _ rfl).1
   have xf1:=(HX.out.2 1 _ rfl).1
   go_wp2_with fail
   refine(cJ1 _).mono ?_
   rintro e w2 ⟨rfl,hb⟩
   clear tf0 tf1
   clear lf0 lf1 lf2 lf3 lf4 lf5 lf6 lf7 lf8 lf9 lf10 lf11 lf12 lf13 lf14 lf15 lf16 lf17 lf18 lf19 lf20 lf21 lf22 lf23 lf24 lf25
   clear xf0 xf1
   replace HT:=zH (HT.out.next hb)
   replace HL:=zH (HL.out.next hb)
   replace HX:=zH (HX.out.next hb)
   replace HB:=zH (HB.out.trans (hb.mono HB.out.size))
   clear hb
   have tf0:=(HT.out.2 0 _ rfl).1
   have tf1:=(HT.out.2 1 _ rfl).1
   have lf0:=(HL.out.2 0 _ rfl).1
   have lf1:=(HL.out.2 1 _ rfl).1
   have lf2:=(HL.out.2 2 _ rfl).1
   have lf3:=(HL.out.2 3 _ rfl).1
   have lf4:=(HL.out.2 4 _ rfl).1
   have lf5:=(HL.out.2 5 _ rfl).1
   have lf6:=(HL.out.2 6 _ rfl).1
   have lf7:=(HL.out.2 7 _ rfl).1
   have lf8:=(HL.out.2 8 _ rfl).1
   have lf9:=(HL.out.2 9 _ rfl).1
   have lf10:=(HL.out.2 10 _ rfl).1
   have lf11:=(HL.out.2 11 _ rfl).1
   have lf12:=(HL.out.2 12 _ rfl).1
   have lf13:=(HL.out.2 13 _ rfl).1
   have lf14:=(HL.out.2 14 _ rfl).1
   have lf15:=(HL.out.2 15 _ rfl).1
   have lf16:=(HL.out.2 16 _ rfl).1
   have lf17:=(HL.out.2 17 _ rfl).1
   have lf18:=(HL.out.2 18 _ rfl).1
   have lf19:=(HL.out.2 19 _ rfl).1
   have lf20:=(HL.out.2 20 _ rfl).1
   have lf21:=(HL.out.2 21 _ rfl).1
   have lf22:=(HL.out.2 22 _ rfl).1
   have lf23:=(HL.out.2 23 _ rfl).1
   have lf24:=(HL.out.2 24 _ rfl).1
   have lf25:=(HL.out.2 25 _ rfl).1
   have xf0:=(HX.out.2 0 _ rfl).1
   have xf1:=(HX.out.2 1 _ rfl).1
   go_wp2_with fail
   refine(cJ2 _).mono ?_
   rintro e w3 ⟨rfl,hb⟩
   clear tf0 tf1
   clear lf0 lf1 lf2 lf3 lf4 lf5 lf6 lf7 lf8 lf9 lf10 lf11 lf12 lf13 lf14 lf15 lf16 lf17 lf18 lf19 lf20 lf21 lf22 lf23 lf24 lf25
   clear xf0 xf1
   replace HT:=zH (HT.out.next hb)
   replace HL:=zH (HL.out.next hb)
   replace HX:=zH (HX.out.next hb)
   replace HB:=zH (HB.out.trans (hb.mono HB.out.size))
   clear hb
   have tf0:=(HT.out.2 0 _ rfl).1
   have tf1:=(HT.out.2 1 _ rfl).1
   have lf0:=(HL.out.2 0 _ rfl).1
   have lf1:=(HL.out.2 1 _ rfl).1
   have lf2:=(HL.out.2 2 _ rfl).1
   have lf3:=(HL.out.2 3 _ rfl).1
   have lf4:=(HL.out.2 4 _ rfl).1
   have lf5:=(HL.out.2 5 _ rfl).1
   have lf6:=(HL.out.2 6 _ rfl).1
   have lf7:=(HL.out.2 7 _ rfl).1
   have lf8:=(HL.out.2 8 _ rfl).1
   have lf9:=(HL.out.2 9 _ rfl).1
   have lf10:=(HL.out.2 10 _ rfl).1
   have lf11:=(HL.out.2 11 _ rfl).1
   have lf12:=(HL.out.2 12 _ rfl).1
   have lf13:=(HL.out.2 13 _ rfl).1
   have lf14:=(HL.out.2 14 _ rfl).1
   have lf15:=(HL.out.2 15 _ rfl).1
   have lf16:=(HL.out.2 16 _ rfl).1
   have lf17:=(HL.out.2 17 _ rfl).1
   have lf18:=(HL.out.2 18 _ rfl).1
   have lf19:=(HL.out.2 19 _ rfl).1
   have lf20:=(HL.out.2 20 _ rfl).1
   have lf21:=(HL.out.2 21 _ rfl).1
   have lf22:=(HL.out.2 22 _ rfl).1
   have lf23:=(HL.out.2 23 _ rfl).1
   have lf24:=(HL.out.2 24 _ rfl).1
   have lf25:=(HL.out.2 25 _ rfl).1
   have xf0:=(HX.out.2 0 _ rfl).1
   have xf1:=(HX.out.2 1 _ rfl).1
   go_wp2_with fail
   refine(cE1 _).mono ?_
   rintro e w4 ⟨rfl,hb⟩
   clear tf0 tf1
   clear lf0 lf1 lf2 lf3 lf4 lf5 lf6 lf7 lf8 lf9 lf10 lf11 lf12 lf13 lf14 lf15 lf16 lf17 lf18 lf19 lf20 lf21 lf22 lf23 lf24 lf25
   clear xf0 xf1
   replace HT:=zH (HT.out.next hb)
   replace HL:=zH (HL.out.next hb)
   replace HX:=zH (HX.out.next hb)
   replace HB:=zH (HB.out.trans (hb.mono HB.out.size))
   clear hb
   have tf0:=(HT.out.2 0 _ rfl).1
   have tf1:=(HT.out.2 1 _ rfl).1
   have lf0:=(HL.out.2 0 _ rfl).1
   have lf1:=(HL.out.2 1 _ rfl).1
   have lf2:=(HL.out.2 2 _ rfl).1
   have lf3:=(HL.out.2 3 _ rfl).1
   have lf4:=(HL.out.2 4 _ rfl).1
   have lf5:=(HL.out.2 5 _ rfl).1
   have lf6:=(HL.out.2 6 _ rfl).1
   have lf7:=(HL.out.2 7 _ rfl).1
   have lf8:=(HL.out.2 8 _ rfl).1
   have lf9:=(HL.out.2 9 _ rfl).1
   have lf10:=(HL.out.2 10 _ rfl).1
   have lf11:=(HL.out.2 11 _ rfl).1
   have lf12:=(HL.out.2 12 _ rfl).1
   have lf13:=(HL.out.2 13 _ rfl).1
   have lf14:=(HL.out.2 14 _ rfl).1
   have lf15:=(HL.out.2 15 _ rfl).1
   have lf16:=(HL.out.2 16 _ rfl).1
   have lf17:=(HL.out.2 17 _ rfl).1
   have lf18:=(HL.out.2 18 _ rfl).1
   have lf19:=(HL.out.2 19 _ rfl).1
   have lf20:=(HL.out.2 20 _ rfl).1
   have lf21:=(HL.out.2 21 _ rfl).1
   have lf22:=(HL.out.2 22 _ rfl).1
   have lf23:=(HL.out.2 23 _ rfl).1
   have lf24:=(HL.out.2 24 _ rfl).1
   have lf25:=(HL.out.2 25 _ rfl).1
   have xf0:=(HX.out.2 0 _ rfl).1
   have xf1:=(HX.out.2 1 _ rfl).1
   go_wp2_with fail
   refine(cE2 _).mono ?_
   rintro e w5 ⟨rfl,hb⟩
   clear tf0 tf1
   clear lf0 lf1 lf2 lf3 lf4 lf5 lf6 lf7 lf8 lf9 lf10 lf11 lf12 lf13 lf14 lf15 lf16 lf17 lf18 lf19 lf20 lf21 lf22 lf23 lf24 lf25
   clear xf0 xf1
   replace HT:=zH (HT.out.next hb)
   replace HL:=zH (HL.out.next hb)
   replace HX:=zH (HX.out.next hb)
   replace HB:=zH (HB.out.trans (hb.mono HB.out.size))
   clear hb
   have tf0:=(HT.out.2 0 _ rfl).1
   have tf1:=(HT.out.2 1 _ rfl).1
   have lf0:=(HL.out.2 0 _ rfl).1
   have lf1:=(HL.out.2 1 _ rfl).1
   have lf2:=(HL.out.2 2 _ rfl).1
   have lf3:=(HL.out.2 3 _ rfl).1
   have lf4:=(HL.out.2 4 _ rfl).1
   have lf5:=(HL.out.2 5 _ rfl).1
   have lf6:=(HL.out.2 6 _ rfl).1
   have lf7:=(HL.out.2 7 _ rfl).1
   have lf8:=(HL.out.2 8 _ rfl).1
   have lf9:=(HL.out.2 9 _ rfl).1
   have lf10:=(HL.out.2 10 _ rfl).1
   have lf11:=(HL.out.2 11 _ rfl).1
   have lf12:=(HL.out.2 12 _ rfl).1
   have lf13:=(HL.out.2 13 _ rfl).1
   have lf14:=(HL.out.2 14 _ rfl).1
   have lf15:=(HL.out.2 15 _ rfl).1
   have lf16:=(HL.out.2 16 _ rfl).1
   have lf17:=(HL.out.2 17 _ rfl).1
   have lf18:=(HL.out.2 18 _ rfl).1
   have lf19:=(HL.out.2 19 _ rfl).1
   have lf20:=(HL.out.2 20 _ rfl).1
   have lf21:=(HL.out.2 21 _ rfl).1
   have lf22:=(HL.out.2 22 _ rfl).1
   have lf23:=(HL.out.2 23 _ rfl).1
   have lf24:=(HL.out.2 24 _ rfl).1
   have lf25:=(HL.out.2 25 _ rfl).1
   have xf0:=(HX.out.2 0 _ rfl).1
   have xf1:=(HX.out.2 1 _ rfl).1
   go_wp2_with fail
   go_ret
   exact⟨by first | rfl | simp,HB.out⟩
 ·cases b1
  ·exact absurd (f3 h9 rfl rfl) hj
  ·cases E1
   ·go_enter Tryz.func6,Tryz.ntmps6
    go_wp2_with fail
    rw [HW1.out,HW2.out,HW3.out]
    refine(cA _ HB.out).mono ?_
    rintro e w1 ⟨rfl,hb⟩
    clear HW1 HW2 HW3 cA
    replace HT:=zH (HT.out.next hb)
    replace HL:=zH (HL.out.next hb)
    replace HX:=zH (HX.out.next hb)
    replace HB:=zH (HB.out.trans (hb.mono HB.out.size))
    clear hb
    have tf0:=(HT.out.2 0 _ rfl).1
    have tf1:=(HT.out.2 1 _ rfl).1
    have lf0:=(HL.out.2 0 _ rfl).1
    have lf1:=(HL.out.2 1 _ rfl).1
    have lf2:=(HL.out.2 2 _ rfl).1
    have lf3:=(HL.out.2 3 _ rfl).1
    have lf4:=(HL.out.2 4 _ rfl).1
    have lf5:=(HL.out.2 5 _ rfl).1
    have lf6:=(HL.out.2 6 _ rfl).1
    have lf7:=(HL.out.2 7 _ rfl).1
    have lf8:=(HL.out.2 8 _ rfl).1
    have lf9:=(HL.out.2 9 _ rfl).1
    have lf10:=(HL.out.2 10 _ rfl).1
    have lf11:=(HL.out.2 11 _ rfl).1
    have lf12:=(HL.out.2 12 _ rfl).1
    have lf13:=(HL.out.2 13 _ rfl).1
    have lf14:=(HL.out.2 14 _ rfl).1
    have lf15:=(HL.out.2 15 _ rfl).1
    have lf16:=(HL.out.2 16 _ rfl).1
    have lf17:=(HL.out.2 17 _ rfl).1
    have lf18:=(HL.out.2 18 _ rfl).1
    have lf19:=(HL.out.2 19 _ rfl).1
    have lf20:=(HL.out.2 20 _ rfl).1
    have lf21:=(HL.out.2 21 _ rfl).1
    have lf22:=(HL.out.2 22 _ rfl).1
    have lf23:=(HL.out.2 23 _ rfl).1
    have lf24:=(HL.out.2 24 _ rfl).1
    have lf25:=(HL.out.2 25 _ rfl).1
    have xf0:=(HX.out.2 0 _ rfl).1
    have xf1:=(HX.out.2 1 _ rfl).1
    go_wp2_with fail
    refine(cJ1 _).mono ?_
    rintro e w2 ⟨rfl,hb⟩
    clear tf0 tf1
    clear lf0 lf1 lf2 lf3 lf4 lf5 lf6 lf7 lf8 lf9 lf10 lf11 lf12 lf13 lf14 lf15 lf16 lf17 lf18 lf19 lf20 lf21 lf22 lf23 lf24 lf25
    clear xf0 xf1
    replace HT:=zH (HT.out.next hb)
    replace HL:=zH (HL.out.next hb)
    replace HX:=zH (HX.out.next hb)
    replace HB:=zH (HB.out.trans (hb.mono HB.out.size))
    clear hb
    have tf0:=(HT.out.2 0 _ rfl).1
    have tf1:=(HT.out.2 1 _ rfl).1
    have lf0:=(HL.out.2 0 _ rfl).1
    have lf1:=(HL.out.2 1 _ rfl).1
    have lf2:=(HL.out.2 2 _ rfl).1
    have lf3:=(HL.out.2 3 _ rfl).1
    have lf4:=(HL.out.2 4 _ rfl).1
    have lf5:=(HL.out.2 5 _ rfl).1
    have lf6:=(HL.out.2 6 _ rfl).1
    have lf7:=(HL.out.2 7 _ rfl).1
    have lf8:=(HL.out.2 8 _ rfl).1
    have lf9:=(HL.out.2 9 _ rfl).1
    have lf10:=(HL.out.2 10 _ rfl).1
    have lf11:=(HL.out.2 11 _ rfl).1
    have lf12:=(HL.out.2 12 _ rfl).1
    have lf13:=(HL.out.2 13 _ rfl).1
    have lf14:=(HL.out.2 14 _ rfl).1
    have lf15:=(HL.out.2 15 _ rfl).1
    have lf16:=(HL.out.2 16 _ rfl).1
    have lf17:=(HL.out.2 17 _ rfl).1
    have lf18:=(HL.out.2 18 _ rfl).1
    have lf19:=(HL.out.2 19 _ rfl).1
    have lf20:=(HL.out.2 20 _ rfl).1
    have lf21:=(HL.out.2 21 _ rfl).1
    have lf22:=(HL.out.2 22 _ rfl).1
    have lf23:=(HL.out.2 23 _ rfl).1
    have lf24:=(HL.out.2 24 _ rfl).1
    have lf25:=(HL.out.2 25 _ rfl).1
    have xf0:=(HX.out.2 0 _ rfl).1
    have xf1:=(HX.out.2 1 _ rfl).1
    go_wp2_with fail
    refine(cJ2 _).mono ?_
    rintro e w3 ⟨rfl,hb⟩
    clear tf0 tf1
    clear lf0 lf1 lf2 lf3 lf4 lf5 lf6 lf7 lf8 lf9 lf10 lf11 lf12 lf13 lf14 lf15 lf16 lf17 lf18 lf19 lf20 lf21 lf22 lf23 lf24 lf25
    clear xf0 xf1
    replace HT:=zH (HT.out.next hb)
    replace HL:=zH (HL.out.next hb)
    replace HX:=zH (HX.out.next hb)
    replace HB:=zH (HB.out.trans (hb.mono HB.out.size))
    clear hb
    have tf0:=(HT.out.2 0 _ rfl).1
    have tf1:=(HT.out.2 1 _ rfl).1
    have lf0:=(HL.out.2 0 _ rfl).1
    have lf1:=(HL.out.2 1 _ rfl).1
    have lf2:=(HL.out.2 2 _ rfl).1
    have lf3:=(HL.out.2 3 _ rfl).1
    have lf4:=(HL.out.2 4 _ rfl).1
    have lf5:=(HL.out.2 5 _ rfl).1
    have lf6:=(HL.out.2 6 _ rfl).1
    have lf7:=(HL.out.2 7 _ rfl).1
    have lf8:=(HL.out.2 8 _ rfl).1
    have lf9:=(HL.out.2 9 _ rfl).1
    have lf10:=(HL.out.2 10 _ rfl).1
    have lf11:=(HL.out.2 11 _ rfl).1
    have lf12:=(HL.out.2 12 _ rfl).1
    have lf13:=(HL.out.2 13 _ rfl).1
    have lf14:=(HL.out.2 14 _ rfl).1
    have lf15:=(HL.out.2 15 _ rfl).1
    have lf16:=(HL.out.2 16 _ rfl).1
    have lf17:=(HL.out.2 17 _ rfl).1
    have lf18:=(HL.out.2 18 _ rfl).1
    have lf19:=(HL.out.2 19 _ rfl).1
    have lf20:=(HL.out.2 20 _ rfl).1
    have lf21:=(HL.out.2 21 _ rfl).1
    have lf22:=(HL.out.2 22 _ rfl).1
    have lf23:=(HL.out.2 23 _ rfl).1
    have lf24:=(HL.out.2 24 _ rfl).1
    have lf25:=(HL.out.2 25 _ rfl).1
    have xf0:=(HX.out.2 0 _ rfl).1
    have xf1:=(HX.out.2 1 _ rfl).1
    go_wp2_with fail
    refine(cE1 _).mono ?_
    rintro e w4 ⟨rfl,hb⟩
    clear tf0 tf1
    clear lf0 lf1 lf2 lf3 lf4 lf5 lf6 lf7 lf8 lf9 lf10 lf11 lf12 lf13 lf14 lf15 lf16 lf17 lf18 lf19 lf20 lf21 lf22 lf23 lf24 lf25
    clear xf0 xf1
    replace HT:=zH (HT.out.next hb)
    replace HL:=zH (HL.out.next hb)
    replace HX:=zH (HX.out.next hb)
    replace HB:=zH (HB.out.trans (hb.mono HB.out.size))
    clear hb
    have tf0:=(HT.out.2 0 _ rfl).1
    have tf1:=(HT.out.2 1 _ rfl).1
    have lf0:=(HL.out.2 0 _ rfl).1
    have lf1:=(HL.out.2 1 _ rfl).1
    have lf2:=(HL.out.2 2 _ rfl).1
    have lf3:=(HL.out.2 3 _ rfl).1
    have lf4:=(HL.out.2 4 _ rfl).1
    have lf5:=(HL.out.2 5 _ rfl).1
    have lf6:=(HL.out.2 6 _ rfl).1
    have lf7:=(HL.out.2 7 _ rfl).1
    have lf8:=(HL.out.2 8 _ rfl).1
    have lf9:=(HL.out.2 9 _ rfl).1
    have lf10:=(HL.out.2 10 _ rfl).1
    have lf11:=(HL.out.2 11 _ rfl).1
    have lf12:=(HL.out.2 12 _ rfl).1
    have lf13:=(HL.out.2 13 _ rfl).1
    have lf14:=(HL.out.2 14 _ rfl).1
    have lf15:=(HL.out.2 15 _ rfl).1
    have lf16:=(HL.out.2 16 _ rfl).1
    have lf17:=(HL.out.2 17 _ rfl).1
    have lf18:=(HL.out.2 18 _ rfl).1
    have lf19:=(HL.out.2 19 _ rfl).1
    have lf20:=(HL.out.2 20 _ rfl).1
    have lf21:=(HL.out.2 21 _ rfl).1
    have lf22:=(HL.out.2 22 _ rfl).1
    have lf23:=(HL.out.2 23 _ rfl).1
    have lf24:=(HL.out.2 24 _ rfl).1
    have lf25:=(HL.out.2 25 _ rfl).1
    have xf0:=(HX.out.2 0 _ rfl).1
    have xf1:=(HX.out.2 1 _ rfl).1
    go_wp2_with fail
    go_ret
    exact⟨by first | rfl | simp,HB.out⟩
   ·obtain rfl:E2=true:=f4 rfl
    go_enter Tryz.func6,Tryz.ntmps6
    go_wp2_with fail
    rw [HW1.out,HW2.out,HW3.out]
    refine(cA _ HB.out).mono ?_
    rintro e w1 ⟨rfl,hb⟩
    clear HW1 HW2 HW3 cA
    replace HT:=zH (HT.out.next hb)
    replace HL:=zH (HL.out.next hb)
    replace HX:=zH (HX.out.next hb)
    replace HB:=zH (HB.out.trans (hb.mono HB.out.size))
    clear hb
    have tf0:=(HT.out.2 0 _ rfl).1
    have tf1:=(HT.out.2 1 _ rfl).1
    have lf0:=(HL.out.2 0 _ rfl).1
    have lf1:=(HL.out.2 1 _ rfl).1
    have lf2:=(HL.out.2 2 _ rfl).1
    have lf3:=(HL.out.2 3 _ rfl).1
    have lf4:=(HL.out.2 4 _ rfl).1
    have lf5:=(HL.out.2 5 _ rfl).1
    have lf6:=(HL.out.2 6 _ rfl).1
    have lf7:=(HL.out.2 7 _ rfl).1
    have lf8:=(HL.out.2 8 _ rfl).1
    have lf9:=(HL.out.2 9 _ rfl).1
    have lf10:=(HL.out.2 10 _ rfl).1
    have lf11:=(HL.out.2 11 _ rfl).1
    have lf12:=(HL.out.2 12 _ rfl).1
    have lf13:=(HL.out.2 13 _ rfl).1
    have lf14:=(HL.out.2 14 _ rfl).1
    have lf15:=(HL.out.2 15 _ rfl).1
    have lf16:=(HL.out.2 16 _ rfl).1
    have lf17:=(HL.out.2 17 _ rfl).1
    have lf18:=(HL.out.2 18 _ rfl).1
    have lf19:=(HL.out.2 19 _ rfl).1
    have lf20:=(HL.out.2 20 _ rfl).1
    have lf21:=(HL.out.2 21 _ rfl).1
    have lf22:=(HL.out.2 22 _ rfl).1
    have lf23:=(HL.out.2 23 _ rfl).1
    have lf24:=(HL.out.2 24 _ rfl).1
    have lf25:=(HL.out.2 25 _ rfl).1
    have xf0:=(HX.out.2 0 _ rfl).1
    have xf1:=(HX.out.2 1 _ rfl).1
    go_wp2_with fail
    refine(cJ1 _).mono ?_
    rintro e w2 ⟨rfl,hb⟩
    clear tf0 tf1
    clear lf0 lf1 lf2 lf3 lf4 lf5 lf6 lf7 lf8 lf9 lf10 lf11 lf12 lf13 lf14 lf15 lf16 lf17 lf18 lf19 lf20 lf21 lf22 lf23 lf24 lf25
    clear xf0 xf1
    replace HT:=zH (HT.out.next hb)
    replace HL:=zH (HL.out.next hb)
    replace HX:=zH (HX.out.next hb)
    replace HB:=zH (HB.out.trans (hb.mono HB.out.size))
    clear hb
    have tf0:=(HT.out.2 0 _ rfl).1
    have tf1:=(HT.out.2 1 _ rfl).1
    have lf0:=(HL.out.2 0 _ rfl).1
    have lf1:=(HL.out.2 1 _ rfl).1
    have lf2:=(HL.out.2 2 _ rfl).1
    have lf3:=(HL.out.2 3 _ rfl).1
    have lf4:=(HL.out.2 4 _ rfl).1
    have lf5:=(HL.out.2 5 _ rfl).1
    have lf6:=(HL.out.2 6 _ rfl).1
    have lf7:=(HL.out.2 7 _ rfl).1
    have lf8:=(HL.out.2 8 _ rfl).1
    have lf9:=(HL.out.2 9 _ rfl).1
    have lf10:=(HL.out.2 10 _ rfl).1
    have lf11:=(HL.out.2 11 _ rfl).1
    have lf12:=(HL.out.2 12 _ rfl).1
    have lf13:=(HL.out.2 13 _ rfl).1
    have lf14:=(HL.out.2 14 _ rfl).1
    have lf15:=(HL.out.2 15 _ rfl).1
    have lf16:=(HL.out.2 16 _ rfl).1
    have lf17:=(HL.out.2 17 _ rfl).1
    have lf18:=(HL.out.2 18 _ rfl).1
    have lf19:=(HL.out.2 19 _ rfl).1
    have lf20:=(HL.out.2 20 _ rfl).1
    have lf21:=(HL.out.2 21 _ rfl).1
    have lf22:=(HL.out.2 22 _ rfl).1
    have lf23:=(HL.out.2 23 _ rfl).1
    have lf24:=(HL.out.2 24 _ rfl).1
    have lf25:=(HL.out.2 25 _ rfl).1
    have xf0:=(HX.out.2 0 _ rfl).1
    have xf1:=(HX.out.2 1 _ rfl).1
    go_wp2_with fail
    refine(cJ2 _).mono ?_
    rintro e w3 ⟨rfl,hb⟩
    clear tf0 tf1
    clear lf0 lf1 lf2 lf3 lf4 lf5 lf6 lf7 lf8 lf9 lf10 lf11 lf12 lf13 lf14 lf15 lf16 lf17 lf18 lf19 lf20 lf21 lf22 lf23 lf24 lf25
    clear xf0 xf1
    replace HT:=zH (HT.out.next hb)
    replace HL:=zH (HL.out.next hb)
    replace HX:=zH (HX.out.next hb)
    replace HB:=zH (HB.out.trans (hb.mono HB.out.size))
    clear hb
    have tf0:=(HT.out.2 0 _ rfl).1
    have tf1:=(HT.out.2 1 _ rfl).1
    have lf0:=(HL.out.2 0 _ rfl).1
    have lf1:=(HL.out.2 1 _ rfl).1
    have lf2:=(HL.out.2 2 _ rfl).1
    have lf3:=(HL.out.2 3 _ rfl).1
    have lf4:=(HL.out.2 4 _ rfl).1
    have lf5:=(HL.out.2 5 _ rfl).1
    have lf6:=(HL.out.2 6 _ rfl).1
    have lf7:=(HL.out.2 7 _ rfl).1
    have lf8:=(HL.out.2 8 _ rfl).1
    have lf9:=(HL.out.2 9 _ rfl).1
    have lf10:=(HL.out.2 10 _ rfl).1
    have lf11:=(HL.out.2 11 _ rfl).1
    have lf12:=(HL.out.2 12 _ rfl).1
    have lf13:=(HL.out.2 13 _ rfl).1
    have lf14:=(HL.out.2 14 _ rfl).1
    have lf15:=(HL.out.2 15 _ rfl).1
    have lf16:=(HL.out.2 16 _ rfl).1
    have lf17:=(HL.out.2 17 _ rfl).1
    have lf18:=(HL.out.2 18 _ rfl).1
    have lf19:=(HL.out.2 19 _ rfl).1
    have lf20:=(HL.out.2 20 _ rfl).1
    have lf21:=(HL.out.2 21 _ rfl).1
    have lf22:=(HL.out.2 22 _ rfl).1
    have lf23:=(HL.out.2 23 _ rfl).1
    have lf24:=(HL.out.2 24 _ rfl).1
    have lf25:=(HL.out.2 25 _ rfl).1
    have xf0:=(HX.out.2 0 _ rfl).1
    have xf1:=(HX.out.2 1 _ rfl).1
    go_wp2_with fail
    refine(cE1 _).mono ?_
    rintro e w4 ⟨rfl,hb⟩
    clear tf0 tf1
    clear lf0 lf1 lf2 lf3 lf4 lf5 lf6 lf7 lf8 lf9 lf10 lf11 lf12 lf13 lf14 lf15 lf16 lf17 lf18 lf19 lf20 lf21 lf22 lf23 lf24 lf25
    clear xf0 xf1
    replace HT:=zH (HT.out.next hb)
    replace HL:=zH (HL.out.next hb)
    replace HX:=zH (HX.out.next hb)
    replace HB:=zH (HB.out.trans (hb.mono HB.out.size))
    clear hb
    have tf0:=(HT.out.2 0 _ rfl).1
    have tf1:=(HT.out.2 1 _ rfl).1
    have lf0:=(HL.out.2 0 _ rfl).1
    have lf1:=(HL.out.2 1 _ rfl).1
    have lf2:=(HL.out.2 2 _ rfl).1
    have lf3:=(HL.out.2 3 _ rfl).1
    have lf4:=(HL.out.2 4 _ rfl).1
    have lf5:=(HL.out.2 5 _ rfl).1
    have lf6:=(HL.out.2 6 _ rfl).1
    have lf7:=(HL.out.2 7 _ rfl).1
    have lf8:=(HL.out.2 8 _ rfl).1
    have lf9:=(HL.out.2 9 _ rfl).1
    have lf10:=(HL.out.2 10 _ rfl).1
    have lf11:=(HL.out.2 11 _ rfl).1
    have lf12:=(HL.out.2 12 _ rfl).1
    have lf13:=(HL.out.2 13 _ rfl).1
    have lf14:=(HL.out.2 14 _ rfl).1
    have lf15:=(HL.out.2 15 _ rfl).1
    have lf16:=(HL.out.2 16 _ rfl).1
    have lf17:=(HL.out.2 17 _ rfl).1
    have lf18:=(HL.out.2 18 _ rfl).1
    have lf19:=(HL.out.2 19 _ rfl).1
    have lf20:=(HL.out.2 20 _ rfl).1
    have lf21:=(HL.out.2 21 _ rfl).1
    have lf22:=(HL.out.2 22 _ rfl).1
    have lf23:=(HL.out.2 23 _ rfl).1
    have lf24:=(HL.out.2 24 _ rfl).1
    have lf25:=(HL.out.2 25 _ rfl).1
    have xf0:=(HX.out.2 0 _ rfl).1
    have xf1:=(HX.out.2 1 _ rfl).1
    go_wp2_with fail
    refine(cE2 _).mono ?_
    rintro e w5 ⟨rfl,hb⟩
    clear tf0 tf1
    clear lf0 lf1 lf2 lf3 lf4 lf5 lf6 lf7 lf8 lf9 lf10 lf11 lf12 lf13 lf14 lf15 lf16 lf17 lf18 lf19 lf20 lf21 lf22 lf23 lf24 lf25
    clear xf0 xf1
    replace HT:=zH (HT.out.next hb)
    replace HL:=zH (HL.out.next hb)
    replace HX:=zH (HX.out.next hb)
    replace HB:=zH (HB.out.trans (hb.mono HB.out.size))
    clear hb
    have tf0:=(HT.out.2 0 _ rfl).1
    have tf1:=(HT.out.2 1 _ rfl).1
    have lf0:=(HL.out.2 0 _ rfl).1
    have lf1:=(HL.out.2 1 _ rfl).1
    have lf2:=(HL.out.2 2 _ rfl).1
    have lf3:=(HL.out.2 3 _ rfl).1
    have lf4:=(HL.out.2 4 _ rfl).1
    have lf5:=(HL.out.2 5 _ rfl).1
    have lf6:=(HL.out.2 6 _ rfl).1
    have lf7:=(HL.out.2 7 _ rfl).1
    have lf8:=(HL.out.2 8 _ rfl).1
    have lf9:=(HL.out.2 9 _ rfl).1
    have lf10:=(HL.out.2 10 _ rfl).1
    have lf11:=(HL.out.2 11 _ rfl).1
    have lf12:=(HL.out.2 12 _ rfl).1
    have lf13:=(HL.out.2 13 _ rfl).1
    have lf14:=(HL.out.2 14 _ rfl).1
    have lf15:=(HL.out.2 15 _ rfl).1
    have lf16:=(HL.out.2 16 _ rfl).1
    have lf17:=(HL.out.2 17 _ rfl).1
    have lf18:=(HL.out.2 18 _ rfl).1
    have lf19:=(HL.out.2 19 _ rfl).1
    have lf20:=(HL.out.2 20 _ rfl).1
    have lf21:=(HL.out.2 21 _ rfl).1
    have lf22:=(HL.out.2 22 _ rfl).1
    have lf23:=(HL.out.2 23 _ rfl).1
    have lf24:=(HL.out.2 24 _ rfl).1
    have lf25:=(HL.out.2 25 _ rfl).1
    have xf0:=(HX.out.2 0 _ rfl).1
    have xf1:=(HX.out.2 1 _ rfl).1
    go_wp2_with fail
    go_ret
    exact⟨by first | rfl | simp,HB.out⟩
theorem pyounger_n2 (a l x y:Int) (b0 b1 b2 b3 b4 b5 b6 b7 c0 c1 c2 c3 c4 c5 c6 c7:Bool) (k0 k1 k2 k3 k4 m0 m1 m2 m3 m4:Int) (w:World) (hA:Alph w) (hT:Tabs w) (hC:Cal w) (g1:¬a<0) (g2:¬l<0) (g3:¬2147483648<a) (g4:¬2147483648<l) (g5:¬x<0) (g6:¬a<x) (g7:¬y<0) (g8:¬2147483648-l<y) (hj:¬judP_RuP a l ⟨b0,b1,b2,b3,b4,b5,b6,b7,k0,k1,k2,k3,k4⟩ ⟨c0,c1,c2,c3,c4,c5,c6,c7,m0,m1,m2,m3,m4⟩=0) (h9:¬a<l) :
  Calls Tryz.prog 6 #[.agg #[.int .i64 a,.int .i64 l],.agg #[.bool b0,.bool b1,.bool b2,.bool b3,.bool b4,.bool b5,.bool b6,.bool b7,.int .i64 k0,.int .i64 k1,.int .i64 k2,.int .i64 k3,.int .i64 k4,.bool c0,.bool c1,.bool c2,.bool c3,.bool c4,.bool c5,.bool c6,.bool c7,.int .i64 m0,.int .i64 m1,.int .i64 m2,.int .i64 m3,.int .i64 m4],.agg #[.int .i64 x,.int .i64 y]] w fun e w'=>e=.returned (.bool true)∧Below w.heap.size w w':=by
 have HC:=zH hC
 have HA:=zH hA
 have HTt:=zH hT
 have cA:=fun W (hb:Below w.heap.size w W)=>awake14_any W (Alph.below HA.out hb) (Utf8Tabs_below HTt.out hb) (Cal.below HC.out hb)
 clear hA hT hC
 obtain⟨W1,hW1⟩:∃W1,w.alloc (.cells #[.int .i64 a,.int .i64 l] 48)=W1:=⟨_,rfl⟩
 obtain⟨W2,hW2⟩:∃W2,W1.alloc (.cells #[.bool b0,.bool b1,.bool b2,.bool b3,.bool b4,.bool b5,.bool b6,.bool b7,.int .i64 k0,.int .i64 k1,.int .i64 k2,.int .i64 k3,.int .i64 k4,.bool c0,.bool c1,.bool c2,.bool c3,.bool c4,.bool c5,.bool c6,.bool c7,.int .i64 m0,.int .i64 m1,.int .i64 m2,.int .i64 m3,.int .i64 m4] 35)=W2:=⟨_,rfl⟩
 obtain⟨W3,hW3⟩:∃W3,W2.alloc (.cells #[.int .i64 x,.int .i64 y] 48)=W3:=⟨_,rfl⟩
 have s1:W1.heap.size=w.heap.size+1:=by rw [← hW1];simp
 have s2:W2.heap.size=w.heap.size+1+1:=by rw [← hW2];simp [s1]
 have be1:Below w.heap.size w W1:=by rw [← hW1];exact(Below.refl _ _).alloc (zR _) _
 have be2:Below W1.heap.size W1 W2:=by rw [← hW2];exact(Below.refl _ _).alloc (zR _) _
 have be3:Below W2.heap.size W2 W3:=by rw [← hW3];exact(Below.refl _ _).alloc (zR _) _
 have ht:BoxN W1 w.heap.size [.int .i64 a,.int .i64 l]:=by rw [← hW1];exact BoxN.made w [.int .i64 a,.int .i64 l] _
 have HT:=zH ((ht.next be2).next be3)
 have hl:BoxN W2 W1.heap.size [.bool b0,.bool b1,.bool b2,.bool b3,.bool b4,.bool b5,.bool b6,.bool b7,.int .i64 k0,.int .i64 k1,.int .i64 k2,.int .i64 k3,.int .i64 k4,.bool c0,.bool c1,.bool c2,.bool c3,.bool c4,.bool c5,.bool c6,.bool c7,.int .i64 m0,.int .i64 m1,.int .i64 m2,.int .i64 m3,.int .i64 m4]:=by rw [← hW2];exact BoxN.made W1 [.bool b0,.bool b1,.bool b2,.bool b3,.bool b4,.bool b5,.bool b6,.bool b7,.int .i64 k0,.int .i64 k1,.int .i64 k2,.int .i64 k3,.int .i64 k4,.bool c0,.bool c1,.bool c2,.bool c3,.bool c4,.bool c5,.bool c6,.bool c7,.int .i64 m0,.int .i64 m1,.int .i64 m2,.int .i64 m3,.int .i64 m4] _
 rw [s1]at hl
 have HL:=zH (hl.next be3)
 have hx:BoxN W3 W2.heap.size [.int .i64 x,.int .i64 y]:=by rw [← hW3];exact BoxN.made W2 [.int .i64 x,.int .i64 y] _
 rw [s2]at hx
 have HX:=zH hx
 have HB:=zH ((be1.trans (be2.mono be1.size)).trans (be3.mono (be1.trans (be2.mono be1.size)).size))
 have HW1:=zH hW1
 have HW2:=zH hW2
 have HW3:=zH hW3
 clear ht hl hx be1 be2 be3 s1 s2 hW1 hW2 hW3
 have cJ1:=fun W=>pjudge_any a l ⟨b0,b1,b2,b3,b4,b5,b6,b7,k0,k1,k2,k3,k4⟩ ⟨c0,c1,c2,c3,c4,c5,c6,c7,m0,m1,m2,m3,m4⟩ W (by omega) (by omega) (by omega) (by omega)
 have cJ2:=fun W=>pjudge_any (a-x) (l+y) ⟨b0,b1,b2,b3,b4,b5,b6,b7,k0,k1,k2,k3,k4⟩ ⟨c0,c1,c2,c3,c4,c5,c6,c7,m0,m1,m2,m3,m4⟩ W (by omega) (by omega) (by omega) (by omega)
 have cE1:=fun W=>ponerr_any a l ⟨b0,b1,b2,b3,b4,b5,b6,b7,k0,k1,k2,k3,k4⟩ W (by omega) (by omega) (by omega) (by omega)
 have cE2:=fun W=>ponerr_any (a-x) (l+y) ⟨b0,b1,b2,b3,b4,b5,b6,b7,k0,k1,k2,k3,k4⟩ W (by omega) (by omega) (by omega) (by omega)
 have f1:=jud_younger_RuP a l x y ⟨b0,b1,b2,b3,b4,b5,b6,b7,k0,k1,k2,k3,k4⟩ ⟨c0,c1,c2,c3,c4,c5,c6,c7,m0,m1,m2,m3,m4⟩ (by omega) (by omega)
 have f2:=jud_in_RuP a l ⟨b0,b1,b2,b3,b4,b5,b6,b7,k0,k1,k2,k3,k4⟩ ⟨c0,c1,c2,c3,c4,c5,c6,c7,m0,m1,m2,m3,m4⟩
 have f3:=jud_immutable_RuP a l ⟨b0,b1,b2,b3,b4,b5,b6,b7,k0,k1,k2,k3,k4⟩ ⟨c0,c1,c2,c3,c4,c5,c6,c7,m0,m1,m2,m3,m4⟩
 have f4:=err_younger_RuP a l x y ⟨b0,b1,b2,b3,b4,b5,b6,b7,k0,k1,k2,k3,k4⟩ (by omega) (by omega)
 have f5:=err_hit_RuP a l ⟨b0,b1,b2,b3,b4,b5,b6,b7,k0,k1,k2,k3,k4⟩ ⟨c0,c1,c2,c3,c4,c5,c6,c7,m0,m1,m2,m3,m4⟩
 dsimp only [Ru_RuP.v]at cJ1 cJ2 cE1 cE2 f3
 generalize judP_RuP a l ⟨b0,b1,b2,b3,b4,b5,b6,b7,k0,k1,k2,k3,k4⟩ ⟨c0,c1,c2,c3,c4,c5,c6,c7,m0,m1,m2,m3,m4⟩=J1 at *
 generalize judP_RuP (a-x) (l+y) ⟨b0,b1,b2,b3,b4,b5,b6,b7,k0,k1,k2,k3,k4⟩ ⟨c0,c1,c2,c3,c4,c5,c6,c7,m0,m1,m2,m3,m4⟩=J2 at *
 generalize errP_RuP a l ⟨b0,b1,b2,b3,b4,b5,b6,b7,k0,k1,k2,k3,k4⟩=E1 at *
 generalize errP_RuP (a-x) (l+y) ⟨b0,b1,b2,b3,b4,b5,b6,b7,k0,k1,k2,k3,k4⟩=E2 at *
 have e_j:(J1==0)=false:=by simpa using hj
 have j0:¬J1<0:=by omega
 have j2:¬2<J1:=by omega
 cases E1
 ·go_enter Tryz.func6,Tryz.ntmps6
  go_wp2_with fail
  rw [HW1.out,HW2.out,HW3.out]
  refine(cA _ HB.out).mono ?_
  rintro e w1 ⟨rfl,hb⟩
  clear HW1 HW2 HW3 cA
  replace HT:=zH (HT.out.next hb)
  replace HL:=zH (HL.out.next hb)
  replace HX:=zH (HX.out.next hb)
  replace HB:=zH (HB.out.trans (hb.mono HB.out.size))
  clear hb
  have tf0:=(HT.out.2 0 _ rfl).1
  have tf1:=(HT.out.2 1 _ rfl).1
  have lf0:=(HL.out.2 0 _ rfl).1
  have lf1:=(HL.out.2 1 _ rfl).1
  have lf2:=(HL.out.2 2 _ rfl).1
  have lf3:=(HL.out.2 3 _ rfl).1
  have lf4:=(HL.out.2 4 _ rfl).1
  have lf5:=(HL.out.2 5 _ rfl).1
  have lf6:=(HL.out.2 6 _ rfl).1
  have lf7:=(HL.out.2 7 _ rfl).1
  have lf8:=(HL.out.2 8 _ rfl).1
  have lf9:=(HL.out.2 9 _ rfl).1
  have lf10:=(HL.out.2 10 _ rfl).1
  have lf11:=(HL.out.2 11 _ rfl).1
  have lf12:=(HL.out.2 12 _ rfl).1
  have lf13:=(HL.out.2 13 _ rfl).1
  have lf14:=(HL.out.2 14 _ rfl).1
  have lf15:=(HL.out.2 15 _ rfl).1
  have lf16:=(HL.out.2 16 _ rfl).1
  have lf17:=(HL.out.2 17 _ rfl).1
  have lf18:=(HL.out.2 18 _ rfl).1
  have lf19:=(HL.out.2 19 _ rfl).1
  have lf20:=(HL.out.2 20 _ rfl).1
  have lf21:=(HL.out.2 21 _ rfl).1
  have lf22:=(HL.out.2 22 _ rfl).1
  have lf23:=(HL.out.2 23 _ rfl).1
  have lf24:=(HL.out.2 24 _ rfl).1
  have lf25:=(HL.out.2 25 _ rfl).1
  have xf0:=(HX.out.2 0 _ rfl).1
  have xf1:=(HX.out.2 1 _ rfl).1
  go_wp2_with fail
  refine(cJ1 _).mono ?_
  rintro e w2 ⟨rfl,hb⟩
  clear tf0 tf1
  clear lf0 lf1 lf2 lf3 lf4 lf5 lf6 lf7 lf8 lf9 lf10 lf11 lf12 lf13 lf14 lf15 lf16 lf17 lf18 lf19 lf20 lf21 lf22 lf23 lf24 lf25
  clear xf0 xf1
  replace HT:=zH (HT.out.next hb)
  replace HL:=zH (HL.out.next hb)
  replace HX:=zH (HX.out.next hb)
  replace HB:=zH (HB.out.trans (hb.mono HB.out.size))
  clear hb
  have tf0:=(HT.out.2 0 _ rfl).1
  have tf1:=(HT.out.2 1 _ rfl).1
  have lf0:=(HL.out.2 0 _ rfl).1
  have lf1:=(HL.out.2 1 _ rfl).1
  have lf2:=(HL.out.2 2 _ rfl).1
  have lf3:=(HL.out.2 3 _ rfl).1
  have lf4:=(HL.out.2 4 _ rfl).1
  have lf5:=(HL.out.2 5 _ rfl).1
  have lf6:=(HL.out.2 6 _ rfl).1
  have lf7:=(HL.out.2 7 _ rfl).1
  have lf8:=(HL.out.2 8 _ rfl).1
  have lf9:=(HL.out.2 9 _ rfl).1
  have lf10:=(HL.out.2 10 _ rfl).1
  have lf11:=(HL.out.2 11 _ rfl).1
  have lf12:=(HL.out.2 12 _ rfl).1
  have lf13:=(HL.out.2 13 _ rfl).1
  have lf14:=(HL.out.2 14 _ rfl).1
  have lf15:=(HL.out.2 15 _ rfl).1
  have lf16:=(HL.out.2 16 _ rfl).1
  have lf17:=(HL.out.2 17 _ rfl).1
  have lf18:=(HL.out.2 18 _ rfl).1
  have lf19:=(HL.out.2 19 _ rfl).1
  have lf20:=(HL.out.2 20 _ rfl).1
  have lf21:=(HL.out.2 21 _ rfl).1
  have lf22:=(HL.out.2 22 _ rfl).1
  have lf23:=(HL.out.2 23 _ rfl).1
  have lf24:=(HL.out.2 24 _ rfl).1
  have lf25:=(HL.out.2 25 _ rfl).1
  have xf0:=(HX.out.2 0 _ rfl).1
  have xf1:=(HX.out.2 1 _ rfl).1
  go_wp2_with fail
  refine(cJ2 _).mono ?_
  rintro e w3 ⟨rfl,hb⟩
  clear tf0 tf1
  clear lf0 lf1 lf2 lf3 lf4 lf5 lf6 lf7 lf8 lf9 lf10 lf11 lf12 lf13 lf14 lf15 lf16 lf17 lf18 lf19 lf20 lf21 lf22 lf23 lf24 lf25
  clear xf0 xf1
  replace HT:=zH (HT.out.next hb)
  replace HL:=zH (HL.out.next hb)
  replace HX:=zH (HX.out.next hb)
  replace HB:=zH (HB.out.trans (hb.mono HB.out.size))
  clear hb
  have tf0:=(HT.out.2 0 _ rfl).1
  have tf1:=(HT.out.2 1 _ rfl).1
  have lf0:=(HL.out.2 0 _ rfl).1
  have lf1:=(HL.out.2 1 _ rfl).1
  have lf2:=(HL.out.2 2 _ rfl).1
  have lf3:=(HL.out.2 3 _ rfl).1
  have lf4:=(HL.out.2 4 _ rfl).1
  have lf5:=(HL.out.2 5 _ rfl).1
  have lf6:=(HL.out.2 6 _ rfl).1
  have lf7:=(HL.out.2 7 _ rfl).1
  have lf8:=(HL.out.2 8 _ rfl).1
  have lf9:=(HL.out.2 9 _ rfl).1
  have lf10:=(HL.out.2 10 _ rfl).1
  have lf11:=(HL.out.2 11 _ rfl).1
  have lf12:=(HL.out.2 12 _ rfl).1
  have lf13:=(HL.out.2 13 _ rfl).1
  have lf14:=(HL.out.2 14 _ rfl).1
  have lf15:=(HL.out.2 15 _ rfl).1
  have lf16:=(HL.out.2 16 _ rfl).1
  have lf17:=(HL.out.2 17 _ rfl).1
  have lf18:=(HL.out.2 18 _ rfl).1
  have lf19:=(HL.out.2 19 _ rfl).1
  have lf20:=(HL.out.2 20 _ rfl).1
  have lf21:=(HL.out.2 21 _ rfl).1
  have lf22:=(HL.out.2 22 _ rfl).1
  have lf23:=(HL.out.2 23 _ rfl).1
  have lf24:=(HL.out.2 24 _ rfl).1
  have lf25:=(HL.out.2 25 _ rfl).1
  have xf0:=(HX.out.2 0 _ rfl).1
  have xf1:=(HX.out.2 1 _ rfl).1
  go_wp2_with fail
  refine(cE1 _).mono ?_
  rintro e w4 ⟨rfl,hb⟩
  clear tf0 tf1
  clear lf0 lf1 lf2 lf3 lf4 lf5 lf6 lf7 lf8 lf9 lf10 lf11 lf12 lf13 lf14 lf15 lf16 lf17 lf18 lf19 lf20 lf21 lf22 lf23 lf24 lf25
  clear xf0 xf1
  replace HT:=zH (HT.out.next hb)
  replace HL:=zH (HL.out.next hb)
  replace HX:=zH (HX.out.next hb)
  replace HB:=zH (HB.out.trans (hb.mono HB.out.size))
  clear hb
  have tf0:=(HT.out.2 0 _ rfl).1
  have tf1:=(HT.out.2 1 _ rfl).1
  have lf0:=(HL.out.2 0 _ rfl).1
  have lf1:=(HL.out.2 1 _ rfl).1
  have lf2:=(HL.out.2 2 _ rfl).1
  have lf3:=(HL.out.2 3 _ rfl).1
  have lf4:=(HL.out.2 4 _ rfl).1
  have lf5:=(HL.out.2 5 _ rfl).1
  have lf6:=(HL.out.2 6 _ rfl).1
  have lf7:=(HL.out.2 7 _ rfl).1
  have lf8:=(HL.out.2 8 _ rfl).1
  have lf9:=(HL.out.2 9 _ rfl).1
  have lf10:=(HL.out.2 10 _ rfl).1
  have lf11:=(HL.out.2 11 _ rfl).1
  have lf12:=(HL.out.2 12 _ rfl).1
  have lf13:=(HL.out.2 13 _ rfl).1
  have lf14:=(HL.out.2 14 _ rfl).1
  have lf15:=(HL.out.2 15 _ rfl).1
  have lf16:=(HL.out.2 16 _ rfl).1
  have lf17:=(HL.out.2 17 _ rfl).1
  have lf18:=(HL.out.2 18 _ rfl).1
  have lf19:=(HL.out.2 19 _ rfl).1
  have lf20:=(HL.out.2 20 _ rfl).1
  have lf21:=(HL.out.2 21 _ rfl).1
  have lf22:=(HL.out.2 22 _ rfl).1
  have lf23:=(HL.out.2 23 _ rfl).1
  have lf24:=(HL.out.2 24 _ rfl).1
  have lf25:=(HL.out.2 25 _ rfl).1
  have xf0:=(HX.out.2 0 _ rfl).1
  have xf1:=(HX.out.2 1 _ rfl).1
  go_wp2_with fail
  go_ret
  exact⟨by first | rfl | simp,HB.out⟩
 ·obtain rfl:E2=true:=f4 rfl
  go_enter Tryz.func6,Tryz.ntmps6
  go_wp2_with fail
  rw [HW1.out,HW2.out,HW3.out]
  refine(cA _ HB.out).mono ?_
  rintro e w1 ⟨rfl,hb⟩
  clear HW1 HW2 HW3 cA
  replace HT:=zH (HT.out.next hb)
  replace HL:=zH (HL.out.next hb)
  replace HX:=zH (HX.out.next hb)
  replace HB:=zH (HB.out.trans (hb.mono HB.out.size))
  clear hb
  have tf0:=(HT.out.2 0 _ rfl).1
  have tf1:=(HT.out.2 1 _ rfl).1
  have lf0:=(HL.out.2 0 _ rfl).1
  have lf1:=(HL.out.2 1 _ rfl).1
  have lf2:=(HL.out.2 2 _ rfl).1
  have lf3:=(HL.out.2 3 _ rfl).1
  have lf4:=(HL.out.2 4 _ rfl).1
  have lf5:=(HL.out.2 5 _ rfl).1
  have lf6:=(HL.out.2 6 _ rfl).1
  have lf7:=(HL.out.2 7 _ rfl).1
  have lf8:=(HL.out.2 8 _ rfl).1
  have lf9:=(HL.out.2 9 _ rfl).1
  have lf10:=(HL.out.2 10 _ rfl).1
  have lf11:=(HL.out.2 11 _ rfl).1
  have lf12:=(HL.out.2 12 _ rfl).1
  have lf13:=(HL.out.2 13 _ rfl).1
  have lf14:=(HL.out.2 14 _ rfl).1
  have lf15:=(HL.out.2 15 _ rfl).1
  have lf16:=(HL.out.2 16 _ rfl).1
  have lf17:=(HL.out.2 17 _ rfl).1
  have lf18:=(HL.out.2 18 _ rfl).1
  have lf19:=(HL.out.2 19 _ rfl).1
  have lf20:=(HL.out.2 20 _ rfl).1
  have lf21:=(HL.out.2 21 _ rfl).1
  have lf22:=(HL.out.2 22 _ rfl).1
  have lf23:=(HL.out.2 23 _ rfl).1
  have lf24:=(HL.out.2 24 _ rfl).1
  have lf25:=(HL.out.2 25 _ rfl).1
  have xf0:=(HX.out.2 0 _ rfl).1
  have xf1:=(HX.out.2 1 _ rfl).1
  go_wp2_with fail
  refine(cJ1 _).mono ?_
  rintro e w2 ⟨rfl,hb⟩
  clear tf0 tf1
  clear lf0 lf1 lf2 lf3 lf4 lf5 lf6 lf7 lf8 lf9 lf10 lf11 lf12 lf13 lf14 lf15 lf16 lf17 lf18 lf19 lf20 lf21 lf22 lf23 lf24 lf25
  clear xf0 xf1
  replace HT:=zH (HT.out.next hb)
  replace HL:=zH (HL.out.next hb)
  replace HX:=zH (HX.out.next hb)
  replace HB:=zH (HB.out.trans (hb.mono HB.out.size))
  clear hb
  have tf0:=(HT.out.2 0 _ rfl).1
  have tf1:=(HT.out.2 1 _ rfl).1
  have lf0:=(HL.out.2 0 _ rfl).1
  have lf1:=(HL.out.2 1 _ rfl).1
  have lf2:=(HL.out.2 2 _ rfl).1
  have lf3:=(HL.out.2 3 _ rfl).1
  have lf4:=(HL.out.2 4 _ rfl).1
  have lf5:=(HL.out.2 5 _ rfl).1
  have lf6:=(HL.out.2 6 _ rfl).1
  have lf7:=(HL.out.2 7 _ rfl).1
  have lf8:=(HL.out.2 8 _ rfl).1
  have lf9:=(HL.out.2 9 _ rfl).1
  have lf10:=(HL.out.2 10 _ rfl).1
  have lf11:=(HL.out.2 11 _ rfl).1
  have lf12:=(HL.out.2 12 _ rfl).1
  have lf13:=(HL.out.2 13 _ rfl).1
  have lf14:=(HL.out.2 14 _ rfl).1
  have lf15:=(HL.out.2 15 _ rfl).1
  have lf16:=(HL.out.2 16 _ rfl).1
  have lf17:=(HL.out.2 17 _ rfl).1
  have lf18:=(HL.out.2 18 _ rfl).1
  have lf19:=(HL.out.2 19 _ rfl).1
  have lf20:=(HL.out.2 20 _ rfl).1
  have lf21:=(HL.out.2 21 _ rfl).1
  have lf22:=(HL.out.2 22 _ rfl).1
  have lf23:=(HL.out.2 23 _ rfl).1
  have lf24:=(HL.out.2 24 _ rfl).1
  have lf25:=(HL.out.2 25 _ rfl).1
  have xf0:=(HX.out.2 0 _ rfl).1
  have xf1:=(HX.out.2 1 _ rfl).1
  go_wp2_with fail
  refine(cJ2 _).mono ?_
  rintro e w3 ⟨rfl,hb⟩
  clear tf0 tf1
  clear lf0 lf1 lf2 lf3 lf4 lf5 lf6 lf7 lf8 lf9 lf10 lf11 lf12 lf13 lf14 lf15 lf16 lf17 lf18 lf19 lf20 lf21 lf22 lf23 lf24 lf25
  clear xf0 xf1
  replace HT:=zH (HT.out.next hb)
  replace HL:=zH (HL.out.next hb)
  replace HX:=zH (HX.out.next hb)
  replace HB:=zH (HB.out.trans (hb.mono HB.out.size))
  clear hb
  have tf0:=(HT.out.2 0 _ rfl).1
  have tf1:=(HT.out.2 1 _ rfl).1
  have lf0:=(HL.out.2 0 _ rfl).1
  have lf1:=(HL.out.2 1 _ rfl).1
  have lf2:=(HL.out.2 2 _ rfl).1
  have lf3:=(HL.out.2 3 _ rfl).1
  have lf4:=(HL.out.2 4 _ rfl).1
  have lf5:=(HL.out.2 5 _ rfl).1
  have lf6:=(HL.out.2 6 _ rfl).1
  have lf7:=(HL.out.2 7 _ rfl).1
  have lf8:=(HL.out.2 8 _ rfl).1
  have lf9:=(HL.out.2 9 _ rfl).1
  have lf10:=(HL.out.2 10 _ rfl).1
  have lf11:=(HL.out.2 11 _ rfl).1
  have lf12:=(HL.out.2 12 _ rfl).1
  have lf13:=(HL.out.2 13 _ rfl).1
  have lf14:=(HL.out.2 14 _ rfl).1
  have lf15:=(HL.out.2 15 _ rfl).1
  have lf16:=(HL.out.2 16 _ rfl).1
  have lf17:=(HL.out.2 17 _ rfl).1
  have lf18:=(HL.out.2 18 _ rfl).1
  have lf19:=(HL.out.2 19 _ rfl).1
  have lf20:=(HL.out.2 20 _ rfl).1
  have lf21:=(HL.out.2 21 _ rfl).1
  have lf22:=(HL.out.2 22 _ rfl).1
  have lf23:=(HL.out.2 23 _ rfl).1
  have lf24:=(HL.out.2 24 _ rfl).1
  have lf25:=(HL.out.2 25 _ rfl).1
  have xf0:=(HX.out.2 0 _ rfl).1
  have xf1:=(HX.out.2 1 _ rfl).1
  go_wp2_with fail
  refine(cE1 _).mono ?_
  rintro e w4 ⟨rfl,hb⟩
  clear tf0 tf1
  clear lf0 lf1 lf2 lf3 lf4 lf5 lf6 lf7 lf8 lf9 lf10 lf11 lf12 lf13 lf14 lf15 lf16 lf17 lf18 lf19 lf20 lf21 lf22 lf23 lf24 lf25
  clear xf0 xf1
  replace HT:=zH (HT.out.next hb)
  replace HL:=zH (HL.out.next hb)
  replace HX:=zH (HX.out.next hb)
  replace HB:=zH (HB.out.trans (hb.mono HB.out.size))
  clear hb
  have tf0:=(HT.out.2 0 _ rfl).1
  have tf1:=(HT.out.2 1 _ rfl).1
  have lf0:=(HL.out.2 0 _ rfl).1
  have lf1:=(HL.out.2 1 _ rfl).1
  have lf2:=(HL.out.2 2 _ rfl).1
  have lf3:=(HL.out.2 3 _ rfl).1
  have lf4:=(HL.out.2 4 _ rfl).1
  have lf5:=(HL.out.2 5 _ rfl).1
  have lf6:=(HL.out.2 6 _ rfl).1
  have lf7:=(HL.out.2 7 _ rfl).1
  have lf8:=(HL.out.2 8 _ rfl).1
  have lf9:=(HL.out.2 9 _ rfl).1
  have lf10:=(HL.out.2 10 _ rfl).1
  have lf11:=(HL.out.2 11 _ rfl).1
  have lf12:=(HL.out.2 12 _ rfl).1
  have lf13:=(HL.out.2 13 _ rfl).1
  have lf14:=(HL.out.2 14 _ rfl).1
  have lf15:=(HL.out.2 15 _ rfl).1
  have lf16:=(HL.out.2 16 _ rfl).1
  have lf17:=(HL.out.2 17 _ rfl).1
  have lf18:=(HL.out.2 18 _ rfl).1
  have lf19:=(HL.out.2 19 _ rfl).1
  have lf20:=(HL.out.2 20 _ rfl).1
  have lf21:=(HL.out.2 21 _ rfl).1
  have lf22:=(HL.out.2 22 _ rfl).1
  have lf23:=(HL.out.2 23 _ rfl).1
  have lf24:=(HL.out.2 24 _ rfl).1
  have lf25:=(HL.out.2 25 _ rfl).1
  have xf0:=(HX.out.2 0 _ rfl).1
  have xf1:=(HX.out.2 1 _ rfl).1
  go_wp2_with fail
  refine(cE2 _).mono ?_
  rintro e w5 ⟨rfl,hb⟩
  clear tf0 tf1
  clear lf0 lf1 lf2 lf3 lf4 lf5 lf6 lf7 lf8 lf9 lf10 lf11 lf12 lf13 lf14 lf15 lf16 lf17 lf18 lf19 lf20 lf21 lf22 lf23 lf24 lf25
  clear xf0 xf1
  replace HT:=zH (HT.out.next hb)
  replace HL:=zH (HL.out.next hb)
  replace HX:=zH (HX.out.next hb)
  replace HB:=zH (HB.out.trans (hb.mono HB.out.size))
  clear hb
  have tf0:=(HT.out.2 0 _ rfl).1
  have tf1:=(HT.out.2 1 _ rfl).1
  have lf0:=(HL.out.2 0 _ rfl).1
  have lf1:=(HL.out.2 1 _ rfl).1
  have lf2:=(HL.out.2 2 _ rfl).1
  have lf3:=(HL.out.2 3 _ rfl).1
  have lf4:=(HL.out.2 4 _ rfl).1
  have lf5:=(HL.out.2 5 _ rfl).1
  have lf6:=(HL.out.2 6 _ rfl).1
  have lf7:=(HL.out.2 7 _ rfl).1
  have lf8:=(HL.out.2 8 _ rfl).1
  have lf9:=(HL.out.2 9 _ rfl).1
  have lf10:=(HL.out.2 10 _ rfl).1
  have lf11:=(HL.out.2 11 _ rfl).1
  have lf12:=(HL.out.2 12 _ rfl).1
  have lf13:=(HL.out.2 13 _ rfl).1
  have lf14:=(HL.out.2 14 _ rfl).1
  have lf15:=(HL.out.2 15 _ rfl).1
  have lf16:=(HL.out.2 16 _ rfl).1
  have lf17:=(HL.out.2 17 _ rfl).1
  have lf18:=(HL.out.2 18 _ rfl).1
  have lf19:=(HL.out.2 19 _ rfl).1
  have lf20:=(HL.out.2 20 _ rfl).1
  have lf21:=(HL.out.2 21 _ rfl).1
  have lf22:=(HL.out.2 22 _ rfl).1
  have lf23:=(HL.out.2 23 _ rfl).1
  have lf24:=(HL.out.2 24 _ rfl).1
  have lf25:=(HL.out.2 25 _ rfl).1
  have xf0:=(HX.out.2 0 _ rfl).1
  have xf1:=(HX.out.2 1 _ rfl).1
  go_wp2_with fail
  go_ret
  exact⟨by first | rfl | simp,HB.out⟩
theorem pyounger_bad (a l x y:Int) (b0 b1 b2 b3 b4 b5 b6 b7 c0 c1 c2 c3 c4 c5 c6 c7:Bool) (k0 k1 k2 k3 k4 m0 m1 m2 m3 m4:Int) (w:World) (hA:Alph w) (hT:Tabs w) (hC:Cal w) (hbad:¬a<0→¬l<0→¬2147483648<a→¬2147483648<l→¬x<0→¬a<x→¬y<0→¬2147483648-l<y→¬(0:Nat)=0) :
  Calls Tryz.prog 6 #[.agg #[.int .i64 a,.int .i64 l],.agg #[.bool b0,.bool b1,.bool b2,.bool b3,.bool b4,.bool b5,.bool b6,.bool b7,.int .i64 k0,.int .i64 k1,.int .i64 k2,.int .i64 k3,.int .i64 k4,.bool c0,.bool c1,.bool c2,.bool c3,.bool c4,.bool c5,.bool c6,.bool c7,.int .i64 m0,.int .i64 m1,.int .i64 m2,.int .i64 m3,.int .i64 m4],.agg #[.int .i64 x,.int .i64 y]] w fun e w'=>e=.returned (.bool true)∧Below w.heap.size w w':=by
 have HC:=zH hC
 have HA:=zH hA
 have HTt:=zH hT
 have cA:=fun W (hb:Below w.heap.size w W)=>awake14_any W (Alph.below HA.out hb) (Utf8Tabs_below HTt.out hb) (Cal.below HC.out hb)
 clear hA hT hC
 obtain⟨W1,hW1⟩:∃W1,w.alloc (.cells #[.int .i64 a,.int .i64 l] 48)=W1:=⟨_,rfl⟩
 obtain⟨W2,hW2⟩:∃W2,W1.alloc (.cells #[.bool b0,.bool b1,.bool b2,.bool b3,.bool b4,.bool b5,.bool b6,.bool b7,.int .i64 k0,.int .i64 k1,.int .i64 k2,.int .i64 k3,.int .i64 k4,.bool c0,.bool c1,.bool c2,.bool c3,.bool c4,.bool c5,.bool c6,.bool c7,.int .i64 m0,.int .i64 m1,.int .i64 m2,.int .i64 m3,.int .i64 m4] 35)=W2:=⟨_,rfl⟩
 obtain⟨W3,hW3⟩:∃W3,W2.alloc (.cells #[.int .i64 x,.int .i64 y] 48)=W3:=⟨_,rfl⟩
 have s1:W1.heap.size=w.heap.size+1:=by rw [← hW1];simp
 have s2:W2.heap.size=w.heap.size+1+1:=by rw [← hW2];simp [s1]
 have be1:Below w.heap.size w W1:=by rw [← hW1];exact(Below.refl _ _).alloc (zR _) _
 have be2:Below W1.heap.size W1 W2:=by rw [← hW2];exact(Below.refl _ _).alloc (zR _) _
 have be3:Below W2.heap.size W2 W3:=by rw [← hW3];exact(Below.refl _ _).alloc (zR _) _
 have ht:BoxN W1 w.heap.size [.int .i64 a,.int .i64 l]:=by rw [← hW1];exact BoxN.made w [.int .i64 a,.int .i64 l] _
 have HT:=zH ((ht.next be2).next be3)
 have hl:BoxN W2 W1.heap.size [.bool b0,.bool b1,.bool b2,.bool b3,.bool b4,.bool b5,.bool b6,.bool b7,.int .i64 k0,.int .i64 k1,.int .i64 k2,.int .i64 k3,.int .i64 k4,.bool c0,.bool c1,.bool c2,.bool c3,.bool c4,.bool c5,.bool c6,.bool c7,.int .i64 m0,.int .i64 m1,.int .i64 m2,.int .i64 m3,.int .i64 m4]:=by rw [← hW2];exact BoxN.made W1 [.bool b0,.bool b1,.bool b2,.bool b3,.bool b4,.bool b5,.bool b6,.bool b7,.int .i64 k0,.int .i64 k1,.int .i64 k2,.int .i64 k3,.int .i64 k4,.bool c0,.bool c1,.bool c2,.bool c3,.bool c4,.bool c5,.bool c6,.bool c7,.int .i64 m0,.int .i64 m1,.int .i64 m2,.int .i64 m3,.int .i64 m4] _
 rw [s1]at hl
 have HL:=zH (hl.next be3)
 have hx:BoxN W3 W2.heap.size [.int .i64 x,.int .i64 y]:=by rw [← hW3];exact BoxN.made W2 [.int .i64 x,.int .i64 y] _
 rw [s2]at hx
 have HX:=zH hx
 have HB:=zH ((be1.trans (be2.mono be1.size)).trans (be3.mono (be1.trans (be2.mono be1.size)).size))
 have HW1:=zH hW1
 have HW2:=zH hW2
 have HW3:=zH hW3
 clear ht hl hx be1 be2 be3 s1 s2 hW1 hW2 hW3
 by_cases g1:a<0
 ·go_enter Tryz.func6,Tryz.ntmps6
  go_wp2_with fail
  rw [HW1.out,HW2.out,HW3.out]
  refine(cA _ HB.out).mono ?_
  rintro e w1 ⟨rfl,hb⟩
  clear HW1 HW2 HW3 cA
  replace HT:=zH (HT.out.next hb)
  replace HL:=zH (HL.out.next hb)
  replace HX:=zH (HX.out.next hb)
  replace HB:=zH (HB.out.trans (hb.mono HB.out.size))
  clear hb
  have tf0:=(HT.out.2 0 _ rfl).1
  have tf1:=(HT.out.2 1 _ rfl).1
  have lf0:=(HL.out.2 0 _ rfl).1
  have lf1:=(HL.out.2 1 _ rfl).1
  have lf2:=(HL.out.2 2 _ rfl).1
  have lf3:=(HL.out.2 3 _ rfl).1
  have lf4:=(HL.out.2 4 _ rfl).1
  have lf5:=(HL.out.2 5 _ rfl).1
  have lf6:=(HL.out.2 6 _ rfl).1
  have lf7:=(HL.out.2 7 _ rfl).1
  have lf8:=(HL.out.2 8 _ rfl).1
  have lf9:=(HL.out.2 9 _ rfl).1
  have lf10:=(HL.out.2 10 _ rfl).1
  have lf11:=(HL.out.2 11 _ rfl).1
  have lf12:=(HL.out.2 12 _ rfl).1
  have lf13:=(HL.out.2 13 _ rfl).1
  have lf14:=(HL.out.2 14 _ rfl).1
  have lf15:=(HL.out.2 15 _ rfl).1
  have lf16:=(HL.out.2 16 _ rfl).1
  have lf17:=(HL.out.2 17 _ rfl).1
  have lf18:=(HL.out.2 18 _ rfl).1
  have lf19:=(HL.out.2 19 _ rfl).1
  have lf20:=(HL.out.2 20 _ rfl).1
  have lf21:=(HL.out.2 21 _ rfl).1
  have lf22:=(HL.out.2 22 _ rfl).1
  have lf23:=(HL.out.2 23 _ rfl).1
  have lf24:=(HL.out.2 24 _ rfl).1
  have lf25:=(HL.out.2 25 _ rfl).1
  have xf0:=(HX.out.2 0 _ rfl).1
  have xf1:=(HX.out.2 1 _ rfl).1
  go_wp2_with fail
  go_ret
  exact⟨rfl,HB.out⟩
 ·by_cases g2:l<0
  ·go_enter Tryz.func6,Tryz.ntmps6
   go_wp2_with fail
   rw [HW1.out,HW2.out,HW3.out]
   refine(cA _ HB.out).mono ?_
   rintro e w1 ⟨rfl,hb⟩
   clear HW1 HW2 HW3 cA
   replace HT:=zH (HT.out.next hb)
   replace HL:=zH (HL.out.next hb)
   replace HX:=zH (HX.out.next hb)
   replace HB:=zH (HB.out.trans (hb.mono HB.out.size))
   clear hb
   have tf0:=(HT.out.2 0 _ rfl).1
   have tf1:=(HT.out.2 1 _ rfl).1
   have lf0:=(HL.out.2 0 _ rfl).1
   have lf1:=(HL.out.2 1 _ rfl).1
   have lf2:=(HL.out.2 2 _ rfl).1
   have lf3:=(HL.out.2 3 _ rfl).1
   have lf4:=(HL.out.2 4 _ rfl).1
   have lf5:=(HL.out.2 5 _ rfl).1
   have lf6:=(HL.out.2 6 _ rfl).1
   have lf7:=(HL.out.2 7 _ rfl).1
   have lf8:=(HL.out.2 8 _ rfl).1
   have lf9:=(HL.out.2 9 _ rfl).1
   have lf10:=(HL.out.2 10 _ rfl).1
   have lf11:=(HL.out.2 11 _ rfl).1
   have lf12:=(HL.out.2 12 _ rfl).1
   have lf13:=(HL.out.2 13 _ rfl).1
   have lf14:=(HL.out.2 14 _ rfl).1
   have lf15:=(HL.out.2 15 _ rfl).1
   have lf16:=(HL.out.2 16 _ rfl).1
   have lf17:=(HL.out.2 17 _ rfl).1
   have lf18:=(HL.out.2 18 _ rfl).1
   have lf19:=(HL.out.2 19 _ rfl).1
   have lf20:=(HL.out.2 20 _ rfl).1
   have lf21:=(HL.out.2 21 _ rfl).1
   have lf22:=(HL.out.2 22 _ rfl).1
   have lf23:=(HL.out.2 23 _ rfl).1
   have lf24:=(HL.out.2 24 _ rfl).1
   have lf25:=(HL.out.2 25 _ rfl).1
   have xf0:=(HX.out.2 0 _ rfl).1
   have xf1:=(HX.out.2 1 _ rfl).1
   go_wp2_with fail
   go_ret
   exact⟨rfl,HB.out⟩
  ·by_cases g3:2147483648<a
   ·go_enter Tryz.func6,Tryz.ntmps6
    go_wp2_with fail
    rw [HW1.out,HW2.out,HW3.out]
    refine(cA _ HB.out).mono ?_
    rintro e w1 ⟨rfl,hb⟩
    clear HW1 HW2 HW3 cA
    replace HT:=zH (HT.out.next hb)
    replace HL:=zH (HL.out.next hb)
    replace HX:=zH (HX.out.next hb)
    replace HB:=zH (HB.out.trans (hb.mono HB.out.size))
    clear hb
    have tf0:=(HT.out.2 0 _ rfl).1
    have tf1:=(HT.out.2 1 _ rfl).1
    have lf0:=(HL.out.2 0 _ rfl).1
    have lf1:=(HL.out.2 1 _ rfl).1
    have lf2:=(HL.out.2 2 _ rfl).1
    have lf3:=(HL.out.2 3 _ rfl).1
    have lf4:=(HL.out.2 4 _ rfl).1
    have lf5:=(HL.out.2 5 _ rfl).1
    have lf6:=(HL.out.2 6 _ rfl).1
    have lf7:=(HL.out.2 7 _ rfl).1
    have lf8:=(HL.out.2 8 _ rfl).1
    have lf9:=(HL.out.2 9 _ rfl).1
    have lf10:=(HL.out.2 10 _ rfl).1
    have lf11:=(HL.out.2 11 _ rfl).1
    have lf12:=(HL.out.2 12 _ rfl).1
    have lf13:=(HL.out.2 13 _ rfl).1
    have lf14:=(HL.out.2 14 _ rfl).1
    have lf15:=(HL.out.2 15 _ rfl).1
    have lf16:=(HL.out.2 16 _ rfl).1
    have lf17:=(HL.out.2 17 _ rfl).1
    have lf18:=(HL.out.2 18 _ rfl).1
    have lf19:=(HL.out.2 19 _ rfl).1
    have lf20:=(HL.out.2 20 _ rfl).1
    have lf21:=(HL.out.2 21 _ rfl).1
    have lf22:=(HL.out.2 22 _ rfl).1
    have lf23:=(HL.out.2 23 _ rfl).1
    have lf24:=(HL.out.2 24 _ rfl).1
    have lf25:=(HL.out.2 25 _ rfl).1
    have xf0:=(HX.out.2 0 _ rfl).1
    have xf1:=(HX.out.2 1 _ rfl).1
    go_wp2_with fail
    go_ret
    exact⟨rfl,HB.out⟩
   ·by_cases g4:2147483648<l
    ·go_enter Tryz.func6,Tryz.ntmps6
     go_wp2_with fail
     rw [HW1.out,HW2.out,HW3.out]
     refine(cA _ HB.out).mono ?_
     rintro e w1 ⟨rfl,hb⟩
     clear HW1 HW2 HW3 cA
     replace HT:=zH (HT.out.next hb)
     replace HL:=zH (HL.out.next hb)
     replace HX:=zH (HX.out.next hb)
     replace HB:=zH (HB.out.trans (hb.mono HB.out.size))
     clear hb
     have tf0:=(HT.out.2 0 _ rfl).1
     have tf1:=(HT.out.2 1 _ rfl).1
     have lf0:=(HL.out.2 0 _ rfl).1
     have lf1:=(HL.out.2 1 _ rfl).1
     have lf2:=(HL.out.2 2 _ rfl).1
     have lf3:=(HL.out.2 3 _ rfl).1
     have lf4:=(HL.out.2 4 _ rfl).1
     have lf5:=(HL.out.2 5 _ rfl).1
     have lf6:=(HL.out.2 6 _ rfl).1
     have lf7:=(HL.out.2 7 _ rfl).1
     have lf8:=(HL.out.2 8 _ rfl).1
     have lf9:=(HL.out.2 9 _ rfl).1
     have lf10:=(HL.out.2 10 _ rfl).1
     have lf11:=(HL.out.2 11 _ rfl).1
     have lf12:=(HL.out.2 12 _ rfl).1
     have lf13:=(HL.out.2 13 _ rfl).1
     have lf14:=(HL.out.2 14 _ rfl).1
     have lf15:=(HL.out.2 15 _ rfl).1
     have lf16:=(HL.out.2 16 _ rfl).1
     have lf17:=(HL.out.2 17 _ rfl).1
     have lf18:=(HL.out.2 18 _ rfl).1
     have lf19:=(HL.out.2 19 _ rfl).1
     have lf20:=(HL.out.2 20 _ rfl).1
     have lf21:=(HL.out.2 21 _ rfl).1
     have lf22:=(HL.out.2 22 _ rfl).1
     have lf23:=(HL.out.2 23 _ rfl).1
     have lf24:=(HL.out.2 24 _ rfl).1
     have lf25:=(HL.out.2 25 _ rfl).1
     have xf0:=(HX.out.2 0 _ rfl).1
     have xf1:=(HX.out.2 1 _ rfl).1
     go_wp2_with fail
     go_ret
     exact⟨rfl,HB.out⟩
    ·by_cases g5:x<0
     ·go_enter Tryz.func6,Tryz.ntmps6
      go_wp2_with fail
      rw [HW1.out,HW2.out,HW3.out]
      refine(cA _ HB.out).mono ?_
      rintro e w1 ⟨rfl,hb⟩
      clear HW1 HW2 HW3 cA
      replace HT:=zH (HT.out.next hb)
      replace HL:=zH (HL.out.next hb)
      replace HX:=zH (HX.out.next hb)
      replace HB:=zH (HB.out.trans (hb.mono HB.out.size))
      clear hb
      have tf0:=(HT.out.2 0 _ rfl).1
      have tf1:=(HT.out.2 1 _ rfl).1
      have lf0:=(HL.out.2 0 _ rfl).1
      have lf1:=(HL.out.2 1 _ rfl).1
      have lf2:=(HL.out.2 2 _ rfl).1
      have lf3:=(HL.out.2 3 _ rfl).1
      have lf4:=(HL.out.2 4 _ rfl).1
      have lf5:=(HL.out.2 5 _ rfl).1
      have lf6:=(HL.out.2 6 _ rfl).1
      have lf7:=(HL.out.2 7 _ rfl).1
      have lf8:=(HL.out.2 8 _ rfl).1
      have lf9:=(HL.out.2 9 _ rfl).1
      have lf10:=(HL.out.2 10 _ rfl).1
      have lf11:=(HL.out.2 11 _ rfl).1
      have lf12:=(HL.out.2 12 _ rfl).1
      have lf13:=(HL.out.2 13 _ rfl).1
      have lf14:=(HL.out.2 14 _ rfl).1
      have lf15:=(HL.out.2 15 _ rfl).1
      have lf16:=(HL.out.2 16 _ rfl).1
      have lf17:=(HL.out.2 17 _ rfl).1
      have lf18:=(HL.out.2 18 _ rfl).1
      have lf19:=(HL.out.2 19 _ rfl).1
      have lf20:=(HL.out.2 20 _ rfl).1
      have lf21:=(HL.out.2 21 _ rfl).1
      have lf22:=(HL.out.2 22 _ rfl).1
      have lf23:=(HL.out.2 23 _ rfl).1
      have lf24:=(HL.out.2 24 _ rfl).1
      have lf25:=(HL.out.2 25 _ rfl).1
      have xf0:=(HX.out.2 0 _ rfl).1
      have xf1:=(HX.out.2 1 _ rfl).1
      go_wp2_with fail
      go_ret
      exact⟨rfl,HB.out⟩
     ·by_cases g6:a<x
      ·go_enter Tryz.func6,Tryz.ntmps6
       go_wp2_with fail
       rw [HW1.out,HW2.out,HW3.out]
       refine(cA _ HB.out).mono ?_
       rintro e w1 ⟨rfl,hb⟩
       clear HW1 HW2 HW3 cA
       replace HT:=zH (HT.out.next hb)
       replace HL:=zH (HL.out.next hb)
       replace HX:=zH (HX.out.next hb)
       replace HB:=zH (HB.out.trans (hb.mono HB.out.size))
       clear hb
       have tf0:=(HT.out.2 0 _ rfl).1
       have tf1:=(HT.out.2 1 _ rfl).1
       have lf0:=(HL.out.2 0 _ rfl).1
       have lf1:=(HL.out.2 1 _ rfl).1
       have lf2:=(HL.out.2 2 _ rfl).1
       have lf3:=(HL.out.2 3 _ rfl).1
       have lf4:=(HL.out.2 4 _ rfl).1
       have lf5:=(HL.out.2 5 _ rfl).1
       have lf6:=(HL.out.2 6 _ rfl).1
       have lf7:=(HL.out.2 7 _ rfl).1
       have lf8:=(HL.out.2 8 _ rfl).1
       have lf9:=(HL.out.2 9 _ rfl).1
       have lf10:=(HL.out.2 10 _ rfl).1
       have lf11:=(HL.out.2 11 _ rfl).1
       have lf12:=(HL.out.2 12 _ rfl).1
       have lf13:=(HL.out.2 13 _ rfl).1
       have lf14:=(HL.out.2 14 _ rfl).1
       have lf15:=(HL.out.2 15 _ rfl).1
       have lf16:=(HL.out.2 16 _ rfl).1
       have lf17:=(HL.out.2 17 _ rfl).1
       have lf18:=(HL.out.2 18 _ rfl).1
       have lf19:=(HL.out.2 19 _ rfl).1
       have lf20:=(HL.out.2 20 _ rfl).1
       have lf21:=(HL.out.2 21 _ rfl).1
       have lf22:=(HL.out.2 22 _ rfl).1
       have lf23:=(HL.out.2 23 _ rfl).1
       have lf24:=(HL.out.2 24 _ rfl).1
       have lf25:=(HL.out.2 25 _ rfl).1
       have xf0:=(HX.out.2 0 _ rfl).1
       have xf1:=(HX.out.2 1 _ rfl).1
       go_wp2_with fail
       go_ret
       exact⟨rfl,HB.out⟩
      ·by_cases g7:y<0
       ·go_enter Tryz.func6,Tryz.ntmps6
        go_wp2_with fail
        rw [HW1.out,HW2.out,HW3.out]
        refine(cA _ HB.out).mono ?_
        rintro e w1 ⟨rfl,hb⟩
        clear HW1 HW2 HW3 cA
        replace HT:=zH (HT.out.next hb)
        replace HL:=zH (HL.out.next hb)
        replace HX:=zH (HX.out.next hb)
        replace HB:=zH (HB.out.trans (hb.mono HB.out.size))
        clear hb
        have tf0:=(HT.out.2 0 _ rfl).1
        have tf1:=(HT.out.2 1 _ rfl).1
        have lf0:=(HL.out.2 0 _ rfl).1
        have lf1:=(HL.out.2 1 _ rfl).1
        have lf2:=(HL.out.2 2 _ rfl).1
        have lf3:=(HL.out.2 3 _ rfl).1
        have lf4:=(HL.out.2 4 _ rfl).1
        have lf5:=(HL.out.2 5 _ rfl).1
        have lf6:=(HL.out.2 6 _ rfl).1
        have lf7:=(HL.out.2 7 _ rfl).1
        have lf8:=(HL.out.2 8 _ rfl).1
        have lf9:=(HL.out.2 9 _ rfl).1
        have lf10:=(HL.out.2 10 _ rfl).1
        have lf11:=(HL.out.2 11 _ rfl).1
        have lf12:=(HL.out.2 12 _ rfl).1
        have lf13:=(HL.out.2 13 _ rfl).1
        have lf14:=(HL.out.2 14 _ rfl).1
        have lf15:=(HL.out.2 15 _ rfl).1
        have lf16:=(HL.out.2 16 _ rfl).1
        have lf17:=(HL.out.2 17 _ rfl).1
        have lf18:=(HL.out.2 18 _ rfl).1
        have lf19:=(HL.out.2 19 _ rfl).1
        have lf20:=(HL.out.2 20 _ rfl).1
        have lf21:=(HL.out.2 21 _ rfl).1
        have lf22:=(HL.out.2 22 _ rfl).1
        have lf23:=(HL.out.2 23 _ rfl).1
        have lf24:=(HL.out.2 24 _ rfl).1
        have lf25:=(HL.out.2 25 _ rfl).1
        have xf0:=(HX.out.2 0 _ rfl).1
        have xf1:=(HX.out.2 1 _ rfl).1
        go_wp2_with fail
        go_ret
        exact⟨rfl,HB.out⟩
       ·by_cases g8:2147483648-l<y
        ·go_enter Tryz.func6,Tryz.ntmps6
         go_wp2_with fail
         rw [HW1.out,HW2.out,HW3.out]
         refine(cA _ HB.out).mono ?_
         rintro e w1 ⟨rfl,hb⟩
         clear HW1 HW2 HW3 cA
         replace HT:=zH (HT.out.next hb)
         replace HL:=zH (HL.out.next hb)
         replace HX:=zH (HX.out.next hb)
         replace HB:=zH (HB.out.trans (hb.mono HB.out.size))
         clear hb
         have tf0:=(HT.out.2 0 _ rfl).1
         have tf1:=(HT.out.2 1 _ rfl).1
         have lf0:=(HL.out.2 0 _ rfl).1
         have lf1:=(HL.out.2 1 _ rfl).1
         have lf2:=(HL.out.2 2 _ rfl).1
         have lf3:=(HL.out.2 3 _ rfl).1
         have lf4:=(HL.out.2 4 _ rfl).1
         have lf5:=(HL.out.2 5 _ rfl).1
         have lf6:=(HL.out.2 6 _ rfl).1
         have lf7:=(HL.out.2 7 _ rfl).1
         have lf8:=(HL.out.2 8 _ rfl).1
         have lf9:=(HL.out.2 9 _ rfl).1
         have lf10:=(HL.out.2 10 _ rfl).1
         have lf11:=(HL.out.2 11 _ rfl).1
         have lf12:=(HL.out.2 12 _ rfl).1
         have lf13:=(HL.out.2 13 _ rfl).1
         have lf14:=(HL.out.2 14 _ rfl).1
         have lf15:=(HL.out.2 15 _ rfl).1
         have lf16:=(HL.out.2 16 _ rfl).1
         have lf17:=(HL.out.2 17 _ rfl).1
         have lf18:=(HL.out.2 18 _ rfl).1
         have lf19:=(HL.out.2 19 _ rfl).1
         have lf20:=(HL.out.2 20 _ rfl).1
         have lf21:=(HL.out.2 21 _ rfl).1
         have lf22:=(HL.out.2 22 _ rfl).1
         have lf23:=(HL.out.2 23 _ rfl).1
         have lf24:=(HL.out.2 24 _ rfl).1
         have lf25:=(HL.out.2 25 _ rfl).1
         have xf0:=(HX.out.2 0 _ rfl).1
         have xf1:=(HX.out.2 1 _ rfl).1
         go_wp2_with fail
         go_ret
         exact⟨rfl,HB.out⟩
        ·exact absurd rfl (hbad g1 g2 g3 g4 g5 g6 g7 g8)
theorem pyounger_walk (a l:Int) (r q:Ru_RuP) (x y:Int) (w:World) (hA:Alph w) (hT:Tabs w) (hC:Cal w) :
  Calls Tryz.prog 6 #[.agg #[.int .i64 a,.int .i64 l],.agg (r.l++q.l).toArray,.agg #[.int .i64 x,.int .i64 y]] w fun e w'=>e=.returned (.bool true)∧Below w.heap.size w w':=by
 obtain⟨b0,b1,b2,b3,b4,b5,b6,b7,k0,k1,k2,k3,k4⟩:=r
 obtain⟨c0,c1,c2,c3,c4,c5,c6,c7,m0,m1,m2,m3,m4⟩:=q
 have hv:(((Ru_RuP.mk b0 b1 b2 b3 b4 b5 b6 b7 k0 k1 k2 k3 k4).l++(Ru_RuP.mk c0 c1 c2 c3 c4 c5 c6 c7 m0 m1 m2 m3 m4).l).toArray:Array Value)=#[.bool b0,.bool b1,.bool b2,.bool b3,.bool b4,.bool b5,.bool b6,.bool b7,.int .i64 k0,.int .i64 k1,.int .i64 k2,.int .i64 k3,.int .i64 k4,.bool c0,.bool c1,.bool c2,.bool c3,.bool c4,.bool c5,.bool c6,.bool c7,.int .i64 m0,.int .i64 m1,.int .i64 m2,.int .i64 m3,.int .i64 m4]:=rfl
 rw [hv]
 by_cases g1:a<0
 ·exact pyounger_bad a l x y b0 b1 b2 b3 b4 b5 b6 b7 c0 c1 c2 c3 c4 c5 c6 c7 k0 k1 k2 k3 k4 m0 m1 m2 m3 m4 w hA hT hC (fun h1 h2 h3 h4 h5 h6 h7 h8=>absurd g1 h1)
 ·by_cases g2:l<0
  ·exact pyounger_bad a l x y b0 b1 b2 b3 b4 b5 b6 b7 c0 c1 c2 c3 c4 c5 c6 c7 k0 k1 k2 k3 k4 m0 m1 m2 m3 m4 w hA hT hC (fun h1 h2 h3 h4 h5 h6 h7 h8=>absurd g2 h2)
  ·by_cases g3:2147483648<a
   ·exact pyounger_bad a l x y b0 b1 b2 b3 b4 b5 b6 b7 c0 c1 c2 c3 c4 c5 c6 c7 k0 k1 k2 k3 k4 m0 m1 m2 m3 m4 w hA hT hC (fun h1 h2 h3 h4 h5 h6 h7 h8=>absurd g3 h3)
   ·by_cases g4:2147483648<l
    ·exact pyounger_bad a l x y b0 b1 b2 b3 b4 b5 b6 b7 c0 c1 c2 c3 c4 c5 c6 c7 k0 k1 k2 k3 k4 m0 m1 m2 m3 m4 w hA hT hC (fun h1 h2 h3 h4 h5 h6 h7 h8=>absurd g4 h4)
    ·by_cases g5:x<0
     ·exact pyounger_bad a l x y b0 b1 b2 b3 b4 b5 b6 b7 c0 c1 c2 c3 c4 c5 c6 c7 k0 k1 k2 k3 k4 m0 m1 m2 m3 m4 w hA hT hC (fun h1 h2 h3 h4 h5 h6 h7 h8=>absurd g5 h5)
     ·by_cases g6:a<x
      ·exact pyounger_bad a l x y b0 b1 b2 b3 b4 b5 b6 b7 c0 c1 c2 c3 c4 c5 c6 c7 k0 k1 k2 k3 k4 m0 m1 m2 m3 m4 w hA hT hC (fun h1 h2 h3 h4 h5 h6 h7 h8=>absurd g6 h6)
      ·by_cases g7:y<0
       ·exact pyounger_bad a l x y b0 b1 b2 b3 b4 b5 b6 b7 c0 c1 c2 c3 c4 c5 c6 c7 k0 k1 k2 k3 k4 m0 m1 m2 m3 m4 w hA hT hC (fun h1 h2 h3 h4 h5 h6 h7 h8=>absurd g7 h7)
       ·by_cases g8:2147483648-l<y
        ·exact pyounger_bad a l x y b0 b1 b2 b3 b4 b5 b6 b7 c0 c1 c2 c3 c4 c5 c6 c7 k0 k1 k2 k3 k4 m0 m1 m2 m3 m4 w hA hT hC (fun h1 h2 h3 h4 h5 h6 h7 h8=>absurd g8 h8)
        ·by_cases hj:judP_RuP a l ⟨b0,b1,b2,b3,b4,b5,b6,b7,k0,k1,k2,k3,k4⟩ ⟨c0,c1,c2,c3,c4,c5,c6,c7,m0,m1,m2,m3,m4⟩=0
         ·by_cases h9:a<l
          ·exact pyounger_z1 a l x y b0 b1 b2 b3 b4 b5 b6 b7 c0 c1 c2 c3 c4 c5 c6 c7 k0 k1 k2 k3 k4 m0 m1 m2 m3 m4 w hA hT hC g1 g2 g3 g4 g5 g6 g7 g8 hj h9
          ·exact pyounger_z2 a l x y b0 b1 b2 b3 b4 b5 b6 b7 c0 c1 c2 c3 c4 c5 c6 c7 k0 k1 k2 k3 k4 m0 m1 m2 m3 m4 w hA hT hC g1 g2 g3 g4 g5 g6 g7 g8 hj h9
         ·by_cases h9:a<l
          ·exact pyounger_n1 a l x y b0 b1 b2 b3 b4 b5 b6 b7 c0 c1 c2 c3 c4 c5 c6 c7 k0 k1 k2 k3 k4 m0 m1 m2 m3 m4 w hA hT hC g1 g2 g3 g4 g5 g6 g7 g8 hj h9
          ·exact pyounger_n2 a l x y b0 b1 b2 b3 b4 b5 b6 b7 c0 c1 c2 c3 c4 c5 c6 c7 k0 k1 k2 k3 k4 m0 m1 m2 m3 m4 w hA hT hC g1 g2 g3 g4 g5 g6 g7 g8 hj h9
end Go.Proofs.YtfaedmbfabfmeaaGreatDoor
