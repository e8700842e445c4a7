/- The document's own Choose (sculleryref11). -/
import Derived.Test.YtfaedmbfabfmeaaGreatDoorYMMoV
import Derived.Test.YtfaedmbfabfmeaaGreatDoorYMLgH
import Derived.Test.YtfaedmbfabfmeaaGreatDoorYMChsP
set_option linter.unusedSimpArgs false
set_option maxRecDepth 100000
set_option maxHeartbeats 4000000
namespace Go.Proofs.YtfaedmbfabfmeaaGreatDoor
open Go.RowKit Go.Lib
theorem r11choose_any (lo:Nat) (v:Value) (fs:List Fld) (w:World) (hv:Flds lo w v fs) (hk:FldsOk fs) (hj:∀n,(joinH (allH fs n)).length≤90000) :
  Calls Tryz.prog 33 #[v] w fun e w'=>e=.returned (chsA fs)∧Below w.heap.size w w':=by
 have cG:=fun W (hb:Below w.heap.size w W)=>rget_any lo v fs nCdn W (hv.below hb) hk
 have cG2:=fun W (hb:Below w.heap.size w W)=>rget_any lo v fs nCtl W (hv.below hb) hk
 have cR:=fun W (hb:Below w.heap.size w W)=>r10read_any lo v fs W (hv.below hb) hk (Nat.le_trans (hj nCtl) (by decide))
 have cP:=fun W=>r11parse_any (strB (joinH (allH fs nCdn))) W (by rw [strB_size];exact hj nCdn)
 simp only [strB_data]at cP
 have cN:=rnone_any
 rw [rulV_noneR]at cN
 obtain⟨ao,cap,rfl,_⟩:=hv
 obtain⟨b0,b1,b2,b3,b4,b5,b6,b7,k0,k1,k2,k3,k4,hR⟩:=rulO_form (modL (joinH (allH fs nCdn)))
 obtain⟨c0,c1,c2,c3,c4,c5,c6,c7,m0,m1,m2,m3,m4,hR2⟩:=rulV_form (ctlD fs)
 rw [hR2]at cR
 unfold modA at cP
 rw [hR]at cP
 have HA:Hid (chsA fs=if 0<(allH fs nCdn).length∧(modL (joinH (allH fs nCdn))).isSome=true then .tuple #[.agg #[.bool b0,.bool b1,.bool b2,.bool b3,.bool b4,.bool b5,.bool b6,.bool b7,.int .i64 k0,.int .i64 k1,.int .i64 k2,.int .i64 k3,.int .i64 k4],.int .i64 2]else if 0<(allH fs nCtl).length then .tuple #[.agg #[.bool c0,.bool c1,.bool c2,.bool c3,.bool c4,.bool c5,.bool c6,.bool c7,.int .i64 m0,.int .i64 m1,.int .i64 m2,.int .i64 m3,.int .i64 m4],.int .i64 1]else .tuple #[.agg #[.bool false,.bool false,.bool false,.bool false,.bool false,.bool false,.bool false,.bool false,.int .i64 (-1),.int .i64 (-1),.int .i64 (-1),.int .i64 (-1),.int .i64 (-1)],.int .i64 0]):=zH (by rw [chsA,hR,hR2];rfl)
 have HB0:=zH ((Below.refl w.heap.size w).alloc (zR _) (.cells #[.bool false,.bool false,.bool false,.bool false,.bool false,.bool false,.bool false,.bool false,.int .i64 0,.int .i64 0,.int .i64 0,.int .i64 0,.int .i64 0] 36))
 have HX:=zH (BoxN.made w [.bool false,.bool false,.bool false,.bool false,.bool false,.bool false,.bool false,.bool false,.int .i64 0,.int .i64 0,.int .i64 0,.int .i64 0,.int .i64 0] 36)
 obtain⟨q,hq⟩:∃q,(modL (joinH (allH fs nCdn))).isSome=q:=⟨_,rfl⟩
 rw [hq]at cP HA
 obtain⟨p,hp⟩:∃p,decide (0<(allH fs nCdn).length)=p:=⟨_,rfl⟩
 obtain⟨r,hr⟩:∃r,decide (0<(allH fs nCtl).length)=r:=⟨_,rfl⟩
 rw [getV,hp]at cG
 rw [getV,hr]at cG2
 generalize strB (joinH (allH fs nCdn))=J at *
 generalize strB (joinH (allH fs nCtl))=J2 at *
 clear hR hR2 hj hk
 cases p
 ·cases r
  ·cases q
   all_goals
    have HR:Hid (chsA fs=.tuple #[.agg #[.bool false,.bool false,.bool false,.bool false,.bool false,.bool false,.bool false,.bool false,.int .i64 (-1),.int .i64 (-1),.int .i64 (-1),.int .i64 (-1),.int .i64 (-1)],.int .i64 0]):=zH (by rw [HA.out,if_neg (fun e=>by have:=decide_eq_true e.1;rw [hp]at this;cases this),if_neg (of_decide_eq_false hr)])
    clear HA hp hr hq
    generalize chsA fs=R at *
    go_enter Tryz.func33,Tryz.ntmps33
    go_wp2_with fail
    refine(cG _ HB0.out).mono ?_
    rintro e w1 ⟨rfl,hb⟩
    have HX:=zH (HX.out.next hb)
    have HB:=zH (HB0.out.trans (hb.mono HB0.out.size))
    clear hb cG HB0
    go_wp2_with fail
    refine(cP _).mono ?_
    rintro e w2 ⟨rfl,hb⟩
    have HX:=zH (HX.out.next hb)
    have HB:=zH (HB.out.trans (hb.mono HB.out.size))
    clear hb cP
    have hlt:w.heap.size<w2.heap.size:=HX.out.1
    have hal:=(Below.refl w2.heap.size w2).alloc (zR _) (.cells #[.bool b0,.bool b1,.bool b2,.bool b3,.bool b4,.bool b5,.bool b6,.bool b7,.int .i64 k0,.int .i64 k1,.int .i64 k2,.int .i64 k3,.int .i64 k4] 36)
    have HX:=zH (HX.out.next hal)
    have HB:=zH (HB.out.trans (hal.mono HB.out.size))
    clear hal hlt
    go_wp2_with fail
    refine(cG2 _ HB.out).mono ?_
    rintro e w3 ⟨rfl,hb⟩
    have HX:=zH (HX.out.next hb)
    have HB:=zH (HB.out.trans (hb.mono HB.out.size))
    clear hb cG2
    go_wp2_with fail
    refine(cN _).mono ?_
    rintro e w4 ⟨rfl,hb⟩
    have HX:=zH (HX.out.next hb)
    have HB:=zH (HB.out.trans (hb.mono HB.out.size))
    clear hb cN
    obtain⟨x0,g0,x1,g1,x2,g2,x3,g3,x4,g4,x5,g5,x6,g6,x7,g7,x8,g8,x9,g9,x10,g10,x11,g11,x12,g12⟩:=a13X HX.out
    go_wp2_with fail
    clear x0 g0 x1 g1 x2 g2 x3 g3 x4 g4 x5 g5 x6 g6 x7 g7 x8 g8 x9 g9 x10 g10 x11 g11 x12 g12
    have HP:=zH (set13X HX.out rfl (.bool false) (.bool false) (.bool false) (.bool false) (.bool false) (.bool false) (.bool false) (.bool false) (.int .i64 (-1)) (.int .i64 (-1)) (.int .i64 (-1)) (.int .i64 (-1)) (.int .i64 (-1)))
    have HQ:=zH (set13B HB.out (.bool false) (.bool false) (.bool false) (.bool false) (.bool false) (.bool false) (.bool false) (.bool false) (.int .i64 (-1)) (.int .i64 (-1)) (.int .i64 (-1)) (.int .i64 (-1)) (.int .i64 (-1)))
    generalize World.setCell _ ⟨_,12,none⟩ _=W9 at *
    obtain⟨p0,p1,p2,p3,p4,p5,p6,p7,p8,p9,p10,p11,p12⟩:=b13X HP.out
    refine bodyPost_ret (v:=.tuple #[.agg #[.bool false,.bool false,.bool false,.bool false,.bool false,.bool false,.bool false,.bool false,.int .i64 (-1),.int .i64 (-1),.int .i64 (-1),.int .i64 (-1),.int .i64 (-1)],.int .i64 0]) (by simp [results,Tryz.results33,go_sem,p0,p1,p2,p3,p4,p5,p6,p7,p8,p9,p10,p11,p12]) rfl ⟨by rw [HR.out],HQ.out⟩
  ·cases q
   all_goals
    have HR:Hid (chsA fs=.tuple #[.agg #[.bool c0,.bool c1,.bool c2,.bool c3,.bool c4,.bool c5,.bool c6,.bool c7,.int .i64 m0,.int .i64 m1,.int .i64 m2,.int .i64 m3,.int .i64 m4],.int .i64 1]):=zH (by rw [HA.out,if_neg (fun e=>by have:=decide_eq_true e.1;rw [hp]at this;cases this),if_pos (of_decide_eq_true hr)])
    clear HA hp hr hq
    generalize chsA fs=R at *
    go_enter Tryz.func33,Tryz.ntmps33
    go_wp2_with fail
    refine(cG _ HB0.out).mono ?_
    rintro e w1 ⟨rfl,hb⟩
    have HX:=zH (HX.out.next hb)
    have HB:=zH (HB0.out.trans (hb.mono HB0.out.size))
    clear hb cG HB0
    go_wp2_with fail
    refine(cP _).mono ?_
    rintro e w2 ⟨rfl,hb⟩
    have HX:=zH (HX.out.next hb)
    have HB:=zH (HB.out.trans (hb.mono HB.out.size))
    clear hb cP
    have hlt:w.heap.size<w2.heap.size:=HX.out.1
    have hal:=(Below.refl w2.heap.size w2).alloc (zR _) (.cells #[.bool b0,.bool b1,.bool b2,.bool b3,.bool b4,.bool b5,.bool b6,.bool b7,.int .i64 k0,.int .i64 k1,.int .i64 k2,.int .i64 k3,.int .i64 k4] 36)
    have HX:=zH (HX.out.next hal)
    have HB:=zH (HB.out.trans (hal.mono HB.out.size))
    clear hal hlt
    go_wp2_with fail
    refine(cG2 _ HB.out).mono ?_
    rintro e w3 ⟨rfl,hb⟩
    have HX:=zH (HX.out.next hb)
    have HB:=zH (HB.out.trans (hb.mono HB.out.size))
    clear hb cG2
    go_wp2_with fail
    refine(cR _ HB.out).mono ?_
    rintro e w4 ⟨rfl,hb⟩
    have HX:=zH (HX.out.next hb)
    have HB:=zH (HB.out.trans (hb.mono HB.out.size))
    clear hb cR
    obtain⟨x0,g0,x1,g1,x2,g2,x3,g3,x4,g4,x5,g5,x6,g6,x7,g7,x8,g8,x9,g9,x10,g10,x11,g11,x12,g12⟩:=a13X HX.out
    go_wp2_with fail
    clear x0 g0 x1 g1 x2 g2 x3 g3 x4 g4 x5 g5 x6 g6 x7 g7 x8 g8 x9 g9 x10 g10 x11 g11 x12 g12
    have HP:=zH (set13X HX.out rfl (.bool c0) (.bool c1) (.bool c2) (.bool c3) (.bool c4) (.bool c5) (.bool c6) (.bool c7) (.int .i64 m0) (.int .i64 m1) (.int .i64 m2) (.int .i64 m3) (.int .i64 m4))
    have HQ:=zH (set13B HB.out (.bool c0) (.bool c1) (.bool c2) (.bool c3) (.bool c4) (.bool c5) (.bool c6) (.bool c7) (.int .i64 m0) (.int .i64 m1) (.int .i64 m2) (.int .i64 m3) (.int .i64 m4))
    generalize World.setCell _ ⟨_,12,none⟩ _=W9 at *
    obtain⟨p0,p1,p2,p3,p4,p5,p6,p7,p8,p9,p10,p11,p12⟩:=b13X HP.out
    refine bodyPost_ret (v:=.tuple #[.agg #[.bool c0,.bool c1,.bool c2,.bool c3,.bool c4,.bool c5,.bool c6,.bool c7,.int .i64 m0,.int .i64 m1,.int .i64 m2,.int .i64 m3,.int .i64 m4],.int .i64 1]) (by simp [results,Tryz.results33,go_sem,p0,p1,p2,p3,p4,p5,p6,p7,p8,p9,p10,p11,p12]) rfl ⟨by rw [HR.out],HQ.out⟩
 ·cases q
  ·cases r
   ·have HR:Hid (chsA fs=.tuple #[.agg #[.bool false,.bool false,.bool false,.bool false,.bool false,.bool false,.bool false,.bool false,.int .i64 (-1),.int .i64 (-1),.int .i64 (-1),.int .i64 (-1),.int .i64 (-1)],.int .i64 0]):=zH (by rw [HA.out,if_neg (fun e=>by cases e.2),if_neg (of_decide_eq_false hr)])
    clear HA hp hr hq
    generalize chsA fs=R at *
    go_enter Tryz.func33,Tryz.ntmps33
    go_wp2_with fail
    refine(cG _ HB0.out).mono ?_
    rintro e w1 ⟨rfl,hb⟩
    have HX:=zH (HX.out.next hb)
    have HB:=zH (HB0.out.trans (hb.mono HB0.out.size))
    clear hb cG HB0
    go_wp2_with fail
    refine(cP _).mono ?_
    rintro e w2 ⟨rfl,hb⟩
    have HX:=zH (HX.out.next hb)
    have HB:=zH (HB.out.trans (hb.mono HB.out.size))
    clear hb cP
    have hlt:w.heap.size<w2.heap.size:=HX.out.1
    have hal:=(Below.refl w2.heap.size w2).alloc (zR _) (.cells #[.bool b0,.bool b1,.bool b2,.bool b3,.bool b4,.bool b5,.bool b6,.bool b7,.int .i64 k0,.int .i64 k1,.int .i64 k2,.int .i64 k3,.int .i64 k4] 36)
    have HX:=zH (HX.out.next hal)
    have HB:=zH (HB.out.trans (hal.mono HB.out.size))
    clear hal hlt
    go_wp2_with fail
    refine(cG2 _ HB.out).mono ?_
    rintro e w3 ⟨rfl,hb⟩
    have HX:=zH (HX.out.next hb)
    have HB:=zH (HB.out.trans (hb.mono HB.out.size))
    clear hb cG2
    go_wp2_with fail
    refine(cN _).mono ?_
    rintro e w4 ⟨rfl,hb⟩
    have HX:=zH (HX.out.next hb)
    have HB:=zH (HB.out.trans (hb.mono HB.out.size))
    clear hb cN
    obtain⟨x0,g0,x1,g1,x2,g2,x3,g3,x4,g4,x5,g5,x6,g6,x7,g7,x8,g8,x9,g9,x10,g10,x11,g11,x12,g12⟩:=a13X HX.out
    go_wp2_with fail
    clear x0 g0 x1 g1 x2 g2 x3 g3 x4 g4 x5 g5 x6 g6 x7 g7 x8 g8 x9 g9 x10 g10 x11 g11 x12 g12
    have HP:=zH (set13X HX.out rfl (.bool false) (.bool false) (.bool false) (.bool false) (.bool false) (.bool false) (.bool false) (.bool false) (.int .i64 (-1)) (.int .i64 (-1)) (.int .i64 (-1)) (.int .i64 (-1)) (.int .i64 (-1)))
    have HQ:=zH (set13B HB.out (.bool false) (.bool false) (.bool false) (.bool false) (.bool false) (.bool false) (.bool false) (.bool false) (.int .i64 (-1)) (.int .i64 (-1)) (.int .i64 (-1)) (.int .i64 (-1)) (.int .i64 (-1)))
    generalize World.setCell _ ⟨_,12,none⟩ _=W9 at *
    obtain⟨p0,p1,p2,p3,p4,p5,p6,p7,p8,p9,p10,p11,p12⟩:=b13X HP.out
    refine bodyPost_ret (v:=.tuple #[.agg #[.bool false,.bool false,.bool false,.bool false,.bool false,.bool false,.bool false,.bool false,.int .i64 (-1),.int .i64 (-1),.int .i64 (-1),.int .i64 (-1),.int .i64 (-1)],.int .i64 0]) (by simp [results,Tryz.results33,go_sem,p0,p1,p2,p3,p4,p5,p6,p7,p8,p9,p10,p11,p12]) rfl ⟨by rw [HR.out],HQ.out⟩
   ·have HR:Hid (chsA fs=.tuple #[.agg #[.bool c0,.bool c1,.bool c2,.bool c3,.bool c4,.bool c5,.bool c6,.bool c7,.int .i64 m0,.int .i64 m1,.int .i64 m2,.int .i64 m3,.int .i64 m4],.int .i64 1]):=zH (by rw [HA.out,if_neg (fun e=>by cases e.2),if_pos (of_decide_eq_true hr)])
    clear HA hp hr hq
    generalize chsA fs=R at *
    go_enter Tryz.func33,Tryz.ntmps33
    go_wp2_with fail
    refine(cG _ HB0.out).mono ?_
    rintro e w1 ⟨rfl,hb⟩
    have HX:=zH (HX.out.next hb)
    have HB:=zH (HB0.out.trans (hb.mono HB0.out.size))
    clear hb cG HB0
    go_wp2_with fail
    refine(cP _).mono ?_
    rintro e w2 ⟨rfl,hb⟩
    have HX:=zH (HX.out.next hb)
    have HB:=zH (HB.out.trans (hb.mono HB.out.size))
    clear hb cP
    have hlt:w.heap.size<w2.heap.size:=HX.out.1
    have hal:=(Below.refl w2.heap.size w2).alloc (zR _) (.cells #[.bool b0,.bool b1,.bool b2,.bool b3,.bool b4,.bool b5,.bool b6,.bool b7,.int .i64 k0,.int .i64 k1,.int .i64 k2,.int .i64 k3,.int .i64 k4] 36)
    have HX:=zH (HX.out.next hal)
    have HB:=zH (HB.out.trans (hal.mono HB.out.size))
    clear hal hlt
    go_wp2_with fail
    refine(cG2 _ HB.out).mono ?_
    rintro e w3 ⟨rfl,hb⟩
    have HX:=zH (HX.out.next hb)
    have HB:=zH (HB.out.trans (hb.mono HB.out.size))
    clear hb cG2
    go_wp2_with fail
    refine(cR _ HB.out).mono ?_
    rintro e w4 ⟨rfl,hb⟩
    have HX:=zH (HX.out.next hb)
    have HB:=zH (HB.out.trans (hb.mono HB.out.size))
    clear hb cR
    obtain⟨x0,g0,x1,g1,x2,g2,x3,g3,x4,g4,x5,g5,x6,g6,x7,g7,x8,g8,x9,g9,x10,g10,x11,g11,x12,g12⟩:=a13X HX.out
    go_wp2_with fail
    clear x0 g0 x1 g1 x2 g2 x3 g3 x4 g4 x5 g5 x6 g6 x7 g7 x8 g8 x9 g9 x10 g10 x11 g11 x12 g12
    have HP:=zH (set13X HX.out rfl (.bool c0) (.bool c1) (.bool c2) (.bool c3) (.bool c4) (.bool c5) (.bool c6) (.bool c7) (.int .i64 m0) (.int .i64 m1) (.int .i64 m2) (.int .i64 m3) (.int .i64 m4))
    have HQ:=zH (set13B HB.out (.bool c0) (.bool c1) (.bool c2) (.bool c3) (.bool c4) (.bool c5) (.bool c6) (.bool c7) (.int .i64 m0) (.int .i64 m1) (.int .i64 m2) (.int .i64 m3) (.int .i64 m4))
    generalize World.setCell _ ⟨_,12,none⟩ _=W9 at *
    obtain⟨p0,p1,p2,p3,p4,p5,p6,p7,p8,p9,p10,p11,p12⟩:=b13X HP.out
    refine bodyPost_ret (v:=.tuple #[.agg #[.bool c0,.bool c1,.bool c2,.bool c3,.bool c4,.bool c5,.bool c6,.bool c7,.int .i64 m0,.int .i64 m1,.int .i64 m2,.int .i64 m3,.int .i64 m4],.int .i64 1]) (by simp [results,Tryz.results33,go_sem,p0,p1,p2,p3,p4,p5,p6,p7,p8,p9,p10,p11,p12]) rfl ⟨by rw [HR.out],HQ.out⟩
  ·have HR:Hid (chsA fs=.tuple #[.agg #[.bool b0,.bool b1,.bool b2,.bool b3,.bool b4,.bool b5,.bool b6,.bool b7,.int .i64 k0,.int .i64 k1,.int .i64 k2,.int .i64 k3,.int .i64 k4],.int .i64 2]):=zH (by rw [HA.out,if_pos ⟨of_decide_eq_true hp,rfl⟩])
   clear HA hp hr hq
   generalize chsA fs=R at *
   go_enter Tryz.func33,Tryz.ntmps33
   go_wp2_with fail
   refine(cG _ HB0.out).mono ?_
   rintro e w1 ⟨rfl,hb⟩
   have HX:=zH (HX.out.next hb)
   have HB:=zH (HB0.out.trans (hb.mono HB0.out.size))
   clear hb cG HB0
   go_wp2_with fail
   refine(cP _).mono ?_
   rintro e w2 ⟨rfl,hb⟩
   have HX:=zH (HX.out.next hb)
   have HB:=zH (HB.out.trans (hb.mono HB.out.size))
   clear hb cP
   have hlt:w.heap.size<w2.heap.size:=HX.out.1
   obtain⟨x0,g0,x1,g1,x2,g2,x3,g3,x4,g4,x5,g5,x6,g6,x7,g7,x8,g8,x9,g9,x10,g10,x11,g11,x12,g12⟩:=a13X HX.out
   go_wp2_with fail
   clear x0 g0 x1 g1 x2 g2 x3 g3 x4 g4 x5 g5 x6 g6 x7 g7 x8 g8 x9 g9 x10 g10 x11 g11 x12 g12
   have HP:=zH (set13X HX.out rfl (.bool b0) (.bool b1) (.bool b2) (.bool b3) (.bool b4) (.bool b5) (.bool b6) (.bool b7) (.int .i64 k0) (.int .i64 k1) (.int .i64 k2) (.int .i64 k3) (.int .i64 k4))
   have HQ:=zH (set13B HB.out (.bool b0) (.bool b1) (.bool b2) (.bool b3) (.bool b4) (.bool b5) (.bool b6) (.bool b7) (.int .i64 k0) (.int .i64 k1) (.int .i64 k2) (.int .i64 k3) (.int .i64 k4))
   generalize World.setCell _ ⟨_,12,none⟩ _=W8 at *
   have hal:=(Below.refl W8.heap.size W8).alloc (zR _) (.cells #[.bool b0,.bool b1,.bool b2,.bool b3,.bool b4,.bool b5,.bool b6,.bool b7,.int .i64 k0,.int .i64 k1,.int .i64 k2,.int .i64 k3,.int .i64 k4] 36)
   have HP:=zH (HP.out.next hal)
   have HQ:=zH (HQ.out.trans (hal.mono HQ.out.size))
   clear hal
   generalize W8.alloc (.cells #[.bool b0,.bool b1,.bool b2,.bool b3,.bool b4,.bool b5,.bool b6,.bool b7,.int .i64 k0,.int .i64 k1,.int .i64 k2,.int .i64 k3,.int .i64 k4] 36)=W9 at *
   obtain⟨p0,p1,p2,p3,p4,p5,p6,p7,p8,p9,p10,p11,p12⟩:=b13X HP.out
   refine bodyPost_ret (v:=.tuple #[.agg #[.bool b0,.bool b1,.bool b2,.bool b3,.bool b4,.bool b5,.bool b6,.bool b7,.int .i64 k0,.int .i64 k1,.int .i64 k2,.int .i64 k3,.int .i64 k4],.int .i64 2]) (by simp [results,Tryz.results33,go_sem,p0,p1,p2,p3,p4,p5,p6,p7,p8,p9,p10,p11,p12]) rfl ⟨by rw [HR.out],HQ.out⟩
end Go.Proofs.YtfaedmbfabfmeaaGreatDoor
