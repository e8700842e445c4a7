/- The contracts of legacy.None and legacy.Read. · The document's own Read (sculleryref10). -/
import Derived.Test.YtfaedmbfabfmeaaGreatDoorYMLgE
import Derived.Test.YtfaedmbfabfmeaaGreatDoorYMLgA
import Derived.Test.YtfaedmbfabfmeaaGreatDoorYMDirP
import Derived.Test.YtfaedmbfabfmeaaGreatDoorYMHdU
import Derived.Test.YtfaedmbfabfmeaaGreatDoorYMRoC
set_option linter.unusedSimpArgs false
set_option maxRecDepth 100000
set_option maxHeartbeats 4000000
namespace Go.Proofs.YtfaedmbfabfmeaaGreatDoor
open Go.RowKit Go.Maps Go.Lib
theorem dirsOk_nil:DirsOk []:=⟨Nat.zero_le _,fun d h=>by cases h⟩
theorem rulV_form (ds:List Dir):∃(b0 b1 b2 b3 b4 b5 b6 b7:Bool) (k0 k1 k2 k3 k4:Int),rulV ds=.agg #[.bool b0,.bool b1,.bool b2,.bool b3,.bool b4,.bool b5,.bool b6,.bool b7,.int .i64 k0,.int .i64 k1,.int .i64 k2,.int .i64 k3,.int .i64 k4]:=⟨_,_,_,_,_,_,_,_,_,_,_,_,_,rfl⟩
theorem rulV_none:rulV []=.agg #[.bool false,.bool false,.bool false,.bool false,.bool false,.bool false,.bool false,.bool false,.int .i64 (-1),.int .i64 (-1),.int .i64 (-1),.int .i64 (-1),.int .i64 (-1)]:=rfl
theorem none_any (w:World) :
  Calls Tryz.prog 20 #[] w fun e w'=>e=.returned (rulV [])∧Below w.heap.size w w':=by
 have cO:=fun W=>of_any 0 (.slice none 0 0) [] W (Dirs.nothing 0 W) dirsOk_nil
 have HV:=zH rulV_none
 generalize rulV []=R at *
 have HB0:=zH ((Below.refl w.heap.size w).alloc (zR _) (.cells #[.bool false,.bool false,.bool false,.bool false,.bool false,.bool false,.bool false,.bool false,.int .i64 0,.int .i64 0,.int .i64 0,.int .i64 0,.int .i64 0] 34))
 have HX:=zH (BoxN.made w [.bool false,.bool false,.bool false,.bool false,.bool false,.bool false,.bool false,.bool false,.int .i64 0,.int .i64 0,.int .i64 0,.int .i64 0,.int .i64 0] 34)
 rw [HV.out]at cO
 go_enter Tryz.func20,Tryz.ntmps20
 go_wp2_with fail
 refine(cO _).mono ?_
 rintro e w1 ⟨rfl,hb⟩
 have HX:=zH (HX.out.next hb)
 have HB:=zH (HB0.out.trans (hb.mono HB0.out.size))
 clear hb cO HB0
 obtain⟨x0,g0,x1,g1,x2,g2,x3,g3,x4,g4,x5,g5,x6,g6,x7,g7,x8,g8,x9,g9,x10,g10,x11,g11,x12,g12⟩:=a13X HX.out
 go_wp2_with fail
 clear x0 g0 x1 g1 x2 g2 x3 g3 x4 g4 x5 g5 x6 g6 x7 g7 x8 g8 x9 g9 x10 g10 x11 g11 x12 g12
 have HP:=zH (set13X HX.out rfl (.bool false) (.bool false) (.bool false) (.bool false) (.bool false) (.bool false) (.bool false) (.bool false) (.int .i64 (-1)) (.int .i64 (-1)) (.int .i64 (-1)) (.int .i64 (-1)) (.int .i64 (-1)))
 have HQ:=zH (set13B HB.out (.bool false) (.bool false) (.bool false) (.bool false) (.bool false) (.bool false) (.bool false) (.bool false) (.int .i64 (-1)) (.int .i64 (-1)) (.int .i64 (-1)) (.int .i64 (-1)) (.int .i64 (-1)))
 generalize World.setCell _ ⟨_,12,none⟩ _=W9 at *
 obtain⟨p0,p1,p2,p3,p4,p5,p6,p7,p8,p9,p10,p11,p12⟩:=b13X HP.out
 refine bodyPost_ret (v:=.agg #[.bool false,.bool false,.bool false,.bool false,.bool false,.bool false,.bool false,.bool false,.int .i64 (-1),.int .i64 (-1),.int .i64 (-1),.int .i64 (-1),.int .i64 (-1)]) (by simp [results,Tryz.results20,go_sem,p0,p1,p2,p3,p4,p5,p6,p7,p8,p9,p10,p11,p12]) rfl ⟨by rw [HV.out],HQ.out⟩
def nCtl:List UInt8:=[99,97,99,104,101,45,99,111,110,116,114,111,108]
def ctlD (fs:List Fld):List Dir:=dirsL (joinH (allH fs nCtl))
theorem lread_any (lo:Nat) (v:Value) (fs:List Fld) (w:World) (hv:Flds lo w v fs) (hk:FldsOk fs) (hj:(joinH (allH fs nCtl)).length≤100000) (hT:Tabs w) :
  Calls Tryz.prog 21 #[v] w fun e w'=>e=.returned (rulV (ctlD fs))∧Below w.heap.size w w':=by
 have cG:=fun W (hb:Below w.heap.size w W)=>hget_any lo v fs nCtl W (hv.below hb) hk
 have cP:=fun W (hb:Below w.heap.size w W)=>lparse_any (strB (joinH (allH fs nCtl))) W (by rw [strB_size];exact hj) (Utf8Tabs_below hT hb)
 rw [strB_data]at cP
 have cO:=fun u W (h:Dirs 0 W u (ctlD fs))=>of_any 0 u (ctlD fs) W h (dirsL_ok _ hj)
 have HV:Hid (getV fs nCtl=.tuple #[.string (strB (joinH (allH fs nCtl))),.bool (decide (0<(allH fs nCtl).length))]):=zH rfl
 have cN:=none_any
 have HC:Hid (ctlD fs=dirsL (joinH (allH fs nCtl))):=zH rfl
 have HE:Hid (¬0<(allH fs nCtl).length→ctlD fs=[]):=zH (fun h=>by
  rw [ctlD,List.eq_nil_of_length_eq_zero (show(allH fs nCtl).length=0 by omega)]
  rfl)
 obtain⟨ao,cap,rfl,_⟩:=hv
 rw [← HC.out]at cP
 generalize ctlD fs=DS at *
 rw [HV.out]at cG
 have HB0:=zH ((Below.refl w.heap.size w).alloc (zR _) (.cells #[.bool false,.bool false,.bool false,.bool false,.bool false,.bool false,.bool false,.bool false,.int .i64 0,.int .i64 0,.int .i64 0,.int .i64 0,.int .i64 0] 34))
 have HX:=zH (BoxN.made w [.bool false,.bool false,.bool false,.bool false,.bool false,.bool false,.bool false,.bool false,.int .i64 0,.int .i64 0,.int .i64 0,.int .i64 0,.int .i64 0] 34)
 by_cases h:0<(allH fs nCtl).length
 ·rw [decide_eq_true h]at cG
  clear HE h HC hj hk HV cN
  generalize strB (joinH (allH fs nCtl))=J at *
  obtain⟨b0,b1,b2,b3,b4,b5,b6,b7,k0,k1,k2,k3,k4,hR⟩:=rulV_form DS
  have HR:=zH hR
  rw [hR]at cO
  clear hR
  generalize rulV DS=R at *
  go_enter Tryz.func21,Tryz.ntmps21
  go_wp2_with fail
  refine(cG _ HB0.out).mono ?_
  rintro e w1 ⟨rfl,hb⟩
  have HX:=zH (HX.out.next hb)
  have HB:=zH (HB0.out.trans (hb.mono HB0.out.size))
  clear hb cG HB0
  go_wp2_with fail
  refine(cP _ HB.out).mono ?_
  rintro e w2 ⟨⟨u,rfl,hD⟩,hb⟩
  have HX:=zH (HX.out.next hb)
  have HB:=zH (HB.out.trans (hb.mono HB.out.size))
  have cO2:=cO _ _ (hD.low (Nat.zero_le _))
  obtain⟨uo,uc,rfl,_⟩:=hD
  clear hb cP cO
  go_wp2_with fail
  refine cO2.mono ?_
  rintro e w3 ⟨rfl,hb⟩
  have HX:=zH (HX.out.next hb)
  have HB:=zH (HB.out.trans (hb.mono HB.out.size))
  clear hb cO2
  obtain⟨x0,g0,x1,g1,x2,g2,x3,g3,x4,g4,x5,g5,x6,g6,x7,g7,x8,g8,x9,g9,x10,g10,x11,g11,x12,g12⟩:=a13X HX.out
  go_wp2_with fail
  clear x0 g0 x1 g1 x2 g2 x3 g3 x4 g4 x5 g5 x6 g6 x7 g7 x8 g8 x9 g9 x10 g10 x11 g11 x12 g12
  have HP:=zH (set13X HX.out rfl (.bool b0) (.bool b1) (.bool b2) (.bool b3) (.bool b4) (.bool b5) (.bool b6) (.bool b7) (.int .i64 k0) (.int .i64 k1) (.int .i64 k2) (.int .i64 k3) (.int .i64 k4))
  have HQ:=zH (set13B HB.out (.bool b0) (.bool b1) (.bool b2) (.bool b3) (.bool b4) (.bool b5) (.bool b6) (.bool b7) (.int .i64 k0) (.int .i64 k1) (.int .i64 k2) (.int .i64 k3) (.int .i64 k4))
  generalize World.setCell _ ⟨_,12,none⟩ _=W9 at *
  obtain⟨p0,p1,p2,p3,p4,p5,p6,p7,p8,p9,p10,p11,p12⟩:=b13X HP.out
  refine bodyPost_ret (v:=.agg #[.bool b0,.bool b1,.bool b2,.bool b3,.bool b4,.bool b5,.bool b6,.bool b7,.int .i64 k0,.int .i64 k1,.int .i64 k2,.int .i64 k3,.int .i64 k4]) (by simp [results,Tryz.results21,go_sem,p0,p1,p2,p3,p4,p5,p6,p7,p8,p9,p10,p11,p12]) rfl ⟨by rw [HR.out],HQ.out⟩
 ·rw [decide_eq_false h]at cG
  have HR:Hid (rulV DS=.agg #[.bool false,.bool false,.bool false,.bool false,.bool false,.bool false,.bool false,.bool false,.int .i64 (-1),.int .i64 (-1),.int .i64 (-1),.int .i64 (-1),.int .i64 (-1)]):=zH (by rw [HE.out h]<;>rfl)
  rw [rulV_none]at cN
  clear HE h HC hj hk HV cO cP
  generalize strB (joinH (allH fs nCtl))=J at *
  generalize rulV DS=R at *
  go_enter Tryz.func21,Tryz.ntmps21
  go_wp2_with fail
  refine(cG _ HB0.out).mono ?_
  rintro e w1 ⟨rfl,hb⟩
  have HX:=zH (HX.out.next hb)
  have HB:=zH (HB0.out.trans (hb.mono HB0.out.size))
  clear hb cG HB0
  go_wp2_with fail
  refine(cN _).mono ?_
  rintro e w3 ⟨rfl,hb⟩
  have HX:=zH (HX.out.next hb)
  have HB:=zH (HB.out.trans (hb.mono HB.out.size))
  clear hb cN
  obtain⟨x0,g0,x1,g1,x2,g2,x3,g3,x4,g4,x5,g5,x6,g6,x7,g7,x8,g8,x9,g9,x10,g10,x11,g11,x12,g12⟩:=a13X HX.out
  go_wp2_with fail
  clear x0 g0 x1 g1 x2 g2 x3 g3 x4 g4 x5 g5 x6 g6 x7 g7 x8 g8 x9 g9 x10 g10 x11 g11 x12 g12
  have HP:=zH (set13X HX.out rfl (.bool false) (.bool false) (.bool false) (.bool false) (.bool false) (.bool false) (.bool false) (.bool false) (.int .i64 (-1)) (.int .i64 (-1)) (.int .i64 (-1)) (.int .i64 (-1)) (.int .i64 (-1)))
  have HQ:=zH (set13B HB.out (.bool false) (.bool false) (.bool false) (.bool false) (.bool false) (.bool false) (.bool false) (.bool false) (.int .i64 (-1)) (.int .i64 (-1)) (.int .i64 (-1)) (.int .i64 (-1)) (.int .i64 (-1)))
  generalize World.setCell _ ⟨_,12,none⟩ _=W9 at *
  obtain⟨p0,p1,p2,p3,p4,p5,p6,p7,p8,p9,p10,p11,p12⟩:=b13X HP.out
  refine bodyPost_ret (v:=.agg #[.bool false,.bool false,.bool false,.bool false,.bool false,.bool false,.bool false,.bool false,.int .i64 (-1),.int .i64 (-1),.int .i64 (-1),.int .i64 (-1),.int .i64 (-1)]) (by simp [results,Tryz.results21,go_sem,p0,p1,p2,p3,p4,p5,p6,p7,p8,p9,p10,p11,p12]) rfl ⟨by rw [HR.out],HQ.out⟩
end Go.Proofs.YtfaedmbfabfmeaaGreatDoor
namespace Go.Proofs.YtfaedmbfabfmeaaGreatDoor
open Go.RowKit Go.Lib
theorem r10read_any (lo:Nat) (v:Value) (fs:List Fld) (w:World) (hv:Flds lo w v fs) (hk:FldsOk fs) (hj:(joinH (allH fs nCtl)).length≤100000) :
  Calls Tryz.prog 34 #[v] w fun e w'=>e=.returned (rulV (ctlD fs))∧Below w.heap.size w w':=by
 have cG:=fun W (hb:Below w.heap.size w W)=>rget_any lo v fs nCtl W (hv.below hb) hk
 have cP:=fun W=>rparse_any (strB (joinH (allH fs nCtl))) W (by rw [strB_size];exact hj)
 simp only [strB_data]at cP
 have cO:=fun u W (h:Dirs 0 W u (ctlD fs))=>rof_any 0 u (ctlD fs) W h (dirsL_ok _ hj)
 have HV:Hid (getV fs nCtl=.tuple #[.string (strB (joinH (allH fs nCtl))),.bool (decide (0<(allH fs nCtl).length))]):=zH rfl
 have HC:Hid (ctlD fs=dirsL (joinH (allH fs nCtl))):=zH rfl
 obtain⟨ao,cap,rfl,_⟩:=hv
 rw [← HC.out]at cP
 generalize ctlD fs=DS at *
 rw [HV.out]at cG
 have HB0:=zH ((Below.refl w.heap.size w).alloc (zR _) (.cells #[.bool false,.bool false,.bool false,.bool false,.bool false,.bool false,.bool false,.bool false,.int .i64 0,.int .i64 0,.int .i64 0,.int .i64 0,.int .i64 0] 36))
 have HX:=zH (BoxN.made w [.bool false,.bool false,.bool false,.bool false,.bool false,.bool false,.bool false,.bool false,.int .i64 0,.int .i64 0,.int .i64 0,.int .i64 0,.int .i64 0] 36)
 clear HC hj hk HV
 generalize strB (joinH (allH fs nCtl))=J at *
 generalize decide (0<(allH fs nCtl).length)=q at *
 obtain⟨b0,b1,b2,b3,b4,b5,b6,b7,k0,k1,k2,k3,k4,hR⟩:=rulV_form DS
 have HR:=zH hR
 rw [hR]at cO
 clear hR
 generalize rulV DS=R at *
 go_enter Tryz.func34,Tryz.ntmps34
 go_wp2_with fail
 refine(cG _ HB0.out).mono ?_
 rintro e w1 ⟨rfl,hb⟩
 have HX:=zH (HX.out.next hb)
 have HB:=zH (HB0.out.trans (hb.mono HB0.out.size))
 clear hb cG HB0
 go_wp2_with fail
 refine(cP _).mono ?_
 rintro e w2 ⟨⟨u,rfl,hD⟩,hb⟩
 have HX:=zH (HX.out.next hb)
 have HB:=zH (HB.out.trans (hb.mono HB.out.size))
 have cO2:=cO _ _ (hD.low (Nat.zero_le _))
 obtain⟨uo,uc,rfl,_⟩:=hD
 clear hb cP cO
 go_wp2_with fail
 refine cO2.mono ?_
 rintro e w3 ⟨rfl,hb⟩
 have HX:=zH (HX.out.next hb)
 have HB:=zH (HB.out.trans (hb.mono HB.out.size))
 clear hb cO2
 obtain⟨x0,g0,x1,g1,x2,g2,x3,g3,x4,g4,x5,g5,x6,g6,x7,g7,x8,g8,x9,g9,x10,g10,x11,g11,x12,g12⟩:=a13X HX.out
 go_wp2_with fail
 clear x0 g0 x1 g1 x2 g2 x3 g3 x4 g4 x5 g5 x6 g6 x7 g7 x8 g8 x9 g9 x10 g10 x11 g11 x12 g12
 have HP:=zH (set13X HX.out rfl (.bool b0) (.bool b1) (.bool b2) (.bool b3) (.bool b4) (.bool b5) (.bool b6) (.bool b7) (.int .i64 k0) (.int .i64 k1) (.int .i64 k2) (.int .i64 k3) (.int .i64 k4))
 have HQ:=zH (set13B HB.out (.bool b0) (.bool b1) (.bool b2) (.bool b3) (.bool b4) (.bool b5) (.bool b6) (.bool b7) (.int .i64 k0) (.int .i64 k1) (.int .i64 k2) (.int .i64 k3) (.int .i64 k4))
 generalize World.setCell _ ⟨_,12,none⟩ _=W9 at *
 obtain⟨p0,p1,p2,p3,p4,p5,p6,p7,p8,p9,p10,p11,p12⟩:=b13X HP.out
 refine bodyPost_ret (v:=.agg #[.bool b0,.bool b1,.bool b2,.bool b3,.bool b4,.bool b5,.bool b6,.bool b7,.int .i64 k0,.int .i64 k1,.int .i64 k2,.int .i64 k3,.int .i64 k4]) (by simp [results,Tryz.results34,go_sem,p0,p1,p2,p3,p4,p5,p6,p7,p8,p9,p10,p11,p12]) rfl ⟨by rw [HR.out],HQ.out⟩
end Go.Proofs.YtfaedmbfabfmeaaGreatDoor
