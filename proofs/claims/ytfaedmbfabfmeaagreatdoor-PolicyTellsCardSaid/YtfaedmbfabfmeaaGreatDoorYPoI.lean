/- Package policy: Storable. -/
import Derived.Test.YtfaedmbfabfmeaaGreatDoorYMPoH
set_option linter.unusedSimpArgs false
set_option maxRecDepth 100000
set_option maxHeartbeats 16000000
namespace Go.Proofs.YtfaedmbfabfmeaaGreatDoor
open Go.RowKit Go.Lib Go.Shelf
theorem pstor_any (lo:Nat) (q:Rq) (p:Rp) (f y f2 y2:Value) (w:World) (hF:Flds lo w f q.fs) (hY:BytF lo w y q.b) (hF2:Flds lo w f2 p.fs) (hY2:BytF lo w y2 p.b) (hk:FldsOk q.fs) (hk2:FldsOk p.fs) (hj:∀n,(joinH (allH q.fs n)).length≤90000) (hj2:∀n,(joinH (allH p.fs n)).length≤90000) (hA:Alph w) (hT:Tabs w) :
  Calls Tryz.prog 9 #[.agg #[.string (strB q.m),.string (strB q.t),f,y],.agg #[.int .i64 p.n,f2,y2]] w fun e w'=>e=.returned (.bool (storP q.m q.fs p.n p.fs))∧Below w.heap.size w w':=by
 have HJ:=zH (stor_b (decide (q.m=nGet)) (decide (200≤p.n)) (!decide (p.n=206)) (!decide (p.n=304)) (ruD (ctlD q.fs)).ns (chR p.fs).ns (chR p.fs).pr (isN q.fs nAuth) (strictR_RuP (chR p.fs)) (chR p.fs).pu (decide (chT p.fs=2)) (decide (0≤(chR p.fs).ma)) (decide (0≤(chR p.fs).sm)) (isN p.fs nExp) (usual_RuP p.n))
 have hJ:storP q.m q.fs p.n p.fs=_:=HJ.out
 clear HJ
 have hgm:((strB q.m).toList==[71,69,84])=decide (q.m=nGet):=by
  rw [Lib.toList_data,strB_data,Bool.beq_eq_decide_eq]
  rfl
 have htm:(chT p.fs==2)=decide (chT p.fs=2):=Bool.beq_eq_decide_eq _ _
 have cC:=fun W (hb:Below w.heap.size w W)=>mchoose_any lo f2 p.fs W (hF2.below hb) hk2 hj2 (Alph.below hA hb) (Utf8Tabs_below hT hb)
 have cR:=fun W (hb:Below w.heap.size w W)=>lread_any lo f q.fs W (hF.below hb) hk (Nat.le_trans (hj nCtl) (by decide)) (Utf8Tabs_below hT hb)
 have cA:=fun W (hb:Below w.heap.size w W)=>phas_any lo f q.fs nAuth W (hF.below hb) hk
 have cE:=fun W (hb:Below w.heap.size w W)=>phas_any lo f2 p.fs nExp W (hF2.below hb) hk2
 simp only [chs_v]at cC
 simp only [ruD_v]at cR
 have cS:=fun W=>pstrict_any (chR p.fs) W
 have cU:=fun W=>pcache_any p.n W
 have cK:=fun W=>pcompl_any p.n W
 have pN:=fun W=>pg_noStore (ruD (ctlD q.fs)) W
 have pU:=fun W=>pg_public (chR p.fs) W
 have fl0:=fld_flag
 have en0:=en_noStore
 have en1:=en_public
 obtain⟨fo,fc,rfl,-⟩:=id hF
 obtain⟨go_,gc,rfl,-⟩:=id hF2
 obtain⟨yo,yc,rfl,-⟩:=id hY
 obtain⟨zo,zc,rfl,-⟩:=id hY2
 clear hF hF2 hY hY2 hk hk2 hj hj2 hA hT
 generalize storP q.m q.fs p.n p.fs=J at *
 generalize strictR_RuP (chR p.fs)=S at *
 generalize usual_RuP p.n=U at *
 generalize isN q.fs nAuth=se at *
 generalize isN p.fs nExp=ex at *
 generalize decide (chT p.fs=2)=T at *
 generalize chT p.fs=t at *
 generalize ruD (ctlD q.fs)=Ra at *
 generalize chR p.fs=Rb at *
 generalize decide (q.m=nGet)=G at *
 generalize(decide (200≤p.n)&&(!decide (p.n=206)&&!decide (p.n=304)))=C at *
 generalize strB q.m=m at *
 generalize strB q.t=tg at *
 generalize p.n=st at *
 generalize q.fs.length=L1 at *
 generalize p.fs.length=L2 at *
 generalize q.b.length=L3 at *
 generalize p.b.length=L4 at *
 obtain⟨b0,b1,b2,b3,b4,b5,b6,b7,k0,k1,k2,k3,k4⟩:=Rb
 obtain⟨a0,a1,a2,a3,a4,a5,a6,a7,n0,n1,n2,n3,n4⟩:=Ra
 dsimp only [Ru_RuP.v]at *
 obtain⟨B,hB⟩:∃B,(b0||b2)=B:=⟨_,rfl⟩
 obtain⟨X,hX⟩:∃X,(b3||(decide (0≤k0)||decide (0≤k1)))=X:=⟨_,rfl⟩
 rw [hB,hX]at hJ
 have HBB:=zH hB
 have HXX:=zH hX
 have HJ:=zH hJ
 clear hB hX hJ
 obtain⟨W0,hW0⟩:∃W,w.alloc (.cells #[.string m,.string tg,.slice fo L1 fc,.slice yo L3 yc] 25)=W:=⟨_,rfl⟩
 obtain⟨W,hW⟩:∃W,W0.alloc (.cells #[.int .i64 st,.slice go_ L2 gc,.slice zo L4 zc] 27)=W:=⟨_,rfl⟩
 have s0:W0.heap.size=w.heap.size+1:=by rw [← hW0];simp
 have HH:=boxL.one w [.string m,.string tg,.slice fo L1 fc,.slice yo L3 yc] 25
 rw [hW0]at HH
 replace HH:=HH.add [.int .i64 st,.slice go_ L2 gc,.slice zo L4 zc] 27
 rw [hW,s0]at HH
 have HW:=zH (And.intro hW0 hW)
 clear hW0 hW s0
 go_enter Tryz.func9,Tryz.ntmps9
 go_wp2_with fail
 rw [HW.out.1,HW.out.2]
 clear HW
 refine(cR _ HH.b).mono ?_
 rintro e w1 ⟨rfl,hb⟩
 replace HH:=HH.nx hb
 clear hb
 clear cR
 replace HH:=HH.add [.bool a0,.bool a1,.bool a2,.bool a3,.bool a4,.bool a5,.bool a6,.bool a7,.int .i64 n0,.int .i64 n1,.int .i64 n2,.int .i64 n3,.int .i64 n4] 34
 have pf1:=((HH.at 1 rfl).2 1 _ rfl).1
 go_wp2_with fail
 refine(cC _ HH.b).mono ?_
 rintro e w2 ⟨rfl,hb⟩
 clear pf1
 replace HH:=HH.nx hb
 clear hb
 clear cC
 replace HH:=HH.add [.bool b0,.bool b1,.bool b2,.bool b3,.bool b4,.bool b5,.bool b6,.bool b7,.int .i64 k0,.int .i64 k1,.int .i64 k2,.int .i64 k3,.int .i64 k4] 34
 have qf0:=((HH.at 3 rfl).2 0 _ rfl).1
 have pf0:=((HH.at 2 rfl).2 0 _ rfl).1
 cases G
 ·have HV:Hid (J=false):=zH (HJ.out.trans (by rfl))
  go_wp2_with fail
  go_ret
  exact⟨by rw [HV.out];rfl,HH.b⟩
 ·go_wp2_with fail
  refine(cK _).mono ?_
  rintro e w3 ⟨rfl,rfl⟩
  clear qf0 pf0
  clear cK
  cases C
  ·have HV:Hid (J=false):=zH (HJ.out.trans (by rfl))
   go_wp2_with fail
   go_ret
   exact⟨by rw [HV.out];rfl,HH.b⟩
  ·go_wp2_with fail
   refine wBg (by kernel_rfl) (fun _ _ _ _ h=>h) fun hQ=>?_
   replace HH:=HH.nx (drewA _)
   refine wTk 2 28 hQ rfl rfl (by kernel_rfl) (by rfl) (by intro w hw;obtain⟨y0,y1,y2,y3,y4,y5,y6,y7,y8,y9,y10,y11,y12⟩:=((HH.at 1 rfl).next hw).c13;go_simp;try with_reducible rfl) ?_
   dsimp only [List.set]
   refine wCl 0 rfl (by kernel_rfl) fun K hK=>?_
   go_simp
   refine Calls.mono (p_noStore _) ?_
   rintro e V23x1 ⟨rfl,hh⟩
   refine wNx hK hh ?_
   clear hK K
   replace HH:=HH.nx hh
   clear hh
   refine wTk 1 27 hQ rfl rfl (by kernel_rfl) (by rfl) (by intro w _;go_simp;try with_reducible rfl) ?_
   dsimp only [List.set]
   refine wCl 3 rfl (by kernel_rfl) fun K hK=>?_
   go_simp
   refine Calls.mono (pN _) ?_
   rintro e V23x2 ⟨rfl,hh⟩
   refine wNx hK hh ?_
   clear hK K
   replace HH:=HH.nx hh
   clear hh
   refine wTk 4 25 hQ rfl rfl (by kernel_rfl) (by rfl) (by intro w _;go_simp;try with_reducible rfl) ?_
   dsimp only [List.set]
   refine wpAnyH_done (by kernel_rfl) ?_ _
   clear hQ
   clear pN
   cases a0
   ·go_wp2_with fail
    refine wBg (by kernel_rfl) (fun _ _ _ _ h=>h) fun hQ=>?_
    replace HH:=HH.nx (drewA _)
    refine wTk 0 30 hQ rfl rfl (by kernel_rfl) (by rfl) (by intro w hw;obtain⟨y0,y1,y2,y3,y4,y5,y6,y7,y8,y9,y10,y11,y12⟩:=((HH.at 0 rfl).next hw).c13;go_simp;try with_reducible rfl) ?_
    dsimp only [List.set]
    refine wCl 1 rfl (by kernel_rfl) fun K hK=>?_
    go_simp
    refine Calls.mono (p_noStore _) ?_
    rintro e V24x1 ⟨rfl,hh⟩
    refine wNx hK hh ?_
    clear hK K
    replace HH:=HH.nx hh
    clear hh
    refine wCl 2 rfl (by kernel_rfl) fun K hK=>?_
    go_simp
    refine Calls.mono (p_private _) ?_
    rintro e V24x2 ⟨rfl,hh⟩
    refine wNx hK hh ?_
    clear hK K
    replace HH:=HH.nx hh
    clear hh
    refine wCl 3 rfl (by kernel_rfl) fun K hK=>?_
    go_simp
    have hh:=(Below.refl V24x2.heap.size V24x2).alloc (zR _) (.cells #[.func (.func 59) #[] #[],.func (.func 100) #[] #[],.func (.func 60) #[] #[],.func (.func 100) #[] #[]] 60)
    refine wNx hK hh ?_
    clear hK K
    replace HH:=HH.add [.func (.func 59) #[] #[],.func (.func 100) #[] #[],.func (.func 60) #[] #[],.func (.func 100) #[] #[]] 60
    clear hh
    generalize hW:V24x2.alloc (.cells #[.func (.func 59) #[] #[],.func (.func 100) #[] #[],.func (.func 60) #[] #[],.func (.func 100) #[] #[]] 60)=V24x3 at *
    clear hW
    refine wCl 4 rfl (by kernel_rfl) fun K hK=>?_
    go_simp
    refine Calls.mono (panySet2v ⟨b0,b1,b2,b3,b4,b5,b6,b7,k0,k1,k2,k3,k4⟩ _ _ _ _ _ _ B _ _ HBB.out (HH.at 0 rfl) (sA_noStore_PoBa ⟨b0,b1,b2,b3,b4,b5,b6,b7,k0,k1,k2,k3,k4⟩ _) (sA_private_PoBa ⟨b0,b1,b2,b3,b4,b5,b6,b7,k0,k1,k2,k3,k4⟩ _)) ?_
    rintro e V24x4 ⟨rfl,hh⟩
    refine wNx hK hh ?_
    clear hK K
    replace HH:=HH.nx hh
    clear hh
    refine wTk 5 25 hQ rfl rfl (by kernel_rfl) (by rfl) (by intro w _;go_simp;try with_reducible rfl) ?_
    dsimp only [List.set]
    refine wpAnyH_done (by kernel_rfl) ?_ _
    clear hQ
    clear HBB
    cases B
    ·go_wp2_with fail
     cases se
     ·refine wBg (by kernel_rfl) (fun _ _ _ _ h=>h) fun hQ=>?_
      replace HH:=HH.nx (drewA _)
      refine wTk 0 36 hQ rfl rfl (by kernel_rfl) (by rfl) (by intro w _;go_simp;try with_reducible rfl) ?_
      dsimp only [List.set]
      refine wTk 1 37 hQ rfl rfl (by kernel_rfl) (by rfl) (by intro w hw;have y2:=(((HH.at 4 rfl).next hw).2 2 _ rfl).1;go_simp;try with_reducible rfl) ?_
      dsimp only [List.set]
      refine wCl 2 rfl (by kernel_rfl) fun K hK=>?_
      go_simp
      refine Calls.mono (cA _ HH.b) ?_
      rintro e V25x1 ⟨rfl,hh⟩
      refine wNx hK hh ?_
      clear hK K
      replace HH:=HH.nx hh
      clear hh
      refine wTk 3 39 hQ rfl rfl (by kernel_rfl) (by rfl) (by intro w _;go_simp;try with_reducible rfl) ?_
      dsimp only [List.set]
      refine wSk 4 40 hQ rfl rfl (by kernel_rfl) (by rfl) ?_
      dsimp only [List.set]
      refine wSk 5 41 hQ rfl rfl (by kernel_rfl) (by rfl) ?_
      dsimp only [List.set]
      refine wSk 6 42 hQ rfl rfl (by kernel_rfl) (by rfl) ?_
      dsimp only [List.set]
      refine wTk 7 43 hQ rfl rfl (by kernel_rfl) (by rfl) (by intro w _;go_simp;try with_reducible rfl) ?_
      dsimp only [List.set]
      refine wTk 8 44 hQ rfl rfl (by kernel_rfl) (by rfl) (by intro w _;go_simp;try with_reducible rfl) ?_
      dsimp only [List.set]
      refine wSk 9 45 hQ rfl rfl (by kernel_rfl) (by rfl) ?_
      dsimp only [List.set]
      refine wSk 10 46 hQ rfl rfl (by kernel_rfl) (by rfl) ?_
      dsimp only [List.set]
      refine wSk 11 47 hQ rfl rfl (by kernel_rfl) (by rfl) ?_
      dsimp only [List.set]
      refine wSk 12 48 hQ rfl rfl (by kernel_rfl) (by rfl) ?_
      dsimp only [List.set]
      refine wSk 13 49 hQ rfl rfl (by kernel_rfl) (by rfl) ?_
      dsimp only [List.set]
      refine wTk 14 50 hQ rfl rfl (by kernel_rfl) (by rfl) (by intro w _;go_simp;try with_reducible rfl) ?_
      dsimp only [List.set]
      refine wTk 15 35 hQ rfl rfl (by kernel_rfl) (by rfl) (by intro w _;go_simp;try with_reducible rfl) ?_
      dsimp only [List.set]
      refine wpAnyH_done (by kernel_rfl) ?_ _
      clear hQ
      clear cA cS pU
      cases T
      ·go_wp2_with fail
       refine wBg (by kernel_rfl) (fun _ _ _ _ h=>h) fun hQ=>?_
       replace HH:=HH.nx (drewA _)
       refine wTk 0 54 hQ rfl rfl (by kernel_rfl) (by rfl) (by intro w hw;obtain⟨y0,y1,y2,y3,y4,y5,y6,y7,y8,y9,y10,y11,y12⟩:=((HH.at 1 rfl).next hw).c13;go_simp;try with_reducible rfl) ?_
       dsimp only [List.set]
       refine wCl 1 rfl (by kernel_rfl) fun K hK=>?_
       go_simp
       refine Calls.mono (p_public _) ?_
       rintro e V30x1 ⟨rfl,hh⟩
       refine wNx hK hh ?_
       clear hK K
       replace HH:=HH.nx hh
       clear hh
       refine wCl 2 rfl (by kernel_rfl) fun K hK=>?_
       go_simp
       refine Calls.mono (p_maxAge _) ?_
       rintro e V30x2 ⟨x1,rfl,-,hn,hh⟩
       have HN1:=zH hn
       clear hn
       refine wNx hK hh ?_
       clear hK K
       replace HH:=HH.nx hh
       clear hh
       refine wCl 3 rfl (by kernel_rfl) fun K hK=>?_
       go_simp
       refine Calls.mono (p_sMaxAge _) ?_
       rintro e V30x3 ⟨x2,rfl,-,hn,hh⟩
       have HN2:=zH hn
       clear hn
       refine wNx hK hh ?_
       clear hK K
       replace HH:=HH.nx hh
       replace HN1:=zH (HN1.out.below hh)
       clear hh
       refine wCl 4 rfl (by kernel_rfl) fun K hK=>?_
       go_simp
       have hh:=(Below.refl V30x3.heap.size V30x3).alloc (zR _) (.cells #[.func (.func 62) #[] #[],.func (.func 100) #[] #[],.func (.func 102) #[] #[.pointer (some ⟨x1,0,none⟩)],.func (.func 64) #[] #[],.func (.func 102) #[] #[.pointer (some ⟨x2,0,none⟩)],.func (.func 65) #[] #[]] 60)
       refine wNx hK hh ?_
       clear hK K
       replace HH:=HH.add [.func (.func 62) #[] #[],.func (.func 100) #[] #[],.func (.func 102) #[] #[.pointer (some ⟨x1,0,none⟩)],.func (.func 64) #[] #[],.func (.func 102) #[] #[.pointer (some ⟨x2,0,none⟩)],.func (.func 65) #[] #[]] 60
       replace HN1:=zH (HN1.out.below hh)
       replace HN2:=zH (HN2.out.below hh)
       clear hh
       generalize hW:V30x3.alloc (.cells #[.func (.func 62) #[] #[],.func (.func 100) #[] #[],.func (.func 102) #[] #[.pointer (some ⟨x1,0,none⟩)],.func (.func 64) #[] #[],.func (.func 102) #[] #[.pointer (some ⟨x2,0,none⟩)],.func (.func 65) #[] #[]] 60)=V30x4 at *
       clear hW
       refine wCl 5 rfl (by kernel_rfl) fun K hK=>?_
       go_simp
       refine Calls.mono (panySet3v ⟨b0,b1,b2,b3,b4,b5,b6,b7,k0,k1,k2,k3,k4⟩ _ _ _ _ _ _ _ _ _ X _ _ HXX.out (HH.at 0 rfl) (sA_public_PoBa ⟨b0,b1,b2,b3,b4,b5,b6,b7,k0,k1,k2,k3,k4⟩ _) (sA_maxAge_PoBa ⟨b0,b1,b2,b3,b4,b5,b6,b7,k0,k1,k2,k3,k4⟩ _ x1 HN1.out) (sA_sMaxAge_PoBa ⟨b0,b1,b2,b3,b4,b5,b6,b7,k0,k1,k2,k3,k4⟩ _ x2 HN2.out)) ?_
       rintro e V30x5 ⟨rfl,hh⟩
       refine wNx hK hh ?_
       clear hK K
       replace HH:=HH.nx hh
       replace HN1:=zH (HN1.out.below hh)
       replace HN2:=zH (HN2.out.below hh)
       clear hh
       refine wTk 6 51 hQ rfl rfl (by kernel_rfl) (by rfl) (by intro w _;go_simp;try with_reducible rfl) ?_
       dsimp only [List.set]
       refine wpAnyH_done (by kernel_rfl) ?_ _
       clear hQ
       clear HXX
       cases X
       ·have pf0:=((HH.at 4 rfl).2 0 _ rfl).1
        have pf1:=((HH.at 4 rfl).2 1 _ rfl).1
        go_wp2_with fail
        refine(cE _ HH.b).mono ?_
        rintro e w9 ⟨rfl,hb⟩
        clear pf0 pf1
        replace HH:=HH.nx hb
        replace HN1:=zH (HN1.out.below hb)
        replace HN2:=zH (HN2.out.below hb)
        clear hb
        clear cE
        cases ex
        ·have pf0:=((HH.at 4 rfl).2 0 _ rfl).1
         go_wp2_with fail
         refine(cU _).mono ?_
         rintro e w10 ⟨rfl,rfl⟩
         have HV:Hid (J=U):=zH (HJ.out.trans (by rfl))
         go_wp2_with fail
         go_ret
         exact⟨by rw [HV.out];rfl,HH.b⟩
        ·have HV:Hid (J=true):=zH (HJ.out.trans (by rfl))
         go_wp2_with fail
         go_ret
         exact⟨by rw [HV.out];rfl,HH.b⟩
       ·have HV:Hid (J=true):=zH (HJ.out.trans (by rfl))
        go_wp2_with fail
        go_ret
        exact⟨by rw [HV.out];rfl,HH.b⟩
      ·have HV:Hid (J=true):=zH (HJ.out.trans (by rfl))
       go_wp2_with fail
       go_ret
       exact⟨by rw [HV.out];rfl,HH.b⟩
     ·cases S
      ·refine wBg (by kernel_rfl) (fun _ _ _ _ h=>h) fun hQ=>?_
       replace HH:=HH.nx (drewA _)
       refine wTk 0 36 hQ rfl rfl (by kernel_rfl) (by rfl) (by intro w _;go_simp;try with_reducible rfl) ?_
       dsimp only [List.set]
       refine wTk 1 37 hQ rfl rfl (by kernel_rfl) (by rfl) (by intro w hw;have y2:=(((HH.at 4 rfl).next hw).2 2 _ rfl).1;go_simp;try with_reducible rfl) ?_
       dsimp only [List.set]
       refine wCl 2 rfl (by kernel_rfl) fun K hK=>?_
       go_simp
       refine Calls.mono (cA _ HH.b) ?_
       rintro e V27x1 ⟨rfl,hh⟩
       refine wNx hK hh ?_
       clear hK K
       replace HH:=HH.nx hh
       clear hh
       refine wTk 3 39 hQ rfl rfl (by kernel_rfl) (by rfl) (by intro w _;go_simp;try with_reducible rfl) ?_
       dsimp only [List.set]
       refine wTk 4 40 hQ rfl rfl (by kernel_rfl) (by rfl) (by intro w hw;obtain⟨y0,y1,y2,y3,y4,y5,y6,y7,y8,y9,y10,y11,y12⟩:=((HH.at 1 rfl).next hw).c13;go_simp;try with_reducible rfl) ?_
       dsimp only [List.set]
       refine wCl 5 rfl (by kernel_rfl) fun K hK=>?_
       go_simp
       refine Calls.mono (cS _) ?_
       rintro e V27x2 ⟨rfl,hh⟩
       refine wNx hK hh ?_
       clear hK K
       replace HH:=HH.nx hh
       clear hh
       refine wTk 6 42 hQ rfl rfl (by kernel_rfl) (by rfl) (by intro w _;go_simp;try with_reducible rfl) ?_
       dsimp only [List.set]
       refine wTk 7 43 hQ rfl rfl (by kernel_rfl) (by rfl) (by intro w _;go_simp;try with_reducible rfl) ?_
       dsimp only [List.set]
       refine wTk 8 44 hQ rfl rfl (by kernel_rfl) (by rfl) (by intro w _;go_simp;try with_reducible rfl) ?_
       dsimp only [List.set]
       refine wTk 11 47 hQ rfl rfl (by kernel_rfl) (by rfl) (by intro w hw;obtain⟨y0,y1,y2,y3,y4,y5,y6,y7,y8,y9,y10,y11,y12⟩:=((HH.at 1 rfl).next hw).c13;go_simp;try with_reducible rfl) ?_
       dsimp only [List.set]
       refine wCl 9 rfl (by kernel_rfl) fun K hK=>?_
       go_simp
       refine Calls.mono (p_public _) ?_
       rintro e V27x3 ⟨rfl,hh⟩
       refine wNx hK hh ?_
       clear hK K
       replace HH:=HH.nx hh
       clear hh
       refine wTk 10 46 hQ rfl rfl (by kernel_rfl) (by rfl) (by intro w _;go_simp;try with_reducible rfl) ?_
       dsimp only [List.set]
       refine wCl 12 rfl (by kernel_rfl) fun K hK=>?_
       go_simp
       refine Calls.mono (pU _) ?_
       rintro e V27x4 ⟨rfl,hh⟩
       refine wNx hK hh ?_
       clear hK K
       replace HH:=HH.nx hh
       clear hh
       refine wTk 13 49 hQ rfl rfl (by kernel_rfl) (by rfl) (by intro w _;go_simp;try with_reducible rfl) ?_
       dsimp only [List.set]
       refine wTk 14 50 hQ rfl rfl (by kernel_rfl) (by rfl) (by intro w _;go_simp;try with_reducible rfl) ?_
       dsimp only [List.set]
       refine wTk 15 35 hQ rfl rfl (by kernel_rfl) (by rfl) (by intro w _;go_simp;try with_reducible rfl) ?_
       dsimp only [List.set]
       refine wpAnyH_done (by kernel_rfl) ?_ _
       clear hQ
       clear cA cS pU
       cases b3
       ·have HV:Hid (J=false):=zH (HJ.out.trans (by rfl))
        go_wp2_with fail
        go_ret
        exact⟨by rw [HV.out];rfl,HH.b⟩
       ·cases T
        ·go_wp2_with fail
         refine wBg (by kernel_rfl) (fun _ _ _ _ h=>h) fun hQ=>?_
         replace HH:=HH.nx (drewA _)
         refine wTk 0 54 hQ rfl rfl (by kernel_rfl) (by rfl) (by intro w hw;obtain⟨y0,y1,y2,y3,y4,y5,y6,y7,y8,y9,y10,y11,y12⟩:=((HH.at 1 rfl).next hw).c13;go_simp;try with_reducible rfl) ?_
         dsimp only [List.set]
         refine wCl 1 rfl (by kernel_rfl) fun K hK=>?_
         go_simp
         refine Calls.mono (p_public _) ?_
         rintro e V29x1 ⟨rfl,hh⟩
         refine wNx hK hh ?_
         clear hK K
         replace HH:=HH.nx hh
         clear hh
         refine wCl 2 rfl (by kernel_rfl) fun K hK=>?_
         go_simp
         refine Calls.mono (p_maxAge _) ?_
         rintro e V29x2 ⟨x1,rfl,-,hn,hh⟩
         have HN1:=zH hn
         clear hn
         refine wNx hK hh ?_
         clear hK K
         replace HH:=HH.nx hh
         clear hh
         refine wCl 3 rfl (by kernel_rfl) fun K hK=>?_
         go_simp
         refine Calls.mono (p_sMaxAge _) ?_
         rintro e V29x3 ⟨x2,rfl,-,hn,hh⟩
         have HN2:=zH hn
         clear hn
         refine wNx hK hh ?_
         clear hK K
         replace HH:=HH.nx hh
         replace HN1:=zH (HN1.out.below hh)
         clear hh
         refine wCl 4 rfl (by kernel_rfl) fun K hK=>?_
         go_simp
         have hh:=(Below.refl V29x3.heap.size V29x3).alloc (zR _) (.cells #[.func (.func 62) #[] #[],.func (.func 100) #[] #[],.func (.func 102) #[] #[.pointer (some ⟨x1,0,none⟩)],.func (.func 64) #[] #[],.func (.func 102) #[] #[.pointer (some ⟨x2,0,none⟩)],.func (.func 65) #[] #[]] 60)
         refine wNx hK hh ?_
         clear hK K
         replace HH:=HH.add [.func (.func 62) #[] #[],.func (.func 100) #[] #[],.func (.func 102) #[] #[.pointer (some ⟨x1,0,none⟩)],.func (.func 64) #[] #[],.func (.func 102) #[] #[.pointer (some ⟨x2,0,none⟩)],.func (.func 65) #[] #[]] 60
         replace HN1:=zH (HN1.out.below hh)
         replace HN2:=zH (HN2.out.below hh)
         clear hh
         generalize hW:V29x3.alloc (.cells #[.func (.func 62) #[] #[],.func (.func 100) #[] #[],.func (.func 102) #[] #[.pointer (some ⟨x1,0,none⟩)],.func (.func 64) #[] #[],.func (.func 102) #[] #[.pointer (some ⟨x2,0,none⟩)],.func (.func 65) #[] #[]] 60)=V29x4 at *
         clear hW
         refine wCl 5 rfl (by kernel_rfl) fun K hK=>?_
         go_simp
         refine Calls.mono (panySet3v ⟨b0,b1,b2,true,b4,b5,b6,b7,k0,k1,k2,k3,k4⟩ _ _ _ _ _ _ _ _ _ X _ _ HXX.out (HH.at 0 rfl) (sA_public_PoBa ⟨b0,b1,b2,true,b4,b5,b6,b7,k0,k1,k2,k3,k4⟩ _) (sA_maxAge_PoBa ⟨b0,b1,b2,true,b4,b5,b6,b7,k0,k1,k2,k3,k4⟩ _ x1 HN1.out) (sA_sMaxAge_PoBa ⟨b0,b1,b2,true,b4,b5,b6,b7,k0,k1,k2,k3,k4⟩ _ x2 HN2.out)) ?_
         rintro e V29x5 ⟨rfl,hh⟩
         refine wNx hK hh ?_
         clear hK K
         replace HH:=HH.nx hh
         replace HN1:=zH (HN1.out.below hh)
         replace HN2:=zH (HN2.out.below hh)
         clear hh
         refine wTk 6 51 hQ rfl rfl (by kernel_rfl) (by rfl) (by intro w _;go_simp;try with_reducible rfl) ?_
         dsimp only [List.set]
         refine wpAnyH_done (by kernel_rfl) ?_ _
         clear hQ
         clear HXX
         cases X
         ·have pf0:=((HH.at 4 rfl).2 0 _ rfl).1
          have pf1:=((HH.at 4 rfl).2 1 _ rfl).1
          go_wp2_with fail
          refine(cE _ HH.b).mono ?_
          rintro e w9 ⟨rfl,hb⟩
          clear pf0 pf1
          replace HH:=HH.nx hb
          replace HN1:=zH (HN1.out.below hb)
          replace HN2:=zH (HN2.out.below hb)
          clear hb
          clear cE
          cases ex
          ·have pf0:=((HH.at 4 rfl).2 0 _ rfl).1
           go_wp2_with fail
           refine(cU _).mono ?_
           rintro e w10 ⟨rfl,rfl⟩
           have HV:Hid (J=U):=zH (HJ.out.trans (by rfl))
           go_wp2_with fail
           go_ret
           exact⟨by rw [HV.out];rfl,HH.b⟩
          ·have HV:Hid (J=true):=zH (HJ.out.trans (by rfl))
           go_wp2_with fail
           go_ret
           exact⟨by rw [HV.out];rfl,HH.b⟩
         ·have HV:Hid (J=true):=zH (HJ.out.trans (by rfl))
          go_wp2_with fail
          go_ret
          exact⟨by rw [HV.out];rfl,HH.b⟩
        ·have HV:Hid (J=true):=zH (HJ.out.trans (by rfl))
         go_wp2_with fail
         go_ret
         exact⟨by rw [HV.out];rfl,HH.b⟩
      ·refine wBg (by kernel_rfl) (fun _ _ _ _ h=>h) fun hQ=>?_
       replace HH:=HH.nx (drewA _)
       refine wTk 0 36 hQ rfl rfl (by kernel_rfl) (by rfl) (by intro w _;go_simp;try with_reducible rfl) ?_
       dsimp only [List.set]
       refine wTk 1 37 hQ rfl rfl (by kernel_rfl) (by rfl) (by intro w hw;have y2:=(((HH.at 4 rfl).next hw).2 2 _ rfl).1;go_simp;try with_reducible rfl) ?_
       dsimp only [List.set]
       refine wCl 2 rfl (by kernel_rfl) fun K hK=>?_
       go_simp
       refine Calls.mono (cA _ HH.b) ?_
       rintro e V26x1 ⟨rfl,hh⟩
       refine wNx hK hh ?_
       clear hK K
       replace HH:=HH.nx hh
       clear hh
       refine wTk 3 39 hQ rfl rfl (by kernel_rfl) (by rfl) (by intro w _;go_simp;try with_reducible rfl) ?_
       dsimp only [List.set]
       refine wTk 4 40 hQ rfl rfl (by kernel_rfl) (by rfl) (by intro w hw;obtain⟨y0,y1,y2,y3,y4,y5,y6,y7,y8,y9,y10,y11,y12⟩:=((HH.at 1 rfl).next hw).c13;go_simp;try with_reducible rfl) ?_
       dsimp only [List.set]
       refine wCl 5 rfl (by kernel_rfl) fun K hK=>?_
       go_simp
       refine Calls.mono (cS _) ?_
       rintro e V26x2 ⟨rfl,hh⟩
       refine wNx hK hh ?_
       clear hK K
       replace HH:=HH.nx hh
       clear hh
       refine wTk 6 42 hQ rfl rfl (by kernel_rfl) (by rfl) (by intro w _;go_simp;try with_reducible rfl) ?_
       dsimp only [List.set]
       refine wTk 7 43 hQ rfl rfl (by kernel_rfl) (by rfl) (by intro w _;go_simp;try with_reducible rfl) ?_
       dsimp only [List.set]
       refine wTk 8 44 hQ rfl rfl (by kernel_rfl) (by rfl) (by intro w _;go_simp;try with_reducible rfl) ?_
       dsimp only [List.set]
       refine wSk 9 45 hQ rfl rfl (by kernel_rfl) (by rfl) ?_
       dsimp only [List.set]
       refine wSk 10 46 hQ rfl rfl (by kernel_rfl) (by rfl) ?_
       dsimp only [List.set]
       refine wSk 11 47 hQ rfl rfl (by kernel_rfl) (by rfl) ?_
       dsimp only [List.set]
       refine wSk 12 48 hQ rfl rfl (by kernel_rfl) (by rfl) ?_
       dsimp only [List.set]
       refine wSk 13 49 hQ rfl rfl (by kernel_rfl) (by rfl) ?_
       dsimp only [List.set]
       refine wTk 14 50 hQ rfl rfl (by kernel_rfl) (by rfl) (by intro w _;go_simp;try with_reducible rfl) ?_
       dsimp only [List.set]
       refine wTk 15 35 hQ rfl rfl (by kernel_rfl) (by rfl) (by intro w _;go_simp;try with_reducible rfl) ?_
       dsimp only [List.set]
       refine wpAnyH_done (by kernel_rfl) ?_ _
       clear hQ
       clear cA cS pU
       cases T
       ·go_wp2_with fail
        refine wBg (by kernel_rfl) (fun _ _ _ _ h=>h) fun hQ=>?_
        replace HH:=HH.nx (drewA _)
        refine wTk 0 54 hQ rfl rfl (by kernel_rfl) (by rfl) (by intro w hw;obtain⟨y0,y1,y2,y3,y4,y5,y6,y7,y8,y9,y10,y11,y12⟩:=((HH.at 1 rfl).next hw).c13;go_simp;try with_reducible rfl) ?_
        dsimp only [List.set]
        refine wCl 1 rfl (by kernel_rfl) fun K hK=>?_
        go_simp
        refine Calls.mono (p_public _) ?_
        rintro e V28x1 ⟨rfl,hh⟩
        refine wNx hK hh ?_
        clear hK K
        replace HH:=HH.nx hh
        clear hh
        refine wCl 2 rfl (by kernel_rfl) fun K hK=>?_
        go_simp
        refine Calls.mono (p_maxAge _) ?_
        rintro e V28x2 ⟨x1,rfl,-,hn,hh⟩
        have HN1:=zH hn
        clear hn
        refine wNx hK hh ?_
        clear hK K
        replace HH:=HH.nx hh
        clear hh
        refine wCl 3 rfl (by kernel_rfl) fun K hK=>?_
        go_simp
        refine Calls.mono (p_sMaxAge _) ?_
        rintro e V28x3 ⟨x2,rfl,-,hn,hh⟩
        have HN2:=zH hn
        clear hn
        refine wNx hK hh ?_
        clear hK K
        replace HH:=HH.nx hh
        replace HN1:=zH (HN1.out.below hh)
        clear hh
        refine wCl 4 rfl (by kernel_rfl) fun K hK=>?_
        go_simp
        have hh:=(Below.refl V28x3.heap.size V28x3).alloc (zR _) (.cells #[.func (.func 62) #[] #[],.func (.func 100) #[] #[],.func (.func 102) #[] #[.pointer (some ⟨x1,0,none⟩)],.func (.func 64) #[] #[],.func (.func 102) #[] #[.pointer (some ⟨x2,0,none⟩)],.func (.func 65) #[] #[]] 60)
        refine wNx hK hh ?_
        clear hK K
        replace HH:=HH.add [.func (.func 62) #[] #[],.func (.func 100) #[] #[],.func (.func 102) #[] #[.pointer (some ⟨x1,0,none⟩)],.func (.func 64) #[] #[],.func (.func 102) #[] #[.pointer (some ⟨x2,0,none⟩)],.func (.func 65) #[] #[]] 60
        replace HN1:=zH (HN1.out.below hh)
        replace HN2:=zH (HN2.out.below hh)
        clear hh
        generalize hW:V28x3.alloc (.cells #[.func (.func 62) #[] #[],.func (.func 100) #[] #[],.func (.func 102) #[] #[.pointer (some ⟨x1,0,none⟩)],.func (.func 64) #[] #[],.func (.func 102) #[] #[.pointer (some ⟨x2,0,none⟩)],.func (.func 65) #[] #[]] 60)=V28x4 at *
        clear hW
        refine wCl 5 rfl (by kernel_rfl) fun K hK=>?_
        go_simp
        refine Calls.mono (panySet3v ⟨b0,b1,b2,b3,b4,b5,b6,b7,k0,k1,k2,k3,k4⟩ _ _ _ _ _ _ _ _ _ X _ _ HXX.out (HH.at 0 rfl) (sA_public_PoBa ⟨b0,b1,b2,b3,b4,b5,b6,b7,k0,k1,k2,k3,k4⟩ _) (sA_maxAge_PoBa ⟨b0,b1,b2,b3,b4,b5,b6,b7,k0,k1,k2,k3,k4⟩ _ x1 HN1.out) (sA_sMaxAge_PoBa ⟨b0,b1,b2,b3,b4,b5,b6,b7,k0,k1,k2,k3,k4⟩ _ x2 HN2.out)) ?_
        rintro e V28x5 ⟨rfl,hh⟩
        refine wNx hK hh ?_
        clear hK K
        replace HH:=HH.nx hh
        replace HN1:=zH (HN1.out.below hh)
        replace HN2:=zH (HN2.out.below hh)
        clear hh
        refine wTk 6 51 hQ rfl rfl (by kernel_rfl) (by rfl) (by intro w _;go_simp;try with_reducible rfl) ?_
        dsimp only [List.set]
        refine wpAnyH_done (by kernel_rfl) ?_ _
        clear hQ
        clear HXX
        cases X
        ·have pf0:=((HH.at 4 rfl).2 0 _ rfl).1
         have pf1:=((HH.at 4 rfl).2 1 _ rfl).1
         go_wp2_with fail
         refine(cE _ HH.b).mono ?_
         rintro e w9 ⟨rfl,hb⟩
         clear pf0 pf1
         replace HH:=HH.nx hb
         replace HN1:=zH (HN1.out.below hb)
         replace HN2:=zH (HN2.out.below hb)
         clear hb
         clear cE
         cases ex
         ·have pf0:=((HH.at 4 rfl).2 0 _ rfl).1
          go_wp2_with fail
          refine(cU _).mono ?_
          rintro e w10 ⟨rfl,rfl⟩
          have HV:Hid (J=U):=zH (HJ.out.trans (by rfl))
          go_wp2_with fail
          go_ret
          exact⟨by rw [HV.out];rfl,HH.b⟩
         ·have HV:Hid (J=true):=zH (HJ.out.trans (by rfl))
          go_wp2_with fail
          go_ret
          exact⟨by rw [HV.out];rfl,HH.b⟩
        ·have HV:Hid (J=true):=zH (HJ.out.trans (by rfl))
         go_wp2_with fail
         go_ret
         exact⟨by rw [HV.out];rfl,HH.b⟩
       ·have HV:Hid (J=true):=zH (HJ.out.trans (by rfl))
        go_wp2_with fail
        go_ret
        exact⟨by rw [HV.out];rfl,HH.b⟩
    ·have HV:Hid (J=false):=zH (HJ.out.trans (by rfl))
     go_wp2_with fail
     go_ret
     exact⟨by rw [HV.out];rfl,HH.b⟩
   ·have HV:Hid (J=false):=zH (HJ.out.trans (by rfl))
    go_wp2_with fail
    go_ret
    exact⟨by rw [HV.out];rfl,HH.b⟩
end Go.Proofs.YtfaedmbfabfmeaaGreatDoor
