/- Package policy: Judge. -/
import Derived.Test.YtfaedmbfabfmeaaGreatDoorYPoD
set_option linter.unusedSimpArgs false
set_option maxRecDepth 100000
set_option maxHeartbeats 16000000
namespace Go.Proofs.YtfaedmbfabfmeaaGreatDoor
open Go.RowKit Go.Lib Go.Shelf
theorem jud_tree (a l:Int) (r q:Ru_RuP):judP_RuP a l r q=if r.nc=true then 1 else if (decide (a<l)&&r.im)=true then 0 else if decide (refP a l q)=true then 2 else if (decide (a<l)||((decide (0≤q.st)&&decide (a-l≤q.st))&&!strictR_RuP r))=true then 0 else 1:=by
 have e:(decide (refP a l q)=true)=(q.nc=true∨(0≤q.ma∧q.ma<a)∨(0≤q.fr∧l-a<q.fr)):=by
  rw [decide_eq_true_eq]
  rfl
 unfold judP_RuP
 simp only [e,Bool.and_eq_true,Bool.or_eq_true,decide_eq_true_eq,Bool.not_eq_true',and_assoc]
theorem pjudge_any (a l:Int) (r q:Ru_RuP) (w:World) (ha0:0≤a) (ha1:a≤2147483648) (hl0:0≤l) (hl1:l≤2147483648) :
  Calls Tryz.prog 13 #[.int .i64 a,.int .i64 l,r.v,q.v] w fun e w'=>e=.returned (.int .i64 (judP_RuP a l r q))∧Below w.heap.size w w':=by
 have fl0:=fld_flag
 have fl1:=fld_num0
 have fl2:=fld_num1
 have e0:=en_number
 have pN:=fun W=>pg_noCache r W
 have pI:=fun W=>pg_immutable r W
 have cR:=fun W=>prefused_any a l q W ha0 ha1 hl0 hl1
 have cS:=fun W=>pstrict_any r W
 have hw:IntKind.i64.wrap (a-l)=a-l:=IntWalk.i64_in _ (by omega)
 have cX:=fun W b h=>preaches_any_PoBa 83 b q q.st (a-l) W en_maxStale (fun W=>pg_maxStale q W) h
 have e2:=en_noCache
 have e3:=en_immutable
 obtain⟨J,hJ⟩:∃J,judP_RuP a l r q=J:=⟨_,rfl⟩
 rw [hJ]
 obtain⟨S,hS⟩:∃S,strictR_RuP r=S:=⟨_,rfl⟩
 simp only [hS]at cS
 have HJ:=zH (jud_tree a l r q)
 rw [hJ,hS]at HJ
 obtain⟨R,hR⟩:∃R,decide (refP a l q)=R:=⟨_,rfl⟩
 simp only [hR]at cR
 rw [hR]at HJ
 obtain⟨X,hX⟩:∃X,(decide (0≤q.st)&&decide (a-l≤q.st))=X:=⟨_,rfl⟩
 simp only [hX]at cX
 rw [hX]at HJ
 clear hR hX hS hJ
 obtain⟨b0,b1,b2,b3,b4,b5,b6,b7,k0,k1,k2,k3,k4⟩:=r
 obtain⟨c0,c1,c2,c3,c4,c5,c6,c7,m0,m1,m2,m3,m4⟩:=q
 dsimp only [Ru_RuP.v]at *
 obtain⟨W0,hW0⟩:∃W,w.alloc (.cells #[.bool b0,.bool b1,.bool b2,.bool b3,.bool b4,.bool b5,.bool b6,.bool b7,.int .i64 k0,.int .i64 k1,.int .i64 k2,.int .i64 k3,.int .i64 k4] 34)=W:=⟨_,rfl⟩
 obtain⟨W,hW⟩:∃W,W0.alloc (.cells #[.bool c0,.bool c1,.bool c2,.bool c3,.bool c4,.bool c5,.bool c6,.bool c7,.int .i64 m0,.int .i64 m1,.int .i64 m2,.int .i64 m3,.int .i64 m4] 34)=W:=⟨_,rfl⟩
 have s0:W0.heap.size=w.heap.size+1:=by rw [← hW0];simp
 have HH:=(boxL.one w [.bool b0,.bool b1,.bool b2,.bool b3,.bool b4,.bool b5,.bool b6,.bool b7,.int .i64 k0,.int .i64 k1,.int .i64 k2,.int .i64 k3,.int .i64 k4] 34)
 rw [hW0]at HH
 replace HH:=HH.add [.bool c0,.bool c1,.bool c2,.bool c3,.bool c4,.bool c5,.bool c6,.bool c7,.int .i64 m0,.int .i64 m1,.int .i64 m2,.int .i64 m3,.int .i64 m4] 34
 rw [hW,s0]at HH
 have HW:=zH (And.intro hW0 hW)
 clear hW0 hW s0
 by_cases hf:a<l
 ·have df:decide (a<l)=true:=decide_eq_true hf
  rw [df]at HJ
  go_enter Tryz.func13,Tryz.ntmps13
  go_wp2_with fail
  rw [HW.out.1,HW.out.2]
  clear HW
  refine wBg (by kernel_rfl) (fun _ _ _ _ h=>h) fun hQ=>?_
  replace HH:=HH.nx (drewA _)
  refine wTk 2 16 hQ rfl rfl (by kernel_rfl) (by rfl) (by intro w hw;obtain⟨y0,y1,y2,y3,y4,y5,y6,y7,y8,y9,y10,y11,y12⟩:=((HH.at 1 rfl).next hw).c13;go_simp;try with_reducible rfl) ?_
  dsimp only [List.set]
  refine wCl 0 rfl (by kernel_rfl) fun K hK=>?_
  go_simp
  refine Calls.mono (p_noCache _) ?_
  rintro e V9x1 ⟨rfl,hh⟩
  refine wNx hK hh ?_
  clear hK K
  replace HH:=HH.nx hh
  clear hh
  refine wTk 1 15 hQ rfl rfl (by kernel_rfl) (by rfl) (by intro w _;go_simp;try with_reducible rfl) ?_
  dsimp only [List.set]
  refine wCl 3 rfl (by kernel_rfl) fun K hK=>?_
  go_simp
  refine Calls.mono (pN _) ?_
  rintro e V9x2 ⟨rfl,hh⟩
  refine wNx hK hh ?_
  clear hK K
  replace HH:=HH.nx hh
  clear hh
  refine wTk 4 13 hQ rfl rfl (by kernel_rfl) (by rfl) (by intro w _;go_simp;try with_reducible rfl) ?_
  dsimp only [List.set]
  refine wpAnyH_done (by kernel_rfl) ?_ _
  clear hQ
  clear pN
  cases b1
  ·go_wp2_with fail
   refine wBg (by kernel_rfl) (fun _ _ _ _ h=>h) fun hQ=>?_
   replace HH:=HH.nx (drewA _)
   refine wTk 0 19 hQ rfl rfl (by kernel_rfl) (by rfl) (by intro w _;go_simp;try with_reducible rfl) ?_
   dsimp only [List.set]
   refine wTk 1 20 hQ rfl rfl (by kernel_rfl) (by rfl) (by intro w _;go_simp;try with_reducible rfl) ?_
   dsimp only [List.set]
   refine wTk 4 23 hQ rfl rfl (by kernel_rfl) (by rfl) (by intro w hw;obtain⟨y0,y1,y2,y3,y4,y5,y6,y7,y8,y9,y10,y11,y12⟩:=((HH.at 1 rfl).next hw).c13;go_simp;try with_reducible rfl) ?_
   dsimp only [List.set]
   refine wCl 2 rfl (by kernel_rfl) fun K hK=>?_
   go_simp
   refine Calls.mono (p_immutable _) ?_
   rintro e V10x1 ⟨rfl,hh⟩
   refine wNx hK hh ?_
   clear hK K
   replace HH:=HH.nx hh
   clear hh
   refine wTk 3 22 hQ rfl rfl (by kernel_rfl) (by rfl) (by intro w _;go_simp;try with_reducible rfl) ?_
   dsimp only [List.set]
   refine wCl 5 rfl (by kernel_rfl) fun K hK=>?_
   go_simp
   refine Calls.mono (pI _) ?_
   rintro e V10x2 ⟨rfl,hh⟩
   refine wNx hK hh ?_
   clear hK K
   replace HH:=HH.nx hh
   clear hh
   refine wTk 6 25 hQ rfl rfl (by kernel_rfl) (by rfl) (by intro w _;go_simp;try with_reducible rfl) ?_
   dsimp only [List.set]
   refine wTk 7 18 hQ rfl rfl (by kernel_rfl) (by rfl) (by intro w _;go_simp;try with_reducible rfl) ?_
   dsimp only [List.set]
   refine wpAnyH_done (by kernel_rfl) ?_ _
   clear hQ
   clear pI
   cases b6
   ·have qf0:=((HH.at 0 rfl).2 0 _ rfl).1
    have qf1:=((HH.at 0 rfl).2 1 _ rfl).1
    have qf2:=((HH.at 0 rfl).2 2 _ rfl).1
    have qf3:=((HH.at 0 rfl).2 3 _ rfl).1
    have qf4:=((HH.at 0 rfl).2 4 _ rfl).1
    have qf5:=((HH.at 0 rfl).2 5 _ rfl).1
    have qf6:=((HH.at 0 rfl).2 6 _ rfl).1
    have qf7:=((HH.at 0 rfl).2 7 _ rfl).1
    have qf8:=((HH.at 0 rfl).2 8 _ rfl).1
    have qf9:=((HH.at 0 rfl).2 9 _ rfl).1
    have qf10:=((HH.at 0 rfl).2 10 _ rfl).1
    have qf11:=((HH.at 0 rfl).2 11 _ rfl).1
    have qf12:=((HH.at 0 rfl).2 12 _ rfl).1
    go_wp2_with fail
    refine(cR _).mono ?_
    rintro e w9 ⟨rfl,hb⟩
    clear qf0 qf1 qf2 qf3 qf4 qf5 qf6 qf7 qf8 qf9 qf10 qf11 qf12
    replace HH:=HH.nx hb
    clear hb
    clear cR
    cases R
    ·have HV:Hid (J=0):=zH (HJ.out.trans (by rfl))
     go_wp2_with fail
     go_ret
     exact⟨by rw [HV.out];rfl,HH.b⟩
    ·have HV:Hid (J=2):=zH (HJ.out.trans (by rfl))
     go_wp2_with fail
     go_ret
     exact⟨by rw [HV.out];rfl,HH.b⟩
   ·have HV:Hid (J=0):=zH (HJ.out.trans (by rfl))
    go_wp2_with fail
    go_ret
    exact⟨by rw [HV.out];rfl,HH.b⟩
  ·have HV:Hid (J=1):=zH (HJ.out.trans (by rfl))
   go_wp2_with fail
   go_ret
   exact⟨by rw [HV.out];rfl,HH.b⟩
 ·have df:decide (a<l)=false:=decide_eq_false hf
  rw [df]at HJ
  go_enter Tryz.func13,Tryz.ntmps13
  go_wp2_with fail
  rw [HW.out.1,HW.out.2]
  clear HW
  refine wBg (by kernel_rfl) (fun _ _ _ _ h=>h) fun hQ=>?_
  replace HH:=HH.nx (drewA _)
  refine wTk 2 16 hQ rfl rfl (by kernel_rfl) (by rfl) (by intro w hw;obtain⟨y0,y1,y2,y3,y4,y5,y6,y7,y8,y9,y10,y11,y12⟩:=((HH.at 1 rfl).next hw).c13;go_simp;try with_reducible rfl) ?_
  dsimp only [List.set]
  refine wCl 0 rfl (by kernel_rfl) fun K hK=>?_
  go_simp
  refine Calls.mono (p_noCache _) ?_
  rintro e V11x1 ⟨rfl,hh⟩
  refine wNx hK hh ?_
  clear hK K
  replace HH:=HH.nx hh
  clear hh
  refine wTk 1 15 hQ rfl rfl (by kernel_rfl) (by rfl) (by intro w _;go_simp;try with_reducible rfl) ?_
  dsimp only [List.set]
  refine wCl 3 rfl (by kernel_rfl) fun K hK=>?_
  go_simp
  refine Calls.mono (pN _) ?_
  rintro e V11x2 ⟨rfl,hh⟩
  refine wNx hK hh ?_
  clear hK K
  replace HH:=HH.nx hh
  clear hh
  refine wTk 4 13 hQ rfl rfl (by kernel_rfl) (by rfl) (by intro w _;go_simp;try with_reducible rfl) ?_
  dsimp only [List.set]
  refine wpAnyH_done (by kernel_rfl) ?_ _
  clear hQ
  clear pN
  cases b1
  ·go_wp2_with fail
   refine wBg (by kernel_rfl) (fun _ _ _ _ h=>h) fun hQ=>?_
   replace HH:=HH.nx (drewA _)
   refine wTk 0 19 hQ rfl rfl (by kernel_rfl) (by rfl) (by intro w _;go_simp;try with_reducible rfl) ?_
   dsimp only [List.set]
   refine wTk 1 20 hQ rfl rfl (by kernel_rfl) (by rfl) (by intro w _;go_simp;try with_reducible rfl) ?_
   dsimp only [List.set]
   refine wSk 2 21 hQ rfl rfl (by kernel_rfl) (by rfl) ?_
   dsimp only [List.set]
   refine wSk 3 22 hQ rfl rfl (by kernel_rfl) (by rfl) ?_
   dsimp only [List.set]
   refine wSk 4 23 hQ rfl rfl (by kernel_rfl) (by rfl) ?_
   dsimp only [List.set]
   refine wSk 5 24 hQ rfl rfl (by kernel_rfl) (by rfl) ?_
   dsimp only [List.set]
   refine wTk 6 25 hQ rfl rfl (by kernel_rfl) (by rfl) (by intro w _;go_simp;try with_reducible rfl) ?_
   dsimp only [List.set]
   refine wTk 7 18 hQ rfl rfl (by kernel_rfl) (by rfl) (by intro w _;go_simp;try with_reducible rfl) ?_
   dsimp only [List.set]
   refine wpAnyH_done (by kernel_rfl) ?_ _
   clear hQ
   clear pI
   have qf0:=((HH.at 0 rfl).2 0 _ rfl).1
   have qf1:=((HH.at 0 rfl).2 1 _ rfl).1
   have qf2:=((HH.at 0 rfl).2 2 _ rfl).1
   have qf3:=((HH.at 0 rfl).2 3 _ rfl).1
   have qf4:=((HH.at 0 rfl).2 4 _ rfl).1
   have qf5:=((HH.at 0 rfl).2 5 _ rfl).1
   have qf6:=((HH.at 0 rfl).2 6 _ rfl).1
   have qf7:=((HH.at 0 rfl).2 7 _ rfl).1
   have qf8:=((HH.at 0 rfl).2 8 _ rfl).1
   have qf9:=((HH.at 0 rfl).2 9 _ rfl).1
   have qf10:=((HH.at 0 rfl).2 10 _ rfl).1
   have qf11:=((HH.at 0 rfl).2 11 _ rfl).1
   have qf12:=((HH.at 0 rfl).2 12 _ rfl).1
   go_wp2_with fail
   refine(cR _).mono ?_
   rintro e w9 ⟨rfl,hb⟩
   clear qf0 qf1 qf2 qf3 qf4 qf5 qf6 qf7 qf8 qf9 qf10 qf11 qf12
   replace HH:=HH.nx hb
   clear hb
   clear cR
   cases R
   ·go_wp2_with fail
    cases X
    ·refine wBg (by kernel_rfl) (fun _ _ _ _ h=>h) fun hQ=>?_
     replace HH:=HH.nx (drewA _)
     refine wTk 1 34 hQ rfl rfl (by kernel_rfl) (by rfl) (by intro w hw;obtain⟨y0,y1,y2,y3,y4,y5,y6,y7,y8,y9,y10,y11,y12⟩:=((HH.at 0 rfl).next hw).c13;go_simp;try with_reducible rfl) ?_
     dsimp only [List.set]
     refine wTk 2 35 hQ rfl rfl (by kernel_rfl) (by rfl) (by intro w _;go_simp;try with_reducible rfl) ?_
     dsimp only [List.set]
     refine wTk 3 36 hQ rfl rfl (by kernel_rfl) (by rfl) (by intro w _;go_simp;try with_reducible rfl) ?_
     dsimp only [List.set]
     refine wTk 4 37 hQ rfl rfl (by kernel_rfl) (by rfl) (by intro w _;go_simp;try with_reducible rfl) ?_
     dsimp only [List.set]
     refine wCl 0 rfl (by kernel_rfl) fun K hK=>?_
     go_simp
     refine Calls.mono (p_maxStale _) ?_
     rintro e V14x1 ⟨x1,rfl,-,hn,hh⟩
     have HN1:=zH hn
     clear hn
     refine wNx hK hh ?_
     clear hK K
     replace HH:=HH.nx hh
     clear hh
     refine wCl 5 rfl (by kernel_rfl) fun K hK=>?_
     go_simp
     refine Calls.mono (cX _ _ HN1.out) ?_
     rintro e V14x2 ⟨rfl,hh⟩
     refine wNx hK hh ?_
     clear hK K
     replace HH:=HH.nx hh
     replace HN1:=zH (HN1.out.below hh)
     clear hh
     refine wTk 6 39 hQ rfl rfl (by kernel_rfl) (by rfl) (by intro w _;go_simp;try with_reducible rfl) ?_
     dsimp only [List.set]
     refine wSk 7 40 hQ rfl rfl (by kernel_rfl) (by rfl) ?_
     dsimp only [List.set]
     refine wSk 8 41 hQ rfl rfl (by kernel_rfl) (by rfl) ?_
     dsimp only [List.set]
     refine wSk 9 42 hQ rfl rfl (by kernel_rfl) (by rfl) ?_
     dsimp only [List.set]
     refine wTk 10 43 hQ rfl rfl (by kernel_rfl) (by rfl) (by intro w _;go_simp;try with_reducible rfl) ?_
     dsimp only [List.set]
     refine wTk 11 31 hQ rfl rfl (by kernel_rfl) (by rfl) (by intro w _;go_simp;try with_reducible rfl) ?_
     dsimp only [List.set]
     refine wpAnyH_done (by kernel_rfl) ?_ _
     clear hQ
     have HV:Hid (J=1):=zH (HJ.out.trans (by rfl))
     go_wp2_with fail
     go_ret
     exact⟨by rw [HV.out];rfl,HH.b⟩
    ·refine wBg (by kernel_rfl) (fun _ _ _ _ h=>h) fun hQ=>?_
     replace HH:=HH.nx (drewA _)
     refine wTk 1 34 hQ rfl rfl (by kernel_rfl) (by rfl) (by intro w hw;obtain⟨y0,y1,y2,y3,y4,y5,y6,y7,y8,y9,y10,y11,y12⟩:=((HH.at 0 rfl).next hw).c13;go_simp;try with_reducible rfl) ?_
     dsimp only [List.set]
     refine wTk 2 35 hQ rfl rfl (by kernel_rfl) (by rfl) (by intro w _;go_simp;try with_reducible rfl) ?_
     dsimp only [List.set]
     refine wTk 3 36 hQ rfl rfl (by kernel_rfl) (by rfl) (by intro w _;go_simp;try with_reducible rfl) ?_
     dsimp only [List.set]
     refine wTk 4 37 hQ rfl rfl (by kernel_rfl) (by rfl) (by intro w _;go_simp;try with_reducible rfl) ?_
     dsimp only [List.set]
     refine wCl 0 rfl (by kernel_rfl) fun K hK=>?_
     go_simp
     refine Calls.mono (p_maxStale _) ?_
     rintro e V13x1 ⟨x1,rfl,-,hn,hh⟩
     have HN1:=zH hn
     clear hn
     refine wNx hK hh ?_
     clear hK K
     replace HH:=HH.nx hh
     clear hh
     refine wCl 5 rfl (by kernel_rfl) fun K hK=>?_
     go_simp
     refine Calls.mono (cX _ _ HN1.out) ?_
     rintro e V13x2 ⟨rfl,hh⟩
     refine wNx hK hh ?_
     clear hK K
     replace HH:=HH.nx hh
     replace HN1:=zH (HN1.out.below hh)
     clear hh
     refine wTk 6 39 hQ rfl rfl (by kernel_rfl) (by rfl) (by intro w _;go_simp;try with_reducible rfl) ?_
     dsimp only [List.set]
     refine wTk 7 40 hQ rfl rfl (by kernel_rfl) (by rfl) (by intro w hw;obtain⟨y0,y1,y2,y3,y4,y5,y6,y7,y8,y9,y10,y11,y12⟩:=((HH.at 1 rfl).next hw).c13;go_simp;try with_reducible rfl) ?_
     dsimp only [List.set]
     refine wCl 8 rfl (by kernel_rfl) fun K hK=>?_
     go_simp
     refine Calls.mono (cS _) ?_
     rintro e V13x3 ⟨rfl,hh⟩
     refine wNx hK hh ?_
     clear hK K
     replace HH:=HH.nx hh
     replace HN1:=zH (HN1.out.below hh)
     clear hh
     refine wTk 9 42 hQ rfl rfl (by kernel_rfl) (by rfl) (by intro w _;go_simp;try with_reducible rfl) ?_
     dsimp only [List.set]
     refine wTk 10 43 hQ rfl rfl (by kernel_rfl) (by rfl) (by intro w _;go_simp;try with_reducible rfl) ?_
     dsimp only [List.set]
     refine wTk 11 31 hQ rfl rfl (by kernel_rfl) (by rfl) (by intro w _;go_simp;try with_reducible rfl) ?_
     dsimp only [List.set]
     refine wpAnyH_done (by kernel_rfl) ?_ _
     clear hQ
     clear cS cX
     cases S
     ·have HV:Hid (J=0):=zH (HJ.out.trans (by rfl))
      go_wp2_with fail
      go_ret
      exact⟨by rw [HV.out];rfl,HH.b⟩
     ·have HV:Hid (J=1):=zH (HJ.out.trans (by rfl))
      go_wp2_with fail
      go_ret
      exact⟨by rw [HV.out];rfl,HH.b⟩
   ·have HV:Hid (J=2):=zH (HJ.out.trans (by rfl))
    go_wp2_with fail
    go_ret
    exact⟨by rw [HV.out];rfl,HH.b⟩
  ·have HV:Hid (J=1):=zH (HJ.out.trans (by rfl))
   go_wp2_with fail
   go_ret
   exact⟨by rw [HV.out];rfl,HH.b⟩
end Go.Proofs.YtfaedmbfabfmeaaGreatDoor
