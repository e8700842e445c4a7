/- Package policy: OnError. -/
import Derived.Test.YtfaedmbfabfmeaaGreatDoorYMPoA
set_option linter.unusedSimpArgs false
set_option maxRecDepth 100000
set_option maxHeartbeats 16000000
namespace Go.Proofs.YtfaedmbfabfmeaaGreatDoor
open Go.RowKit Go.Lib Go.Shelf
theorem ponerr_any (a l:Int) (r:Ru_RuP) (w:World) (ha0:0≤a) (ha1:a≤2147483648) (hl0:0≤l) (hl1:l≤2147483648) :
  Calls Tryz.prog 15 #[.int .i64 a,.int .i64 l,r.v] w fun e w'=>e=.returned (.bool (errP_RuP a l r))∧Below w.heap.size w w':=by
 have fl0:=fld_flag
 have fl1:=fld_num0
 have fl2:=fld_num1
 have e0:=en_number
 have pN:=fun W=>pg_noCache r W
 have pM:=fun W=>pg_mustRevalidate r W
 have cS:=fun W=>pstrict_any r W
 have hw:IntKind.i64.wrap (a-l)=a-l:=IntWalk.i64_in _ (by omega)
 have cX:=fun W b h=>preaches_any_PoBa 84 b r r.ie (a-l) W en_staleIfError (fun W=>pg_staleIfError r W) h
 have e2:=en_noCache
 have e3:=en_mustRevalidate
 obtain⟨J,hJ⟩:∃J,errP_RuP a l r=J:=⟨_,rfl⟩
 rw [hJ]
 have HJ:Hid (J=(!r.nc&&(decide (a<l)||(!strictR_RuP r||((decide (0≤r.ie)&&decide (a-l≤r.ie))&&!r.mr))))):=zH (by rw [← hJ,errP_RuP];simp only [Bool.and_assoc])
 obtain⟨S,hS⟩:∃S,strictR_RuP r=S:=⟨_,rfl⟩
 simp only [hS]at cS
 rw [hS]at HJ
 obtain⟨X,hX⟩:∃X,(decide (0≤r.ie)&&decide (a-l≤r.ie))=X:=⟨_,rfl⟩
 simp only [hX]at cX
 rw [hX]at HJ
 clear hX hS hJ
 obtain⟨b0,b1,b2,b3,b4,b5,b6,b7,k0,k1,k2,k3,k4⟩:=r
 dsimp only [Ru_RuP.v]at *
 obtain⟨W,hW⟩:∃W,w.alloc (.cells #[.bool b0,.bool b1,.bool b2,.bool b3,.bool b4,.bool b5,.bool b6,.bool b7,.int .i64 k0,.int .i64 k1,.int .i64 k2,.int .i64 k3,.int .i64 k4] 34)=W:=⟨_,rfl⟩
 have HH:=boxL.one w [.bool b0,.bool b1,.bool b2,.bool b3,.bool b4,.bool b5,.bool b6,.bool b7,.int .i64 k0,.int .i64 k1,.int .i64 k2,.int .i64 k3,.int .i64 k4] 34
 rw [hW]at HH
 have HW:=zH hW
 clear hW
 by_cases hf:a<l
 ·have df:decide (a<l)=true:=decide_eq_true hf
  rw [df]at HJ
  go_enter Tryz.func15,Tryz.ntmps15
  go_wp2_with fail
  rw [HW.out]
  clear HW
  refine wBg (by kernel_rfl) (fun _ _ _ _ h=>h) fun hQ=>?_
  replace HH:=HH.nx (drewA _)
  refine wTk 2 9 hQ rfl rfl (by kernel_rfl) (by rfl) (by intro w hw;obtain⟨y0,y1,y2,y3,y4,y5,y6,y7,y8,y9,y10,y11,y12⟩:=((HH.at 0 rfl).next hw).c13;go_simp;try with_reducible rfl) ?_
  dsimp only [List.set]
  refine wCl 0 rfl (by kernel_rfl) fun K hK=>?_
  go_simp
  refine Calls.mono (p_noCache _) ?_
  rintro e V15x1 ⟨rfl,hh⟩
  refine wNx hK hh ?_
  clear hK K
  replace HH:=HH.nx hh
  clear hh
  refine wTk 1 8 hQ rfl rfl (by kernel_rfl) (by rfl) (by intro w _;go_simp;try with_reducible rfl) ?_
  dsimp only [List.set]
  refine wCl 3 rfl (by kernel_rfl) fun K hK=>?_
  go_simp
  refine Calls.mono (pN _) ?_
  rintro e V15x2 ⟨rfl,hh⟩
  refine wNx hK hh ?_
  clear hK K
  replace HH:=HH.nx hh
  clear hh
  refine wpAnyH_done (by kernel_rfl) ?_ _
  clear hQ
  clear pN
  cases b1
  ·go_wp2_with fail
   refine wBg (by kernel_rfl) (fun _ _ _ _ h=>h) fun hQ=>?_
   replace HH:=HH.nx (drewA _)
   refine wTk 0 11 hQ rfl rfl (by kernel_rfl) (by rfl) (by intro w _;go_simp;try with_reducible rfl) ?_
   dsimp only [List.set]
   refine wTk 1 12 hQ rfl rfl (by kernel_rfl) (by rfl) (by intro w _;go_simp;try with_reducible rfl) ?_
   dsimp only [List.set]
   refine wTk 2 13 hQ rfl rfl (by kernel_rfl) (by rfl) (by intro w _;go_simp;try with_reducible rfl) ?_
   dsimp only [List.set]
   refine wTk 3 14 hQ rfl rfl (by kernel_rfl) (by rfl) (by intro w _;go_simp;try with_reducible rfl) ?_
   dsimp only [List.set]
   refine wSk 4 15 hQ rfl rfl (by kernel_rfl) (by rfl) ?_
   dsimp only [List.set]
   refine wSk 5 16 hQ rfl rfl (by kernel_rfl) (by rfl) ?_
   dsimp only [List.set]
   refine wSk 6 17 hQ rfl rfl (by kernel_rfl) (by rfl) ?_
   dsimp only [List.set]
   refine wTk 7 18 hQ rfl rfl (by kernel_rfl) (by rfl) (by intro w _;go_simp;try with_reducible rfl) ?_
   dsimp only [List.set]
   refine wTk 8 19 hQ rfl rfl (by kernel_rfl) (by rfl) (by intro w _;go_simp;try with_reducible rfl) ?_
   dsimp only [List.set]
   refine wSk 9 20 hQ rfl rfl (by kernel_rfl) (by rfl) ?_
   dsimp only [List.set]
   refine wSk 10 21 hQ rfl rfl (by kernel_rfl) (by rfl) ?_
   dsimp only [List.set]
   refine wSk 11 22 hQ rfl rfl (by kernel_rfl) (by rfl) ?_
   dsimp only [List.set]
   refine wSk 12 23 hQ rfl rfl (by kernel_rfl) (by rfl) ?_
   dsimp only [List.set]
   refine wSk 13 24 hQ rfl rfl (by kernel_rfl) (by rfl) ?_
   dsimp only [List.set]
   refine wSk 14 25 hQ rfl rfl (by kernel_rfl) (by rfl) ?_
   dsimp only [List.set]
   refine wSk 15 26 hQ rfl rfl (by kernel_rfl) (by rfl) ?_
   dsimp only [List.set]
   refine wSk 16 27 hQ rfl rfl (by kernel_rfl) (by rfl) ?_
   dsimp only [List.set]
   refine wSk 17 28 hQ rfl rfl (by kernel_rfl) (by rfl) ?_
   dsimp only [List.set]
   refine wSk 18 29 hQ rfl rfl (by kernel_rfl) (by rfl) ?_
   dsimp only [List.set]
   refine wSk 19 30 hQ rfl rfl (by kernel_rfl) (by rfl) ?_
   dsimp only [List.set]
   refine wSk 20 31 hQ rfl rfl (by kernel_rfl) (by rfl) ?_
   dsimp only [List.set]
   refine wSk 21 32 hQ rfl rfl (by kernel_rfl) (by rfl) ?_
   dsimp only [List.set]
   refine wTk 22 33 hQ rfl rfl (by kernel_rfl) (by rfl) (by intro w _;go_simp;try with_reducible rfl) ?_
   dsimp only [List.set]
   refine wTk 23 6 hQ rfl rfl (by kernel_rfl) (by rfl) (by intro w _;go_simp;try with_reducible rfl) ?_
   dsimp only [List.set]
   refine wpAnyH_done (by kernel_rfl) ?_ _
   clear hQ
   have HV:Hid (J=true):=zH (HJ.out.trans (by rfl))
   go_wp2_with fail
   go_ret
   exact⟨by rw [HV.out];rfl,HH.b⟩
  ·have HV:Hid (J=false):=zH (HJ.out.trans (by rfl))
   go_wp2_with fail
   go_ret
   exact⟨by rw [HV.out];rfl,HH.b⟩
 ·have df:decide (a<l)=false:=decide_eq_false hf
  rw [df]at HJ
  go_enter Tryz.func15,Tryz.ntmps15
  go_wp2_with fail
  rw [HW.out]
  clear HW
  refine wBg (by kernel_rfl) (fun _ _ _ _ h=>h) fun hQ=>?_
  replace HH:=HH.nx (drewA _)
  refine wTk 2 9 hQ rfl rfl (by kernel_rfl) (by rfl) (by intro w hw;obtain⟨y0,y1,y2,y3,y4,y5,y6,y7,y8,y9,y10,y11,y12⟩:=((HH.at 0 rfl).next hw).c13;go_simp;try with_reducible rfl) ?_
  dsimp only [List.set]
  refine wCl 0 rfl (by kernel_rfl) fun K hK=>?_
  go_simp
  refine Calls.mono (p_noCache _) ?_
  rintro e V17x1 ⟨rfl,hh⟩
  refine wNx hK hh ?_
  clear hK K
  replace HH:=HH.nx hh
  clear hh
  refine wTk 1 8 hQ rfl rfl (by kernel_rfl) (by rfl) (by intro w _;go_simp;try with_reducible rfl) ?_
  dsimp only [List.set]
  refine wCl 3 rfl (by kernel_rfl) fun K hK=>?_
  go_simp
  refine Calls.mono (pN _) ?_
  rintro e V17x2 ⟨rfl,hh⟩
  refine wNx hK hh ?_
  clear hK K
  replace HH:=HH.nx hh
  clear hh
  refine wpAnyH_done (by kernel_rfl) ?_ _
  clear hQ
  clear pN
  cases b1
  ·go_wp2_with fail
   cases S
   ·refine wBg (by kernel_rfl) (fun _ _ _ _ h=>h) fun hQ=>?_
    replace HH:=HH.nx (drewA _)
    refine wTk 0 11 hQ rfl rfl (by kernel_rfl) (by rfl) (by intro w _;go_simp;try with_reducible rfl) ?_
    dsimp only [List.set]
    refine wTk 1 12 hQ rfl rfl (by kernel_rfl) (by rfl) (by intro w _;go_simp;try with_reducible rfl) ?_
    dsimp only [List.set]
    refine wTk 2 13 hQ rfl rfl (by kernel_rfl) (by rfl) (by intro w _;go_simp;try with_reducible rfl) ?_
    dsimp only [List.set]
    refine wTk 3 14 hQ rfl rfl (by kernel_rfl) (by rfl) (by intro w _;go_simp;try with_reducible rfl) ?_
    dsimp only [List.set]
    refine wTk 4 15 hQ rfl rfl (by kernel_rfl) (by rfl) (by intro w hw;obtain⟨y0,y1,y2,y3,y4,y5,y6,y7,y8,y9,y10,y11,y12⟩:=((HH.at 0 rfl).next hw).c13;go_simp;try with_reducible rfl) ?_
    dsimp only [List.set]
    refine wCl 5 rfl (by kernel_rfl) fun K hK=>?_
    go_simp
    refine Calls.mono (cS _) ?_
    rintro e V20x1 ⟨rfl,hh⟩
    refine wNx hK hh ?_
    clear hK K
    replace HH:=HH.nx hh
    clear hh
    refine wTk 6 17 hQ rfl rfl (by kernel_rfl) (by rfl) (by intro w _;go_simp;try with_reducible rfl) ?_
    dsimp only [List.set]
    refine wTk 7 18 hQ rfl rfl (by kernel_rfl) (by rfl) (by intro w _;go_simp;try with_reducible rfl) ?_
    dsimp only [List.set]
    refine wTk 8 19 hQ rfl rfl (by kernel_rfl) (by rfl) (by intro w _;go_simp;try with_reducible rfl) ?_
    dsimp only [List.set]
    refine wSk 9 20 hQ rfl rfl (by kernel_rfl) (by rfl) ?_
    dsimp only [List.set]
    refine wSk 10 21 hQ rfl rfl (by kernel_rfl) (by rfl) ?_
    dsimp only [List.set]
    refine wSk 11 22 hQ rfl rfl (by kernel_rfl) (by rfl) ?_
    dsimp only [List.set]
    refine wSk 12 23 hQ rfl rfl (by kernel_rfl) (by rfl) ?_
    dsimp only [List.set]
    refine wSk 13 24 hQ rfl rfl (by kernel_rfl) (by rfl) ?_
    dsimp only [List.set]
    refine wSk 14 25 hQ rfl rfl (by kernel_rfl) (by rfl) ?_
    dsimp only [List.set]
    refine wSk 15 26 hQ rfl rfl (by kernel_rfl) (by rfl) ?_
    dsimp only [List.set]
    refine wSk 16 27 hQ rfl rfl (by kernel_rfl) (by rfl) ?_
    dsimp only [List.set]
    refine wSk 17 28 hQ rfl rfl (by kernel_rfl) (by rfl) ?_
    dsimp only [List.set]
    refine wSk 18 29 hQ rfl rfl (by kernel_rfl) (by rfl) ?_
    dsimp only [List.set]
    refine wSk 19 30 hQ rfl rfl (by kernel_rfl) (by rfl) ?_
    dsimp only [List.set]
    refine wSk 20 31 hQ rfl rfl (by kernel_rfl) (by rfl) ?_
    dsimp only [List.set]
    refine wSk 21 32 hQ rfl rfl (by kernel_rfl) (by rfl) ?_
    dsimp only [List.set]
    refine wTk 22 33 hQ rfl rfl (by kernel_rfl) (by rfl) (by intro w _;go_simp;try with_reducible rfl) ?_
    dsimp only [List.set]
    refine wTk 23 6 hQ rfl rfl (by kernel_rfl) (by rfl) (by intro w _;go_simp;try with_reducible rfl) ?_
    dsimp only [List.set]
    refine wpAnyH_done (by kernel_rfl) ?_ _
    clear hQ
    have HV:Hid (J=true):=zH (HJ.out.trans (by rfl))
    go_wp2_with fail
    go_ret
    exact⟨by rw [HV.out];rfl,HH.b⟩
   ·cases X
    ·refine wBg (by kernel_rfl) (fun _ _ _ _ h=>h) fun hQ=>?_
     replace HH:=HH.nx (drewA _)
     refine wTk 0 11 hQ rfl rfl (by kernel_rfl) (by rfl) (by intro w _;go_simp;try with_reducible rfl) ?_
     dsimp only [List.set]
     refine wTk 1 12 hQ rfl rfl (by kernel_rfl) (by rfl) (by intro w _;go_simp;try with_reducible rfl) ?_
     dsimp only [List.set]
     refine wTk 2 13 hQ rfl rfl (by kernel_rfl) (by rfl) (by intro w _;go_simp;try with_reducible rfl) ?_
     dsimp only [List.set]
     refine wTk 3 14 hQ rfl rfl (by kernel_rfl) (by rfl) (by intro w _;go_simp;try with_reducible rfl) ?_
     dsimp only [List.set]
     refine wTk 4 15 hQ rfl rfl (by kernel_rfl) (by rfl) (by intro w hw;obtain⟨y0,y1,y2,y3,y4,y5,y6,y7,y8,y9,y10,y11,y12⟩:=((HH.at 0 rfl).next hw).c13;go_simp;try with_reducible rfl) ?_
     dsimp only [List.set]
     refine wCl 5 rfl (by kernel_rfl) fun K hK=>?_
     go_simp
     refine Calls.mono (cS _) ?_
     rintro e V19x1 ⟨rfl,hh⟩
     refine wNx hK hh ?_
     clear hK K
     replace HH:=HH.nx hh
     clear hh
     refine wTk 6 17 hQ rfl rfl (by kernel_rfl) (by rfl) (by intro w _;go_simp;try with_reducible rfl) ?_
     dsimp only [List.set]
     refine wTk 7 18 hQ rfl rfl (by kernel_rfl) (by rfl) (by intro w _;go_simp;try with_reducible rfl) ?_
     dsimp only [List.set]
     refine wTk 8 19 hQ rfl rfl (by kernel_rfl) (by rfl) (by intro w _;go_simp;try with_reducible rfl) ?_
     dsimp only [List.set]
     refine wTk 10 21 hQ rfl rfl (by kernel_rfl) (by rfl) (by intro w hw;obtain⟨y0,y1,y2,y3,y4,y5,y6,y7,y8,y9,y10,y11,y12⟩:=((HH.at 0 rfl).next hw).c13;go_simp;try with_reducible rfl) ?_
     dsimp only [List.set]
     refine wTk 11 22 hQ rfl rfl (by kernel_rfl) (by rfl) (by intro w _;go_simp;try with_reducible rfl) ?_
     dsimp only [List.set]
     refine wTk 12 23 hQ rfl rfl (by kernel_rfl) (by rfl) (by intro w _;go_simp;try with_reducible rfl) ?_
     dsimp only [List.set]
     refine wTk 13 24 hQ rfl rfl (by kernel_rfl) (by rfl) (by intro w _;go_simp;try with_reducible rfl) ?_
     dsimp only [List.set]
     refine wCl 9 rfl (by kernel_rfl) fun K hK=>?_
     go_simp
     refine Calls.mono (p_staleIfError _) ?_
     rintro e V19x2 ⟨x1,rfl,-,hn,hh⟩
     have HN1:=zH hn
     clear hn
     refine wNx hK hh ?_
     clear hK K
     replace HH:=HH.nx hh
     clear hh
     refine wCl 14 rfl (by kernel_rfl) fun K hK=>?_
     go_simp
     refine Calls.mono (cX _ _ HN1.out) ?_
     rintro e V19x3 ⟨rfl,hh⟩
     refine wNx hK hh ?_
     clear hK K
     replace HH:=HH.nx hh
     replace HN1:=zH (HN1.out.below hh)
     clear hh
     refine wTk 15 26 hQ rfl rfl (by kernel_rfl) (by rfl) (by intro w _;go_simp;try with_reducible rfl) ?_
     dsimp only [List.set]
     refine wSk 16 27 hQ rfl rfl (by kernel_rfl) (by rfl) ?_
     dsimp only [List.set]
     refine wSk 17 28 hQ rfl rfl (by kernel_rfl) (by rfl) ?_
     dsimp only [List.set]
     refine wSk 18 29 hQ rfl rfl (by kernel_rfl) (by rfl) ?_
     dsimp only [List.set]
     refine wSk 19 30 hQ rfl rfl (by kernel_rfl) (by rfl) ?_
     dsimp only [List.set]
     refine wSk 20 31 hQ rfl rfl (by kernel_rfl) (by rfl) ?_
     dsimp only [List.set]
     refine wTk 21 32 hQ rfl rfl (by kernel_rfl) (by rfl) (by intro w _;go_simp;try with_reducible rfl) ?_
     dsimp only [List.set]
     refine wTk 22 33 hQ rfl rfl (by kernel_rfl) (by rfl) (by intro w _;go_simp;try with_reducible rfl) ?_
     dsimp only [List.set]
     refine wTk 23 6 hQ rfl rfl (by kernel_rfl) (by rfl) (by intro w _;go_simp;try with_reducible rfl) ?_
     dsimp only [List.set]
     refine wpAnyH_done (by kernel_rfl) ?_ _
     clear hQ
     have HV:Hid (J=false):=zH (HJ.out.trans (by rfl))
     go_wp2_with fail
     go_ret
     exact⟨by rw [HV.out];rfl,HH.b⟩
    ·refine wBg (by kernel_rfl) (fun _ _ _ _ h=>h) fun hQ=>?_
     replace HH:=HH.nx (drewA _)
     refine wTk 0 11 hQ rfl rfl (by kernel_rfl) (by rfl) (by intro w _;go_simp;try with_reducible rfl) ?_
     dsimp only [List.set]
     refine wTk 1 12 hQ rfl rfl (by kernel_rfl) (by rfl) (by intro w _;go_simp;try with_reducible rfl) ?_
     dsimp only [List.set]
     refine wTk 2 13 hQ rfl rfl (by kernel_rfl) (by rfl) (by intro w _;go_simp;try with_reducible rfl) ?_
     dsimp only [List.set]
     refine wTk 3 14 hQ rfl rfl (by kernel_rfl) (by rfl) (by intro w _;go_simp;try with_reducible rfl) ?_
     dsimp only [List.set]
     refine wTk 4 15 hQ rfl rfl (by kernel_rfl) (by rfl) (by intro w hw;obtain⟨y0,y1,y2,y3,y4,y5,y6,y7,y8,y9,y10,y11,y12⟩:=((HH.at 0 rfl).next hw).c13;go_simp;try with_reducible rfl) ?_
     dsimp only [List.set]
     refine wCl 5 rfl (by kernel_rfl) fun K hK=>?_
     go_simp
     refine Calls.mono (cS _) ?_
     rintro e V18x1 ⟨rfl,hh⟩
     refine wNx hK hh ?_
     clear hK K
     replace HH:=HH.nx hh
     clear hh
     refine wTk 6 17 hQ rfl rfl (by kernel_rfl) (by rfl) (by intro w _;go_simp;try with_reducible rfl) ?_
     dsimp only [List.set]
     refine wTk 7 18 hQ rfl rfl (by kernel_rfl) (by rfl) (by intro w _;go_simp;try with_reducible rfl) ?_
     dsimp only [List.set]
     refine wTk 8 19 hQ rfl rfl (by kernel_rfl) (by rfl) (by intro w _;go_simp;try with_reducible rfl) ?_
     dsimp only [List.set]
     refine wTk 10 21 hQ rfl rfl (by kernel_rfl) (by rfl) (by intro w hw;obtain⟨y0,y1,y2,y3,y4,y5,y6,y7,y8,y9,y10,y11,y12⟩:=((HH.at 0 rfl).next hw).c13;go_simp;try with_reducible rfl) ?_
     dsimp only [List.set]
     refine wTk 11 22 hQ rfl rfl (by kernel_rfl) (by rfl) (by intro w _;go_simp;try with_reducible rfl) ?_
     dsimp only [List.set]
     refine wTk 12 23 hQ rfl rfl (by kernel_rfl) (by rfl) (by intro w _;go_simp;try with_reducible rfl) ?_
     dsimp only [List.set]
     refine wTk 13 24 hQ rfl rfl (by kernel_rfl) (by rfl) (by intro w _;go_simp;try with_reducible rfl) ?_
     dsimp only [List.set]
     refine wCl 9 rfl (by kernel_rfl) fun K hK=>?_
     go_simp
     refine Calls.mono (p_staleIfError _) ?_
     rintro e V18x2 ⟨x1,rfl,-,hn,hh⟩
     have HN1:=zH hn
     clear hn
     refine wNx hK hh ?_
     clear hK K
     replace HH:=HH.nx hh
     clear hh
     refine wCl 14 rfl (by kernel_rfl) fun K hK=>?_
     go_simp
     refine Calls.mono (cX _ _ HN1.out) ?_
     rintro e V18x3 ⟨rfl,hh⟩
     refine wNx hK hh ?_
     clear hK K
     replace HH:=HH.nx hh
     replace HN1:=zH (HN1.out.below hh)
     clear hh
     refine wTk 15 26 hQ rfl rfl (by kernel_rfl) (by rfl) (by intro w _;go_simp;try with_reducible rfl) ?_
     dsimp only [List.set]
     refine wTk 18 29 hQ rfl rfl (by kernel_rfl) (by rfl) (by intro w hw;obtain⟨y0,y1,y2,y3,y4,y5,y6,y7,y8,y9,y10,y11,y12⟩:=((HH.at 0 rfl).next hw).c13;go_simp;try with_reducible rfl) ?_
     dsimp only [List.set]
     refine wCl 16 rfl (by kernel_rfl) fun K hK=>?_
     go_simp
     refine Calls.mono (p_mustRevalidate _) ?_
     rintro e V18x4 ⟨rfl,hh⟩
     refine wNx hK hh ?_
     clear hK K
     replace HH:=HH.nx hh
     replace HN1:=zH (HN1.out.below hh)
     clear hh
     refine wTk 17 28 hQ rfl rfl (by kernel_rfl) (by rfl) (by intro w _;go_simp;try with_reducible rfl) ?_
     dsimp only [List.set]
     refine wCl 19 rfl (by kernel_rfl) fun K hK=>?_
     go_simp
     refine Calls.mono (pM _) ?_
     rintro e V18x5 ⟨rfl,hh⟩
     refine wNx hK hh ?_
     clear hK K
     replace HH:=HH.nx hh
     replace HN1:=zH (HN1.out.below hh)
     clear hh
     refine wTk 20 31 hQ rfl rfl (by kernel_rfl) (by rfl) (by intro w _;go_simp;try with_reducible rfl) ?_
     dsimp only [List.set]
     refine wTk 21 32 hQ rfl rfl (by kernel_rfl) (by rfl) (by intro w _;go_simp;try with_reducible rfl) ?_
     dsimp only [List.set]
     refine wTk 22 33 hQ rfl rfl (by kernel_rfl) (by rfl) (by intro w _;go_simp;try with_reducible rfl) ?_
     dsimp only [List.set]
     refine wTk 23 6 hQ rfl rfl (by kernel_rfl) (by rfl) (by intro w _;go_simp;try with_reducible rfl) ?_
     dsimp only [List.set]
     refine wpAnyH_done (by kernel_rfl) ?_ _
     clear hQ
     have HV:Hid (J=!b4):=zH (HJ.out.trans (by rfl))
     go_wp2_with fail
     go_ret
     exact⟨by rw [HV.out];rfl,HH.b⟩
  ·have HV:Hid (J=false):=zH (HJ.out.trans (by rfl))
   go_wp2_with fail
   go_ret
   exact⟨by rw [HV.out];rfl,HH.b⟩
end Go.Proofs.YtfaedmbfabfmeaaGreatDoor
