/- Package policy: whether a request asks for another response. -/
import Derived.Test.YtfaedmbfabfmeaaGreatDoorYMPoA
set_option linter.unusedSimpArgs false
set_option maxRecDepth 100000
set_option maxHeartbeats 16000000
namespace Go.Proofs.YtfaedmbfabfmeaaGreatDoor
open Go.RowKit Go.Lib Go.Shelf
def refP (a l:Int) (q:Ru_RuP):Prop:=q.nc=true∨(0≤q.ma∧q.ma<a)∨(0≤q.fr∧l-a<q.fr)
instance (a l:Int) (q:Ru_RuP):Decidable (refP a l q):=by unfold refP;infer_instance
theorem prefC_PoD (a l:Int) (r:Ru_RuP) (w:World) (ha0:0≤a) (ha1:a≤2147483648) (hl0:0≤l) (hl1:l≤2147483648) (h0:r.nc=false) (hma:0≤r.ma) (hgt:¬r.ma<a) (hfr:0≤r.fr) :
    Calls Tryz.prog 48 #[.int .i64 a,.int .i64 l,r.v] w fun e w'=>e=.returned (.bool (decide (refP a l r)))∧Below w.heap.size w w':=by
  have pN:=fun W=>pg_noCache r W
  have pA:=fun W b h=>ps_maxAge_PoBa r W b h
  have gA:=fun W=>pg_maxAge r W
  have pF:=fun W b h=>ps_minFresh_PoBa r W b h
  have gF:=fun W=>pg_minFresh r W
  have hw:IntKind.i64.wrap (l-a)=l-a:=IntWalk.i64_in _ (by omega)
  have fl0:=fld_flag
  have fl1:=fld_num0
  have fl2:=fld_num1
  have e0:=en_number
  have e2:=en_noCache
  have e3:=en_maxAge
  have e4:=en_minFresh
  obtain⟨b0,b1,b2,b3,b4,b5,b6,b7,k0,k1,k2,k3,k4⟩:=r
  dsimp only [Ru_RuP.v]at *
  obtain⟨J,hJ⟩:∃J,decide (refP a l ⟨b0,b1,b2,b3,b4,b5,b6,b7,k0,k1,k2,k3,k4⟩)=J:=⟨_,rfl⟩
  rw [hJ]
  obtain⟨W,hW⟩:∃W,w.alloc (.cells #[.bool b0,.bool b1,.bool b2,.bool b3,.bool b4,.bool b5,.bool b6,.bool b7,.int .i64 k0,.int .i64 k1,.int .i64 k2,.int .i64 k3,.int .i64 k4] 34)=W:=⟨_,rfl⟩
  have HH:=boxL.one w [.bool b0,.bool b1,.bool b2,.bool b3,.bool b4,.bool b5,.bool b6,.bool b7,.int .i64 k0,.int .i64 k1,.int .i64 k2,.int .i64 k3,.int .i64 k4] 34
  rw [hW]at HH
  have HW:=zH hW
  clear hW
  subst h0
  have HV:Hid (J=decide (l-a<k3)):=zH (hJ.symm.trans (decide_eq_decide.2 ⟨fun e=>by rcases e with e | e | e;(· cases e);(· dsimp only at e;omega);exact e.2,fun e=>.inr (.inr ⟨hfr,e⟩)⟩))
  clear hJ
  simp only [decide_eq_true hma]at pA
  have dG:decide (k0<a)=false:=decide_eq_false hgt
  simp only [decide_eq_true hfr]at pF
  go_enter Tryz.func48,Tryz.ntmps48
  go_wp2_with fail
  rw [HW.out]
  clear HW
  refine wBg (by kernel_rfl) (fun _ _ _ _ h=>h) fun hQ=>?_
  replace HH:=HH.nx (drewA _)
  refine wTk 2 9 hQ rfl rfl (by kernel_rfl) (by rfl) (by intro w hw;obtain⟨y0,y1,y2,y3,y4,y5,y6,y7,y8,y9,y10,y11,y12⟩:=((HH.at 0 rfl).next hw).c13;go_simp;try with_reducible rfl) ?_
  dsimp only [List.set]
  refine wCl 0 rfl (by kernel_rfl) fun K hK=>?_
  go_simp
  refine Calls.mono (p_noCache _) ?_
  rintro e V2x1 ⟨rfl,hh⟩
  refine wNx hK hh ?_
  clear hK K
  replace HH:=HH.nx hh
  clear hh
  refine wTk 1 8 hQ rfl rfl (by kernel_rfl) (by rfl) (by intro w _;go_simp;try with_reducible rfl) ?_
  dsimp only [List.set]
  refine wCl 3 rfl (by kernel_rfl) fun K hK=>?_
  go_simp
  refine Calls.mono (pN _) ?_
  rintro e V2x2 ⟨rfl,hh⟩
  refine wNx hK hh ?_
  clear hK K
  replace HH:=HH.nx hh
  clear hh
  refine wTk 4 11 hQ rfl rfl (by kernel_rfl) (by rfl) (by intro w _;go_simp;try with_reducible rfl) ?_
  dsimp only [List.set]
  refine wTk 7 14 hQ rfl rfl (by kernel_rfl) (by rfl) (by intro w hw;obtain⟨y0,y1,y2,y3,y4,y5,y6,y7,y8,y9,y10,y11,y12⟩:=((HH.at 0 rfl).next hw).c13;go_simp;try with_reducible rfl) ?_
  dsimp only [List.set]
  refine wCl 5 rfl (by kernel_rfl) fun K hK=>?_
  go_simp
  refine Calls.mono (p_maxAge _) ?_
  rintro e V2x3 ⟨x1,rfl,-,hn,hh⟩
  have HN1:=zH hn
  clear hn
  refine wNx hK hh ?_
  clear hK K
  replace HH:=HH.nx hh
  clear hh
  refine wTk 6 13 hQ rfl rfl (by kernel_rfl) (by rfl) (by intro w _;go_simp;try with_reducible rfl) ?_
  dsimp only [List.set]
  refine wCl 8 rfl (by kernel_rfl) fun K hK=>?_
  go_simp
  refine Calls.mono (pA _ _ HN1.out) ?_
  rintro e V2x4 ⟨rfl,hh⟩
  refine wNx hK hh ?_
  clear hK K
  replace HH:=HH.nx hh
  replace HN1:=zH (HN1.out.below hh)
  clear hh
  refine wTk 9 16 hQ rfl rfl (by kernel_rfl) (by rfl) (by intro w _;go_simp;try with_reducible rfl) ?_
  dsimp only [List.set]
  refine wTk 10 17 hQ rfl rfl (by kernel_rfl) (by rfl) (by intro w _;go_simp;try with_reducible rfl) ?_
  dsimp only [List.set]
  refine wTk 13 20 hQ rfl rfl (by kernel_rfl) (by rfl) (by intro w hw;obtain⟨y0,y1,y2,y3,y4,y5,y6,y7,y8,y9,y10,y11,y12⟩:=((HH.at 0 rfl).next hw).c13;go_simp;try with_reducible rfl) ?_
  dsimp only [List.set]
  refine wCl 11 rfl (by kernel_rfl) fun K hK=>?_
  go_simp
  refine Calls.mono (p_maxAge _) ?_
  rintro e V2x5 ⟨x2,rfl,-,hn,hh⟩
  have HN2:=zH hn
  clear hn
  refine wNx hK hh ?_
  clear hK K
  replace HH:=HH.nx hh
  replace HN1:=zH (HN1.out.below hh)
  clear hh
  refine wTk 12 19 hQ rfl rfl (by kernel_rfl) (by rfl) (by intro w _;go_simp;try with_reducible rfl) ?_
  dsimp only [List.set]
  refine wCl 14 rfl (by kernel_rfl) fun K hK=>?_
  go_simp
  refine Calls.mono (gA _) ?_
  rintro e V2x6 ⟨rfl,hh⟩
  refine wNx hK hh ?_
  clear hK K
  replace HH:=HH.nx hh
  replace HN1:=zH (HN1.out.below hh)
  replace HN2:=zH (HN2.out.below hh)
  clear hh
  refine wTk 15 22 hQ rfl rfl (by kernel_rfl) (by rfl) (by intro w _;go_simp;try with_reducible rfl) ?_
  dsimp only [List.set]
  refine wTk 16 23 hQ rfl rfl (by kernel_rfl) (by rfl) (by intro w _;go_simp;try with_reducible rfl) ?_
  dsimp only [List.set]
  refine wTk 17 24 hQ rfl rfl (by kernel_rfl) (by rfl) (by intro w _;go_simp;try with_reducible rfl) ?_
  dsimp only [List.set]
  refine wTk 18 25 hQ rfl rfl (by kernel_rfl) (by rfl) (by intro w _;go_simp;try with_reducible rfl) ?_
  dsimp only [List.set]
  refine wTk 21 28 hQ rfl rfl (by kernel_rfl) (by rfl) (by intro w hw;obtain⟨y0,y1,y2,y3,y4,y5,y6,y7,y8,y9,y10,y11,y12⟩:=((HH.at 0 rfl).next hw).c13;go_simp;try with_reducible rfl) ?_
  dsimp only [List.set]
  refine wCl 19 rfl (by kernel_rfl) fun K hK=>?_
  go_simp
  refine Calls.mono (p_minFresh _) ?_
  rintro e V2x7 ⟨x3,rfl,-,hn,hh⟩
  have HN3:=zH hn
  clear hn
  refine wNx hK hh ?_
  clear hK K
  replace HH:=HH.nx hh
  replace HN1:=zH (HN1.out.below hh)
  replace HN2:=zH (HN2.out.below hh)
  clear hh
  refine wTk 20 27 hQ rfl rfl (by kernel_rfl) (by rfl) (by intro w _;go_simp;try with_reducible rfl) ?_
  dsimp only [List.set]
  refine wCl 22 rfl (by kernel_rfl) fun K hK=>?_
  go_simp
  refine Calls.mono (pF _ _ HN3.out) ?_
  rintro e V2x8 ⟨rfl,hh⟩
  refine wNx hK hh ?_
  clear hK K
  replace HH:=HH.nx hh
  replace HN1:=zH (HN1.out.below hh)
  replace HN2:=zH (HN2.out.below hh)
  replace HN3:=zH (HN3.out.below hh)
  clear hh
  refine wTk 23 30 hQ rfl rfl (by kernel_rfl) (by rfl) (by intro w _;go_simp;try with_reducible rfl) ?_
  dsimp only [List.set]
  refine wTk 24 31 hQ rfl rfl (by kernel_rfl) (by rfl) (by intro w _;go_simp;try with_reducible rfl) ?_
  dsimp only [List.set]
  refine wTk 25 32 hQ rfl rfl (by kernel_rfl) (by rfl) (by intro w _;go_simp;try with_reducible rfl) ?_
  dsimp only [List.set]
  refine wTk 26 33 hQ rfl rfl (by kernel_rfl) (by rfl) (by intro w _;go_simp;try with_reducible rfl) ?_
  dsimp only [List.set]
  refine wTk 29 36 hQ rfl rfl (by kernel_rfl) (by rfl) (by intro w hw;obtain⟨y0,y1,y2,y3,y4,y5,y6,y7,y8,y9,y10,y11,y12⟩:=((HH.at 0 rfl).next hw).c13;go_simp;try with_reducible rfl) ?_
  dsimp only [List.set]
  refine wCl 27 rfl (by kernel_rfl) fun K hK=>?_
  go_simp
  refine Calls.mono (p_minFresh _) ?_
  rintro e V2x9 ⟨x4,rfl,-,hn,hh⟩
  have HN4:=zH hn
  clear hn
  refine wNx hK hh ?_
  clear hK K
  replace HH:=HH.nx hh
  replace HN1:=zH (HN1.out.below hh)
  replace HN2:=zH (HN2.out.below hh)
  replace HN3:=zH (HN3.out.below hh)
  clear hh
  refine wTk 28 35 hQ rfl rfl (by kernel_rfl) (by rfl) (by intro w _;go_simp;try with_reducible rfl) ?_
  dsimp only [List.set]
  refine wCl 30 rfl (by kernel_rfl) fun K hK=>?_
  go_simp
  refine Calls.mono (gF _) ?_
  rintro e V2x10 ⟨rfl,hh⟩
  refine wNx hK hh ?_
  clear hK K
  replace HH:=HH.nx hh
  replace HN1:=zH (HN1.out.below hh)
  replace HN2:=zH (HN2.out.below hh)
  replace HN3:=zH (HN3.out.below hh)
  replace HN4:=zH (HN4.out.below hh)
  clear hh
  refine wTk 31 38 hQ rfl rfl (by kernel_rfl) (by rfl) (by intro w _;go_simp;try with_reducible rfl) ?_
  dsimp only [List.set]
  refine wTk 32 39 hQ rfl rfl (by kernel_rfl) (by rfl) (by intro w _;go_simp;try with_reducible rfl) ?_
  dsimp only [List.set]
  refine wTk 33 40 hQ rfl rfl (by kernel_rfl) (by rfl) (by intro w _;go_simp;try with_reducible rfl) ?_
  dsimp only [List.set]
  refine wTk 34 6 hQ rfl rfl (by kernel_rfl) (by rfl) (by intro w _;go_simp;try with_reducible rfl) ?_
  dsimp only [List.set]
  refine wpAnyH_done (by kernel_rfl) ?_ _
  clear hQ
  go_wp2_with fail
  go_ret
  exact⟨by rw [HV.out];rfl,HH.b⟩
theorem prefF_PoD (a l:Int) (r:Ru_RuP) (w:World) (ha0:0≤a) (ha1:a≤2147483648) (hl0:0≤l) (hl1:l≤2147483648) (h0:r.nc=false) (hma:¬0≤r.ma) (hfr:0≤r.fr) :
    Calls Tryz.prog 48 #[.int .i64 a,.int .i64 l,r.v] w fun e w'=>e=.returned (.bool (decide (refP a l r)))∧Below w.heap.size w w':=by
  have pN:=fun W=>pg_noCache r W
  have pA:=fun W b h=>ps_maxAge_PoBa r W b h
  have gA:=fun W=>pg_maxAge r W
  have pF:=fun W b h=>ps_minFresh_PoBa r W b h
  have gF:=fun W=>pg_minFresh r W
  have hw:IntKind.i64.wrap (l-a)=l-a:=IntWalk.i64_in _ (by omega)
  have fl0:=fld_flag
  have fl1:=fld_num0
  have fl2:=fld_num1
  have e0:=en_number
  have e2:=en_noCache
  have e3:=en_maxAge
  have e4:=en_minFresh
  obtain⟨b0,b1,b2,b3,b4,b5,b6,b7,k0,k1,k2,k3,k4⟩:=r
  dsimp only [Ru_RuP.v]at *
  obtain⟨J,hJ⟩:∃J,decide (refP a l ⟨b0,b1,b2,b3,b4,b5,b6,b7,k0,k1,k2,k3,k4⟩)=J:=⟨_,rfl⟩
  rw [hJ]
  obtain⟨W,hW⟩:∃W,w.alloc (.cells #[.bool b0,.bool b1,.bool b2,.bool b3,.bool b4,.bool b5,.bool b6,.bool b7,.int .i64 k0,.int .i64 k1,.int .i64 k2,.int .i64 k3,.int .i64 k4] 34)=W:=⟨_,rfl⟩
  have HH:=boxL.one w [.bool b0,.bool b1,.bool b2,.bool b3,.bool b4,.bool b5,.bool b6,.bool b7,.int .i64 k0,.int .i64 k1,.int .i64 k2,.int .i64 k3,.int .i64 k4] 34
  rw [hW]at HH
  have HW:=zH hW
  clear hW
  subst h0
  have HV:Hid (J=decide (l-a<k3)):=zH (hJ.symm.trans (decide_eq_decide.2 ⟨fun e=>by rcases e with e | e | e;(· cases e);(· dsimp only at e;omega);exact e.2,fun e=>.inr (.inr ⟨hfr,e⟩)⟩))
  clear hJ
  simp only [decide_eq_false hma]at pA
  simp only [decide_eq_true hfr]at pF
  go_enter Tryz.func48,Tryz.ntmps48
  go_wp2_with fail
  rw [HW.out]
  clear HW
  refine wBg (by kernel_rfl) (fun _ _ _ _ h=>h) fun hQ=>?_
  replace HH:=HH.nx (drewA _)
  refine wTk 2 9 hQ rfl rfl (by kernel_rfl) (by rfl) (by intro w hw;obtain⟨y0,y1,y2,y3,y4,y5,y6,y7,y8,y9,y10,y11,y12⟩:=((HH.at 0 rfl).next hw).c13;go_simp;try with_reducible rfl) ?_
  dsimp only [List.set]
  refine wCl 0 rfl (by kernel_rfl) fun K hK=>?_
  go_simp
  refine Calls.mono (p_noCache _) ?_
  rintro e V3x1 ⟨rfl,hh⟩
  refine wNx hK hh ?_
  clear hK K
  replace HH:=HH.nx hh
  clear hh
  refine wTk 1 8 hQ rfl rfl (by kernel_rfl) (by rfl) (by intro w _;go_simp;try with_reducible rfl) ?_
  dsimp only [List.set]
  refine wCl 3 rfl (by kernel_rfl) fun K hK=>?_
  go_simp
  refine Calls.mono (pN _) ?_
  rintro e V3x2 ⟨rfl,hh⟩
  refine wNx hK hh ?_
  clear hK K
  replace HH:=HH.nx hh
  clear hh
  refine wTk 4 11 hQ rfl rfl (by kernel_rfl) (by rfl) (by intro w _;go_simp;try with_reducible rfl) ?_
  dsimp only [List.set]
  refine wTk 7 14 hQ rfl rfl (by kernel_rfl) (by rfl) (by intro w hw;obtain⟨y0,y1,y2,y3,y4,y5,y6,y7,y8,y9,y10,y11,y12⟩:=((HH.at 0 rfl).next hw).c13;go_simp;try with_reducible rfl) ?_
  dsimp only [List.set]
  refine wCl 5 rfl (by kernel_rfl) fun K hK=>?_
  go_simp
  refine Calls.mono (p_maxAge _) ?_
  rintro e V3x3 ⟨x1,rfl,-,hn,hh⟩
  have HN1:=zH hn
  clear hn
  refine wNx hK hh ?_
  clear hK K
  replace HH:=HH.nx hh
  clear hh
  refine wTk 6 13 hQ rfl rfl (by kernel_rfl) (by rfl) (by intro w _;go_simp;try with_reducible rfl) ?_
  dsimp only [List.set]
  refine wCl 8 rfl (by kernel_rfl) fun K hK=>?_
  go_simp
  refine Calls.mono (pA _ _ HN1.out) ?_
  rintro e V3x4 ⟨rfl,hh⟩
  refine wNx hK hh ?_
  clear hK K
  replace HH:=HH.nx hh
  replace HN1:=zH (HN1.out.below hh)
  clear hh
  refine wTk 9 16 hQ rfl rfl (by kernel_rfl) (by rfl) (by intro w _;go_simp;try with_reducible rfl) ?_
  dsimp only [List.set]
  refine wSk 10 17 hQ rfl rfl (by kernel_rfl) (by rfl) ?_
  dsimp only [List.set]
  refine wSk 11 18 hQ rfl rfl (by kernel_rfl) (by rfl) ?_
  dsimp only [List.set]
  refine wSk 12 19 hQ rfl rfl (by kernel_rfl) (by rfl) ?_
  dsimp only [List.set]
  refine wSk 13 20 hQ rfl rfl (by kernel_rfl) (by rfl) ?_
  dsimp only [List.set]
  refine wSk 14 21 hQ rfl rfl (by kernel_rfl) (by rfl) ?_
  dsimp only [List.set]
  refine wSk 15 22 hQ rfl rfl (by kernel_rfl) (by rfl) ?_
  dsimp only [List.set]
  refine wTk 16 23 hQ rfl rfl (by kernel_rfl) (by rfl) (by intro w _;go_simp;try with_reducible rfl) ?_
  dsimp only [List.set]
  refine wTk 17 24 hQ rfl rfl (by kernel_rfl) (by rfl) (by intro w _;go_simp;try with_reducible rfl) ?_
  dsimp only [List.set]
  refine wTk 18 25 hQ rfl rfl (by kernel_rfl) (by rfl) (by intro w _;go_simp;try with_reducible rfl) ?_
  dsimp only [List.set]
  refine wTk 21 28 hQ rfl rfl (by kernel_rfl) (by rfl) (by intro w hw;obtain⟨y0,y1,y2,y3,y4,y5,y6,y7,y8,y9,y10,y11,y12⟩:=((HH.at 0 rfl).next hw).c13;go_simp;try with_reducible rfl) ?_
  dsimp only [List.set]
  refine wCl 19 rfl (by kernel_rfl) fun K hK=>?_
  go_simp
  refine Calls.mono (p_minFresh _) ?_
  rintro e V3x5 ⟨x3,rfl,-,hn,hh⟩
  have HN3:=zH hn
  clear hn
  refine wNx hK hh ?_
  clear hK K
  replace HH:=HH.nx hh
  replace HN1:=zH (HN1.out.below hh)
  clear hh
  refine wTk 20 27 hQ rfl rfl (by kernel_rfl) (by rfl) (by intro w _;go_simp;try with_reducible rfl) ?_
  dsimp only [List.set]
  refine wCl 22 rfl (by kernel_rfl) fun K hK=>?_
  go_simp
  refine Calls.mono (pF _ _ HN3.out) ?_
  rintro e V3x6 ⟨rfl,hh⟩
  refine wNx hK hh ?_
  clear hK K
  replace HH:=HH.nx hh
  replace HN1:=zH (HN1.out.below hh)
  replace HN3:=zH (HN3.out.below hh)
  clear hh
  refine wTk 23 30 hQ rfl rfl (by kernel_rfl) (by rfl) (by intro w _;go_simp;try with_reducible rfl) ?_
  dsimp only [List.set]
  refine wTk 24 31 hQ rfl rfl (by kernel_rfl) (by rfl) (by intro w _;go_simp;try with_reducible rfl) ?_
  dsimp only [List.set]
  refine wTk 25 32 hQ rfl rfl (by kernel_rfl) (by rfl) (by intro w _;go_simp;try with_reducible rfl) ?_
  dsimp only [List.set]
  refine wTk 26 33 hQ rfl rfl (by kernel_rfl) (by rfl) (by intro w _;go_simp;try with_reducible rfl) ?_
  dsimp only [List.set]
  refine wTk 29 36 hQ rfl rfl (by kernel_rfl) (by rfl) (by intro w hw;obtain⟨y0,y1,y2,y3,y4,y5,y6,y7,y8,y9,y10,y11,y12⟩:=((HH.at 0 rfl).next hw).c13;go_simp;try with_reducible rfl) ?_
  dsimp only [List.set]
  refine wCl 27 rfl (by kernel_rfl) fun K hK=>?_
  go_simp
  refine Calls.mono (p_minFresh _) ?_
  rintro e V3x7 ⟨x4,rfl,-,hn,hh⟩
  have HN4:=zH hn
  clear hn
  refine wNx hK hh ?_
  clear hK K
  replace HH:=HH.nx hh
  replace HN1:=zH (HN1.out.below hh)
  replace HN3:=zH (HN3.out.below hh)
  clear hh
  refine wTk 28 35 hQ rfl rfl (by kernel_rfl) (by rfl) (by intro w _;go_simp;try with_reducible rfl) ?_
  dsimp only [List.set]
  refine wCl 30 rfl (by kernel_rfl) fun K hK=>?_
  go_simp
  refine Calls.mono (gF _) ?_
  rintro e V3x8 ⟨rfl,hh⟩
  refine wNx hK hh ?_
  clear hK K
  replace HH:=HH.nx hh
  replace HN1:=zH (HN1.out.below hh)
  replace HN3:=zH (HN3.out.below hh)
  replace HN4:=zH (HN4.out.below hh)
  clear hh
  refine wTk 31 38 hQ rfl rfl (by kernel_rfl) (by rfl) (by intro w _;go_simp;try with_reducible rfl) ?_
  dsimp only [List.set]
  refine wTk 32 39 hQ rfl rfl (by kernel_rfl) (by rfl) (by intro w _;go_simp;try with_reducible rfl) ?_
  dsimp only [List.set]
  refine wTk 33 40 hQ rfl rfl (by kernel_rfl) (by rfl) (by intro w _;go_simp;try with_reducible rfl) ?_
  dsimp only [List.set]
  refine wTk 34 6 hQ rfl rfl (by kernel_rfl) (by rfl) (by intro w _;go_simp;try with_reducible rfl) ?_
  dsimp only [List.set]
  refine wpAnyH_done (by kernel_rfl) ?_ _
  clear hQ
  go_wp2_with fail
  go_ret
  exact⟨by rw [HV.out];rfl,HH.b⟩
theorem prefB_PoD (a l:Int) (r:Ru_RuP) (w:World) (ha0:0≤a) (ha1:a≤2147483648) (hl0:0≤l) (hl1:l≤2147483648) (h0:r.nc=false) (hma:0≤r.ma) (hgt:r.ma<a) :
  Calls Tryz.prog 48 #[.int .i64 a,.int .i64 l,r.v] w fun e w'=>e=.returned (.bool (decide (refP a l r)))∧Below w.heap.size w w':=by
 have pN:=fun W=>pg_noCache r W
 have pA:=fun W b h=>ps_maxAge_PoBa r W b h
 have gA:=fun W=>pg_maxAge r W
 have pF:=fun W b h=>ps_minFresh_PoBa r W b h
 have gF:=fun W=>pg_minFresh r W
 have hw:IntKind.i64.wrap (l-a)=l-a:=IntWalk.i64_in _ (by omega)
 have fl0:=fld_flag
 have fl1:=fld_num0
 have fl2:=fld_num1
 have e0:=en_number
 have e2:=en_noCache
 have e3:=en_maxAge
 have e4:=en_minFresh
 obtain⟨b0,b1,b2,b3,b4,b5,b6,b7,k0,k1,k2,k3,k4⟩:=r
 dsimp only [Ru_RuP.v]at *
 obtain⟨J,hJ⟩:∃J,decide (refP a l ⟨b0,b1,b2,b3,b4,b5,b6,b7,k0,k1,k2,k3,k4⟩)=J:=⟨_,rfl⟩
 rw [hJ]
 obtain⟨W,hW⟩:∃W,w.alloc (.cells #[.bool b0,.bool b1,.bool b2,.bool b3,.bool b4,.bool b5,.bool b6,.bool b7,.int .i64 k0,.int .i64 k1,.int .i64 k2,.int .i64 k3,.int .i64 k4] 34)=W:=⟨_,rfl⟩
 have HH:=boxL.one w [.bool b0,.bool b1,.bool b2,.bool b3,.bool b4,.bool b5,.bool b6,.bool b7,.int .i64 k0,.int .i64 k1,.int .i64 k2,.int .i64 k3,.int .i64 k4] 34
 rw [hW]at HH
 have HW:=zH hW
 clear hW
 subst h0
 have HV:Hid (J=true):=zH (hJ.symm.trans (decide_eq_true (.inr (.inl ⟨hma,hgt⟩))))
 clear hJ
 simp only [decide_eq_true hma]at pA
 have dG:decide (k0<a)=true:=decide_eq_true hgt
 go_enter Tryz.func48,Tryz.ntmps48
 go_wp2_with fail
 rw [HW.out]
 clear HW
 refine wBg (by kernel_rfl) (fun _ _ _ _ h=>h) fun hQ=>?_
 replace HH:=HH.nx (drewA _)
 refine wTk 2 9 hQ rfl rfl (by kernel_rfl) (by rfl) (by intro w hw;obtain⟨y0,y1,y2,y3,y4,y5,y6,y7,y8,y9,y10,y11,y12⟩:=((HH.at 0 rfl).next hw).c13;go_simp;try with_reducible rfl) ?_
 dsimp only [List.set]
 refine wCl 0 rfl (by kernel_rfl) fun K hK=>?_
 go_simp
 refine Calls.mono (p_noCache _) ?_
 rintro e V4x1 ⟨rfl,hh⟩
 refine wNx hK hh ?_
 clear hK K
 replace HH:=HH.nx hh
 clear hh
 refine wTk 1 8 hQ rfl rfl (by kernel_rfl) (by rfl) (by intro w _;go_simp;try with_reducible rfl) ?_
 dsimp only [List.set]
 refine wCl 3 rfl (by kernel_rfl) fun K hK=>?_
 go_simp
 refine Calls.mono (pN _) ?_
 rintro e V4x2 ⟨rfl,hh⟩
 refine wNx hK hh ?_
 clear hK K
 replace HH:=HH.nx hh
 clear hh
 refine wTk 4 11 hQ rfl rfl (by kernel_rfl) (by rfl) (by intro w _;go_simp;try with_reducible rfl) ?_
 dsimp only [List.set]
 refine wTk 7 14 hQ rfl rfl (by kernel_rfl) (by rfl) (by intro w hw;obtain⟨y0,y1,y2,y3,y4,y5,y6,y7,y8,y9,y10,y11,y12⟩:=((HH.at 0 rfl).next hw).c13;go_simp;try with_reducible rfl) ?_
 dsimp only [List.set]
 refine wCl 5 rfl (by kernel_rfl) fun K hK=>?_
 go_simp
 refine Calls.mono (p_maxAge _) ?_
 rintro e V4x3 ⟨x1,rfl,-,hn,hh⟩
 have HN1:=zH hn
 clear hn
 refine wNx hK hh ?_
 clear hK K
 replace HH:=HH.nx hh
 clear hh
 refine wTk 6 13 hQ rfl rfl (by kernel_rfl) (by rfl) (by intro w _;go_simp;try with_reducible rfl) ?_
 dsimp only [List.set]
 refine wCl 8 rfl (by kernel_rfl) fun K hK=>?_
 go_simp
 refine Calls.mono (pA _ _ HN1.out) ?_
 rintro e V4x4 ⟨rfl,hh⟩
 refine wNx hK hh ?_
 clear hK K
 replace HH:=HH.nx hh
 replace HN1:=zH (HN1.out.below hh)
 clear hh
 refine wTk 9 16 hQ rfl rfl (by kernel_rfl) (by rfl) (by intro w _;go_simp;try with_reducible rfl) ?_
 dsimp only [List.set]
 refine wTk 10 17 hQ rfl rfl (by kernel_rfl) (by rfl) (by intro w _;go_simp;try with_reducible rfl) ?_
 dsimp only [List.set]
 refine wTk 13 20 hQ rfl rfl (by kernel_rfl) (by rfl) (by intro w hw;obtain⟨y0,y1,y2,y3,y4,y5,y6,y7,y8,y9,y10,y11,y12⟩:=((HH.at 0 rfl).next hw).c13;go_simp;try with_reducible rfl) ?_
 dsimp only [List.set]
 refine wCl 11 rfl (by kernel_rfl) fun K hK=>?_
 go_simp
 refine Calls.mono (p_maxAge _) ?_
 rintro e V4x5 ⟨x2,rfl,-,hn,hh⟩
 have HN2:=zH hn
 clear hn
 refine wNx hK hh ?_
 clear hK K
 replace HH:=HH.nx hh
 replace HN1:=zH (HN1.out.below hh)
 clear hh
 refine wTk 12 19 hQ rfl rfl (by kernel_rfl) (by rfl) (by intro w _;go_simp;try with_reducible rfl) ?_
 dsimp only [List.set]
 refine wCl 14 rfl (by kernel_rfl) fun K hK=>?_
 go_simp
 refine Calls.mono (gA _) ?_
 rintro e V4x6 ⟨rfl,hh⟩
 refine wNx hK hh ?_
 clear hK K
 replace HH:=HH.nx hh
 replace HN1:=zH (HN1.out.below hh)
 replace HN2:=zH (HN2.out.below hh)
 clear hh
 refine wTk 15 22 hQ rfl rfl (by kernel_rfl) (by rfl) (by intro w _;go_simp;try with_reducible rfl) ?_
 dsimp only [List.set]
 refine wTk 16 23 hQ rfl rfl (by kernel_rfl) (by rfl) (by intro w _;go_simp;try with_reducible rfl) ?_
 dsimp only [List.set]
 refine wTk 17 24 hQ rfl rfl (by kernel_rfl) (by rfl) (by intro w _;go_simp;try with_reducible rfl) ?_
 dsimp only [List.set]
 refine wTk 18 25 hQ rfl rfl (by kernel_rfl) (by rfl) (by intro w _;go_simp;try with_reducible rfl) ?_
 dsimp only [List.set]
 refine wSk 19 26 hQ rfl rfl (by kernel_rfl) (by rfl) ?_
 dsimp only [List.set]
 refine wSk 20 27 hQ rfl rfl (by kernel_rfl) (by rfl) ?_
 dsimp only [List.set]
 refine wSk 21 28 hQ rfl rfl (by kernel_rfl) (by rfl) ?_
 dsimp only [List.set]
 refine wSk 22 29 hQ rfl rfl (by kernel_rfl) (by rfl) ?_
 dsimp only [List.set]
 refine wSk 23 30 hQ rfl rfl (by kernel_rfl) (by rfl) ?_
 dsimp only [List.set]
 refine wSk 24 31 hQ rfl rfl (by kernel_rfl) (by rfl) ?_
 dsimp only [List.set]
 refine wSk 25 32 hQ rfl rfl (by kernel_rfl) (by rfl) ?_
 dsimp only [List.set]
 refine wSk 26 33 hQ rfl rfl (by kernel_rfl) (by rfl) ?_
 dsimp only [List.set]
 refine wSk 27 34 hQ rfl rfl (by kernel_rfl) (by rfl) ?_
 dsimp only [List.set]
 refine wSk 28 35 hQ rfl rfl (by kernel_rfl) (by rfl) ?_
 dsimp only [List.set]
 refine wSk 29 36 hQ rfl rfl (by kernel_rfl) (by rfl) ?_
 dsimp only [List.set]
 refine wSk 30 37 hQ rfl rfl (by kernel_rfl) (by rfl) ?_
 dsimp only [List.set]
 refine wSk 31 38 hQ rfl rfl (by kernel_rfl) (by rfl) ?_
 dsimp only [List.set]
 refine wSk 32 39 hQ rfl rfl (by kernel_rfl) (by rfl) ?_
 dsimp only [List.set]
 refine wTk 33 40 hQ rfl rfl (by kernel_rfl) (by rfl) (by intro w _;go_simp;try with_reducible rfl) ?_
 dsimp only [List.set]
 refine wTk 34 6 hQ rfl rfl (by kernel_rfl) (by rfl) (by intro w _;go_simp;try with_reducible rfl) ?_
 dsimp only [List.set]
 refine wpAnyH_done (by kernel_rfl) ?_ _
 clear hQ
 go_wp2_with fail
 go_ret
 exact⟨by rw [HV.out];rfl,HH.b⟩
theorem prefA_PoD (a l:Int) (r:Ru_RuP) (w:World) (ha0:0≤a) (ha1:a≤2147483648) (hl0:0≤l) (hl1:l≤2147483648) (hx:r.nc=true∨(r.nc=false∧¬0≤r.fr∧¬(0≤r.ma∧r.ma<a))) :
    Calls Tryz.prog 48 #[.int .i64 a,.int .i64 l,r.v] w fun e w'=>e=.returned (.bool (decide (refP a l r)))∧Below w.heap.size w w':=by
  have pN:=fun W=>pg_noCache r W
  have pA:=fun W b h=>ps_maxAge_PoBa r W b h
  have gA:=fun W=>pg_maxAge r W
  have pF:=fun W b h=>ps_minFresh_PoBa r W b h
  have gF:=fun W=>pg_minFresh r W
  have hw:IntKind.i64.wrap (l-a)=l-a:=IntWalk.i64_in _ (by omega)
  have fl0:=fld_flag
  have fl1:=fld_num0
  have fl2:=fld_num1
  have e0:=en_number
  have e2:=en_noCache
  have e3:=en_maxAge
  have e4:=en_minFresh
  obtain⟨b0,b1,b2,b3,b4,b5,b6,b7,k0,k1,k2,k3,k4⟩:=r
  dsimp only [Ru_RuP.v]at *
  obtain⟨J,hJ⟩:∃J,decide (refP a l ⟨b0,b1,b2,b3,b4,b5,b6,b7,k0,k1,k2,k3,k4⟩)=J:=⟨_,rfl⟩
  rw [hJ]
  obtain⟨W,hW⟩:∃W,w.alloc (.cells #[.bool b0,.bool b1,.bool b2,.bool b3,.bool b4,.bool b5,.bool b6,.bool b7,.int .i64 k0,.int .i64 k1,.int .i64 k2,.int .i64 k3,.int .i64 k4] 34)=W:=⟨_,rfl⟩
  have HH:=boxL.one w [.bool b0,.bool b1,.bool b2,.bool b3,.bool b4,.bool b5,.bool b6,.bool b7,.int .i64 k0,.int .i64 k1,.int .i64 k2,.int .i64 k3,.int .i64 k4] 34
  rw [hW]at HH
  have HW:=zH hW
  clear hW
  cases b1
  · replace hx:=hx.resolve_left (by decide)
    have hfr:=hx.2.1
    by_cases hma:0≤k0
    · have hgt:¬k0<a:=fun e=>hx.2.2 ⟨hma,e⟩
      clear hx
      have HV:Hid (J=false):=zH (hJ.symm.trans (decide_eq_false (fun e=>by rcases e with e | e | e;(· cases e);(· dsimp only at e;omega);(· dsimp only at e;omega))))
      clear hJ
      simp only [decide_eq_true hma]at pA
      have dG:decide (k0<a)=false:=decide_eq_false hgt
      simp only [decide_eq_false hfr]at pF
      go_enter Tryz.func48,Tryz.ntmps48
      go_wp2_with fail
      rw [HW.out]
      clear HW
      refine wBg (by kernel_rfl) (fun _ _ _ _ h=>h) fun hQ=>?_
      replace HH:=HH.nx (drewA _)
      refine wTk 2 9 hQ rfl rfl (by kernel_rfl) (by rfl) (by intro w hw;obtain⟨y0,y1,y2,y3,y4,y5,y6,y7,y8,y9,y10,y11,y12⟩:=((HH.at 0 rfl).next hw).c13;go_simp;try with_reducible rfl) ?_
      dsimp only [List.set]
      refine wCl 0 rfl (by kernel_rfl) fun K hK=>?_
      go_simp
      refine Calls.mono (p_noCache _) ?_
      rintro e V5x1 ⟨rfl,hh⟩
      refine wNx hK hh ?_
      clear hK K
      replace HH:=HH.nx hh
      clear hh
      refine wTk 1 8 hQ rfl rfl (by kernel_rfl) (by rfl) (by intro w _;go_simp;try with_reducible rfl) ?_
      dsimp only [List.set]
      refine wCl 3 rfl (by kernel_rfl) fun K hK=>?_
      go_simp
      refine Calls.mono (pN _) ?_
      rintro e V5x2 ⟨rfl,hh⟩
      refine wNx hK hh ?_
      clear hK K
      replace HH:=HH.nx hh
      clear hh
      refine wTk 4 11 hQ rfl rfl (by kernel_rfl) (by rfl) (by intro w _;go_simp;try with_reducible rfl) ?_
      dsimp only [List.set]
      refine wTk 7 14 hQ rfl rfl (by kernel_rfl) (by rfl) (by intro w hw;obtain⟨y0,y1,y2,y3,y4,y5,y6,y7,y8,y9,y10,y11,y12⟩:=((HH.at 0 rfl).next hw).c13;go_simp;try with_reducible rfl) ?_
      dsimp only [List.set]
      refine wCl 5 rfl (by kernel_rfl) fun K hK=>?_
      go_simp
      refine Calls.mono (p_maxAge _) ?_
      rintro e V5x3 ⟨x1,rfl,-,hn,hh⟩
      have HN1:=zH hn
      clear hn
      refine wNx hK hh ?_
      clear hK K
      replace HH:=HH.nx hh
      clear hh
      refine wTk 6 13 hQ rfl rfl (by kernel_rfl) (by rfl) (by intro w _;go_simp;try with_reducible rfl) ?_
      dsimp only [List.set]
      refine wCl 8 rfl (by kernel_rfl) fun K hK=>?_
      go_simp
      refine Calls.mono (pA _ _ HN1.out) ?_
      rintro e V5x4 ⟨rfl,hh⟩
      refine wNx hK hh ?_
      clear hK K
      replace HH:=HH.nx hh
      replace HN1:=zH (HN1.out.below hh)
      clear hh
      refine wTk 9 16 hQ rfl rfl (by kernel_rfl) (by rfl) (by intro w _;go_simp;try with_reducible rfl) ?_
      dsimp only [List.set]
      refine wTk 10 17 hQ rfl rfl (by kernel_rfl) (by rfl) (by intro w _;go_simp;try with_reducible rfl) ?_
      dsimp only [List.set]
      refine wTk 13 20 hQ rfl rfl (by kernel_rfl) (by rfl) (by intro w hw;obtain⟨y0,y1,y2,y3,y4,y5,y6,y7,y8,y9,y10,y11,y12⟩:=((HH.at 0 rfl).next hw).c13;go_simp;try with_reducible rfl) ?_
      dsimp only [List.set]
      refine wCl 11 rfl (by kernel_rfl) fun K hK=>?_
      go_simp
      refine Calls.mono (p_maxAge _) ?_
      rintro e V5x5 ⟨x2,rfl,-,hn,hh⟩
      have HN2:=zH hn
      clear hn
      refine wNx hK hh ?_
      clear hK K
      replace HH:=HH.nx hh
      replace HN1:=zH (HN1.out.below hh)
      clear hh
      refine wTk 12 19 hQ rfl rfl (by kernel_rfl) (by rfl) (by intro w _;go_simp;try with_reducible rfl) ?_
      dsimp only [List.set]
      refine wCl 14 rfl (by kernel_rfl) fun K hK=>?_
      go_simp
      refine Calls.mono (gA _) ?_
      rintro e V5x6 ⟨rfl,hh⟩
      refine wNx hK hh ?_
      clear hK K
      replace HH:=HH.nx hh
      replace HN1:=zH (HN1.out.below hh)
      replace HN2:=zH (HN2.out.below hh)
      clear hh
      refine wTk 15 22 hQ rfl rfl (by kernel_rfl) (by rfl) (by intro w _;go_simp;try with_reducible rfl) ?_
      dsimp only [List.set]
      refine wTk 16 23 hQ rfl rfl (by kernel_rfl) (by rfl) (by intro w _;go_simp;try with_reducible rfl) ?_
      dsimp only [List.set]
      refine wTk 17 24 hQ rfl rfl (by kernel_rfl) (by rfl) (by intro w _;go_simp;try with_reducible rfl) ?_
      dsimp only [List.set]
      refine wTk 18 25 hQ rfl rfl (by kernel_rfl) (by rfl) (by intro w _;go_simp;try with_reducible rfl) ?_
      dsimp only [List.set]
      refine wTk 21 28 hQ rfl rfl (by kernel_rfl) (by rfl) (by intro w hw;obtain⟨y0,y1,y2,y3,y4,y5,y6,y7,y8,y9,y10,y11,y12⟩:=((HH.at 0 rfl).next hw).c13;go_simp;try with_reducible rfl) ?_
      dsimp only [List.set]
      refine wCl 19 rfl (by kernel_rfl) fun K hK=>?_
      go_simp
      refine Calls.mono (p_minFresh _) ?_
      rintro e V5x7 ⟨x3,rfl,-,hn,hh⟩
      have HN3:=zH hn
      clear hn
      refine wNx hK hh ?_
      clear hK K
      replace HH:=HH.nx hh
      replace HN1:=zH (HN1.out.below hh)
      replace HN2:=zH (HN2.out.below hh)
      clear hh
      refine wTk 20 27 hQ rfl rfl (by kernel_rfl) (by rfl) (by intro w _;go_simp;try with_reducible rfl) ?_
      dsimp only [List.set]
      refine wCl 22 rfl (by kernel_rfl) fun K hK=>?_
      go_simp
      refine Calls.mono (pF _ _ HN3.out) ?_
      rintro e V5x8 ⟨rfl,hh⟩
      refine wNx hK hh ?_
      clear hK K
      replace HH:=HH.nx hh
      replace HN1:=zH (HN1.out.below hh)
      replace HN2:=zH (HN2.out.below hh)
      replace HN3:=zH (HN3.out.below hh)
      clear hh
      refine wTk 23 30 hQ rfl rfl (by kernel_rfl) (by rfl) (by intro w _;go_simp;try with_reducible rfl) ?_
      dsimp only [List.set]
      refine wSk 24 31 hQ rfl rfl (by kernel_rfl) (by rfl) ?_
      dsimp only [List.set]
      refine wSk 25 32 hQ rfl rfl (by kernel_rfl) (by rfl) ?_
      dsimp only [List.set]
      refine wSk 26 33 hQ rfl rfl (by kernel_rfl) (by rfl) ?_
      dsimp only [List.set]
      refine wSk 27 34 hQ rfl rfl (by kernel_rfl) (by rfl) ?_
      dsimp only [List.set]
      refine wSk 28 35 hQ rfl rfl (by kernel_rfl) (by rfl) ?_
      dsimp only [List.set]
      refine wSk 29 36 hQ rfl rfl (by kernel_rfl) (by rfl) ?_
      dsimp only [List.set]
      refine wSk 30 37 hQ rfl rfl (by kernel_rfl) (by rfl) ?_
      dsimp only [List.set]
      refine wSk 31 38 hQ rfl rfl (by kernel_rfl) (by rfl) ?_
      dsimp only [List.set]
      refine wTk 32 39 hQ rfl rfl (by kernel_rfl) (by rfl) (by intro w _;go_simp;try with_reducible rfl) ?_
      dsimp only [List.set]
      refine wTk 33 40 hQ rfl rfl (by kernel_rfl) (by rfl) (by intro w _;go_simp;try with_reducible rfl) ?_
      dsimp only [List.set]
      refine wTk 34 6 hQ rfl rfl (by kernel_rfl) (by rfl) (by intro w _;go_simp;try with_reducible rfl) ?_
      dsimp only [List.set]
      refine wpAnyH_done (by kernel_rfl) ?_ _
      clear hQ
      go_wp2_with fail
      go_ret
      exact⟨by rw [HV.out];rfl,HH.b⟩
    · clear hx
      have HV:Hid (J=false):=zH (hJ.symm.trans (decide_eq_false (fun e=>by rcases e with e | e | e;(· cases e);(· dsimp only at e;omega);(· dsimp only at e;omega))))
      clear hJ
      simp only [decide_eq_false hma]at pA
      simp only [decide_eq_false hfr]at pF
      go_enter Tryz.func48,Tryz.ntmps48
      go_wp2_with fail
      rw [HW.out]
      clear HW
      refine wBg (by kernel_rfl) (fun _ _ _ _ h=>h) fun hQ=>?_
      replace HH:=HH.nx (drewA _)
      refine wTk 2 9 hQ rfl rfl (by kernel_rfl) (by rfl) (by intro w hw;obtain⟨y0,y1,y2,y3,y4,y5,y6,y7,y8,y9,y10,y11,y12⟩:=((HH.at 0 rfl).next hw).c13;go_simp;try with_reducible rfl) ?_
      dsimp only [List.set]
      refine wCl 0 rfl (by kernel_rfl) fun K hK=>?_
      go_simp
      refine Calls.mono (p_noCache _) ?_
      rintro e V6x1 ⟨rfl,hh⟩
      refine wNx hK hh ?_
      clear hK K
      replace HH:=HH.nx hh
      clear hh
      refine wTk 1 8 hQ rfl rfl (by kernel_rfl) (by rfl) (by intro w _;go_simp;try with_reducible rfl) ?_
      dsimp only [List.set]
      refine wCl 3 rfl (by kernel_rfl) fun K hK=>?_
      go_simp
      refine Calls.mono (pN _) ?_
      rintro e V6x2 ⟨rfl,hh⟩
      refine wNx hK hh ?_
      clear hK K
      replace HH:=HH.nx hh
      clear hh
      refine wTk 4 11 hQ rfl rfl (by kernel_rfl) (by rfl) (by intro w _;go_simp;try with_reducible rfl) ?_
      dsimp only [List.set]
      refine wTk 7 14 hQ rfl rfl (by kernel_rfl) (by rfl) (by intro w hw;obtain⟨y0,y1,y2,y3,y4,y5,y6,y7,y8,y9,y10,y11,y12⟩:=((HH.at 0 rfl).next hw).c13;go_simp;try with_reducible rfl) ?_
      dsimp only [List.set]
      refine wCl 5 rfl (by kernel_rfl) fun K hK=>?_
      go_simp
      refine Calls.mono (p_maxAge _) ?_
      rintro e V6x3 ⟨x1,rfl,-,hn,hh⟩
      have HN1:=zH hn
      clear hn
      refine wNx hK hh ?_
      clear hK K
      replace HH:=HH.nx hh
      clear hh
      refine wTk 6 13 hQ rfl rfl (by kernel_rfl) (by rfl) (by intro w _;go_simp;try with_reducible rfl) ?_
      dsimp only [List.set]
      refine wCl 8 rfl (by kernel_rfl) fun K hK=>?_
      go_simp
      refine Calls.mono (pA _ _ HN1.out) ?_
      rintro e V6x4 ⟨rfl,hh⟩
      refine wNx hK hh ?_
      clear hK K
      replace HH:=HH.nx hh
      replace HN1:=zH (HN1.out.below hh)
      clear hh
      refine wTk 9 16 hQ rfl rfl (by kernel_rfl) (by rfl) (by intro w _;go_simp;try with_reducible rfl) ?_
      dsimp only [List.set]
      refine wSk 10 17 hQ rfl rfl (by kernel_rfl) (by rfl) ?_
      dsimp only [List.set]
      refine wSk 11 18 hQ rfl rfl (by kernel_rfl) (by rfl) ?_
      dsimp only [List.set]
      refine wSk 12 19 hQ rfl rfl (by kernel_rfl) (by rfl) ?_
      dsimp only [List.set]
      refine wSk 13 20 hQ rfl rfl (by kernel_rfl) (by rfl) ?_
      dsimp only [List.set]
      refine wSk 14 21 hQ rfl rfl (by kernel_rfl) (by rfl) ?_
      dsimp only [List.set]
      refine wSk 15 22 hQ rfl rfl (by kernel_rfl) (by rfl) ?_
      dsimp only [List.set]
      refine wTk 16 23 hQ rfl rfl (by kernel_rfl) (by rfl) (by intro w _;go_simp;try with_reducible rfl) ?_
      dsimp only [List.set]
      refine wTk 17 24 hQ rfl rfl (by kernel_rfl) (by rfl) (by intro w _;go_simp;try with_reducible rfl) ?_
      dsimp only [List.set]
      refine wTk 18 25 hQ rfl rfl (by kernel_rfl) (by rfl) (by intro w _;go_simp;try with_reducible rfl) ?_
      dsimp only [List.set]
      refine wTk 21 28 hQ rfl rfl (by kernel_rfl) (by rfl) (by intro w hw;obtain⟨y0,y1,y2,y3,y4,y5,y6,y7,y8,y9,y10,y11,y12⟩:=((HH.at 0 rfl).next hw).c13;go_simp;try with_reducible rfl) ?_
      dsimp only [List.set]
      refine wCl 19 rfl (by kernel_rfl) fun K hK=>?_
      go_simp
      refine Calls.mono (p_minFresh _) ?_
      rintro e V6x5 ⟨x3,rfl,-,hn,hh⟩
      have HN3:=zH hn
      clear hn
      refine wNx hK hh ?_
      clear hK K
      replace HH:=HH.nx hh
      replace HN1:=zH (HN1.out.below hh)
      clear hh
      refine wTk 20 27 hQ rfl rfl (by kernel_rfl) (by rfl) (by intro w _;go_simp;try with_reducible rfl) ?_
      dsimp only [List.set]
      refine wCl 22 rfl (by kernel_rfl) fun K hK=>?_
      go_simp
      refine Calls.mono (pF _ _ HN3.out) ?_
      rintro e V6x6 ⟨rfl,hh⟩
      refine wNx hK hh ?_
      clear hK K
      replace HH:=HH.nx hh
      replace HN1:=zH (HN1.out.below hh)
      replace HN3:=zH (HN3.out.below hh)
      clear hh
      refine wTk 23 30 hQ rfl rfl (by kernel_rfl) (by rfl) (by intro w _;go_simp;try with_reducible rfl) ?_
      dsimp only [List.set]
      refine wSk 24 31 hQ rfl rfl (by kernel_rfl) (by rfl) ?_
      dsimp only [List.set]
      refine wSk 25 32 hQ rfl rfl (by kernel_rfl) (by rfl) ?_
      dsimp only [List.set]
      refine wSk 26 33 hQ rfl rfl (by kernel_rfl) (by rfl) ?_
      dsimp only [List.set]
      refine wSk 27 34 hQ rfl rfl (by kernel_rfl) (by rfl) ?_
      dsimp only [List.set]
      refine wSk 28 35 hQ rfl rfl (by kernel_rfl) (by rfl) ?_
      dsimp only [List.set]
      refine wSk 29 36 hQ rfl rfl (by kernel_rfl) (by rfl) ?_
      dsimp only [List.set]
      refine wSk 30 37 hQ rfl rfl (by kernel_rfl) (by rfl) ?_
      dsimp only [List.set]
      refine wSk 31 38 hQ rfl rfl (by kernel_rfl) (by rfl) ?_
      dsimp only [List.set]
      refine wTk 32 39 hQ rfl rfl (by kernel_rfl) (by rfl) (by intro w _;go_simp;try with_reducible rfl) ?_
      dsimp only [List.set]
      refine wTk 33 40 hQ rfl rfl (by kernel_rfl) (by rfl) (by intro w _;go_simp;try with_reducible rfl) ?_
      dsimp only [List.set]
      refine wTk 34 6 hQ rfl rfl (by kernel_rfl) (by rfl) (by intro w _;go_simp;try with_reducible rfl) ?_
      dsimp only [List.set]
      refine wpAnyH_done (by kernel_rfl) ?_ _
      clear hQ
      go_wp2_with fail
      go_ret
      exact⟨by rw [HV.out];rfl,HH.b⟩
  · clear hx
    have HV:Hid (J=true):=zH (hJ.symm.trans (decide_eq_true (.inl rfl)))
    clear hJ
    go_enter Tryz.func48,Tryz.ntmps48
    go_wp2_with fail
    rw [HW.out]
    clear HW
    refine wBg (by kernel_rfl) (fun _ _ _ _ h=>h) fun hQ=>?_
    replace HH:=HH.nx (drewA _)
    refine wTk 2 9 hQ rfl rfl (by kernel_rfl) (by rfl) (by intro w hw;obtain⟨y0,y1,y2,y3,y4,y5,y6,y7,y8,y9,y10,y11,y12⟩:=((HH.at 0 rfl).next hw).c13;go_simp;try with_reducible rfl) ?_
    dsimp only [List.set]
    refine wCl 0 rfl (by kernel_rfl) fun K hK=>?_
    go_simp
    refine Calls.mono (p_noCache _) ?_
    rintro e V7x1 ⟨rfl,hh⟩
    refine wNx hK hh ?_
    clear hK K
    replace HH:=HH.nx hh
    clear hh
    refine wTk 1 8 hQ rfl rfl (by kernel_rfl) (by rfl) (by intro w _;go_simp;try with_reducible rfl) ?_
    dsimp only [List.set]
    refine wCl 3 rfl (by kernel_rfl) fun K hK=>?_
    go_simp
    refine Calls.mono (pN _) ?_
    rintro e V7x2 ⟨rfl,hh⟩
    refine wNx hK hh ?_
    clear hK K
    replace HH:=HH.nx hh
    clear hh
    refine wTk 4 11 hQ rfl rfl (by kernel_rfl) (by rfl) (by intro w _;go_simp;try with_reducible rfl) ?_
    dsimp only [List.set]
    refine wSk 5 12 hQ rfl rfl (by kernel_rfl) (by rfl) ?_
    dsimp only [List.set]
    refine wSk 6 13 hQ rfl rfl (by kernel_rfl) (by rfl) ?_
    dsimp only [List.set]
    refine wSk 7 14 hQ rfl rfl (by kernel_rfl) (by rfl) ?_
    dsimp only [List.set]
    refine wSk 8 15 hQ rfl rfl (by kernel_rfl) (by rfl) ?_
    dsimp only [List.set]
    refine wSk 9 16 hQ rfl rfl (by kernel_rfl) (by rfl) ?_
    dsimp only [List.set]
    refine wSk 10 17 hQ rfl rfl (by kernel_rfl) (by rfl) ?_
    dsimp only [List.set]
    refine wSk 11 18 hQ rfl rfl (by kernel_rfl) (by rfl) ?_
    dsimp only [List.set]
    refine wSk 12 19 hQ rfl rfl (by kernel_rfl) (by rfl) ?_
    dsimp only [List.set]
    refine wSk 13 20 hQ rfl rfl (by kernel_rfl) (by rfl) ?_
    dsimp only [List.set]
    refine wSk 14 21 hQ rfl rfl (by kernel_rfl) (by rfl) ?_
    dsimp only [List.set]
    refine wSk 15 22 hQ rfl rfl (by kernel_rfl) (by rfl) ?_
    dsimp only [List.set]
    refine wSk 16 23 hQ rfl rfl (by kernel_rfl) (by rfl) ?_
    dsimp only [List.set]
    refine wTk 17 24 hQ rfl rfl (by kernel_rfl) (by rfl) (by intro w _;go_simp;try with_reducible rfl) ?_
    dsimp only [List.set]
    refine wTk 18 25 hQ rfl rfl (by kernel_rfl) (by rfl) (by intro w _;go_simp;try with_reducible rfl) ?_
    dsimp only [List.set]
    refine wSk 19 26 hQ rfl rfl (by kernel_rfl) (by rfl) ?_
    dsimp only [List.set]
    refine wSk 20 27 hQ rfl rfl (by kernel_rfl) (by rfl) ?_
    dsimp only [List.set]
    refine wSk 21 28 hQ rfl rfl (by kernel_rfl) (by rfl) ?_
    dsimp only [List.set]
    refine wSk 22 29 hQ rfl rfl (by kernel_rfl) (by rfl) ?_
    dsimp only [List.set]
    refine wSk 23 30 hQ rfl rfl (by kernel_rfl) (by rfl) ?_
    dsimp only [List.set]
    refine wSk 24 31 hQ rfl rfl (by kernel_rfl) (by rfl) ?_
    dsimp only [List.set]
    refine wSk 25 32 hQ rfl rfl (by kernel_rfl) (by rfl) ?_
    dsimp only [List.set]
    refine wSk 26 33 hQ rfl rfl (by kernel_rfl) (by rfl) ?_
    dsimp only [List.set]
    refine wSk 27 34 hQ rfl rfl (by kernel_rfl) (by rfl) ?_
    dsimp only [List.set]
    refine wSk 28 35 hQ rfl rfl (by kernel_rfl) (by rfl) ?_
    dsimp only [List.set]
    refine wSk 29 36 hQ rfl rfl (by kernel_rfl) (by rfl) ?_
    dsimp only [List.set]
    refine wSk 30 37 hQ rfl rfl (by kernel_rfl) (by rfl) ?_
    dsimp only [List.set]
    refine wSk 31 38 hQ rfl rfl (by kernel_rfl) (by rfl) ?_
    dsimp only [List.set]
    refine wSk 32 39 hQ rfl rfl (by kernel_rfl) (by rfl) ?_
    dsimp only [List.set]
    refine wTk 33 40 hQ rfl rfl (by kernel_rfl) (by rfl) (by intro w _;go_simp;try with_reducible rfl) ?_
    dsimp only [List.set]
    refine wTk 34 6 hQ rfl rfl (by kernel_rfl) (by rfl) (by intro w _;go_simp;try with_reducible rfl) ?_
    dsimp only [List.set]
    refine wpAnyH_done (by kernel_rfl) ?_ _
    clear hQ
    go_wp2_with fail
    go_ret
    exact⟨by rw [HV.out];rfl,HH.b⟩
theorem prefused_any (a l:Int) (r:Ru_RuP) (w:World) (ha0:0≤a) (ha1:a≤2147483648) (hl0:0≤l) (hl1:l≤2147483648) :
  Calls Tryz.prog 48 #[.int .i64 a,.int .i64 l,r.v] w fun e w'=>e=.returned (.bool (decide (refP a l r)))∧Below w.heap.size w w':=by
 cases h0:r.nc
 ·by_cases hgt:0≤r.ma∧r.ma<a
  ·exact prefB_PoD a l r w ha0 ha1 hl0 hl1 h0 hgt.1 hgt.2
  ·by_cases hfr:0≤r.fr
   ·by_cases hma:0≤r.ma
    ·exact prefC_PoD a l r w ha0 ha1 hl0 hl1 h0 hma (fun e=>hgt ⟨hma,e⟩) hfr
    ·exact prefF_PoD a l r w ha0 ha1 hl0 hl1 h0 hma hfr
   ·exact prefA_PoD a l r w ha0 ha1 hl0 hl1 (.inr ⟨h0,hfr,hgt⟩)
 ·exact prefA_PoD a l r w ha0 ha1 hl0 hl1 (.inl h0)
end Go.Proofs.YtfaedmbfabfmeaaGreatDoor
