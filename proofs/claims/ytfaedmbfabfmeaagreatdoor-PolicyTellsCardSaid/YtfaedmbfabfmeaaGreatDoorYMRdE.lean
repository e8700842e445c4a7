/- The contract of the document's own forms (sculleryref05). · The contracts of the document's own Print, and of its forms of any seconds (sculleryref05). · The contracts of the document's own which and guess (sculleryref05). · The contract of the document's own guess (sculleryref05). · The contract of the document's own Parse (sculleryref05). · The contract of the document's own Parse, behind the first form (sculleryref05). · The contract of the document's own Parse, of a text that is no date in the first two forms (sculleryref05). -/
import Derived.Test.YtfaedmbfabfmeaaGreatDoorYMRdP
import Derived.Test.YtfaedmbfabfmeaaGreatDoorYMBarA
import Derived.Deep.RegionHeld3
set_option linter.unusedSimpArgs false
set_option maxRecDepth 100000
set_option maxHeartbeats 4000000
namespace Go.Proofs.YtfaedmbfabfmeaaGreatDoor
open Go.RowKit
def FB (w W:World):Prop:=Below (w.heap.size+1) (w.alloc (.cells #[.string ⟨#[]⟩,.string ⟨#[]⟩,.string ⟨#[]⟩] 42)) W
theorem FB.cells {w W:World} (h:FB w W):W.cell? ⟨w.heap.size,0,none⟩=some (.string ⟨#[]⟩)∧W.cell? ⟨w.heap.size,1,none⟩=some (.string ⟨#[]⟩)∧W.cell? ⟨w.heap.size,2,none⟩=some (.string ⟨#[]⟩)∧W.frozen? ⟨w.heap.size,0,none⟩=false∧W.frozen? ⟨w.heap.size,1,none⟩=false∧W.frozen? ⟨w.heap.size,2,none⟩=false:=by
 have hl:w.heap.size<w.heap.size+1:=Nat.lt_succ_self _
 refine⟨(Below.cell (p:=⟨w.heap.size,0,none⟩) h hl).trans (by simp),(Below.cell (p:=⟨w.heap.size,1,none⟩) h hl).trans (by simp),(Below.cell (p:=⟨w.heap.size,2,none⟩) h hl).trans (by simp),(Below.frozen (p:=⟨w.heap.size,0,none⟩) h hl).trans (by simp),(Below.frozen (p:=⟨w.heap.size,1,none⟩) h hl).trans (by simp),(Below.frozen (p:=⟨w.heap.size,2,none⟩) h hl).trans (by simp)⟩
theorem FB.later {w W:World} (h:FB w W):Below w.heap.size w W:=
 ((Below.refl w.heap.size w).alloc (zR _) _).trans (Below.mono h (by omega))
theorem FB.next {w W W1:World} (h:FB w W) (hb:Below W.heap.size W W1):FB w W1:=
 Below.trans h (hb.mono (by have:=Below.size h;simp at this;omega))
theorem FB.drew {w W:World} (h:FB w W):FB w W.drew:=h.next (Below.refl _ _).drew
theorem fb_calls {f:FuncId} {args:Array Value} {v:Value} (w:World) (h:∀W,Calls Tryz.prog f args W fun e w'=>e=.returned v∧Below W.heap.size W w'):∀W,FB w W→Calls Tryz.prog f args W fun e w'=>e=.returned v∧FB w w':=
 fun W hW=>(h W).mono fun _ _ ⟨he,hb⟩=>⟨he,hW.next hb⟩
structure H3 (W:World) (b:Nat):Prop where
 x:∃v0 v1 v2,W.cell? ⟨b,0,none⟩=some v0∧W.cell? ⟨b,1,none⟩=some v1∧W.cell? ⟨b,2,none⟩=some v2
 f:W.frozen? ⟨b,0,none⟩=false∧W.frozen? ⟨b,1,none⟩=false∧W.frozen? ⟨b,2,none⟩=false
abbrev heldF (w W:World):Prop:=Below w.heap.size w W∧H3 W w.heap.size
theorem FB.held {w W:World} (h:FB w W):heldF w W:=by
 obtain⟨x0,x1,x2,x3,x4,x5⟩:=h.cells
 exact⟨h.later,⟨⟨_,_,_,x0,x1,x2⟩,⟨x3,x4,x5⟩⟩⟩
theorem held_later {w W W1:World} (h:heldF w W) (hb:Below W.heap.size W W1):heldF w W1:=by
 obtain⟨h1,⟨v0,v1,v2,x0,x1,x2⟩,y0,y1,y2⟩:=h
 exact⟨h1.trans (hb.mono h1.size),⟨⟨v0,v1,v2,(hb.cell (p:=⟨w.heap.size,0,none⟩) (lt_of_cell x0)).trans x0,(hb.cell (p:=⟨w.heap.size,1,none⟩) (lt_of_cell x1)).trans x1,(hb.cell (p:=⟨w.heap.size,2,none⟩) (lt_of_cell x2)).trans x2⟩,⟨(hb.frozen (p:=⟨w.heap.size,0,none⟩) (lt_of_cell x0)).trans y0,(hb.frozen (p:=⟨w.heap.size,1,none⟩) (lt_of_cell x1)).trans y1,(hb.frozen (p:=⟨w.heap.size,2,none⟩) (lt_of_cell x2)).trans y2⟩⟩⟩
theorem held_st {w W:World} (h:heldF w W) (a b c:Value):heldF w (((W.setCell ⟨w.heap.size,0,none⟩ a).setCell ⟨w.heap.size,1,none⟩ b).setCell ⟨w.heap.size,2,none⟩ c):=by
 obtain⟨h1,⟨v0,v1,v2,x0,x1,x2⟩,y0,y1,y2⟩:=h
 have q0:(W.setCell ⟨w.heap.size,0,none⟩ a).cell? ⟨w.heap.size,0,none⟩=some a:=World.cell?_setCell_same _ _ _ x0
 have q1:(W.setCell ⟨w.heap.size,0,none⟩ a).cell? ⟨w.heap.size,1,none⟩=some v1:=(World.cell?_setCell_other W ⟨w.heap.size,0,none⟩ ⟨w.heap.size,1,none⟩ _ (by simp)).trans x1
 have q2:(W.setCell ⟨w.heap.size,0,none⟩ a).cell? ⟨w.heap.size,2,none⟩=some v2:=(World.cell?_setCell_other W ⟨w.heap.size,0,none⟩ ⟨w.heap.size,2,none⟩ _ (by simp)).trans x2
 have r0:=(World.cell?_setCell_other (W.setCell ⟨w.heap.size,0,none⟩ a) ⟨w.heap.size,1,none⟩ ⟨w.heap.size,0,none⟩ b (by simp)).trans q0
 have r1:((W.setCell ⟨w.heap.size,0,none⟩ a).setCell ⟨w.heap.size,1,none⟩ b).cell? ⟨w.heap.size,1,none⟩=some b:=World.cell?_setCell_same _ _ _ q1
 have r2:=(World.cell?_setCell_other (W.setCell ⟨w.heap.size,0,none⟩ a) ⟨w.heap.size,1,none⟩ ⟨w.heap.size,2,none⟩ b (by simp)).trans q2
 have s0:=(World.cell?_setCell_other ((W.setCell ⟨w.heap.size,0,none⟩ a).setCell ⟨w.heap.size,1,none⟩ b) ⟨w.heap.size,2,none⟩ ⟨w.heap.size,0,none⟩ c (by simp)).trans r0
 have s1:=(World.cell?_setCell_other ((W.setCell ⟨w.heap.size,0,none⟩ a).setCell ⟨w.heap.size,1,none⟩ b) ⟨w.heap.size,2,none⟩ ⟨w.heap.size,1,none⟩ c (by simp)).trans r1
 have s2:(((W.setCell ⟨w.heap.size,0,none⟩ a).setCell ⟨w.heap.size,1,none⟩ b).setCell ⟨w.heap.size,2,none⟩ c).cell? ⟨w.heap.size,2,none⟩=some c:=World.cell?_setCell_same _ _ _ r2
 refine⟨((h1.setCell (zR _) _).setCell (zR _) _).setCell (zR _) _,⟨⟨a,b,c,s0,s1,s2⟩,?_,?_,?_⟩⟩
 all_goals
  rw [World.frozen?_setCell,World.frozen?_setCell,World.frozen?_setCell]
  assumption
theorem held_calls {f:FuncId} {args:Array Value} {v:Value} (w:World) (h:∀W,Calls Tryz.prog f args W fun e w'=>e=.returned v∧Below W.heap.size W w'):∀W,heldF w W→Calls Tryz.prog f args W fun e w'=>e=.returned v∧heldF w w':=
 fun W hW=>(h W).mono fun _ _ ⟨he,hb⟩=>⟨he,held_later hW hb⟩
theorem rforms_any (y m d c:Nat) (hk:DayOk y m d) (hc:c<86400) (w:World) :
  Calls Tryz.prog 79 #[.int .i64 (86400*daysN y m d+c:Nat)] w fun e w'=>e=.returned (.agg #[.string (strB (tx0 y m d c)),.string (strB (if 2069<y then []else tx1 y m d c)),.string (strB (tx2 y m d c))])∧Below w.heap.size w w':=by
 have hy2:=hk.y2
 have hm2:=hk.m2
 have hd100:d<100:=by have:=hk.d2;have:=ml_bounds hk.y1 hk.m1 hk.m2;omega
 have hlt:=days_bound hk
 have cD:=fb_calls w fun W=>rday_any y m d hk W
 have cW:=fun W=>(rweekday_any (daysN y m d:Nat) W (by omega) (by omega))
 have cN:=fb_calls w fun W=>rwkname_any (wdN (daysN y m d)) W (wdN_lt _)
 have cM:=fb_calls w fun W=>rmoname_any m W hk.m1 (by omega)
 have c1:=fb_calls w fun W=>rtwo_any (c / 3600) W (by omega)
 have c2:=fb_calls w fun W=>rtwo_any (c % 3600 / 60) W (by omega)
 have c3:=fb_calls w fun W=>rtwo_any (c % 60) W (by omega)
 have c4:=fb_calls w fun W=>rtwo_any (y / 100) W (by omega)
 have c5:=fb_calls w fun W=>rtwo_any (y % 100) W (by omega)
 have c6:=fb_calls w fun W=>rtwo_any d W hd100
 have k6:=held_calls w fun W=>rtwo_any d W hd100
 have kM:=held_calls w fun W=>rmoname_any m W hk.m1 (by omega)
 have hw:(if ((daysN y m d:Nat):Int)<0 then(0:Int)else(((daysN y m d:Nat):Int) % 7+4) % 7)=((wdN (daysN y m d):Nat):Int):=by unfold wdN;omega
 rw [hw]at cW
 rw [show((c / 3600:Nat):Int)=(c:Int) / 3600 by omega]at c1
 rw [show((c % 3600 / 60:Nat):Int)=(c:Int) / 60 % 60 by omega]at c2
 rw [show((c % 60:Nat):Int)=(c:Int) % 60 by omega]at c3
 rw [show((y / 100:Nat):Int)=(y:Int) / 100 by omega]at c4
 rw [show((y % 100:Nat):Int)=(y:Int) % 100 by omega]at c5
 have z1:=pad_size 2 (c / 3600)
 have z2:=pad_size 2 (c % 3600 / 60)
 have z3:=pad_size 2 (c % 60)
 have z4:=pad_size 2 (y / 100)
 have z5:=pad_size 2 (y % 100)
 have z6:=pad_size 2 d
 have z7:=mo_size m hk.m1 hk.m2
 have z8:3≤(strB (wkT (wdN (daysN y m d)))).size∧(strB (wkT (wdN (daysN y m d)))).size≤9:=by rw [strB_size];exact wk_len ⟨_,wdN_lt _⟩
 have zc:=ck_size hc
 have zy:=pad_size 4 y
 have zs:(strB (spT d)).size=2:=by rw [strB_size,len_sp]
 have hK0:FB w (w.alloc (.cells #[.string ⟨#[]⟩,.string ⟨#[]⟩,.string ⟨#[]⟩] 42)):=Below.refl _ _
 have hCK:strB (padL 2 (c / 3600))++⟨#[58]⟩++strB (padL 2 (c % 3600 / 60))++⟨#[58]⟩++strB (padL 2 (c % 60))=strB (ckT c):=by
  refine eq_strB ?_
  simp only [append_data,strB_data,ckT,List.append_assoc]
 have hYY:strB (padL 2 (y / 100))++strB (padL 2 (y % 100))=strB (padL 4 y):=by
  rw [strB_append]
  congr 1
  simp only [padL,List.nil_append,List.append_assoc]
  rw [show y / 10 / 10 / 10=y / 100 / 10 by omega,show y / 10 / 10=y / 100 by omega]
  have e1:digC (y % 100 / 10)=digC (y / 10):=by unfold digC;rw [show y % 100 / 10 % 10=y / 10 % 10 by omega]
  have e2:digC (y % 100)=digC y:=by unfold digC;rw [show y % 100 % 10=y % 10 by omega]
  rw [e1,e2]
 have hT0:strB (tx0 y m d c)=(strB (wkT (wdN (daysN y m d)))).extract 0 3++⟨#[44,32]⟩++strB (padL 2 d)++⟨#[32]⟩++strB (moT m)++⟨#[32]⟩++strB (padL 4 y)++⟨#[32]⟩++strB (ckT c)++⟨#[32,71,77,84]⟩:=by
  rw [strB_take]
  refine(eq_strB ?_).symm
  simp only [append_data,strB_data,tx0,wsT,List.append_assoc]
 have hT1:strB (tx1 y m d c)=strB (wkT (wdN (daysN y m d)))++⟨#[44,32]⟩++strB (padL 2 d)++⟨#[45]⟩++strB (moT m)++⟨#[45]⟩++strB (padL 2 (y % 100))++⟨#[32]⟩++strB (ckT c)++⟨#[32,71,77,84]⟩:=by
  refine(eq_strB ?_).symm
  simp only [append_data,strB_data,tx1,List.append_assoc]
 have hT2:strB (tx2 y m d c)=(strB (wkT (wdN (daysN y m d)))).extract 0 3++⟨#[32]⟩++strB (moT m)++⟨#[32]⟩++strB (spT d)++⟨#[32]⟩++strB (ckT c)++⟨#[32]⟩++strB (padL 4 y):=by
  rw [strB_take]
  refine(eq_strB ?_).symm
  simp only [append_data,strB_data,tx2,wsT,List.append_assoc]
 have hS1:d<10→⟨#[32]⟩++(strB (padL 2 d)).extract 1 2=strB (spT d):=by
  intro h
  unfold spT
  rw [if_pos h,strB_drop _ 1 2 (by rw [padL_length]),← strB_append]
  rfl
 have hS2:¬d<10→strB (padL 2 d)=strB (spT d):=by
  intro h
  unfold spT
  rw [if_neg h]
 have hif:strB (if 2069<y then []else tx1 y m d c)=if 2069<y then⟨#[]⟩else strB (tx1 y m d c):=by split<;>rfl
 rw [hif]
 have HT0:=zH hT0
 have HT2:=zH hT2
 have HTy:Hid (2069<y→(if 2069<y then(⟨#[]⟩:ByteArray)else strB (tx1 y m d c))=⟨#[]⟩):=zH fun h=>if_pos h
 have HTn:Hid (¬2069<y→(if 2069<y then(⟨#[]⟩:ByteArray)else strB (tx1 y m d c))=strB (wkT (wdN (daysN y m d)))++⟨#[44,32]⟩++strB (padL 2 d)++⟨#[45]⟩++strB (moT m)++⟨#[45]⟩++strB (padL 2 (y % 100))++⟨#[32]⟩++strB (ckT c)++⟨#[32,71,77,84]⟩):=zH fun h=>(if_neg h).trans hT1
 clear hw hk hT0 hT1 hT2 hif
 generalize(if 2069<y then(⟨#[]⟩:ByteArray)else strB (tx1 y m d c))=T1 at *
 generalize strB (tx0 y m d c)=T0 at *
 generalize strB (tx2 y m d c)=T2 at *
 generalize strB (padL 2 (c / 3600))=A1 at *
 generalize strB (padL 2 (c % 3600 / 60))=A2 at *
 generalize strB (padL 2 (c % 60))=A3 at *
 generalize strB (padL 2 (y / 100))=Y1 at *
 generalize strB (padL 2 (y % 100))=Y2 at *
 generalize strB (padL 2 d)=D at *
 generalize strB (spT d)=S at *
 generalize strB (moT m)=M at *
 generalize strB (padL 4 y)=Y at *
 generalize strB (ckT c)=C at *
 generalize strB (wkT (wdN (daysN y m d)))=N at *
 generalize wdN (daysN y m d)=wd at *
 generalize daysN y m d=K at *
 generalize hN:86400*K+c=n at *
 have e1:(n:Int) / 86400=(K:Int):=by omega
 have e2:(n:Int) % 86400=(c:Int):=by omega
 clear hN
 obtain⟨z8,z9⟩:=z8
 go_enter Tryz.func79,Tryz.ntmps79
 go_wp2_with fail
 refine(cD _ hK0).mono ?_
 rintro e w1 ⟨rfl,hK1⟩
 clear hK0 cD
 go_wp2_with fail
 refine(cW _).mono ?_
 rintro e w2 ⟨rfl,rfl⟩
 clear cW
 go_wp2_with fail
 refine(cN _ hK1).mono ?_
 rintro e w2 ⟨rfl,hK2⟩
 clear hK1 cN
 go_wp2_with fail
 refine(c1 _ hK2).mono ?_
 rintro e w3 ⟨rfl,hK3⟩
 clear hK2 c1
 go_wp2_with fail
 refine(c2 _ hK3).mono ?_
 rintro e w4 ⟨rfl,hK4⟩
 clear hK3 c2
 go_wp2_with fail
 refine(c3 _ hK4).mono ?_
 rintro e w5 ⟨rfl,hK5⟩
 clear hK4 c3
 go_wp2_with fail
 refine(c4 _ hK5).mono ?_
 rintro e w6 ⟨rfl,hK6⟩
 clear hK5 c4
 go_wp2_with fail
 refine(c5 _ hK6).mono ?_
 rintro e w7 ⟨rfl,hK7⟩
 clear hK6
 go_wp2_with fail
 refine(c6 _ hK7).mono ?_
 rintro e w8 ⟨rfl,hK8⟩
 clear hK7
 by_cases h10:d<10
 ·have d10:decide ((d:Int)<10)=true:=by simp;omega
  have hS:=hS1 h10
  clear hS1 hS2 h10
  by_cases h69:2069<y
  ·have d69:decide ((y:Int) > 2069)=true:=by simp;omega
   have HT1:=zH (HTy.out h69)
   clear h69 HTy HTn
   go_wp2_with fail
   refine(c6 _ hK8).mono ?_
   rintro e w9 ⟨rfl,hK9⟩
   clear hK8
   go_wp2_with fail
   refine(cM _ hK9).mono ?_
   rintro e w10 ⟨rfl,hK10⟩
   clear hK9
   go_wp2_with fail
   refine(c5 _ hK10).mono ?_
   rintro e w11 ⟨rfl,hK11⟩
   clear hK10 c5
   go_wp2_with fail
   have hH:=hK11.drew.held
   have zI:(3:Int)≤(N.size:Int):=by omega
   clear hK11 c6 cM
   go_region_held3 (fun W=>Below w.heap.size w W∧H3 W w.heap.size) (first | assumption | exact held_st (by assumption) _ _ _ | go_keep)
    (first | (go_at_call 123;refine(k6 _ (by assumption)).mono ?_;rintro e w' ⟨rfl,hh⟩;obtain⟨⟨v0,v1,v2,x0,x1,x2⟩,x3,x4,x5⟩:=hh.2) | (go_at_call 124;refine(kM _ (by assumption)).mono ?_;rintro e w' ⟨rfl,hh⟩;obtain⟨⟨v0,v1,v2,x0,x1,x2⟩,x3,x4,x5⟩:=hh.2))
   all_goals go_wp2_with fail
   all_goals exact bodyPost_ret (v:=.agg #[.string T0,.string T1,.string T2]) (by simp [results,Tryz.results79,go_sem,x0,x1,x2];exact⟨HT0.out.symm,HT1.out.symm,HT2.out.symm⟩) rfl ⟨rfl,(held_st (W:=_) (by assumption) _ _ _).1⟩
  ·have d69:decide ((y:Int) > 2069)=false:=by simp;omega
   have HT1:=zH (HTn.out h69)
   clear h69 HTy HTn
   go_wp2_with fail
   refine(c6 _ hK8).mono ?_
   rintro e w9 ⟨rfl,hK9⟩
   clear hK8
   go_wp2_with fail
   refine(cM _ hK9).mono ?_
   rintro e w10 ⟨rfl,hK10⟩
   clear hK9
   go_wp2_with fail
   refine(c5 _ hK10).mono ?_
   rintro e w11 ⟨rfl,hK11⟩
   clear hK10 c5
   go_wp2_with fail
   have hH:=hK11.drew.held
   have zI:(3:Int)≤(N.size:Int):=by omega
   clear hK11 c6 cM
   go_region_held3 (fun W=>Below w.heap.size w W∧H3 W w.heap.size) (first | assumption | exact held_st (by assumption) _ _ _ | go_keep)
    (first | (go_at_call 123;refine(k6 _ (by assumption)).mono ?_;rintro e w' ⟨rfl,hh⟩;obtain⟨⟨v0,v1,v2,x0,x1,x2⟩,x3,x4,x5⟩:=hh.2) | (go_at_call 124;refine(kM _ (by assumption)).mono ?_;rintro e w' ⟨rfl,hh⟩;obtain⟨⟨v0,v1,v2,x0,x1,x2⟩,x3,x4,x5⟩:=hh.2))
   all_goals go_wp2_with fail
   all_goals exact bodyPost_ret (v:=.agg #[.string T0,.string T1,.string T2]) (by simp [results,Tryz.results79,go_sem,x0,x1,x2];exact⟨HT0.out.symm,HT1.out.symm,HT2.out.symm⟩) rfl ⟨rfl,(held_st (W:=_) (by assumption) _ _ _).1⟩
 ·have d10:decide ((d:Int)<10)=false:=by simp;omega
  have hS:=hS2 h10
  clear hS1 hS2 h10
  subst hS
  by_cases h69:2069<y
  ·have d69:decide ((y:Int) > 2069)=true:=by simp;omega
   have HT1:=zH (HTy.out h69)
   clear h69 HTy HTn
   go_wp2_with fail
   refine(c6 _ hK8).mono ?_
   rintro e w9 ⟨rfl,hK9⟩
   clear hK8
   go_wp2_with fail
   refine(cM _ hK9).mono ?_
   rintro e w10 ⟨rfl,hK10⟩
   clear hK9
   go_wp2_with fail
   refine(c5 _ hK10).mono ?_
   rintro e w11 ⟨rfl,hK11⟩
   clear hK10 c5
   go_wp2_with fail
   have hH:=hK11.drew.held
   have zI:(3:Int)≤(N.size:Int):=by omega
   clear hK11 c6 cM
   go_region_held3 (fun W=>Below w.heap.size w W∧H3 W w.heap.size) (first | assumption | exact held_st (by assumption) _ _ _ | go_keep)
    (first | (go_at_call 123;refine(k6 _ (by assumption)).mono ?_;rintro e w' ⟨rfl,hh⟩;obtain⟨⟨v0,v1,v2,x0,x1,x2⟩,x3,x4,x5⟩:=hh.2) | (go_at_call 124;refine(kM _ (by assumption)).mono ?_;rintro e w' ⟨rfl,hh⟩;obtain⟨⟨v0,v1,v2,x0,x1,x2⟩,x3,x4,x5⟩:=hh.2))
   all_goals go_wp2_with fail
   all_goals exact bodyPost_ret (v:=.agg #[.string T0,.string T1,.string T2]) (by simp [results,Tryz.results79,go_sem,x0,x1,x2];exact⟨HT0.out.symm,HT1.out.symm,HT2.out.symm⟩) rfl ⟨rfl,(held_st (W:=_) (by assumption) _ _ _).1⟩
  ·have d69:decide ((y:Int) > 2069)=false:=by simp;omega
   have HT1:=zH (HTn.out h69)
   clear h69 HTy HTn
   go_wp2_with fail
   refine(c6 _ hK8).mono ?_
   rintro e w9 ⟨rfl,hK9⟩
   clear hK8
   go_wp2_with fail
   refine(cM _ hK9).mono ?_
   rintro e w10 ⟨rfl,hK10⟩
   clear hK9
   go_wp2_with fail
   refine(c5 _ hK10).mono ?_
   rintro e w11 ⟨rfl,hK11⟩
   clear hK10 c5
   go_wp2_with fail
   have hH:=hK11.drew.held
   have zI:(3:Int)≤(N.size:Int):=by omega
   clear hK11 c6 cM
   go_region_held3 (fun W=>Below w.heap.size w W∧H3 W w.heap.size) (first | assumption | exact held_st (by assumption) _ _ _ | go_keep)
    (first | (go_at_call 123;refine(k6 _ (by assumption)).mono ?_;rintro e w' ⟨rfl,hh⟩;obtain⟨⟨v0,v1,v2,x0,x1,x2⟩,x3,x4,x5⟩:=hh.2) | (go_at_call 124;refine(kM _ (by assumption)).mono ?_;rintro e w' ⟨rfl,hh⟩;obtain⟨⟨v0,v1,v2,x0,x1,x2⟩,x3,x4,x5⟩:=hh.2))
   all_goals go_wp2_with fail
   all_goals exact bodyPost_ret (v:=.agg #[.string T0,.string T1,.string T2]) (by simp [results,Tryz.results79,go_sem,x0,x1,x2];exact⟨HT0.out.symm,HT1.out.symm,HT2.out.symm⟩) rfl ⟨rfl,(held_st (W:=_) (by assumption) _ _ _).1⟩
theorem rforms_n (n:Nat) (hn:n<253402300800) (w:World) :
  Calls Tryz.prog 79 #[.int .i64 n] w fun e w'=>e=.returned (.agg #[.string (strB (fm0 n)),.string (strB (fm1 n)),.string (strB (fm2 n))])∧Below w.heap.size w w':=by
 obtain⟨hk,hc,he⟩:=mom_spec hn
 have:=rforms_any _ _ _ _ hk hc w
 rw [← he]at this
 exact this
theorem run_ix0 (a b c:ByteArray) (W:World):(Instr.index 42 (.agg #[.string a,.string b,.string c]) (.int .i64 0)).run Tryz.prog W=.ok (.string a) W:=by kernel_rfl
theorem run_ix1 (a b c:ByteArray) (W:World):(Instr.index 42 (.agg #[.string a,.string b,.string c]) (.int .i64 1)).run Tryz.prog W=.ok (.string b) W:=by kernel_rfl
theorem run_ix2 (a b c:ByteArray) (W:World):(Instr.index 42 (.agg #[.string a,.string b,.string c]) (.int .i64 2)).run Tryz.prog W=.ok (.string c) W:=by kernel_rfl
theorem whG_step (p:List UInt8) (a k:Nat) (h:p≠moT a):whG p a (k+1)=whG p (a+1) k:=by rw [whG,if_neg h]
theorem whG_hit (p:List UInt8) (a k:Nat) (h:p=moT a):whG p a (k+1)=a:=by rw [whG,if_pos h]
theorem later_calls {f:FuncId} {args:Array Value} {v:Value} (w:World) (h:∀W,Calls Tryz.prog f args W fun e w'=>e=.returned v∧Below W.heap.size W w'):∀W,Below w.heap.size w W→Calls Tryz.prog f args W fun e w'=>e=.returned v∧Below w.heap.size w w':=
 fun W hW=>(h W).mono fun _ _ ⟨he,hb⟩=>⟨he,hW.trans (hb.mono hW.size)⟩
theorem rwhich_any (l:List UInt8) (i:Nat) (w:World) (hi:i≤1000) (hl:l.length≤100000) :
  Calls Tryz.prog 119 #[.string (strB l),.int .i64 i] w fun e w'=>e=.returned (.int .i64 (whV l i:Nat))∧Below w.heap.size w w':=by
 have hz:=strB_size l
 have hV:Hid (whV l i=whG ((l.drop i).take 3) 1 12):=zH rfl
 obtain⟨p,hp⟩:∃p,p=(l.drop i).take 3:=⟨_,rfl⟩
 rw [← hp]at hV
 have hx:((strB l).extract i (i+3)).toList=p:=by
  rw [Lib.toList_data,Lib.extract_data,strB_data,hp,Nat.add_sub_cancel_left]
 have hshort:¬i+3≤(strB l).size→p.length<3:=by
  intro h
  rw [hp,List.length_take,List.length_drop]
  omega
 have hlm:∀j,1≤j→j<13→(moT j).length=3:=len_mo
 have hSz:(strB l).size≤100000:=by omega
 clear hp hz
 generalize strB l=t at *
 generalize whV l i=v at *
 have d0:decide ((i:Int)≥0)=true:=by simp
 have wI:=wrap_small ((i:Int)+3) (by omega) (by omega)
 by_cases hin:i+3≤t.size
 ·have d1:decide ((i:Int)+3≤(t.size:Int))=true:=by simp;omega
  have j1:(0:Int)≤(i:Int):=by omega
  have j2:(i:Int)≤(i:Int)+3:=by omega
  have j3:(i:Int)+3≤(t.size:Int):=by omega
  have j4:((i:Int)+3).toNat=i+3:=by omega
  clear hshort
  go_enter Tryz.func119,Tryz.ntmps119
  go_wp2_with fail
  go_loopw [5] (fun x wr=>∃m:Nat,x=.int .i64 m∧1≤m∧m≤13∧Hid (v=whG p m (13-m))∧Below w.heap.size w wr) (fun x _=>13-(RowKit.intOf x).toNat)
  case atStart=>exact⟨1,rfl,by omega,by omega,hV,Below.refl _ _⟩
  case round =>
   obtain⟨m,rfl,hm1,hm2,hG,hb⟩:=hrel
   by_cases hlt:m<13
   ·have cM:=later_calls w fun W=>rmoname_any m W hm1 hlt
    have dm:decide ((m:Int)≤12)=true:=by simp;omega
    have hs:=strB_data (moT m)
    have hbd:=hb.drew
    by_cases heq:p=moT m
    ·have HN:Hid (v=m):=zH (by rw [hG.out,show 13-m=(12-m)+1 by omega,whG_hit _ _ _ heq])
     have hq:((t.extract i (i+3)).toList==(strB (moT m)).toList)=true:=by rw [hx,Lib.toList_data,hs,heq];simp
     clear hx heq hG hlm hs
     generalize strB (moT m)=s at *
     go_wp2_with fail
     go_region_held3 (fun W=>Below w.heap.size w W) (first | assumption | go_keep) (first | (go_at_call 124;refine(cM _ (by assumption)).mono ?_;rintro e w' ⟨rfl,hb2⟩))
     all_goals go_wp2_with fail
     all_goals go_ret
     all_goals exact⟨by rw [HN.out]<;>rfl,by assumption⟩
    ·have HN:Hid (v=whG p (m+1) (13-(m+1))):=zH (by rw [hG.out,show 13-m=(12-m)+1 by omega,whG_step _ _ _ heq,show 13-(m+1)=12-m by omega])
     have hq:((t.extract i (i+3)).toList==(strB (moT m)).toList)=false:=by rw [hx,Lib.toList_data,hs];simpa using heq
     clear hx heq hG hlm hs
     generalize strB (moT m)=s at *
     go_wp2_with fail
     go_region_held3 (fun W=>Below w.heap.size w W) (first | assumption | go_keep) (first | (go_at_call 124;refine(cM _ (by assumption)).mono ?_;rintro e w' ⟨rfl,hb2⟩))
     all_goals go_wp2_with fail
     all_goals go_roundw
     case rel=>exact⟨m+1,by go_num,by omega,by omega,HN,by assumption⟩
     case measure=>simp [RowKit.intOf];omega
   ·obtain rfl:m=13:=by omega
    have HN:Hid (v=0):=zH hG.out
    clear hx hG hlm
    go_wp2_with fail
    go_ret
    exact⟨by rw [HN.out]<;>rfl,hb⟩
 ·have d1:decide ((i:Int)+3≤(t.size:Int))=false:=by simp;omega
  have hshort:=hshort hin
  clear hx
  go_enter Tryz.func119,Tryz.ntmps119
  go_wp2_with fail
  go_loopw [5] (fun x wr=>∃m:Nat,x=.int .i64 m∧1≤m∧m≤13∧Hid (v=whG p m (13-m))∧Below w.heap.size w wr) (fun x _=>13-(RowKit.intOf x).toNat)
  case atStart=>exact⟨1,rfl,by omega,by omega,hV,Below.refl _ _⟩
  case round =>
   obtain⟨m,rfl,hm1,hm2,hG,hb⟩:=hrel
   by_cases hlt:m<13
   ·have dm:decide ((m:Int)≤12)=true:=by simp;omega
    have heq:p≠moT m:=by
     intro h
     rw [h,hlm m hm1 hlt]at hshort
     omega
    have HN:Hid (v=whG p (m+1) (13-(m+1))):=zH (by rw [hG.out,show 13-m=(12-m)+1 by omega,whG_step _ _ _ heq,show 13-(m+1)=12-m by omega])
    clear heq hG hlm hshort
    go_wp2_with fail
    go_quiet (fail)
    go_wp2_with fail
    go_roundw
    case rel=>exact⟨m+1,by go_num,by omega,by omega,HN,hb.trans ((below_drewN _ _).mono hb.size)⟩
    case measure=>simp [RowKit.intOf];omega
   ·obtain rfl:m=13:=by omega
    have HN:Hid (v=0):=zH hG.out
    clear hG hlm hshort
    go_wp2_with fail
    go_ret
    exact⟨by rw [HN.out]<;>rfl,hb⟩
def guI:Option Nat→Int
 | some n=>n
 | none=>-1
theorem rguess_any (l:List UInt8) (Y D:Int) (mon ck:Nat) (w:World) (hm:mon≤100) (hc:ck≤100) (hl:l.length≤100000) :
  Calls Tryz.prog 77 #[.string (strB l),.int .i64 Y,.int .i64 mon,.int .i64 D,.int .i64 ck] w fun e w'=>e=.returned (.int .i64 (guI (guV l Y mon D ck)))∧Below w.heap.size w w':=by
 have hl2:l.length≤maxLen:=by unfold maxLen;omega
 have cW:=fun W=>rwhich_any l mon W (by omega) hl
 have cD:=fun W=>rdays_any Y (whV l mon:Nat) D W
 have c1:=fun W=>rdigits_any_RdG l ck 2 W (by omega) (by omega) (by omega) hl2
 have c2:=fun W=>rdigits_any_RdG l (ck+3) 2 W (by omega) (by omega) (by omega) hl2
 have c3:=fun W=>rdigits_any_RdG l (ck+6) 2 W (by omega) (by omega) (by omega) hl2
 rw [show((ck+3:Nat):Int)=(ck:Int)+3 by omega]at c2
 rw [show((ck+6:Nat):Int)=(ck:Int)+6 by omega]at c3
 obtain⟨r1,q1⟩:=dg_range l ck 2
 obtain⟨r2,q2⟩:=dg_range l (ck+3) 2
 obtain⟨r3,q3⟩:=dg_range l (ck+6) 2
 rw [show((10:Int) ^ 2)=100 by decide]at q1 q2 q3
 have hv:Hid (guV l Y mon D ck=if 0≤D∧dayI Y (whV l mon) D=true∧tdV l ck=true then some (86400*daysN Y.toNat (whV l mon) D.toNat+(3600*(dgV l ck 2).toNat+60*(dgV l (ck+3) 2).toNat+(dgV l (ck+6) 2).toNat))else none):=zH rfl
 have ht:Hid (tdV l ck=decide (0≤dgV l ck 2∧dgV l ck 2≤23∧0≤dgV l (ck+3) 2∧dgV l (ck+3) 2≤59∧0≤dgV l (ck+6) 2∧dgV l (ck+6) 2≤59)):=zH rfl
 generalize dgV l ck 2=h at *
 generalize dgV l (ck+3) 2=m at *
 generalize dgV l (ck+6) 2=k at *
 generalize tdV l ck=td at *
 generalize guV l Y mon D ck=v at *
 generalize whV l mon=M at *
 generalize strB l=t at *
 clear hl hl2
 by_cases hD:D<0
 ·have d0:decide (D<0)=true:=by simpa using hD
  have HV:Hid (v=none):=zH (by rw [hv.out,if_neg];omega)
  clear hv ht cW cD c1 c2 c3
  go_enter Tryz.func77,Tryz.ntmps77
  go_wp2_with fail
  go_ret
  exact⟨by rw [HV.out]<;>rfl,Below.refl _ _⟩
 ·have d0:decide (D<0)=false:=by simpa using hD
  have hD0:0≤D:=by omega
  go_enter Tryz.func77,Tryz.ntmps77
  go_wp2_with fail
  refine(cW _).mono ?_
  rintro e w1 ⟨rfl,hb1⟩
  clear cW
  go_wp2_with fail
  refine(cD _).mono ?_
  rintro e w2 ⟨rfl,hb2⟩
  have hb2:=hb1.trans (hb2.mono hb1.size)
  clear hb1 cD
  cases hd:dayI Y M D
  ·have hdv:daysV Y M D=.tuple #[.int .i64 0,.int .i64 1]:=by unfold daysV;rw [hd]<;>rfl
   have HV:Hid (v=none):=zH (by rw [hv.out,if_neg];rw [hd];simp)
   rw [hdv]
   clear hv ht hd hdv
   go_wp2_with fail
   refine(c1 _).mono ?_
   rintro e w3 ⟨rfl,rfl⟩
   go_wp2_with fail
   refine(c2 _).mono ?_
   rintro e w3 ⟨rfl,rfl⟩
   go_wp2_with fail
   refine(c3 _).mono ?_
   rintro e w3 ⟨rfl,rfl⟩
   go_wp2_with fail
   go_ret
   exact⟨by rw [HV.out]<;>rfl,hb2⟩
  ·have hdv:daysV Y M D=.tuple #[.int .i64 (daysN Y.toNat M D.toNat:Nat),.int .i64 0]:=by unfold daysV;rw [if_pos hd]<;>rfl
   have hlt:daysN Y.toNat M D.toNat<2932897:=by
    unfold dayI at hd
    have hd:=of_decide_eq_true hd
    exact days_bound (by simpa using hd.2.2.2)
   rw [hdv]
   have hv2:Hid (v=if td=true then some (86400*daysN Y.toNat M D.toNat+(3600*h.toNat+60*m.toNat+k.toNat))else none):=zH (by
    rw [hv.out]
    by_cases htd:td=true
    ·rw [if_pos ⟨hD0,hd,htd⟩,if_pos htd]
    ·rw [if_neg (fun h=>htd h.2.2),if_neg htd])
   clear hv hd hdv
   generalize daysN Y.toNat M D.toNat=K at *
   go_wp2_with fail
   refine(c1 _).mono ?_
   rintro e w3 ⟨rfl,rfl⟩
   go_wp2_with fail
   refine(c2 _).mono ?_
   rintro e w3 ⟨rfl,rfl⟩
   go_wp2_with fail
   refine(c3 _).mono ?_
   rintro e w3 ⟨rfl,rfl⟩
   clear c1 c2 c3
   by_cases g0:h<0
   ·have d1:decide (h<0)=true:=by simpa using g0
    have HV:Hid (v=none):=zH (by rw [hv2.out,if_neg];rw [ht.out];simp;omega)
    clear hv2 ht
    go_wp2_with fail
    go_ret
    exact⟨by rw [HV.out]<;>rfl,hb2⟩
   have d1:decide (h<0)=false:=by simpa using g0
   by_cases g1:h > 23
   ·have d2:decide (h > 23)=true:=by simpa using g1
    have HV:Hid (v=none):=zH (by rw [hv2.out,if_neg];rw [ht.out];simp;omega)
    clear hv2 ht
    go_wp2_with fail
    go_ret
    exact⟨by rw [HV.out]<;>rfl,hb2⟩
   have d2:decide (h > 23)=false:=by simpa using g1
   by_cases g2:m<0
   ·have d3:decide (m<0)=true:=by simpa using g2
    have HV:Hid (v=none):=zH (by rw [hv2.out,if_neg];rw [ht.out];simp;omega)
    clear hv2 ht
    go_wp2_with fail
    go_ret
    exact⟨by rw [HV.out]<;>rfl,hb2⟩
   have d3:decide (m<0)=false:=by simpa using g2
   by_cases g3:m > 59
   ·have d4:decide (m > 59)=true:=by simpa using g3
    have HV:Hid (v=none):=zH (by rw [hv2.out,if_neg];rw [ht.out];simp;omega)
    clear hv2 ht
    go_wp2_with fail
    go_ret
    exact⟨by rw [HV.out]<;>rfl,hb2⟩
   have d4:decide (m > 59)=false:=by simpa using g3
   by_cases g4:k<0
   ·have d5:decide (k<0)=true:=by simpa using g4
    have HV:Hid (v=none):=zH (by rw [hv2.out,if_neg];rw [ht.out];simp;omega)
    clear hv2 ht
    go_wp2_with fail
    go_ret
    exact⟨by rw [HV.out]<;>rfl,hb2⟩
   have d5:decide (k<0)=false:=by simpa using g4
   by_cases g5:k > 59
   ·have d6:decide (k > 59)=true:=by simpa using g5
    have HV:Hid (v=none):=zH (by rw [hv2.out,if_neg];rw [ht.out];simp;omega)
    clear hv2 ht
    go_wp2_with fail
    go_ret
    exact⟨by rw [HV.out]<;>rfl,hb2⟩
   have d6:decide (k > 59)=false:=by simpa using g5
   obtain⟨h,rfl⟩:=Int.eq_ofNat_of_zero_le (show 0≤h by omega)
   obtain⟨m,rfl⟩:=Int.eq_ofNat_of_zero_le (show 0≤m by omega)
   obtain⟨k,rfl⟩:=Int.eq_ofNat_of_zero_le (show 0≤k by omega)
   have HV:Hid (v=some (86400*K+(3600*h+60*m+k))):=zH (by rw [hv2.out,if_pos (by rw [ht.out];exact decide_eq_true ⟨by omega,by omega,by omega,by omega,by omega,by omega⟩)]<;>rfl)
   clear hv2 ht
   go_wp2_with fail
   go_ret
   exact⟨by rw [HV.out];unfold guI;go_num,hb2⟩
theorem cmp_eq {p l:List UInt8} (h:p=l):((strB p).toList==(strB l).toList)=true:=by rw [h];simp
theorem cmp_ne {p l:List UInt8} (h:p≠l):((strB p).toList==(strB l).toList)=false:=by
 rw [Lib.toList_data,Lib.toList_data,strB_data,strB_data]
 simpa using h
theorem byte_at {l:List UInt8} {i:Nat} (h:i<(strB l).size):(((strB l)[i].toNat:Int) != 44)=!(l[i]? == some 44):=by
 have h2:i<l.length:=by rw [strB_size]at h;exact h
 change ((l[i].toNat:Int) != 44)=_
 rw [List.getElem?_eq_getElem h2]
 have h3:=byte_beq l[i] 44
 rw [show(((44:UInt8).toNat:Int))=44 from rfl]at h3
 unfold bne
 rw [h3]
 rfl
structure Asks (l:List UInt8):Prop where
 dg:∀(i k:Nat) (W:World),1≤k→k≤4→i≤1000→Calls Tryz.prog 78 #[.string (strB l),.int .i64 (i:Int),.int .i64 (k:Int)] W fun e w'=>e=.returned (.int .i64 (dgV l i k))∧W=w'
 gu:∀(Y D:Int) (mon ck:Nat) (W:World),mon≤100→ck≤100→Calls Tryz.prog 77 #[.string (strB l),.int .i64 Y,.int .i64 (mon:Int),.int .i64 D,.int .i64 (ck:Int)] W fun e w'=>e=.returned (.int .i64 (guI (guV l Y mon D ck)))∧Below W.heap.size W w'
theorem asks_any (l:List UInt8) (hl:l.length≤100000):Asks l:=
 ⟨fun i k W h1 h2 h3=>rdigits_any_RdG l i k W h1 h2 h3 (by unfold maxLen;omega),fun Y D mon ck W h1 h2=>rguess_any l Y D mon ck W h1 h2 hl⟩
theorem rparse0 (l:List UInt8) (n:Nat) (w:World) (hl:l.length≤100000) (h:scL wsT p0L l=some n) :
  Calls Tryz.prog 44 #[.string (strB l)] w fun e w'=>e=.returned (.tuple #[.int .i64 n,.int .i64 0])∧Below w.heap.size w w':=by
 have hA:=asks_any l (by omega)
 obtain⟨hg,hf⟩:=(hit0 l n).2 h
 have hn:=gu_lt hg
 have c1:=fun W=>hA.dg 12 4 W (by omega) (by omega) (by omega)
 have c2:=fun W=>hA.dg 5 2 W (by omega) (by omega) (by omega)
 have c3:=fun W=>hA.gu (dgV l 12 4) (dgV l 5 2) 8 17 W (by omega) (by omega)
 rw [show guV l (dgV l 12 4) 8 (dgV l 5 2) 17=some n from hg]at c3
 have c4:=fun W=>rforms_n n hn W
 have hq:=cmp_eq hf
 have hx:=run_ix0 (strB (fm0 n)) (strB (fm1 n)) (strB (fm2 n))
 have hge:decide ((n:Int)≥0)=true:=by simp
 simp only [guI]at c3
 clear hA hg hf h
 generalize dgV l 12 4=a1 at *
 generalize dgV l 5 2=a2 at *
 generalize strB (fm0 n)=T0 at *
 generalize strB (fm1 n)=T1 at *
 generalize strB (fm2 n)=T2 at *
 generalize strB l=t at *
 go_enter Tryz.func44,Tryz.ntmps44
 go_wp2_with fail
 refine(c1 _).mono ?_
 rintro e w1 ⟨rfl,rfl⟩
 go_wp2_with fail
 refine(c2 _).mono ?_
 rintro e w1 ⟨rfl,rfl⟩
 go_wp2_with fail
 refine(c3 _).mono ?_
 rintro e w1 ⟨rfl,hb1⟩
 go_wp2_with fail
 refine(c4 _).mono ?_
 rintro e w2 ⟨rfl,hb2⟩
 go_wp2_with fail
 go_ret2
 exact⟨rfl,hb1.trans (hb2.mono hb1.size)⟩
inductive First (l:List UInt8):Prop where
 | no (h:gu0 l=none)
 | other (n:Nat) (h:gu0 l=some n) (hf:fm0 n≠l)
inductive Third (l:List UInt8) (v:Value):Prop where
 | no (h:gu2 l=none) (hv:v=.tuple #[.int .i64 0,.int .i64 2])
 | other (n:Nat) (h:gu2 l=some n) (hf:fm2 n≠l) (hv:v=.tuple #[.int .i64 0,.int .i64 2])
 | hit (n:Nat) (h:gu2 l=some n) (hf:fm2 n=l) (hv:v=.tuple #[.int .i64 n,.int .i64 0])
theorem first_of {l:List UInt8} (h:scL wsT p0L l=none):First l:=by
 cases hg:gu0 l with
 | none=>exact .no hg
 | some n=>exact .other n hg fun hf=>by rw [(hit0 l n).1 ⟨hg,hf⟩]at h;cases h
theorem third_of (l:List UInt8):Third l (secV (scL wsT p2L l)):=by
 cases h:scL wsT p2L l with
 | some n=>exact .hit n ((hit2 l n).2 h).1 ((hit2 l n).2 h).2 rfl
 | none =>
  cases hg:gu2 l with
  | none=>exact .no hg rfl
  | some n=>exact .other n hg (fun hf=>by rw [(hit2 l n).1 ⟨hg,hf⟩]at h;cases h) rfl
theorem rparse1 (l:List UInt8) (n i0:Nat) (w:World) (hl:l.length≤100000) (h0:First l) (hi0:i0<12) (hc:l[i0]? = some 44) (hb:∀j,j<i0→l[j]?≠some 44) (hg1:gu1 l i0=some n) (hf1:fm1 n=l) :
  Calls Tryz.prog 44 #[.string (strB l)] w fun e w'=>e=.returned (.tuple #[.int .i64 n,.int .i64 0])∧Below w.heap.size w w':=by
 have hA:=asks_any l (by omega)
 have hz:=strB_size l
 have hlt0:i0<(strB l).size:=by
  rw [hz]
  by_cases h:i0<l.length
  ·exact h
  ·rw [List.getElem?_eq_none (by omega)]at hc
   cases hc
 have hno:∀j,(h:j<(strB l).size)→j<i0→(((strB l)[j].toNat:Int) != 44)=true:=fun j h hj=>by
  rw [byte_at h]
  simpa using hb j hj
 have hyes:(((strB l)[i0].toNat:Int) != 44)=false:=by
  rw [byte_at hlt0,hc]
  rfl
 have hsz:(strB l).size≤100000:=by omega
 clear hb hc hz
 rcases h0 with hg0 | ⟨n0,hg0,hf0⟩
 ·
  have c1:=fun W=>hA.dg 12 4 W (by omega) (by omega) (by omega)
  have c2:=fun W=>hA.dg 5 2 W (by omega) (by omega) (by omega)
  have c3:=fun W=>hA.gu (dgV l 12 4) (dgV l 5 2) 8 17 W (by omega) (by omega)
  rw [show guV l (dgV l 12 4) 8 (dgV l 5 2) 17=none from hg0]at c3
  have hge:decide ((-1:Int)≥0)=false:=by decide
  simp only [guI]at c3
  clear hg0
  generalize dgV l 12 4=a1 at *
  generalize dgV l 5 2=a2 at *
  go_enter Tryz.func44,Tryz.ntmps44
  go_wp2_with fail
  refine(c1 _).mono ?_
  rintro e w1 ⟨rfl,rfl⟩
  go_wp2_with fail
  refine(c2 _).mono ?_
  rintro e w1 ⟨rfl,rfl⟩
  go_wp2_with fail
  refine(c3 _).mono ?_
  rintro e w1 ⟨rfl,hb1⟩
  go_wp2_with fail
  clear hge
  clear c1 c2 c3
  go_loopw [5] (fun x wr=>∃i:Nat,x=.int .i64 i∧i≤i0∧i≤12∧Below w.heap.size w wr) (fun x _=>i0+1-(intOf x).toNat)
  case atStart=>exact⟨0,rfl,by omega,by omega,hb1⟩
  case round =>
   clear hb1
   obtain⟨i,rfl,hi,_,hb⟩:=hrel
   have d2:decide ((i:Int)<12)=true:=by simp;omega
   by_cases hlt:i<i0
   ·have hin:i<(strB l).size:=by omega
    have d1:decide (i<(strB l).size)=true:=by simpa using hin
    have hne:=hno i hin hlt
    clear hno hyes hA hg1 hf1
    generalize strB l=t at *
    go_wp2_with fail
    go_roundw
    case rel=>exact⟨i+1,by go_num,by omega,by omega,hb⟩
    case measure=>simp [intOf];omega
   ·obtain rfl:i=i0:=by omega
    have d1:decide (i<(strB l).size)=true:=by simpa using hlt0
    clear hno hlt
    have cY:=fun W=>hA.dg (i+9) 2 W (by omega) (by omega) (by omega)
    have cD:=fun W=>hA.dg (i+2) 2 W (by omega) (by omega) (by omega)
    have cG:=fun W=>hA.gu (ys1 (dgV l (i+9) 2)) (dgV l (i+2) 2) (i+5) (i+12) W (by omega) (by omega)
    rw [show((i+9:Nat):Int)=(i:Int)+9 by omega]at cY
    rw [show((i+2:Nat):Int)=(i:Int)+2 by omega]at cD
    rw [show((i+5:Nat):Int)=(i:Int)+5 by omega,show((i+12:Nat):Int)=(i:Int)+12 by omega]at cG
    obtain⟨r1,r2⟩:=dg_range l (i+9) 2
    rw [show((10:Int) ^ 2)=100 by decide]at r2
    rw [show guV l (ys1 (dgV l (i+9) 2)) (i+5) (dgV l (i+2) 2) (i+12)=some n from hg1]at cG
    simp only [guI]at cG
    have c4:=fun W=>rforms_n n (gu_lt hg1) W
    have hq:=cmp_eq hf1
    have hx:=run_ix1 (strB (fm0 n)) (strB (fm1 n)) (strB (fm2 n))
    have hge:decide ((n:Int)≥0)=true:=by simp
    clear hf1
    generalize strB (fm0 n)=T0 at *
    generalize strB (fm1 n)=T1 at *
    generalize strB (fm2 n)=T2 at *
    clear hg1 hA
    by_cases h70:70≤dgV l (i+9) 2
    ·have d70:decide (dgV l (i+9) 2≥70)=true:=by simpa using h70
     rw [show ys1 (dgV l (i+9) 2)=dgV l (i+9) 2+1900 from if_pos h70]at cG
     clear h70
     generalize dgV l (i+9) 2=yy at *
     generalize dgV l (i+2) 2=dd at *
     generalize strB l=t at *
     go_wp2_with fail
     refine(cY _).mono ?_
     rintro e w3 ⟨rfl,rfl⟩
     go_wp2_with fail
     refine(cD _).mono ?_
     rintro e w3 ⟨rfl,rfl⟩
     go_wp2_with fail
     refine(cG _).mono ?_
     rintro e w3 ⟨rfl,hb3⟩
     have hb3:=hb.trans (hb3.mono hb.size)
     go_wp2_with fail
     refine(c4 _).mono ?_
     rintro e w4 ⟨rfl,hb4⟩
     have hb4:=hb3.trans (hb4.mono hb3.size)
     go_wp2_with fail
     go_ret2
     exact⟨rfl,hb4⟩
    ·have d70:decide (dgV l (i+9) 2≥70)=false:=by simpa using h70
     rw [show ys1 (dgV l (i+9) 2)=dgV l (i+9) 2+2000 from if_neg h70]at cG
     clear h70
     generalize dgV l (i+9) 2=yy at *
     generalize dgV l (i+2) 2=dd at *
     generalize strB l=t at *
     go_wp2_with fail
     refine(cY _).mono ?_
     rintro e w3 ⟨rfl,rfl⟩
     go_wp2_with fail
     refine(cD _).mono ?_
     rintro e w3 ⟨rfl,rfl⟩
     go_wp2_with fail
     refine(cG _).mono ?_
     rintro e w3 ⟨rfl,hb3⟩
     have hb3:=hb.trans (hb3.mono hb.size)
     go_wp2_with fail
     refine(c4 _).mono ?_
     rintro e w4 ⟨rfl,hb4⟩
     have hb4:=hb3.trans (hb4.mono hb3.size)
     go_wp2_with fail
     go_ret2
     exact⟨rfl,hb4⟩
 ·
  have c1:=fun W=>hA.dg 12 4 W (by omega) (by omega) (by omega)
  have c2:=fun W=>hA.dg 5 2 W (by omega) (by omega) (by omega)
  have c3:=fun W=>hA.gu (dgV l 12 4) (dgV l 5 2) 8 17 W (by omega) (by omega)
  rw [show guV l (dgV l 12 4) 8 (dgV l 5 2) 17=some n0 from hg0]at c3
  have c4:=fun W=>rforms_n n0 (gu_lt hg0) W
  have hq:=cmp_ne hf0
  have hx:=run_ix0 (strB (fm0 n0)) (strB (fm1 n0)) (strB (fm2 n0))
  have hge:decide ((n0:Int)≥0)=true:=by simp
  simp only [guI]at c3
  clear hg0
  clear hf0
  generalize strB (fm0 n0)=T0 at *
  generalize strB (fm1 n0)=T1 at *
  generalize strB (fm2 n0)=T2 at *
  generalize dgV l 12 4=a1 at *
  generalize dgV l 5 2=a2 at *
  go_enter Tryz.func44,Tryz.ntmps44
  go_wp2_with fail
  refine(c1 _).mono ?_
  rintro e w1 ⟨rfl,rfl⟩
  go_wp2_with fail
  refine(c2 _).mono ?_
  rintro e w1 ⟨rfl,rfl⟩
  go_wp2_with fail
  refine(c3 _).mono ?_
  rintro e w1 ⟨rfl,hb1⟩
  go_wp2_with fail
  refine(c4 _).mono ?_
  rintro e w2 ⟨rfl,hb2⟩
  have hb1:=hb1.trans (hb2.mono hb1.size)
  clear hb2
  go_wp2_with fail
  clear c4 hq hx hge
  clear c1 c2 c3
  go_loopw [5] (fun x wr=>∃i:Nat,x=.int .i64 i∧i≤i0∧i≤12∧Below w.heap.size w wr) (fun x _=>i0+1-(intOf x).toNat)
  case atStart=>exact⟨0,rfl,by omega,by omega,hb1⟩
  case round =>
   clear hb1
   obtain⟨i,rfl,hi,_,hb⟩:=hrel
   have d2:decide ((i:Int)<12)=true:=by simp;omega
   by_cases hlt:i<i0
   ·have hin:i<(strB l).size:=by omega
    have d1:decide (i<(strB l).size)=true:=by simpa using hin
    have hne:=hno i hin hlt
    clear hno hyes hA hg1 hf1
    generalize strB l=t at *
    go_wp2_with fail
    go_roundw
    case rel=>exact⟨i+1,by go_num,by omega,by omega,hb⟩
    case measure=>simp [intOf];omega
   ·obtain rfl:i=i0:=by omega
    have d1:decide (i<(strB l).size)=true:=by simpa using hlt0
    clear hno hlt
    have cY:=fun W=>hA.dg (i+9) 2 W (by omega) (by omega) (by omega)
    have cD:=fun W=>hA.dg (i+2) 2 W (by omega) (by omega) (by omega)
    have cG:=fun W=>hA.gu (ys1 (dgV l (i+9) 2)) (dgV l (i+2) 2) (i+5) (i+12) W (by omega) (by omega)
    rw [show((i+9:Nat):Int)=(i:Int)+9 by omega]at cY
    rw [show((i+2:Nat):Int)=(i:Int)+2 by omega]at cD
    rw [show((i+5:Nat):Int)=(i:Int)+5 by omega,show((i+12:Nat):Int)=(i:Int)+12 by omega]at cG
    obtain⟨r1,r2⟩:=dg_range l (i+9) 2
    rw [show((10:Int) ^ 2)=100 by decide]at r2
    rw [show guV l (ys1 (dgV l (i+9) 2)) (i+5) (dgV l (i+2) 2) (i+12)=some n from hg1]at cG
    simp only [guI]at cG
    have c4:=fun W=>rforms_n n (gu_lt hg1) W
    have hq:=cmp_eq hf1
    have hx:=run_ix1 (strB (fm0 n)) (strB (fm1 n)) (strB (fm2 n))
    have hge:decide ((n:Int)≥0)=true:=by simp
    clear hf1
    generalize strB (fm0 n)=T0 at *
    generalize strB (fm1 n)=T1 at *
    generalize strB (fm2 n)=T2 at *
    clear hg1 hA
    by_cases h70:70≤dgV l (i+9) 2
    ·have d70:decide (dgV l (i+9) 2≥70)=true:=by simpa using h70
     rw [show ys1 (dgV l (i+9) 2)=dgV l (i+9) 2+1900 from if_pos h70]at cG
     clear h70
     generalize dgV l (i+9) 2=yy at *
     generalize dgV l (i+2) 2=dd at *
     generalize strB l=t at *
     go_wp2_with fail
     refine(cY _).mono ?_
     rintro e w3 ⟨rfl,rfl⟩
     go_wp2_with fail
     refine(cD _).mono ?_
     rintro e w3 ⟨rfl,rfl⟩
     go_wp2_with fail
     refine(cG _).mono ?_
     rintro e w3 ⟨rfl,hb3⟩
     have hb3:=hb.trans (hb3.mono hb.size)
     go_wp2_with fail
     refine(c4 _).mono ?_
     rintro e w4 ⟨rfl,hb4⟩
     have hb4:=hb3.trans (hb4.mono hb3.size)
     go_wp2_with fail
     go_ret2
     exact⟨rfl,hb4⟩
    ·have d70:decide (dgV l (i+9) 2≥70)=false:=by simpa using h70
     rw [show ys1 (dgV l (i+9) 2)=dgV l (i+9) 2+2000 from if_neg h70]at cG
     clear h70
     generalize dgV l (i+9) 2=yy at *
     generalize dgV l (i+2) 2=dd at *
     generalize strB l=t at *
     go_wp2_with fail
     refine(cY _).mono ?_
     rintro e w3 ⟨rfl,rfl⟩
     go_wp2_with fail
     refine(cD _).mono ?_
     rintro e w3 ⟨rfl,rfl⟩
     go_wp2_with fail
     refine(cG _).mono ?_
     rintro e w3 ⟨rfl,hb3⟩
     have hb3:=hb.trans (hb3.mono hb.size)
     go_wp2_with fail
     refine(c4 _).mono ?_
     rintro e w4 ⟨rfl,hb4⟩
     have hb4:=hb3.trans (hb4.mono hb3.size)
     go_wp2_with fail
     go_ret2
     exact⟨rfl,hb4⟩
theorem rparse2 (l:List UInt8) (v:Value) (w:World) (hl:l.length≤100000) (h0:First l) (h1:scL wkT p1L l=none) (h2:Third l v) :
  Calls Tryz.prog 44 #[.string (strB l)] w fun e w'=>e=.returned v∧Below w.heap.size w w':=by
 have hA:=asks_any l (by omega)
 have hz:=strB_size l
 have hsz:(strB l).size≤100000:=by omega
 have hS:∀i,i<(strB l).size→∀n,gu1 l i=some n→fm1 n≠l:=fun i hi n hg hf=>by
  rw [hit1 l i n hg hf (by omega)]at h1
  cases h1
 clear hz h1
 rcases h0 with hg0 | ⟨n0,hg0,hf0⟩
 ·
  have c1:=fun W=>hA.dg 12 4 W (by omega) (by omega) (by omega)
  have c2:=fun W=>hA.dg 5 2 W (by omega) (by omega) (by omega)
  have c3:=fun W=>hA.gu (dgV l 12 4) (dgV l 5 2) 8 17 W (by omega) (by omega)
  rw [show guV l (dgV l 12 4) 8 (dgV l 5 2) 17=none from hg0]at c3
  have hge:decide ((-1:Int)≥0)=false:=by decide
  simp only [guI]at c3
  clear hg0
  generalize dgV l 12 4=a1 at *
  generalize dgV l 5 2=a2 at *
  go_enter Tryz.func44,Tryz.ntmps44
  go_wp2_with fail
  refine(c1 _).mono ?_
  rintro e w1 ⟨rfl,rfl⟩
  go_wp2_with fail
  refine(c2 _).mono ?_
  rintro e w1 ⟨rfl,rfl⟩
  go_wp2_with fail
  refine(c3 _).mono ?_
  rintro e w1 ⟨rfl,hb1⟩
  go_wp2_with fail
  clear hge
  clear c1 c2 c3
  go_loopw [5] (fun x wr=>∃i:Nat,x=.int .i64 i∧i≤12∧i≤(strB l).size∧Below w.heap.size w wr) (fun x _=>12-(intOf x).toNat)
  case atStart=>exact⟨0,rfl,by omega,by omega,hb1⟩
  case round =>
   clear hb1
   obtain⟨i,rfl,hi,hi2,hb⟩:=hrel
   by_cases hin:i<(strB l).size
   ·have d1:decide (i<(strB l).size)=true:=by simpa using hin
    by_cases h12:i<12
    ·have d2:decide ((i:Int)<12)=true:=by simp;omega
     cases hcm:(((strB l)[i].toNat:Int) != 44)
     ·have hS1:=hS i hin
      cases hg1:gu1 l i with
      | none =>
       clear hS hS1 h2
       have cY:=fun W=>hA.dg (i+9) 2 W (by omega) (by omega) (by omega)
       have cD:=fun W=>hA.dg (i+2) 2 W (by omega) (by omega) (by omega)
       have cG:=fun W=>hA.gu (ys1 (dgV l (i+9) 2)) (dgV l (i+2) 2) (i+5) (i+12) W (by omega) (by omega)
       rw [show((i+9:Nat):Int)=(i:Int)+9 by omega]at cY
       rw [show((i+2:Nat):Int)=(i:Int)+2 by omega]at cD
       rw [show((i+5:Nat):Int)=(i:Int)+5 by omega,show((i+12:Nat):Int)=(i:Int)+12 by omega]at cG
       obtain⟨r1,r2⟩:=dg_range l (i+9) 2
       rw [show((10:Int) ^ 2)=100 by decide]at r2
       rw [show guV l (ys1 (dgV l (i+9) 2)) (i+5) (dgV l (i+2) 2) (i+12)=none from hg1]at cG
       simp only [guI]at cG
       have hge:decide ((-1:Int)≥0)=false:=by decide
       clear hg1 hA
       by_cases h70:70≤dgV l (i+9) 2
       ·have d70:decide (dgV l (i+9) 2≥70)=true:=by simpa using h70
        rw [show ys1 (dgV l (i+9) 2)=dgV l (i+9) 2+1900 from if_pos h70]at cG
        clear h70
        generalize dgV l (i+9) 2=yy at *
        generalize dgV l (i+2) 2=dd at *
        generalize strB l=t at *
        go_wp2_with fail
        refine(cY _).mono ?_
        rintro e w3 ⟨rfl,rfl⟩
        go_wp2_with fail
        refine(cD _).mono ?_
        rintro e w3 ⟨rfl,rfl⟩
        go_wp2_with fail
        refine(cG _).mono ?_
        rintro e w3 ⟨rfl,hb3⟩
        have hb3:=hb.trans (hb3.mono hb.size)
        go_wp2_with fail
        go_roundw
        case rel=>exact⟨i+1,by go_num,by omega,by omega,hb3⟩
        case measure=>simp [intOf];omega
       ·have d70:decide (dgV l (i+9) 2≥70)=false:=by simpa using h70
        rw [show ys1 (dgV l (i+9) 2)=dgV l (i+9) 2+2000 from if_neg h70]at cG
        clear h70
        generalize dgV l (i+9) 2=yy at *
        generalize dgV l (i+2) 2=dd at *
        generalize strB l=t at *
        go_wp2_with fail
        refine(cY _).mono ?_
        rintro e w3 ⟨rfl,rfl⟩
        go_wp2_with fail
        refine(cD _).mono ?_
        rintro e w3 ⟨rfl,rfl⟩
        go_wp2_with fail
        refine(cG _).mono ?_
        rintro e w3 ⟨rfl,hb3⟩
        have hb3:=hb.trans (hb3.mono hb.size)
        go_wp2_with fail
        go_roundw
        case rel=>exact⟨i+1,by go_num,by omega,by omega,hb3⟩
        case measure=>simp [intOf];omega
      | some n1 =>
       have hf1:=hS1 n1 hg1
       clear hS hS1 h2
       have cY:=fun W=>hA.dg (i+9) 2 W (by omega) (by omega) (by omega)
       have cD:=fun W=>hA.dg (i+2) 2 W (by omega) (by omega) (by omega)
       have cG:=fun W=>hA.gu (ys1 (dgV l (i+9) 2)) (dgV l (i+2) 2) (i+5) (i+12) W (by omega) (by omega)
       rw [show((i+9:Nat):Int)=(i:Int)+9 by omega]at cY
       rw [show((i+2:Nat):Int)=(i:Int)+2 by omega]at cD
       rw [show((i+5:Nat):Int)=(i:Int)+5 by omega,show((i+12:Nat):Int)=(i:Int)+12 by omega]at cG
       obtain⟨r1,r2⟩:=dg_range l (i+9) 2
       rw [show((10:Int) ^ 2)=100 by decide]at r2
       rw [show guV l (ys1 (dgV l (i+9) 2)) (i+5) (dgV l (i+2) 2) (i+12)=some n1 from hg1]at cG
       simp only [guI]at cG
       have c4:=fun W=>rforms_n n1 (gu_lt hg1) W
       have hq:=cmp_ne hf1
       have hx:=run_ix1 (strB (fm0 n1)) (strB (fm1 n1)) (strB (fm2 n1))
       have hge:decide ((n1:Int)≥0)=true:=by simp
       clear hf1
       generalize strB (fm0 n1)=T0 at *
       generalize strB (fm1 n1)=T1 at *
       generalize strB (fm2 n1)=T2 at *
       clear hg1 hA
       by_cases h70:70≤dgV l (i+9) 2
       ·have d70:decide (dgV l (i+9) 2≥70)=true:=by simpa using h70
        rw [show ys1 (dgV l (i+9) 2)=dgV l (i+9) 2+1900 from if_pos h70]at cG
        clear h70
        generalize dgV l (i+9) 2=yy at *
        generalize dgV l (i+2) 2=dd at *
        generalize strB l=t at *
        go_wp2_with fail
        refine(cY _).mono ?_
        rintro e w3 ⟨rfl,rfl⟩
        go_wp2_with fail
        refine(cD _).mono ?_
        rintro e w3 ⟨rfl,rfl⟩
        go_wp2_with fail
        refine(cG _).mono ?_
        rintro e w3 ⟨rfl,hb3⟩
        have hb3:=hb.trans (hb3.mono hb.size)
        go_wp2_with fail
        refine(c4 _).mono ?_
        rintro e w4 ⟨rfl,hb4⟩
        have hb4:=hb3.trans (hb4.mono hb3.size)
        go_wp2_with fail
        go_roundw
        case rel=>exact⟨i+1,by go_num,by omega,by omega,hb4⟩
        case measure=>simp [intOf];omega
       ·have d70:decide (dgV l (i+9) 2≥70)=false:=by simpa using h70
        rw [show ys1 (dgV l (i+9) 2)=dgV l (i+9) 2+2000 from if_neg h70]at cG
        clear h70
        generalize dgV l (i+9) 2=yy at *
        generalize dgV l (i+2) 2=dd at *
        generalize strB l=t at *
        go_wp2_with fail
        refine(cY _).mono ?_
        rintro e w3 ⟨rfl,rfl⟩
        go_wp2_with fail
        refine(cD _).mono ?_
        rintro e w3 ⟨rfl,rfl⟩
        go_wp2_with fail
        refine(cG _).mono ?_
        rintro e w3 ⟨rfl,hb3⟩
        have hb3:=hb.trans (hb3.mono hb.size)
        go_wp2_with fail
        refine(c4 _).mono ?_
        rintro e w4 ⟨rfl,hb4⟩
        have hb4:=hb3.trans (hb4.mono hb3.size)
        go_wp2_with fail
        go_roundw
        case rel=>exact⟨i+1,by go_num,by omega,by omega,hb4⟩
        case measure=>simp [intOf];omega
     ·clear hA hS h2
      generalize strB l=t at *
      go_wp2_with fail
      go_roundw
      case rel=>exact⟨i+1,by go_num,by omega,by omega,hb⟩
      case measure=>simp [intOf];omega
    ·have d2:decide ((i:Int)<12)=false:=by simp;omega
     have e1:=fun W=>hA.dg 8 2 W (by omega) (by omega) (by omega)
     have e2:=fun W=>hA.dg 9 1 W (by omega) (by omega) (by omega)
     have e3:=fun W=>hA.dg 20 4 W (by omega) (by omega) (by omega)
     have e4:=fun W=>hA.gu (dgV l 20 4) (ds2 l) 4 11 W (by omega) (by omega)
     rcases h2 with ⟨hg2,rfl⟩ | ⟨n2,hg2,hf2,rfl⟩ | ⟨n2,hg2,hf2,rfl⟩
     ·
      rw [show guV l (dgV l 20 4) 4 (ds2 l) 11=none from hg2]at e4
      have hge:decide ((-1:Int)≥0)=false:=by decide
      simp only [guI]at e4
      clear hg2 hA hS
      by_cases h8:dgV l 8 2<0
      ·have d8:decide (dgV l 8 2<0)=true:=by simpa using h8
       rw [show ds2 l=dgV l 9 1 from if_pos h8]at e4
       clear h8
       generalize dgV l 8 2=a8 at *
       generalize dgV l 9 1=a9 at *
       generalize dgV l 20 4=a20 at *
       generalize strB l=t at *
       go_wp2_with fail
       refine(e1 _).mono ?_
       rintro e w3 ⟨rfl,rfl⟩
       go_wp2_with fail
       refine(e2 _).mono ?_
       rintro e w3 ⟨rfl,rfl⟩
       go_wp2_with fail
       refine(e3 _).mono ?_
       rintro e w3 ⟨rfl,rfl⟩
       go_wp2_with fail
       refine(e4 _).mono ?_
       rintro e w3 ⟨rfl,hb3⟩
       have hb3:=hb.trans (hb3.mono hb.size)
       go_wp2_with fail
       go_ret2
       exact⟨rfl,hb3⟩
      ·have d8:decide (dgV l 8 2<0)=false:=by simpa using h8
       rw [show ds2 l=dgV l 8 2 from if_neg h8]at e4
       clear h8
       generalize dgV l 8 2=a8 at *
       generalize dgV l 9 1=a9 at *
       generalize dgV l 20 4=a20 at *
       generalize strB l=t at *
       go_wp2_with fail
       refine(e1 _).mono ?_
       rintro e w3 ⟨rfl,rfl⟩
       go_wp2_with fail
       refine(e3 _).mono ?_
       rintro e w3 ⟨rfl,rfl⟩
       go_wp2_with fail
       refine(e4 _).mono ?_
       rintro e w3 ⟨rfl,hb3⟩
       have hb3:=hb.trans (hb3.mono hb.size)
       go_wp2_with fail
       go_ret2
       exact⟨rfl,hb3⟩
     ·
      rw [show guV l (dgV l 20 4) 4 (ds2 l) 11=some n2 from hg2]at e4
      have c4:=fun W=>rforms_n n2 (gu_lt hg2) W
      have hq:=cmp_ne hf2
      have hx:=run_ix2 (strB (fm0 n2)) (strB (fm1 n2)) (strB (fm2 n2))
      have hge:decide ((n2:Int)≥0)=true:=by simp
      clear hf2
      generalize strB (fm0 n2)=T0 at *
      generalize strB (fm1 n2)=T1 at *
      generalize strB (fm2 n2)=T2 at *
      simp only [guI]at e4
      clear hg2 hA hS
      by_cases h8:dgV l 8 2<0
      ·have d8:decide (dgV l 8 2<0)=true:=by simpa using h8
       rw [show ds2 l=dgV l 9 1 from if_pos h8]at e4
       clear h8
       generalize dgV l 8 2=a8 at *
       generalize dgV l 9 1=a9 at *
       generalize dgV l 20 4=a20 at *
       generalize strB l=t at *
       go_wp2_with fail
       refine(e1 _).mono ?_
       rintro e w3 ⟨rfl,rfl⟩
       go_wp2_with fail
       refine(e2 _).mono ?_
       rintro e w3 ⟨rfl,rfl⟩
       go_wp2_with fail
       refine(e3 _).mono ?_
       rintro e w3 ⟨rfl,rfl⟩
       go_wp2_with fail
       refine(e4 _).mono ?_
       rintro e w3 ⟨rfl,hb3⟩
       have hb3:=hb.trans (hb3.mono hb.size)
       go_wp2_with fail
       refine(c4 _).mono ?_
       rintro e w4 ⟨rfl,hb4⟩
       have hb4:=hb3.trans (hb4.mono hb3.size)
       go_wp2_with fail
       go_ret2
       exact⟨rfl,hb4⟩
      ·have d8:decide (dgV l 8 2<0)=false:=by simpa using h8
       rw [show ds2 l=dgV l 8 2 from if_neg h8]at e4
       clear h8
       generalize dgV l 8 2=a8 at *
       generalize dgV l 9 1=a9 at *
       generalize dgV l 20 4=a20 at *
       generalize strB l=t at *
       go_wp2_with fail
       refine(e1 _).mono ?_
       rintro e w3 ⟨rfl,rfl⟩
       go_wp2_with fail
       refine(e3 _).mono ?_
       rintro e w3 ⟨rfl,rfl⟩
       go_wp2_with fail
       refine(e4 _).mono ?_
       rintro e w3 ⟨rfl,hb3⟩
       have hb3:=hb.trans (hb3.mono hb.size)
       go_wp2_with fail
       refine(c4 _).mono ?_
       rintro e w4 ⟨rfl,hb4⟩
       have hb4:=hb3.trans (hb4.mono hb3.size)
       go_wp2_with fail
       go_ret2
       exact⟨rfl,hb4⟩
     ·
      rw [show guV l (dgV l 20 4) 4 (ds2 l) 11=some n2 from hg2]at e4
      have c4:=fun W=>rforms_n n2 (gu_lt hg2) W
      have hq:=cmp_eq hf2
      have hx:=run_ix2 (strB (fm0 n2)) (strB (fm1 n2)) (strB (fm2 n2))
      have hge:decide ((n2:Int)≥0)=true:=by simp
      clear hf2
      generalize strB (fm0 n2)=T0 at *
      generalize strB (fm1 n2)=T1 at *
      generalize strB (fm2 n2)=T2 at *
      simp only [guI]at e4
      clear hg2 hA hS
      by_cases h8:dgV l 8 2<0
      ·have d8:decide (dgV l 8 2<0)=true:=by simpa using h8
       rw [show ds2 l=dgV l 9 1 from if_pos h8]at e4
       clear h8
       generalize dgV l 8 2=a8 at *
       generalize dgV l 9 1=a9 at *
       generalize dgV l 20 4=a20 at *
       generalize strB l=t at *
       go_wp2_with fail
       refine(e1 _).mono ?_
       rintro e w3 ⟨rfl,rfl⟩
       go_wp2_with fail
       refine(e2 _).mono ?_
       rintro e w3 ⟨rfl,rfl⟩
       go_wp2_with fail
       refine(e3 _).mono ?_
       rintro e w3 ⟨rfl,rfl⟩
       go_wp2_with fail
       refine(e4 _).mono ?_
       rintro e w3 ⟨rfl,hb3⟩
       have hb3:=hb.trans (hb3.mono hb.size)
       go_wp2_with fail
       refine(c4 _).mono ?_
       rintro e w4 ⟨rfl,hb4⟩
       have hb4:=hb3.trans (hb4.mono hb3.size)
       go_wp2_with fail
       go_ret2
       exact⟨rfl,hb4⟩
      ·have d8:decide (dgV l 8 2<0)=false:=by simpa using h8
       rw [show ds2 l=dgV l 8 2 from if_neg h8]at e4
       clear h8
       generalize dgV l 8 2=a8 at *
       generalize dgV l 9 1=a9 at *
       generalize dgV l 20 4=a20 at *
       generalize strB l=t at *
       go_wp2_with fail
       refine(e1 _).mono ?_
       rintro e w3 ⟨rfl,rfl⟩
       go_wp2_with fail
       refine(e3 _).mono ?_
       rintro e w3 ⟨rfl,rfl⟩
       go_wp2_with fail
       refine(e4 _).mono ?_
       rintro e w3 ⟨rfl,hb3⟩
       have hb3:=hb.trans (hb3.mono hb.size)
       go_wp2_with fail
       refine(c4 _).mono ?_
       rintro e w4 ⟨rfl,hb4⟩
       have hb4:=hb3.trans (hb4.mono hb3.size)
       go_wp2_with fail
       go_ret2
       exact⟨rfl,hb4⟩
   ·have d1:decide (i<(strB l).size)=false:=by simpa using hin
    have e1:=fun W=>hA.dg 8 2 W (by omega) (by omega) (by omega)
    have e2:=fun W=>hA.dg 9 1 W (by omega) (by omega) (by omega)
    have e3:=fun W=>hA.dg 20 4 W (by omega) (by omega) (by omega)
    have e4:=fun W=>hA.gu (dgV l 20 4) (ds2 l) 4 11 W (by omega) (by omega)
    rcases h2 with ⟨hg2,rfl⟩ | ⟨n2,hg2,hf2,rfl⟩ | ⟨n2,hg2,hf2,rfl⟩
    ·
     rw [show guV l (dgV l 20 4) 4 (ds2 l) 11=none from hg2]at e4
     have hge:decide ((-1:Int)≥0)=false:=by decide
     simp only [guI]at e4
     clear hg2 hA hS
     by_cases h8:dgV l 8 2<0
     ·have d8:decide (dgV l 8 2<0)=true:=by simpa using h8
      rw [show ds2 l=dgV l 9 1 from if_pos h8]at e4
      clear h8
      generalize dgV l 8 2=a8 at *
      generalize dgV l 9 1=a9 at *
      generalize dgV l 20 4=a20 at *
      generalize strB l=t at *
      go_wp2_with fail
      refine(e1 _).mono ?_
      rintro e w3 ⟨rfl,rfl⟩
      go_wp2_with fail
      refine(e2 _).mono ?_
      rintro e w3 ⟨rfl,rfl⟩
      go_wp2_with fail
      refine(e3 _).mono ?_
      rintro e w3 ⟨rfl,rfl⟩
      go_wp2_with fail
      refine(e4 _).mono ?_
      rintro e w3 ⟨rfl,hb3⟩
      have hb3:=hb.trans (hb3.mono hb.size)
      go_wp2_with fail
      go_ret2
      exact⟨rfl,hb3⟩
     ·have d8:decide (dgV l 8 2<0)=false:=by simpa using h8
      rw [show ds2 l=dgV l 8 2 from if_neg h8]at e4
      clear h8
      generalize dgV l 8 2=a8 at *
      generalize dgV l 9 1=a9 at *
      generalize dgV l 20 4=a20 at *
      generalize strB l=t at *
      go_wp2_with fail
      refine(e1 _).mono ?_
      rintro e w3 ⟨rfl,rfl⟩
      go_wp2_with fail
      refine(e3 _).mono ?_
      rintro e w3 ⟨rfl,rfl⟩
      go_wp2_with fail
      refine(e4 _).mono ?_
      rintro e w3 ⟨rfl,hb3⟩
      have hb3:=hb.trans (hb3.mono hb.size)
      go_wp2_with fail
      go_ret2
      exact⟨rfl,hb3⟩
    ·
     rw [show guV l (dgV l 20 4) 4 (ds2 l) 11=some n2 from hg2]at e4
     have c4:=fun W=>rforms_n n2 (gu_lt hg2) W
     have hq:=cmp_ne hf2
     have hx:=run_ix2 (strB (fm0 n2)) (strB (fm1 n2)) (strB (fm2 n2))
     have hge:decide ((n2:Int)≥0)=true:=by simp
     clear hf2
     generalize strB (fm0 n2)=T0 at *
     generalize strB (fm1 n2)=T1 at *
     generalize strB (fm2 n2)=T2 at *
     simp only [guI]at e4
     clear hg2 hA hS
     by_cases h8:dgV l 8 2<0
     ·have d8:decide (dgV l 8 2<0)=true:=by simpa using h8
      rw [show ds2 l=dgV l 9 1 from if_pos h8]at e4
      clear h8
      generalize dgV l 8 2=a8 at *
      generalize dgV l 9 1=a9 at *
      generalize dgV l 20 4=a20 at *
      generalize strB l=t at *
      go_wp2_with fail
      refine(e1 _).mono ?_
      rintro e w3 ⟨rfl,rfl⟩
      go_wp2_with fail
      refine(e2 _).mono ?_
      rintro e w3 ⟨rfl,rfl⟩
      go_wp2_with fail
      refine(e3 _).mono ?_
      rintro e w3 ⟨rfl,rfl⟩
      go_wp2_with fail
      refine(e4 _).mono ?_
      rintro e w3 ⟨rfl,hb3⟩
      have hb3:=hb.trans (hb3.mono hb.size)
      go_wp2_with fail
      refine(c4 _).mono ?_
      rintro e w4 ⟨rfl,hb4⟩
      have hb4:=hb3.trans (hb4.mono hb3.size)
      go_wp2_with fail
      go_ret2
      exact⟨rfl,hb4⟩
     ·have d8:decide (dgV l 8 2<0)=false:=by simpa using h8
      rw [show ds2 l=dgV l 8 2 from if_neg h8]at e4
      clear h8
      generalize dgV l 8 2=a8 at *
      generalize dgV l 9 1=a9 at *
      generalize dgV l 20 4=a20 at *
      generalize strB l=t at *
      go_wp2_with fail
      refine(e1 _).mono ?_
      rintro e w3 ⟨rfl,rfl⟩
      go_wp2_with fail
      refine(e3 _).mono ?_
      rintro e w3 ⟨rfl,rfl⟩
      go_wp2_with fail
      refine(e4 _).mono ?_
      rintro e w3 ⟨rfl,hb3⟩
      have hb3:=hb.trans (hb3.mono hb.size)
      go_wp2_with fail
      refine(c4 _).mono ?_
      rintro e w4 ⟨rfl,hb4⟩
      have hb4:=hb3.trans (hb4.mono hb3.size)
      go_wp2_with fail
      go_ret2
      exact⟨rfl,hb4⟩
    ·
     rw [show guV l (dgV l 20 4) 4 (ds2 l) 11=some n2 from hg2]at e4
     have c4:=fun W=>rforms_n n2 (gu_lt hg2) W
     have hq:=cmp_eq hf2
     have hx:=run_ix2 (strB (fm0 n2)) (strB (fm1 n2)) (strB (fm2 n2))
     have hge:decide ((n2:Int)≥0)=true:=by simp
     clear hf2
     generalize strB (fm0 n2)=T0 at *
     generalize strB (fm1 n2)=T1 at *
     generalize strB (fm2 n2)=T2 at *
     simp only [guI]at e4
     clear hg2 hA hS
     by_cases h8:dgV l 8 2<0
     ·have d8:decide (dgV l 8 2<0)=true:=by simpa using h8
      rw [show ds2 l=dgV l 9 1 from if_pos h8]at e4
      clear h8
      generalize dgV l 8 2=a8 at *
      generalize dgV l 9 1=a9 at *
      generalize dgV l 20 4=a20 at *
      generalize strB l=t at *
      go_wp2_with fail
      refine(e1 _).mono ?_
      rintro e w3 ⟨rfl,rfl⟩
      go_wp2_with fail
      refine(e2 _).mono ?_
      rintro e w3 ⟨rfl,rfl⟩
      go_wp2_with fail
      refine(e3 _).mono ?_
      rintro e w3 ⟨rfl,rfl⟩
      go_wp2_with fail
      refine(e4 _).mono ?_
      rintro e w3 ⟨rfl,hb3⟩
      have hb3:=hb.trans (hb3.mono hb.size)
      go_wp2_with fail
      refine(c4 _).mono ?_
      rintro e w4 ⟨rfl,hb4⟩
      have hb4:=hb3.trans (hb4.mono hb3.size)
      go_wp2_with fail
      go_ret2
      exact⟨rfl,hb4⟩
     ·have d8:decide (dgV l 8 2<0)=false:=by simpa using h8
      rw [show ds2 l=dgV l 8 2 from if_neg h8]at e4
      clear h8
      generalize dgV l 8 2=a8 at *
      generalize dgV l 9 1=a9 at *
      generalize dgV l 20 4=a20 at *
      generalize strB l=t at *
      go_wp2_with fail
      refine(e1 _).mono ?_
      rintro e w3 ⟨rfl,rfl⟩
      go_wp2_with fail
      refine(e3 _).mono ?_
      rintro e w3 ⟨rfl,rfl⟩
      go_wp2_with fail
      refine(e4 _).mono ?_
      rintro e w3 ⟨rfl,hb3⟩
      have hb3:=hb.trans (hb3.mono hb.size)
      go_wp2_with fail
      refine(c4 _).mono ?_
      rintro e w4 ⟨rfl,hb4⟩
      have hb4:=hb3.trans (hb4.mono hb3.size)
      go_wp2_with fail
      go_ret2
      exact⟨rfl,hb4⟩
 ·
  have c1:=fun W=>hA.dg 12 4 W (by omega) (by omega) (by omega)
  have c2:=fun W=>hA.dg 5 2 W (by omega) (by omega) (by omega)
  have c3:=fun W=>hA.gu (dgV l 12 4) (dgV l 5 2) 8 17 W (by omega) (by omega)
  rw [show guV l (dgV l 12 4) 8 (dgV l 5 2) 17=some n0 from hg0]at c3
  have c4:=fun W=>rforms_n n0 (gu_lt hg0) W
  have hq:=cmp_ne hf0
  have hx:=run_ix0 (strB (fm0 n0)) (strB (fm1 n0)) (strB (fm2 n0))
  have hge:decide ((n0:Int)≥0)=true:=by simp
  simp only [guI]at c3
  clear hg0
  clear hf0
  generalize strB (fm0 n0)=T0 at *
  generalize strB (fm1 n0)=T1 at *
  generalize strB (fm2 n0)=T2 at *
  generalize dgV l 12 4=a1 at *
  generalize dgV l 5 2=a2 at *
  go_enter Tryz.func44,Tryz.ntmps44
  go_wp2_with fail
  refine(c1 _).mono ?_
  rintro e w1 ⟨rfl,rfl⟩
  go_wp2_with fail
  refine(c2 _).mono ?_
  rintro e w1 ⟨rfl,rfl⟩
  go_wp2_with fail
  refine(c3 _).mono ?_
  rintro e w1 ⟨rfl,hb1⟩
  go_wp2_with fail
  refine(c4 _).mono ?_
  rintro e w2 ⟨rfl,hb2⟩
  have hb1:=hb1.trans (hb2.mono hb1.size)
  clear hb2
  go_wp2_with fail
  clear c4 hq hx hge
  clear c1 c2 c3
  go_loopw [5] (fun x wr=>∃i:Nat,x=.int .i64 i∧i≤12∧i≤(strB l).size∧Below w.heap.size w wr) (fun x _=>12-(intOf x).toNat)
  case atStart=>exact⟨0,rfl,by omega,by omega,hb1⟩
  case round =>
   clear hb1
   obtain⟨i,rfl,hi,hi2,hb⟩:=hrel
   by_cases hin:i<(strB l).size
   ·have d1:decide (i<(strB l).size)=true:=by simpa using hin
    by_cases h12:i<12
    ·have d2:decide ((i:Int)<12)=true:=by simp;omega
     cases hcm:(((strB l)[i].toNat:Int) != 44)
     ·have hS1:=hS i hin
      cases hg1:gu1 l i with
      | none =>
       clear hS hS1 h2
       have cY:=fun W=>hA.dg (i+9) 2 W (by omega) (by omega) (by omega)
       have cD:=fun W=>hA.dg (i+2) 2 W (by omega) (by omega) (by omega)
       have cG:=fun W=>hA.gu (ys1 (dgV l (i+9) 2)) (dgV l (i+2) 2) (i+5) (i+12) W (by omega) (by omega)
       rw [show((i+9:Nat):Int)=(i:Int)+9 by omega]at cY
       rw [show((i+2:Nat):Int)=(i:Int)+2 by omega]at cD
       rw [show((i+5:Nat):Int)=(i:Int)+5 by omega,show((i+12:Nat):Int)=(i:Int)+12 by omega]at cG
       obtain⟨r1,r2⟩:=dg_range l (i+9) 2
       rw [show((10:Int) ^ 2)=100 by decide]at r2
       rw [show guV l (ys1 (dgV l (i+9) 2)) (i+5) (dgV l (i+2) 2) (i+12)=none from hg1]at cG
       simp only [guI]at cG
       have hge:decide ((-1:Int)≥0)=false:=by decide
       clear hg1 hA
       by_cases h70:70≤dgV l (i+9) 2
       ·have d70:decide (dgV l (i+9) 2≥70)=true:=by simpa using h70
        rw [show ys1 (dgV l (i+9) 2)=dgV l (i+9) 2+1900 from if_pos h70]at cG
        clear h70
        generalize dgV l (i+9) 2=yy at *
        generalize dgV l (i+2) 2=dd at *
        generalize strB l=t at *
        go_wp2_with fail
        refine(cY _).mono ?_
        rintro e w3 ⟨rfl,rfl⟩
        go_wp2_with fail
        refine(cD _).mono ?_
        rintro e w3 ⟨rfl,rfl⟩
        go_wp2_with fail
        refine(cG _).mono ?_
        rintro e w3 ⟨rfl,hb3⟩
        have hb3:=hb.trans (hb3.mono hb.size)
        go_wp2_with fail
        go_roundw
        case rel=>exact⟨i+1,by go_num,by omega,by omega,hb3⟩
        case measure=>simp [intOf];omega
       ·have d70:decide (dgV l (i+9) 2≥70)=false:=by simpa using h70
        rw [show ys1 (dgV l (i+9) 2)=dgV l (i+9) 2+2000 from if_neg h70]at cG
        clear h70
        generalize dgV l (i+9) 2=yy at *
        generalize dgV l (i+2) 2=dd at *
        generalize strB l=t at *
        go_wp2_with fail
        refine(cY _).mono ?_
        rintro e w3 ⟨rfl,rfl⟩
        go_wp2_with fail
        refine(cD _).mono ?_
        rintro e w3 ⟨rfl,rfl⟩
        go_wp2_with fail
        refine(cG _).mono ?_
        rintro e w3 ⟨rfl,hb3⟩
        have hb3:=hb.trans (hb3.mono hb.size)
        go_wp2_with fail
        go_roundw
        case rel=>exact⟨i+1,by go_num,by omega,by omega,hb3⟩
        case measure=>simp [intOf];omega
      | some n1 =>
       have hf1:=hS1 n1 hg1
       clear hS hS1 h2
       have cY:=fun W=>hA.dg (i+9) 2 W (by omega) (by omega) (by omega)
       have cD:=fun W=>hA.dg (i+2) 2 W (by omega) (by omega) (by omega)
       have cG:=fun W=>hA.gu (ys1 (dgV l (i+9) 2)) (dgV l (i+2) 2) (i+5) (i+12) W (by omega) (by omega)
       rw [show((i+9:Nat):Int)=(i:Int)+9 by omega]at cY
       rw [show((i+2:Nat):Int)=(i:Int)+2 by omega]at cD
       rw [show((i+5:Nat):Int)=(i:Int)+5 by omega,show((i+12:Nat):Int)=(i:Int)+12 by omega]at cG
       obtain⟨r1,r2⟩:=dg_range l (i+9) 2
       rw [show((10:Int) ^ 2)=100 by decide]at r2
       rw [show guV l (ys1 (dgV l (i+9) 2)) (i+5) (dgV l (i+2) 2) (i+12)=some n1 from hg1]at cG
       simp only [guI]at cG
       have c4:=fun W=>rforms_n n1 (gu_lt hg1) W
       have hq:=cmp_ne hf1
       have hx:=run_ix1 (strB (fm0 n1)) (strB (fm1 n1)) (strB (fm2 n1))
       have hge:decide ((n1:Int)≥0)=true:=by simp
       clear hf1
       generalize strB (fm0 n1)=T0 at *
       generalize strB (fm1 n1)=T1 at *
       generalize strB (fm2 n1)=T2 at *
       clear hg1 hA
       by_cases h70:70≤dgV l (i+9) 2
       ·have d70:decide (dgV l (i+9) 2≥70)=true:=by simpa using h70
        rw [show ys1 (dgV l (i+9) 2)=dgV l (i+9) 2+1900 from if_pos h70]at cG
        clear h70
        generalize dgV l (i+9) 2=yy at *
        generalize dgV l (i+2) 2=dd at *
        generalize strB l=t at *
        go_wp2_with fail
        refine(cY _).mono ?_
        rintro e w3 ⟨rfl,rfl⟩
        go_wp2_with fail
        refine(cD _).mono ?_
        rintro e w3 ⟨rfl,rfl⟩
        go_wp2_with fail
        refine(cG _).mono ?_
        rintro e w3 ⟨rfl,hb3⟩
        have hb3:=hb.trans (hb3.mono hb.size)
        go_wp2_with fail
        refine(c4 _).mono ?_
        rintro e w4 ⟨rfl,hb4⟩
        have hb4:=hb3.trans (hb4.mono hb3.size)
        go_wp2_with fail
        go_roundw
        case rel=>exact⟨i+1,by go_num,by omega,by omega,hb4⟩
        case measure=>simp [intOf];omega
       ·have d70:decide (dgV l (i+9) 2≥70)=false:=by simpa using h70
        rw [show ys1 (dgV l (i+9) 2)=dgV l (i+9) 2+2000 from if_neg h70]at cG
        clear h70
        generalize dgV l (i+9) 2=yy at *
        generalize dgV l (i+2) 2=dd at *
        generalize strB l=t at *
        go_wp2_with fail
        refine(cY _).mono ?_
        rintro e w3 ⟨rfl,rfl⟩
        go_wp2_with fail
        refine(cD _).mono ?_
        rintro e w3 ⟨rfl,rfl⟩
        go_wp2_with fail
        refine(cG _).mono ?_
        rintro e w3 ⟨rfl,hb3⟩
        have hb3:=hb.trans (hb3.mono hb.size)
        go_wp2_with fail
        refine(c4 _).mono ?_
        rintro e w4 ⟨rfl,hb4⟩
        have hb4:=hb3.trans (hb4.mono hb3.size)
        go_wp2_with fail
        go_roundw
        case rel=>exact⟨i+1,by go_num,by omega,by omega,hb4⟩
        case measure=>simp [intOf];omega
     ·clear hA hS h2
      generalize strB l=t at *
      go_wp2_with fail
      go_roundw
      case rel=>exact⟨i+1,by go_num,by omega,by omega,hb⟩
      case measure=>simp [intOf];omega
    ·have d2:decide ((i:Int)<12)=false:=by simp;omega
     have e1:=fun W=>hA.dg 8 2 W (by omega) (by omega) (by omega)
     have e2:=fun W=>hA.dg 9 1 W (by omega) (by omega) (by omega)
     have e3:=fun W=>hA.dg 20 4 W (by omega) (by omega) (by omega)
     have e4:=fun W=>hA.gu (dgV l 20 4) (ds2 l) 4 11 W (by omega) (by omega)
     rcases h2 with ⟨hg2,rfl⟩ | ⟨n2,hg2,hf2,rfl⟩ | ⟨n2,hg2,hf2,rfl⟩
     ·
      rw [show guV l (dgV l 20 4) 4 (ds2 l) 11=none from hg2]at e4
      have hge:decide ((-1:Int)≥0)=false:=by decide
      simp only [guI]at e4
      clear hg2 hA hS
      by_cases h8:dgV l 8 2<0
      ·have d8:decide (dgV l 8 2<0)=true:=by simpa using h8
       rw [show ds2 l=dgV l 9 1 from if_pos h8]at e4
       clear h8
       generalize dgV l 8 2=a8 at *
       generalize dgV l 9 1=a9 at *
       generalize dgV l 20 4=a20 at *
       generalize strB l=t at *
       go_wp2_with fail
       refine(e1 _).mono ?_
       rintro e w3 ⟨rfl,rfl⟩
       go_wp2_with fail
       refine(e2 _).mono ?_
       rintro e w3 ⟨rfl,rfl⟩
       go_wp2_with fail
       refine(e3 _).mono ?_
       rintro e w3 ⟨rfl,rfl⟩
       go_wp2_with fail
       refine(e4 _).mono ?_
       rintro e w3 ⟨rfl,hb3⟩
       have hb3:=hb.trans (hb3.mono hb.size)
       go_wp2_with fail
       go_ret2
       exact⟨rfl,hb3⟩
      ·have d8:decide (dgV l 8 2<0)=false:=by simpa using h8
       rw [show ds2 l=dgV l 8 2 from if_neg h8]at e4
       clear h8
       generalize dgV l 8 2=a8 at *
       generalize dgV l 9 1=a9 at *
       generalize dgV l 20 4=a20 at *
       generalize strB l=t at *
       go_wp2_with fail
       refine(e1 _).mono ?_
       rintro e w3 ⟨rfl,rfl⟩
       go_wp2_with fail
       refine(e3 _).mono ?_
       rintro e w3 ⟨rfl,rfl⟩
       go_wp2_with fail
       refine(e4 _).mono ?_
       rintro e w3 ⟨rfl,hb3⟩
       have hb3:=hb.trans (hb3.mono hb.size)
       go_wp2_with fail
       go_ret2
       exact⟨rfl,hb3⟩
     ·
      rw [show guV l (dgV l 20 4) 4 (ds2 l) 11=some n2 from hg2]at e4
      have c4:=fun W=>rforms_n n2 (gu_lt hg2) W
      have hq:=cmp_ne hf2
      have hx:=run_ix2 (strB (fm0 n2)) (strB (fm1 n2)) (strB (fm2 n2))
      have hge:decide ((n2:Int)≥0)=true:=by simp
      clear hf2
      generalize strB (fm0 n2)=T0 at *
      generalize strB (fm1 n2)=T1 at *
      generalize strB (fm2 n2)=T2 at *
      simp only [guI]at e4
      clear hg2 hA hS
      by_cases h8:dgV l 8 2<0
      ·have d8:decide (dgV l 8 2<0)=true:=by simpa using h8
       rw [show ds2 l=dgV l 9 1 from if_pos h8]at e4
       clear h8
       generalize dgV l 8 2=a8 at *
       generalize dgV l 9 1=a9 at *
       generalize dgV l 20 4=a20 at *
       generalize strB l=t at *
       go_wp2_with fail
       refine(e1 _).mono ?_
       rintro e w3 ⟨rfl,rfl⟩
       go_wp2_with fail
       refine(e2 _).mono ?_
       rintro e w3 ⟨rfl,rfl⟩
       go_wp2_with fail
       refine(e3 _).mono ?_
       rintro e w3 ⟨rfl,rfl⟩
       go_wp2_with fail
       refine(e4 _).mono ?_
       rintro e w3 ⟨rfl,hb3⟩
       have hb3:=hb.trans (hb3.mono hb.size)
       go_wp2_with fail
       refine(c4 _).mono ?_
       rintro e w4 ⟨rfl,hb4⟩
       have hb4:=hb3.trans (hb4.mono hb3.size)
       go_wp2_with fail
       go_ret2
       exact⟨rfl,hb4⟩
      ·have d8:decide (dgV l 8 2<0)=false:=by simpa using h8
       rw [show ds2 l=dgV l 8 2 from if_neg h8]at e4
       clear h8
       generalize dgV l 8 2=a8 at *
       generalize dgV l 9 1=a9 at *
       generalize dgV l 20 4=a20 at *
       generalize strB l=t at *
       go_wp2_with fail
       refine(e1 _).mono ?_
       rintro e w3 ⟨rfl,rfl⟩
       go_wp2_with fail
       refine(e3 _).mono ?_
       rintro e w3 ⟨rfl,rfl⟩
       go_wp2_with fail
       refine(e4 _).mono ?_
       rintro e w3 ⟨rfl,hb3⟩
       have hb3:=hb.trans (hb3.mono hb.size)
       go_wp2_with fail
       refine(c4 _).mono ?_
       rintro e w4 ⟨rfl,hb4⟩
       have hb4:=hb3.trans (hb4.mono hb3.size)
       go_wp2_with fail
       go_ret2
       exact⟨rfl,hb4⟩
     ·
      rw [show guV l (dgV l 20 4) 4 (ds2 l) 11=some n2 from hg2]at e4
      have c4:=fun W=>rforms_n n2 (gu_lt hg2) W
      have hq:=cmp_eq hf2
      have hx:=run_ix2 (strB (fm0 n2)) (strB (fm1 n2)) (strB (fm2 n2))
      have hge:decide ((n2:Int)≥0)=true:=by simp
      clear hf2
      generalize strB (fm0 n2)=T0 at *
      generalize strB (fm1 n2)=T1 at *
      generalize strB (fm2 n2)=T2 at *
      simp only [guI]at e4
      clear hg2 hA hS
      by_cases h8:dgV l 8 2<0
      ·have d8:decide (dgV l 8 2<0)=true:=by simpa using h8
       rw [show ds2 l=dgV l 9 1 from if_pos h8]at e4
       clear h8
       generalize dgV l 8 2=a8 at *
       generalize dgV l 9 1=a9 at *
       generalize dgV l 20 4=a20 at *
       generalize strB l=t at *
       go_wp2_with fail
       refine(e1 _).mono ?_
       rintro e w3 ⟨rfl,rfl⟩
       go_wp2_with fail
       refine(e2 _).mono ?_
       rintro e w3 ⟨rfl,rfl⟩
       go_wp2_with fail
       refine(e3 _).mono ?_
       rintro e w3 ⟨rfl,rfl⟩
       go_wp2_with fail
       refine(e4 _).mono ?_
       rintro e w3 ⟨rfl,hb3⟩
       have hb3:=hb.trans (hb3.mono hb.size)
       go_wp2_with fail
       refine(c4 _).mono ?_
       rintro e w4 ⟨rfl,hb4⟩
       have hb4:=hb3.trans (hb4.mono hb3.size)
       go_wp2_with fail
       go_ret2
       exact⟨rfl,hb4⟩
      ·have d8:decide (dgV l 8 2<0)=false:=by simpa using h8
       rw [show ds2 l=dgV l 8 2 from if_neg h8]at e4
       clear h8
       generalize dgV l 8 2=a8 at *
       generalize dgV l 9 1=a9 at *
       generalize dgV l 20 4=a20 at *
       generalize strB l=t at *
       go_wp2_with fail
       refine(e1 _).mono ?_
       rintro e w3 ⟨rfl,rfl⟩
       go_wp2_with fail
       refine(e3 _).mono ?_
       rintro e w3 ⟨rfl,rfl⟩
       go_wp2_with fail
       refine(e4 _).mono ?_
       rintro e w3 ⟨rfl,hb3⟩
       have hb3:=hb.trans (hb3.mono hb.size)
       go_wp2_with fail
       refine(c4 _).mono ?_
       rintro e w4 ⟨rfl,hb4⟩
       have hb4:=hb3.trans (hb4.mono hb3.size)
       go_wp2_with fail
       go_ret2
       exact⟨rfl,hb4⟩
   ·have d1:decide (i<(strB l).size)=false:=by simpa using hin
    have e1:=fun W=>hA.dg 8 2 W (by omega) (by omega) (by omega)
    have e2:=fun W=>hA.dg 9 1 W (by omega) (by omega) (by omega)
    have e3:=fun W=>hA.dg 20 4 W (by omega) (by omega) (by omega)
    have e4:=fun W=>hA.gu (dgV l 20 4) (ds2 l) 4 11 W (by omega) (by omega)
    rcases h2 with ⟨hg2,rfl⟩ | ⟨n2,hg2,hf2,rfl⟩ | ⟨n2,hg2,hf2,rfl⟩
    ·
     rw [show guV l (dgV l 20 4) 4 (ds2 l) 11=none from hg2]at e4
     have hge:decide ((-1:Int)≥0)=false:=by decide
     simp only [guI]at e4
     clear hg2 hA hS
     by_cases h8:dgV l 8 2<0
     ·have d8:decide (dgV l 8 2<0)=true:=by simpa using h8
      rw [show ds2 l=dgV l 9 1 from if_pos h8]at e4
      clear h8
      generalize dgV l 8 2=a8 at *
      generalize dgV l 9 1=a9 at *
      generalize dgV l 20 4=a20 at *
      generalize strB l=t at *
      go_wp2_with fail
      refine(e1 _).mono ?_
      rintro e w3 ⟨rfl,rfl⟩
      go_wp2_with fail
      refine(e2 _).mono ?_
      rintro e w3 ⟨rfl,rfl⟩
      go_wp2_with fail
      refine(e3 _).mono ?_
      rintro e w3 ⟨rfl,rfl⟩
      go_wp2_with fail
      refine(e4 _).mono ?_
      rintro e w3 ⟨rfl,hb3⟩
      have hb3:=hb.trans (hb3.mono hb.size)
      go_wp2_with fail
      go_ret2
      exact⟨rfl,hb3⟩
     ·have d8:decide (dgV l 8 2<0)=false:=by simpa using h8
      rw [show ds2 l=dgV l 8 2 from if_neg h8]at e4
      clear h8
      generalize dgV l 8 2=a8 at *
      generalize dgV l 9 1=a9 at *
      generalize dgV l 20 4=a20 at *
      generalize strB l=t at *
      go_wp2_with fail
      refine(e1 _).mono ?_
      rintro e w3 ⟨rfl,rfl⟩
      go_wp2_with fail
      refine(e3 _).mono ?_
      rintro e w3 ⟨rfl,rfl⟩
      go_wp2_with fail
      refine(e4 _).mono ?_
      rintro e w3 ⟨rfl,hb3⟩
      have hb3:=hb.trans (hb3.mono hb.size)
      go_wp2_with fail
      go_ret2
      exact⟨rfl,hb3⟩
    ·
     rw [show guV l (dgV l 20 4) 4 (ds2 l) 11=some n2 from hg2]at e4
     have c4:=fun W=>rforms_n n2 (gu_lt hg2) W
     have hq:=cmp_ne hf2
     have hx:=run_ix2 (strB (fm0 n2)) (strB (fm1 n2)) (strB (fm2 n2))
     have hge:decide ((n2:Int)≥0)=true:=by simp
     clear hf2
     generalize strB (fm0 n2)=T0 at *
     generalize strB (fm1 n2)=T1 at *
     generalize strB (fm2 n2)=T2 at *
     simp only [guI]at e4
     clear hg2 hA hS
     by_cases h8:dgV l 8 2<0
     ·have d8:decide (dgV l 8 2<0)=true:=by simpa using h8
      rw [show ds2 l=dgV l 9 1 from if_pos h8]at e4
      clear h8
      generalize dgV l 8 2=a8 at *
      generalize dgV l 9 1=a9 at *
      generalize dgV l 20 4=a20 at *
      generalize strB l=t at *
      go_wp2_with fail
      refine(e1 _).mono ?_
      rintro e w3 ⟨rfl,rfl⟩
      go_wp2_with fail
      refine(e2 _).mono ?_
      rintro e w3 ⟨rfl,rfl⟩
      go_wp2_with fail
      refine(e3 _).mono ?_
      rintro e w3 ⟨rfl,rfl⟩
      go_wp2_with fail
      refine(e4 _).mono ?_
      rintro e w3 ⟨rfl,hb3⟩
      have hb3:=hb.trans (hb3.mono hb.size)
      go_wp2_with fail
      refine(c4 _).mono ?_
      rintro e w4 ⟨rfl,hb4⟩
      have hb4:=hb3.trans (hb4.mono hb3.size)
      go_wp2_with fail
      go_ret2
      exact⟨rfl,hb4⟩
     ·have d8:decide (dgV l 8 2<0)=false:=by simpa using h8
      rw [show ds2 l=dgV l 8 2 from if_neg h8]at e4
      clear h8
      generalize dgV l 8 2=a8 at *
      generalize dgV l 9 1=a9 at *
      generalize dgV l 20 4=a20 at *
      generalize strB l=t at *
      go_wp2_with fail
      refine(e1 _).mono ?_
      rintro e w3 ⟨rfl,rfl⟩
      go_wp2_with fail
      refine(e3 _).mono ?_
      rintro e w3 ⟨rfl,rfl⟩
      go_wp2_with fail
      refine(e4 _).mono ?_
      rintro e w3 ⟨rfl,hb3⟩
      have hb3:=hb.trans (hb3.mono hb.size)
      go_wp2_with fail
      refine(c4 _).mono ?_
      rintro e w4 ⟨rfl,hb4⟩
      have hb4:=hb3.trans (hb4.mono hb3.size)
      go_wp2_with fail
      go_ret2
      exact⟨rfl,hb4⟩
    ·
     rw [show guV l (dgV l 20 4) 4 (ds2 l) 11=some n2 from hg2]at e4
     have c4:=fun W=>rforms_n n2 (gu_lt hg2) W
     have hq:=cmp_eq hf2
     have hx:=run_ix2 (strB (fm0 n2)) (strB (fm1 n2)) (strB (fm2 n2))
     have hge:decide ((n2:Int)≥0)=true:=by simp
     clear hf2
     generalize strB (fm0 n2)=T0 at *
     generalize strB (fm1 n2)=T1 at *
     generalize strB (fm2 n2)=T2 at *
     simp only [guI]at e4
     clear hg2 hA hS
     by_cases h8:dgV l 8 2<0
     ·have d8:decide (dgV l 8 2<0)=true:=by simpa using h8
      rw [show ds2 l=dgV l 9 1 from if_pos h8]at e4
      clear h8
      generalize dgV l 8 2=a8 at *
      generalize dgV l 9 1=a9 at *
      generalize dgV l 20 4=a20 at *
      generalize strB l=t at *
      go_wp2_with fail
      refine(e1 _).mono ?_
      rintro e w3 ⟨rfl,rfl⟩
      go_wp2_with fail
      refine(e2 _).mono ?_
      rintro e w3 ⟨rfl,rfl⟩
      go_wp2_with fail
      refine(e3 _).mono ?_
      rintro e w3 ⟨rfl,rfl⟩
      go_wp2_with fail
      refine(e4 _).mono ?_
      rintro e w3 ⟨rfl,hb3⟩
      have hb3:=hb.trans (hb3.mono hb.size)
      go_wp2_with fail
      refine(c4 _).mono ?_
      rintro e w4 ⟨rfl,hb4⟩
      have hb4:=hb3.trans (hb4.mono hb3.size)
      go_wp2_with fail
      go_ret2
      exact⟨rfl,hb4⟩
     ·have d8:decide (dgV l 8 2<0)=false:=by simpa using h8
      rw [show ds2 l=dgV l 8 2 from if_neg h8]at e4
      clear h8
      generalize dgV l 8 2=a8 at *
      generalize dgV l 9 1=a9 at *
      generalize dgV l 20 4=a20 at *
      generalize strB l=t at *
      go_wp2_with fail
      refine(e1 _).mono ?_
      rintro e w3 ⟨rfl,rfl⟩
      go_wp2_with fail
      refine(e3 _).mono ?_
      rintro e w3 ⟨rfl,rfl⟩
      go_wp2_with fail
      refine(e4 _).mono ?_
      rintro e w3 ⟨rfl,hb3⟩
      have hb3:=hb.trans (hb3.mono hb.size)
      go_wp2_with fail
      refine(c4 _).mono ?_
      rintro e w4 ⟨rfl,hb4⟩
      have hb4:=hb3.trans (hb4.mono hb3.size)
      go_wp2_with fail
      go_ret2
      exact⟨rfl,hb4⟩
theorem rparse_any_RdM (l:List UInt8) (w:World) (hl:l.length≤100000) :
  Calls Tryz.prog 44 #[.string (strB l)] w fun e w'=>e=.returned (secV (parL_DatP l))∧Below w.heap.size w w':=by
 unfold parL_DatP
 cases h0:scL wsT p0L l with
 | some n=>exact rparse0 l n w hl h0
 | none =>
  have hF:=first_of h0
  cases h1:scL wkT p1L l with
  | some n =>
   obtain⟨i,hi,hc,hb,hg,hf⟩:=hit1_of h1
   exact rparse1 l n i w hl hF hi hc hb hg hf
  | none=>exact rparse2 l _ w hl hF h1 (third_of l)
end Go.Proofs.YtfaedmbfabfmeaaGreatDoor
