/- Package policy: a status, a name, what is told until a date, what is guessed. · What may be stored, its tests in the order of the package. · Package policy: whether a lifetime may be guessed. · The document's own Lifetime (sculleryref14). -/
import Derived.Test.YtfaedmbfabfmeaaGreatDoorYMBasP
import Derived.Test.YtfaedmbfabfmeaaGreatDoorYAgO
import Derived.Test.YtfaedmbfabfmeaaGreatDoorYMHdU
import Derived.Test.YtfaedmbfabfmeaaGreatDoorYMMsP
import Derived.Test.YtfaedmbfabfmeaaGreatDoorYMChsP
import Derived.Test.YtfaedmbfabfmeaaGreatDoorYMPoA
import Derived.Test.YtfaedmbfabfmeaaGreatDoorYMMoB
import Derived.Test.YtfaedmbfabfmeaaGreatDoorYMLgH
import Derived.Test.YtfaedmbfabfmeaaGreatDoorYSrC
set_option linter.unusedSimpArgs false
set_option maxRecDepth 100000
set_option maxHeartbeats 16000000
namespace Go.Proofs.YtfaedmbfabfmeaaGreatDoor
open Go.RowKit Go.Lib Go.Shelf
theorem pcache_any (n:Int) (w:World) :
  Calls Tryz.prog 32 #[.int .i64 n] w fun e w'=>e=.returned (.bool (usual_RuP n))∧w=w':=by
 obtain⟨J,hJ⟩:∃J,usual_RuP n=J:=⟨_,rfl⟩
 rw [hJ]
 unfold usual_RuP at hJ
 by_cases h0:n=200
 ·have e0:(n==200)=true:=by simpa using h0
  have HV:Hid (J=true):=zH (hJ.symm.trans (decide_eq_true (by simp [h0])))
  clear hJ
  go_enter Tryz.func32,Tryz.ntmps32
  go_wp2_with fail
  go_ret
  exact⟨by rw [HV.out]<;>rfl,rfl⟩
 have e0:(n==200)=false:=by simpa using h0
 by_cases h1:n=203
 ·have e1:(n==203)=true:=by simpa using h1
  have HV:Hid (J=true):=zH (hJ.symm.trans (decide_eq_true (by simp [h1])))
  clear hJ
  go_enter Tryz.func32,Tryz.ntmps32
  go_wp2_with fail
  go_ret
  exact⟨by rw [HV.out]<;>rfl,rfl⟩
 have e1:(n==203)=false:=by simpa using h1
 by_cases h2:n=204
 ·have e2:(n==204)=true:=by simpa using h2
  have HV:Hid (J=true):=zH (hJ.symm.trans (decide_eq_true (by simp [h2])))
  clear hJ
  go_enter Tryz.func32,Tryz.ntmps32
  go_wp2_with fail
  go_ret
  exact⟨by rw [HV.out]<;>rfl,rfl⟩
 have e2:(n==204)=false:=by simpa using h2
 by_cases h3:n=300
 ·have e3:(n==300)=true:=by simpa using h3
  have HV:Hid (J=true):=zH (hJ.symm.trans (decide_eq_true (by simp [h3])))
  clear hJ
  go_enter Tryz.func32,Tryz.ntmps32
  go_wp2_with fail
  go_ret
  exact⟨by rw [HV.out]<;>rfl,rfl⟩
 have e3:(n==300)=false:=by simpa using h3
 by_cases h4:n=301
 ·have e4:(n==301)=true:=by simpa using h4
  have HV:Hid (J=true):=zH (hJ.symm.trans (decide_eq_true (by simp [h4])))
  clear hJ
  go_enter Tryz.func32,Tryz.ntmps32
  go_wp2_with fail
  go_ret
  exact⟨by rw [HV.out]<;>rfl,rfl⟩
 have e4:(n==301)=false:=by simpa using h4
 by_cases h5:n=308
 ·have e5:(n==308)=true:=by simpa using h5
  have HV:Hid (J=true):=zH (hJ.symm.trans (decide_eq_true (by simp [h5])))
  clear hJ
  go_enter Tryz.func32,Tryz.ntmps32
  go_wp2_with fail
  go_ret
  exact⟨by rw [HV.out]<;>rfl,rfl⟩
 have e5:(n==308)=false:=by simpa using h5
 by_cases h6:n=404
 ·have e6:(n==404)=true:=by simpa using h6
  have HV:Hid (J=true):=zH (hJ.symm.trans (decide_eq_true (by simp [h6])))
  clear hJ
  go_enter Tryz.func32,Tryz.ntmps32
  go_wp2_with fail
  go_ret
  exact⟨by rw [HV.out]<;>rfl,rfl⟩
 have e6:(n==404)=false:=by simpa using h6
 by_cases h7:n=405
 ·have e7:(n==405)=true:=by simpa using h7
  have HV:Hid (J=true):=zH (hJ.symm.trans (decide_eq_true (by simp [h7])))
  clear hJ
  go_enter Tryz.func32,Tryz.ntmps32
  go_wp2_with fail
  go_ret
  exact⟨by rw [HV.out]<;>rfl,rfl⟩
 have e7:(n==405)=false:=by simpa using h7
 by_cases h8:n=410
 ·have e8:(n==410)=true:=by simpa using h8
  have HV:Hid (J=true):=zH (hJ.symm.trans (decide_eq_true (by simp [h8])))
  clear hJ
  go_enter Tryz.func32,Tryz.ntmps32
  go_wp2_with fail
  go_ret
  exact⟨by rw [HV.out]<;>rfl,rfl⟩
 have e8:(n==410)=false:=by simpa using h8
 by_cases h9:n=414
 ·have e9:(n==414)=true:=by simpa using h9
  have HV:Hid (J=true):=zH (hJ.symm.trans (decide_eq_true (by simp [h9])))
  clear hJ
  go_enter Tryz.func32,Tryz.ntmps32
  go_wp2_with fail
  go_ret
  exact⟨by rw [HV.out]<;>rfl,rfl⟩
 have e9:(n==414)=false:=by simpa using h9
 by_cases h10:n=501
 ·have e10:(n==501)=true:=by simpa using h10
  have HV:Hid (J=true):=zH (hJ.symm.trans (decide_eq_true (by simp [h10])))
  clear hJ
  go_enter Tryz.func32,Tryz.ntmps32
  go_wp2_with fail
  go_ret
  exact⟨by rw [HV.out]<;>rfl,rfl⟩
 have e10:(n==501)=false:=by simpa using h10
 have HV:Hid (J=false):=zH (hJ.symm.trans (decide_eq_false (by simp [h0,h1,h2,h3,h4,h5,h6,h7,h8,h9,h10])))
 clear hJ
 go_enter Tryz.func32,Tryz.ntmps32
 go_wp2_with fail
 go_ret
 exact⟨by rw [HV.out]<;>rfl,rfl⟩
theorem pcompl_any (n:Int) (w:World) :
  Calls Tryz.prog 23 #[.int .i64 n] w fun e w'=>e=.returned (.bool (decide (200≤n)&&(!decide (n=206)&&!decide (n=304))))∧w=w':=by
 obtain⟨J,hJ⟩:∃J,(decide (200≤n)&&(!decide (n=206)&&!decide (n=304)))=J:=⟨_,rfl⟩
 rw [hJ]
 by_cases h1:200≤n
 ·have d1:decide (200≤n)=true:=decide_eq_true h1
  by_cases h2:n=206
  ·have e_h2:(n==206)=true:=by simpa using h2
   have HV:Hid (J=false):=zH (hJ.symm.trans (by simp [h1,h2]))
   clear hJ
   go_enter Tryz.func23,Tryz.ntmps23
   go_wp2_with fail
   go_ret
   exact⟨by rw [HV.out];first | rfl | simp [*],rfl⟩
  ·have e_h2:(n==206)=false:=by simpa using h2
   by_cases h3:n=304
   ·have e_h3:(n==304)=true:=by simpa using h3
    have HV:Hid (J=false):=zH (hJ.symm.trans (by simp [h1,h2,h3]))
    clear hJ
    go_enter Tryz.func23,Tryz.ntmps23
    go_wp2_with fail
    go_ret
    exact⟨by rw [HV.out];first | rfl | simp [*],rfl⟩
   ·have e_h3:(n==304)=false:=by simpa using h3
    have HV:Hid (J=true):=zH (hJ.symm.trans (by simp [h1,h2,h3]))
    clear hJ
    go_enter Tryz.func23,Tryz.ntmps23
    go_wp2_with fail
    go_ret
    exact⟨by rw [HV.out];first | rfl | simp [*],rfl⟩
 ·have d1:decide (200≤n)=false:=decide_eq_false h1
  have HV:Hid (J=false):=zH (hJ.symm.trans (by simp [h1]))
  clear hJ
  go_enter Tryz.func23,Tryz.ntmps23
  go_wp2_with fail
  go_ret
  exact⟨by rw [HV.out];first | rfl | simp [*],rfl⟩
theorem phas_any (lo:Nat) (v:Value) (fs:List Fld) (name:List UInt8) (w:World) (h:Flds lo w v fs) (hk:FldsOk fs) :
  Calls Tryz.prog 27 #[v,.string (strB name)] w fun e w'=>e=.returned (.bool (isN fs name))∧Below w.heap.size w w':=by
 have c:=hget_any lo v fs name w h hk
 have e1:getV fs name=.tuple #[.string (strB (joinH (allH fs name))),.bool (isN fs name)]:=rfl
 rw [e1]at c
 clear e1
 obtain⟨ao,cap,rfl,_⟩:=id h
 clear h hk
 generalize isN fs name=J at *
 generalize strB (joinH (allH fs name))=J1 at *
 generalize strB name=nm at *
 go_enter Tryz.func27,Tryz.ntmps27
 go_wp2_with fail
 refine c.mono ?_
 rintro e w1 ⟨rfl,hb⟩
 go_wp2_with fail
 go_ret
 exact⟨rfl,hb⟩
def untP (o:Option Int) (made:Int):Int:=match o with | none=>0 | some n=>sumA [n-made]
def gueP (o:Option Int) (made:Int):Int:=match o with | none=>0 | some n=>min (sumA [max (made-n) 0 / 10]) 86400
theorem sum_two (n made:Int) (h0:0≤n) (h1:n<253402300800) (h2:0≤made) (h3:made≤1099511627776):sumA [n,-made]=sumA [n-made]:=by
 simp only [sumA,suA,ctA]
 omega
theorem sum_quo (n made:Int) (h0:0≤n) (h1:n<253402300800) (h2:0≤made) (h3:made≤1099511627776):sumA [(made-n).tdiv 10]=sumA [max (made-n) 0 / 10]:=by
 simp only [sumA,suA,ctA]
 by_cases h:0≤made-n
 ·rw [Int.tdiv_eq_ediv_of_nonneg h]
  omega
 ·obtain⟨k,hk⟩:∃k:Int,made-n=-k:=⟨-(made-n),by omega⟩
  rw [hk,Int.neg_tdiv,Int.tdiv_eq_ediv_of_nonneg (by omega)]
  omega
theorem puntil_any (s:List UInt8) (made:Int) (w:World) (hs:s.length≤100000) (hC:Cal w) (h2:0≤made) (h3:made≤1099511627776) :
  Calls Tryz.prog 40 #[.string (strB s),.int .i64 made] w fun e w'=>e=.returned (.int .i64 (untP (secN s) made))∧Below w.heap.size w w':=by
 have c:=dparse_any s w hs hC
 have hE:∀n,secN s=some n→0≤n∧n<253402300800:=fun n h=>secN_in h
 have hw:IntKind.i64.wrap (-made)=-made:=IntWalk.i64_in _ (by omega)
 generalize secN s=o at *
 generalize strB s=ss at *
 clear hC hs
 rcases o with _ | n
 ·dsimp only [secZ,untP]at c ⊢
  clear hE
  go_enter Tryz.func40,Tryz.ntmps40
  go_wp2_with fail
  refine c.mono ?_
  rintro e w1 ⟨rfl,hb⟩
  go_wp2_with fail
  go_ret
  exact⟨rfl,hb⟩
 ·dsimp only [secZ,untP]at c ⊢
  obtain⟨b0,b1⟩:=hE n rfl
  rw [← sum_two n made b0 b1 h2 h3]
  have cS:=fun W v (h:IntsF W v [n,-made])=>asum_any v [n,-made] W h (by simp)
  generalize sumA [n,-made]=J at *
  go_enter Tryz.func40,Tryz.ntmps40
  go_wp2_with fail
  refine c.mono ?_
  rintro e w1 ⟨rfl,hb⟩
  have hq:=zH (ints_two w1 n (-made) 2)
  have HB:=zH (hb.trans (Below.mono ((Below.refl w1.heap.size w1).alloc (zR _) (.cells #[.int .i64 n,.int .i64 (-made)] 2)) hb.size))
  clear hb c hE
  go_wp2_with fail
  refine(cS _ _ hq.out).mono ?_
  rintro e w2 ⟨rfl,rfl⟩
  clear cS hq
  go_wp2_with fail
  go_ret
  exact⟨rfl,HB.out⟩
theorem pguess_any (lo:Nat) (v:Value) (fs:List Fld) (made:Int) (w:World) (h:Flds lo w v fs) (hk:FldsOk fs) (hj:∀n,(joinH (allH fs n)).length≤90000) (hC:Cal w) (h2:0≤made) (h3:made≤1099511627776) :
  Calls Tryz.prog 42 #[v,.int .i64 made] w fun e w'=>e=.returned (.int .i64 (gueP (secO fs nLmd) made))∧Below w.heap.size w w':=by
 have cL:=hget_any lo v fs nLmd w h hk
 have e1:getV fs nLmd=.tuple #[.string (strB (joinH (allH fs nLmd))),.bool (isN fs nLmd)]:=rfl
 rw [e1]at cL
 have c:=fun W hb=>dparse_any (joinH (allH fs nLmd)) W (Nat.le_trans (hj nLmd) (by decide)) (Cal.below hC hb)
 rw [show secN (joinH (allH fs nLmd))=secO fs nLmd from rfl]at c
 have hE:∀n,secO fs nLmd=some n→0≤n∧n<253402300800:=fun n h=>secN_in h
 clear e1
 obtain⟨ao,cap,rfl,_⟩:=id h
 clear h hk hj hC
 generalize isN fs nLmd=I at *
 generalize secO fs nLmd=o at *
 generalize strB (joinH (allH fs nLmd))=J1 at *
 rcases o with _ | n
 ·dsimp only [secZ,gueP]at c ⊢
  clear hE
  go_enter Tryz.func42,Tryz.ntmps42
  go_wp2_with fail
  refine cL.mono ?_
  rintro e w1 ⟨rfl,hb⟩
  go_wp2_with fail
  refine(c _ hb).mono ?_
  rintro e w2 ⟨rfl,hb2⟩
  clear c cL
  go_wp2_with fail
  go_ret
  exact⟨rfl,hb.trans (hb2.mono hb.size)⟩
 ·dsimp only [secZ,gueP]at c ⊢
  obtain⟨b0,b1⟩:=hE n rfl
  rw [← sum_quo n made b0 b1 h2 h3]
  have cS:=fun W v (h:IntsF W v [(made-n).tdiv 10])=>asum_any v [(made-n).tdiv 10] W h (by simp)
  have hw:IntKind.i64.wrap (made-n)=made-n:=IntWalk.i64_in _ (by omega)
  have hq1:-1099511627776≤(made-n).tdiv 10∧(made-n).tdiv 10≤1099511627776:=by
   by_cases h:0≤made-n
   ·rw [Int.tdiv_eq_ediv_of_nonneg h]
    omega
   ·obtain⟨k,hk⟩:∃k:Int,made-n=-k:=⟨-(made-n),by omega⟩
    rw [hk,Int.neg_tdiv,Int.tdiv_eq_ediv_of_nonneg (by omega)]
    omega
  have hw2:IntKind.i64.wrap ((made-n).tdiv 10)=(made-n).tdiv 10:=IntWalk.i64_in _ (by omega)
  clear hq1
  generalize sumA [(made-n).tdiv 10]=J at *
  generalize hD:(made-n).tdiv 10=D at *
  go_enter Tryz.func42,Tryz.ntmps42
  go_wp2_with fail
  refine cL.mono ?_
  rintro e w1 ⟨rfl,hb⟩
  go_wp2_with fail
  refine(c _ hb).mono ?_
  rintro e w2 ⟨rfl,hb2⟩
  clear c cL hE
  have hq:=zH (ints_one w2 D 2)
  have HB0:=hb.trans (hb2.mono hb.size)
  have HB:=zH (HB0.trans (Below.mono ((Below.refl w2.heap.size w2).alloc (zR _) (.cells #[.int .i64 D] 2)) HB0.size))
  clear hb hb2 HB0
  go_wp2_with fail
  refine(cS _ _ hq.out).mono ?_
  rintro e w3 ⟨rfl,rfl⟩
  clear cS hq
  go_wp2_with fail
  go_ret
  exact⟨rfl,HB.out⟩
theorem stor_b (g c1 c2 c3 an rn rp se S pu T ma sm ex U:Bool):(g&&(c1&&(c2&&(c3&&(!an&&(!rn&&(!rp&&((!se||(S||pu))&&(T||(pu||(ma||(sm||(ex||U)))))))))))))=(g&&((c1&&(c2&&c3))&&(!an&&(!(rn||rp)&&(!(se&&(!S&&!pu))&&(T||((pu||(ma||sm))||(ex||U)))))))):=by
 cases se<;>cases S<;>cases pu<;>cases rn<;>cases rp<;>simp [Bool.and_assoc,Bool.or_assoc]
theorem panySet2v (r:Ru_RuP) (v1 v2:Value) (G1 G2:FuncId) (c1 c2 x:Bool) (B:Nat) (w:World) (he:(c1||c2)=x) (hX:BoxN w B [v1,.func (.func G1) #[] #[],v2,.func (.func G2) #[] #[]]) (h1:SetA_PoBa w v1 r c1) (h2:SetA_PoBa w v2 r c2) :
  Calls Tryz.prog 25 #[r.v,.slice (some ⟨B,0,none⟩) 2 2] w fun e w'=>e=.returned (.bool x)∧Below w.heap.size w w':=
 (panySet2_PoBa r v1 v2 G1 G2 c1 c2 B w hX h1 h2).mono fun e w' h=>⟨by rw [h.1,he],h.2⟩
theorem panySet3v (r:Ru_RuP) (v1 v2 v3:Value) (G1 G2 G3:FuncId) (c1 c2 c3 x:Bool) (B:Nat) (w:World) (he:(c1||(c2||c3))=x) (hX:BoxN w B [v1,.func (.func G1) #[] #[],v2,.func (.func G2) #[] #[],v3,.func (.func G3) #[] #[]]) (h1:SetA_PoBa w v1 r c1) (h2:SetA_PoBa w v2 r c2) (h3:SetA_PoBa w v3 r c3) :
  Calls Tryz.prog 25 #[r.v,.slice (some ⟨B,0,none⟩) 3 3] w fun e w'=>e=.returned (.bool x)∧Below w.heap.size w w':=
 (panySet3_PoBa r v1 v2 v3 G1 G2 G3 c1 c2 c3 B w hX h1 h2 h3).mono fun e w' h=>⟨by rw [h.1,he],h.2⟩
theorem pguessable_any (n:Int) (r:Ru_RuP) (w:World) :
  Calls Tryz.prog 41 #[.int .i64 n,r.v] w fun e w'=>e=.returned (.bool (usual_RuP n||r.pu))∧Below w.heap.size w w':=by
 have cU:=fun W=>(pcache_any n W).mono fun e w' (h:e=.returned (.bool (usual_RuP n))∧W=w')=>(⟨h.1,h.2▸Below.refl _ _⟩:e=.returned (.bool (usual_RuP n))∧Below W.heap.size W w')
 have pP:=fun W=>pg_public r W
 have fl0:=fld_flag
 have e2:=en_public
 generalize usual_RuP n=U at *
 obtain⟨b0,b1,b2,b3,b4,b5,b6,b7,k0,k1,k2,k3,k4⟩:=r
 dsimp only [Ru_RuP.v]at pP ⊢
 obtain⟨W,hW⟩:∃W,w.alloc (.cells #[.bool b0,.bool b1,.bool b2,.bool b3,.bool b4,.bool b5,.bool b6,.bool b7,.int .i64 k0,.int .i64 k1,.int .i64 k2,.int .i64 k3,.int .i64 k4] 34)=W:=⟨_,rfl⟩
 have HH:=boxL.one w [.bool b0,.bool b1,.bool b2,.bool b3,.bool b4,.bool b5,.bool b6,.bool b7,.int .i64 k0,.int .i64 k1,.int .i64 k2,.int .i64 k3,.int .i64 k4] 34
 rw [hW]at HH
 have HW:=zH hW
 clear hW
 go_enter Tryz.func41,Tryz.ntmps41
 go_wp2_with fail
 rw [HW.out]
 clear HW
 cases U
 ·refine wBg (by kernel_rfl) (fun _ _ _ _ h=>h) fun hQ=>?_
  replace HH:=HH.nx (drewA _)
  refine wTk 0 5 hQ rfl rfl (by kernel_rfl) (by rfl) (by intro w _;go_simp;try with_reducible rfl) ?_
  dsimp only [List.set]
  refine wCl 1 rfl (by kernel_rfl) fun K hK=>?_
  go_simp
  refine Calls.mono (cU _) ?_
  rintro e V22x1 ⟨rfl,hh⟩
  refine wNx hK hh ?_
  clear hK K
  replace HH:=HH.nx hh
  clear hh
  refine wTk 2 7 hQ rfl rfl (by kernel_rfl) (by rfl) (by intro w _;go_simp;try with_reducible rfl) ?_
  dsimp only [List.set]
  refine wTk 5 10 hQ rfl rfl (by kernel_rfl) (by rfl) (by intro w hw;obtain⟨y0,y1,y2,y3,y4,y5,y6,y7,y8,y9,y10,y11,y12⟩:=((HH.at 0 rfl).next hw).c13;go_simp;try with_reducible rfl) ?_
  dsimp only [List.set]
  refine wCl 3 rfl (by kernel_rfl) fun K hK=>?_
  go_simp
  refine Calls.mono (p_public _) ?_
  rintro e V22x2 ⟨rfl,hh⟩
  refine wNx hK hh ?_
  clear hK K
  replace HH:=HH.nx hh
  clear hh
  refine wTk 4 9 hQ rfl rfl (by kernel_rfl) (by rfl) (by intro w _;go_simp;try with_reducible rfl) ?_
  dsimp only [List.set]
  refine wCl 6 rfl (by kernel_rfl) fun K hK=>?_
  go_simp
  refine Calls.mono (pP _) ?_
  rintro e V22x3 ⟨rfl,hh⟩
  refine wNx hK hh ?_
  clear hK K
  replace HH:=HH.nx hh
  clear hh
  refine wTk 7 12 hQ rfl rfl (by kernel_rfl) (by rfl) (by intro w _;go_simp;try with_reducible rfl) ?_
  dsimp only [List.set]
  refine wTk 8 4 hQ rfl rfl (by kernel_rfl) (by rfl) (by intro w _;go_simp;try with_reducible rfl) ?_
  dsimp only [List.set]
  refine wpAnyH_done (by kernel_rfl) ?_ _
  clear hQ
  go_wp2_with fail
  go_ret
  exact⟨by rfl,HH.b⟩
 ·refine wBg (by kernel_rfl) (fun _ _ _ _ h=>h) fun hQ=>?_
  replace HH:=HH.nx (drewA _)
  refine wTk 0 5 hQ rfl rfl (by kernel_rfl) (by rfl) (by intro w _;go_simp;try with_reducible rfl) ?_
  dsimp only [List.set]
  refine wCl 1 rfl (by kernel_rfl) fun K hK=>?_
  go_simp
  refine Calls.mono (cU _) ?_
  rintro e V21x1 ⟨rfl,hh⟩
  refine wNx hK hh ?_
  clear hK K
  replace HH:=HH.nx hh
  clear hh
  refine wTk 2 7 hQ rfl rfl (by kernel_rfl) (by rfl) (by intro w _;go_simp;try with_reducible rfl) ?_
  dsimp only [List.set]
  refine wSk 3 8 hQ rfl rfl (by kernel_rfl) (by rfl) ?_
  dsimp only [List.set]
  refine wSk 4 9 hQ rfl rfl (by kernel_rfl) (by rfl) ?_
  dsimp only [List.set]
  refine wSk 5 10 hQ rfl rfl (by kernel_rfl) (by rfl) ?_
  dsimp only [List.set]
  refine wSk 6 11 hQ rfl rfl (by kernel_rfl) (by rfl) ?_
  dsimp only [List.set]
  refine wTk 7 12 hQ rfl rfl (by kernel_rfl) (by rfl) (by intro w _;go_simp;try with_reducible rfl) ?_
  dsimp only [List.set]
  refine wTk 8 4 hQ rfl rfl (by kernel_rfl) (by rfl) (by intro w _;go_simp;try with_reducible rfl) ?_
  dsimp only [List.set]
  refine wpAnyH_done (by kernel_rfl) ?_ _
  clear hQ
  go_wp2_with fail
  go_ret
  exact⟨by rfl,HH.b⟩
end Go.Proofs.YtfaedmbfabfmeaaGreatDoor
namespace Go.Proofs.YtfaedmbfabfmeaaGreatDoor
open Go.RowKit Go.Lib
theorem rlif_any (lo:Nat) (p:Rp) (f2 y2:Value) (got:Int) (w:World) (hF2:Flds lo w f2 p.fs) (hY2:BytF lo w y2 p.b) (hk2:FldsOk p.fs) (hj2:∀n,(joinH (allH p.fs n)).length≤90000) :
  Calls Tryz.prog 12 #[.agg #[.int .i64 p.n,f2,y2],.int .i64 got] w fun e w'=>e=.returned (.int .i64 (lifP p.n p.fs got))∧Below w.heap.size w w':=by
 have cC:=fun W (hb:Below w.heap.size w W)=>r11choose_any lo f2 p.fs W (hF2.below hb) hk2 hj2
 have cD:=fun W (hb:Below w.heap.size w W)=>rdate_any lo f2 p.fs got W (hF2.below hb) hk2 hj2
 have cE:=fun W (hb:Below w.heap.size w W)=>rget_any lo f2 p.fs nExp W (hF2.below hb) hk2
 have cL:=fun W (hb:Below w.heap.size w W)=>rget_any lo f2 p.fs nLmd W (hF2.below hb) hk2
 have cP1:=fun W=>r5parse_any (joinH (allH p.fs nExp)) W (Nat.le_trans (hj2 nExp) (by decide))
 have cP2:=fun W=>r5parse_any (joinH (allH p.fs nLmd)) W (Nat.le_trans (hj2 nLmd) (by decide))
 simp only [chs_v]at cC
 have eE:getV p.fs nExp=.tuple #[.string (strB (joinH (allH p.fs nExp))),.bool (isN p.fs nExp)]:=rfl
 have eL:getV p.fs nLmd=.tuple #[.string (strB (joinH (allH p.fs nLmd))),.bool (isN p.fs nLmd)]:=rfl
 rw [eE]at cE
 rw [eL]at cL
 rw [show secN (joinH (allH p.fs nExp))=secO p.fs nExp from rfl]at cP1
 rw [show secN (joinH (allH p.fs nLmd))=secO p.fs nLmd from rfl]at cP2
 clear eE eL
 have cU:=fun W=>rusual_any p.n W
 have cS:=fun x v W (h:IntsF W v [x])=>rsum_any v [x] W h (by simp)
 obtain⟨J,hJ⟩:∃J,lifP p.n p.fs got=J:=⟨_,rfl⟩
 rw [hJ]
 unfold lifP lifR at hJ
 have hM:=dateA_in p.fs got
 have hE:∀n,secO p.fs nExp=some n→0≤n∧n<253402300800:=fun n h=>secN_in h
 have hL:∀n,secO p.fs nLmd=some n→0≤n∧n<253402300800:=fun n h=>secN_in h
 obtain⟨go_,gc,rfl,_⟩:=id hF2
 obtain⟨zo,zc,rfl,_⟩:=id hY2
 clear hF2 hY2 hk2 hj2
 generalize usual_RuP p.n=U at *
 generalize isN p.fs nExp=ex at *
 generalize isN p.fs nLmd=la at *
 generalize secO p.fs nExp=eo at *
 generalize secO p.fs nLmd=l0 at *
 generalize dateA p.fs got=made at *
 generalize strB (joinH (allH p.fs nExp))=J1 at *
 generalize strB (joinH (allH p.fs nLmd))=J2 at *
 generalize chT p.fs=t at *
 generalize chR p.fs=Rb at *
 generalize p.n=st at *
 generalize p.fs.length=L2 at *
 generalize p.b.length=L4 at *
 obtain⟨b0,b1,b2,b3,b4,b5,b6,b7,k0,k1,k2,k3,k4⟩:=Rb
 dsimp only [Ru_RuP.v]at *
 have HJ:=hJ.symm
 clear hJ
 have HP:=zH (BoxN.made w [.int .i64 st,.slice go_ L2 gc,.slice zo L4 zc] 27)
 have HB:=zH ((Below.refl w.heap.size w).alloc (zR _) (.cells #[.int .i64 st,.slice go_ L2 gc,.slice zo L4 zc] 27))
 go_enter Tryz.func12,Tryz.ntmps12
 go_wp2_with fail
 refine(cC _ HB.out).mono ?_
 rintro e w1 ⟨rfl,hb⟩
 replace HP:=zH (HP.out.next hb)
 replace HB:=zH (HB.out.trans (hb.mono HB.out.size))
 clear hb
 have hal:=(Below.refl w1.heap.size w1).alloc (zR _) (.cells #[.bool b0,.bool b1,.bool b2,.bool b3,.bool b4,.bool b5,.bool b6,.bool b7,.int .i64 k0,.int .i64 k1,.int .i64 k2,.int .i64 k3,.int .i64 k4] 36)
 have HR:=zH (BoxN.made w1 [.bool b0,.bool b1,.bool b2,.bool b3,.bool b4,.bool b5,.bool b6,.bool b7,.int .i64 k0,.int .i64 k1,.int .i64 k2,.int .i64 k3,.int .i64 k4] 36)
 replace HP:=zH (HP.out.next hal)
 replace HB:=zH (HB.out.trans (hal.mono HB.out.size))
 clear hal
 have pf0:=(HP.out.2 0 _ rfl).1
 have pf1:=(HP.out.2 1 _ rfl).1
 have rf3:=(HR.out.2 3 _ rfl).1
 have rf8:=(HR.out.2 8 _ rfl).1
 have rf9:=(HR.out.2 9 _ rfl).1
 by_cases g1:0≤k1
 ·have HV:Hid (J=k1):=zH (HJ.trans (by simp [*]))
  clear HJ
  go_wp2_with fail
  go_ret
  exact⟨by rw [HV.out]<;>rfl,HB.out⟩
 ·by_cases g2:0≤k0
  ·have HV:Hid (J=k0):=zH (HJ.trans (by simp [*]))
   clear HJ
   go_wp2_with fail
   go_ret
   exact⟨by rw [HV.out]<;>rfl,HB.out⟩
  ·by_cases g3:t=2
   ·have e_g3:(t==2)=true:=by simpa using g3
    have HV:Hid (J=0):=zH (HJ.trans (by simp [*]))
    clear HJ
    go_wp2_with fail
    go_ret
    exact⟨by rw [HV.out]<;>rfl,HB.out⟩
   ·have e_g3:(t==2)=false:=by simpa using g3
    rw [if_neg g1,if_neg g2,if_neg g3]at HJ
    go_wp2_with fail
    refine(cD _ HB.out).mono ?_
    rintro e w2 ⟨rfl,hb⟩
    clear pf0 pf1 rf3 rf8 rf9
    replace HP:=zH (HP.out.next hb)
    replace HR:=zH (HR.out.next hb)
    replace HB:=zH (HB.out.trans (hb.mono HB.out.size))
    clear hb
    have pf0:=(HP.out.2 0 _ rfl).1
    have pf1:=(HP.out.2 1 _ rfl).1
    have rf3:=(HR.out.2 3 _ rfl).1
    have rf8:=(HR.out.2 8 _ rfl).1
    have rf9:=(HR.out.2 9 _ rfl).1
    go_wp2_with fail
    refine(cE _ HB.out).mono ?_
    rintro e w3 ⟨rfl,hb⟩
    clear pf0 pf1 rf3 rf8 rf9
    replace HP:=zH (HP.out.next hb)
    replace HR:=zH (HR.out.next hb)
    replace HB:=zH (HB.out.trans (hb.mono HB.out.size))
    clear hb
    have pf0:=(HP.out.2 0 _ rfl).1
    have pf1:=(HP.out.2 1 _ rfl).1
    have rf3:=(HR.out.2 3 _ rfl).1
    have rf8:=(HR.out.2 8 _ rfl).1
    have rf9:=(HR.out.2 9 _ rfl).1
    cases ex
    ·go_wp2_with fail
     refine(cL _ HB.out).mono ?_
     rintro e w4 ⟨rfl,hb⟩
     clear pf0 pf1 rf3 rf8 rf9
     replace HP:=zH (HP.out.next hb)
     replace HR:=zH (HR.out.next hb)
     replace HB:=zH (HB.out.trans (hb.mono HB.out.size))
     clear hb
     have pf0:=(HP.out.2 0 _ rfl).1
     have pf1:=(HP.out.2 1 _ rfl).1
     have rf3:=(HR.out.2 3 _ rfl).1
     have rf8:=(HR.out.2 8 _ rfl).1
     have rf9:=(HR.out.2 9 _ rfl).1
     rcases l0 with _ | n
     ·dsimp only [secZ]at cP2
      go_wp2_with fail
      refine(cP2 _).mono ?_
      rintro e w5 ⟨rfl,hb⟩
      clear pf0 pf1 rf3 rf8 rf9
      replace HP:=zH (HP.out.next hb)
      replace HR:=zH (HR.out.next hb)
      replace HB:=zH (HB.out.trans (hb.mono HB.out.size))
      clear hb
      have pf0:=(HP.out.2 0 _ rfl).1
      have pf1:=(HP.out.2 1 _ rfl).1
      have rf3:=(HR.out.2 3 _ rfl).1
      have rf8:=(HR.out.2 8 _ rfl).1
      have rf9:=(HR.out.2 9 _ rfl).1
      cases la
      ·have HV:Hid (J=0):=zH (HJ.trans (by simp [*]))
       clear HJ
       go_wp2_with fail
       go_ret
       exact⟨by rw [HV.out]<;>rfl,HB.out⟩
      ·have HV:Hid (J=0):=zH (HJ.trans (by simp [*]))
       clear HJ
       go_wp2_with fail
       go_ret
       exact⟨by rw [HV.out]<;>rfl,HB.out⟩
     ·dsimp only [secZ]at cP2
      have bn:=hL n rfl
      go_wp2_with fail
      refine(cP2 _).mono ?_
      rintro e w5 ⟨rfl,hb⟩
      clear pf0 pf1 rf3 rf8 rf9
      replace HP:=zH (HP.out.next hb)
      replace HR:=zH (HR.out.next hb)
      replace HB:=zH (HB.out.trans (hb.mono HB.out.size))
      clear hb
      have pf0:=(HP.out.2 0 _ rfl).1
      have pf1:=(HP.out.2 1 _ rfl).1
      have rf3:=(HR.out.2 3 _ rfl).1
      have rf8:=(HR.out.2 8 _ rfl).1
      have rf9:=(HR.out.2 9 _ rfl).1
      cases la
      ·have HV:Hid (J=0):=zH (HJ.trans (by simp [*]))
       clear HJ
       go_wp2_with fail
       go_ret
       exact⟨by rw [HV.out]<;>rfl,HB.out⟩
      ·go_wp2_with fail
       refine(cU _).mono ?_
       rintro e w6 ⟨rfl,hb⟩
       clear pf0 pf1 rf3 rf8 rf9
       replace HP:=zH (HP.out.next hb)
       replace HR:=zH (HR.out.next hb)
       replace HB:=zH (HB.out.trans (hb.mono HB.out.size))
       clear hb
       have pf0:=(HP.out.2 0 _ rfl).1
       have pf1:=(HP.out.2 1 _ rfl).1
       have rf3:=(HR.out.2 3 _ rfl).1
       have rf8:=(HR.out.2 8 _ rfl).1
       have rf9:=(HR.out.2 9 _ rfl).1
       cases U
       ·cases b3
        ·have HV:Hid (J=0):=zH (HJ.trans (by simp [*]))
         clear HJ
         go_wp2_with fail
         go_ret
         exact⟨by rw [HV.out]<;>rfl,HB.out⟩
        ·have HV:Hid (J=min (sumA [max (made-n) 0 / 10]) 86400):=zH (HJ.trans (by simp [*]))
         clear HJ
         go_wp2_with fail
         refine(cS _ _ _ (ints_one _ _ _)).mono ?_
         rintro e w9 ⟨rfl,rfl⟩
         go_wp2_with fail
         go_ret
         exact⟨by rw [HV.out]<;>rfl,HB.out.alloc HB.out.size _⟩
       ·have HV:Hid (J=min (sumA [max (made-n) 0 / 10]) 86400):=zH (HJ.trans (by simp [*]))
        clear HJ
        go_wp2_with fail
        refine(cS _ _ _ (ints_one _ _ _)).mono ?_
        rintro e w9 ⟨rfl,rfl⟩
        go_wp2_with fail
        go_ret
        exact⟨by rw [HV.out]<;>rfl,HB.out.alloc HB.out.size _⟩
    ·rcases eo with _ | n
     ·dsimp only [secZ]at cP1
      go_wp2_with fail
      refine(cP1 _).mono ?_
      rintro e w4 ⟨rfl,hb⟩
      clear pf0 pf1 rf3 rf8 rf9
      replace HP:=zH (HP.out.next hb)
      replace HR:=zH (HR.out.next hb)
      replace HB:=zH (HB.out.trans (hb.mono HB.out.size))
      clear hb
      have pf0:=(HP.out.2 0 _ rfl).1
      have pf1:=(HP.out.2 1 _ rfl).1
      have rf3:=(HR.out.2 3 _ rfl).1
      have rf8:=(HR.out.2 8 _ rfl).1
      have rf9:=(HR.out.2 9 _ rfl).1
      have HV:Hid (J=0):=zH (HJ.trans (by simp [*]))
      clear HJ
      go_wp2_with fail
      go_ret
      exact⟨by rw [HV.out]<;>rfl,HB.out⟩
     ·dsimp only [secZ]at cP1
      have bn:=hE n rfl
      go_wp2_with fail
      refine(cP1 _).mono ?_
      rintro e w4 ⟨rfl,hb⟩
      clear pf0 pf1 rf3 rf8 rf9
      replace HP:=zH (HP.out.next hb)
      replace HR:=zH (HR.out.next hb)
      replace HB:=zH (HB.out.trans (hb.mono HB.out.size))
      clear hb
      have pf0:=(HP.out.2 0 _ rfl).1
      have pf1:=(HP.out.2 1 _ rfl).1
      have rf3:=(HR.out.2 3 _ rfl).1
      have rf8:=(HR.out.2 8 _ rfl).1
      have rf9:=(HR.out.2 9 _ rfl).1
      have HV:Hid (J=sumA [n-made]):=zH (HJ.trans (by simp [*]))
      clear HJ
      go_wp2_with fail
      refine(cS _ _ _ (ints_one _ _ _)).mono ?_
      rintro e w9 ⟨rfl,rfl⟩
      go_wp2_with fail
      go_ret
      exact⟨by rw [HV.out]<;>rfl,HB.out.alloc HB.out.size _⟩
end Go.Proofs.YtfaedmbfabfmeaaGreatDoor
