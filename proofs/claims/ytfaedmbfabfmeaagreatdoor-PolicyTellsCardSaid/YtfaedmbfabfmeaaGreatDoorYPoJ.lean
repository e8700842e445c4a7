/- Package policy: Lifetime. -/
import Derived.Test.YtfaedmbfabfmeaaGreatDoorYMPoH
set_option linter.unusedSimpArgs false
set_option maxRecDepth 100000
set_option maxHeartbeats 32000000
namespace Go.Proofs.YtfaedmbfabfmeaaGreatDoor
open Go.RowKit Go.Lib Go.Shelf
theorem lif_none {fs:List Fld} (h:isN fs nLmd=false):secO fs nLmd=none:=by
 have h0:(allH fs nLmd).length=0:=by
  have:=of_decide_eq_false h
  omega
 unfold secO
 rw [List.eq_nil_of_length_eq_zero h0]
 rfl
theorem plif_any (lo:Nat) (p:Rp) (f2 y2:Value) (got:Int) (w:World) (hF2:Flds lo w f2 p.fs) (hY2:BytF lo w y2 p.b) (hk2:FldsOk p.fs) (hj2:∀n,(joinH (allH p.fs n)).length≤90000) (hA:Alph w) (hT:Tabs w) (hC:Cal w) :
  Calls Tryz.prog 11 #[.agg #[.int .i64 p.n,f2,y2],.int .i64 got] w fun e w'=>e=.returned (.int .i64 (lifP p.n p.fs got))∧Below w.heap.size w w':=by
 have hM:=dateA_in p.fs got
 have cC:=fun W (hb:Below w.heap.size w W)=>mchoose_any lo f2 p.fs W (hF2.below hb) hk2 hj2 (Alph.below hA hb) (Utf8Tabs_below hT hb)
 have cD:=fun W (hb:Below w.heap.size w W)=>adate_any lo f2 p.fs got W (hF2.below hb) hk2 hj2 (Cal.below hC hb)
 have cE:=fun W (hb:Below w.heap.size w W)=>hget_any lo f2 p.fs nExp W (hF2.below hb) hk2
 have cX:=fun W (hb:Below w.heap.size w W)=>puntil_any (joinH (allH p.fs nExp)) (dateA p.fs got) W (Nat.le_trans (hj2 nExp) (by decide)) (Cal.below hC hb) hM.1 hM.2
 have cQ:=fun W (hb:Below w.heap.size w W)=>pguess_any lo f2 p.fs (dateA p.fs got) W (hF2.below hb) hk2 hj2 (Cal.below hC hb) hM.1 hM.2
 have cG:=fun W=>pguessable_any p.n (chR p.fs) W
 simp only [chs_v]at cC
 have eE:getV p.fs nExp=.tuple #[.string (strB (joinH (allH p.fs nExp))),.bool (isN p.fs nExp)]:=rfl
 rw [eE]at cE
 rw [show secN (joinH (allH p.fs nExp))=secO p.fs nExp from rfl]at cX
 clear eE
 have cS1:=fun W b h=>ps_sMaxAge_PoBa (chR p.fs) W b h
 have cS2:=fun W b h=>ps_maxAge_PoBa (chR p.fs) W b h
 have g1:=fun W=>pg_sMaxAge (chR p.fs) W
 have g2:=fun W=>pg_maxAge (chR p.fs) W
 have en0:=en_number
 have en1:=en_sMaxAge
 have en2:=en_maxAge
 have hl0:=lif_none (fs:=p.fs)
 obtain⟨J,hJ⟩:∃J,lifP p.n p.fs got=J:=⟨_,rfl⟩
 rw [hJ]
 unfold lifP lifR at hJ
 obtain⟨go_,gc,rfl,_⟩:=id hF2
 obtain⟨zo,zc,rfl,_⟩:=id hY2
 clear hF2 hY2 hk2 hj2 hA hT hC hM
 generalize usual_RuP p.n=U at *
 generalize isN p.fs nExp=ex at *
 generalize isN p.fs nLmd=la at *
 generalize secO p.fs nExp=eo at *
 generalize secO p.fs nLmd=l0 at *
 generalize dateA p.fs got=made at *
 generalize strB (joinH (allH p.fs nExp))=J1 at *
 generalize chT p.fs=t at *
 generalize chR p.fs=Rb at *
 generalize p.n=st at *
 generalize p.fs.length=L2 at *
 generalize p.b.length=L4 at *
 obtain⟨b0,b1,b2,b3,b4,b5,b6,b7,k0,k1,k2,k3,k4⟩:=Rb
 dsimp only [Ru_RuP.v]at *
 have HL1:Hid (0≤k1→J=k1):=zH (fun h=>by rw [← hJ,if_pos h])
 have HL2:Hid (k1<0→0≤k0→J=k0):=zH (fun h1 h2=>by rw [← hJ,if_neg (by omega),if_pos h2])
 have HL3:Hid (k1<0→k0<0→t=2→J=0):=zH (fun h1 h2 h3=>by rw [← hJ,if_neg (by omega:¬0≤k1),if_neg (by omega:¬0≤k0),if_pos h3])
 have HL4:Hid (k1<0→k0<0→¬t=2→ex=true→J=untP eo made):=zH (fun h1 h2 h3 h4=>by rw [← hJ,if_neg (by omega:¬0≤k1),if_neg (by omega:¬0≤k0),if_neg h3,if_pos h4];rfl)
 have HL5:Hid (k1<0→k0<0→¬t=2→ex=false→(U||b3)=true→J=gueP l0 made):=zH (fun h1 h2 h3 h4 h5=>by
  rw [← hJ,if_neg (by omega:¬0≤k1),if_neg (by omega:¬0≤k0),if_neg h3,if_neg (by rw [h4];decide)]
  rw [Bool.or_eq_true]at h5
  cases la with
  | true=>rw [if_pos ⟨rfl,h5⟩];rfl
  | false=>rw [if_neg (fun e=>by cases e.1),hl0 rfl];rfl)
 have HL6:Hid (k1<0→k0<0→¬t=2→ex=false→(U||b3)=false→J=0):=zH (fun h1 h2 h3 h4 h5=>by
  rw [← hJ,if_neg (by omega:¬0≤k1),if_neg (by omega:¬0≤k0),if_neg h3,if_neg (by rw [h4];decide),if_neg (fun e=>by rw [← Bool.or_eq_true,h5]at e;cases e.2)])
 clear hJ hl0
 have HP:=zH (BoxN.made w [.int .i64 st,.slice go_ L2 gc,.slice zo L4 zc] 27)
 have HB:=zH ((Below.refl w.heap.size w).alloc (zR _) (.cells #[.int .i64 st,.slice go_ L2 gc,.slice zo L4 zc] 27))
 go_enter Tryz.func11,Tryz.ntmps11
 go_wp2_with fail
 refine(cC _ HB.out).mono ?_
 rintro e w1 ⟨rfl,hb⟩
 replace HP:=zH (HP.out.next hb)
 replace HB:=zH (HB.out.trans (Below.mono hb HB.out.size))
 clear hb cC
 have hal:=(Below.refl w1.heap.size w1).alloc (zR _) (.cells #[.bool b0,.bool b1,.bool b2,.bool b3,.bool b4,.bool b5,.bool b6,.bool b7,.int .i64 k0,.int .i64 k1,.int .i64 k2,.int .i64 k3,.int .i64 k4] 34)
 have HR:=zH (BoxN.made w1 [.bool b0,.bool b1,.bool b2,.bool b3,.bool b4,.bool b5,.bool b6,.bool b7,.int .i64 k0,.int .i64 k1,.int .i64 k2,.int .i64 k3,.int .i64 k4] 34)
 replace HP:=zH (HP.out.next hal)
 replace HB:=zH (HB.out.trans (hal.mono HB.out.size))
 clear hal
 go_wp2_with fail
 refine(p_sMaxAge _).mono ?_
 rintro e w2 ⟨x1,rfl,-,hn,hb⟩
 have HN1:=zH hn
 clear hn
 replace HP:=zH (HP.out.next hb)
 replace HR:=zH (HR.out.next hb)
 replace HB:=zH (HB.out.trans (Below.mono hb HB.out.size))
 clear hb
 go_wp2_with fail
 refine(p_maxAge _).mono ?_
 rintro e w3 ⟨x2,rfl,-,hn,hb⟩
 have HN2:=zH hn
 clear hn
 replace HN1:=zH (HN1.out.below hb)
 replace HP:=zH (HP.out.next hb)
 replace HR:=zH (HR.out.next hb)
 replace HB:=zH (HB.out.trans (Below.mono hb HB.out.size))
 clear hb
 have hal:=(Below.refl w3.heap.size w3).alloc (zR _) (.cells #[.func (.func 102) #[] #[.pointer (some ⟨x1,0,none⟩)],.func (.func 65) #[] #[],.func (.func 102) #[] #[.pointer (some ⟨x2,0,none⟩)],.func (.func 64) #[] #[]] 60)
 have HD:=zH (BoxN.made w3 [.func (.func 102) #[] #[.pointer (some ⟨x1,0,none⟩)],.func (.func 65) #[] #[],.func (.func 102) #[] #[.pointer (some ⟨x2,0,none⟩)],.func (.func 64) #[] #[]] 60)
 replace HP:=zH (HP.out.next hal)
 replace HR:=zH (HR.out.next hal)
 replace HN1:=zH (HN1.out.below hal)
 replace HN2:=zH (HN2.out.below hal)
 replace HB:=zH (HB.out.trans (hal.mono HB.out.size))
 clear hal
 go_wp2_with fail
 generalize hW4:w3.alloc (.cells #[.func (.func 102) #[] #[.pointer (some ⟨x1,0,none⟩)],.func (.func 65) #[] #[],.func (.func 102) #[] #[.pointer (some ⟨x2,0,none⟩)],.func (.func 64) #[] #[]] 60)=W4 at *
 clear hW4
 go_loopw [22] (fun iv wr=>∃j:Nat,iv=.int .i64 j∧j≤2∧Hid (0<j→k1<0)∧Hid (j=2→k0<0)∧Hid (BoxN wr w.heap.size [.int .i64 st,.slice go_ L2 gc,.slice zo L4 zc])∧Hid (BoxN wr w1.heap.size [.bool b0,.bool b1,.bool b2,.bool b3,.bool b4,.bool b5,.bool b6,.bool b7,.int .i64 k0,.int .i64 k1,.int .i64 k2,.int .i64 k3,.int .i64 k4])∧Hid (BoxN wr w3.heap.size [.func (.func 102) #[] #[.pointer (some ⟨x1,0,none⟩)],.func (.func 65) #[] #[],.func (.func 102) #[] #[.pointer (some ⟨x2,0,none⟩)],.func (.func 64) #[] #[]])∧Hid (NumH wr x1 65)∧Hid (NumH wr x2 64)∧Hid (Below w.heap.size w wr)) (fun iv _=>2-(RowKit.intOf iv).toNat)
 case atStart=>exact⟨0,rfl,by omega,zH (fun h=>by omega),zH (fun h=>by omega),HP,HR,HD,HN1,HN2,HB⟩
 case round =>
  clear HP HR HD HN1 HN2 HB
  obtain⟨j,rfl,hj,HK1,HK2,HP,HR,HD,HN1,HN2,HB⟩:=hrel
  obtain rfl | rfl | rfl:j=0∨j=1∨j=2:=by omega
  ·clear HK1 HK2
   have d0:=(HD.out.2 0 _ rfl).1
   have d1:=(HD.out.2 1 _ rfl).1
   have hq:=(Below.refl wr.heap.size wr).alloc (zR _) (.cells #[.func (.func 102) #[] #[.pointer (some ⟨x1,0,none⟩)],.func (.func 65) #[] #[]] 60)
   have HT:=zH (BoxN.made wr [.func (.func 102) #[] #[.pointer (some ⟨x1,0,none⟩)],.func (.func 65) #[] #[]] 60)
   have hsz:(wr.alloc (.cells #[.func (.func 102) #[] #[.pointer (some ⟨x1,0,none⟩)],.func (.func 65) #[] #[]] 60)).heap.size=wr.heap.size+1:=by simp
   have HR2:=zH (HR.out.next hq)
   obtain⟨r0,r1,r2,r3,r4,r5,r6,r7,r8,r9,r10,r11,r12⟩:=b13X HR2.out
   have HNq:=zH (HN1.out.below hq)
   replace HP:=zH (HP.out.next hq)
   replace HD:=zH (HD.out.next hq)
   replace HN1:=zH (HN1.out.below hq)
   replace HN2:=zH (HN2.out.below hq)
   replace HB:=zH (HB.out.trans (Below.mono hq HB.out.size))
   clear hq hsz
   go_wp2_with fail
   refine(cS1 _ _ HNq.out).mono ?_
   rintro e w5 ⟨rfl,hb⟩
   clear r0 r1 r2 r3 r4 r5 r6 r7 r8 r9 r10 r11 r12
   clear d0 d1 HNq HR
   have HR:=zH (HR2.out.next hb)
   replace HT:=zH (HT.out.next hb)
   clear HR2
   replace HP:=zH (HP.out.next hb)
   replace HD:=zH (HD.out.next hb)
   replace HN1:=zH (HN1.out.below hb)
   replace HN2:=zH (HN2.out.below hb)
   replace HB:=zH (HB.out.trans (Below.mono hb HB.out.size))
   clear hb
   by_cases hk:0≤k1
   ·have dk:decide (0≤k1)=true:=decide_eq_true hk
    rw [dk]
    have HV:Hid (J=k1):=zH (HL1.out hk)
    have z1:=(HT.out.2 1 _ rfl).1
    obtain⟨r0,r1,r2,r3,r4,r5,r6,r7,r8,r9,r10,r11,r12⟩:=b13X HR.out
    go_wp2_with fail
    refine(g1 _).mono ?_
    rintro e w6 ⟨rfl,hb⟩
    clear r0 r1 r2 r3 r4 r5 r6 r7 r8 r9 r10 r11 r12
    clear z1 HT
    replace HP:=zH (HP.out.next hb)
    replace HR:=zH (HR.out.next hb)
    replace HB:=zH (HB.out.trans (Below.mono hb HB.out.size))
    clear hb
    go_wp2_with fail
    go_ret
    exact⟨by rw [HV.out];rfl,HB.out⟩
   ·have dk:decide (0≤k1)=false:=decide_eq_false hk
    rw [dk]
    clear HT
    go_wp2_with fail
    go_roundw
    case rel=>exact⟨1,rfl,by omega,zH (fun _=>by omega),zH (fun h=>absurd h (by decide)),HP,HR,HD,HN1,HN2,HB⟩
    case measure=>simp [RowKit.intOf]
  ·clear HK2
   have d0:=(HD.out.2 2 _ rfl).1
   have d1:=(HD.out.2 3 _ rfl).1
   have hq:=(Below.refl wr.heap.size wr).alloc (zR _) (.cells #[.func (.func 102) #[] #[.pointer (some ⟨x2,0,none⟩)],.func (.func 64) #[] #[]] 60)
   have HT:=zH (BoxN.made wr [.func (.func 102) #[] #[.pointer (some ⟨x2,0,none⟩)],.func (.func 64) #[] #[]] 60)
   have hsz:(wr.alloc (.cells #[.func (.func 102) #[] #[.pointer (some ⟨x2,0,none⟩)],.func (.func 64) #[] #[]] 60)).heap.size=wr.heap.size+1:=by simp
   have HR2:=zH (HR.out.next hq)
   obtain⟨r0,r1,r2,r3,r4,r5,r6,r7,r8,r9,r10,r11,r12⟩:=b13X HR2.out
   have HNq:=zH (HN2.out.below hq)
   replace HP:=zH (HP.out.next hq)
   replace HD:=zH (HD.out.next hq)
   replace HN1:=zH (HN1.out.below hq)
   replace HN2:=zH (HN2.out.below hq)
   replace HB:=zH (HB.out.trans (Below.mono hq HB.out.size))
   clear hq hsz
   go_wp2_with fail
   refine(cS2 _ _ HNq.out).mono ?_
   rintro e w5 ⟨rfl,hb⟩
   clear r0 r1 r2 r3 r4 r5 r6 r7 r8 r9 r10 r11 r12
   clear d0 d1 HNq HR
   have HR:=zH (HR2.out.next hb)
   replace HT:=zH (HT.out.next hb)
   clear HR2
   replace HP:=zH (HP.out.next hb)
   replace HD:=zH (HD.out.next hb)
   replace HN1:=zH (HN1.out.below hb)
   replace HN2:=zH (HN2.out.below hb)
   replace HB:=zH (HB.out.trans (Below.mono hb HB.out.size))
   clear hb
   by_cases hk:0≤k0
   ·have dk:decide (0≤k0)=true:=decide_eq_true hk
    rw [dk]
    have HV:Hid (J=k0):=zH (HL2.out (HK1.out (by decide)) hk)
    have z1:=(HT.out.2 1 _ rfl).1
    obtain⟨r0,r1,r2,r3,r4,r5,r6,r7,r8,r9,r10,r11,r12⟩:=b13X HR.out
    go_wp2_with fail
    refine(g2 _).mono ?_
    rintro e w6 ⟨rfl,hb⟩
    clear r0 r1 r2 r3 r4 r5 r6 r7 r8 r9 r10 r11 r12
    clear z1 HT
    replace HP:=zH (HP.out.next hb)
    replace HR:=zH (HR.out.next hb)
    replace HB:=zH (HB.out.trans (Below.mono hb HB.out.size))
    clear hb
    go_wp2_with fail
    go_ret
    exact⟨by rw [HV.out];rfl,HB.out⟩
   ·have dk:decide (0≤k0)=false:=decide_eq_false hk
    rw [dk]
    clear HT
    go_wp2_with fail
    go_roundw
    case rel=>exact⟨2,rfl,by omega,zH (fun _=>HK1.out (by decide)),zH (fun _=>by omega),HP,HR,HD,HN1,HN2,HB⟩
    case measure=>simp [RowKit.intOf]
  ·have n1:=HK1.out (by decide)
   have n0:=HK2.out rfl
   clear HD HN1 HN2 HK1 HK2
   by_cases ht:t=2
   ·have e_ht:(t==2)=true:=by simpa using ht
    have HV:Hid (J=0):=zH (HL3.out n1 n0 ht)
    go_wp2_with fail
    go_ret
    exact⟨by rw [HV.out];rfl,HB.out⟩
   ·have e_ht:(t==2)=false:=by simpa using ht
    have pf1:=(HP.out.2 1 _ rfl).1
    go_wp2_with fail
    refine(cD _ HB.out).mono ?_
    rintro e w7 ⟨rfl,hb⟩
    clear pf1
    replace HP:=zH (HP.out.next hb)
    replace HR:=zH (HR.out.next hb)
    replace HB:=zH (HB.out.trans (Below.mono hb HB.out.size))
    clear hb
    have pf1:=(HP.out.2 1 _ rfl).1
    go_wp2_with fail
    refine(cE _ HB.out).mono ?_
    rintro e w8 ⟨rfl,hb⟩
    clear pf1
    replace HP:=zH (HP.out.next hb)
    replace HR:=zH (HR.out.next hb)
    replace HB:=zH (HB.out.trans (Below.mono hb HB.out.size))
    clear hb
    cases ex
    ·have pf0:=(HP.out.2 0 _ rfl).1
     obtain⟨r0,r1,r2,r3,r4,r5,r6,r7,r8,r9,r10,r11,r12⟩:=b13X HR.out
     go_wp2_with fail
     refine(cG _).mono ?_
     rintro e w9 ⟨rfl,hb⟩
     clear pf0
     clear r0 r1 r2 r3 r4 r5 r6 r7 r8 r9 r10 r11 r12
     replace HP:=zH (HP.out.next hb)
     replace HR:=zH (HR.out.next hb)
     replace HB:=zH (HB.out.trans (Below.mono hb HB.out.size))
     clear hb
     cases hU:(U||b3)
     ·have HV:Hid (J=0):=zH (HL6.out n1 n0 ht (by trivial) hU)
      go_wp2_with fail
      go_ret
      exact⟨by rw [HV.out];rfl,HB.out⟩
     ·have HV:Hid (J=gueP l0 made):=zH (HL5.out n1 n0 ht (by trivial) hU)
      have pf1:=(HP.out.2 1 _ rfl).1
      go_wp2_with fail
      refine(cQ _ HB.out).mono ?_
      rintro e w10 ⟨rfl,hb⟩
      clear pf1
      replace HP:=zH (HP.out.next hb)
      replace HB:=zH (HB.out.trans (Below.mono hb HB.out.size))
      clear hb
      go_wp2_with fail
      go_ret
      exact⟨by rw [HV.out];rfl,HB.out⟩
    ·have HV:Hid (J=untP eo made):=zH (HL4.out n1 n0 ht (by trivial))
     go_wp2_with fail
     refine(cX _ HB.out).mono ?_
     rintro e w9 ⟨rfl,hb⟩
     replace HP:=zH (HP.out.next hb)
     replace HB:=zH (HB.out.trans (Below.mono hb HB.out.size))
     clear hb
     go_wp2_with fail
     go_ret
     exact⟨by rw [HV.out];rfl,HB.out⟩
end Go.Proofs.YtfaedmbfabfmeaaGreatDoor
