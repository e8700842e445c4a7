/- The walk of the law PolicyTargeted. -/
import Derived.Test.YtfaedmbfabfmeaaGreatDoorZAwk14
import Derived.Test.YtfaedmbfabfmeaaGreatDoorZPoL
import Derived.Test.YtfaedmbfabfmeaaGreatDoorZMAloP
import Derived.Test.YtfaedmbfabfmeaaGreatDoorZMDirS
import Derived.Test.YtfaedmbfabfmeaaGreatDoorZHdM
import Derived.Test.YtfaedmbfabfmeaaGreatDoorZMLgE
import Derived.Deep.RegionHeld3
import Derived.IntWalk
set_option linter.unusedSimpArgs false
set_option linter.unusedVariables false
set_option maxRecDepth 100000
set_option maxHeartbeats 16000000
namespace Go.Proofs.YtfaedmbfabfmeaaGreatDoor
open Go.RowKit Go.Shelf Go.Lib
theorem rulO_form0:rulO none=.agg #[.bool false,.bool false,.bool false,.bool false,.bool false,.bool false,.bool false,.bool false,.int .i64 (-1),.int .i64 (-1),.int .i64 (-1),.int .i64 (-1),.int .i64 (-1)]:=rfl
theorem ptarget_walk (q:Rq) (p:Rp) (f y f2 y2:Value) (a b c:ByteArray) (w:World) (h1:Flds 0 w f q.fs) (h2:BytF 0 w y q.b) (h3:Flds 0 w f2 p.fs) (h4:BytF 0 w y2 p.b) (k1:FldsIn q.fs) (k2:FldsIn p.fs) (ha:a.size≤140737488355328) (hb':b.size≤140737488355328) (hc:c.size≤140737488355328) (hA:Alph w) (hT:Tabs w) (hC:Cal w) :
  Calls Tryz.prog 5 #[.agg #[.string (strB q.m),.string (strB q.t),f,y],.agg #[.int .i64 p.n,f2,y2],.agg #[.string a,.string b,.string c]] w fun e w'=>e=.returned (.bool true)∧Below w.heap.size w w':=by
 have HC:=zH hC
 have HA:=zH hA
 have HT:=zH hT
 have cA:=fun W (hb:Below w.heap.size w W)=>awake14_any W (Alph.below HA.out hb) (Utf8Tabs_below HT.out hb) (Cal.below HC.out hb)
 clear hA hT hC
 obtain⟨fo,fc,rfl,_⟩:=id h1
 obtain⟨yo,yc,rfl,_⟩:=id h2
 obtain⟨go_,gc,rfl,_⟩:=id h3
 obtain⟨zo,zc,rfl,_⟩:=id h4
 have HF:=zH h1
 have HY:=zH h2
 have HF2:=zH h3
 have HY2:=zH h4
 clear h1 h2 h3 h4
 have cS1:=fun W (hb:Below w.heap.size w W)=>rsize_any 0 (.slice fo q.fs.length fc) q.fs W (HF.out.below hb) k1
 have cS2:=fun W (hb:Below w.heap.size w W)=>rsize_any 0 (.slice go_ p.fs.length gc) p.fs W (HF2.out.below hb) k2
 clear k1 k2
 by_cases d1:2000<szH 0 q.fs
 ·have g1:(2000:Int)<((szH 0 q.fs:Nat):Int):=by omega
  generalize strB q.m=m at *
  generalize strB q.t=tg at *
  generalize szH 0 q.fs=Y1 at *
  generalize szH 0 p.fs=Y2 at *
  obtain⟨W1,hW1⟩:∃W1,w.alloc (.cells #[.string m,.string tg,.slice fo q.fs.length fc,.slice yo q.b.length yc] 25)=W1:=⟨_,rfl⟩
  obtain⟨W2,hW2⟩:∃W2,W1.alloc (.cells #[.int .i64 p.n,.slice go_ p.fs.length gc,.slice zo p.b.length zc] 27)=W2:=⟨_,rfl⟩
  obtain⟨W3,hW3⟩:∃W3,W2.alloc (.cells #[.string a,.string b,.string c] 42)=W3:=⟨_,rfl⟩
  have s1:W1.heap.size=w.heap.size+1:=by rw [← hW1];simp
  have s2:W2.heap.size=w.heap.size+1+1:=by rw [← hW2];simp [s1]
  have be1:Below w.heap.size w W1:=by rw [← hW1];exact(Below.refl _ _).alloc (zR _) _
  have be2:Below W1.heap.size W1 W2:=by rw [← hW2];exact(Below.refl _ _).alloc (zR _) _
  have be3:Below W2.heap.size W2 W3:=by rw [← hW3];exact(Below.refl _ _).alloc (zR _) _
  have hx1:BoxN W1 w.heap.size [.string m,.string tg,.slice fo q.fs.length fc,.slice yo q.b.length yc]:=by rw [← hW1];exact BoxN.made w [.string m,.string tg,.slice fo q.fs.length fc,.slice yo q.b.length yc] _
  have HQ:=zH ((hx1.next be2).next be3)
  have hx2:BoxN W2 W1.heap.size [.int .i64 p.n,.slice go_ p.fs.length gc,.slice zo p.b.length zc]:=by rw [← hW2];exact BoxN.made W1 [.int .i64 p.n,.slice go_ p.fs.length gc,.slice zo p.b.length zc] _
  rw [s1]at hx2
  have HP:=zH (hx2.next be3)
  have hx3:BoxN W3 W2.heap.size [.string a,.string b,.string c]:=by rw [← hW3];exact BoxN.made W2 [.string a,.string b,.string c] _
  rw [s2]at hx3
  have HL:=zH hx3
  have HB:=zH ((be1.trans (be2.mono be1.size)).trans (be3.mono (be1.trans (be2.mono be1.size)).size))
  have HW1:=zH hW1
  have HW2:=zH hW2
  have HW3:=zH hW3
  clear hx1 be1 hW1 hx2 be2 hW2 hx3 be3 hW3 s1 s2
  go_enter Tryz.func5,Tryz.ntmps5
  go_wp2_with fail
  rw [HW1.out,HW2.out,HW3.out]
  refine(cA _ HB.out).mono ?_
  rintro e w1 ⟨rfl,hb⟩
  clear HW1 HW2 HW3 cA
  replace HQ:=zH (HQ.out.next hb)
  replace HP:=zH (HP.out.next hb)
  replace HL:=zH (HL.out.next hb)
  replace HB:=zH (HB.out.trans (hb.mono HB.out.size))
  clear hb
  have qf0:=(HQ.out.2 0 _ rfl).1
  have qf1:=(HQ.out.2 1 _ rfl).1
  have qf2:=(HQ.out.2 2 _ rfl).1
  have qf3:=(HQ.out.2 3 _ rfl).1
  have pf0:=(HP.out.2 0 _ rfl).1
  have pf1:=(HP.out.2 1 _ rfl).1
  have pf2:=(HP.out.2 2 _ rfl).1
  have lf0:=(HL.out.2 0 _ rfl).1
  have lf1:=(HL.out.2 1 _ rfl).1
  have lf2:=(HL.out.2 2 _ rfl).1
  go_wp2_with fail
  refine(cS1 _ HB.out).mono ?_
  rintro e w2 ⟨rfl,hb⟩
  clear qf0 qf1 qf2 qf3
  clear pf0 pf1 pf2
  clear lf0 lf1 lf2
  replace HQ:=zH (HQ.out.next hb)
  replace HP:=zH (HP.out.next hb)
  replace HL:=zH (HL.out.next hb)
  replace HB:=zH (HB.out.trans (hb.mono HB.out.size))
  clear hb
  have qf0:=(HQ.out.2 0 _ rfl).1
  have qf1:=(HQ.out.2 1 _ rfl).1
  have qf2:=(HQ.out.2 2 _ rfl).1
  have qf3:=(HQ.out.2 3 _ rfl).1
  have pf0:=(HP.out.2 0 _ rfl).1
  have pf1:=(HP.out.2 1 _ rfl).1
  have pf2:=(HP.out.2 2 _ rfl).1
  have lf0:=(HL.out.2 0 _ rfl).1
  have lf1:=(HL.out.2 1 _ rfl).1
  have lf2:=(HL.out.2 2 _ rfl).1
  go_wp2_with fail
  go_ret
  exact⟨rfl,HB.out⟩
 ·have g1:¬(2000:Int)<((szH 0 q.fs:Nat):Int):=by omega
  by_cases d2:2000<szH 0 p.fs
  ·have g2:(2000:Int)<((szH 0 p.fs:Nat):Int):=by omega
   generalize strB q.m=m at *
   generalize strB q.t=tg at *
   generalize szH 0 q.fs=Y1 at *
   generalize szH 0 p.fs=Y2 at *
   obtain⟨W1,hW1⟩:∃W1,w.alloc (.cells #[.string m,.string tg,.slice fo q.fs.length fc,.slice yo q.b.length yc] 25)=W1:=⟨_,rfl⟩
   obtain⟨W2,hW2⟩:∃W2,W1.alloc (.cells #[.int .i64 p.n,.slice go_ p.fs.length gc,.slice zo p.b.length zc] 27)=W2:=⟨_,rfl⟩
   obtain⟨W3,hW3⟩:∃W3,W2.alloc (.cells #[.string a,.string b,.string c] 42)=W3:=⟨_,rfl⟩
   have s1:W1.heap.size=w.heap.size+1:=by rw [← hW1];simp
   have s2:W2.heap.size=w.heap.size+1+1:=by rw [← hW2];simp [s1]
   have be1:Below w.heap.size w W1:=by rw [← hW1];exact(Below.refl _ _).alloc (zR _) _
   have be2:Below W1.heap.size W1 W2:=by rw [← hW2];exact(Below.refl _ _).alloc (zR _) _
   have be3:Below W2.heap.size W2 W3:=by rw [← hW3];exact(Below.refl _ _).alloc (zR _) _
   have hx1:BoxN W1 w.heap.size [.string m,.string tg,.slice fo q.fs.length fc,.slice yo q.b.length yc]:=by rw [← hW1];exact BoxN.made w [.string m,.string tg,.slice fo q.fs.length fc,.slice yo q.b.length yc] _
   have HQ:=zH ((hx1.next be2).next be3)
   have hx2:BoxN W2 W1.heap.size [.int .i64 p.n,.slice go_ p.fs.length gc,.slice zo p.b.length zc]:=by rw [← hW2];exact BoxN.made W1 [.int .i64 p.n,.slice go_ p.fs.length gc,.slice zo p.b.length zc] _
   rw [s1]at hx2
   have HP:=zH (hx2.next be3)
   have hx3:BoxN W3 W2.heap.size [.string a,.string b,.string c]:=by rw [← hW3];exact BoxN.made W2 [.string a,.string b,.string c] _
   rw [s2]at hx3
   have HL:=zH hx3
   have HB:=zH ((be1.trans (be2.mono be1.size)).trans (be3.mono (be1.trans (be2.mono be1.size)).size))
   have HW1:=zH hW1
   have HW2:=zH hW2
   have HW3:=zH hW3
   clear hx1 be1 hW1 hx2 be2 hW2 hx3 be3 hW3 s1 s2
   go_enter Tryz.func5,Tryz.ntmps5
   go_wp2_with fail
   rw [HW1.out,HW2.out,HW3.out]
   refine(cA _ HB.out).mono ?_
   rintro e w1 ⟨rfl,hb⟩
   clear HW1 HW2 HW3 cA
   replace HQ:=zH (HQ.out.next hb)
   replace HP:=zH (HP.out.next hb)
   replace HL:=zH (HL.out.next hb)
   replace HB:=zH (HB.out.trans (hb.mono HB.out.size))
   clear hb
   have qf0:=(HQ.out.2 0 _ rfl).1
   have qf1:=(HQ.out.2 1 _ rfl).1
   have qf2:=(HQ.out.2 2 _ rfl).1
   have qf3:=(HQ.out.2 3 _ rfl).1
   have pf0:=(HP.out.2 0 _ rfl).1
   have pf1:=(HP.out.2 1 _ rfl).1
   have pf2:=(HP.out.2 2 _ rfl).1
   have lf0:=(HL.out.2 0 _ rfl).1
   have lf1:=(HL.out.2 1 _ rfl).1
   have lf2:=(HL.out.2 2 _ rfl).1
   go_wp2_with fail
   refine(cS1 _ HB.out).mono ?_
   rintro e w2 ⟨rfl,hb⟩
   clear qf0 qf1 qf2 qf3
   clear pf0 pf1 pf2
   clear lf0 lf1 lf2
   replace HQ:=zH (HQ.out.next hb)
   replace HP:=zH (HP.out.next hb)
   replace HL:=zH (HL.out.next hb)
   replace HB:=zH (HB.out.trans (hb.mono HB.out.size))
   clear hb
   have qf0:=(HQ.out.2 0 _ rfl).1
   have qf1:=(HQ.out.2 1 _ rfl).1
   have qf2:=(HQ.out.2 2 _ rfl).1
   have qf3:=(HQ.out.2 3 _ rfl).1
   have pf0:=(HP.out.2 0 _ rfl).1
   have pf1:=(HP.out.2 1 _ rfl).1
   have pf2:=(HP.out.2 2 _ rfl).1
   have lf0:=(HL.out.2 0 _ rfl).1
   have lf1:=(HL.out.2 1 _ rfl).1
   have lf2:=(HL.out.2 2 _ rfl).1
   go_wp2_with fail
   refine(cS2 _ HB.out).mono ?_
   rintro e w3 ⟨rfl,hb⟩
   clear qf0 qf1 qf2 qf3
   clear pf0 pf1 pf2
   clear lf0 lf1 lf2
   replace HQ:=zH (HQ.out.next hb)
   replace HP:=zH (HP.out.next hb)
   replace HL:=zH (HL.out.next hb)
   replace HB:=zH (HB.out.trans (hb.mono HB.out.size))
   clear hb
   have qf0:=(HQ.out.2 0 _ rfl).1
   have qf1:=(HQ.out.2 1 _ rfl).1
   have qf2:=(HQ.out.2 2 _ rfl).1
   have qf3:=(HQ.out.2 3 _ rfl).1
   have pf0:=(HP.out.2 0 _ rfl).1
   have pf1:=(HP.out.2 1 _ rfl).1
   have pf2:=(HP.out.2 2 _ rfl).1
   have lf0:=(HL.out.2 0 _ rfl).1
   have lf1:=(HL.out.2 1 _ rfl).1
   have lf2:=(HL.out.2 2 _ rfl).1
   go_wp2_with fail
   go_ret
   exact⟨rfl,HB.out⟩
  ·have g2:¬(2000:Int)<((szH 0 p.fs:Nat):Int):=by omega
   by_cases d3:1000<a.size+b.size+c.size
   ·have g3:(1000:Int)<(a.size:Int)+(b.size:Int)+(c.size:Int):=by omega
    generalize strB q.m=m at *
    generalize strB q.t=tg at *
    generalize szH 0 q.fs=Y1 at *
    generalize szH 0 p.fs=Y2 at *
    obtain⟨W1,hW1⟩:∃W1,w.alloc (.cells #[.string m,.string tg,.slice fo q.fs.length fc,.slice yo q.b.length yc] 25)=W1:=⟨_,rfl⟩
    obtain⟨W2,hW2⟩:∃W2,W1.alloc (.cells #[.int .i64 p.n,.slice go_ p.fs.length gc,.slice zo p.b.length zc] 27)=W2:=⟨_,rfl⟩
    obtain⟨W3,hW3⟩:∃W3,W2.alloc (.cells #[.string a,.string b,.string c] 42)=W3:=⟨_,rfl⟩
    have s1:W1.heap.size=w.heap.size+1:=by rw [← hW1];simp
    have s2:W2.heap.size=w.heap.size+1+1:=by rw [← hW2];simp [s1]
    have be1:Below w.heap.size w W1:=by rw [← hW1];exact(Below.refl _ _).alloc (zR _) _
    have be2:Below W1.heap.size W1 W2:=by rw [← hW2];exact(Below.refl _ _).alloc (zR _) _
    have be3:Below W2.heap.size W2 W3:=by rw [← hW3];exact(Below.refl _ _).alloc (zR _) _
    have hx1:BoxN W1 w.heap.size [.string m,.string tg,.slice fo q.fs.length fc,.slice yo q.b.length yc]:=by rw [← hW1];exact BoxN.made w [.string m,.string tg,.slice fo q.fs.length fc,.slice yo q.b.length yc] _
    have HQ:=zH ((hx1.next be2).next be3)
    have hx2:BoxN W2 W1.heap.size [.int .i64 p.n,.slice go_ p.fs.length gc,.slice zo p.b.length zc]:=by rw [← hW2];exact BoxN.made W1 [.int .i64 p.n,.slice go_ p.fs.length gc,.slice zo p.b.length zc] _
    rw [s1]at hx2
    have HP:=zH (hx2.next be3)
    have hx3:BoxN W3 W2.heap.size [.string a,.string b,.string c]:=by rw [← hW3];exact BoxN.made W2 [.string a,.string b,.string c] _
    rw [s2]at hx3
    have HL:=zH hx3
    have HB:=zH ((be1.trans (be2.mono be1.size)).trans (be3.mono (be1.trans (be2.mono be1.size)).size))
    have HW1:=zH hW1
    have HW2:=zH hW2
    have HW3:=zH hW3
    clear hx1 be1 hW1 hx2 be2 hW2 hx3 be3 hW3 s1 s2
    go_enter Tryz.func5,Tryz.ntmps5
    go_wp2_with fail
    rw [HW1.out,HW2.out,HW3.out]
    refine(cA _ HB.out).mono ?_
    rintro e w1 ⟨rfl,hb⟩
    clear HW1 HW2 HW3 cA
    replace HQ:=zH (HQ.out.next hb)
    replace HP:=zH (HP.out.next hb)
    replace HL:=zH (HL.out.next hb)
    replace HB:=zH (HB.out.trans (hb.mono HB.out.size))
    clear hb
    have qf0:=(HQ.out.2 0 _ rfl).1
    have qf1:=(HQ.out.2 1 _ rfl).1
    have qf2:=(HQ.out.2 2 _ rfl).1
    have qf3:=(HQ.out.2 3 _ rfl).1
    have pf0:=(HP.out.2 0 _ rfl).1
    have pf1:=(HP.out.2 1 _ rfl).1
    have pf2:=(HP.out.2 2 _ rfl).1
    have lf0:=(HL.out.2 0 _ rfl).1
    have lf1:=(HL.out.2 1 _ rfl).1
    have lf2:=(HL.out.2 2 _ rfl).1
    go_wp2_with fail
    refine(cS1 _ HB.out).mono ?_
    rintro e w2 ⟨rfl,hb⟩
    clear qf0 qf1 qf2 qf3
    clear pf0 pf1 pf2
    clear lf0 lf1 lf2
    replace HQ:=zH (HQ.out.next hb)
    replace HP:=zH (HP.out.next hb)
    replace HL:=zH (HL.out.next hb)
    replace HB:=zH (HB.out.trans (hb.mono HB.out.size))
    clear hb
    have qf0:=(HQ.out.2 0 _ rfl).1
    have qf1:=(HQ.out.2 1 _ rfl).1
    have qf2:=(HQ.out.2 2 _ rfl).1
    have qf3:=(HQ.out.2 3 _ rfl).1
    have pf0:=(HP.out.2 0 _ rfl).1
    have pf1:=(HP.out.2 1 _ rfl).1
    have pf2:=(HP.out.2 2 _ rfl).1
    have lf0:=(HL.out.2 0 _ rfl).1
    have lf1:=(HL.out.2 1 _ rfl).1
    have lf2:=(HL.out.2 2 _ rfl).1
    go_wp2_with fail
    refine(cS2 _ HB.out).mono ?_
    rintro e w3 ⟨rfl,hb⟩
    clear qf0 qf1 qf2 qf3
    clear pf0 pf1 pf2
    clear lf0 lf1 lf2
    replace HQ:=zH (HQ.out.next hb)
    replace HP:=zH (HP.out.next hb)
    replace HL:=zH (HL.out.next hb)
    replace HB:=zH (HB.out.trans (hb.mono HB.out.size))
    clear hb
    have qf0:=(HQ.out.2 0 _ rfl).1
    have qf1:=(HQ.out.2 1 _ rfl).1
    have qf2:=(HQ.out.2 2 _ rfl).1
    have qf3:=(HQ.out.2 3 _ rfl).1
    have pf0:=(HP.out.2 0 _ rfl).1
    have pf1:=(HP.out.2 1 _ rfl).1
    have pf2:=(HP.out.2 2 _ rfl).1
    have lf0:=(HL.out.2 0 _ rfl).1
    have lf1:=(HL.out.2 1 _ rfl).1
    have lf2:=(HL.out.2 2 _ rfl).1
    go_wp2_with fail
    go_ret
    exact⟨rfl,HB.out⟩
   ·have g3:¬(1000:Int)<(a.size:Int)+(b.size:Int)+(c.size:Int):=by omega
    obtain⟨n1,n2⟩:=szH_ok q.fs (by omega)
    obtain⟨n3,n4⟩:=szH_ok p.fs (by omega)
    have j1:∀n,(joinH (allH q.fs n)).length≤90000:=fun n=>Nat.le_trans (join_small q.fs n) (by omega)
    obtain⟨l0,hl0⟩:∃l,strB l=a:=⟨a.data.toList,strB_of a⟩
    obtain⟨l1,hl1⟩:∃l,strB l=b:=⟨b.data.toList,strB_of b⟩
    obtain⟨l2,hl2⟩:∃l,strB l=c:=⟨c.data.toList,strB_of c⟩
    have z0:l0.length≤1000:=by rw [← strB_size,hl0];omega
    have z1:l1.length≤1000:=by rw [← strB_size,hl1];omega
    have z2:l2.length≤1000:=by rw [← strB_size,hl2];omega
    have r0:=wth_okP p.fs [nCdn] 10000 n4
    have r1:(prF (tgtF p.fs l0)).length≤11104:=app_okP _ nCdn l0 10000 (by decide) z0 r0
    have r2:=wth_okP (tgtF p.fs l0) [nCtl,nExp,nLmd] 11104 r1
    have r3:=app_okP _ nCtl l1 11104 (by decide) z1 r2
    have r4:(prF (ovrF (tgtF p.fs l0) l1 l2)).length≤13312:=app_okP _ nExp l2 12208 (by decide) z2 r3
    obtain⟨o0,i0⟩:=ok_ofP _ _ r0 (by decide)
    obtain⟨o1,i1⟩:=ok_ofP _ _ r1 (by decide)
    obtain⟨o2,i2⟩:=ok_ofP _ _ r2 (by decide)
    obtain⟨o3,i3⟩:=ok_ofP _ _ r3 (by decide)
    obtain⟨o4,i4⟩:=ok_ofP _ _ r4 (by decide)
    have cW:=fun W v2 (hb:Below w.heap.size w W) (h2:StrsF W v2 [nCdn])=>hwithout_any 0 (.slice go_ p.fs.length gc) v2 p.fs [nCdn] W (HF2.out.below hb) h2 n3 (by decide) (by decide)
    have cV:=fun u W (h:Flds (w.heap.size+1+1+1) W u (withoutH p.fs [nCdn]))=>hwith_any _ u (withoutH p.fs [nCdn]) (nCdn,l0) W h o0.1
    have cM:=fun W hA=>mparse_any a W (by omega) hA
    rw [← hl0,strB_data,hl0]at cM
    dsimp only at cV
    rw [hl0,show strB nCdn=(⟨#[99,100,110,45,99,97,99,104,101,45,99,111,110,116,114,111,108]⟩:ByteArray)from rfl]at cV
    clear n3 n4 r0 r1 r2 r3 r4 z0 z1 z2
    obtain⟨m,hMQ⟩:∃m,strB q.m=m:=⟨_,rfl⟩
    obtain⟨tg,hTQ⟩:∃m,strB q.t=m:=⟨_,rfl⟩
    rw [hMQ,hTQ]
    generalize szH 0 q.fs=Y1 at *
    generalize szH 0 p.fs=Y2 at *
    obtain⟨W1,hW1⟩:∃W1,w.alloc (.cells #[.string m,.string tg,.slice fo q.fs.length fc,.slice yo q.b.length yc] 25)=W1:=⟨_,rfl⟩
    obtain⟨W2,hW2⟩:∃W2,W1.alloc (.cells #[.int .i64 p.n,.slice go_ p.fs.length gc,.slice zo p.b.length zc] 27)=W2:=⟨_,rfl⟩
    obtain⟨W3,hW3⟩:∃W3,W2.alloc (.cells #[.string a,.string b,.string c] 42)=W3:=⟨_,rfl⟩
    have s1:W1.heap.size=w.heap.size+1:=by rw [← hW1];simp
    have s2:W2.heap.size=w.heap.size+1+1:=by rw [← hW2];simp [s1]
    have be1:Below w.heap.size w W1:=by rw [← hW1];exact(Below.refl _ _).alloc (zR _) _
    have be2:Below W1.heap.size W1 W2:=by rw [← hW2];exact(Below.refl _ _).alloc (zR _) _
    have be3:Below W2.heap.size W2 W3:=by rw [← hW3];exact(Below.refl _ _).alloc (zR _) _
    have hx1:BoxN W1 w.heap.size [.string m,.string tg,.slice fo q.fs.length fc,.slice yo q.b.length yc]:=by rw [← hW1];exact BoxN.made w [.string m,.string tg,.slice fo q.fs.length fc,.slice yo q.b.length yc] _
    have HQ:=zH ((hx1.next be2).next be3)
    have hx2:BoxN W2 W1.heap.size [.int .i64 p.n,.slice go_ p.fs.length gc,.slice zo p.b.length zc]:=by rw [← hW2];exact BoxN.made W1 [.int .i64 p.n,.slice go_ p.fs.length gc,.slice zo p.b.length zc] _
    rw [s1]at hx2
    have HP:=zH (hx2.next be3)
    have hx3:BoxN W3 W2.heap.size [.string a,.string b,.string c]:=by rw [← hW3];exact BoxN.made W2 [.string a,.string b,.string c] _
    rw [s2]at hx3
    have HL:=zH hx3
    have HB:=zH ((be1.trans (be2.mono be1.size)).trans (be3.mono (be1.trans (be2.mono be1.size)).size))
    have HW1:=zH hW1
    have HW2:=zH hW2
    have HW3:=zH hW3
    clear hx1 be1 hW1 hx2 be2 hW2 hx3 be3 hW3 s1 s2
    go_enter Tryz.func5,Tryz.ntmps5
    go_wp2_with fail
    rw [HW1.out,HW2.out,HW3.out]
    refine(cA _ HB.out).mono ?_
    rintro e w1 ⟨rfl,hb⟩
    clear HW1 HW2 HW3 cA
    replace HQ:=zH (HQ.out.next hb)
    replace HP:=zH (HP.out.next hb)
    replace HL:=zH (HL.out.next hb)
    replace HB:=zH (HB.out.trans (hb.mono HB.out.size))
    clear hb
    have qf0:=(HQ.out.2 0 _ rfl).1
    have qf1:=(HQ.out.2 1 _ rfl).1
    have qf2:=(HQ.out.2 2 _ rfl).1
    have qf3:=(HQ.out.2 3 _ rfl).1
    have pf0:=(HP.out.2 0 _ rfl).1
    have pf1:=(HP.out.2 1 _ rfl).1
    have pf2:=(HP.out.2 2 _ rfl).1
    have lf0:=(HL.out.2 0 _ rfl).1
    have lf1:=(HL.out.2 1 _ rfl).1
    have lf2:=(HL.out.2 2 _ rfl).1
    go_wp2_with fail
    refine(cS1 _ HB.out).mono ?_
    rintro e w2 ⟨rfl,hb⟩
    clear qf0 qf1 qf2 qf3
    clear pf0 pf1 pf2
    clear lf0 lf1 lf2
    replace HQ:=zH (HQ.out.next hb)
    replace HP:=zH (HP.out.next hb)
    replace HL:=zH (HL.out.next hb)
    replace HB:=zH (HB.out.trans (hb.mono HB.out.size))
    clear hb
    have qf0:=(HQ.out.2 0 _ rfl).1
    have qf1:=(HQ.out.2 1 _ rfl).1
    have qf2:=(HQ.out.2 2 _ rfl).1
    have qf3:=(HQ.out.2 3 _ rfl).1
    have pf0:=(HP.out.2 0 _ rfl).1
    have pf1:=(HP.out.2 1 _ rfl).1
    have pf2:=(HP.out.2 2 _ rfl).1
    have lf0:=(HL.out.2 0 _ rfl).1
    have lf1:=(HL.out.2 1 _ rfl).1
    have lf2:=(HL.out.2 2 _ rfl).1
    go_wp2_with fail
    refine(cS2 _ HB.out).mono ?_
    rintro e w3 ⟨rfl,hb⟩
    clear qf0 qf1 qf2 qf3
    clear pf0 pf1 pf2
    clear lf0 lf1 lf2
    replace HQ:=zH (HQ.out.next hb)
    replace HP:=zH (HP.out.next hb)
    replace HL:=zH (HL.out.next hb)
    replace HB:=zH (HB.out.trans (hb.mono HB.out.size))
    clear hb
    have qf0:=(HQ.out.2 0 _ rfl).1
    have qf1:=(HQ.out.2 1 _ rfl).1
    have qf2:=(HQ.out.2 2 _ rfl).1
    have qf3:=(HQ.out.2 3 _ rfl).1
    have pf0:=(HP.out.2 0 _ rfl).1
    have pf1:=(HP.out.2 1 _ rfl).1
    have pf2:=(HP.out.2 2 _ rfl).1
    have lf0:=(HL.out.2 0 _ rfl).1
    have lf1:=(HL.out.2 1 _ rfl).1
    have lf2:=(HL.out.2 2 _ rfl).1
    go_wp2_with fail
    have hb:=(Below.refl w3.heap.size w3).alloc (zR _) (.cells #[.string ⟨#[99,100,110,45,99,97,99,104,101,45,99,111,110,116,114,111,108]⟩] 9)
    have hn:StrsF (w3.alloc (.cells #[.string ⟨#[99,100,110,45,99,97,99,104,101,45,99,111,110,116,114,111,108]⟩] 9)) (.slice (some ⟨w3.heap.size,0,none⟩) 1 1) [nCdn]:=strs_oneP w3 nCdn _
    have HN:=zH hn
    clear hn
    clear qf0 qf1 qf2 qf3
    clear pf0 pf1 pf2
    clear lf0 lf1 lf2
    replace HQ:=zH (HQ.out.next hb)
    replace HP:=zH (HP.out.next hb)
    replace HL:=zH (HL.out.next hb)
    replace HB:=zH (HB.out.trans (hb.mono HB.out.size))
    clear hb
    generalize w3.alloc (.cells #[.string ⟨#[99,100,110,45,99,97,99,104,101,45,99,111,110,116,114,111,108]⟩] 9)=W4 at *
    generalize w3.heap.size=D3 at *
    refine(cW _ _ HB.out HN.out).mono ?_
    rintro e w4 ⟨⟨u,rfl,hown⟩,hb⟩
    have hsz:w.heap.size+1+1<W4.heap.size:=HL.out.1
    have hu4:=Flds.of_own (lo:=w.heap.size+1+1+1) hown (by omega)
    obtain⟨uo,uc,rfl⟩:=owns_formF hown
    clear hown cW HN hsz
    replace HQ:=zH (HQ.out.next hb)
    replace HP:=zH (HP.out.next hb)
    replace HL:=zH (HL.out.next hb)
    replace HB:=zH (HB.out.trans (hb.mono HB.out.size))
    clear hb
    generalize(withoutH p.fs [nCdn]).length=N1 at *
    generalize hU:Value.slice uo N1 uc=u at *
    obtain⟨W5,hW5⟩:∃W5,w4.setCell ⟨w.heap.size+1,1,none⟩ u=W5:=⟨_,rfl⟩
    obtain⟨W6,hW6⟩:∃W6,W5.alloc (.cells #[.int .i64 p.n,u,.slice zo p.b.length zc] 27)=W6:=⟨_,rfl⟩
    have s5:W5.heap.size=w4.heap.size:=by rw [← hW5];simp
    have hlt:w.heap.size+1+1<w4.heap.size:=HL.out.1
    have hp5:BoxN W5 (w.heap.size+1) [.int .i64 p.n,u,.slice zo p.b.length zc]:=by rw [← hW5];exact HP.out.set 1 u (by simp)
    have hq5:BoxN W5 w.heap.size [.string m,.string tg,.slice fo q.fs.length fc,.slice yo q.b.length yc]:=by rw [← hW5];exact HQ.out.other (by omega) u
    have hl5:BoxN W5 (w.heap.size+1+1) [.string a,.string b,.string c]:=by rw [← hW5];exact HL.out.other (by omega) u
    have hu5:Flds (w.heap.size+1+1+1) W5 u (withoutH p.fs [nCdn]):=by rw [← hW5];exact hu4.setP (by omega) u
    have be5:Below w.heap.size w W5:=by rw [← hW5];exact HB.out.setCell (p:=⟨w.heap.size+1,1,none⟩) (by show w.heap.size≤w.heap.size+1;omega) u
    have be6:Below W5.heap.size W5 W6:=by rw [← hW6];exact(Below.refl _ _).alloc (zR _) _
    have ha6:BoxN W6 W5.heap.size [.int .i64 p.n,u,.slice zo p.b.length zc]:=by rw [← hW6];exact BoxN.made W5 [.int .i64 p.n,u,.slice zo p.b.length zc] _
    rw [s5]at ha6
    have pf1:=(HP.out.2 1 _ rfl).1
    have pz1:=(HP.out.2 1 _ rfl).2
    have p50:(w4.setCell ⟨w.heap.size+1,1,none⟩ u).cell? ⟨w.heap.size+1,0,none⟩=some (.int .i64 p.n):=by rw [hW5];exact(hp5.2 0 _ rfl).1
    have p51:(w4.setCell ⟨w.heap.size+1,1,none⟩ u).cell? ⟨w.heap.size+1,1,none⟩=some (u):=by rw [hW5];exact(hp5.2 1 _ rfl).1
    have p52:(w4.setCell ⟨w.heap.size+1,1,none⟩ u).cell? ⟨w.heap.size+1,2,none⟩=some (.slice zo p.b.length zc):=by rw [hW5];exact(hp5.2 2 _ rfl).1
    have p6:((w4.setCell ⟨w.heap.size+1,1,none⟩ u).alloc (.cells #[.int .i64 p.n,u,.slice zo p.b.length zc] 27)).cell? ⟨w.heap.size+1,1,none⟩=some u:=by rw [hW5,hW6];exact((hp5.next be6).2 1 _ rfl).1
    have l6:((w4.setCell ⟨w.heap.size+1,1,none⟩ u).alloc (.cells #[.int .i64 p.n,u,.slice zo p.b.length zc] 27)).cell? ⟨w.heap.size+1+1,0,none⟩=some (.string a):=by rw [hW5,hW6];exact((hl5.next be6).2 0 _ rfl).1
    have HX5:=zH hu5
    have HB5:=zH be5
    have HE6:=zH be6
    have HP5:=zH hp5
    have HQ5:=zH hq5
    have HL5:=zH hl5
    have HA6:=zH ha6
    have HW5:=zH hW5
    have HW6:=zH hW6
    have HS5:=zH s5
    clear hu4 hu5 be5 be6 hp5 hq5 hl5 ha6 hW5 hW6 s5 HP HQ HL HB hlt
    subst hU
    go_wp2_with fail
    clear p50 p51 p52 p6 l6 pf1 pz1
    rw [HW5.out,HW6.out]
    refine(cV _ _ (HX5.out.below HE6.out)).mono ?_
    rintro e w6 ⟨⟨u2,rfl,hown⟩,hb⟩
    clear HW5 HW6
    have hsz:w4.heap.size<W6.heap.size:=HA6.out.1
    have hu6:=Flds.of_own (lo:=w4.heap.size+1) hown (by omega)
    obtain⟨vo,vc,rfl⟩:=owns_formF hown
    clear hown cV hsz
    generalize(withoutH p.fs [nCdn]++[(nCdn,l0)]).length=N2 at *
    generalize hU2:Value.slice vo N2 vc=u2 at *
    generalize hU:Value.slice uo N1 uc=u at *
    have ha7:=HA6.out.next hb
    have be67:=HE6.out.trans (hb.mono HE6.out.size)
    obtain⟨X,hX⟩:∃X,w6.setCell ⟨w4.heap.size,1,none⟩ u2=X:=⟨_,rfl⟩
    have s5:=HS5.out
    have be7:Below W5.heap.size W5 X:=by rw [← hX];exact be67.setCell (p:=⟨w4.heap.size,1,none⟩) (by show W5.heap.size≤w4.heap.size;omega) u2
    have hax:BoxN X w4.heap.size [.int .i64 p.n,u2,.slice zo p.b.length zc]:=by rw [← hX];exact ha7.set 1 u2 (by simp)
    have hux:Flds 0 X u (withoutH p.fs [nCdn]):=(HX5.out.below be7).low (Nat.zero_le _)
    have hvx:Flds 0 X u2 (tgtF p.fs l0):=by rw [← hX];exact(hu6.setP (by omega) u2).low (Nat.zero_le _)
    have hax1:=(ha7.2 1 _ rfl).1
    have haz1:=(ha7.2 1 _ rfl).2
    have hlx:(w6.setCell ⟨w4.heap.size,1,none⟩ u2).cell? ⟨w.heap.size+1+1,0,none⟩=some (.string a):=by rw [hX];exact((HL5.out.next be7).2 0 _ rfl).1
    have HBX:=zH (HB5.out.trans (be7.mono HB5.out.size))
    have HQX:=zH (HQ5.out.next be7)
    have HPX:=zH (HP5.out.next be7)
    have HLX:=zH (HL5.out.next be7)
    have HAX:=zH hax
    have HUX:=zH hux
    have HVX:=zH hvx
    have HXX:=zH hX
    clear HX5 HB5 HE6 HP5 HQ5 HL5 HA6 HS5 hb ha7 be67 be7 hax hux hvx hu6 hX s5
    subst hU hU2
    go_wp2_with fail
    rw [HXX.out]
    clear hax1 haz1 hlx HXX
    have cx1:=fun W (hb:Below X.heap.size X W)=>pstor_any 0 q ⟨p.n,tgtF p.fs l0,p.b⟩ (.slice fo q.fs.length fc) (.slice yo q.b.length yc) (.slice vo N2 vc) (.slice zo p.b.length zc) W (HF.out.below (HBX.out.trans (hb.mono HBX.out.size))) (BytF.below HY.out (HBX.out.trans (hb.mono HBX.out.size))) (HVX.out.below hb) (BytF.below HY2.out (HBX.out.trans (hb.mono HBX.out.size))) n1 o1 j1 i1 (Alph.below HA.out (HBX.out.trans (hb.mono HBX.out.size))) (Utf8Tabs_below HT.out (HBX.out.trans (hb.mono HBX.out.size)))
    have cy2:=fun W (hb:Below X.heap.size X W)=>pstor_any 0 q ⟨p.n,withoutH p.fs [nCdn],p.b⟩ (.slice fo q.fs.length fc) (.slice yo q.b.length yc) (.slice uo N1 uc) (.slice zo p.b.length zc) W (HF.out.below (HBX.out.trans (hb.mono HBX.out.size))) (BytF.below HY.out (HBX.out.trans (hb.mono HBX.out.size))) (HUX.out.below hb) (BytF.below HY2.out (HBX.out.trans (hb.mono HBX.out.size))) n1 o0 j1 i0 (Alph.below HA.out (HBX.out.trans (hb.mono HBX.out.size))) (Utf8Tabs_below HT.out (HBX.out.trans (hb.mono HBX.out.size)))
    have cx3:=fun W (hb:Below X.heap.size X W)=>plif_any 0 ⟨p.n,tgtF p.fs l0,p.b⟩ (.slice vo N2 vc) (.slice zo p.b.length zc) 5 W (HVX.out.below hb) (BytF.below HY2.out (HBX.out.trans (hb.mono HBX.out.size))) o1 i1 (Alph.below HA.out (HBX.out.trans (hb.mono HBX.out.size))) (Utf8Tabs_below HT.out (HBX.out.trans (hb.mono HBX.out.size))) (Cal.below HC.out (HBX.out.trans (hb.mono HBX.out.size)))
    have cy4:=fun W (hb:Below X.heap.size X W)=>plif_any 0 ⟨p.n,withoutH p.fs [nCdn],p.b⟩ (.slice uo N1 uc) (.slice zo p.b.length zc) 5 W (HUX.out.below hb) (BytF.below HY2.out (HBX.out.trans (hb.mono HBX.out.size))) o0 i0 (Alph.below HA.out (HBX.out.trans (hb.mono HBX.out.size))) (Utf8Tabs_below HT.out (HBX.out.trans (hb.mono HBX.out.size))) (Cal.below HC.out (HBX.out.trans (hb.mono HBX.out.size)))
    dsimp only at cx1 cy2 cx3 cy4
    rw [hMQ,hTQ]at cx1 cy2
    have cW2:=fun W v2 (hb:Below X.heap.size X W) (h2:StrsF W v2 [nCtl,nExp,nLmd])=>hwithout_any 0 (.slice vo N2 vc) v2 (tgtF p.fs l0) [nCtl,nExp,nLmd] W (HVX.out.below hb) h2 o1 (by decide) (by decide)
    have cV2:=fun u W (h:Flds 0 W u (withoutH (tgtF p.fs l0) [nCtl,nExp,nLmd]))=>hwith_any _ u _ (nCtl,l1) W h o2.1
    have cV3:=fun u W (h:Flds 0 W u (withoutH (tgtF p.fs l0) [nCtl,nExp,nLmd]++[(nCtl,l1)]))=>hwith_any _ u _ (nExp,l2) W h o3.1
    dsimp only at cV2 cV3
    rw [hl1,show strB nCtl=(⟨#[99,97,99,104,101,45,99,111,110,116,114,111,108]⟩:ByteArray)from rfl]at cV2
    rw [hl2,show strB nExp=(⟨#[101,120,112,105,114,101,115]⟩:ByteArray)from rfl]at cV3
    cases hm:modL l0 with
    | none =>
     clear cW2 cV2 cV3
     rw [hm]at cM
     simp only [modA,rulO_form0]at cM
     rw [tgt_stor_no _ _ _ _ _ hm]at cx1
     rw [tgt_lif_no _ _ _ _ hm]at cx3
     generalize storP q.m q.fs p.n (withoutH p.fs [nCdn])=B at *
     generalize lifP p.n (withoutH p.fs [nCdn]) 5=K at *
     refine(cM X (Alph.below HA.out HBX.out)).mono ?_
     rintro e w8 ⟨rfl,hb⟩
     obtain⟨V,hV⟩:∃V,w8.alloc (.cells #[.bool false,.bool false,.bool false,.bool false,.bool false,.bool false,.bool false,.bool false,.int .i64 (-1),.int .i64 (-1),.int .i64 (-1),.int .i64 (-1),.int .i64 (-1)] 34)=V:=⟨_,rfl⟩
     have be9:Below X.heap.size X V:=by rw [← hV];exact hb.alloc hb.size _
     have HS:Hid (boxesP X w.heap.size [.string m,.string tg,.slice fo q.fs.length fc,.slice yo q.b.length yc] w4.heap.size [.int .i64 p.n,.slice vo N2 vc,.slice zo p.b.length zc] (w.heap.size+1) [.int .i64 p.n,.slice uo N1 uc,.slice zo p.b.length zc] V.drew):=zH ((boxesP.mk (HQX.out.next be9) (HAX.out.next be9) (HPX.out.next be9) be9).next (drewA V))
     have HV:=zH hV
     clear hV be9 hb cM
     go_wp2_with fail
     rw [HV.out]
     clear HV
     have kj1:∀W,boxesP X w.heap.size [.string m,.string tg,.slice fo q.fs.length fc,.slice yo q.b.length yc] w4.heap.size [.int .i64 p.n,.slice vo N2 vc,.slice zo p.b.length zc] (w.heap.size+1) [.int .i64 p.n,.slice uo N1 uc,.slice zo p.b.length zc] W→Calls Tryz.prog 9 #[.agg #[.string m,.string tg,.slice fo q.fs.length fc,.slice yo q.b.length yc],.agg #[.int .i64 p.n,.slice vo N2 vc,.slice zo p.b.length zc]] W fun e W=>e=.returned (.bool B)∧boxesP X w.heap.size [.string m,.string tg,.slice fo q.fs.length fc,.slice yo q.b.length yc] w4.heap.size [.int .i64 p.n,.slice vo N2 vc,.slice zo p.b.length zc] (w.heap.size+1) [.int .i64 p.n,.slice uo N1 uc,.slice zo p.b.length zc] W:=fun W h=>(cx1 W h.below).mono fun e w' hh=>⟨hh.1,h.next hh.2⟩
     have kj2:∀W,boxesP X w.heap.size [.string m,.string tg,.slice fo q.fs.length fc,.slice yo q.b.length yc] w4.heap.size [.int .i64 p.n,.slice vo N2 vc,.slice zo p.b.length zc] (w.heap.size+1) [.int .i64 p.n,.slice uo N1 uc,.slice zo p.b.length zc] W→Calls Tryz.prog 9 #[.agg #[.string m,.string tg,.slice fo q.fs.length fc,.slice yo q.b.length yc],.agg #[.int .i64 p.n,.slice uo N1 uc,.slice zo p.b.length zc]] W fun e W=>e=.returned (.bool B)∧boxesP X w.heap.size [.string m,.string tg,.slice fo q.fs.length fc,.slice yo q.b.length yc] w4.heap.size [.int .i64 p.n,.slice vo N2 vc,.slice zo p.b.length zc] (w.heap.size+1) [.int .i64 p.n,.slice uo N1 uc,.slice zo p.b.length zc] W:=fun W h=>(cy2 W h.below).mono fun e w' hh=>⟨hh.1,h.next hh.2⟩
     have kj3:∀W,boxesP X w.heap.size [.string m,.string tg,.slice fo q.fs.length fc,.slice yo q.b.length yc] w4.heap.size [.int .i64 p.n,.slice vo N2 vc,.slice zo p.b.length zc] (w.heap.size+1) [.int .i64 p.n,.slice uo N1 uc,.slice zo p.b.length zc] W→Calls Tryz.prog 11 #[.agg #[.int .i64 p.n,.slice vo N2 vc,.slice zo p.b.length zc],.int .i64 5] W fun e W=>e=.returned (.int .i64 K)∧boxesP X w.heap.size [.string m,.string tg,.slice fo q.fs.length fc,.slice yo q.b.length yc] w4.heap.size [.int .i64 p.n,.slice vo N2 vc,.slice zo p.b.length zc] (w.heap.size+1) [.int .i64 p.n,.slice uo N1 uc,.slice zo p.b.length zc] W:=fun W h=>(cx3 W h.below).mono fun e w' hh=>⟨hh.1,h.next hh.2⟩
     have kj4:∀W,boxesP X w.heap.size [.string m,.string tg,.slice fo q.fs.length fc,.slice yo q.b.length yc] w4.heap.size [.int .i64 p.n,.slice vo N2 vc,.slice zo p.b.length zc] (w.heap.size+1) [.int .i64 p.n,.slice uo N1 uc,.slice zo p.b.length zc] W→Calls Tryz.prog 11 #[.agg #[.int .i64 p.n,.slice uo N1 uc,.slice zo p.b.length zc],.int .i64 5] W fun e W=>e=.returned (.int .i64 K)∧boxesP X w.heap.size [.string m,.string tg,.slice fo q.fs.length fc,.slice yo q.b.length yc] w4.heap.size [.int .i64 p.n,.slice vo N2 vc,.slice zo p.b.length zc] (w.heap.size+1) [.int .i64 p.n,.slice uo N1 uc,.slice zo p.b.length zc] W:=fun W h=>(cy4 W h.below).mono fun e w' hh=>⟨hh.1,h.next hh.2⟩
     clear cx1 cx3 cy2 cy4
     refine wp_region_held_drew (S:=(boxesP X w.heap.size [.string m,.string tg,.slice fo q.fs.length fc,.slice yo q.b.length yc] w4.heap.size [.int .i64 p.n,.slice vo N2 vc,.slice zo p.b.length zc] (w.heap.size+1) [.int .i64 p.n,.slice uo N1 uc,.slice zo p.b.length zc])) (by kernel_rfl) ?_ (fun hHeld=>?_)
     ·exact HS.out
     refine wpAnyH_take (i:=0) (v:=?_) rfl (by kernel_rfl) (by kernel_rfl) (by kernel_rfl) (fun _ _ _ h=>h) (Or.inl ⟨by rfl,?_⟩) (by assumption) ?_
     rotate_left 1
     ·intro w hSw;(try dsimp only at hSw);go_simp;(try with_reducible rfl)
     try simp only [Act.put,List.getElem_toArray,List.getElem_cons_zero,List.setIfInBounds_toArray,List.set_cons_zero,List.set_cons_succ]
     refine wpAnyH_take (i:=1) (v:=?_) rfl (by kernel_rfl) (by kernel_rfl) (by kernel_rfl) (fun _ _ _ h=>h) (Or.inl ⟨by rfl,?_⟩) (by assumption) ?_
     rotate_left 1
     ·intro w hSw;(try dsimp only at hSw);go_simp;(try with_reducible rfl)
     try simp only [Act.put,List.getElem_toArray,List.getElem_cons_succ,List.getElem_cons_zero,List.setIfInBounds_toArray,List.set_cons_zero,List.set_cons_succ]
     refine wpAnyH_take (i:=2) (v:=?_) rfl (by kernel_rfl) (by kernel_rfl) (by kernel_rfl) (fun _ _ _ h=>h) (Or.inl ⟨by rfl,?_⟩) (by assumption) ?_
     rotate_left 1
     ·intro w hSw;(try dsimp only at hSw);have y0:=(hSw.p.2 0 _ rfl).1;have y1:=(hSw.p.2 1 _ rfl).1;have y2:=(hSw.p.2 2 _ rfl).1;have y3:=(hSw.p.2 3 _ rfl).1;clear hSw;go_simp;(try with_reducible rfl)
     try simp only [Act.put,List.getElem_toArray,List.getElem_cons_succ,List.getElem_cons_zero,List.setIfInBounds_toArray,List.set_cons_zero,List.set_cons_succ]
     refine wpAnyH_take (i:=3) (v:=?_) rfl (by kernel_rfl) (by kernel_rfl) (by kernel_rfl) (fun _ _ _ h=>h) (Or.inl ⟨by rfl,?_⟩) (by assumption) ?_
     rotate_left 1
     ·intro w hSw;(try dsimp only at hSw);have y0:=(hSw.q.2 0 _ rfl).1;have y1:=(hSw.q.2 1 _ rfl).1;have y2:=(hSw.q.2 2 _ rfl).1;clear hSw;go_simp;(try with_reducible rfl)
     try simp only [Act.put,List.getElem_toArray,List.getElem_cons_succ,List.getElem_cons_zero,List.setIfInBounds_toArray,List.set_cons_zero,List.set_cons_succ]
     refine wpAnyH_take (i:=5) (v:=?_) rfl (by kernel_rfl) (by kernel_rfl) (by kernel_rfl) (fun _ _ _ h=>h) (Or.inl ⟨by rfl,?_⟩) (by assumption) ?_
     rotate_left 1
     ·intro w hSw;(try dsimp only at hSw);have y0:=(hSw.p.2 0 _ rfl).1;have y1:=(hSw.p.2 1 _ rfl).1;have y2:=(hSw.p.2 2 _ rfl).1;have y3:=(hSw.p.2 3 _ rfl).1;clear hSw;go_simp;(try with_reducible rfl)
     try simp only [Act.put,List.getElem_toArray,List.getElem_cons_succ,List.getElem_cons_zero,List.setIfInBounds_toArray,List.set_cons_zero,List.set_cons_succ]
     refine wpAnyH_take (i:=6) (v:=?_) rfl (by kernel_rfl) (by kernel_rfl) (by kernel_rfl) (fun _ _ _ h=>h) (Or.inl ⟨by rfl,?_⟩) (by assumption) ?_
     rotate_left 1
     ·intro w hSw;(try dsimp only at hSw);have y0:=(hSw.r.2 0 _ rfl).1;have y1:=(hSw.r.2 1 _ rfl).1;have y2:=(hSw.r.2 2 _ rfl).1;clear hSw;go_simp;(try with_reducible rfl)
     try simp only [Act.put,List.getElem_toArray,List.getElem_cons_succ,List.getElem_cons_zero,List.setIfInBounds_toArray,List.set_cons_zero,List.set_cons_succ]
     refine wpAnyH_ready (rs:=[4]) (by kernel_rfl) (by simp) ?_
     refine AllReadyH.cons rfl (fun K hK=>?_) AllReadyH.nil
     go_simp
     refine Calls.mono (kj1 _ hHeld) ?_
     rintro e w6 ⟨rfl,hh⟩
     dsimp only
     refine hK.out _ _ hh (fun hHeld=>?_)
     clear hK K hh
     try simp only [Act.put,List.getElem_toArray,List.getElem_cons_succ,List.getElem_cons_zero,List.setIfInBounds_toArray,List.set_cons_zero,List.set_cons_succ]
     refine wpAnyH_ready (rs:=[7]) (by kernel_rfl) (by simp) ?_
     refine AllReadyH.cons rfl (fun K hK=>?_) AllReadyH.nil
     go_simp
     refine Calls.mono (kj2 _ hHeld) ?_
     rintro e w6 ⟨rfl,hh⟩
     dsimp only
     refine hK.out _ _ hh (fun hHeld=>?_)
     clear hK K hh
     try simp only [Act.put,List.getElem_toArray,List.getElem_cons_succ,List.getElem_cons_zero,List.setIfInBounds_toArray,List.set_cons_zero,List.set_cons_succ]
     refine wpAnyH_take (i:=8) (v:=?_) rfl (by kernel_rfl) (by kernel_rfl) (by kernel_rfl) (fun _ _ _ h=>h) (Or.inl ⟨by rfl,?_⟩) (by assumption) ?_
     rotate_left 1
     ·intro w hSw;(try dsimp only at hSw);go_simp;(try with_reducible rfl)
     try simp only [Act.put,List.getElem_toArray,List.getElem_cons_succ,List.getElem_cons_zero,List.setIfInBounds_toArray,List.set_cons_zero,List.set_cons_succ]
     refine wpAnyH_take (i:=9) (v:=?_) rfl (by kernel_rfl) (by kernel_rfl) (by kernel_rfl) (fun _ _ _ h=>h) (Or.inl ⟨by rfl,?_⟩) (by assumption) ?_
     rotate_left 1
     ·intro w hSw;(try dsimp only at hSw);go_simp;(try with_reducible rfl)
     try simp only [Act.put,List.getElem_toArray,List.getElem_cons_succ,List.getElem_cons_zero,List.setIfInBounds_toArray,List.set_cons_zero,List.set_cons_succ]
     refine wpAnyH_take (i:=10) (v:=?_) rfl (by kernel_rfl) (by kernel_rfl) (by kernel_rfl) (fun _ _ _ h=>h) (Or.inl ⟨by rfl,?_⟩) (by assumption) ?_
     rotate_left 1
     ·intro w hSw;(try dsimp only at hSw);go_simp;(try with_reducible rfl)
     try simp only [Act.put,List.getElem_toArray,List.getElem_cons_succ,List.getElem_cons_zero,List.setIfInBounds_toArray,List.set_cons_zero,List.set_cons_succ]
     refine wpAnyH_take (i:=11) (v:=?_) rfl (by kernel_rfl) (by kernel_rfl) (by kernel_rfl) (fun _ _ _ h=>h) (Or.inl ⟨by rfl,?_⟩) (by assumption) ?_
     rotate_left 1
     ·intro w hSw;(try dsimp only at hSw);have y0:=(hSw.q.2 0 _ rfl).1;have y1:=(hSw.q.2 1 _ rfl).1;have y2:=(hSw.q.2 2 _ rfl).1;clear hSw;go_simp;(try with_reducible rfl)
     try simp only [Act.put,List.getElem_toArray,List.getElem_cons_succ,List.getElem_cons_zero,List.setIfInBounds_toArray,List.set_cons_zero,List.set_cons_succ]
     refine wpAnyH_take (i:=13) (v:=?_) rfl (by kernel_rfl) (by kernel_rfl) (by kernel_rfl) (fun _ _ _ h=>h) (Or.inl ⟨by rfl,?_⟩) (by assumption) ?_
     rotate_left 1
     ·intro w hSw;(try dsimp only at hSw);have y0:=(hSw.r.2 0 _ rfl).1;have y1:=(hSw.r.2 1 _ rfl).1;have y2:=(hSw.r.2 2 _ rfl).1;clear hSw;go_simp;(try with_reducible rfl)
     try simp only [Act.put,List.getElem_toArray,List.getElem_cons_succ,List.getElem_cons_zero,List.setIfInBounds_toArray,List.set_cons_zero,List.set_cons_succ]
     refine wpAnyH_ready (rs:=[12]) (by kernel_rfl) (by simp) ?_
     refine AllReadyH.cons rfl (fun K hK=>?_) AllReadyH.nil
     go_simp
     refine Calls.mono (kj3 _ hHeld) ?_
     rintro e w6 ⟨rfl,hh⟩
     dsimp only
     refine hK.out _ _ hh (fun hHeld=>?_)
     clear hK K hh
     try simp only [Act.put,List.getElem_toArray,List.getElem_cons_succ,List.getElem_cons_zero,List.setIfInBounds_toArray,List.set_cons_zero,List.set_cons_succ]
     refine wpAnyH_ready (rs:=[14]) (by kernel_rfl) (by simp) ?_
     refine AllReadyH.cons rfl (fun K hK=>?_) AllReadyH.nil
     go_simp
     refine Calls.mono (kj4 _ hHeld) ?_
     rintro e w6 ⟨rfl,hh⟩
     dsimp only
     refine hK.out _ _ hh (fun hHeld=>?_)
     clear hK K hh
     try simp only [Act.put,List.getElem_toArray,List.getElem_cons_succ,List.getElem_cons_zero,List.setIfInBounds_toArray,List.set_cons_zero,List.set_cons_succ]
     refine wpAnyH_take (i:=15) (v:=?_) rfl (by kernel_rfl) (by kernel_rfl) (by kernel_rfl) (fun _ _ _ h=>h) (Or.inl ⟨by rfl,?_⟩) (by assumption) ?_
     rotate_left 1
     ·intro w hSw;(try dsimp only at hSw);go_simp;(try with_reducible rfl)
     try simp only [Act.put,List.getElem_toArray,List.getElem_cons_succ,List.getElem_cons_zero,List.setIfInBounds_toArray,List.set_cons_zero,List.set_cons_succ]
     refine wpAnyH_take (i:=16) (v:=?_) rfl (by kernel_rfl) (by kernel_rfl) (by kernel_rfl) (fun _ _ _ h=>h) (Or.inl ⟨by rfl,?_⟩) (by assumption) ?_
     rotate_left 1
     ·intro w hSw;(try dsimp only at hSw);go_simp;(try with_reducible rfl)
     try simp only [Act.put,List.getElem_toArray,List.getElem_cons_succ,List.getElem_cons_zero,List.setIfInBounds_toArray,List.set_cons_zero,List.set_cons_succ]
     refine wpAnyH_take (i:=17) (v:=?_) rfl (by kernel_rfl) (by kernel_rfl) (by kernel_rfl) (fun _ _ _ h=>h) (Or.inl ⟨by rfl,?_⟩) (by assumption) ?_
     rotate_left 1
     ·intro w hSw;(try dsimp only at hSw);go_simp;(try with_reducible rfl)
     try simp only [Act.put,List.getElem_toArray,List.getElem_cons_succ,List.getElem_cons_zero,List.setIfInBounds_toArray,List.set_cons_zero,List.set_cons_succ]
     refine wpAnyH_done (by kernel_rfl) ?_ _
     have HB:=zH (HBX.out.trans (Below.mono hHeld.below HBX.out.size))
     clear hHeld kj1 kj2 kj3 kj4 HS
     go_wp2_with fail
     go_ret
     exact⟨by first | rfl | simp,HB.out⟩
    | some es =>
     clear cy2 cy4
     rw [hm]at cM
     simp only [modA,rulO,ruE_v,Option.isSome]at cM
     rw [tgt_stor_yes _ _ _ _ _ l1 l2 es hm]at cx1
     rw [tgt_lif_yes _ _ _ _ l1 l2 es hm]at cx3
     generalize ruE es=Rr at *
     obtain⟨b0,b1,b2,b3,b4,b5,b6,b7,k0,k1,k2,k3,k4⟩:=Rr
     dsimp only [Ru_RuP.v]at cM
     refine(cM X (Alph.below HA.out HBX.out)).mono ?_
     rintro e w8 ⟨rfl,hb⟩
     obtain⟨w9,hW9⟩:∃w9,w8.alloc (.cells #[.bool b0,.bool b1,.bool b2,.bool b3,.bool b4,.bool b5,.bool b6,.bool b7,.int .i64 k0,.int .i64 k1,.int .i64 k2,.int .i64 k3,.int .i64 k4] 34)=w9:=⟨_,rfl⟩
     obtain⟨V,hV⟩:∃V,w9.alloc (.cells #[.int .i64 p.n,.slice vo N2 vc,.slice zo p.b.length zc] 27)=V:=⟨_,rfl⟩
     have be9:Below X.heap.size X w9:=by rw [← hW9];exact hb.alloc hb.size _
     have bev:Below w9.heap.size w9 V:=by rw [← hV];exact(Below.refl _ _).alloc (zR _) _
     have hxB:X.heap.size≤w9.heap.size:=be9.size
     have hbv:BoxN V w9.heap.size [.int .i64 p.n,.slice vo N2 vc,.slice zo p.b.length zc]:=by rw [← hV];exact BoxN.made w9 [.int .i64 p.n,.slice vo N2 vc,.slice zo p.b.length zc] _
     have HS:Hid (oneP X w9.heap.size (.int .i64 p.n) (.slice zo p.b.length zc) V.drew):=zH ((oneP.mk ⟨_,hbv⟩ (be9.trans (bev.mono be9.size))).next (drewA V))
     have a90:(w8.alloc (.cells #[.bool b0,.bool b1,.bool b2,.bool b3,.bool b4,.bool b5,.bool b6,.bool b7,.int .i64 k0,.int .i64 k1,.int .i64 k2,.int .i64 k3,.int .i64 k4] 34)).cell? ⟨w4.heap.size,0,none⟩=some (.int .i64 p.n):=by rw [hW9];exact((HAX.out.next be9).2 0 _ rfl).1
     have a91:(w8.alloc (.cells #[.bool b0,.bool b1,.bool b2,.bool b3,.bool b4,.bool b5,.bool b6,.bool b7,.int .i64 k0,.int .i64 k1,.int .i64 k2,.int .i64 k3,.int .i64 k4] 34)).cell? ⟨w4.heap.size,1,none⟩=some (.slice vo N2 vc):=by rw [hW9];exact((HAX.out.next be9).2 1 _ rfl).1
     have a92:(w8.alloc (.cells #[.bool b0,.bool b1,.bool b2,.bool b3,.bool b4,.bool b5,.bool b6,.bool b7,.int .i64 k0,.int .i64 k1,.int .i64 k2,.int .i64 k3,.int .i64 k4] 34)).cell? ⟨w4.heap.size,2,none⟩=some (.slice zo p.b.length zc):=by rw [hW9];exact((HAX.out.next be9).2 2 _ rfl).1
     have sz9:(w8.alloc (.cells #[.bool b0,.bool b1,.bool b2,.bool b3,.bool b4,.bool b5,.bool b6,.bool b7,.int .i64 k0,.int .i64 k1,.int .i64 k2,.int .i64 k3,.int .i64 k4] 34)).heap.size=w9.heap.size:=by rw [hW9]
     have sz8:w9.heap.size=w8.heap.size+1:=by rw [← hW9];simp
     have HV:=zH hV
     have HW9:=zH hW9
     have HZ8:=zH sz8
     have HXB:=zH hxB
     clear hV hW9 be9 bev hbv hb cM sz9 sz8 hxB
     go_wp2_with fail
     rw [HW9.out,HV.out]
     clear HV HW9 a90 a91 a92
     rw [← HZ8.out]
     have hxB:=HXB.out
     have kw:∀W,oneP X w9.heap.size (.int .i64 p.n) (.slice zo p.b.length zc) W→∀v2,StrsF W v2 [nCtl,nExp,nLmd]→Calls Tryz.prog 17 #[.slice vo N2 vc,v2] W fun e W=>(∃u,e=.returned u∧Flds 0 W u (withoutH (tgtF p.fs l0) [nCtl,nExp,nLmd]))∧oneP X w9.heap.size (.int .i64 p.n) (.slice zo p.b.length zc) W:=fun W h v2 hs=>(cW2 W v2 h.below hs).mono fun e w' ⟨⟨u,he,hown⟩,hb⟩=>⟨⟨u,he,Flds.of_own (lo:=0) hown (Nat.zero_le _)⟩,h.next hb⟩
     have kv1:∀W u,oneP X w9.heap.size (.int .i64 p.n) (.slice zo p.b.length zc) W→Flds 0 W u (withoutH (tgtF p.fs l0) [nCtl,nExp,nLmd])→Calls Tryz.prog 18 #[u,.string ⟨#[99,97,99,104,101,45,99,111,110,116,114,111,108]⟩,.string b] W fun e W=>(∃u,e=.returned u∧Flds 0 W u (withoutH (tgtF p.fs l0) [nCtl,nExp,nLmd]++[(nCtl,l1)]))∧oneP X w9.heap.size (.int .i64 p.n) (.slice zo p.b.length zc) W:=fun W u h hu=>(cV2 u W hu).mono fun e w' ⟨⟨u,he,hown⟩,hb⟩=>⟨⟨u,he,Flds.of_own (lo:=0) hown (Nat.zero_le _)⟩,h.next hb⟩
     have kv2:∀W u,oneP X w9.heap.size (.int .i64 p.n) (.slice zo p.b.length zc) W→Flds 0 W u (withoutH (tgtF p.fs l0) [nCtl,nExp,nLmd]++[(nCtl,l1)])→Calls Tryz.prog 18 #[u,.string ⟨#[101,120,112,105,114,101,115]⟩,.string c] W fun e W=>(∃o n c,e=.returned (.slice o n c)∧Flds (w9.heap.size+1) W (.slice o n c) (ovrF (tgtF p.fs l0) l1 l2))∧oneP X w9.heap.size (.int .i64 p.n) (.slice zo p.b.length zc) W:=fun W u h hu=>(cV3 u W hu).mono fun e w' ⟨⟨u,he,hown⟩,hb⟩=>⟨by obtain⟨o,c,rfl⟩:=owns_formF hown;exact⟨o,_,c,he,Flds.of_own hown (by obtain⟨v,hv⟩:=h.x;have:=hv.1;omega)⟩,h.next hb⟩
     refine wp_region_held_drew (S:=(oneP X w9.heap.size (.int .i64 p.n) (.slice zo p.b.length zc))) (by kernel_rfl) ?_ (fun hHeld=>?_)
     ·exact HS.out
     refine wpAnyH_take (i:=0) (v:=?_) rfl (by kernel_rfl) (by kernel_rfl) (by kernel_rfl) (fun _ _ _ h=>h) (Or.inl ⟨by rfl,?_⟩) (by assumption) ?_
     rotate_left 1
     ·intro w hSw;(try dsimp only at hSw);go_simp;(try with_reducible rfl)
     try simp only [Act.put,List.getElem_toArray,List.getElem_cons_zero,List.setIfInBounds_toArray,List.set_cons_zero,List.set_cons_succ]
     refine wpAnyH_take (i:=1) (v:=?_) rfl (by kernel_rfl) (by kernel_rfl) (by kernel_rfl) (fun _ _ _ h=>h) (Or.inl ⟨by rfl,?_⟩) (by assumption) ?_
     rotate_left 1
     ·intro w hSw;(try dsimp only at hSw);have y1:=((HAX.out.next hSw.b).2 1 _ rfl).1;clear hSw;go_simp;(try with_reducible rfl)
     try simp only [Act.put,List.getElem_toArray,List.getElem_cons_succ,List.getElem_cons_zero,List.setIfInBounds_toArray,List.set_cons_zero,List.set_cons_succ]
     refine wpAnyH_take (i:=4) (v:=?_) rfl (by kernel_rfl) (by kernel_rfl) (by kernel_rfl) (fun _ _ _ h=>h) (Or.inl ⟨by rfl,?_⟩) (by assumption) ?_
     rotate_left 1
     ·intro w hSw;(try dsimp only at hSw);go_simp;(try with_reducible rfl)
     try simp only [Act.put,List.getElem_toArray,List.getElem_cons_succ,List.getElem_cons_zero,List.setIfInBounds_toArray,List.set_cons_zero,List.set_cons_succ]
     refine wpAnyH_take (i:=5) (v:=?_) rfl (by kernel_rfl) (by kernel_rfl) (by kernel_rfl) (fun _ _ _ h=>h) (Or.inl ⟨by rfl,?_⟩) (by assumption) ?_
     rotate_left 1
     ·intro w hSw;(try dsimp only at hSw);have y1:=((HLX.out.next hSw.b).2 1 _ rfl).1;clear hSw;go_simp;(try with_reducible rfl)
     try simp only [Act.put,List.getElem_toArray,List.getElem_cons_succ,List.getElem_cons_zero,List.setIfInBounds_toArray,List.set_cons_zero,List.set_cons_succ]
     refine wpAnyH_take (i:=7) (v:=?_) rfl (by kernel_rfl) (by kernel_rfl) (by kernel_rfl) (fun _ _ _ h=>h) (Or.inl ⟨by rfl,?_⟩) (by assumption) ?_
     rotate_left 1
     ·intro w hSw;(try dsimp only at hSw);go_simp;(try with_reducible rfl)
     try simp only [Act.put,List.getElem_toArray,List.getElem_cons_succ,List.getElem_cons_zero,List.setIfInBounds_toArray,List.set_cons_zero,List.set_cons_succ]
     refine wpAnyH_take (i:=8) (v:=?_) rfl (by kernel_rfl) (by kernel_rfl) (by kernel_rfl) (fun _ _ _ h=>h) (Or.inl ⟨by rfl,?_⟩) (by assumption) ?_
     rotate_left 1
     ·intro w hSw;(try dsimp only at hSw);have y2:=((HLX.out.next hSw.b).2 2 _ rfl).1;clear hSw;go_simp;(try with_reducible rfl)
     try simp only [Act.put,List.getElem_toArray,List.getElem_cons_succ,List.getElem_cons_zero,List.setIfInBounds_toArray,List.set_cons_zero,List.set_cons_succ]
     refine wpAnyH_ready (rs:=[2]) (by kernel_rfl) (by simp) ?_
     refine AllReadyH.cons rfl (fun K hK=>?_) AllReadyH.nil
     go_simp
     refine hK.out _ _ (hHeld.next ((Below.refl _ _).alloc (zR _) _)) (fun hHeld=>?_)
     clear hK K
     try simp only [Act.put,List.getElem_toArray,List.getElem_cons_succ,List.getElem_cons_zero,List.setIfInBounds_toArray,List.set_cons_zero,List.set_cons_succ]
     refine wpAnyH_ready (rs:=[3]) (by kernel_rfl) (by simp) ?_
     refine AllReadyH.cons rfl (fun K hK=>?_) AllReadyH.nil
     go_simp
     refine Calls.mono (kw _ hHeld _ ((strs_threeP V nCtl nExp nLmd _).below (drewA _))) ?_
     rintro e w6 ⟨⟨u3,rfl,hu3⟩,hh⟩
     dsimp only
     refine hK.out _ _ hh (fun hHeld=>?_)
     clear hK K hh
     try simp only [Act.put,List.getElem_toArray,List.getElem_cons_succ,List.getElem_cons_zero,List.setIfInBounds_toArray,List.set_cons_zero,List.set_cons_succ]
     refine wpAnyH_ready (rs:=[6]) (by kernel_rfl) (by simp) ?_
     refine AllReadyH.cons rfl (fun K hK=>?_) AllReadyH.nil
     go_simp
     refine Calls.mono (kv1 _ _ hHeld hu3) ?_
     rintro e w6 ⟨⟨u4,rfl,hu4⟩,hh⟩
     dsimp only
     refine hK.out _ _ hh (fun hHeld=>?_)
     clear hK K hh
     try simp only [Act.put,List.getElem_toArray,List.getElem_cons_succ,List.getElem_cons_zero,List.setIfInBounds_toArray,List.set_cons_zero,List.set_cons_succ]
     refine wpAnyH_ready (rs:=[9]) (by kernel_rfl) (by simp) ?_
     refine AllReadyH.cons rfl (fun K hK=>?_) AllReadyH.nil
     go_simp
     refine Calls.mono (kv2 _ _ hHeld hu4) ?_
     rintro e w6 ⟨⟨o5,n5,c5,rfl,hu5⟩,hh⟩
     dsimp only
     refine hK.out _ _ hh (fun hHeld=>?_)
     clear hK K hh
     try simp only [Act.put,List.getElem_toArray,List.getElem_cons_succ,List.getElem_cons_zero,List.setIfInBounds_toArray,List.set_cons_zero,List.set_cons_succ]
     refine wpAnyH_take (i:=10) (v:=?_) rfl (by kernel_rfl) (by kernel_rfl) (by kernel_rfl) (fun _ _ _ h=>h) (Or.inl ⟨by rfl,?_⟩) (by assumption) ?_
     rotate_left 1
     ·intro w hSw;(try dsimp only at hSw);go_simp;(try with_reducible rfl)
     try simp only [Act.put,List.getElem_toArray,List.getElem_cons_succ,List.getElem_cons_zero,List.setIfInBounds_toArray,List.set_cons_zero,List.set_cons_succ]
     refine wpAnyH_ready (rs:=[11]) (by kernel_rfl) (by simp) ?_
     refine AllReadyH.cons rfl (fun K hK=>?_) AllReadyH.nil
     obtain⟨v9,hv9⟩:=hHeld.x
     have y1:=(hv9.2 1 _ rfl).1
     have z1:=(hv9.2 1 _ rfl).2
     go_simp
     refine hK.out _ _ (hHeld.put hxB (.slice o5 n5 c5)) (fun hHeld=>?_)
     clear hK K
     try simp only [Act.put,List.getElem_toArray,List.getElem_cons_succ,List.getElem_cons_zero,List.setIfInBounds_toArray,List.set_cons_zero,List.set_cons_succ]
     refine wpAnyH_done (by kernel_rfl) ?_ _
     obtain⟨V9,hV9⟩:∃V9,w6.setCell ⟨w9.heap.size,1,none⟩ (.slice o5 n5 c5)=V9:=⟨_,rfl⟩
     have hbx:BoxN V9 w9.heap.size [.int .i64 p.n,.slice o5 n5 c5,.slice zo p.b.length zc]:=by rw [← hV9];exact hv9.set 1 _ (by simp)
     have hux:Flds 0 V9 (.slice o5 n5 c5) (ovrF (tgtF p.fs l0) l1 l2):=by rw [← hV9];exact(hu5.setP (Nat.lt_succ_self _) _).low (Nat.zero_le _)
     have bex:Below X.heap.size X V9:=by rw [← hV9];exact hHeld.below
     have HBE:=zH bex
     have HBV:=zH (HBX.out.trans (bex.mono HBX.out.size))
     have HS:Hid (boxesP V9 w.heap.size [.string m,.string tg,.slice fo q.fs.length fc,.slice yo q.b.length yc] w4.heap.size [.int .i64 p.n,.slice vo N2 vc,.slice zo p.b.length zc] w9.heap.size [.int .i64 p.n,.slice o5 n5 c5,.slice zo p.b.length zc] V9.drew):=zH ((boxesP.mk (HQX.out.next bex) (HAX.out.next bex) hbx (Below.refl _ _)).next (drewA V9))
     have HUB:=zH hux
     have cz2:=fun W (hb:Below V9.heap.size V9 W)=>pstor_any 0 q ⟨p.n,ovrF (tgtF p.fs l0) l1 l2,p.b⟩ (.slice fo q.fs.length fc) (.slice yo q.b.length yc) (.slice o5 n5 c5) (.slice zo p.b.length zc) W (HF.out.below (HBV.out.trans (hb.mono HBV.out.size))) (BytF.below HY.out (HBV.out.trans (hb.mono HBV.out.size))) (HUB.out.below hb) (BytF.below HY2.out (HBV.out.trans (hb.mono HBV.out.size))) n1 o4 j1 i4 (Alph.below HA.out (HBV.out.trans (hb.mono HBV.out.size))) (Utf8Tabs_below HT.out (HBV.out.trans (hb.mono HBV.out.size)))
     have cz4:=fun W (hb:Below V9.heap.size V9 W)=>plif_any 0 ⟨p.n,ovrF (tgtF p.fs l0) l1 l2,p.b⟩ (.slice o5 n5 c5) (.slice zo p.b.length zc) 5 W (HUB.out.below hb) (BytF.below HY2.out (HBV.out.trans (hb.mono HBV.out.size))) o4 i4 (Alph.below HA.out (HBV.out.trans (hb.mono HBV.out.size))) (Utf8Tabs_below HT.out (HBV.out.trans (hb.mono HBV.out.size))) (Cal.below HC.out (HBV.out.trans (hb.mono HBV.out.size)))
     dsimp only at cz2 cz4
     rw [hMQ,hTQ]at cz2
     generalize storP q.m q.fs p.n (ovrF (tgtF p.fs l0) l1 l2)=B at *
     generalize lifP p.n (ovrF (tgtF p.fs l0) l1 l2) 5=K at *
     have HV9:=zH hV9
     clear hV9 hbx hux bex hHeld hv9 hu5 y1 z1 kw kv1 kv2 cW2 cV2 cV3
     rw [HV9.out]
     clear HV9
     go_wp2_with fail
     have kj1:∀W,boxesP V9 w.heap.size [.string m,.string tg,.slice fo q.fs.length fc,.slice yo q.b.length yc] w4.heap.size [.int .i64 p.n,.slice vo N2 vc,.slice zo p.b.length zc] w9.heap.size [.int .i64 p.n,.slice o5 n5 c5,.slice zo p.b.length zc] W→Calls Tryz.prog 9 #[.agg #[.string m,.string tg,.slice fo q.fs.length fc,.slice yo q.b.length yc],.agg #[.int .i64 p.n,.slice vo N2 vc,.slice zo p.b.length zc]] W fun e W=>e=.returned (.bool B)∧boxesP V9 w.heap.size [.string m,.string tg,.slice fo q.fs.length fc,.slice yo q.b.length yc] w4.heap.size [.int .i64 p.n,.slice vo N2 vc,.slice zo p.b.length zc] w9.heap.size [.int .i64 p.n,.slice o5 n5 c5,.slice zo p.b.length zc] W:=fun W h=>(cx1 W (HBE.out.trans (h.below.mono HBE.out.size))).mono fun e w' hh=>⟨hh.1,h.next hh.2⟩
     have kj2:∀W,boxesP V9 w.heap.size [.string m,.string tg,.slice fo q.fs.length fc,.slice yo q.b.length yc] w4.heap.size [.int .i64 p.n,.slice vo N2 vc,.slice zo p.b.length zc] w9.heap.size [.int .i64 p.n,.slice o5 n5 c5,.slice zo p.b.length zc] W→Calls Tryz.prog 9 #[.agg #[.string m,.string tg,.slice fo q.fs.length fc,.slice yo q.b.length yc],.agg #[.int .i64 p.n,.slice o5 n5 c5,.slice zo p.b.length zc]] W fun e W=>e=.returned (.bool B)∧boxesP V9 w.heap.size [.string m,.string tg,.slice fo q.fs.length fc,.slice yo q.b.length yc] w4.heap.size [.int .i64 p.n,.slice vo N2 vc,.slice zo p.b.length zc] w9.heap.size [.int .i64 p.n,.slice o5 n5 c5,.slice zo p.b.length zc] W:=fun W h=>(cz2 W h.below).mono fun e w' hh=>⟨hh.1,h.next hh.2⟩
     have kj3:∀W,boxesP V9 w.heap.size [.string m,.string tg,.slice fo q.fs.length fc,.slice yo q.b.length yc] w4.heap.size [.int .i64 p.n,.slice vo N2 vc,.slice zo p.b.length zc] w9.heap.size [.int .i64 p.n,.slice o5 n5 c5,.slice zo p.b.length zc] W→Calls Tryz.prog 11 #[.agg #[.int .i64 p.n,.slice vo N2 vc,.slice zo p.b.length zc],.int .i64 5] W fun e W=>e=.returned (.int .i64 K)∧boxesP V9 w.heap.size [.string m,.string tg,.slice fo q.fs.length fc,.slice yo q.b.length yc] w4.heap.size [.int .i64 p.n,.slice vo N2 vc,.slice zo p.b.length zc] w9.heap.size [.int .i64 p.n,.slice o5 n5 c5,.slice zo p.b.length zc] W:=fun W h=>(cx3 W (HBE.out.trans (h.below.mono HBE.out.size))).mono fun e w' hh=>⟨hh.1,h.next hh.2⟩
     have kj4:∀W,boxesP V9 w.heap.size [.string m,.string tg,.slice fo q.fs.length fc,.slice yo q.b.length yc] w4.heap.size [.int .i64 p.n,.slice vo N2 vc,.slice zo p.b.length zc] w9.heap.size [.int .i64 p.n,.slice o5 n5 c5,.slice zo p.b.length zc] W→Calls Tryz.prog 11 #[.agg #[.int .i64 p.n,.slice o5 n5 c5,.slice zo p.b.length zc],.int .i64 5] W fun e W=>e=.returned (.int .i64 K)∧boxesP V9 w.heap.size [.string m,.string tg,.slice fo q.fs.length fc,.slice yo q.b.length yc] w4.heap.size [.int .i64 p.n,.slice vo N2 vc,.slice zo p.b.length zc] w9.heap.size [.int .i64 p.n,.slice o5 n5 c5,.slice zo p.b.length zc] W:=fun W h=>(cz4 W h.below).mono fun e w' hh=>⟨hh.1,h.next hh.2⟩
     clear cx1 cx3 cz2 cz4
     refine wp_region_held_drew (S:=(boxesP V9 w.heap.size [.string m,.string tg,.slice fo q.fs.length fc,.slice yo q.b.length yc] w4.heap.size [.int .i64 p.n,.slice vo N2 vc,.slice zo p.b.length zc] w9.heap.size [.int .i64 p.n,.slice o5 n5 c5,.slice zo p.b.length zc])) (by kernel_rfl) ?_ (fun hHeld=>?_)
     ·exact HS.out
     refine wpAnyH_take (i:=0) (v:=?_) rfl (by kernel_rfl) (by kernel_rfl) (by kernel_rfl) (fun _ _ _ h=>h) (Or.inl ⟨by rfl,?_⟩) (by assumption) ?_
     rotate_left 1
     ·intro w hSw;(try dsimp only at hSw);go_simp;(try with_reducible rfl)
     try simp only [Act.put,List.getElem_toArray,List.getElem_cons_zero,List.setIfInBounds_toArray,List.set_cons_zero,List.set_cons_succ]
     refine wpAnyH_take (i:=1) (v:=?_) rfl (by kernel_rfl) (by kernel_rfl) (by kernel_rfl) (fun _ _ _ h=>h) (Or.inl ⟨by rfl,?_⟩) (by assumption) ?_
     rotate_left 1
     ·intro w hSw;(try dsimp only at hSw);go_simp;(try with_reducible rfl)
     try simp only [Act.put,List.getElem_toArray,List.getElem_cons_succ,List.getElem_cons_zero,List.setIfInBounds_toArray,List.set_cons_zero,List.set_cons_succ]
     refine wpAnyH_take (i:=2) (v:=?_) rfl (by kernel_rfl) (by kernel_rfl) (by kernel_rfl) (fun _ _ _ h=>h) (Or.inl ⟨by rfl,?_⟩) (by assumption) ?_
     rotate_left 1
     ·intro w hSw;(try dsimp only at hSw);have y0:=(hSw.p.2 0 _ rfl).1;have y1:=(hSw.p.2 1 _ rfl).1;have y2:=(hSw.p.2 2 _ rfl).1;have y3:=(hSw.p.2 3 _ rfl).1;clear hSw;go_simp;(try with_reducible rfl)
     try simp only [Act.put,List.getElem_toArray,List.getElem_cons_succ,List.getElem_cons_zero,List.setIfInBounds_toArray,List.set_cons_zero,List.set_cons_succ]
     refine wpAnyH_take (i:=3) (v:=?_) rfl (by kernel_rfl) (by kernel_rfl) (by kernel_rfl) (fun _ _ _ h=>h) (Or.inl ⟨by rfl,?_⟩) (by assumption) ?_
     rotate_left 1
     ·intro w hSw;(try dsimp only at hSw);have y0:=(hSw.q.2 0 _ rfl).1;have y1:=(hSw.q.2 1 _ rfl).1;have y2:=(hSw.q.2 2 _ rfl).1;clear hSw;go_simp;(try with_reducible rfl)
     try simp only [Act.put,List.getElem_toArray,List.getElem_cons_succ,List.getElem_cons_zero,List.setIfInBounds_toArray,List.set_cons_zero,List.set_cons_succ]
     refine wpAnyH_take (i:=5) (v:=?_) rfl (by kernel_rfl) (by kernel_rfl) (by kernel_rfl) (fun _ _ _ h=>h) (Or.inl ⟨by rfl,?_⟩) (by assumption) ?_
     rotate_left 1
     ·intro w hSw;(try dsimp only at hSw);have y0:=(hSw.p.2 0 _ rfl).1;have y1:=(hSw.p.2 1 _ rfl).1;have y2:=(hSw.p.2 2 _ rfl).1;have y3:=(hSw.p.2 3 _ rfl).1;clear hSw;go_simp;(try with_reducible rfl)
     try simp only [Act.put,List.getElem_toArray,List.getElem_cons_succ,List.getElem_cons_zero,List.setIfInBounds_toArray,List.set_cons_zero,List.set_cons_succ]
     refine wpAnyH_take (i:=6) (v:=?_) rfl (by kernel_rfl) (by kernel_rfl) (by kernel_rfl) (fun _ _ _ h=>h) (Or.inl ⟨by rfl,?_⟩) (by assumption) ?_
     rotate_left 1
     ·intro w hSw;(try dsimp only at hSw);have y0:=(hSw.r.2 0 _ rfl).1;have y1:=(hSw.r.2 1 _ rfl).1;have y2:=(hSw.r.2 2 _ rfl).1;clear hSw;go_simp;(try with_reducible rfl)
     try simp only [Act.put,List.getElem_toArray,List.getElem_cons_succ,List.getElem_cons_zero,List.setIfInBounds_toArray,List.set_cons_zero,List.set_cons_succ]
     refine wpAnyH_ready (rs:=[4]) (by kernel_rfl) (by simp) ?_
     refine AllReadyH.cons rfl (fun K hK=>?_) AllReadyH.nil
     go_simp
     refine Calls.mono (kj1 _ hHeld) ?_
     rintro e w6 ⟨rfl,hh⟩
     dsimp only
     refine hK.out _ _ hh (fun hHeld=>?_)
     clear hK K hh
     try simp only [Act.put,List.getElem_toArray,List.getElem_cons_succ,List.getElem_cons_zero,List.setIfInBounds_toArray,List.set_cons_zero,List.set_cons_succ]
     refine wpAnyH_ready (rs:=[7]) (by kernel_rfl) (by simp) ?_
     refine AllReadyH.cons rfl (fun K hK=>?_) AllReadyH.nil
     go_simp
     refine Calls.mono (kj2 _ hHeld) ?_
     rintro e w6 ⟨rfl,hh⟩
     dsimp only
     refine hK.out _ _ hh (fun hHeld=>?_)
     clear hK K hh
     try simp only [Act.put,List.getElem_toArray,List.getElem_cons_succ,List.getElem_cons_zero,List.setIfInBounds_toArray,List.set_cons_zero,List.set_cons_succ]
     refine wpAnyH_take (i:=8) (v:=?_) rfl (by kernel_rfl) (by kernel_rfl) (by kernel_rfl) (fun _ _ _ h=>h) (Or.inl ⟨by rfl,?_⟩) (by assumption) ?_
     rotate_left 1
     ·intro w hSw;(try dsimp only at hSw);go_simp;(try with_reducible rfl)
     try simp only [Act.put,List.getElem_toArray,List.getElem_cons_succ,List.getElem_cons_zero,List.setIfInBounds_toArray,List.set_cons_zero,List.set_cons_succ]
     refine wpAnyH_take (i:=9) (v:=?_) rfl (by kernel_rfl) (by kernel_rfl) (by kernel_rfl) (fun _ _ _ h=>h) (Or.inl ⟨by rfl,?_⟩) (by assumption) ?_
     rotate_left 1
     ·intro w hSw;(try dsimp only at hSw);go_simp;(try with_reducible rfl)
     try simp only [Act.put,List.getElem_toArray,List.getElem_cons_succ,List.getElem_cons_zero,List.setIfInBounds_toArray,List.set_cons_zero,List.set_cons_succ]
     refine wpAnyH_take (i:=10) (v:=?_) rfl (by kernel_rfl) (by kernel_rfl) (by kernel_rfl) (fun _ _ _ h=>h) (Or.inl ⟨by rfl,?_⟩) (by assumption) ?_
     rotate_left 1
     ·intro w hSw;(try dsimp only at hSw);go_simp;(try with_reducible rfl)
     try simp only [Act.put,List.getElem_toArray,List.getElem_cons_succ,List.getElem_cons_zero,List.setIfInBounds_toArray,List.set_cons_zero,List.set_cons_succ]
     refine wpAnyH_take (i:=11) (v:=?_) rfl (by kernel_rfl) (by kernel_rfl) (by kernel_rfl) (fun _ _ _ h=>h) (Or.inl ⟨by rfl,?_⟩) (by assumption) ?_
     rotate_left 1
     ·intro w hSw;(try dsimp only at hSw);have y0:=(hSw.q.2 0 _ rfl).1;have y1:=(hSw.q.2 1 _ rfl).1;have y2:=(hSw.q.2 2 _ rfl).1;clear hSw;go_simp;(try with_reducible rfl)
     try simp only [Act.put,List.getElem_toArray,List.getElem_cons_succ,List.getElem_cons_zero,List.setIfInBounds_toArray,List.set_cons_zero,List.set_cons_succ]
     refine wpAnyH_take (i:=13) (v:=?_) rfl (by kernel_rfl) (by kernel_rfl) (by kernel_rfl) (fun _ _ _ h=>h) (Or.inl ⟨by rfl,?_⟩) (by assumption) ?_
     rotate_left 1
     ·intro w hSw;(try dsimp only at hSw);have y0:=(hSw.r.2 0 _ rfl).1;have y1:=(hSw.r.2 1 _ rfl).1;have y2:=(hSw.r.2 2 _ rfl).1;clear hSw;go_simp;(try with_reducible rfl)
     try simp only [Act.put,List.getElem_toArray,List.getElem_cons_succ,List.getElem_cons_zero,List.setIfInBounds_toArray,List.set_cons_zero,List.set_cons_succ]
     refine wpAnyH_ready (rs:=[12]) (by kernel_rfl) (by simp) ?_
     refine AllReadyH.cons rfl (fun K hK=>?_) AllReadyH.nil
     go_simp
     refine Calls.mono (kj3 _ hHeld) ?_
     rintro e w6 ⟨rfl,hh⟩
     dsimp only
     refine hK.out _ _ hh (fun hHeld=>?_)
     clear hK K hh
     try simp only [Act.put,List.getElem_toArray,List.getElem_cons_succ,List.getElem_cons_zero,List.setIfInBounds_toArray,List.set_cons_zero,List.set_cons_succ]
     refine wpAnyH_ready (rs:=[14]) (by kernel_rfl) (by simp) ?_
     refine AllReadyH.cons rfl (fun K hK=>?_) AllReadyH.nil
     go_simp
     refine Calls.mono (kj4 _ hHeld) ?_
     rintro e w6 ⟨rfl,hh⟩
     dsimp only
     refine hK.out _ _ hh (fun hHeld=>?_)
     clear hK K hh
     try simp only [Act.put,List.getElem_toArray,List.getElem_cons_succ,List.getElem_cons_zero,List.setIfInBounds_toArray,List.set_cons_zero,List.set_cons_succ]
     refine wpAnyH_take (i:=15) (v:=?_) rfl (by kernel_rfl) (by kernel_rfl) (by kernel_rfl) (fun _ _ _ h=>h) (Or.inl ⟨by rfl,?_⟩) (by assumption) ?_
     rotate_left 1
     ·intro w hSw;(try dsimp only at hSw);go_simp;(try with_reducible rfl)
     try simp only [Act.put,List.getElem_toArray,List.getElem_cons_succ,List.getElem_cons_zero,List.setIfInBounds_toArray,List.set_cons_zero,List.set_cons_succ]
     refine wpAnyH_take (i:=16) (v:=?_) rfl (by kernel_rfl) (by kernel_rfl) (by kernel_rfl) (fun _ _ _ h=>h) (Or.inl ⟨by rfl,?_⟩) (by assumption) ?_
     rotate_left 1
     ·intro w hSw;(try dsimp only at hSw);go_simp;(try with_reducible rfl)
     try simp only [Act.put,List.getElem_toArray,List.getElem_cons_succ,List.getElem_cons_zero,List.setIfInBounds_toArray,List.set_cons_zero,List.set_cons_succ]
     refine wpAnyH_take (i:=17) (v:=?_) rfl (by kernel_rfl) (by kernel_rfl) (by kernel_rfl) (fun _ _ _ h=>h) (Or.inl ⟨by rfl,?_⟩) (by assumption) ?_
     rotate_left 1
     ·intro w hSw;(try dsimp only at hSw);go_simp;(try with_reducible rfl)
     try simp only [Act.put,List.getElem_toArray,List.getElem_cons_succ,List.getElem_cons_zero,List.setIfInBounds_toArray,List.set_cons_zero,List.set_cons_succ]
     refine wpAnyH_done (by kernel_rfl) ?_ _
     have HB:=zH (HBV.out.trans (Below.mono hHeld.below HBV.out.size))
     clear hHeld kj1 kj2 kj3 kj4 HS
     go_wp2_with fail
     go_ret
     exact⟨by first | rfl | simp,HB.out⟩
end Go.Proofs.YtfaedmbfabfmeaaGreatDoor
