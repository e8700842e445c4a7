/- The walk of the law PolicyTells. -/
import Derived.Test.YtfaedmbfabfmeaaGreatDoorYAwk14
import Derived.Test.YtfaedmbfabfmeaaGreatDoorYPoS
import Derived.Test.YtfaedmbfabfmeaaGreatDoorYMPoH
import Derived.Test.YtfaedmbfabfmeaaGreatDoorYMRoC
import Derived.Test.YtfaedmbfabfmeaaGreatDoorYMLgA
import Derived.IntWalk
set_option linter.unusedSimpArgs false
set_option maxRecDepth 100000
set_option maxHeartbeats 16000000
namespace Go.Proofs.YtfaedmbfabfmeaaGreatDoor
open Go.RowKit Go.Shelf Go.Lib
theorem ptells_walk (q:Rq) (p:Rp) (f y f2 y2:Value) (got:Int) (w:World) (h1:Flds 0 w f q.fs) (h2:BytF 0 w y q.b) (h3:Flds 0 w f2 p.fs) (h4:BytF 0 w y2 p.b) (k1:FldsIn q.fs) (k2:FldsIn p.fs) (hA:Alph w) (hT:Tabs w) (hC:Cal w) :
  Calls Tryz.prog 3 #[.agg #[.string (strB q.m),.string (strB q.t),f,y],.agg #[.int .i64 p.n,f2,y2],.int .i64 got] w fun e w'=>e=.returned (.bool true)∧Below w.heap.size w w':=by
 have HC:=zH hC
 have HA:=zH hA
 have HT:=zH hT
 have cA:=fun W (hb:Below w.heap.size w W)=>awake14_any W (Alph.below HA.out hb) (Utf8Tabs_below HT.out hb) (Cal.below HC.out hb)
 clear hA hT hC
 obtain⟨fo,fc,rfl,-⟩:=id h1
 obtain⟨yo,yc,rfl,-⟩:=id h2
 obtain⟨go_,gc,rfl,-⟩:=id h3
 obtain⟨zo,zc,rfl,-⟩:=id h4
 have HF:=zH h1
 have HY:=zH h2
 have HF2:=zH h3
 have HY2:=zH h4
 have cS1:=fun W (hb:Below w.heap.size w W)=>rsize_any 0 (.slice fo q.fs.length fc) q.fs W (HF.out.below hb) k1
 have cS2:=fun W (hb:Below w.heap.size w W)=>rsize_any 0 (.slice go_ p.fs.length gc) p.fs W (HF2.out.below hb) k2
 obtain⟨Y1,hY1⟩:∃Y,szH 0 q.fs=Y:=⟨_,rfl⟩
 obtain⟨Y2,hY2⟩:∃Y,szH 0 p.fs=Y:=⟨_,rfl⟩
 simp only [hY1]at cS1
 simp only [hY2]at cS2
 have cx1:=fun(h:FldsOk q.fs) (h2:FldsOk p.fs) (j1:∀n,(joinH (allH q.fs n)).length≤90000) (j2:∀n,(joinH (allH p.fs n)).length≤90000) W (hb:Below w.heap.size w W)=>pstor_any 0 q p (.slice fo q.fs.length fc) (.slice yo q.b.length yc) (.slice go_ p.fs.length gc) (.slice zo p.b.length zc) W (HF.out.below hb) (BytF.below HY.out hb) (HF2.out.below hb) (BytF.below HY2.out hb) h h2 j1 j2 (Alph.below HA.out hb) (Utf8Tabs_below HT.out hb)
 have cx2:=fun(h:FldsOk q.fs) (h2:FldsOk p.fs) (j1:∀n,(joinH (allH q.fs n)).length≤90000) (j2:∀n,(joinH (allH p.fs n)).length≤90000) W (hb:Below w.heap.size w W)=>rstor_any 0 q p (.slice fo q.fs.length fc) (.slice yo q.b.length yc) (.slice go_ p.fs.length gc) (.slice zo p.b.length zc) W (HF.out.below hb) (BytF.below HY.out hb) (HF2.out.below hb) (BytF.below HY2.out hb) h h2 j1 j2
 have cx3:=fun(h2:FldsOk p.fs) (j2:∀n,(joinH (allH p.fs n)).length≤90000) W (hb:Below w.heap.size w W)=>plif_any 0 p (.slice go_ p.fs.length gc) (.slice zo p.b.length zc) got W (HF2.out.below hb) (BytF.below HY2.out hb) h2 j2 (Alph.below HA.out hb) (Utf8Tabs_below HT.out hb) (Cal.below HC.out hb)
 have cx4:=fun(h2:FldsOk p.fs) (j2:∀n,(joinH (allH p.fs n)).length≤90000) W (hb:Below w.heap.size w W)=>rlif_any 0 p (.slice go_ p.fs.length gc) (.slice zo p.b.length zc) got W (HF2.out.below hb) (BytF.below HY2.out hb) h2 j2
 have HZ1:Hid (¬2000<Y1→FldsOk q.fs∧∀n,(joinH (allH q.fs n)).length≤90000):=zH fun h=>by
  obtain⟨n1,n2⟩:=szH_ok q.fs (by omega)
  exact⟨n1,fun n=>Nat.le_trans (join_small q.fs n) (by omega)⟩
 have HZ2:Hid (¬2000<Y2→FldsOk p.fs∧∀n,(joinH (allH p.fs n)).length≤90000):=zH fun h=>by
  obtain⟨n1,n2⟩:=szH_ok p.fs (by omega)
  exact⟨n1,fun n=>Nat.le_trans (join_small p.fs n) (by omega)⟩
 clear k1 k2 h1 h2 h3 h4 hY1 hY2
 generalize storP q.m q.fs p.n p.fs=B at *
 generalize lifP p.n p.fs got=K at *
 generalize strB q.m=m at *
 generalize strB q.t=tg at *
 have sA:∀(W:World) (o:Obj),(W.alloc o).heap.size=W.heap.size+1:=fun W o=>by simp
 have HH:=(boxL.one w [.string m,.string tg,.slice fo q.fs.length fc,.slice yo q.b.length yc] 25).add [.int .i64 p.n,.slice go_ p.fs.length gc,.slice zo p.b.length zc] 27
 simp only [sA]at HH
 clear sA
 go_enter Tryz.func3,Tryz.ntmps3
 go_wp2_with fail
 refine(cA _ HH.b).mono ?_
 rintro e w1 ⟨rfl,hb⟩
 replace HH:=HH.nx hb
 clear hb
 clear cA
 have qf2:=((HH.at 1 rfl).2 2 _ rfl).1
 go_wp2_with fail
 refine(cS1 _ HH.b).mono ?_
 rintro e w2 ⟨rfl,hb⟩
 clear qf2
 replace HH:=HH.nx hb
 clear hb
 clear cS1
 by_cases d1:2000<Y1
 ·have gd1:(2000:Int)<((Y1:Nat):Int):=by omega
  go_wp2_with fail
  go_ret
  exact⟨rfl,HH.b⟩
 ·have gd1:¬(2000:Int)<((Y1:Nat):Int):=by omega
  have pf1:=((HH.at 0 rfl).2 1 _ rfl).1
  go_wp2_with fail
  refine(cS2 _ HH.b).mono ?_
  rintro e w3 ⟨rfl,hb⟩
  clear pf1
  replace HH:=HH.nx hb
  clear hb
  clear cS2
  have qf0:=((HH.at 1 rfl).2 0 _ rfl).1
  by_cases d2:2000<Y2
  ·have gd2:(2000:Int)<((Y2:Nat):Int):=by omega
   go_wp2_with fail
   go_ret
   exact⟨rfl,HH.b⟩
  ·have gd2:¬(2000:Int)<((Y2:Nat):Int):=by omega
   by_cases d3:100<m.size
   ·have gd3:(100:Int)<(m.size:Int):=by omega
    go_wp2_with fail
    go_ret
    exact⟨rfl,HH.b⟩
   ·have gd3:¬(100:Int)<(m.size:Int):=by omega
    replace cx1:=cx1 (HZ1.out d1).1 (HZ2.out d2).1 (HZ1.out d1).2 (HZ2.out d2).2
    replace cx2:=cx2 (HZ1.out d1).1 (HZ2.out d2).1 (HZ1.out d1).2 (HZ2.out d2).2
    replace cx3:=cx3 (HZ2.out d2).1 (HZ2.out d2).2
    replace cx4:=cx4 (HZ2.out d2).1 (HZ2.out d2).2
    go_wp2_with fail
    clear qf0
    refine wBg (by kernel_rfl) (fun _ _ _ _ h=>h) fun hQ=>?_
    replace HH:=HH.nx (drewA _)
    refine wTk 0 26 hQ rfl rfl (by kernel_rfl) (by rfl) (by intro w _;go_simp;try with_reducible rfl) ?_
    dsimp only [List.set]
    refine wTk 1 27 hQ rfl rfl (by kernel_rfl) (by rfl) (by intro w _;go_simp;try with_reducible rfl) ?_
    dsimp only [List.set]
    refine wTk 2 28 hQ rfl rfl (by kernel_rfl) (by rfl) (by intro w hw;have y0:=(((HH.at 1 rfl).next hw).2 0 _ rfl).1;have y1:=(((HH.at 1 rfl).next hw).2 1 _ rfl).1;have y2:=(((HH.at 1 rfl).next hw).2 2 _ rfl).1;have y3:=(((HH.at 1 rfl).next hw).2 3 _ rfl).1;go_simp;try with_reducible rfl) ?_
    dsimp only [List.set]
    refine wTk 3 29 hQ rfl rfl (by kernel_rfl) (by rfl) (by intro w hw;have y0:=(((HH.at 0 rfl).next hw).2 0 _ rfl).1;have y1:=(((HH.at 0 rfl).next hw).2 1 _ rfl).1;have y2:=(((HH.at 0 rfl).next hw).2 2 _ rfl).1;go_simp;try with_reducible rfl) ?_
    dsimp only [List.set]
    refine wTk 5 31 hQ rfl rfl (by kernel_rfl) (by rfl) (by intro w hw;have y0:=(((HH.at 1 rfl).next hw).2 0 _ rfl).1;have y1:=(((HH.at 1 rfl).next hw).2 1 _ rfl).1;have y2:=(((HH.at 1 rfl).next hw).2 2 _ rfl).1;have y3:=(((HH.at 1 rfl).next hw).2 3 _ rfl).1;go_simp;try with_reducible rfl) ?_
    dsimp only [List.set]
    refine wTk 6 32 hQ rfl rfl (by kernel_rfl) (by rfl) (by intro w hw;have y0:=(((HH.at 0 rfl).next hw).2 0 _ rfl).1;have y1:=(((HH.at 0 rfl).next hw).2 1 _ rfl).1;have y2:=(((HH.at 0 rfl).next hw).2 2 _ rfl).1;go_simp;try with_reducible rfl) ?_
    dsimp only [List.set]
    refine wCl 4 rfl (by kernel_rfl) fun K hK=>?_
    go_simp
    refine Calls.mono (cx1 _ HH.b) ?_
    rintro e V1x1 ⟨rfl,hh⟩
    refine wNx hK hh ?_
    clear hK K
    replace HH:=HH.nx hh
    clear hh
    refine wCl 7 rfl (by kernel_rfl) fun K hK=>?_
    go_simp
    refine Calls.mono (cx2 _ HH.b) ?_
    rintro e V1x2 ⟨rfl,hh⟩
    refine wNx hK hh ?_
    clear hK K
    replace HH:=HH.nx hh
    clear hh
    refine wTk 8 34 hQ rfl rfl (by kernel_rfl) (by rfl) (by intro w _;go_simp;try with_reducible rfl) ?_
    dsimp only [List.set]
    refine wTk 9 35 hQ rfl rfl (by kernel_rfl) (by rfl) (by intro w _;go_simp;try with_reducible rfl) ?_
    dsimp only [List.set]
    refine wTk 10 36 hQ rfl rfl (by kernel_rfl) (by rfl) (by intro w _;go_simp;try with_reducible rfl) ?_
    dsimp only [List.set]
    refine wTk 11 37 hQ rfl rfl (by kernel_rfl) (by rfl) (by intro w hw;have y0:=(((HH.at 0 rfl).next hw).2 0 _ rfl).1;have y1:=(((HH.at 0 rfl).next hw).2 1 _ rfl).1;have y2:=(((HH.at 0 rfl).next hw).2 2 _ rfl).1;go_simp;try with_reducible rfl) ?_
    dsimp only [List.set]
    refine wTk 12 38 hQ rfl rfl (by kernel_rfl) (by rfl) (by intro w _;go_simp;try with_reducible rfl) ?_
    dsimp only [List.set]
    refine wTk 14 40 hQ rfl rfl (by kernel_rfl) (by rfl) (by intro w hw;have y0:=(((HH.at 0 rfl).next hw).2 0 _ rfl).1;have y1:=(((HH.at 0 rfl).next hw).2 1 _ rfl).1;have y2:=(((HH.at 0 rfl).next hw).2 2 _ rfl).1;go_simp;try with_reducible rfl) ?_
    dsimp only [List.set]
    refine wTk 15 41 hQ rfl rfl (by kernel_rfl) (by rfl) (by intro w _;go_simp;try with_reducible rfl) ?_
    dsimp only [List.set]
    refine wCl 13 rfl (by kernel_rfl) fun K hK=>?_
    go_simp
    refine Calls.mono (cx3 _ HH.b) ?_
    rintro e V1x3 ⟨rfl,hh⟩
    refine wNx hK hh ?_
    clear hK K
    replace HH:=HH.nx hh
    clear hh
    refine wCl 16 rfl (by kernel_rfl) fun K hK=>?_
    go_simp
    refine Calls.mono (cx4 _ HH.b) ?_
    rintro e V1x4 ⟨rfl,hh⟩
    refine wNx hK hh ?_
    clear hK K
    replace HH:=HH.nx hh
    clear hh
    refine wTk 17 43 hQ rfl rfl (by kernel_rfl) (by rfl) (by intro w _;go_simp;try with_reducible rfl) ?_
    dsimp only [List.set]
    refine wTk 18 44 hQ rfl rfl (by kernel_rfl) (by rfl) (by intro w _;go_simp;try with_reducible rfl) ?_
    dsimp only [List.set]
    refine wTk 19 6 hQ rfl rfl (by kernel_rfl) (by rfl) (by intro w _;go_simp;try with_reducible rfl) ?_
    dsimp only [List.set]
    refine wpAnyH_done (by kernel_rfl) ?_ _
    clear hQ
    go_wp2_with fail
    go_ret
    exact⟨by first | rfl | simp,HH.b⟩
end Go.Proofs.YtfaedmbfabfmeaaGreatDoor
