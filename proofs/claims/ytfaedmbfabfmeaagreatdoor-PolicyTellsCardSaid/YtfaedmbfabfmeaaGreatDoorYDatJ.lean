/- The contracts of forms and Parse of package date. -/
import Derived.Test.YtfaedmbfabfmeaaGreatDoorYMBarA
import Derived.Laws.EntriesVeiled
set_option linter.unusedSimpArgs false
set_option maxRecDepth 100000
set_option maxHeartbeats 2000000
namespace Go.Proofs.YtfaedmbfabfmeaaGreatDoor
open Go.RowKit
theorem ckL_lt (s:St):(ckL s).1<400000:=by
 have z1:(ckA s).1<100:=upL_lt _ _
 have z2:(ckB s).1<100:=upL_lt _ _
 have z3:(ckC s).1<100:=upL_lt _ _
 show(ckA s).1*3600+(ckB s).1*60+(ckC s).1<400000
 omega
theorem p0_lt (s:St):(p0L s).1.c<400000:=ckL_lt _
theorem p1_lt (s:St):(p1L s).1.c<400000:=ckL_lt _
theorem p2_lt (s:St):(p2L s).1.c<400000:=ckL_lt _
theorem enters_p0:∀args W,(callFunc 146 args).run Tryz.prog W=.ok (.enter 146 args) W:=enters_of Tryz.func146 (by kernel_rfl) rfl
theorem enters_p1:∀args W,(callFunc 148 args).run Tryz.prog W=.ok (.enter 148 args) W:=enters_of Tryz.func148 (by kernel_rfl) rfl
theorem enters_p2:∀args W,(callFunc 149 args).run Tryz.prog W=.ok (.enter 149 args) W:=enters_of Tryz.func149 (by kernel_rfl) rfl
def fnV (F:FuncId):Value:=.func (.func F) #[] #[]
def formsV:Value:=.agg #[fnV 145,fnV 146,fnV 147,fnV 148,fnV 145,fnV 149]
theorem forms_any (w:World) :
  Calls Tryz.prog 111 #[] w fun e w'=>e=.returned formsV∧Below w.heap.size w w':=by
 have hb:∀o,Below w.heap.size w (w.alloc o):=fun o=>(Below.refl _ _).alloc (zR _) _
 go_enter Tryz.func111,Tryz.ntmps111
 go_wp2_with fail
 exact bodyPost_ret (v:=formsV) (by simp [results,Tryz.results111,go_sem,formsV,fnV]) rfl ⟨rfl,hb _⟩
theorem run_index_0 (W:World):(Instr.index 154 (.agg #[.func (.func 145) #[] #[],.func (.func 146) #[] #[],.func (.func 147) #[] #[],.func (.func 148) #[] #[],.func (.func 145) #[] #[],.func (.func 149) #[] #[]]) (.int .i64 0)).run Tryz.prog W=.ok (.agg #[.func (.func 145) #[] #[],.func (.func 146) #[] #[]]) W:=by kernel_rfl
theorem run_index_1 (W:World):(Instr.index 154 (.agg #[.func (.func 145) #[] #[],.func (.func 146) #[] #[],.func (.func 147) #[] #[],.func (.func 148) #[] #[],.func (.func 145) #[] #[],.func (.func 149) #[] #[]]) (.int .i64 1)).run Tryz.prog W=.ok (.agg #[.func (.func 147) #[] #[],.func (.func 148) #[] #[]]) W:=by kernel_rfl
theorem run_index_2 (W:World):(Instr.index 154 (.agg #[.func (.func 145) #[] #[],.func (.func 146) #[] #[],.func (.func 147) #[] #[],.func (.func 148) #[] #[],.func (.func 145) #[] #[],.func (.func 149) #[] #[]]) (.int .i64 2)).run Tryz.prog W=.ok (.agg #[.func (.func 145) #[] #[],.func (.func 149) #[] #[]]) W:=by kernel_rfl
theorem parse_any (s:List UInt8) (w:World) (hs:s.length≤maxLen) (hC:Cal w) :
  Calls Tryz.prog 71 #[.string (strB s)] w fun e w'=>e=.returned (secV (parL_DatP s))∧Below w.heap.size w w':=by
 have HC:=zH hC
 clear hC
 have cS0:=fun W hW=>seconds_any _ _ wsT p0L s W enters_short enters_p0 names_short parseFirst_any p0_lt hs hW
 have cS1:=fun W hW=>seconds_any _ _ wkT p1L s W enters_full enters_p1 names_full parseSecond_any p1_lt hs hW
 have cS2:=fun W hW=>seconds_any _ _ wsT p2L s W enters_short enters_p2 names_short parseThird_any p2_lt hs hW
 have cF:=fun W=>forms_any W
 simp only [formsV,fnV]at cF
 unfold parL_DatP
 generalize scL wsT p0L s=a0 at *
 generalize scL wkT p1L s=a1 at *
 generalize scL wsT p2L s=a2 at *
 generalize strB s=ss at *
 have hin:∀W F G,Below W.heap.size W (W.alloc (.cells #[.func (.func F) #[] #[],.func (.func G) #[] #[]] 153)):=fun W F G=>(Below.refl _ _).alloc (zR _) _
 have hx0:=run_index_0
 have hx1:=run_index_1
 have hx2:=run_index_2
 go_enter Tryz.func71,Tryz.ntmps71
 go_wp2_with fail
 refine(cF _).mono ?_
 rintro e w1 ⟨rfl,hb1⟩
 go_wp2_with fail
 go_loopw [9] (fun x wr=>∃i:Nat,x=.int .i64 i∧i≤3∧Below w.heap.size w wr∧Hid ((1≤i→a0=none)∧(2≤i→a1=none)∧(3≤i→a2=none))) (fun x _=>3-(intOf x).toNat)
 case atStart=>exact⟨0,rfl,by omega,hb1,zH ⟨by omega,by omega,by omega⟩⟩
 case round =>
  obtain⟨i,rfl,hi,hb,hH⟩:=hrel
  have hCr:=zH (HC.out.below hb)
  rcases(show i=0∨i=1∨i=2∨i=3 by omega)with rfl | rfl | rfl | rfl
  ·have h2:=hin wr 145 146
   have c:=cS0 _ (hCr.out.below h2)
   have hb2:=zH (hb.trans (h2.mono hb.size))
   clear cS0 cS1 cS2 hin h2
   cases a0 with
   | none =>
    simp only [secV]at c
    go_wp2_with fail
    refine c.mono ?_
    rintro e w2 ⟨rfl,hb3⟩
    go_wp2_with fail
    go_roundw
    case rel=>exact⟨1,rfl,by omega,hb2.out.trans (hb3.mono hb2.out.size),zH ⟨fun _=>by trivial,by omega,by omega⟩⟩
    case measure=>simp [intOf]
   | some n =>
    simp only [secV]at c
    go_wp2_with fail
    refine c.mono ?_
    rintro e w2 ⟨rfl,hb3⟩
    go_wp2_with fail
    go_ret2
    exact⟨rfl,hb2.out.trans (hb3.mono hb2.out.size)⟩
  ·have h2:=hin wr 147 148
   have c:=cS1 _ (hCr.out.below h2)
   have hb2:=zH (hb.trans (h2.mono hb.size))
   obtain rfl:=hH.out.1 (by omega)
   clear cS0 cS1 cS2 hin h2
   cases a1 with
   | none =>
    simp only [secV]at c
    go_wp2_with fail
    refine c.mono ?_
    rintro e w2 ⟨rfl,hb3⟩
    go_wp2_with fail
    go_roundw
    case rel=>exact⟨2,rfl,by omega,hb2.out.trans (hb3.mono hb2.out.size),zH ⟨fun _=>by trivial,fun _=>by trivial,by omega⟩⟩
    case measure=>simp [intOf]
   | some n =>
    simp only [secV]at c
    go_wp2_with fail
    refine c.mono ?_
    rintro e w2 ⟨rfl,hb3⟩
    go_wp2_with fail
    go_ret2
    exact⟨rfl,hb2.out.trans (hb3.mono hb2.out.size)⟩
  ·have h2:=hin wr 145 149
   have c:=cS2 _ (hCr.out.below h2)
   have hb2:=zH (hb.trans (h2.mono hb.size))
   obtain rfl:=hH.out.1 (by omega)
   obtain rfl:=hH.out.2.1 (by omega)
   clear cS0 cS1 cS2 hin h2
   cases a2 with
   | none =>
    simp only [secV]at c
    go_wp2_with fail
    refine c.mono ?_
    rintro e w2 ⟨rfl,hb3⟩
    go_wp2_with fail
    go_roundw
    case rel=>exact⟨3,rfl,by omega,hb2.out.trans (hb3.mono hb2.out.size),zH ⟨fun _=>by trivial,fun _=>by trivial,fun _=>by trivial⟩⟩
    case measure=>simp [intOf]
   | some n =>
    simp only [secV]at c
    go_wp2_with fail
    refine c.mono ?_
    rintro e w2 ⟨rfl,hb3⟩
    go_wp2_with fail
    go_ret2
    exact⟨rfl,hb2.out.trans (hb3.mono hb2.out.size)⟩
  ·obtain rfl:=hH.out.1 (by omega)
   obtain rfl:=hH.out.2.1 (by omega)
   obtain rfl:=hH.out.2.2 (by omega)
   go_wp2_with fail
   go_ret2
   exact⟨rfl,hb⟩
end Go.Proofs.YtfaedmbfabfmeaaGreatDoor
