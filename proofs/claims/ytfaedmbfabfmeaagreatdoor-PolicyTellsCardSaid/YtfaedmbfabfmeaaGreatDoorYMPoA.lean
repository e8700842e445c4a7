/- Package policy: directives of rules, as functions; whether one of several is set. · Package policy: whether one of several directives is set; strict rules; a number that reaches. · Package policy: strict rules; a number that reaches. -/
import Derived.Test.YtfaedmbfabfmeaaGreatDoorYMBasP
import Derived.Test.YtfaedmbfabfmeaaGreatDoorYAnch
import Derived.Test.YtfaedmbfabfmeaaGreatDoorRows
import Derived.IntWalk
import Derived.BigQuiet
import Derived.Deep.QuietTactic
import Derived.WalkKit
import Derived.WalkSpells
import Derived.WalkLawsBesides
import Derived.Lib.Hide
import Derived.Laws.EntriesVeiled
import Derived.Shelf.Abstract
set_option linter.unusedSimpArgs false
set_option maxRecDepth 100000
set_option maxHeartbeats 16000000
namespace Go.Proofs.YtfaedmbfabfmeaaGreatDoor
open Go.RowKit Go.Lib Go.Shelf
theorem boxL.two {w V:World} {c:Nat} {u v:Value} {L:List (Nat×List Value)} (h:boxL w V ((c,[u,v]) :: L)):V.cell? ⟨c,0,none⟩=some u∧V.frozen? ⟨c,0,none⟩=false∧V.cell? ⟨c,1,none⟩=some v∧V.frozen? ⟨c,1,none⟩=false:=
 have q:=h.at 0 rfl
 ⟨(q.2 0 _ rfl).1,(q.2 0 _ rfl).2,(q.2 1 _ rfl).1,(q.2 1 _ rfl).2⟩
theorem boxL.set2 {w V:World} {u v:Value} (h:boxL w V [(w.heap.size,[u,v])]) (a b:Value):Below w.heap.size w ((V.setCell ⟨w.heap.size,0,none⟩ a).setCell ⟨w.heap.size,1,none⟩ b)∧((V.setCell ⟨w.heap.size,0,none⟩ a).setCell ⟨w.heap.size,1,none⟩ b).cell? ⟨w.heap.size,0,none⟩=some a∧((V.setCell ⟨w.heap.size,0,none⟩ a).setCell ⟨w.heap.size,1,none⟩ b).cell? ⟨w.heap.size,1,none⟩=some b:=
 have q:=((h.at 0 rfl).set 0 a (by simp)).set 1 b (by simp)
 ⟨(h.b.setCell (p:=⟨w.heap.size,0,none⟩) (zR _) a).setCell (p:=⟨w.heap.size,1,none⟩) (zR _) b,(q.2 0 _ rfl).1,(q.2 1 _ rfl).1⟩
abbrev flgV (F:FuncId):Value:=.agg #[.func (.func F) #[] #[],.func (.func 100) #[] #[]]
abbrev nmbV (F:FuncId) (b:Nat):Value:=.agg #[.func (.func 102) #[] #[.pointer (some ⟨b,0,none⟩)],.func (.func F) #[] #[]]
def NumH (W:World) (b:Nat) (F:FuncId):Prop:=b<W.heap.size∧W.cell? ⟨b,0,none⟩=some (.func (.func F) #[] #[])
theorem NumH.below {W W':World} {b:Nat} {F:FuncId} (h:NumH W b F) (hb:Below W.heap.size W W'):NumH W' b F:=
 ⟨Nat.lt_of_lt_of_le h.1 hb.size,(hb.cell (p:=⟨b,0,none⟩) h.1).trans h.2⟩
theorem NumH.set {W:World} {b d k:Nat} {F:FuncId} (h:NumH W b F) (hd:d≠b) (u:Value):NumH (W.setCell ⟨d,k,none⟩ u) b F:=
 ⟨by have:=h.1;simpa using this,(World.cell?_setCell_other W ⟨d,k,none⟩ ⟨b,0,none⟩ u (by simp<;>omega)).trans h.2⟩
theorem fld_flag (F:FuncId) (W:World):(Instr.field 60 (.agg #[.func (.func F) #[] #[],.func (.func 100) #[] #[]]) 0).run Tryz.prog W=.ok (.func (.func F) #[] #[]) W:=by kernel_rfl
theorem fld_num0 (F:FuncId) (b:Nat) (W:World):(Instr.field 60 (.agg #[.func (.func 102) #[] #[.pointer (some ⟨b,0,none⟩)],.func (.func F) #[] #[]]) 0).run Tryz.prog W=.ok (.func (.func 102) #[] #[.pointer (some ⟨b,0,none⟩)]) W:=by kernel_rfl
theorem fld_num1 (F:FuncId) (b:Nat) (W:World):(Instr.field 60 (.agg #[.func (.func 102) #[] #[.pointer (some ⟨b,0,none⟩)],.func (.func F) #[] #[]]) 1).run Tryz.prog W=.ok (.func (.func F) #[] #[]) W:=by kernel_rfl
theorem en_noStore:∀args W,(callFunc 59 args).run Tryz.prog W=.ok (.enter 59 args) W:=enters_of Tryz.func59 (by kernel_rfl) rfl
theorem en_noCache:∀args W,(callFunc 80 args).run Tryz.prog W=.ok (.enter 80 args) W:=enters_of Tryz.func80 (by kernel_rfl) rfl
theorem en_private:∀args W,(callFunc 60 args).run Tryz.prog W=.ok (.enter 60 args) W:=enters_of Tryz.func60 (by kernel_rfl) rfl
theorem en_public:∀args W,(callFunc 62 args).run Tryz.prog W=.ok (.enter 62 args) W:=enters_of Tryz.func62 (by kernel_rfl) rfl
theorem en_mustRevalidate:∀args W,(callFunc 85 args).run Tryz.prog W=.ok (.enter 85 args) W:=enters_of Tryz.func85 (by kernel_rfl) rfl
theorem en_proxyRevalidate:∀args W,(callFunc 101 args).run Tryz.prog W=.ok (.enter 101 args) W:=enters_of Tryz.func101 (by kernel_rfl) rfl
theorem en_immutable:∀args W,(callFunc 81 args).run Tryz.prog W=.ok (.enter 81 args) W:=enters_of Tryz.func81 (by kernel_rfl) rfl
theorem en_maxAge:∀args W,(callFunc 64 args).run Tryz.prog W=.ok (.enter 64 args) W:=enters_of Tryz.func64 (by kernel_rfl) rfl
theorem en_sMaxAge:∀args W,(callFunc 65 args).run Tryz.prog W=.ok (.enter 65 args) W:=enters_of Tryz.func65 (by kernel_rfl) rfl
theorem en_maxStale:∀args W,(callFunc 83 args).run Tryz.prog W=.ok (.enter 83 args) W:=enters_of Tryz.func83 (by kernel_rfl) rfl
theorem en_minFresh:∀args W,(callFunc 125 args).run Tryz.prog W=.ok (.enter 125 args) W:=enters_of Tryz.func125 (by kernel_rfl) rfl
theorem en_staleIfError:∀args W,(callFunc 84 args).run Tryz.prog W=.ok (.enter 84 args) W:=enters_of Tryz.func84 (by kernel_rfl) rfl
theorem en_number:∀args W,(callFunc 102 args).run Tryz.prog W=.ok (.enter 102 args) W:=enters_of Tryz.func102 (by kernel_rfl) rfl
theorem pg_noStore (r:Ru_RuP) (w:World) :
  Calls Tryz.prog 59 #[r.v] w fun e w'=>e=.returned (.bool r.ns)∧Below w.heap.size w w':=by
 obtain⟨b0,b1,b2,b3,b4,b5,b6,b7,k0,k1,k2,k3,k4⟩:=r
 dsimp only [Ru_RuP.v]
 have HB:=zH ((Below.refl w.heap.size w).alloc (zR _) (.cells #[.bool b0,.bool b1,.bool b2,.bool b3,.bool b4,.bool b5,.bool b6,.bool b7,.int .i64 k0,.int .i64 k1,.int .i64 k2,.int .i64 k3,.int .i64 k4] 34))
 go_enter Tryz.func59,Tryz.ntmps59
 go_wp2_with fail
 go_ret
 exact⟨rfl,HB.out⟩
theorem pg_noCache (r:Ru_RuP) (w:World) :
  Calls Tryz.prog 80 #[r.v] w fun e w'=>e=.returned (.bool r.nc)∧Below w.heap.size w w':=by
 obtain⟨b0,b1,b2,b3,b4,b5,b6,b7,k0,k1,k2,k3,k4⟩:=r
 dsimp only [Ru_RuP.v]
 have HB:=zH ((Below.refl w.heap.size w).alloc (zR _) (.cells #[.bool b0,.bool b1,.bool b2,.bool b3,.bool b4,.bool b5,.bool b6,.bool b7,.int .i64 k0,.int .i64 k1,.int .i64 k2,.int .i64 k3,.int .i64 k4] 34))
 go_enter Tryz.func80,Tryz.ntmps80
 go_wp2_with fail
 go_ret
 exact⟨rfl,HB.out⟩
theorem pg_private (r:Ru_RuP) (w:World) :
  Calls Tryz.prog 60 #[r.v] w fun e w'=>e=.returned (.bool r.pr)∧Below w.heap.size w w':=by
 obtain⟨b0,b1,b2,b3,b4,b5,b6,b7,k0,k1,k2,k3,k4⟩:=r
 dsimp only [Ru_RuP.v]
 have HB:=zH ((Below.refl w.heap.size w).alloc (zR _) (.cells #[.bool b0,.bool b1,.bool b2,.bool b3,.bool b4,.bool b5,.bool b6,.bool b7,.int .i64 k0,.int .i64 k1,.int .i64 k2,.int .i64 k3,.int .i64 k4] 34))
 go_enter Tryz.func60,Tryz.ntmps60
 go_wp2_with fail
 go_ret
 exact⟨rfl,HB.out⟩
theorem pg_public (r:Ru_RuP) (w:World) :
  Calls Tryz.prog 62 #[r.v] w fun e w'=>e=.returned (.bool r.pu)∧Below w.heap.size w w':=by
 obtain⟨b0,b1,b2,b3,b4,b5,b6,b7,k0,k1,k2,k3,k4⟩:=r
 dsimp only [Ru_RuP.v]
 have HB:=zH ((Below.refl w.heap.size w).alloc (zR _) (.cells #[.bool b0,.bool b1,.bool b2,.bool b3,.bool b4,.bool b5,.bool b6,.bool b7,.int .i64 k0,.int .i64 k1,.int .i64 k2,.int .i64 k3,.int .i64 k4] 34))
 go_enter Tryz.func62,Tryz.ntmps62
 go_wp2_with fail
 go_ret
 exact⟨rfl,HB.out⟩
theorem pg_mustRevalidate (r:Ru_RuP) (w:World) :
  Calls Tryz.prog 85 #[r.v] w fun e w'=>e=.returned (.bool r.mr)∧Below w.heap.size w w':=by
 obtain⟨b0,b1,b2,b3,b4,b5,b6,b7,k0,k1,k2,k3,k4⟩:=r
 dsimp only [Ru_RuP.v]
 have HB:=zH ((Below.refl w.heap.size w).alloc (zR _) (.cells #[.bool b0,.bool b1,.bool b2,.bool b3,.bool b4,.bool b5,.bool b6,.bool b7,.int .i64 k0,.int .i64 k1,.int .i64 k2,.int .i64 k3,.int .i64 k4] 34))
 go_enter Tryz.func85,Tryz.ntmps85
 go_wp2_with fail
 go_ret
 exact⟨rfl,HB.out⟩
theorem pg_proxyRevalidate (r:Ru_RuP) (w:World) :
  Calls Tryz.prog 101 #[r.v] w fun e w'=>e=.returned (.bool r.xr)∧Below w.heap.size w w':=by
 obtain⟨b0,b1,b2,b3,b4,b5,b6,b7,k0,k1,k2,k3,k4⟩:=r
 dsimp only [Ru_RuP.v]
 have HB:=zH ((Below.refl w.heap.size w).alloc (zR _) (.cells #[.bool b0,.bool b1,.bool b2,.bool b3,.bool b4,.bool b5,.bool b6,.bool b7,.int .i64 k0,.int .i64 k1,.int .i64 k2,.int .i64 k3,.int .i64 k4] 34))
 go_enter Tryz.func101,Tryz.ntmps101
 go_wp2_with fail
 go_ret
 exact⟨rfl,HB.out⟩
theorem pg_immutable (r:Ru_RuP) (w:World) :
  Calls Tryz.prog 81 #[r.v] w fun e w'=>e=.returned (.bool r.im)∧Below w.heap.size w w':=by
 obtain⟨b0,b1,b2,b3,b4,b5,b6,b7,k0,k1,k2,k3,k4⟩:=r
 dsimp only [Ru_RuP.v]
 have HB:=zH ((Below.refl w.heap.size w).alloc (zR _) (.cells #[.bool b0,.bool b1,.bool b2,.bool b3,.bool b4,.bool b5,.bool b6,.bool b7,.int .i64 k0,.int .i64 k1,.int .i64 k2,.int .i64 k3,.int .i64 k4] 34))
 go_enter Tryz.func81,Tryz.ntmps81
 go_wp2_with fail
 go_ret
 exact⟨rfl,HB.out⟩
theorem pg_maxAge (r:Ru_RuP) (w:World) :
  Calls Tryz.prog 64 #[r.v] w fun e w'=>e=.returned (.int .i64 r.ma)∧Below w.heap.size w w':=by
 obtain⟨b0,b1,b2,b3,b4,b5,b6,b7,k0,k1,k2,k3,k4⟩:=r
 dsimp only [Ru_RuP.v]
 have HB:=zH ((Below.refl w.heap.size w).alloc (zR _) (.cells #[.bool b0,.bool b1,.bool b2,.bool b3,.bool b4,.bool b5,.bool b6,.bool b7,.int .i64 k0,.int .i64 k1,.int .i64 k2,.int .i64 k3,.int .i64 k4] 34))
 go_enter Tryz.func64,Tryz.ntmps64
 go_wp2_with fail
 go_ret
 exact⟨rfl,HB.out⟩
theorem pg_sMaxAge (r:Ru_RuP) (w:World) :
  Calls Tryz.prog 65 #[r.v] w fun e w'=>e=.returned (.int .i64 r.sm)∧Below w.heap.size w w':=by
 obtain⟨b0,b1,b2,b3,b4,b5,b6,b7,k0,k1,k2,k3,k4⟩:=r
 dsimp only [Ru_RuP.v]
 have HB:=zH ((Below.refl w.heap.size w).alloc (zR _) (.cells #[.bool b0,.bool b1,.bool b2,.bool b3,.bool b4,.bool b5,.bool b6,.bool b7,.int .i64 k0,.int .i64 k1,.int .i64 k2,.int .i64 k3,.int .i64 k4] 34))
 go_enter Tryz.func65,Tryz.ntmps65
 go_wp2_with fail
 go_ret
 exact⟨rfl,HB.out⟩
theorem pg_maxStale (r:Ru_RuP) (w:World) :
  Calls Tryz.prog 83 #[r.v] w fun e w'=>e=.returned (.int .i64 r.st)∧Below w.heap.size w w':=by
 obtain⟨b0,b1,b2,b3,b4,b5,b6,b7,k0,k1,k2,k3,k4⟩:=r
 dsimp only [Ru_RuP.v]
 have HB:=zH ((Below.refl w.heap.size w).alloc (zR _) (.cells #[.bool b0,.bool b1,.bool b2,.bool b3,.bool b4,.bool b5,.bool b6,.bool b7,.int .i64 k0,.int .i64 k1,.int .i64 k2,.int .i64 k3,.int .i64 k4] 34))
 go_enter Tryz.func83,Tryz.ntmps83
 go_wp2_with fail
 go_ret
 exact⟨rfl,HB.out⟩
theorem pg_minFresh (r:Ru_RuP) (w:World) :
  Calls Tryz.prog 125 #[r.v] w fun e w'=>e=.returned (.int .i64 r.fr)∧Below w.heap.size w w':=by
 obtain⟨b0,b1,b2,b3,b4,b5,b6,b7,k0,k1,k2,k3,k4⟩:=r
 dsimp only [Ru_RuP.v]
 have HB:=zH ((Below.refl w.heap.size w).alloc (zR _) (.cells #[.bool b0,.bool b1,.bool b2,.bool b3,.bool b4,.bool b5,.bool b6,.bool b7,.int .i64 k0,.int .i64 k1,.int .i64 k2,.int .i64 k3,.int .i64 k4] 34))
 go_enter Tryz.func125,Tryz.ntmps125
 go_wp2_with fail
 go_ret
 exact⟨rfl,HB.out⟩
theorem pg_staleIfError (r:Ru_RuP) (w:World) :
  Calls Tryz.prog 84 #[r.v] w fun e w'=>e=.returned (.int .i64 r.ie)∧Below w.heap.size w w':=by
 obtain⟨b0,b1,b2,b3,b4,b5,b6,b7,k0,k1,k2,k3,k4⟩:=r
 dsimp only [Ru_RuP.v]
 have HB:=zH ((Below.refl w.heap.size w).alloc (zR _) (.cells #[.bool b0,.bool b1,.bool b2,.bool b3,.bool b4,.bool b5,.bool b6,.bool b7,.int .i64 k0,.int .i64 k1,.int .i64 k2,.int .i64 k3,.int .i64 k4] 34))
 go_enter Tryz.func84,Tryz.ntmps84
 go_wp2_with fail
 go_ret
 exact⟨rfl,HB.out⟩
theorem pflag_any (F:FuncId) (w:World) :
  Calls Tryz.prog 58 #[.func (.func F) #[] #[]] w fun e w'=>e=.returned (flgV F)∧Below w.heap.size w w':=by
 have HB:=zH ((Below.refl w.heap.size w).alloc (zR _) (.cells #[.func (.func F) #[] #[],.func (.func 100) #[] #[]] 60))
 go_enter Tryz.func58,Tryz.ntmps58
 go_wp2_with fail
 exact bodyPost_ret (v:=flgV F) (by simp [results,Tryz.results58,go_sem]) rfl ⟨rfl,HB.out⟩
theorem pnumber_any (F:FuncId) (w:World) :
  Calls Tryz.prog 63 #[.func (.func F) #[] #[]] w fun e w'=>∃b,e=.returned (nmbV F b)∧w.heap.size≤b∧NumH w' b F∧Below w.heap.size w w':=by
 go_enter Tryz.func63,Tryz.ntmps63
 go_wp2_with fail
 have HN:=zH (BoxN.made w [.func (.func F) #[] #[]] 58)
 have hb1:=(Below.refl w.heap.size w).alloc (zR _) (.cells #[.func (.func F) #[] #[]] 58)
 have hs1:(w.alloc (.cells #[.func (.func F) #[] #[]] 58)).heap.size=w.heap.size+1:=by simp
 generalize w.alloc (.cells #[.func (.func F) #[] #[]] 58)=W1 at *
 have HP:=zH (BoxN.made W1 [.func (.func 102) #[] #[.pointer (some ⟨w.heap.size,0,none⟩)],.func (.func F) #[] #[]] 60)
 have hb2:=(Below.refl W1.heap.size W1).alloc (zR _) (.cells #[.func (.func 102) #[] #[.pointer (some ⟨w.heap.size,0,none⟩)],.func (.func F) #[] #[]] 60)
 have s1:W1.heap.size=w.heap.size+1:=hs1
 have HU:=zH (HN.out.next hb2)
 have HQ:=zH (hb1.trans (hb2.mono hb1.size))
 clear hb1 hb2 HN hs1
 rw [s1]at HP
 generalize W1.alloc (.cells #[.func (.func 102) #[] #[.pointer (some ⟨w.heap.size,0,none⟩)],.func (.func F) #[] #[]] 60)=U at *
 have p0:=(HP.out.2 0 _ rfl).1
 have p1:=(HP.out.2 1 _ rfl).1
 exact bodyPost_ret (v:=nmbV F w.heap.size) (by simp [results,Tryz.results63,go_sem,p0,p1]) rfl ⟨_,rfl,zR _,⟨HU.out.1,(HU.out.2 0 _ rfl).1⟩,HQ.out⟩
theorem p_noStore (w:World) :
  Calls Tryz.prog 24 #[] w fun e w'=>e=.returned (flgV 59)∧Below w.heap.size w w':=by
 have HH:=boxL.one w [.nilFunc,.nilFunc] 60
 go_enter Tryz.func24,Tryz.ntmps24
 go_wp2_with fail
 refine(pflag_any 59 _).mono ?_
 rintro e w1 ⟨rfl,hb⟩
 obtain⟨x0,g0,x1,g1⟩:=(HH.nx hb).two
 go_wp2_with fail
 obtain⟨HQ,p0,p1⟩:=(HH.nx hb).set2 (.func (.func 59) #[] #[]) (.func (.func 100) #[] #[])
 clear x0 g0 x1 g1
 exact bodyPost_ret (v:=.agg #[.func (.func 59) #[] #[],.func (.func 100) #[] #[]]) (by simp [results,Tryz.results24,go_sem,p0,p1]) rfl ⟨rfl,HQ⟩
theorem p_noCache (w:World) :
  Calls Tryz.prog 46 #[] w fun e w'=>e=.returned (flgV 80)∧Below w.heap.size w w':=by
 have HH:=boxL.one w [.nilFunc,.nilFunc] 60
 go_enter Tryz.func46,Tryz.ntmps46
 go_wp2_with fail
 refine(pflag_any 80 _).mono ?_
 rintro e w1 ⟨rfl,hb⟩
 obtain⟨x0,g0,x1,g1⟩:=(HH.nx hb).two
 go_wp2_with fail
 obtain⟨HQ,p0,p1⟩:=(HH.nx hb).set2 (.func (.func 80) #[] #[]) (.func (.func 100) #[] #[])
 clear x0 g0 x1 g1
 exact bodyPost_ret (v:=.agg #[.func (.func 80) #[] #[],.func (.func 100) #[] #[]]) (by simp [results,Tryz.results46,go_sem,p0,p1]) rfl ⟨rfl,HQ⟩
theorem p_private (w:World) :
  Calls Tryz.prog 26 #[] w fun e w'=>e=.returned (flgV 60)∧Below w.heap.size w w':=by
 have HH:=boxL.one w [.nilFunc,.nilFunc] 60
 go_enter Tryz.func26,Tryz.ntmps26
 go_wp2_with fail
 refine(pflag_any 60 _).mono ?_
 rintro e w1 ⟨rfl,hb⟩
 obtain⟨x0,g0,x1,g1⟩:=(HH.nx hb).two
 go_wp2_with fail
 obtain⟨HQ,p0,p1⟩:=(HH.nx hb).set2 (.func (.func 60) #[] #[]) (.func (.func 100) #[] #[])
 clear x0 g0 x1 g1
 exact bodyPost_ret (v:=.agg #[.func (.func 60) #[] #[],.func (.func 100) #[] #[]]) (by simp [results,Tryz.results26,go_sem,p0,p1]) rfl ⟨rfl,HQ⟩
theorem p_public (w:World) :
  Calls Tryz.prog 29 #[] w fun e w'=>e=.returned (flgV 62)∧Below w.heap.size w w':=by
 have HH:=boxL.one w [.nilFunc,.nilFunc] 60
 go_enter Tryz.func29,Tryz.ntmps29
 go_wp2_with fail
 refine(pflag_any 62 _).mono ?_
 rintro e w1 ⟨rfl,hb⟩
 obtain⟨x0,g0,x1,g1⟩:=(HH.nx hb).two
 go_wp2_with fail
 obtain⟨HQ,p0,p1⟩:=(HH.nx hb).set2 (.func (.func 62) #[] #[]) (.func (.func 100) #[] #[])
 clear x0 g0 x1 g1
 exact bodyPost_ret (v:=.agg #[.func (.func 62) #[] #[],.func (.func 100) #[] #[]]) (by simp [results,Tryz.results29,go_sem,p0,p1]) rfl ⟨rfl,HQ⟩
theorem p_mustRevalidate (w:World) :
  Calls Tryz.prog 52 #[] w fun e w'=>e=.returned (flgV 85)∧Below w.heap.size w w':=by
 have HH:=boxL.one w [.nilFunc,.nilFunc] 60
 go_enter Tryz.func52,Tryz.ntmps52
 go_wp2_with fail
 refine(pflag_any 85 _).mono ?_
 rintro e w1 ⟨rfl,hb⟩
 obtain⟨x0,g0,x1,g1⟩:=(HH.nx hb).two
 go_wp2_with fail
 obtain⟨HQ,p0,p1⟩:=(HH.nx hb).set2 (.func (.func 85) #[] #[]) (.func (.func 100) #[] #[])
 clear x0 g0 x1 g1
 exact bodyPost_ret (v:=.agg #[.func (.func 85) #[] #[],.func (.func 100) #[] #[]]) (by simp [results,Tryz.results52,go_sem,p0,p1]) rfl ⟨rfl,HQ⟩
theorem p_proxyRevalidate (w:World) :
  Calls Tryz.prog 61 #[] w fun e w'=>e=.returned (flgV 101)∧Below w.heap.size w w':=by
 have HH:=boxL.one w [.nilFunc,.nilFunc] 60
 go_enter Tryz.func61,Tryz.ntmps61
 go_wp2_with fail
 refine(pflag_any 101 _).mono ?_
 rintro e w1 ⟨rfl,hb⟩
 obtain⟨x0,g0,x1,g1⟩:=(HH.nx hb).two
 go_wp2_with fail
 obtain⟨HQ,p0,p1⟩:=(HH.nx hb).set2 (.func (.func 101) #[] #[]) (.func (.func 100) #[] #[])
 clear x0 g0 x1 g1
 exact bodyPost_ret (v:=.agg #[.func (.func 101) #[] #[],.func (.func 100) #[] #[]]) (by simp [results,Tryz.results61,go_sem,p0,p1]) rfl ⟨rfl,HQ⟩
theorem p_immutable (w:World) :
  Calls Tryz.prog 47 #[] w fun e w'=>e=.returned (flgV 81)∧Below w.heap.size w w':=by
 have HH:=boxL.one w [.nilFunc,.nilFunc] 60
 go_enter Tryz.func47,Tryz.ntmps47
 go_wp2_with fail
 refine(pflag_any 81 _).mono ?_
 rintro e w1 ⟨rfl,hb⟩
 obtain⟨x0,g0,x1,g1⟩:=(HH.nx hb).two
 go_wp2_with fail
 obtain⟨HQ,p0,p1⟩:=(HH.nx hb).set2 (.func (.func 81) #[] #[]) (.func (.func 100) #[] #[])
 clear x0 g0 x1 g1
 exact bodyPost_ret (v:=.agg #[.func (.func 81) #[] #[],.func (.func 100) #[] #[]]) (by simp [results,Tryz.results47,go_sem,p0,p1]) rfl ⟨rfl,HQ⟩
theorem p_maxAge (w:World) :
  Calls Tryz.prog 30 #[] w fun e w'=>∃b,e=.returned (nmbV 64 b)∧w.heap.size≤b∧NumH w' b 64∧Below w.heap.size w w':=by
 have HH:=boxL.one w [.nilFunc,.nilFunc] 60
 go_enter Tryz.func30,Tryz.ntmps30
 go_wp2_with fail
 refine(pnumber_any 64 _).mono ?_
 rintro e w1 ⟨b,rfl,hlo,hn,hb⟩
 obtain⟨x0,g0,x1,g1⟩:=(HH.nx hb).two
 go_wp2_with fail
 obtain⟨HQ,p0,p1⟩:=(HH.nx hb).set2 (.func (.func 102) #[] #[.pointer (some ⟨b,0,none⟩)]) (.func (.func 64) #[] #[])
 clear x0 g0 x1 g1
 have hlo:w.heap.size+1≤b:=by simpa using hlo
 have HN:=zH ((hn.set (k:=0) (by omega:w.heap.size≠b) (.func (.func 102) #[] #[.pointer (some ⟨b,0,none⟩)])).set (k:=1) (by omega:w.heap.size≠b) (.func (.func 64) #[] #[]))
 exact bodyPost_ret (v:=.agg #[.func (.func 102) #[] #[.pointer (some ⟨b,0,none⟩)],.func (.func 64) #[] #[]]) (by simp [results,Tryz.results30,go_sem,p0,p1]) rfl ⟨b,rfl,by omega,HN.out,HQ⟩
theorem p_sMaxAge (w:World) :
  Calls Tryz.prog 31 #[] w fun e w'=>∃b,e=.returned (nmbV 65 b)∧w.heap.size≤b∧NumH w' b 65∧Below w.heap.size w w':=by
 have HH:=boxL.one w [.nilFunc,.nilFunc] 60
 go_enter Tryz.func31,Tryz.ntmps31
 go_wp2_with fail
 refine(pnumber_any 65 _).mono ?_
 rintro e w1 ⟨b,rfl,hlo,hn,hb⟩
 obtain⟨x0,g0,x1,g1⟩:=(HH.nx hb).two
 go_wp2_with fail
 obtain⟨HQ,p0,p1⟩:=(HH.nx hb).set2 (.func (.func 102) #[] #[.pointer (some ⟨b,0,none⟩)]) (.func (.func 65) #[] #[])
 clear x0 g0 x1 g1
 have hlo:w.heap.size+1≤b:=by simpa using hlo
 have HN:=zH ((hn.set (k:=0) (by omega:w.heap.size≠b) (.func (.func 102) #[] #[.pointer (some ⟨b,0,none⟩)])).set (k:=1) (by omega:w.heap.size≠b) (.func (.func 65) #[] #[]))
 exact bodyPost_ret (v:=.agg #[.func (.func 102) #[] #[.pointer (some ⟨b,0,none⟩)],.func (.func 65) #[] #[]]) (by simp [results,Tryz.results31,go_sem,p0,p1]) rfl ⟨b,rfl,by omega,HN.out,HQ⟩
theorem p_maxStale (w:World) :
  Calls Tryz.prog 49 #[] w fun e w'=>∃b,e=.returned (nmbV 83 b)∧w.heap.size≤b∧NumH w' b 83∧Below w.heap.size w w':=by
 have HH:=boxL.one w [.nilFunc,.nilFunc] 60
 go_enter Tryz.func49,Tryz.ntmps49
 go_wp2_with fail
 refine(pnumber_any 83 _).mono ?_
 rintro e w1 ⟨b,rfl,hlo,hn,hb⟩
 obtain⟨x0,g0,x1,g1⟩:=(HH.nx hb).two
 go_wp2_with fail
 obtain⟨HQ,p0,p1⟩:=(HH.nx hb).set2 (.func (.func 102) #[] #[.pointer (some ⟨b,0,none⟩)]) (.func (.func 83) #[] #[])
 clear x0 g0 x1 g1
 have hlo:w.heap.size+1≤b:=by simpa using hlo
 have HN:=zH ((hn.set (k:=0) (by omega:w.heap.size≠b) (.func (.func 102) #[] #[.pointer (some ⟨b,0,none⟩)])).set (k:=1) (by omega:w.heap.size≠b) (.func (.func 83) #[] #[]))
 exact bodyPost_ret (v:=.agg #[.func (.func 102) #[] #[.pointer (some ⟨b,0,none⟩)],.func (.func 83) #[] #[]]) (by simp [results,Tryz.results49,go_sem,p0,p1]) rfl ⟨b,rfl,by omega,HN.out,HQ⟩
theorem p_minFresh (w:World) :
  Calls Tryz.prog 82 #[] w fun e w'=>∃b,e=.returned (nmbV 125 b)∧w.heap.size≤b∧NumH w' b 125∧Below w.heap.size w w':=by
 have HH:=boxL.one w [.nilFunc,.nilFunc] 60
 go_enter Tryz.func82,Tryz.ntmps82
 go_wp2_with fail
 refine(pnumber_any 125 _).mono ?_
 rintro e w1 ⟨b,rfl,hlo,hn,hb⟩
 obtain⟨x0,g0,x1,g1⟩:=(HH.nx hb).two
 go_wp2_with fail
 obtain⟨HQ,p0,p1⟩:=(HH.nx hb).set2 (.func (.func 102) #[] #[.pointer (some ⟨b,0,none⟩)]) (.func (.func 125) #[] #[])
 clear x0 g0 x1 g1
 have hlo:w.heap.size+1≤b:=by simpa using hlo
 have HN:=zH ((hn.set (k:=0) (by omega:w.heap.size≠b) (.func (.func 102) #[] #[.pointer (some ⟨b,0,none⟩)])).set (k:=1) (by omega:w.heap.size≠b) (.func (.func 125) #[] #[]))
 exact bodyPost_ret (v:=.agg #[.func (.func 102) #[] #[.pointer (some ⟨b,0,none⟩)],.func (.func 125) #[] #[]]) (by simp [results,Tryz.results82,go_sem,p0,p1]) rfl ⟨b,rfl,by omega,HN.out,HQ⟩
theorem p_staleIfError (w:World) :
  Calls Tryz.prog 51 #[] w fun e w'=>∃b,e=.returned (nmbV 84 b)∧w.heap.size≤b∧NumH w' b 84∧Below w.heap.size w w':=by
 have HH:=boxL.one w [.nilFunc,.nilFunc] 60
 go_enter Tryz.func51,Tryz.ntmps51
 go_wp2_with fail
 refine(pnumber_any 84 _).mono ?_
 rintro e w1 ⟨b,rfl,hlo,hn,hb⟩
 obtain⟨x0,g0,x1,g1⟩:=(HH.nx hb).two
 go_wp2_with fail
 obtain⟨HQ,p0,p1⟩:=(HH.nx hb).set2 (.func (.func 102) #[] #[.pointer (some ⟨b,0,none⟩)]) (.func (.func 84) #[] #[])
 clear x0 g0 x1 g1
 have hlo:w.heap.size+1≤b:=by simpa using hlo
 have HN:=zH ((hn.set (k:=0) (by omega:w.heap.size≠b) (.func (.func 102) #[] #[.pointer (some ⟨b,0,none⟩)])).set (k:=1) (by omega:w.heap.size≠b) (.func (.func 84) #[] #[]))
 exact bodyPost_ret (v:=.agg #[.func (.func 102) #[] #[.pointer (some ⟨b,0,none⟩)],.func (.func 84) #[] #[]]) (by simp [results,Tryz.results51,go_sem,p0,p1]) rfl ⟨b,rfl,by omega,HN.out,HQ⟩
theorem pnumset_any (F:FuncId) (b:Nat) (r:Ru_RuP) (n:Int) (w:World) (hE:∀args W,(callFunc F args).run Tryz.prog W=.ok (.enter F args) W) (hF:∀W,Calls Tryz.prog F #[r.v] W fun e w'=>e=.returned (.int .i64 n)∧Below W.heap.size W w') (h:NumH w b F) :
  Calls Tryz.prog 102 #[r.v,.pointer (some ⟨b,0,none⟩)] w fun e w'=>e=.returned (.bool (decide (0≤n)))∧Below w.heap.size w w':=by
 obtain⟨b0,b1,b2,b3,b4,b5,b6,b7,k0,k1,k2,k3,k4⟩:=r
 dsimp only [Ru_RuP.v]at hF ⊢
 have hb0:=(Below.refl w.heap.size w).alloc (zR _) (.cells #[.bool b0,.bool b1,.bool b2,.bool b3,.bool b4,.bool b5,.bool b6,.bool b7,.int .i64 k0,.int .i64 k1,.int .i64 k2,.int .i64 k3,.int .i64 k4] 34)
 have h0:=(h.below hb0).2
 have HX:=zH (BoxN.made w [.bool b0,.bool b1,.bool b2,.bool b3,.bool b4,.bool b5,.bool b6,.bool b7,.int .i64 k0,.int .i64 k1,.int .i64 k2,.int .i64 k3,.int .i64 k4] 34)
 have HB:=zH hb0
 clear hb0 h
 go_enter Tryz.func102,Tryz.ntmps102
 go_wp2_with fail
 refine(hF _).mono ?_
 rintro e w1 ⟨rfl,hb⟩
 go_wp2_with fail
 go_ret
 exact⟨rfl,HB.out.trans (hb.mono HB.out.size)⟩
def SetA_PoBa (W:World) (v:Value) (r:Ru_RuP) (b:Bool):Prop:=∃(F:FuncId) (c:Array Value),v=.func (.func F) #[] c∧(c=#[]∨∃p,c=#[.pointer p])∧(∀args W,(callFunc F args).run Tryz.prog W=.ok (.enter F args) W)∧∀W',Below W.heap.size W W'→Calls Tryz.prog F (#[r.v]++c) W' fun e w'=>e=.returned (.bool b)∧Below W'.heap.size W' w'
theorem SetA_PoBa.below {W W1:World} {v:Value} {r:Ru_RuP} {b:Bool} (h:SetA_PoBa W v r b) (hb:Below W.heap.size W W1):SetA_PoBa W1 v r b:=by
 obtain⟨F,c,h1,h2,h3,h4⟩:=h
 exact⟨F,c,h1,h2,h3,fun W' h=>h4 W' (hb.trans (h.mono hb.size))⟩
theorem SetA_PoBa.flag {F:FuncId} {r:Ru_RuP} {b:Bool} (hE:∀args W,(callFunc F args).run Tryz.prog W=.ok (.enter F args) W) (hF:∀W,Calls Tryz.prog F #[r.v] W fun e w'=>e=.returned (.bool b)∧Below W.heap.size W w') (W:World):SetA_PoBa W (.func (.func F) #[] #[]) r b:=
 ⟨F,#[],rfl,.inl rfl,hE,fun W' _=>by simpa using hF W'⟩
theorem SetA_PoBa.num {F:FuncId} {r:Ru_RuP} {n:Int} {W:World} {b:Nat} (hE:∀args W,(callFunc F args).run Tryz.prog W=.ok (.enter F args) W) (hF:∀W,Calls Tryz.prog F #[r.v] W fun e w'=>e=.returned (.int .i64 n)∧Below W.heap.size W w') (h:NumH W b F):SetA_PoBa W (.func (.func 102) #[] #[.pointer (some ⟨b,0,none⟩)]) r (decide (0≤n)):=
 ⟨_,_,rfl,.inr ⟨_,rfl⟩,en_number,fun W' hb=>by simpa using pnumset_any F b r n W' hE hF (h.below hb)⟩
def dirC_PoBa (L:List (Value×FuncId×Bool)):List Value:=L.flatMap fun x=>[x.1,.func (.func x.2.1) #[] #[]]
theorem dirC_at_PoBa:∀(L:List (Value×FuncId×Bool)) (j:Nat) (x:Value×FuncId×Bool),L[j]? = some x→(dirC_PoBa L)[j*2]? = some x.1∧(dirC_PoBa L)[j*2+1]? = some (.func (.func x.2.1) #[] #[])
 | [],_,_,h=>by simp at h
 | y :: L,0,x,h=>by
  obtain rfl:=Option.some.inj h
  exact⟨rfl,rfl⟩
 | y :: L,j+1,x,h=>by
  have:=dirC_at_PoBa L j x (by simpa using h)
  have e:(j+1)*2=j*2+1+1:=by omega
  rw [e]
  exact⟨this.1,this.2⟩
theorem panySet_any_PoBa (r:Ru_RuP) (L:List (Value×FuncId×Bool)) (B:Nat) (w:World) (hX:BoxN w B (dirC_PoBa L)) (hS:∀x∈L,SetA_PoBa w x.1 r x.2.2) (hl:L.length≤100) :
  Calls Tryz.prog 25 #[r.v,.slice (some ⟨B,0,none⟩) L.length L.length] w fun e w'=>e=.returned (.bool (L.any fun x=>x.2.2))∧Below w.heap.size w w':=by
 obtain⟨b0,b1,b2,b3,b4,b5,b6,b7,k0,k1,k2,k3,k4⟩:=r
 have hb0:=(Below.refl w.heap.size w).alloc (zR _) (.cells #[.bool b0,.bool b1,.bool b2,.bool b3,.bool b4,.bool b5,.bool b6,.bool b7,.int .i64 k0,.int .i64 k1,.int .i64 k2,.int .i64 k3,.int .i64 k4] 34)
 have HR:=zH (BoxN.made w [.bool b0,.bool b1,.bool b2,.bool b3,.bool b4,.bool b5,.bool b6,.bool b7,.int .i64 k0,.int .i64 k1,.int .i64 k2,.int .i64 k3,.int .i64 k4] 34)
 have HX:=zH (hX.next hb0)
 have HS:=zH (fun x hx=>(hS x hx).below hb0)
 have HB:=zH hb0
 clear hX hS hb0
 dsimp only [Ru_RuP.v]
 go_enter Tryz.func25,Tryz.ntmps25
 go_wp2_with fail
 generalize w.alloc (.cells #[.bool b0,.bool b1,.bool b2,.bool b3,.bool b4,.bool b5,.bool b6,.bool b7,.int .i64 k0,.int .i64 k1,.int .i64 k2,.int .i64 k3,.int .i64 k4] 34)=W at *
 go_loopw [9] (fun iv wr=>∃j:Nat,iv=.int .i64 j∧j≤L.length∧Hid (∀i x,i<j→L[i]? = some x→x.2.2=false)∧Hid (Below W.heap.size W wr)) (fun iv _=>L.length-(RowKit.intOf iv).toNat)
 case atStart=>exact⟨0,rfl,Nat.zero_le _,zH (fun i x h=>by omega),zH (Below.refl _ _)⟩
 case round =>
  obtain⟨j,rfl,hj,HN,HW⟩:=hrel
  by_cases hlt:j<L.length
  ·have hx:=List.getElem?_eq_getElem hlt
   obtain⟨⟨v1,G,b⟩,hxe⟩:∃x,L[j]=x:=⟨_,rfl⟩
   rw [hxe]at hx
   have hs:=(HS.out _ (List.mem_of_getElem? hx)).below HW.out
   have HX1:=HX.out.next HW.out
   have HR1:=HR.out.next HW.out
   have c0:=(HX1.2 _ _ (dirC_at_PoBa L j _ hx).1).1
   have c1:=(HX1.2 _ _ (dirC_at_PoBa L j _ hx).2).1
   have hBl:=HX1.1
   have HRn:=zH HR1
   have q0:=Below.refl wr.heap.size wr
   have HN2:b=false→Hid (∀i x,i<j+1→L[i]? = some x→x.2.2=false):=fun hb=>zH (fun i x hi hx2=>by
    by_cases he:i=j
    ·subst he
     rw [hx]at hx2
     obtain rfl:=Option.some.inj hx2
     exact hb
    ·exact HN.out i x (by omega) hx2)
   have HA:b=true→Hid ((L.any fun x=>x.2.2)=true):=fun hb=>zH (List.any_eq_true.2 ⟨_,List.mem_of_getElem? hx,hb⟩)
   clear HX1 HR1 hx hxe
   obtain⟨F,c,rfl,hc,hE,hF⟩:=hs
   have jI:(j:Int)<L.length:=by omega
   dsimp only [Ru_RuP.v]at hF
   have hq:=q0.alloc (zR _) (.cells #[.func (.func F) #[] c,.func (.func G) #[] #[]] 60)
   have HR2:=HRn.out.next hq
   have HBL:=zH (HW.out.trans (hq.mono HW.out.size))
   have hF2:=hF _ hq
   obtain⟨r0,r1,r2,r3,r4,r5,r6,r7,r8,r9,r10,r11,r12⟩:=b13X HR2
   clear HR2 HRn hF hq q0 HW
   rcases hc with rfl | ⟨p,rfl⟩
   ·simp only [Array.append_empty]at hF2
    go_wp2_with fail
    refine hF2.mono ?_
    rintro e w2 ⟨rfl,hb⟩
    have HB2:=zH (HBL.out.trans (hb.mono HBL.out.size))
    clear hF2 hb r0 r1 r2 r3 r4 r5 r6 r7 r8 r9 r10 r11 r12
    cases b
    ·have HN3:=HN2 rfl
     go_wp2_with fail
     go_roundw
     case rel=>exact⟨j+1,by go_num,by omega,HN3,HB2⟩
     case measure=>simp [RowKit.intOf];omega
    ·have HA2:=HA rfl
     go_wp2_with fail
     go_ret
     exact⟨by rw [HA2.out]<;>rfl,HB.out.trans (HB2.out.mono HB.out.size)⟩
   ·simp only [List.append_toArray,List.cons_append,List.nil_append]at hF2
    go_wp2_with fail
    refine hF2.mono ?_
    rintro e w2 ⟨rfl,hb⟩
    have HB2:=zH (HBL.out.trans (hb.mono HBL.out.size))
    clear hF2 hb r0 r1 r2 r3 r4 r5 r6 r7 r8 r9 r10 r11 r12
    cases b
    ·have HN3:=HN2 rfl
     go_wp2_with fail
     go_roundw
     case rel=>exact⟨j+1,by go_num,by omega,HN3,HB2⟩
     case measure=>simp [RowKit.intOf];omega
    ·have HA2:=HA rfl
     go_wp2_with fail
     go_ret
     exact⟨by rw [HA2.out]<;>rfl,HB.out.trans (HB2.out.mono HB.out.size)⟩
  ·obtain rfl:j=L.length:=by omega
   have HA:Hid ((L.any fun x=>x.2.2)=false):=zH (List.any_eq_false.2 fun x hx=>by
    obtain⟨i,hi⟩:=List.getElem?_of_mem hx
    rw [HN.out i x (List.getElem?_eq_some_iff.1 hi).1 hi]
    decide)
   go_wp2_with fail
   go_ret
   exact⟨by rw [HA.out]<;>rfl,HB.out.trans (HW.out.mono HB.out.size)⟩
theorem sA_noStore_PoBa (r:Ru_RuP) (W:World):SetA_PoBa W (.func (.func 59) #[] #[]) r r.ns:=SetA_PoBa.flag en_noStore (fun W=>pg_noStore r W) W
theorem sA_private_PoBa (r:Ru_RuP) (W:World):SetA_PoBa W (.func (.func 60) #[] #[]) r r.pr:=SetA_PoBa.flag en_private (fun W=>pg_private r W) W
theorem sA_public_PoBa (r:Ru_RuP) (W:World):SetA_PoBa W (.func (.func 62) #[] #[]) r r.pu:=SetA_PoBa.flag en_public (fun W=>pg_public r W) W
theorem sA_mustRevalidate_PoBa (r:Ru_RuP) (W:World):SetA_PoBa W (.func (.func 85) #[] #[]) r r.mr:=SetA_PoBa.flag en_mustRevalidate (fun W=>pg_mustRevalidate r W) W
theorem sA_proxyRevalidate_PoBa (r:Ru_RuP) (W:World):SetA_PoBa W (.func (.func 101) #[] #[]) r r.xr:=SetA_PoBa.flag en_proxyRevalidate (fun W=>pg_proxyRevalidate r W) W
theorem sA_maxAge_PoBa (r:Ru_RuP) (W:World) (b:Nat) (h:NumH W b 64):SetA_PoBa W (.func (.func 102) #[] #[.pointer (some ⟨b,0,none⟩)]) r (decide (0≤r.ma)):=SetA_PoBa.num en_maxAge (fun W=>pg_maxAge r W) h
theorem ps_maxAge_PoBa (r:Ru_RuP) (W:World) (b:Nat) (h:NumH W b 64):Calls Tryz.prog 102 #[r.v,.pointer (some ⟨b,0,none⟩)] W fun e w'=>e=.returned (.bool (decide (0≤r.ma)))∧Below W.heap.size W w':=pnumset_any _ b r r.ma W en_maxAge (fun W=>pg_maxAge r W) h
theorem sA_sMaxAge_PoBa (r:Ru_RuP) (W:World) (b:Nat) (h:NumH W b 65):SetA_PoBa W (.func (.func 102) #[] #[.pointer (some ⟨b,0,none⟩)]) r (decide (0≤r.sm)):=SetA_PoBa.num en_sMaxAge (fun W=>pg_sMaxAge r W) h
theorem ps_sMaxAge_PoBa (r:Ru_RuP) (W:World) (b:Nat) (h:NumH W b 65):Calls Tryz.prog 102 #[r.v,.pointer (some ⟨b,0,none⟩)] W fun e w'=>e=.returned (.bool (decide (0≤r.sm)))∧Below W.heap.size W w':=pnumset_any _ b r r.sm W en_sMaxAge (fun W=>pg_sMaxAge r W) h
theorem ps_minFresh_PoBa (r:Ru_RuP) (W:World) (b:Nat) (h:NumH W b 125):Calls Tryz.prog 102 #[r.v,.pointer (some ⟨b,0,none⟩)] W fun e w'=>e=.returned (.bool (decide (0≤r.fr)))∧Below W.heap.size W w':=pnumset_any _ b r r.fr W en_minFresh (fun W=>pg_minFresh r W) h
theorem panySet2_PoBa (r:Ru_RuP) (v1 v2:Value) (G1 G2:FuncId) (c1 c2:Bool) (B:Nat) (w:World) (hX:BoxN w B [v1,.func (.func G1) #[] #[],v2,.func (.func G2) #[] #[]]) (h1:SetA_PoBa w v1 r c1) (h2:SetA_PoBa w v2 r c2) :
  Calls Tryz.prog 25 #[r.v,.slice (some ⟨B,0,none⟩) 2 2] w fun e w'=>e=.returned (.bool (c1||c2))∧Below w.heap.size w w':=by
 refine(panySet_any_PoBa r [(v1,G1,c1),(v2,G2,c2)] B w hX (fun x hx=>?_) (by simp)).mono fun e w' h=>⟨by rw [h.1];simp,h.2⟩
 simp only [List.mem_cons,List.not_mem_nil,or_false]at hx
 rcases hx with rfl | rfl
 ·exact h1
 ·exact h2
theorem panySet3_PoBa (r:Ru_RuP) (v1 v2 v3:Value) (G1 G2 G3:FuncId) (c1 c2 c3:Bool) (B:Nat) (w:World) (hX:BoxN w B [v1,.func (.func G1) #[] #[],v2,.func (.func G2) #[] #[],v3,.func (.func G3) #[] #[]]) (h1:SetA_PoBa w v1 r c1) (h2:SetA_PoBa w v2 r c2) (h3:SetA_PoBa w v3 r c3) :
  Calls Tryz.prog 25 #[r.v,.slice (some ⟨B,0,none⟩) 3 3] w fun e w'=>e=.returned (.bool (c1||(c2||c3)))∧Below w.heap.size w w':=by
 refine(panySet_any_PoBa r [(v1,G1,c1),(v2,G2,c2),(v3,G3,c3)] B w hX (fun x hx=>?_) (by simp)).mono fun e w' h=>⟨by rw [h.1];simp,h.2⟩
 simp only [List.mem_cons,List.not_mem_nil,or_false]at hx
 rcases hx with rfl | rfl | rfl
 ·exact h1
 ·exact h2
 ·exact h3
theorem preaches_any_PoBa (F:FuncId) (b:Nat) (r:Ru_RuP) (n s:Int) (w:World) (hE:∀args W,(callFunc F args).run Tryz.prog W=.ok (.enter F args) W) (hF:∀W,Calls Tryz.prog F #[r.v] W fun e w'=>e=.returned (.int .i64 n)∧Below W.heap.size W w') (h:NumH w b F) :
  Calls Tryz.prog 50 #[nmbV F b,r.v,.int .i64 s] w fun e w'=>e=.returned (.bool (decide (0≤n)&&decide (s≤n)))∧Below w.heap.size w w':=by
 have cS:=fun W h=>pnumset_any F b r n W hE hF h
 have e1:=en_number
 obtain⟨b0,b1,b2,b3,b4,b5,b6,b7,k0,k1,k2,k3,k4⟩:=r
 dsimp only [Ru_RuP.v]at hF cS ⊢
 obtain⟨W1,hW1⟩:∃W1,w.alloc (.cells #[.func (.func 102) #[] #[.pointer (some ⟨b,0,none⟩)],.func (.func F) #[] #[]] 60)=W1:=⟨_,rfl⟩
 obtain⟨W2,hW2⟩:∃W2,W1.alloc (.cells #[.bool b0,.bool b1,.bool b2,.bool b3,.bool b4,.bool b5,.bool b6,.bool b7,.int .i64 k0,.int .i64 k1,.int .i64 k2,.int .i64 k3,.int .i64 k4] 34)=W2:=⟨_,rfl⟩
 have s1:W1.heap.size=w.heap.size+1:=by rw [← hW1];simp
 have hb1:Below w.heap.size w W1:=by rw [← hW1];exact(Below.refl _ _).alloc (zR _) _
 have hb2:Below W1.heap.size W1 W2:=by rw [← hW2];exact(Below.refl _ _).alloc (zR _) _
 have hp:BoxN W1 w.heap.size [.func (.func 102) #[] #[.pointer (some ⟨b,0,none⟩)],.func (.func F) #[] #[]]:=by rw [← hW1];exact BoxN.made w [.func (.func 102) #[] #[.pointer (some ⟨b,0,none⟩)],.func (.func F) #[] #[]] _
 have hq:BoxN W2 W1.heap.size [.bool b0,.bool b1,.bool b2,.bool b3,.bool b4,.bool b5,.bool b6,.bool b7,.int .i64 k0,.int .i64 k1,.int .i64 k2,.int .i64 k3,.int .i64 k4]:=by rw [← hW2];exact BoxN.made W1 [.bool b0,.bool b1,.bool b2,.bool b3,.bool b4,.bool b5,.bool b6,.bool b7,.int .i64 k0,.int .i64 k1,.int .i64 k2,.int .i64 k3,.int .i64 k4] _
 rw [s1]at hq
 have HD:=zH (hp.next hb2)
 have HP:=zH hq
 have HN:=zH ((h.below hb1).below hb2)
 have HB:=zH (hb1.trans (hb2.mono hb1.size))
 have HW1:=zH hW1
 have HW2:=zH hW2
 clear hp hq hb1 hb2 s1 hW1 hW2 h
 go_enter Tryz.func50,Tryz.ntmps50
 go_wp2_with fail
 rw [HW1.out,HW2.out]
 refine(cS _ HN.out).mono ?_
 rintro e w1 ⟨rfl,hb⟩
 clear HW1 HW2 HN cS e1
 by_cases hn:0≤n
 ·have HV:Hid ((decide (0≤n)&&decide (s≤n))=decide (s≤n)):=zH (by simp [hn])
  replace HD:=zH (HD.out.next hb)
  replace HP:=zH (HP.out.next hb)
  replace HB:=zH (HB.out.trans (hb.mono HB.out.size))
  clear hb
  have d1:=(HD.out.2 1 _ rfl).1
  obtain⟨y0,y1,y2,y3,y4,y5,y6,y7,y8,y9,y10,y11,y12⟩:=b13X HP.out
  go_wp2_with fail
  refine(hF _).mono ?_
  rintro e w2 ⟨rfl,hb⟩
  replace HB:=zH (HB.out.trans (hb.mono HB.out.size))
  clear hb hF d1 y0 y1 y2 y3 y4 y5 y6 y7 y8 y9 y10 y11 y12
  go_wp2_with fail
  go_ret
  exact⟨by rw [HV.out]<;>rfl,HB.out⟩
 ·have HV:Hid ((decide (0≤n)&&decide (s≤n))=false):=zH (by simp [hn])
  replace HD:=zH (HD.out.next hb)
  replace HP:=zH (HP.out.next hb)
  replace HB:=zH (HB.out.trans (hb.mono HB.out.size))
  clear hb
  go_wp2_with fail
  go_ret
  exact⟨by rw [HV.out]<;>rfl,HB.out⟩
theorem pstrict_any (r:Ru_RuP) (w:World) :
  Calls Tryz.prog 28 #[r.v] w fun e w'=>e=.returned (.bool (strictR_RuP r))∧Below w.heap.size w w':=by
 obtain⟨b0,b1,b2,b3,b4,b5,b6,b7,k0,k1,k2,k3,k4⟩:=r
 dsimp only [Ru_RuP.v,strictR_RuP]
 obtain⟨W,hW⟩:∃W,w.alloc (.cells #[.bool b0,.bool b1,.bool b2,.bool b3,.bool b4,.bool b5,.bool b6,.bool b7,.int .i64 k0,.int .i64 k1,.int .i64 k2,.int .i64 k3,.int .i64 k4] 34)=W:=⟨_,rfl⟩
 have HH:=boxL.one w [.bool b0,.bool b1,.bool b2,.bool b3,.bool b4,.bool b5,.bool b6,.bool b7,.int .i64 k0,.int .i64 k1,.int .i64 k2,.int .i64 k3,.int .i64 k4] 34
 rw [hW]at HH
 have HW:=zH hW
 clear hW
 go_enter Tryz.func28,Tryz.ntmps28
 go_wp2_with fail
 rw [HW.out]
 clear HW
 refine wBg (by kernel_rfl) (fun _ _ _ _ h=>h) fun hQ=>?_
 replace HH:=HH.nx (drewA _)
 refine wTk 0 3 hQ rfl rfl (by kernel_rfl) (by rfl) (by intro w hw;obtain⟨y0,y1,y2,y3,y4,y5,y6,y7,y8,y9,y10,y11,y12⟩:=((HH.at 0 rfl).next hw).c13;go_simp;try with_reducible rfl) ?_
 dsimp only [List.set]
 refine wCl 1 rfl (by kernel_rfl) fun K hK=>?_
 go_simp
 refine Calls.mono (p_mustRevalidate _) ?_
 rintro e V1x1 ⟨rfl,hh⟩
 refine wNx hK hh ?_
 clear hK K
 replace HH:=HH.nx hh
 clear hh
 refine wCl 2 rfl (by kernel_rfl) fun K hK=>?_
 go_simp
 refine Calls.mono (p_proxyRevalidate _) ?_
 rintro e V1x2 ⟨rfl,hh⟩
 refine wNx hK hh ?_
 clear hK K
 replace HH:=HH.nx hh
 clear hh
 refine wCl 3 rfl (by kernel_rfl) fun K hK=>?_
 go_simp
 refine Calls.mono (p_sMaxAge _) ?_
 rintro e V1x3 ⟨b,rfl,-,hn,hh⟩
 have HN:=zH hn
 clear hn
 refine wNx hK hh ?_
 clear hK K
 replace HH:=HH.nx hh
 clear hh
 refine wCl 4 rfl (by kernel_rfl) fun K hK=>?_
 go_simp
 have hh:=(Below.refl V1x3.heap.size V1x3).alloc (zR _) (.cells #[.func (.func 85) #[] #[],.func (.func 100) #[] #[],.func (.func 101) #[] #[],.func (.func 100) #[] #[],.func (.func 102) #[] #[.pointer (some ⟨b,0,none⟩)],.func (.func 65) #[] #[]] 60)
 refine wNx hK hh ?_
 clear hK K
 replace HH:=HH.add [.func (.func 85) #[] #[],.func (.func 100) #[] #[],.func (.func 101) #[] #[],.func (.func 100) #[] #[],.func (.func 102) #[] #[.pointer (some ⟨b,0,none⟩)],.func (.func 65) #[] #[]] 60
 replace HN:=zH (HN.out.below hh)
 clear hh
 generalize hW:V1x3.alloc (.cells #[.func (.func 85) #[] #[],.func (.func 100) #[] #[],.func (.func 101) #[] #[],.func (.func 100) #[] #[],.func (.func 102) #[] #[.pointer (some ⟨b,0,none⟩)],.func (.func 65) #[] #[]] 60)=V1x4 at *
 clear hW
 refine wCl 5 rfl (by kernel_rfl) fun K hK=>?_
 go_simp
 refine Calls.mono (panySet3_PoBa ⟨b0,b1,b2,b3,b4,b5,b6,b7,k0,k1,k2,k3,k4⟩ _ _ _ _ _ _ b4 b5 (decide (0≤k1)) _ _ (HH.at 0 rfl) (sA_mustRevalidate_PoBa ⟨b0,b1,b2,b3,b4,b5,b6,b7,k0,k1,k2,k3,k4⟩ _) (sA_proxyRevalidate_PoBa ⟨b0,b1,b2,b3,b4,b5,b6,b7,k0,k1,k2,k3,k4⟩ _) (sA_sMaxAge_PoBa ⟨b0,b1,b2,b3,b4,b5,b6,b7,k0,k1,k2,k3,k4⟩ _ b HN.out)) ?_
 rintro e V1x5 ⟨rfl,hh⟩
 refine wNx hK hh ?_
 clear hK K
 replace HH:=HH.nx hh
 replace HN:=zH (HN.out.below hh)
 clear hh
 refine wTk 6 2 hQ rfl rfl (by kernel_rfl) (by rfl) (by intro w _;go_simp;try with_reducible rfl) ?_
 dsimp only [List.set]
 refine wpAnyH_done (by kernel_rfl) ?_ _
 clear hQ
 go_wp2_with fail
 go_ret
 exact⟨rfl,HH.b⟩
end Go.Proofs.YtfaedmbfabfmeaaGreatDoor
