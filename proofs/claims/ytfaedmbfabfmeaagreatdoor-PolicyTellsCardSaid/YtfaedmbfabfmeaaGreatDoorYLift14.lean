/- What the laws of this seat need to be lifted to their rows: the tables, as the rows list them, and a world in which they lie. -/
import Derived.Test.YtfaedmbfabfmeaaGreatDoorYShelf
import Derived.Test.YtfaedmbfabfmeaaGreatDoorTie
import Derived.Test.YtfaedmbfabfmeaaGreatDoorCards
import Derived.Test.YtfaedmbfabfmeaaGreatDoorYMLgA
import Derived.Test.YtfaedmbfabfmeaaGreatDoorYMBarC
import Derived.Test.YtfaedmbfabfmeaaGreatDoorYMBarA
import Derived.ProofKit
import Derived.PinnedBridge
import Derived.Lay
import Derived.Lib.LaidU8T
import Derived.Lib.LaidTab
import Derived.Lib.LaidU8
import Derived.Lib.SmallJoins
import Derived.SevenTiedAt
import Derived.SizedLaws
import Derived.OpenShut
set_option linter.unusedSimpArgs false
set_option maxRecDepth 100000
set_option maxHeartbeats 1000000
namespace Go.Proofs.YtfaedmbfabfmeaaGreatDoor
open Go.ChangeShapes Go.WideShapes Go.ChangeAt Go.RowKit Go.Shelf Go.Lib
theorem own:ownKnob Tryz.prog.godebug=none:=by kernel_rfl
theorem laidOut:laidOutB Tryz.prog=true:=by kernel_rfl
def laid14:List (String×DataW Unit):=Rows.policyJudgesRow.laid
theorem accept_eq:(Rows.laid_unicode_utf8_acceptRanges:DataW Unit)=acceptData:=by kernel_rfl
theorem u8x:U8Extra Tryz.prog Tryz.lays260_ren:=⟨by kernel_rfl,by kernel_rfl,by kernel_rfl,by kernel_rfl,by kernel_rfl,by kernel_rfl,by kernel_rfl⟩
theorem tabs_of_laid {W:World} (hL0:laidMetH Tryz.prog laid14 W):Tabs W:=by
 rw [MakeChecks.laidMetH_plain _ _ _ (by kernel_rfl)]at hL0
 have h1 : VarReads Tryz.prog W "unicode/utf8.first" (Rows.laid_unicode_utf8_first : DataW Unit) := Lib.laidMet.reads hL0 (by repeat (first | exact List.Mem.head _ | apply List.Mem.tail))
 have h2 : VarReads Tryz.prog W "unicode/utf8.acceptRanges" (Rows.laid_unicode_utf8_acceptRanges : DataW Unit) := Lib.laidMet.reads hL0 (by repeat (first | exact List.Mem.head _ | apply List.Mem.tail))
 exact utf8Tabs_of_readsT (U8Types.of260 Tryz.lays260) u8x (Pinned.utf8First_eq▸h1) (accept_eq▸h2)
theorem tabIs_of_reads {P:Program} {W:World} {name:String} {k:IntKind} {zs:List Int} {g:Nat} {t e:TypeId} {n:Nat}
  (hg:P.globalNamed name=some g) (hty:(P.globals[g]?).map (·.type)=some t) (ht:P.underlying t=some (.array n e)) (he:P.underlying e=some (.int k)) (hce:P.cellsOf e=1) (hct:P.cellsOf t=n)
  (h:VarReads P W name (tabData k zs)):TabIs P W name k zs:=by
 obtain⟨g',t',cs,fuel,p,hg',ht',hvar,hd⟩:=h
 obtain rfl:=Option.some.inj (hg.symm.trans hg')
 obtain rfl:=Option.some.inj (hty.symm.trans ht')
 unfold TabIs
 rw [hvar,← cells_of_tab ht he hce hct hd]
theorem alph_eq:(Rows.laid_scullery_bare_alphabet:DataW Unit)=tabData .u8 (alphL.map fun c=>(c.toNat:Int)):=by kernel_rfl
theorem alp_tab (j:Nat) (h:j<64):(alphL.map fun c=>(c.toNat:Int)).getD j 0=((alp j).toNat:Int):=by
 have:∀i:Fin 64,(alphL.map fun c=>(c.toNat:Int)).getD i.val 0=((alp i.val).toNat:Int):=by decide +kernel
 exact this ⟨j,h⟩
theorem alph_of_laid {W:World} (hL0:laidMetH Tryz.prog laid14 W):Alph W:=by
 rw [MakeChecks.laidMetH_plain _ _ _ (by kernel_rfl)]at hL0
 have h0 : VarReads Tryz.prog W "scullery/bare.alphabet" (Rows.laid_scullery_bare_alphabet : DataW Unit) := Lib.laidMet.reads hL0 (by repeat (first | exact List.Mem.head _ | apply List.Mem.tail))
 have h:=tabIs_of_reads (g:=6) (t:=294) (e:=5) (n:=64) (by kernel_rfl) (by kernel_rfl) Tryz.underlying294 Tryz.underlying5 (by kernel_rfl) (by kernel_rfl) (alph_eq▸h0)
 intro j hj
 have:=TabIs.cell h (g:=6) (by kernel_rfl) j (by simpa [alphL] using hj)
 rw [alp_tab j hj]at this
 exact this
def strData (ss:List (List UInt8)):DataW Unit:=.agg (ss.map fun l=>.lit (.string l))
theorem cells_of_strs {enc:TypeId×Value→Unit} {P:Program} {w:World} {base:Nat} {sp:Nat→Bool} {held:Bool} {fuel:Nat} {t e:TypeId} {n:Nat} {cs:List Value} {ss:List (List UInt8)} {p:List MemPlace}
  (ht:P.underlying t=some (.array n e)) (he:P.underlying e=some .string) (hce:P.cellsOf e=1) (hct:P.cellsOf t=n)
  (h:DataW.trod enc P w base sp held fuel t cs=some (strData ss,p)):cs=ss.map fun l=>Value.string (strB l):=by
 cases fuel with
 | zero=>simp [DataW.trod]at h
 | succ fuel =>
  simp only [DataW.trod,ht,hce,hct,Nat.mul_one]at h
  split at h
  ·rename_i hl
   obtain⟨xs,hm,hx⟩:=Option.map_eq_some_iff.1 h
   have hxs:xs.map (·.1)=ss.map fun l=>(DataW.lit (.string l):DataW Unit):=by
    have:=congrArg Prod.fst hx
    simpa [strData] using this
   have hxl:xs.length=n:=by simpa using mapM_length hm
   have hzl:ss.length=n:=by
    have:=congrArg List.length hxs
    simp at this
    omega
   apply List.ext_getElem?
   intro i
   by_cases hi:i<n
   ·obtain⟨b,hb,hf⟩:=mapM_at hm i i (by simp [hi])
    obtain⟨s,hc,rfl,_⟩:=DataW.trod_string he hf
    have h1:cs[i]? = some (.string s):=by
     have:=congrArg (·[0]?) hc
     simpa [List.getElem?_take,List.getElem?_drop] using this
    have h2:(xs.map (·.1))[i]? = some (DataW.lit (.string s.data.toList):DataW Unit):=by simp [hb]
    rw [hxs]at h2
    simp only [List.getElem?_map,Option.map_eq_some_iff,DataW.lit.injEq,Lit.string.injEq]at h2
    obtain⟨l,hl',rfl⟩:=h2
    simp [h1,hl',strB_of]
   ·rw [List.getElem?_eq_none (by omega),List.getElem?_eq_none (by simp;omega)]
  ·cases h
theorem strs_of_reads {P:Program} {W:World} {name:String} {ss:List (List UInt8)} {g:Nat} {t e:TypeId} {n:Nat}
  (hg:P.globalNamed name=some g) (hty:(P.globals[g]?).map (·.type)=some t) (ht:P.underlying t=some (.array n e)) (he:P.underlying e=some .string) (hce:P.cellsOf e=1) (hct:P.cellsOf t=n)
  (h:VarReads P W name (strData ss)) (j:Nat) (hj:j<ss.length):W.cell? ⟨g,j,none⟩=some (.string (strB (ss.getD j []))):=by
 obtain⟨g',t',cs,fuel,p,hg',ht',hvar,hd⟩:=h
 obtain rfl:=Option.some.inj (hg.symm.trans hg')
 obtain rfl:=Option.some.inj (hty.symm.trans ht')
 have hcs:=cells_of_strs ht he hce hct hd
 have hv:W.var? P name=some (ss.map fun l=>Value.string (strB l)).toArray:=by rw [hvar,← hcs]
 have:=World.var?_cell hg hv j
 simpa [List.getD,hj] using this
theorem md_eq:(Rows.laid_scullery_date_monthDays:DataW Unit)=tabData .i64 (mdT.map fun c:Nat=>(c:Int)):=by kernel_rfl
theorem wk_eq:(Rows.laid_scullery_date_weekdays:DataW Unit)=strData [wkT 0,wkT 1,wkT 2,wkT 3,wkT 4,wkT 5,wkT 6]:=by kernel_rfl
theorem mo_eq:(Rows.laid_scullery_date_months:DataW Unit)=strData [moT 1,moT 2,moT 3,moT 4,moT 5,moT 6,moT 7,moT 8,moT 9,moT 10,moT 11,moT 12]:=by kernel_rfl
theorem cal_of_laid {W:World} (hL0:laidMetH Tryz.prog laid14 W):Cal W:=by
 rw [MakeChecks.laidMetH_plain _ _ _ (by kernel_rfl)]at hL0
 have g1 : VarReads Tryz.prog W "scullery/date.monthDays" (Rows.laid_scullery_date_monthDays : DataW Unit) := Lib.laidMet.reads hL0 (by repeat (first | exact List.Mem.head _ | apply List.Mem.tail))
 have g2 : VarReads Tryz.prog W "scullery/date.weekdays" (Rows.laid_scullery_date_weekdays : DataW Unit) := Lib.laidMet.reads hL0 (by repeat (first | exact List.Mem.head _ | apply List.Mem.tail))
 have g3 : VarReads Tryz.prog W "scullery/date.months" (Rows.laid_scullery_date_months : DataW Unit) := Lib.laidMet.reads hL0 (by repeat (first | exact List.Mem.head _ | apply List.Mem.tail))
 have h1:=tabIs_of_reads (g:=1) (t:=257) (e:=3) (n:=12) (by kernel_rfl) (by kernel_rfl) Tryz.underlying257 Tryz.underlying3 (by kernel_rfl) (by kernel_rfl)
  (md_eq▸g1)
 have h2:=strs_of_reads (g:=0) (t:=231) (e:=9) (n:=7) (by kernel_rfl) (by kernel_rfl) Tryz.underlying231 Tryz.underlying9 (by kernel_rfl) (by kernel_rfl)
  (wk_eq▸g2)
 have h3:=strs_of_reads (g:=3) (t:=273) (e:=9) (n:=12) (by kernel_rfl) (by kernel_rfl) Tryz.underlying273 Tryz.underlying9 (by kernel_rfl) (by kernel_rfl)
  (mo_eq▸g3)
 refine⟨fun j hj=>?_,fun j hj=>?_,fun j hj=>?_⟩
 ·have:=TabIs.cell h1 (g:=1) (by kernel_rfl) j (by simpa [mdT] using hj)
  rw [this]
  have hall:∀i:Fin 12,(mdT.map fun c:Nat=>(c:Int)).getD i.val 0=((mdT.getD i.val 0:Nat):Int):=by decide
  rw [hall ⟨j,hj⟩]
 ·have:=h2 j (by simpa using hj)
  rw [this]
  have hall:∀i:Fin 7,([wkT 0,wkT 1,wkT 2,wkT 3,wkT 4,wkT 5,wkT 6]:List (List UInt8)).getD i.val []=wkT i.val:=by decide
  rw [hall ⟨j,hj⟩]
 ·have:=h3 j (by simpa using hj)
  rw [this]
  have hall:∀i:Fin 12,([moT 1,moT 2,moT 3,moT 4,moT 5,moT 6,moT 7,moT 8,moT 9,moT 10,moT 11,moT 12]:List (List UInt8)).getD i.val []=moT (i.val+1):=by decide
  rw [hall ⟨j,hj⟩]
theorem laid14_met (os:Os) (args:Array Value):laidMetH Tryz.prog laid14 ((World.laidAll Tryz.prog os laid14).forCall (fun _ _=>0) ⟨#[],args,[]⟩).memory:=by
 rw [MakeChecks.laidMetH_plain _ _ _ (by kernel_rfl)]
 exact laidMet_laidAll _ (by kernel_rfl) (by kernel_rfl)
end Go.Proofs.YtfaedmbfabfmeaaGreatDoor
