/- Plain: the rules of fields, and where they stand. · Plain: rules, what may be stored, how long it is fresh, whether it may be told. · Plain: what the law's 'awake' over package policy asks. · The document's own usual_RuP, strict, Judge, OnError (sculleryref14). -/
import Derived.Test.YtfaedmbfabfmeaaGreatDoorYMMoP
import Derived.Test.YtfaedmbfabfmeaaGreatDoorYMLgH
import Derived.Test.YtfaedmbfabfmeaaGreatDoorYMBasP
import Derived.Test.YtfaedmbfabfmeaaGreatDoorYMHdS
import Derived.Test.YtfaedmbfabfmeaaGreatDoorYMFldP
import Derived.Test.YtfaedmbfabfmeaaGreatDoorRows
import Derived.IntWalk
import Derived.BigQuiet
import Derived.Deep.QuietTactic
import Derived.WalkKit
import Derived.WalkSpells
import Derived.WalkLawsBesides
import Derived.Lib.Hide
set_option linter.unusedSimpArgs false
set_option maxRecDepth 100000
set_option maxHeartbeats 4000000
namespace Go.Proofs.YtfaedmbfabfmeaaGreatDoor
open Go.RowKit
def nCdn:List UInt8:=[99,100,110,45,99,97,99,104,101,45,99,111,110,116,114,111,108]
def chsA (fs:List Fld):Value:=
 if 0<(allH fs nCdn).length∧(modL (joinH (allH fs nCdn))).isSome=true then .tuple #[rulO (modL (joinH (allH fs nCdn))),.int .i64 2]
 else if 0<(allH fs nCtl).length then .tuple #[rulV (ctlD fs),.int .i64 1]
 else .tuple #[rulV [],.int .i64 0]
def ruD (l:List Dir):Ru_RuP:=⟨hasN l nNoStore,hasN l nNoCache,hasN l nPrivate,hasN l nPublic,hasN l nMust,hasN l nProxy,hasN l nImmut,hasN l nOnly,numN l nMaxAge,numN l nSMax,stlN l nStale,numN l nFresh,numN l nIfErr⟩
def ruE (es:List Ent):Ru_RuP:=⟨yesR es nNoStore,yesR es nNoCache,yesR es nPrivate,yesR es nPublic,yesR es nMust,yesR es nProxy,yesR es nImmut,yesR es nOnly,numR es nMaxAge,numR es nSMax,stlR es,numR es nFresh,numR es nIfErr⟩
def ruO:Option (List Ent)→Ru_RuP
 | none=>ruD []
 | some es=>ruE es
theorem ruD_v (l:List Dir):rulV l=(ruD l).v:=rfl
theorem ruO_v (o:Option (List Ent)):rulO o=(ruO o).v:=by cases o<;>rfl
def chR (fs:List Fld):Ru_RuP:=
 if 0<(allH fs nCdn).length∧(modL (joinH (allH fs nCdn))).isSome=true then ruO (modL (joinH (allH fs nCdn)))
 else if 0<(allH fs nCtl).length then ruD (ctlD fs)
 else ruD []
def chT (fs:List Fld):Int:=
 if 0<(allH fs nCdn).length∧(modL (joinH (allH fs nCdn))).isSome=true then 2
 else if 0<(allH fs nCtl).length then 1
 else 0
theorem chs_v (fs:List Fld):chsA fs=.tuple #[(chR fs).v,.int .i64 (chT fs)]:=by
 unfold chsA chR chT
 split
 ·rw [ruO_v]
 ·split<;>rfl
def nGet:List UInt8:=[71,69,84]
def nAuth:List UInt8:=[97,117,116,104,111,114,105,122,97,116,105,111,110]
def nExp:List UInt8:=[101,120,112,105,114,101,115]
def isN (fs:List Fld) (n:List UInt8):Bool:=decide (0<(allH fs n).length)
def storR (r a:Ru_RuP) (t:Int) (secret expires get:Bool) (st:Int):Bool:=
 get&&(decide (200≤st)&&(!decide (st=206)&&(!decide (st=304)&&(!a.ns&&(!r.ns&&(!r.pr&&((!secret||(strictR_RuP r||r.pu))&&(decide (t=2)||(r.pu||(decide (0≤r.ma)||(decide (0≤r.sm)||(expires||usual_RuP st))))))))))))
def storP (m:List UInt8) (fq:List Fld) (st:Int) (fp:List Fld):Bool:=storR (chR fp) (ruD (ctlD fq)) (chT fp) (isN fq nAuth) (isN fp nExp) (decide (m=nGet)) st
def secO (fs:List Fld) (n:List UInt8):Option Int:=secN (joinH (allH fs n))
def lifR (r:Ru_RuP) (t:Int) (expires last:Bool) (eo lo:Option Int) (made:Int) (st:Int):Int:=
 if 0≤r.sm then r.sm else if 0≤r.ma then r.ma else if t=2 then 0
 else if expires=true then(match eo with | none=>0 | some n=>sumA [n-made])
 else if last=true∧(usual_RuP st=true∨r.pu=true)then(match lo with | none=>0 | some n=>min (sumA [max (made-n) 0 / 10]) 86400)
 else 0
def lifP (st:Int) (fp:List Fld) (got:Int):Int:=lifR (chR fp) (chT fp) (isN fp nExp) (isN fp nLmd) (secO fp nExp) (secO fp nLmd) (dateA fp got) st
def poF:List Fld:=[(nCtl,[109,97,120,45,97,103,101,61,49,48])]
def ru0:Ru_RuP:=⟨false,false,false,false,false,false,false,false,-1,-1,-1,-1,-1⟩
def ruI:Ru_RuP:=⟨false,false,false,false,false,false,true,false,-1,-1,-1,-1,-1⟩
def ruC:Ru_RuP:=⟨false,true,false,false,false,false,false,false,-1,-1,-1,-1,-1⟩
theorem po_1:storP nGet [] 200 poF=true:=by decide +kernel
theorem po_2:storP [80,79,83,84] [] 200 poF=false:=by decide +kernel
theorem po_3:lifP 200 poF 0=10:=by decide +kernel
theorem po_4:judP_RuP 5 10 ru0 ru0=0:=by decide +kernel
theorem po_5:judP_RuP 10 10 ru0 ru0=1:=by decide +kernel
theorem po_6:judP_RuP 5 10 ru0 ruC=2:=by decide +kernel
theorem po_7:judP_RuP 5 10 ruI ruC=0:=by decide +kernel
theorem po_8:errP_RuP 20 10 ru0=true:=by decide +kernel
theorem po_9:errP_RuP 5 10 ruC=false:=by decide +kernel
theorem po_ok:FldsOk poF:=⟨by decide,by decide⟩
theorem po_j (n:List UInt8):(joinH (allH poF n)).length≤90000:=by
 by_cases h1:nCtl=n
 ·rw [show allH poF n=[[109,97,120,45,97,103,101,61,49,48]]by simp [allH,poF,h1]];decide
 ·rw [show allH poF n=[]by simp [allH,poF,h1]];decide
theorem flds_po (W:World) (a b:List UInt8) (T:TypeId):Flds 0 (W.alloc (.cells #[.string (strB a),.string (strB b)] T)) (.slice (some ⟨W.heap.size,0,none⟩) 1 1) [(a,b)]:=by
 refine⟨_,1,rfl,.inr ⟨W.heap.size,0,rfl,Nat.zero_le _,by simp,fun j p hj=>?_⟩⟩
 match j,hj with
 | 0,hj =>
  obtain rfl:=Option.some.inj hj
  exact⟨by simp,by simp⟩
 | j+1,hj=>simp at hj
theorem po_nil (n:List UInt8):(joinH (allH [] n)).length≤90000:=by simp [allH,joinH]
theorem po_nok:FldsOk []:=⟨by simp,fun p hp=>by cases hp⟩
end Go.Proofs.YtfaedmbfabfmeaaGreatDoor
namespace Go.Proofs.YtfaedmbfabfmeaaGreatDoor
open Go.RowKit Go.Lib
theorem rstrict_any (r:Ru_RuP) (w:World) :
  Calls Tryz.prog 36 #[r.v] w fun e w'=>e=.returned (.bool (strictR_RuP r))∧Below w.heap.size w w':=by
 obtain⟨b0,b1,b2,b3,b4,b5,b6,b7,k0,k1,k2,k3,k4⟩:=r
 dsimp only [Ru_RuP.v,strictR_RuP]
 have HB:=zH ((Below.refl w.heap.size w).alloc (zR _) (.cells #[.bool b0,.bool b1,.bool b2,.bool b3,.bool b4,.bool b5,.bool b6,.bool b7,.int .i64 k0,.int .i64 k1,.int .i64 k2,.int .i64 k3,.int .i64 k4] 36))
 cases b4
 ·cases b5
  ·go_enter Tryz.func36,Tryz.ntmps36
   go_wp2_with fail
   go_ret
   exact⟨by simp,HB.out⟩
  ·go_enter Tryz.func36,Tryz.ntmps36
   go_wp2_with fail
   go_ret
   exact⟨by simp,HB.out⟩
 ·go_enter Tryz.func36,Tryz.ntmps36
  go_wp2_with fail
  go_ret
  exact⟨by simp,HB.out⟩
def stL:List Int:=[200,203,204,300,301,308,404,405,410,414,501]
theorem usual_iff (n:Int):usual_RuP n=decide (n∈stL):=rfl
theorem usual_no (n:Int) (h:∀i,i<11→stL[i]?≠some n):usual_RuP n=false:=by
 rw [usual_iff]
 refine decide_eq_false fun hm=>?_
 obtain⟨i,hi⟩:=List.getElem?_of_mem hm
 exact h i (by have:=(List.getElem?_eq_some_iff.1 hi).1;simpa [stL] using this) hi
theorem usual_yes (n:Int) (i:Nat) (h:stL[i]? = some n):usual_RuP n=true:=by
 rw [usual_iff]
 exact decide_eq_true (List.mem_of_getElem? h)
theorem stL_cell (i:Nat) (h:i<11):∃x,stL[i]? = some x∧([.int .i64 200,.int .i64 203,.int .i64 204,.int .i64 300,.int .i64 301,.int .i64 308,.int .i64 404,.int .i64 405,.int .i64 410,.int .i64 414,.int .i64 501]:List Value)[i]? = some (.int .i64 x):=by
 have:∀i:Fin 11,∃x,stL[i.val]? = some x∧([.int .i64 200,.int .i64 203,.int .i64 204,.int .i64 300,.int .i64 301,.int .i64 308,.int .i64 404,.int .i64 405,.int .i64 410,.int .i64 414,.int .i64 501]:List Value)[i.val]? = some (.int .i64 x):=by
  intro i
  match i with
  | 0=>exact⟨200,rfl,rfl⟩
  | 1=>exact⟨203,rfl,rfl⟩
  | 2=>exact⟨204,rfl,rfl⟩
  | 3=>exact⟨300,rfl,rfl⟩
  | 4=>exact⟨301,rfl,rfl⟩
  | 5=>exact⟨308,rfl,rfl⟩
  | 6=>exact⟨404,rfl,rfl⟩
  | 7=>exact⟨405,rfl,rfl⟩
  | 8=>exact⟨410,rfl,rfl⟩
  | 9=>exact⟨414,rfl,rfl⟩
  | 10=>exact⟨501,rfl,rfl⟩
 exact this ⟨i,h⟩
theorem rusual_any (n:Int) (w:World) :
  Calls Tryz.prog 37 #[.int .i64 n] w fun e w'=>e=.returned (.bool (usual_RuP n))∧Below w.heap.size w w':=by
 have HB:=zH ((Below.refl w.heap.size w).alloc (zR _) (.cells #[.int .i64 200,.int .i64 203,.int .i64 204,.int .i64 300,.int .i64 301,.int .i64 308,.int .i64 404,.int .i64 405,.int .i64 410,.int .i64 414,.int .i64 501] 3))
 have HX:=zH (BoxN.made w [.int .i64 200,.int .i64 203,.int .i64 204,.int .i64 300,.int .i64 301,.int .i64 308,.int .i64 404,.int .i64 405,.int .i64 410,.int .i64 414,.int .i64 501] 3)
 go_enter Tryz.func37,Tryz.ntmps37
 go_wp2_with fail
 generalize w.alloc (.cells #[.int .i64 200,.int .i64 203,.int .i64 204,.int .i64 300,.int .i64 301,.int .i64 308,.int .i64 404,.int .i64 405,.int .i64 410,.int .i64 414,.int .i64 501] 3)=W at *
 go_loopw [4] (fun iv wr=>∃j:Nat,iv=.int .i64 j∧j≤11∧Hid (∀i,i<j→stL[i]?≠some n)∧wr=W) (fun iv _=>11-(RowKit.intOf iv).toNat)
 case atStart=>exact⟨0,rfl,Nat.zero_le _,zH (fun i h=>by omega),rfl⟩
 case round =>
  obtain⟨j,rfl,hj,HN,rfl⟩:=hrel
  by_cases hlt:j<11
  ·obtain⟨x,hx,hc⟩:=stL_cell j hlt
   have a0:=(HX.out.2 j _ hc).1
   have jI:(j:Int)<11:=by omega
   have j0:(0:Int)≤(j:Int):=by omega
   clear hc
   by_cases hxn:x=n
   ·subst hxn
    have HV:=zH (usual_yes x j hx)
    clear hx
    go_wp2_with fail
    go_ret
    exact⟨by rw [HV.out]<;>rfl,HB.out⟩
   ·have HN2:Hid (∀i,i<j+1→stL[i]?≠some n):=zH (fun i hi=>by
     by_cases he:i=j
     ·subst he
      rw [hx]
      intro h
      exact hxn (Option.some.inj h)
     ·exact HN.out i (by omega))
    have hb:(x==n)=false:=by simpa using hxn
    clear hx
    go_wp2_with fail
    go_roundw
    case rel=>exact⟨j+1,by go_num,by omega,HN2,trivial⟩
    case measure=>simp [RowKit.intOf];omega
  ·obtain rfl:j=11:=by omega
   have HV:=zH (usual_no n HN.out)
   go_wp2_with fail
   go_ret
   exact⟨by rw [HV.out]<;>rfl,HB.out⟩
end Go.Proofs.YtfaedmbfabfmeaaGreatDoor
