/- Plain: the rules of fields, and where they stand. · Plain: rules, what may be stored, how long it is fresh, whether it may be told. · Plain: what the law's 'awake' over package policy asks. -/
import Derived.Test.YtfaedmbfabfmeaaGreatDoorZMMoP
import Derived.Test.YtfaedmbfabfmeaaGreatDoorZLgH
import Derived.Test.YtfaedmbfabfmeaaGreatDoorZMBasP
import Derived.Test.YtfaedmbfabfmeaaGreatDoorZMHdS
import Derived.Test.YtfaedmbfabfmeaaGreatDoorZMFldP
namespace Go.Proofs.YtfaedmbfabfmeaaGreatDoor
open Go.RowKit
def nCdn:List UInt8:=[99,100,110,45,99,97,99,104,101,45,99,111,110,116,114,111,108]
def chsA (fs:List Fld):Value:=
 if 0<(allH fs nCdn).length∧(modL (joinH (allH fs nCdn))).isSome=true then .tuple #[rulO (modL (joinH (allH fs nCdn))),.int .i64 2]
 else if 0<(allH fs nCtl).length then .tuple #[rulV (ctlD fs),.int .i64 1]
 else .tuple #[rulV [],.int .i64 0]
def ruD (l:List Dir):Ru_RuP:=⟨hasN l nNoStore,hasN l nNoCache,hasN l nPrivate,hasN l nPublic,hasN l nMust,hasN l nProxy,hasN l nImmut,hasN l nOnly,numN l nMaxAge,numN l nSMax,stlN l nStale,numN l nFresh,numN l nIfErr⟩
def ruE (es:List Ent):Ru_RuP:=⟨yesR es nNoStore,yesR es nNoCache,yesR es nPrivate,yesR es nPublic,yesR es nMust,yesR es nProxy,yesR es nImmut,yesR es nOnly,numR es nMaxAge,numR es nSMax,stlR es,numR es nFresh,numR es nIfErr⟩
def ruO:Option (List Ent)→Ru_RuP
 | none=>ruD []
 | some es=>ruE es
theorem ruD_v (l:List Dir):rulV l=(ruD l).v:=rfl
theorem ruE_v (es:List Ent):rulM es=(ruE es).v:=rfl
theorem ruO_v (o:Option (List Ent)):rulO o=(ruO o).v:=by cases o<;>rfl
def chR (fs:List Fld):Ru_RuP:=
 if 0<(allH fs nCdn).length∧(modL (joinH (allH fs nCdn))).isSome=true then ruO (modL (joinH (allH fs nCdn)))
 else if 0<(allH fs nCtl).length then ruD (ctlD fs)
 else ruD []
def chT (fs:List Fld):Int:=
 if 0<(allH fs nCdn).length∧(modL (joinH (allH fs nCdn))).isSome=true then 2
 else if 0<(allH fs nCtl).length then 1
 else 0
theorem chs_v (fs:List Fld):chsA fs=.tuple #[(chR fs).v,.int .i64 (chT fs)]:=by
 unfold chsA chR chT
 split
 ·rw [ruO_v]
 ·split<;>rfl
theorem chs_eq {fs gs:List Fld} (h:chsA fs=chsA gs):chR fs=chR gs∧chT fs=chT gs:=by
 rw [chs_v,chs_v]at h
 generalize chR fs=a at *
 generalize chR gs=b at *
 generalize chT fs=c at *
 generalize chT gs=d at *
 obtain⟨a0,a1,a2,a3,a4,a5,a6,a7,a8,a9,a10,a11,a12⟩:=a
 obtain⟨b0,b1,b2,b3,b4,b5,b6,b7,b8,b9,b10,b11,b12⟩:=b
 simp at h
 simpa using h
def nGet:List UInt8:=[71,69,84]
def nAuth:List UInt8:=[97,117,116,104,111,114,105,122,97,116,105,111,110]
def nExp:List UInt8:=[101,120,112,105,114,101,115]
def isN (fs:List Fld) (n:List UInt8):Bool:=decide (0<(allH fs n).length)
def storR (r a:Ru_RuP) (t:Int) (secret expires get:Bool) (st:Int):Bool:=
 get&&(decide (200≤st)&&(!decide (st=206)&&(!decide (st=304)&&(!a.ns&&(!r.ns&&(!r.pr&&((!secret||(strictR_RuP r||r.pu))&&(decide (t=2)||(r.pu||(decide (0≤r.ma)||(decide (0≤r.sm)||(expires||usual_RuP st))))))))))))
def storP (m:List UInt8) (fq:List Fld) (st:Int) (fp:List Fld):Bool:=storR (chR fp) (ruD (ctlD fq)) (chT fp) (isN fq nAuth) (isN fp nExp) (decide (m=nGet)) st
def secO (fs:List Fld) (n:List UInt8):Option Int:=secN (joinH (allH fs n))
def lifR (r:Ru_RuP) (t:Int) (expires last:Bool) (eo lo:Option Int) (made:Int) (st:Int):Int:=
 if 0≤r.sm then r.sm else if 0≤r.ma then r.ma else if t=2 then 0
 else if expires=true then(match eo with | none=>0 | some n=>sumA [n-made])
 else if last=true∧(usual_RuP st=true∨r.pu=true)then(match lo with | none=>0 | some n=>min (sumA [max (made-n) 0 / 10]) 86400)
 else 0
def lifP (st:Int) (fp:List Fld) (got:Int):Int:=lifR (chR fp) (chT fp) (isN fp nExp) (isN fp nLmd) (secO fp nExp) (secO fp nLmd) (dateA fp got) st
theorem stor_alike {fp gp:List Fld} (m:List UInt8) (fq:List Fld) (st:Int) (h:chsA fp=chsA gp) (he:isN fp nExp=isN gp nExp∨chT fp=2):storP m fq st fp=storP m fq st gp:=by
 obtain⟨h1,h2⟩:=chs_eq h
 unfold storP
 rw [h1,h2]
 rcases he with he | he
 ·rw [he]
 ·rw [h2]at he
  unfold storR
  simp [he]
theorem lif_two {fp gp:List Fld} (st got:Int) (h:chsA fp=chsA gp) (ht:chT fp=2):lifP st fp got=lifP st gp got:=by
 obtain⟨h1,h2⟩:=chs_eq h
 unfold lifP
 rw [h1,h2]
 rw [h2]at ht
 unfold lifR
 rw [if_pos ht,if_pos ht]
theorem lif_alike {fp gp:List Fld} (st got:Int) (h:chsA fp=chsA gp) (he:allH fp nExp=allH gp nExp) (hl:allH fp nLmd=allH gp nLmd) (hd:allH fp nDateA=allH gp nDateA):lifP st fp got=lifP st gp got:=by
 obtain⟨h1,h2⟩:=chs_eq h
 unfold lifP isN secO
 rw [h1,h2,he,hl,dateA_N,hd,dateA_N]
def poF:List Fld:=[(nCtl,[109,97,120,45,97,103,101,61,49,48])]
def ru0:Ru_RuP:=⟨false,false,false,false,false,false,false,false,-1,-1,-1,-1,-1⟩
def ruI:Ru_RuP:=⟨false,false,false,false,false,false,true,false,-1,-1,-1,-1,-1⟩
def ruC:Ru_RuP:=⟨false,true,false,false,false,false,false,false,-1,-1,-1,-1,-1⟩
theorem po_1:storP nGet [] 200 poF=true:=by decide +kernel
theorem po_2:storP [80,79,83,84] [] 200 poF=false:=by decide +kernel
theorem po_3:lifP 200 poF 0=10:=by decide +kernel
theorem po_4:judP_RuP 5 10 ru0 ru0=0:=by decide +kernel
theorem po_5:judP_RuP 10 10 ru0 ru0=1:=by decide +kernel
theorem po_6:judP_RuP 5 10 ru0 ruC=2:=by decide +kernel
theorem po_7:judP_RuP 5 10 ruI ruC=0:=by decide +kernel
theorem po_8:errP_RuP 20 10 ru0=true:=by decide +kernel
theorem po_9:errP_RuP 5 10 ruC=false:=by decide +kernel
theorem po_ok:FldsOk poF:=⟨by decide,by decide⟩
theorem po_j (n:List UInt8):(joinH (allH poF n)).length≤90000:=by
 by_cases h1:nCtl=n
 ·rw [show allH poF n=[[109,97,120,45,97,103,101,61,49,48]]by simp [allH,poF,h1]];decide
 ·rw [show allH poF n=[]by simp [allH,poF,h1]];decide
theorem flds_po (W:World) (a b:List UInt8) (T:TypeId):Flds 0 (W.alloc (.cells #[.string (strB a),.string (strB b)] T)) (.slice (some ⟨W.heap.size,0,none⟩) 1 1) [(a,b)]:=by
 refine⟨_,1,rfl,.inr ⟨W.heap.size,0,rfl,Nat.zero_le _,by simp,fun j p hj=>?_⟩⟩
 match j,hj with
 | 0,hj =>
  obtain rfl:=Option.some.inj hj
  exact⟨by simp,by simp⟩
 | j+1,hj=>simp at hj
theorem po_nil (n:List UInt8):(joinH (allH [] n)).length≤90000:=by simp [allH,joinH]
theorem po_nok:FldsOk []:=⟨by simp,fun p hp=>by cases hp⟩
end Go.Proofs.YtfaedmbfabfmeaaGreatDoor
