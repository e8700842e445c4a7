/- Plain: texts cut at their commas outside of quoted parts (as in the texts of package ascii, for a seat on BasP). · Plain: directives, and what they tell. · Plain: a trimmed text is no longer. -/
import Derived.Test.YtfaedmbfabfmeaaGreatDoorYMBasP
import Derived.Test.YtfaedmbfabfmeaaGreatDoorYTrimP
import Derived.Lib.IndexBytes
namespace Go.Proofs.YtfaedmbfabfmeaaGreatDoor
open Go.RowKit
def qgo:Bool→List UInt8→Nat
 | _,[]=>0
 | odd,c :: r=>if c==92 then 1+qgo (!odd) r else if c==34&&!odd then 1 else 1+qgo false r
theorem qgo_le:∀(o:Bool) (l:List UInt8),qgo o l≤l.length
 | _,[]=>zR _
 | o,c :: r=>by
  unfold qgo
  have h1:=qgo_le (!o) r
  have h2:=qgo_le false r
  simp only [List.length_cons]
  split
  ·omega
  ·split<;>omega
def quoL (l:List UInt8):Nat:=1+qgo false (l.drop 1)
def peS:Option Bool→List UInt8→Nat
 | _,[]=>0
 | none,c :: r=>if c==44 then 0 else if c==34 then 1+peS (some false) r else 1+peS none r
 | some o,c :: r=>if c==92 then 1+peS (some (!o)) r else if c==34&&!o then 1+peS none r else 1+peS (some false) r
def peL (l:List UInt8):Nat:=peS none l
theorem peS_le:∀(o:Option Bool) (l:List UInt8),peS o l≤l.length
 | none,[]=>zR _
 | some _,[]=>zR _
 | none,c :: r=>by
  unfold peS
  have h1:=peS_le (some false) r
  have h2:=peS_le none r
  simp only [List.length_cons]
  split
  ·omega
  ·split<;>omega
 | some o,c :: r=>by
  unfold peS
  have h1:=peS_le (some false) r
  have h2:=peS_le none r
  have h3:=peS_le (some (!o)) r
  simp only [List.length_cons]
  split
  ·omega
  ·split<;>omega
theorem peS_in:∀(o:Bool) (l:List UInt8),peS (some o) l=qgo o l+peS none (l.drop (qgo o l))
 | _,[]=>rfl
 | o,c :: r=>by
  have h1:=peS_in (!o) r
  have h2:=peS_in false r
  rw [peS,qgo]
  by_cases a:(c==92)=true
  ·rw [if_pos a,if_pos a,h1,Nat.add_comm 1 (qgo (!o) r),List.drop_succ_cons];omega
  ·rw [if_neg a,if_neg a]
   by_cases b:(c==34&&!o)=true
   ·rw [if_pos b,if_pos b,List.drop_one,List.tail_cons]
   ·rw [if_neg b,if_neg b,h2,Nat.add_comm 1 (qgo false r),List.drop_succ_cons];omega
theorem peS_quoted (r:List UInt8):peS none (34 :: r)=quoL (34 :: r)+peS none ((34 :: r).drop (quoL (34 :: r))):=by
 have e:peS none (34 :: r)=1+peS (some false) r:=by rw [peS];simp
 rw [e,peS_in,quoL,List.drop_one,List.tail_cons,Nat.add_comm 1 (qgo false r),List.drop_succ_cons]
 omega
theorem quoL_le (l:List UInt8) (h:0<l.length):quoL l≤l.length:=by
 have:=qgo_le false (l.drop 1)
 rw [List.length_drop]at this
 unfold quoL
 omega
def splF:Nat→List UInt8→List (List UInt8)
 | 0,_=>[]
 | f+1,l=>if l=[]then []else(if trimL (l.take (peL l))=[]then []else [trimL (l.take (peL l))])++splF f (l.drop (peL l+1))
def splitL (l:List UInt8):List (List UInt8):=splF l.length l
theorem splF_nil:∀f,splF f []=[]
 | 0=>rfl
 | f+1=>by simp [splF]
theorem splF_fuel:∀(f g:Nat) (l:List UInt8),l.length≤f→l.length≤g→splF f l=splF g l
 | 0,g,l,hf,_=>by
  have:l=[]:=List.eq_nil_of_length_eq_zero (by omega)
  rw [this,splF_nil,splF_nil]
 | f+1,0,l,_,hg=>by
  have:l=[]:=List.eq_nil_of_length_eq_zero (by omega)
  rw [this,splF_nil,splF_nil]
 | f+1,g+1,l,hf,hg=>by
  by_cases hne:l=[]
  ·rw [hne,splF_nil,splF_nil]
  ·have hp:0<l.length:=List.length_pos_iff.2 hne
   simp only [splF,if_neg hne]
   rw [splF_fuel f g (l.drop (peL l+1)) (by rw [List.length_drop];omega) (by rw [List.length_drop];omega)]
theorem splitL_step (l:List UInt8) (h:l≠[]):splitL l=(if trimL (l.take (peL l))=[]then []else [trimL (l.take (peL l))])++splitL (l.drop (peL l+1)):=by
 have hp:0<l.length:=List.length_pos_iff.2 h
 obtain⟨k,hk⟩:∃k,l.length=k+1:=⟨l.length-1,by omega⟩
 unfold splitL
 rw [hk,splF,if_neg h,splF_fuel k _ _ (by rw [List.length_drop];omega) (zR _)]
theorem splitL_nil:splitL []=[]:=rfl
theorem peL_le (l:List UInt8):peL l≤l.length:=peS_le none l
def stOf (q sl:Bool):Option Bool:=if q then some sl else none
structure SplInv (l:List UInt8) (k f:Nat) (q sl:Bool) (acc:List (List UInt8)):Prop where
 split:splitL l=acc++splitL (l.drop f)
 fk:f≤k
 quiet:q=false→sl=false
 here:k≤l.length→peL (l.drop f)=(k-f)+peS (stOf q sl) (l.drop k)
 last:k=l.length+1→f=l.length+1
 few:acc.length≤k
theorem SplInv.start (l:List UInt8):SplInv l 0 0 false false []:=
 ⟨by simp,zR _,fun _=>rfl,fun _=>by simp [stOf,peL],fun h=>by omega,by simp⟩
theorem SplInv.plain {l:List UInt8} {k f:Nat} {q sl:Bool} {acc:List (List UInt8)} (h:SplInv l k f q sl acc) (hk:k<l.length) (q' sl':Bool) (hq:q'=false→sl'=false)
  (hstep:peS (stOf q sl) (l.drop k)=1+peS (stOf q' sl') (l.drop (k+1))):SplInv l (k+1) f q' sl' acc:=
 ⟨h.split,by have:=h.fk;omega,hq,fun _=>by have:=h.here (by omega);have:=h.fk;rw [h.here (by omega),hstep];omega,fun e=>by omega,by have:=h.few;omega⟩
theorem SplInv.cut {l:List UInt8} {k f:Nat} {q sl:Bool} {acc:List (List UInt8)} (h:SplInv l k f q sl acc) (hk:k≤l.length) (_:k<l.length→q=false)
  (hz:peS (stOf q sl) (l.drop k)=0):splitL l=acc++(if trimL ((l.drop f).take (k-f))=[]then []else [trimL ((l.drop f).take (k-f))])++splitL (l.drop (k+1)):=by
 have hp:=h.here hk
 have hf:=h.fk
 rw [hz]at hp
 by_cases hne:l.drop f=[]
 ·have hfl:l.length≤f:=by
   have:=congrArg List.length hne
   rw [List.length_drop,List.length_nil]at this
   omega
  rw [h.split,hne,splitL_nil,List.take_nil,show trimL []=[]from rfl,if_pos rfl,List.drop_of_length_le (by omega),splitL_nil,List.append_nil,List.append_nil]
 ·rw [h.split,splitL_step _ hne,hp,Nat.add_zero,List.drop_drop,show f+(k-f+1)=k+1 by omega,List.append_assoc]
theorem SplInv.next {l:List UInt8} {k f:Nat} {q sl:Bool} {acc:List (List UInt8)} (h:SplInv l k f q sl acc) (hk:k≤l.length) (hq:k<l.length→q=false)
  (hz:peS (stOf q sl) (l.drop k)=0) (q' sl':Bool) (hq0:k<l.length→q'=false) (hq':q'=false→sl'=false) (t:List (List UInt8)) (ht:t=if trimL ((l.drop f).take (k-f))=[]then []else [trimL ((l.drop f).take (k-f))]):SplInv l (k+1) (k+1) q' sl' (acc++t):=by
 refine⟨by rw [ht];exact h.cut hk hq hz,zR _,hq',fun h1=>?_,fun e=>by omega,?_⟩
 ·rw [hq0 (by omega),stOf,if_neg (by decide),Nat.sub_self,Nat.zero_add]<;>rfl
 ·have:=h.few
  rw [ht,List.length_append]
  split<;>simp<;>omega
abbrev Dir:=List UInt8×List UInt8×Bool
def unqF:Nat→List UInt8→Option (List UInt8)
 | 0,_=>none
 | _+1,[]=>none
 | f+1,c :: r =>
  if c=34 then(if r=[]then some []else none)
  else if c=92 then(if r=[]then none else(unqF f (r.drop 1)).map (r.getD 0 0 :: ·))
  else(unqF f r).map (c :: ·)
def unqG (l:List UInt8):Option (List UInt8):=unqF (l.length+1) l
theorem unqF_more:∀(f g:Nat) (l:List UInt8),l.length<f→l.length<g→unqF f l=unqF g l
 | 0,_,_,h,_=>by omega
 | _+1,0,_,_,h=>by omega
 | f+1,g+1,[],_,_=>rfl
 | f+1,g+1,c :: r,hf,hg=>by
  simp only [List.length_cons]at hf hg
  rw [unqF,unqF,unqF_more f g r (by omega) (by omega),unqF_more f g (r.drop 1) (by rw [List.length_drop];omega) (by rw [List.length_drop];omega)]
theorem unqG_nil:unqG []=none:=rfl
theorem unqG_end (r:List UInt8):unqG (34 :: r)=if r=[]then some []else none:=by
 rw [unqG,unqF,if_pos rfl]
theorem unqG_esc_nil:unqG [92]=none:=rfl
theorem unqG_esc (d:UInt8) (t:List UInt8):unqG (92 :: d :: t)=(unqG t).map (d :: ·):=by
 rw [unqG,unqF,if_neg (by decide),if_pos rfl,if_neg (by simp),show(d :: t).drop 1=t from rfl,unqF_more _ (t.length+1) t (by simp only [List.length_cons];omega) (by omega)]
 rfl
theorem unqG_other (c:UInt8) (r:List UInt8) (h1:c≠34) (h2:c≠92):unqG (c :: r)=(unqG r).map (c :: ·):=by
 rw [unqG,unqF,if_neg h1,if_neg h2,unqF_more _ (r.length+1) r (by simp) (by omega)]
 rfl
def unqL:List UInt8→Option (List UInt8)
 | c :: r=>if c=34 then unqG r else none
 | []=>none
def oneL (s : List UInt8) : Option Dir :=
  if Lib.indexByte s 61 = -1 then (if tokL s = true then some (lowL s, [], false) else none)
  else if tokL (s.take (Lib.indexByte s 61).toNat) = true then
    (if tokL (s.drop ((Lib.indexByte s 61).toNat + 1)) = true then some (lowL (s.take (Lib.indexByte s 61).toNat), s.drop ((Lib.indexByte s 61).toNat + 1), true)
     else (unqL (s.drop ((Lib.indexByte s 61).toNat + 1))).map fun t => (lowL (s.take (Lib.indexByte s 61).toNat), t, true))
  else none
def dirsL (s:List UInt8):List Dir:=(splitL s).filterMap oneL
def fstN (l:List Dir) (n:List UInt8):Option Dir:=l.find? fun d=>d.1==n
def hasN (l:List Dir) (n:List UInt8):Bool:=(fstN l n).isSome
def numN (l:List Dir) (n:List UInt8):Int:=match fstN l n with | none=>-1 | some d=>digitsN d.2.1
def stlN (l:List Dir) (n:List UInt8):Int:=match fstN l n with | none=>-1 | some d=>if d.2.2=true then digitsN d.2.1 else 2147483648
def nNoStore:List UInt8:=[110,111,45,115,116,111,114,101]
def nNoCache:List UInt8:=[110,111,45,99,97,99,104,101]
def nPrivate:List UInt8:=[112,114,105,118,97,116,101]
def nPublic:List UInt8:=[112,117,98,108,105,99]
def nMust:List UInt8:=[109,117,115,116,45,114,101,118,97,108,105,100,97,116,101]
def nProxy:List UInt8:=[112,114,111,120,121,45,114,101,118,97,108,105,100,97,116,101]
def nImmut:List UInt8:=[105,109,109,117,116,97,98,108,101]
def nOnly:List UInt8:=[111,110,108,121,45,105,102,45,99,97,99,104,101,100]
def nMaxAge:List UInt8:=[109,97,120,45,97,103,101]
def nSMax:List UInt8:=[115,45,109,97,120,97,103,101]
def nStale:List UInt8:=[109,97,120,45,115,116,97,108,101]
def nFresh:List UInt8:=[109,105,110,45,102,114,101,115,104]
def nIfErr:List UInt8:=[115,116,97,108,101,45,105,102,45,101,114,114,111,114]
def rulV (l:List Dir):Value:=.agg #[.bool (hasN l nNoStore),.bool (hasN l nNoCache),.bool (hasN l nPrivate),.bool (hasN l nPublic),.bool (hasN l nMust),.bool (hasN l nProxy),.bool (hasN l nImmut),.bool (hasN l nOnly),
 .int .i64 (numN l nMaxAge),.int .i64 (numN l nSMax),.int .i64 (stlN l nStale),.int .i64 (numN l nFresh),.int .i64 (numN l nIfErr)]
end Go.Proofs.YtfaedmbfabfmeaaGreatDoor
namespace Go.Proofs.YtfaedmbfabfmeaaGreatDoor
theorem dropWhile_le (p:UInt8→Bool):∀l:List UInt8,(l.dropWhile p).length≤l.length
 | []=>zR _
 | c :: l=>by
  have:=dropWhile_le p l
  rw [List.dropWhile_cons]
  split
  ·simp only [List.length_cons];omega
  ·exact zR _
theorem trimL_le (l:List UInt8):(trimL l).length≤l.length:=by
 unfold trimL trL tlL
 have h1:=dropWhile_le blkB (List.dropWhile blkB l).reverse
 have h2:=dropWhile_le blkB l
 simp only [List.length_reverse]at h1 ⊢
 omega
end Go.Proofs.YtfaedmbfabfmeaaGreatDoor
