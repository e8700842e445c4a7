/- The contracts of bare.decimalText and bare.stringText. · The contract of bare.Print. · Plain facts about bare items: digits, base64 there and back. No program is walked. · Plain facts about bare items: what is read may be, and lies within the text. No program is walked. · The contracts of item's functions on one byte and on keys: beginsKey, inKey, keyLength, Key, ReadKey, unspoken. · The parser's place in memory, and the contract of its take. · The contracts of the document's own functions (sculleryref03): first, later. · The contracts of the document's ReadKey and Key (sculleryref03). · The contracts of the document's own answers for one byte, and of its small functions (sculleryref01, sculleryref02). · The contract of the document's own Encode (sculleryref02). · The contract of the document's own answer to Right (sculleryref02). · The contract of the document's own readString (sculleryref02). · The cells of a boxed api.Bare, behind whatever was made later. · The contract of the document's own Decode (sculleryref02). · The contract of the document's own readNumber (sculleryref02). · The contract of the document's own Read (sculleryref02). -/
import Derived.Test.YtfaedmbfabfmeaaGreatDoorYMRawP
import Derived.Test.YtfaedmbfabfmeaaGreatDoorYPowP
import Derived.Test.YtfaedmbfabfmeaaGreatDoorYMBarC
import Derived.Lib.AppendIntMem
import Derived.Lib.ItoaNum
import Derived.Lib.TrimByte
import Derived.Laws.OwnMore
import Derived.Deep.QuietTactic
import Derived.BigQuiet
import Derived.IntWalk
set_option linter.unusedSimpArgs false
set_option maxRecDepth 100000
set_option maxHeartbeats 1000000
namespace Go.Proofs.YtfaedmbfabfmeaaGreatDoor
open Go.RowKit
def decN (n:Nat):List UInt8:=Lib.decDigits (n / 1000)++(46 :: UInt8.ofNat (48+n % 1000 / 100) :: Lib.trimRightB [UInt8.ofNat (48+n % 1000 / 10 % 10),UInt8.ofNat (48+n % 1000 % 10)] 48)
def decT (n:Int):List UInt8:=if n<0 then 45 :: decN n.natAbs else decN n.natAbs
theorem encL_len:∀l:List UInt8,(encL l).length=(l.length+2) / 3*4
 | []=>rfl
 | [_]=>by simp [encL]
 | [_,_]=>by simp [encL]
 | x :: y :: z :: r=>by
  have:=encL_len r
  simp only [encL,List.length_cons,this]
  omega
def escL:List UInt8→List UInt8
 | []=>[]
 | c :: r=>if escI c.toNat then 92 :: c :: escL r else c :: escL r
def strT (l:List UInt8):List UInt8:=34 :: (escL l++[34])
def textL (k n:Int) (s:List UInt8):List UInt8:=
 if k=1 then Lib.itoa n else if k=2 then decT n else if k=3 then strT s else if k=4 then s else if k=5 then 58 :: (encL s++[58])else 63 :: Lib.itoa n
end Go.Proofs.YtfaedmbfabfmeaaGreatDoor
namespace Go.Proofs.YtfaedmbfabfmeaaGreatDoor
theorem numL_three (z:List UInt8) (a b c:UInt8):numL (z++[a,b,c])=1000*numL z+100*((a.toNat:Int)-48)+10*((b.toNat:Int)-48)+((c.toNat:Int)-48):=by
 simp only [numL,List.foldl_append,List.foldl_cons,List.foldl_nil]
 omega
theorem takeWhile_all (p:UInt8→Bool):∀(z t:List UInt8),z.all p=true→(z++t).takeWhile p=z++t.takeWhile p
 | [],_,_=>rfl
 | c :: z,t,h=>by
  rw [List.all_cons,Bool.and_eq_true]at h
  rw [List.cons_append,List.takeWhile_cons,h.1,takeWhile_all p z t h.2]<;>rfl
def encU:List UInt8→List UInt8
 | x :: y :: z :: r=>c0 x y z :: c1 x y z :: c2 x y z :: c3 x y z :: encU r
 | [x,y]=>[c0 x y 0,c1 x y 0,c2 x y 0]
 | [x]=>[c0 x 0 0,c1 x 0 0]
 | []=>[]
theorem encL_pad:∀l:List UInt8,encL l=encU l∨encL l=encU l++[61]∨encL l=encU l++[61,61]
 | []=>.inl rfl
 | [_]=>.inr (.inr rfl)
 | [_,_]=>.inr (.inl rfl)
 | x :: y :: z :: r=>by
  rcases encL_pad r with h | h | h
  ·exact .inl (by rw [encL,encU,h])
  ·exact .inr (.inl (by rw [encL,encU,h]<;>rfl))
  ·exact .inr (.inr (by rw [encL,encU,h]<;>rfl))
theorem alp_fin:∀i:Fin 64,alp i.val≠61∧alp i.val≠58∧valB (alp i.val)=i.val:=by decide +kernel
theorem alp_none (n:Nat) (h:¬n<64):alp n=0:=by
 rw [alp,List.getD_eq_getElem?_getD,List.getElem?_eq_none (by simpa [alphL] using h)]<;>rfl
theorem alp_61 (n:Nat):alp n≠61∧alp n≠58:=by
 by_cases h:n<64
 ·exact⟨(alp_fin ⟨n,h⟩).1,(alp_fin ⟨n,h⟩).2.1⟩
 ·rw [alp_none n h];decide
theorem valB_alp (n:Nat) (h:n<64):valB (alp n)=n:=(alp_fin ⟨n,h⟩).2.2
theorem encU_mem:∀(l:List UInt8) (c:UInt8),c∈encU l→c≠61∧c≠58
 | [],_,h=>by simp [encU]at h
 | [x],c,h=>by
  simp only [encU,List.mem_cons,List.not_mem_nil,or_false]at h
  rcases h with rfl | rfl<;>exact alp_61 _
 | [x,y],c,h=>by
  simp only [encU,List.mem_cons,List.not_mem_nil,or_false]at h
  rcases h with rfl | rfl | rfl<;>exact alp_61 _
 | x :: y :: z :: r,c,h=>by
  simp only [encU,List.mem_cons]at h
  rcases h with rfl | rfl | rfl | rfl | h
  ·exact alp_61 _
  ·exact alp_61 _
  ·exact alp_61 _
  ·exact alp_61 _
  ·exact encU_mem r c h
theorem trim_snoc (u:List UInt8) (c:UInt8):Lib.trimRightB (u++[c]) c=Lib.trimRightB u c:=by
 simp [Lib.trimRightB]
theorem trim_none (u:List UInt8) (c:UInt8) (h:∀x∈u,x≠c):Lib.trimRightB u c=u:=by
 rw [Lib.trimRightB_take u c u.length (zR _)]
 ·simp
 ·intro j b hj hb
  rw [List.getElem?_eq_none hj]at hb;cases hb
 ·intro b _ hb
  exact h b (List.mem_of_getElem? hb)
theorem trim_enc (l:List UInt8):Lib.trimRightB (encL l) 61=encU l:=by
 have h:=trim_none (encU l) 61 (fun x hx=>(encU_mem l x hx).1)
 rcases encL_pad l with e | e | e
 ·rw [e,h]
 ·rw [e,trim_snoc,h]
 ·rw [e,show encU l++[61,61]=(encU l++[61])++[61]by simp,trim_snoc,trim_snoc,h]
theorem gN_four (a b c d:UInt8):gN [a,b,c,d] 4=((valB a*64+valB b)*64+valB c)*64+valB d:=by
 simp [gN,vAt]
theorem gN_three (a b c:UInt8):gN [a,b,c] 4=((valB a*64+valB b)*64+valB c)*64:=by
 simp [gN,vAt]
theorem gN_two (a b:UInt8):gN [a,b] 4=(valB a*64+valB b)*64*64:=by
 simp [gN,vAt]
theorem val_c0 (x y z:UInt8):valB (c0 x y z)=(65536*x.toNat+256*y.toNat+z.toNat) / 262144:=by
 have h1:=x.toNat_lt
 have h2:=y.toNat_lt
 have h3:=z.toNat_lt
 exact valB_alp _ (by omega)
theorem val_c1 (x y z:UInt8):valB (c1 x y z)=(65536*x.toNat+256*y.toNat+z.toNat) / 4096 % 64:=valB_alp _ (by omega)
theorem val_c2 (x y z:UInt8):valB (c2 x y z)=(65536*x.toNat+256*y.toNat+z.toNat) / 64 % 64:=valB_alp _ (by omega)
theorem val_c3 (x y z:UInt8):valB (c3 x y z)=(65536*x.toNat+256*y.toNat+z.toNat) % 64:=valB_alp _ (by omega)
theorem by3_of (x y z:UInt8) (n:Nat) (h:n=65536*x.toNat+256*y.toNat+z.toNat):by3 n=[x,y,z]:=by
 have h1:=x.toNat_lt
 have h2:=y.toNat_lt
 have h3:=z.toNat_lt
 have e0:UInt8.ofNat (n / 65536)=x:=by
  apply UInt8.toNat_inj.1
  rw [UInt8.toNat_ofNat'];omega
 have e1:UInt8.ofNat (n / 256)=y:=by
  apply UInt8.toNat_inj.1
  rw [UInt8.toNat_ofNat'];omega
 have e2:UInt8.ofNat n=z:=by
  apply UInt8.toNat_inj.1
  rw [UInt8.toNat_ofNat'];omega
 rw [by3,b0,b1,b2,e0,e1,e2]
theorem z0:(0:UInt8).toNat=0:=rfl
theorem rawG_encU:∀l:List UInt8,(∃t,rawG (encU l)=l++t)∧(encU l).length*3 / 4=l.length
 | []=>⟨⟨[],rfl⟩,rfl⟩
 | [x]=>by
  have h1:=x.toNat_lt
  refine⟨⟨[0,0],?_⟩,by simp [encU]⟩
  rw [encU,rawG_step _ (by simp)]
  simp only [List.take_succ_cons,List.take_nil,List.drop_succ_cons,List.drop_nil]
  rw [gN_two,by3_of x 0 0 _ (by rw [val_c0,val_c1,z0];omega)]
  rfl
 | [x,y]=>by
  have h1:=x.toNat_lt
  have h2:=y.toNat_lt
  refine⟨⟨[0],?_⟩,by simp [encU]⟩
  rw [encU,rawG_step _ (by simp)]
  simp only [List.take_succ_cons,List.take_nil,List.drop_succ_cons,List.drop_nil]
  rw [gN_three,by3_of x y 0 _ (by rw [val_c0,val_c1,val_c2,z0];omega)]
  rfl
 | x :: y :: z :: r=>by
  have h1:=x.toNat_lt
  have h2:=y.toNat_lt
  have h3:=z.toNat_lt
  obtain⟨⟨t,ht⟩,hl⟩:=rawG_encU r
  refine⟨⟨t,?_⟩,?_⟩
  ·rw [encU,rawG_step _ (by simp)]
   simp only [List.take_succ_cons,List.take_zero,List.drop_succ_cons,List.drop_zero]
   rw [gN_four,by3_of x y z _ (by rw [val_c0,val_c1,val_c2,val_c3];omega),ht]
   rfl
  ·rw [encU]
   simp only [List.length_cons]
   omega
theorem rawL_encU (l:List UInt8):rawL (encU l)=l:=by
 obtain⟨⟨t,ht⟩,hl⟩:=rawG_encU l
 rw [rawL,ht,hl,List.take_left]
theorem decL_encL (l:List UInt8):decL (encL l)=some l:=by
 rw [decL,trim_enc,rawL_encU,if_pos rfl]
theorem decL_some (s d:List UInt8) (h:decL s=some d):encL d=s:=by
 unfold decL at h
 split at h
 ·rename_i e
  rw [← Option.some.inj h];exact e
 ·cases h
theorem indexByte_at (c:UInt8) (t:List UInt8):∀u:List UInt8,(∀x∈u,x≠c)→Lib.indexByte (u++c :: t) c=(u.length:Int)
 | [],_=>by simp [Lib.indexByte]
 | x :: u,h=>by
  have hx:(x==c)=false:=by simpa using h x (List.mem_cons_self ..)
  have ih:=indexByte_at c t u (fun y hy=>h y (List.mem_cons_of_mem _ hy))
  have hn:((u.length:Int)==-1)=false:=by simp
  rw [List.cons_append,Lib.indexByte,hx,ih,hn]
  simp
theorem numTail_right (b:Nat) (sg:Int) (l:List UInt8) (g:Got) (hb:(b=0∧sg=1)∨(b=1∧sg=-1)) (hl:b≤l.length) (h:numTail b sg l=some g) :
  rightL g.k g.n g.s=true∧1≤g.m∧g.m≤l.length∧g.s=[]:=by
 have za:=ldig_all (l.drop b)
 have zl:=ldig_len_le (l.drop b)
 rw [List.length_drop]at zl
 unfold numTail at h
 generalize ldig (l.drop b)=z at *
 split at h
 ·cases h
 ·rename_i hz
  split at h
  ·have pa:=ldig_all (l.drop (b+z.length+1))
   have pl:=ldig_len_le (l.drop (b+z.length+1))
   rw [List.length_drop]at pl
   generalize ldig (l.drop (b+z.length+1))=p at *
   split at h
   ·cases h
   ·rename_i hp
    obtain rfl:=Option.some.inj h
    obtain⟨n0,n1⟩:=numL_in (z++(p++[48,48]).take 3) (by rw [List.all_append,za,pad_all p pa]<;>rfl) (by rw [List.length_append,List.length_take];omega)
    obtain⟨s0,s1⟩:=i64_mul_sign b sg _ hb n0 n1
    refine⟨?_,?_,?_,rfl⟩
    ·rw [right_num _ _ _ (.inr rfl),inNum]
     simp [s0,s1]
    ·show 1≤_+1+p.length
     omega
    ·show _+1+p.length≤l.length
     omega
  ·obtain rfl:=Option.some.inj h
   obtain⟨n0,n1⟩:=numL_in z za (by omega)
   obtain⟨s0,s1⟩:=i64_mul_sign b sg _ hb n0 n1
   refine⟨?_,?_,?_,rfl⟩
   ·rw [right_num _ _ _ (.inl rfl),inNum]
    simp [s0,s1]
   ·show 1≤b+z.length
    omega
   ·show b+z.length≤l.length
    omega
theorem readNumL_right (l:List UInt8) (g:Got) (h:readNumL l=some g):rightL g.k g.n g.s=true∧1≤g.m∧g.m≤l.length∧g.s=[]:=by
 unfold readNumL at h
 split at h
 ·rename_i hh
  exact numTail_right 1 (-1) l g (.inr ⟨rfl,rfl⟩) (by cases l with | nil=>simp at hh | cons c r=>simp) h
 ·exact numTail_right 0 1 l g (.inl ⟨rfl,rfl⟩) (Nat.zero_le _) h
theorem esc_pr (c:UInt8) (h:escI c.toNat=true):prI c.toNat=true:=by
 have:=all_bytes (fun c=>!escI c.toNat||prI c.toNat) (by decide +kernel) c
 rw [h]at this
 exact this
theorem prL_snoc (acc:List UInt8) (c:UInt8) (h1:prL acc=true) (h2:prI c.toNat=true):prL (acc++[c])=true:=by
 rw [prL]at *
 rw [List.all_append,h1,Bool.true_and,List.all_cons,h2]<;>rfl
theorem rsL_right:∀(l acc:List UInt8) (m:Nat) (g:Got),prL acc=true→rsL l acc m=some g→g.k=3∧g.n=0∧prL g.s=true∧m+1≤g.m∧g.m≤m+l.length∧g.s.length≤acc.length+l.length
 | [],_,_,_,_,h=>by rw [rsL.eq_def]at h;cases h
 | [c],acc,m,g,ha,h=>by
  by_cases h1:c=34
  ·subst h1
   rw [rsL_quote]at h
   obtain rfl:=Option.some.inj h
   exact⟨rfl,rfl,ha,zR _,by simp,by simp⟩
  ·by_cases h2:c=92
   ·subst h2
    rw [rsL_esc_end]at h;cases h
   ·rw [rsL_other _ _ _ _ h1 h2]at h
    split at h
    ·rw [rsL.eq_def]at h;cases h
    ·cases h
 | c :: d :: q,acc,m,g,ha,h=>by
  by_cases h1:c=34
  ·subst h1
   rw [rsL_quote]at h
   obtain rfl:=Option.some.inj h
   exact⟨rfl,rfl,ha,zR _,by simp,by simp⟩
  ·by_cases h2:c=92
   ·subst h2
    rw [rsL_esc]at h
    split at h
    ·rename_i he
     obtain⟨r1,r2,r3,r4,r5,r6⟩:=rsL_right q (acc++[d]) (m+2) g (prL_snoc acc d ha (esc_pr d he)) h
     simp only [List.length_append,List.length_cons,List.length_nil]at r6 ⊢
     exact⟨r1,r2,r3,by omega,by omega,by omega⟩
    ·cases h
   ·rw [rsL_other _ _ _ _ h1 h2]at h
    split at h
    ·rename_i he
     obtain⟨r1,r2,r3,r4,r5,r6⟩:=rsL_right (d :: q) (acc++[c]) (m+1) g (prL_snoc acc c ha he) h
     simp only [List.length_append,List.length_cons,List.length_nil]at r5 r6 ⊢
     exact⟨r1,r2,r3,by omega,by omega,by omega⟩
    ·cases h
theorem takeWhile_again (p:UInt8→Bool):∀l:List UInt8,(l.takeWhile p).takeWhile p=l.takeWhile p
 | []=>rfl
 | c :: l=>by
  rw [List.takeWhile_cons]
  split
  ·rename_i h
   rw [List.takeWhile_cons,h,takeWhile_again p l]<;>rfl
  ·rfl
theorem tok_right (c:UInt8) (r:List UInt8) (h:btI c.toNat=true):rightL 4 0 ((c :: r).take (tlen (c :: r)))=true∧1≤tlen (c :: r):=by
 have e:tlen (c :: r)=(r.takeWhile (fun c=>ttI c.toNat)).length+1:=by rw [tlen,if_pos h];omega
 rw [e,List.take_succ_cons,take_takeWhile,right_tok]
 have e2:tlen (c :: r.takeWhile (fun c=>ttI c.toNat))=(r.takeWhile (fun c=>ttI c.toNat)).length+1:=by rw [tlen,if_pos h,takeWhile_again];omega
 rw [e2]
 simp
theorem readL_right (l:List UInt8) (g:Got) (h:readL l=some g):rightL g.k g.n g.s=true∧1≤g.m∧g.m≤l.length∧g.s.length≤l.length:=by
 cases l with
 | nil=>cases h
 | cons c r =>
  unfold readL at h
  dsimp only at h
  split at h
  ·obtain⟨h1,h2,h3,h4⟩:=readNumL_right _ g h
   exact⟨h1,h2,h3,by rw [h4];simp⟩
  ·split at h
   ·rw [readStrL,List.drop_one,List.tail_cons]at h
    obtain⟨r1,r2,r3,r4,r5,r6⟩:=rsL_right r [] 1 g rfl h
    simp only [List.length_cons,List.length_nil]at r6 ⊢
    exact⟨by rw [r1,r2,right_str,r3]<;>rfl,by omega,by omega,by omega⟩
   ·split at h
    ·rename_i hb
     obtain rfl:=Option.some.inj h
     obtain⟨h1,h2⟩:=tok_right c r hb
     have h3:=tlen_le (c :: r)
     refine⟨h1,h2,h3,?_⟩
     show((c :: r).take _).length≤_
     rw [List.length_take];omega
    ·split at h
     ·unfold readBytesL at h
      rw [List.drop_one,List.tail_cons]at h
      split at h
      ·cases h
      ·rename_i hi
       obtain⟨i0,i1⟩:=index_le _ _ hi
       split at h
       ·cases h
       ·rename_i b hb
        obtain rfl:=Option.some.inj h
        have e:=congrArg List.length (decL_some _ _ hb)
        rw [encL_len,List.length_take]at e
        refine⟨by rw [right_bytes]<;>rfl,?_,?_,?_⟩
        ·show 1≤_+2
         omega
        ·show _+2≤_
         simp only [List.length_cons];omega
        ·show b.length≤_
         simp only [List.length_cons];omega
     ·split at h
      ·unfold readBoolL at h
       split at h
       ·rename_i c d q he
        split at h
        ·rename_i hd
         obtain rfl:=Option.some.inj h
         rw [List.cons.injEq]at he
         obtain⟨_,rfl⟩:=he
         simp only [Bool.or_eq_true,beq_iff_eq]at hd
         refine⟨?_,by simp,by simp,by simp⟩
         rw [right_bool]
         rcases hd with rfl | rfl<;>decide
        ·cases h
       ·cases h
      ·cases h
end Go.Proofs.YtfaedmbfabfmeaaGreatDoor
namespace Go.Proofs.YtfaedmbfabfmeaaGreatDoor
open Go.RowKit
def bkI (c:Int):Bool:=(decide (97≤c)&&decide (c≤122))||c==42
def ikI (c:Int):Bool:=bkI c||digI c||c==95||c==45||c==46
theorem beginsKey_any (c : Int) (w : World) :
    Calls Tryz.prog 197 #[.int .u8 c] w fun e w' => e = .returned (.bool (bkI c)) ∧ w = w' := by
  have hd : bkI c = ((decide (97 ≤ c) && decide (c ≤ 122)) || c == 42) := rfl
  cases h1 : decide (97 ≤ c) <;> cases h2 : decide (c ≤ 122) <;> cases h3 : (c == 42)
  all_goals
    first
    | (exfalso; simp only [decide_eq_true_eq, decide_eq_false_iff_not, beq_iff_eq] at h1 h2 h3; omega)
    | (rw [h1, h2, h3] at hd
       simp only [Bool.and_true, Bool.and_false, Bool.or_true, Bool.or_false] at hd
       rw [hd]
       clear hd
       go_enter Tryz.func197, Tryz.ntmps197
       go_wp2
       go_ret
       exact ⟨rfl, rfl⟩)
theorem inKey_any (c : Int) (w : World) :
    Calls Tryz.prog 198 #[.int .u8 c] w fun e w' => e = .returned (.bool (ikI c)) ∧ w = w' := by
  have cB := beginsKey_any c w
  have hd : ikI c = (bkI c || (decide (48 ≤ c) && decide (c ≤ 57)) || c == 95 || c == 45 || c == 46) := rfl
  rw [hd]
  clear hd
  generalize bkI c = b at *
  cases b
  · cases h1 : decide (48 ≤ c) <;> cases h2 : decide (c ≤ 57) <;> cases h3 : (c == 95) <;> cases h4 : (c == 45) <;> cases h5 : (c == 46)
    all_goals
      first
      | (exfalso; simp only [decide_eq_true_eq, decide_eq_false_iff_not, beq_iff_eq] at h1 h2 h3 h4 h5; omega)
      | (go_enter Tryz.func198, Tryz.ntmps198
         go_wp2_with (go_at_call 197; refine cB.mono ?_; rintro e w' ⟨rfl, rfl⟩)
         go_ret
         exact ⟨rfl, rfl⟩)
  · go_enter Tryz.func198, Tryz.ntmps198
    go_wp2_with (go_at_call 197; refine cB.mono ?_; rintro e w' ⟨rfl, rfl⟩)
    go_ret
    exact ⟨by simp, rfl⟩
def klen:List UInt8→Nat
 | []=>0
 | c :: r=>if bkI c.toNat then 1+(r.takeWhile (fun c=>ikI c.toNat)).length else 0
theorem klen_le (l:List UInt8):klen l≤l.length:=by
 cases l with
 | nil=>exact zR _
 | cons c r =>
  unfold klen
  have:=takeWhile_len_le (fun c=>ikI c.toNat) r
  simp only [List.length_cons]
  split<;>omega
theorem keyLength_any (s:ByteArray) (w:World) (hs:s.size≤maxLen) :
  Calls Tryz.prog 163 #[.string s] w fun e w'=>e=.returned (.int .i64 (klen s.data.toList:Int))∧w=w':=by
 unfold maxLen at hs
 by_cases h0:0<s.size
 ·have hemp:s.toList.isEmpty=false:=by rw [Lib.toList_data];exact isEmpty_false_of s h0
  have cB:=beginsKey_any ((s[0]'h0).toNat:Int) w
  have Hdr:=zH (drop_cons_at s 0 h0)
  cases hb:bkI ((s[0]'h0).toNat:Int)
  ·have Hz:Hid (klen s.data.toList=0):=zH (by
    have:=Hdr.out
    rw [List.drop_zero]at this
    rw [this,klen,hb]<;>rfl)
   rw [hb]at cB
   clear hb
   go_enter Tryz.func163,Tryz.ntmps163
   go_wp2_with (go_at_call 197;refine cB.mono ?_;rintro e w' ⟨rfl,rfl⟩)
   go_ret
   exact⟨ret_eq (int_eq (by rw [Hz.out]<;>rfl)),rfl⟩
  ·have Hz:Hid (klen s.data.toList=1+((s.data.toList.drop 1).takeWhile (fun c=>ikI c.toNat)).length):=zH (by
    have:=Hdr.out
    rw [List.drop_zero]at this
    rw [this,klen,hb]<;>rfl)
   rw [hb]at cB
   clear hb Hdr
   go_enter Tryz.func163,Tryz.ntmps163
   go_wp2_with (go_at_call 197;refine cB.mono ?_;rintro e w' ⟨rfl,rfl⟩)
   go_loop [3] (fun i=>∃k:Nat,1≤k∧k≤s.size∧i=.int .i64 k∧Hid (klen s.data.toList=k+((s.data.toList.drop k).takeWhile (fun c=>ikI c.toNat)).length)) (fun i=>s.size-(intOf i).toNat)
   case atStart=>exact⟨1,by omega,by omega,rfl,Hz⟩
   case round =>
    clear Hz cB
    obtain⟨k,hk1,hk,rfl,H⟩:=hrel
    by_cases hlt:k<s.size
    ·have Hdr:=zH (drop_cons_at s k hlt)
     have cT:=inKey_any ((s[k]'hlt).toNat:Int) w
     cases hd:ikI (s[k].toNat:Int)
     ·have Hf:=zH hd
      rw [hd]at cT
      clear hd
      go_wp2_with (go_at_call 198;refine cT.mono ?_;rintro e w' ⟨rfl,rfl⟩)
      go_ret
      exact⟨ret_eq (int_eq (by rw [H.out,Hdr.out,List.takeWhile_cons,Hf.out];simp)),rfl⟩
     ·have Hf:=zH hd
      rw [hd]at cT
      clear hd
      go_wp2_with (go_at_call 198;refine cT.mono ?_;rintro e w' ⟨rfl,rfl⟩)
      go_round
      case rel=>exact⟨k+1,by omega,by omega,by go_num,zH (by rw [H.out,Hdr.out,List.takeWhile_cons,Hf.out];simp;omega)⟩
      case measure=>simp [intOf];omega
    ·have Hd:Hid (s.data.toList.drop k=[]):=zH (List.drop_of_length_le (by rw [← Lib.size_eq];omega))
     go_wp2
     go_ret
     exact⟨ret_eq (int_eq (by rw [H.out,Hd.out];simp)),rfl⟩
 ·have he:s.data.toList=[]:=List.eq_nil_of_length_eq_zero (by rw [← Lib.size_eq];omega)
  have hemp:s.toList.isEmpty=true:=by rw [Lib.toList_data,he]<;>rfl
  have Hz:Hid (klen s.data.toList=0):=zH (by rw [he]<;>rfl)
  clear he
  go_enter Tryz.func163,Tryz.ntmps163
  go_wp2
  go_ret
  exact⟨ret_eq (int_eq (by rw [Hz.out]<;>rfl)),rfl⟩
def keyL (l:List UInt8):Bool:=!l.isEmpty&&klen l==l.length
def rkV (l:List UInt8):Value:=if klen l=0 then .tuple #[.string ⟨#[]⟩,.int .i64 0,.int .i64 2]else .tuple #[.string (strB (l.take (klen l))),.int .i64 (klen l:Int),.int .i64 0]
def rkPost (v:Value) (w:World) (e:Ending) (w':World):Prop:=e=.returned v∧w=w'
theorem readKey_any (s:ByteArray) (w:World) (hs:s.size≤maxLen) :
  Calls Tryz.prog 128 #[.string s] w (rkPost (rkV s.data.toList) w):=by
 have cK:=fun W=>keyLength_any s W hs
 unfold maxLen at hs
 have hn:=klen_le s.data.toList
 rw [← Lib.size_eq]at hn
 by_cases h0:klen s.data.toList=0
 ·rw [rkV,if_pos h0]
  rw [h0]at cK
  clear h0 hn
  go_enter Tryz.func128,Tryz.ntmps128
  go_wp2_with (go_at_call 163;refine(cK _).mono ?_;rintro e w' ⟨rfl,rfl⟩)
  exact bodyPost_ret (v:=.tuple #[.string ⟨#[]⟩,.int .i64 0,.int .i64 2]) (by simp [results,Tryz.results128,go_sem]) rfl ⟨rfl,rfl⟩
 ·have hx:strB (s.data.toList.take (klen s.data.toList))=s.extract 0 (klen s.data.toList):=by rw [← extract_take,strB_of]
  rw [rkV,if_neg h0,hx]
  clear hx
  generalize klen s.data.toList=n at *
  have hne:((n:Int)==0)=false:=by simpa using h0
  go_enter Tryz.func128,Tryz.ntmps128
  go_wp2_with (go_at_call 163;refine(cK _).mono ?_;rintro e w' ⟨rfl,rfl⟩)
  exact bodyPost_ret (v:=.tuple #[.string (s.extract 0 n),.int .i64 (n:Int),.int .i64 0]) (by simp [results,Tryz.results128,go_sem]) rfl ⟨rfl,rfl⟩
theorem unspoken_any (w:World) :
  Calls Tryz.prog 237 #[] w fun e w'=>e=.returned (.agg #[.int .i64 6,.int .i64 1,.string ⟨#[]⟩])∧Below w.heap.size w w':=by
 go_enter Tryz.func237,Tryz.ntmps237
 go_wp2
 exact bodyPost_ret (v:=.agg #[.int .i64 6,.int .i64 1,.string ⟨#[]⟩]) (by simp [results,Tryz.results237,go_sem]) rfl ⟨rfl,(Below.refl _ _).alloc (zR _) _⟩
structure Moved (b:Nat) (w w':World):Prop where
 os:w'.os=w.os
 tape:w'.tape=w.tape
 output:w'.output=w.output
 size:w.heap.size≤w'.heap.size
 block:∀k,k<w.heap.size→k≠b→w'.heap[k]? = w.heap[k]?
theorem Moved.refl (b:Nat) (w:World):Moved b w w:=⟨rfl,rfl,rfl,zR _,fun _ _ _=>rfl⟩
theorem Moved.of_below {b:Nat} {w w':World} (h:Below w.heap.size w w'):Moved b w w':=⟨h.os,h.tape,h.output,h.size,fun k hk _=>h.block k hk⟩
theorem Moved.trans {b:Nat} {u v w:World} (h:Moved b u v) (k:Moved b v w):Moved b u w:=
 ⟨k.os.trans h.os,k.tape.trans h.tape,k.output.trans h.output,Nat.le_trans h.size k.size,fun i hi hb=>(k.block i (Nat.lt_of_lt_of_le hi h.size) hb).trans (h.block i hi hb)⟩
theorem Moved.below {b B:Nat} {w w':World} (h:Moved b w w') (h1:B≤b) (h2:B≤w.heap.size):Below B w w':=
 ⟨h.os,h.tape,h.output,h.size,fun k hk=>h.block k (Nat.lt_of_lt_of_le hk h2) (by omega)⟩
theorem Moved.cell {b:Nat} {w w':World} (h:Moved b w w') {p:Addr} (h1:p.block<w.heap.size) (h2:p.block≠b):w'.cell? p=w.cell? p:=World.cell?_of_block (w:=w) (h.block p.block h1 h2)
theorem Moved.frozen {b:Nat} {w w':World} (h:Moved b w w') {p:Addr} (h1:p.block<w.heap.size) (h2:p.block≠b):w'.frozen? p=w.frozen? p:=World.frozen?_of_block (w:=w) (h.block p.block h1 h2)
theorem Moved.setCell {b o:Nat} {w W:World} (h:Moved b w W) (v:Value):Moved b w (W.setCell ⟨b,o,none⟩ v):=by
 exact⟨h.os,h.tape,h.output,by simpa using h.size,fun k hk1 hb=>(Below.heap_setCell W ⟨b,o,none⟩ v k hb).trans (h.block k hk1 hb)⟩
theorem Moved.drew {b:Nat} {w W:World} (h:Moved b w W) (n:Nat):Moved b w (W.drewN n):=⟨h.os,h.tape,h.output,h.size,h.block⟩
structure Par (w:World) (b:Nat) (t:ByteArray) (k:Nat):Prop where
 text:w.cell? ⟨b,0,none⟩=some (.string t)
 at_:w.cell? ⟨b,1,none⟩=some (.int .i64 (k:Int))
 f0:w.frozen? ⟨b,0,none⟩=false
 f1:w.frozen? ⟨b,1,none⟩=false
theorem Par.lt {w:World} {b:Nat} {t:ByteArray} {k:Nat} (h:Par w b t k):b<w.heap.size:=lt_of_cell h.text
theorem Par.below {w W:World} {b:Nat} {t:ByteArray} {k:Nat} (h:Par w b t k) (hb:Below w.heap.size w W):Par W b t k:=
 ⟨(hb.cell (p:=⟨b,0,none⟩) h.lt).trans h.text,(hb.cell (p:=⟨b,1,none⟩) h.lt).trans h.at_,(hb.frozen (p:=⟨b,0,none⟩) h.lt).trans h.f0,(hb.frozen (p:=⟨b,1,none⟩) h.lt).trans h.f1⟩
theorem Par.drew {w:World} {b:Nat} {t:ByteArray} {k:Nat} (h:Par w b t k) (n:Nat):Par (w.drewN n) b t k:=⟨h.text,h.at_,h.f0,h.f1⟩
theorem Par.set {w:World} {b:Nat} {t:ByteArray} {k:Nat} (h:Par w b t k) (m:Nat):Par (w.setCell ⟨b,1,none⟩ (.int .i64 (m:Int))) b t m:=
 ⟨(World.cell?_setCell_other w ⟨b,1,none⟩ ⟨b,0,none⟩ _ (by simp)).trans h.text,World.cell?_setCell_same w ⟨b,1,none⟩ _ h.at_,by rw [World.frozen?_setCell];exact h.f0,by rw [World.frozen?_setCell];exact h.f1⟩
def movePost (v:Value) (b:Nat) (t:ByteArray) (k:Nat) (w:World) (e:Ending) (w':World):Prop:=e=.returned v∧Par w' b t k∧Moved b w w'
theorem take_no (b:Nat) (t:ByteArray) (k:Nat) (c:UInt8) (w:World) (h:Par w b t k) (_:t.size≤100000) (hk:k≤t.size) (hc:(t.data.toList.drop k).head?≠some c) :
  Calls Tryz.prog 221 #[.pointer (some ⟨b,0,none⟩),.int .u8 c.toNat] w (movePost (.bool false) b t k w):=by
 have HP:=zH h
 have c0:=h.text
 have c1:=h.at_
 clear h
 by_cases hlt:k<t.size
 ·have hne:(((t[k]'hlt).toNat:Int)==(c.toNat:Int))=false:=by
   rw [byte_beq]
   rw [drop_cons_at t k hlt]at hc
   simpa using hc
  have n1:(((t[k]'hlt).toNat:Int) != (c.toNat:Int))=true:=by rw [bne,hne]<;>rfl
  have q0:((k:Int)==(t.size:Int))=false:=by simp;omega
  have q1:(0:Int)≤(k:Int):=by omega
  have q2:(k:Int)<(t.size:Int):=by omega
  clear hc hne
  go_enter Tryz.func221,Tryz.ntmps221
  go_wp2_with fail
  go_quiet (fail)
  go_wp2_with fail
  go_ret
  exact⟨rfl,HP.out.drew _,(Moved.refl b w).drew _⟩
 ·have q0:((k:Int)==(t.size:Int))=true:=by simp;omega
  clear hc
  go_enter Tryz.func221,Tryz.ntmps221
  go_wp2_with fail
  go_quiet (fail)
  go_wp2_with fail
  go_ret
  exact⟨rfl,HP.out.drew _,(Moved.refl b w).drew _⟩
theorem take_yes (b:Nat) (t:ByteArray) (k:Nat) (c:UInt8) (w:World) (h:Par w b t k) (ht:t.size≤100000) (hc:(t.data.toList.drop k).head? = some c) :
  Calls Tryz.prog 221 #[.pointer (some ⟨b,0,none⟩),.int .u8 c.toNat] w (movePost (.bool true) b t (k+1) w):=by
 have hlt:k<t.size:=by
  by_cases hlt:k<t.size
  ·exact hlt
  ·rw [List.drop_of_length_le (by rw [← Lib.size_eq];omega)]at hc
   cases hc
 have HP:=zH h
 have c0:=h.text
 have c1:=h.at_
 have f1:=h.f1
 clear h
 have hne:(((t[k]'hlt).toNat:Int)==(c.toNat:Int))=true:=by
  rw [byte_beq]
  rw [drop_cons_at t k hlt]at hc
  simpa using hc
 have n1:(((t[k]'hlt).toNat:Int) != (c.toNat:Int))=false:=by rw [bne,hne]<;>rfl
 have q0:((k:Int)==(t.size:Int))=false:=by simp;omega
 have q1:(0:Int)≤(k:Int):=by omega
 have q2:(k:Int)<(t.size:Int):=by omega
 clear hc hne
 go_enter Tryz.func221,Tryz.ntmps221
 go_wp2_with fail
 go_quiet (fail)
 go_wp2_with fail
 go_ret
 refine⟨rfl,?_,?_⟩
 ·exact(HP.out.drew _).set (k+1)
 ·exact((Moved.refl b w).drew _).setCell _
theorem rfirst_any (c : Int) (w : World) :
    Calls Tryz.prog 230 #[.int .u8 c] w fun e w' => e = .returned (.bool (bkI c)) ∧ w = w' := by
  have hd : bkI c = ((decide (97 ≤ c) && decide (c ≤ 122)) || c == 42) := rfl
  cases h1 : decide (97 ≤ c) <;> cases h2 : decide (c ≤ 122) <;> cases h3 : (c == 42)
  all_goals
    first
    | (exfalso; simp only [decide_eq_true_eq, decide_eq_false_iff_not, beq_iff_eq] at h1 h2 h3; omega)
    | (rw [h1, h2, h3] at hd
       simp only [Bool.and_true, Bool.and_false, Bool.or_true, Bool.or_false] at hd
       rw [hd]
       clear hd
       go_enter Tryz.func230, Tryz.ntmps230
       go_wp2
       go_ret
       exact ⟨rfl, rfl⟩)
theorem rlater_any (c : Int) (w : World) :
    Calls Tryz.prog 231 #[.int .u8 c] w fun e w' => e = .returned (.bool (ikI c)) ∧ w = w' := by
  have cB := rfirst_any c w
  have hd : ikI c = (bkI c || (decide (48 ≤ c) && decide (c ≤ 57)) || c == 95 || c == 45 || c == 46) := rfl
  rw [hd]
  clear hd
  generalize bkI c = b at *
  cases b
  · cases h1 : decide (48 ≤ c) <;> cases h2 : decide (c ≤ 57) <;> cases h3 : (c == 95) <;> cases h4 : (c == 45) <;> cases h5 : (c == 46)
    all_goals
      first
      | (exfalso; simp only [decide_eq_true_eq, decide_eq_false_iff_not, beq_iff_eq] at h1 h2 h3 h4 h5; omega)
      | (go_enter Tryz.func231, Tryz.ntmps231
         go_wp2_with (go_at_call 230; refine cB.mono ?_; rintro e w' ⟨rfl, rfl⟩)
         go_ret
         exact ⟨rfl, rfl⟩)
  · go_enter Tryz.func231, Tryz.ntmps231
    go_wp2_with (go_at_call 230; refine cB.mono ?_; rintro e w' ⟨rfl, rfl⟩)
    go_ret
    exact ⟨by simp, rfl⟩
theorem rkV_at (s:ByteArray) (k:Nat) (h:klen s.data.toList=k) (hk:1≤k):rkV s.data.toList=.tuple #[.string (s.extract 0 k),.int .i64 (k:Int),.int .i64 0]:=by
 rw [rkV,if_neg (by omega),h,← extract_take,strB_of]
theorem rkV_zero (l:List UInt8) (h:klen l=0):rkV l=.tuple #[.string ⟨#[]⟩,.int .i64 0,.int .i64 2]:=by rw [rkV,if_pos h]
theorem rreadKey_any (s:ByteArray) (w:World) (hs:s.size≤maxLen) :
  Calls Tryz.prog 210 #[.string s] w (rkPost (rkV s.data.toList) w):=by
 unfold maxLen at hs
 by_cases h0:0<s.size
 ·have hemp:s.toList.isEmpty=false:=by rw [Lib.toList_data];exact isEmpty_false_of s h0
  have cB:=rfirst_any ((s[0]'h0).toNat:Int) w
  have Hdr:=zH (drop_cons_at s 0 h0)
  cases hb:bkI ((s[0]'h0).toNat:Int)
  ·have Hz:Hid (klen s.data.toList=0):=zH (by
    have:=Hdr.out
    rw [List.drop_zero]at this
    rw [this,klen,hb]<;>rfl)
   rw [hb]at cB
   clear hb
   rw [rkV_zero _ Hz.out]
   go_enter Tryz.func210,Tryz.ntmps210
   go_wp2_with (go_at_call 230;refine cB.mono ?_;rintro e w' ⟨rfl,rfl⟩)
   exact bodyPost_ret (v:=.tuple #[.string ⟨#[]⟩,.int .i64 0,.int .i64 2]) (by simp [results,Tryz.results210,go_sem]) rfl ⟨rfl,rfl⟩
  ·have Hz:Hid (klen s.data.toList=1+((s.data.toList.drop 1).takeWhile (fun c=>ikI c.toNat)).length):=zH (by
    have:=Hdr.out
    rw [List.drop_zero]at this
    rw [this,klen,hb]<;>rfl)
   rw [hb]at cB
   have HV:=zH (fun k=>rkV_at s k)
   generalize rkV s.data.toList=V at *
   clear hb Hdr
   go_enter Tryz.func210,Tryz.ntmps210
   go_wp2_with (go_at_call 230;refine cB.mono ?_;rintro e w' ⟨rfl,rfl⟩)
   go_loop [5] (fun i=>∃k:Nat,1≤k∧k≤s.size∧i=.int .i64 k∧Hid (klen s.data.toList=k+((s.data.toList.drop k).takeWhile (fun c=>ikI c.toNat)).length)) (fun i=>s.size-(intOf i).toNat)
   case atStart=>exact⟨1,by omega,by omega,rfl,Hz⟩
   case round =>
    clear Hz cB
    obtain⟨k,hk1,hk,rfl,H⟩:=hrel
    by_cases hlt:k<s.size
    ·have Hdr:=zH (drop_cons_at s k hlt)
     have cT:=rlater_any ((s[k]'hlt).toNat:Int) w
     cases hd:ikI (s[k].toNat:Int)
     ·have Hf:=zH hd
      rw [hd]at cT
      clear hd
      go_wp2_with (go_at_call 231;refine cT.mono ?_;rintro e w' ⟨rfl,rfl⟩)
      refine bodyPost_ret (v:=.tuple #[.string (s.extract 0 k),.int .i64 (k:Int),.int .i64 0]) (by simp [results,Tryz.results210,go_sem]) rfl ⟨?_,rfl⟩
      rw [HV.out k (by rw [H.out,Hdr.out,List.takeWhile_cons,Hf.out];simp) hk1]
     ·have Hf:=zH hd
      rw [hd]at cT
      clear hd
      go_wp2_with (go_at_call 231;refine cT.mono ?_;rintro e w' ⟨rfl,rfl⟩)
      go_round
      case rel=>exact⟨k+1,by omega,by omega,by go_num,zH (by rw [H.out,Hdr.out,List.takeWhile_cons,Hf.out];simp;omega)⟩
      case measure=>simp [intOf];omega
    ·obtain rfl:k=s.size:=by omega
     have Hd:Hid (s.data.toList.drop s.size=[]):=zH (List.drop_of_length_le (by rw [← Lib.size_eq];omega))
     go_wp2
     refine bodyPost_ret (v:=.tuple #[.string (s.extract 0 s.size),.int .i64 (s.size:Int),.int .i64 0]) (by simp [results,Tryz.results210,go_sem]) rfl ⟨?_,rfl⟩
     rw [HV.out _ (by rw [H.out,Hd.out];simp) hk1]
 ·have he:s.data.toList=[]:=List.eq_nil_of_length_eq_zero (by rw [← Lib.size_eq];omega)
  have hemp:s.toList.isEmpty=true:=by rw [Lib.toList_data,he]<;>rfl
  rw [rkV_zero _ (by rw [he]<;>rfl)]
  clear he
  go_enter Tryz.func210,Tryz.ntmps210
  go_wp2
  exact bodyPost_ret (v:=.tuple #[.string ⟨#[]⟩,.int .i64 0,.int .i64 2]) (by simp [results,Tryz.results210,go_sem]) rfl ⟨rfl,rfl⟩
theorem rletter_any (c:Int) (w:World) :
  Calls Tryz.prog 212 #[.int .u8 c] w fun e w'=>e=.returned (.bool (ltrI c||digI c))∧w=w':=by
 have hd:(ltrI c||digI c)=((decide (97≤c)&&decide (c≤122))||(decide (65≤c)&&decide (c≤90))||(decide (48≤c)&&decide (c≤57))):=by
  simp only [ltrI,upI,lowI,digI]
  rw [Bool.or_comm (decide (65≤c)&&decide (c≤90))]
 rw [hd]
 clear hd
 rcases(show c<48∨(48≤c∧c≤57)∨(57<c∧c<65)∨(65≤c∧c≤90)∨(90<c∧c<97)∨(97≤c∧c≤122)∨122<c by omega)with h | h | h | h | h | h | h
 all_goals
  have a1:∃b,decide (97≤c)=b:=⟨_,rfl⟩
  have a2:∃b,decide (c≤122)=b:=⟨_,rfl⟩
  have a3:∃b,decide (65≤c)=b:=⟨_,rfl⟩
  have a4:∃b,decide (c≤90)=b:=⟨_,rfl⟩
  have a5:∃b,decide (48≤c)=b:=⟨_,rfl⟩
  have a6:∃b,decide (c≤57)=b:=⟨_,rfl⟩
  obtain⟨b1,h1⟩:=a1
  obtain⟨b2,h2⟩:=a2
  obtain⟨b3,h3⟩:=a3
  obtain⟨b4,h4⟩:=a4
  obtain⟨b5,h5⟩:=a5
  obtain⟨b6,h6⟩:=a6
  cases b1<;>cases b2<;>cases b3<;>cases b4<;>cases b5<;>cases b6<;>first | (exfalso;simp only [decide_eq_true_eq,decide_eq_false_iff_not]at h1 h2 h3 h4 h5 h6;omega) | skip
  all_goals
   clear h
   go_enter Tryz.func212,Tryz.ntmps212
   go_wp2
   go_ret
   exact⟨by rw [h1,h2,h3,h4,h5,h6]<;>rfl,rfl⟩
theorem mark_at (c:UInt8) (k:Nat) (h:k<15) (e:marksL[k]'h=c):markI c.toNat=true:=by
 subst e
 have:∀j:Fin 15,markI (marksL[j.val]'j.isLt).toNat=true:=by decide +kernel
 exact this ⟨k,h⟩
theorem mark_none (c:UInt8) (h:∀j (hj:j<15),(marksL[j]'hj==c)=false):markI c.toNat=false:=by
 have hn:∀l:List UInt8,(∀j (hj:j<l.length),(l[j]==c)=false)→Lib.indexByte l c=-1:=by
  intro l
  induction l with
  | nil=>intro _;rfl
  | cons a r ih =>
   intro h
   have h0:=h 0 (by simp)
   have hr:=ih (fun j hj=>h (j+1) (by simpa using hj))
   simp only [List.getElem_cons_zero]at h0
   rw [Lib.indexByte,h0,hr]
   rfl
 have e:(c.toNat:Int).toNat.toUInt8=c:=by simp
 unfold markI
 rw [e,hn marksL h]
 rfl
theorem rtchar_any (c:UInt8) (w:World) :
  Calls Tryz.prog 180 #[.int .u8 c.toNat] w fun e w'=>e=.returned (.bool (tchI c.toNat))∧w=w':=by
 have cL:=rletter_any (c.toNat:Int) w
 go_enter Tryz.func180,Tryz.ntmps180
 go_wp2
 go_loop [4] (fun i=>∃k:Nat,k≤15∧i=.int .i64 k∧Hid (∀j (hj:j<15),j<k→(marksL[j]'hj==c)=false)) (fun i=>15-(intOf i).toNat)
 case atStart=>exact⟨0,by omega,rfl,zH (fun j _ h=>by omega)⟩
 case round =>
  obtain⟨k,hk,rfl,H⟩:=hrel
  by_cases hlt:k<15
  ·have hls:k<(⟨#[33,35,36,37,38,39,42,43,45,46,94,95,96,124,126]⟩:ByteArray).size:=hlt
   have hg:(⟨#[33,35,36,37,38,39,42,43,45,46,94,95,96,124,126]⟩:ByteArray)[k]'hls=marksL[k]'hlt:=rfl
   have B:=byte_beq (marksL[k]'hlt) c
   cases he:(marksL[k]'hlt==c)
   ·have hb:((((⟨#[33,35,36,37,38,39,42,43,45,46,94,95,96,124,126]⟩:ByteArray)[k]'hls).toNat:Int)==(c.toNat:Int))=false:=by rw [hg,B,he]
    have He:=zH he
    clear hg B he
    go_wp2
    go_round
    case rel =>
     refine⟨k+1,by omega,by go_num,zH (fun j hj h=>?_)⟩
     by_cases e:j=k
     ·subst e;exact He.out
     ·exact H.out j hj (by omega)
    case measure=>simp [intOf];omega
   ·have hb:((((⟨#[33,35,36,37,38,39,42,43,45,46,94,95,96,124,126]⟩:ByteArray)[k]'hls).toNat:Int)==(c.toNat:Int))=true:=by rw [hg,B,he]
    have Hm:=zH (mark_at c k hlt (by simpa using he))
    clear hg B he
    go_wp2
    go_ret
    exact⟨ret_eq (bool_eq (by rw [tchI,Hm.out,Bool.or_true])),rfl⟩
  ·have Hm:=zH (mark_none c (fun j hj=>H.out j hj (by omega)))
   go_wp2_with (go_at_call 212;refine cL.mono ?_;rintro e w' ⟨rfl,rfl⟩)
   go_ret
   exact⟨ret_eq (bool_eq (by rw [tchI,Hm.out,Bool.or_false])),rfl⟩
theorem falpha_any (c:Int) (w:World) :
  Calls Tryz.prog 244 #[.int .u8 c] w fun e w'=>e=.returned (.bool (ltrI c))∧w=w':=by
 have hd:ltrI c=((decide (97≤c)&&decide (c≤122))||(decide (65≤c)&&decide (c≤90))):=by
  simp only [ltrI,upI,lowI]
  rw [Bool.or_comm]
 rw [hd]
 clear hd
 rcases(show c<65∨(65≤c∧c≤90)∨(90<c∧c<97)∨(97≤c∧c≤122)∨122<c by omega)with h | h | h | h | h
 all_goals
  have a1:∃b,decide (97≤c)=b:=⟨_,rfl⟩
  have a2:∃b,decide (c≤122)=b:=⟨_,rfl⟩
  have a3:∃b,decide (65≤c)=b:=⟨_,rfl⟩
  have a4:∃b,decide (c≤90)=b:=⟨_,rfl⟩
  obtain⟨b1,h1⟩:=a1
  obtain⟨b2,h2⟩:=a2
  obtain⟨b3,h3⟩:=a3
  obtain⟨b4,h4⟩:=a4
  cases b1<;>cases b2<;>cases b3<;>cases b4<;>first | (exfalso;simp only [decide_eq_true_eq,decide_eq_false_iff_not]at h1 h2 h3 h4;omega) | skip
  all_goals
   clear h
   go_enter Tryz.func244,Tryz.ntmps244
   go_wp2
   go_ret
   exact⟨by rw [h1,h2,h3,h4]<;>rfl,rfl⟩
theorem fdigit_any (c:Int) (w:World) :
  Calls Tryz.prog 241 #[.int .u8 c] w fun e w'=>e=.returned (.bool (digI c))∧w=w':=by
 cases h1:decide (48≤c)<;>cases h2:decide (c≤57)
 all_goals
  have hd:digI c=(decide (48≤c)&&decide (c≤57)):=rfl
  simp only [h1,h2,Bool.and_true,Bool.and_false]at hd
  rw [hd]
  clear hd
  go_enter Tryz.func241,Tryz.ntmps241
  go_wp2
  go_ret
  exact⟨rfl,rfl⟩
theorem ftoken_any (c:UInt8) (w:World) :
  Calls Tryz.prog 245 #[.int .u8 c.toNat] w fun e w'=>e=.returned (.bool (ttI c.toNat))∧w=w':=by
 have cT:=rtchar_any c w
 have hd:ttI c.toNat=(tchI c.toNat||((c.toNat:Int)==58)||((c.toNat:Int)==47)):=rfl
 generalize(c.toNat:Int)=x at *
 generalize tchI x=a at cT hd
 generalize ttI x=r at hd
 cases h1:(x==58)<;>cases h2:(x==47)
 all_goals
  rw [h1,h2]at hd
  subst hd
  cases a
  all_goals
   go_enter Tryz.func245,Tryz.ntmps245
   go_wp2_with (go_at_call 180;refine cT.mono ?_;rintro e w' ⟨rfl,rfl⟩)
   go_ret
   exact⟨rfl,rfl⟩
def alphB:ByteArray:=⟨alphL.toArray⟩
theorem alphB_at (n:Nat) (h:n<64):alphB.extract n (n+1)=strB [alp n]:=by
 have:∀i:Fin 64,alphB.extract i.val (i.val+1)=strB [alp i.val]:=by
  intro i
  have hi:i.val<alphB.size:=i.isLt
  rw [one_at alphB i.val hi]
  congr 2
  rw [alp,List.getD_eq_getElem?_getD,List.getElem?_eq_getElem (by exact hi)]
  rfl
 exact this ⟨n,h⟩
theorem fsign_any (n:Nat) (w:World) (h:n<64) :
  Calls Tryz.prog 261 #[.int .i64 (n:Int)] w fun e w'=>e=.returned (.string (strB [alp n]))∧w=w':=by
 have H:=zH (alphB_at n h)
 go_enter Tryz.func261,Tryz.ntmps261
 go_wp2
 go_ret
 exact⟨by rw [← H.out]<;>rfl,rfl⟩
def pgo:List UInt8→Nat→UInt8→Int
 | [],_,_=>-1
 | x :: r,k,c=>if x==c then(k:Int)else pgo r (k+1) c
def placeI (c:UInt8):Int:=pgo alphL 0 c
theorem fplace_any (c:UInt8) (w:World) :
  Calls Tryz.prog 251 #[.int .u8 c.toNat] w fun e w'=>e=.returned (.int .i64 (placeI c))∧w=w':=by
 go_enter Tryz.func251,Tryz.ntmps251
 go_wp2
 go_loop [3] (fun i=>∃k:Nat,k≤64∧i=.int .i64 k∧Hid (placeI c=pgo (alphL.drop k) k c)) (fun i=>64-(intOf i).toNat)
 case atStart=>exact⟨0,by omega,rfl,zH rfl⟩
 case round =>
  obtain⟨k,hk,rfl,H⟩:=hrel
  by_cases hlt:k<64
  ·have cS:=fsign_any k w hlt
   have Hd:=zH (alp_drop k hlt)
   have B:Hid ((((alp k).toNat:Int)==(c.toNat:Int))=(alp k==c)):=zH (byte_beq _ _)
   have hone:(strB [alp k]).size=1:=rfl
   have h0:0<(strB [alp k]).size:=by rw [hone];decide
   have hat:(strB [alp k])[0]'h0=alp k:=rfl
   generalize strB [alp k]=S at *
   cases he:(((alp k).toNat:Int)==(c.toNat:Int))
   ·have He:=zH (B.out.symm.trans he)
    rw [← hat]at he
    clear hat
    go_wp2_with (go_at_call 261;refine cS.mono ?_;rintro e w' ⟨rfl,rfl⟩)
    go_round
    case rel=>exact⟨k+1,by omega,by go_num,zH (by rw [H.out,Hd.out,pgo,He.out]<;>rfl)⟩
    case measure=>simp [intOf];omega
   ·have He:=zH (B.out.symm.trans he)
    rw [← hat]at he
    clear hat
    go_wp2_with (go_at_call 261;refine cS.mono ?_;rintro e w' ⟨rfl,rfl⟩)
    go_ret
    exact⟨ret_eq (int_eq (by rw [H.out,Hd.out,pgo,He.out]<;>rfl)),rfl⟩
  ·obtain rfl:k=64:=by omega
   go_wp2
   go_ret
   exact⟨ret_eq (int_eq (by rw [H.out]<;>rfl)),rfl⟩
theorem fdigits_any (s:ByteArray) (a:Nat) (w:World) (hs:s.size≤100000) (ha:a≤s.size) :
  Calls Tryz.prog 249 #[.string s,.int .i64 (a:Int)] w fun e w'=>e=.returned (.int .i64 ((ldig (s.data.toList.drop a)).length:Int))∧w=w':=by
 go_enter Tryz.func249,Tryz.ntmps249
 go_wp2
 go_loop [5] (fun i=>∃k:Nat,a+k≤s.size∧i=.int .i64 k∧Hid ((ldig (s.data.toList.drop a)).length=k+(ldig (s.data.toList.drop (a+k))).length)) (fun i=>s.size-(intOf i).toNat)
 case atStart=>exact⟨0,by omega,rfl,zH (by simp)⟩
 case round =>
  obtain⟨k,hk,rfl,H⟩:=hrel
  by_cases hlt:a+k<s.size
  ·have Hdr:=zH (drop_cons_at s (a+k) hlt)
   have cT:=fdigit_any (s[a+k].toNat:Int) w
   cases hd:digI (s[a+k].toNat:Int)
   ·have Hf:Hid ((ldig (s.data.toList.drop a)).length=k):=zH (by rw [H.out,Hdr.out,ldig,List.takeWhile_cons,hd];simp)
    rw [hd]at cT
    clear hd H Hdr
    go_wp2_with (go_at_call 241;refine cT.mono ?_;rintro e w' ⟨rfl,rfl⟩)
    go_ret
    exact⟨ret_eq (int_eq (by rw [Hf.out])),rfl⟩
   ·have Hf:=zH hd
    rw [hd]at cT
    clear hd
    go_wp2_with (go_at_call 241;refine cT.mono ?_;rintro e w' ⟨rfl,rfl⟩)
    go_round
    case rel=>exact⟨k+1,by omega,by go_num,zH (by rw [show a+(k+1)=a+k+1 by omega,H.out,Hdr.out,ldig,List.takeWhile_cons,Hf.out,ldig];simp;omega)⟩
    case measure=>simp [intOf];omega
  ·have Hd:Hid (s.data.toList.drop (a+k)=[]):=zH (List.drop_of_length_le (by rw [← Lib.size_eq];omega))
   go_wp2
   go_ret
   exact⟨ret_eq (int_eq (by rw [H.out,Hd.out];simp [ldig])),rfl⟩
theorem fvalue_any (s:ByteArray) (w:World) (hs:s.size≤15) (hall:s.data.toList.all (fun c=>digI c.toNat)=true) :
  Calls Tryz.prog 250 #[.string s] w fun e w'=>e=.returned (.int .i64 (numL s.data.toList))∧w=w':=by
 have Hall:=zH hall
 clear hall
 go_enter Tryz.func250,Tryz.ntmps250
 go_wp2
 go_loop [3,4] (fun n i=>∃k:Nat,k≤s.size∧i=.int .i64 k∧n=.int .i64 (numL (s.data.toList.take k))) (fun _ i=>s.size-(intOf i).toNat)
 case atStart=>exact⟨0,by omega,rfl,rfl⟩
 case round =>
  obtain⟨k,hk,rfl,rfl⟩:=hrel
  by_cases hlt:k<s.size
  ·obtain⟨n0,n1⟩:=numL_in (s.data.toList.take k) (by
    rw [List.all_eq_true]
    intro x hx
    exact List.all_eq_true.1 Hall.out x (List.mem_of_mem_take hx)) (by rw [List.length_take];omega)
   have Hs:Hid (numL (s.data.toList.take (k+1))=10*numL (s.data.toList.take k)+((s[k].toNat:Int))-48):=zH (by rw [take_snoc s k hlt,numL_snoc];omega)
   have hd:digI (s[k].toNat:Int)=true:=List.all_eq_true.1 Hall.out s[k] (Array.getElem_mem_toList hlt)
   obtain⟨h48,h57⟩:=(digI_iff _).1 hd
   clear hd
   generalize numL (s.data.toList.take k)=m at n0 n1 Hs
   go_wp2
   go_round
   case rel=>exact⟨k+1,by omega,by go_num,by rw [Hs.out]⟩
   case measure=>simp [intOf];omega
  ·have Hk:Hid (s.data.toList.take k=s.data.toList):=zH (take_all s k (by omega))
   go_wp2
   go_ret
   exact⟨ret_eq (int_eq (by rw [Hk.out])),rfl⟩
def groupN (x y z:UInt8):Nat:=65536*x.toNat+256*y.toNat+z.toNat
theorem groupN_lt (x y z:UInt8):groupN x y z<16777216:=by
 have h1:=x.toNat_lt
 have h2:=y.toNat_lt
 have h3:=z.toNat_lt
 unfold groupN;omega
theorem list3 (t:ByteArray) (h:3≤t.size):t.data.toList=t[0] :: t[1] :: t[2] :: t.data.toList.drop 3:=by
 have e0:=drop_cons_at t 0 (by omega)
 have e1:=drop_cons_at t 1 (by omega)
 have e2:=drop_cons_at t 2 (by omega)
 rw [List.drop_zero]at e0
 rw [← e2,← e1];exact e0
theorem cat4 (acc:List UInt8) (a b c d:UInt8):strB acc++strB [a]++strB [b]++strB [c]++strB [d]=strB (acc++[a,b,c,d]):=by
 simp only [strB_append,List.append_assoc,List.cons_append,List.nil_append]
theorem wrap_sum2 (x y:UInt8):wrap64 (wrap64 ((65536:Int)*wrap64 (x.toNat:Int))+wrap64 ((256:Int)*wrap64 (y.toNat:Int)))=(65536:Int)*(x.toNat:Int)+256*(y.toNat:Int):=by
 have b0:=x.toNat_lt
 have b1:=y.toNat_lt
 rw [IntWalk.wrap64_in (x.toNat:Int) (by omega),IntWalk.wrap64_in (y.toNat:Int) (by omega),IntWalk.wrap64_in ((65536:Int)*(x.toNat:Int)) (by omega),IntWalk.wrap64_in ((256:Int)*(y.toNat:Int)) (by omega)]
 exact IntWalk.wrap64_in _ (by omega)
theorem wrap_sum3 (x y z:UInt8):wrap64 (wrap64 (wrap64 ((65536:Int)*wrap64 (x.toNat:Int))+wrap64 ((256:Int)*wrap64 (y.toNat:Int)))+wrap64 (z.toNat:Int))=(65536:Int)*(x.toNat:Int)+256*(y.toNat:Int)+(z.toNat:Int):=by
 have b0:=x.toNat_lt
 have b1:=y.toNat_lt
 have b2:=z.toNat_lt
 rw [wrap_sum2,IntWalk.wrap64_in (z.toNat:Int) (by omega)]
 exact IntWalk.wrap64_in _ (by omega)
theorem fencode_any (s:ByteArray) (w:World) (hs:s.size≤1000000) :
  Calls Tryz.prog 252 #[.string s] w fun e w'=>e=.returned (.string (strB (encL s.data.toList)))∧Below w.heap.size w w':=by
 go_enter Tryz.func252,Tryz.ntmps252
 go_wp2
 go_loopw [0,3] (fun x v wr=>∃(t:ByteArray) (acc:List UInt8),x=.string t∧v=.string (strB acc)∧3*acc.length+4*t.size≤4*s.size∧t.size≤s.size∧Hid (encL s.data.toList=acc++encL t.data.toList)∧Below w.heap.size w wr) (fun x _ _=>strLen x)
 case atStart=>exact⟨s,[],rfl,rfl,by simp,by omega,zH rfl,Below.refl _ _⟩
 case round =>
  obtain⟨t,acc,rfl,rfl,hle,hts,H,hb⟩:=hrel
  have haz:(strB acc).size≤2000000:=by rw [strB_size];omega
  by_cases h3:3≤t.size
  ·have Hl:=zH (list3 t h3)
   have k0:0<t.size:=by omega
   have k1:1<t.size:=by omega
   have k2:2<t.size:=by omega
   have j0:(0:Int)<(t.size:Int):=by omega
   have j1:(1:Int)<(t.size:Int):=by omega
   have j2:(2:Int)<(t.size:Int):=by omega
   obtain⟨N,hN⟩:∃N:Nat,groupN t[0] t[1] t[2]=N:=⟨_,rfl⟩
   have hN2:N<16777216:=by rw [← hN];exact groupN_lt _ _ _
   have Hsum:Hid ((65536:Int)*(t[0].toNat:Int)+(256:Int)*(t[1].toNat:Int)+(t[2].toNat:Int)=(N:Int)):=zH (by rw [← hN,groupN];omega)
   have b0:=t[0].toNat_lt
   have b1:=t[1].toNat_lt
   have b2:=t[2].toNat_lt
   have W:=zH (wrap_sum3 t[0] t[1] t[2])
   rw [Hsum.out]at W
   clear b0 b1 b2
   have HN:=zH hN
   clear hN
   go_wp2_with fail
   go_quiet (fail)
   rw [W.out]
   obtain⟨a,ha⟩:∃a,N / 262144=a:=⟨_,rfl⟩
   obtain⟨b,hbb⟩:∃b,N / 4096 % 64=b:=⟨_,rfl⟩
   obtain⟨c,hc⟩:∃c,N / 64 % 64=c:=⟨_,rfl⟩
   obtain⟨d,hd⟩:∃d,N % 64=d:=⟨_,rfl⟩
   have He:Hid (encL s.data.toList=(acc++[alp a,alp b,alp c,alp d])++encL (t.data.toList.drop 3)):=zH (by
    rw [H.out,Hl.out,encL,c0,c1,c2,c3]
    simp only [groupN]at HN
    rw [HN.out,ha,hbb,hc,hd,List.append_assoc]
    rfl)
   have Hx:Hid ((t.extract 3 t.size).data.toList=t.data.toList.drop 3):=zH (Lib.extract_to_end t 3)
   have Hxs:Hid ((t.extract 3 t.size).size+3=t.size):=zH (by rw [Lib.size_eq,Hx.out,List.length_drop,← Lib.size_eq];omega)
   have qa:(N:Int) / 262144=(a:Int):=by omega
   have qb:(N:Int) / 4096 % 64=(b:Int):=by omega
   have qc:(N:Int) / 64 % 64=(c:Int):=by omega
   have qd:(N:Int) % 64=(d:Int):=by omega
   have cA:=fun W=>fsign_any a W (by omega)
   have cB:=fun W=>fsign_any b W (by omega)
   have cC:=fun W=>fsign_any c W (by omega)
   have cD:=fun W=>fsign_any d W (by omega)
   have HS:=zH (cat4 acc (alp a) (alp b) (alp c) (alp d))
   have z1:(strB [alp a]).size=1:=rfl
   have z2:(strB [alp b]).size=1:=rfl
   have z3:(strB [alp c]).size=1:=rfl
   have z4:(strB [alp d]).size=1:=rfl
   generalize strB [alp a]=A at *
   generalize strB [alp b]=B at *
   generalize strB [alp c]=C at *
   generalize strB [alp d]=D at *
   generalize hSe:strB acc=S at *
   have HSe:=zH hSe
   clear ha hbb hc hd hSe H Hl Hsum HN
   go_wp2_with fail
   refine(cA _).mono ?_
   rintro e w' ⟨rfl,rfl⟩
   go_wp2_with fail
   refine(cB _).mono ?_
   rintro e w' ⟨rfl,rfl⟩
   go_wp2_with fail
   refine(cC _).mono ?_
   rintro e w' ⟨rfl,rfl⟩
   go_wp2_with fail
   refine(cD _).mono ?_
   rintro e w' ⟨rfl,rfl⟩
   go_wp2_with fail
   go_roundw
   case rel =>
    refine⟨_,acc++[alp a,alp b,alp c,alp d],rfl,by rw [← HS.out],?_,?_,zH (by rw [Hx.out];exact He.out),hb.trans ((below_drewN _ _).mono hb.size)⟩
    ·have:=Hxs.out;simp only [List.length_append,List.length_cons,List.length_nil];omega
    ·have:=Hxs.out;omega
   case measure=>have:=Hxs.out;simp only [strLen];omega
  ·by_cases hz2:t.size=2
   ·have k0:0<t.size:=by omega
    have k1:1<t.size:=by omega
    have Hl:Hid (t.data.toList=[t[0],t[1]]):=zH (by
     have e0:=drop_cons_at t 0 k0
     have e1:=drop_cons_at t 1 k1
     rw [List.drop_zero]at e0
     have e2:t.data.toList.drop (1+1)=[]:=List.drop_of_length_le (by rw [← Lib.size_eq];omega)
     rw [e0,e1,e2])
    have j0:(0:Int)<(t.size:Int):=by omega
    have j1:(1:Int)<(t.size:Int):=by omega
    obtain⟨N,hN⟩:∃N:Nat,groupN t[0] t[1] 0=N:=⟨_,rfl⟩
    have hN2:N<16777216:=by rw [← hN];exact groupN_lt _ _ _
    have Hsum:Hid ((65536:Int)*(t[0].toNat:Int)+(256:Int)*(t[1].toNat:Int)=(N:Int)):=zH (by rw [← hN,groupN,z0];omega)
    have b0:=t[0].toNat_lt
    have b1:=t[1].toNat_lt
    have W:=zH (wrap_sum2 t[0] t[1])
    rw [Hsum.out]at W
    have g2:((t.size:Int)==2)=true:=by simp;omega
    have g1:((t.size:Int)==1)=false:=by simp;omega
    clear b0 b1
    have HN:=zH hN
    have Hz2:=zH hz2
    clear hN hz2
    go_wp2_with fail
    go_quiet (fail)
    rw [W.out]
    obtain⟨a,ha⟩:∃a,N / 262144=a:=⟨_,rfl⟩
    obtain⟨b,hbb⟩:∃b,N / 4096 % 64=b:=⟨_,rfl⟩
    obtain⟨c,hc⟩:∃c,N / 64 % 64=c:=⟨_,rfl⟩
    have He:Hid (encL s.data.toList=acc++[alp a,alp b,alp c,61]):=zH (by
     rw [H.out,Hl.out,encL,c0,c1,c2]
     simp only [groupN]at HN
     rw [HN.out,ha,hbb,hc])
    have qa:(N:Int) / 262144=(a:Int):=by omega
    have qb:(N:Int) / 4096 % 64=(b:Int):=by omega
    have qc:(N:Int) / 64 % 64=(c:Int):=by omega
    have cA:=fun W=>fsign_any a W (by omega)
    have cB:=fun W=>fsign_any b W (by omega)
    have cC:=fun W=>fsign_any c W (by omega)
    have HS:=zH (cat4 acc (alp a) (alp b) (alp c) 61)
    rw [show strB [61]=(⟨#[61]⟩:ByteArray)from rfl,← He.out]at HS
    have z1:(strB [alp a]).size=1:=rfl
    have z2:(strB [alp b]).size=1:=rfl
    have z3:(strB [alp c]).size=1:=rfl
    generalize strB [alp a]=A at *
    generalize strB [alp b]=B at *
    generalize strB [alp c]=C at *
    generalize strB acc=S at *
    clear ha hbb hc H Hl Hsum HN He
    go_wp2_with fail
    refine(cA _).mono ?_
    rintro e w' ⟨rfl,rfl⟩
    go_wp2_with fail
    refine(cB _).mono ?_
    rintro e w' ⟨rfl,rfl⟩
    go_wp2_with fail
    refine(cC _).mono ?_
    rintro e w' ⟨rfl,rfl⟩
    go_wp2_with fail
    go_ret
    exact⟨by rw [← HS.out]<;>rfl,hb.trans ((below_drewN _ _).mono hb.size)⟩
   ·by_cases hz1:t.size=1
    ·have k0:0<t.size:=by omega
     have Hl:Hid (t.data.toList=[t[0]]):=zH (by
      have e0:=drop_cons_at t 0 k0
      rw [List.drop_zero]at e0
      have e2:t.data.toList.drop (0+1)=[]:=List.drop_of_length_le (by rw [← Lib.size_eq];omega)
      rw [e0,e2])
     obtain⟨N,hN⟩:∃N:Nat,groupN t[0] 0 0=N:=⟨_,rfl⟩
     have hN2:N<16777216:=by rw [← hN];exact groupN_lt _ _ _
     have hsum:(65536:Int)*(t[0].toNat:Int)=(N:Int):=by rw [← hN,groupN,z0];omega
     have b0:=t[0].toNat_lt
     have g2:((t.size:Int)==2)=false:=by simp;omega
     have g1:((t.size:Int)==1)=true:=by simp;omega
     have HN:=zH hN
     have Hz1:=zH hz1
     clear hN hz1
     obtain⟨a,ha⟩:∃a,N / 262144=a:=⟨_,rfl⟩
     obtain⟨b,hbb⟩:∃b,N / 4096 % 64=b:=⟨_,rfl⟩
     have He:Hid (encL s.data.toList=acc++[alp a,alp b,61,61]):=zH (by
      rw [H.out,Hl.out,encL,c0,c1]
      simp only [groupN]at HN
      rw [HN.out,ha,hbb])
     have qa:(N:Int) / 262144=(a:Int):=by omega
     have qb:(N:Int) / 4096 % 64=(b:Int):=by omega
     have cA:=fun W=>fsign_any a W (by omega)
     have cB:=fun W=>fsign_any b W (by omega)
     have HS:Hid (strB acc++strB [alp a]++strB [alp b]++(⟨#[61,61]⟩:ByteArray)=strB (encL s.data.toList)):=zH (by
      rw [show(⟨#[61,61]⟩:ByteArray)=strB [61,61]from rfl,He.out]
      simp only [strB_append,List.append_assoc,List.cons_append,List.nil_append])
     have z1:(strB [alp a]).size=1:=rfl
     have z2:(strB [alp b]).size=1:=rfl
     generalize strB [alp a]=A at *
     generalize strB [alp b]=B at *
     generalize strB acc=S at *
     clear ha hbb H Hl HN He
     go_wp2_with fail
     refine(cA _).mono ?_
     rintro e w' ⟨rfl,rfl⟩
     go_wp2_with fail
     refine(cB _).mono ?_
     rintro e w' ⟨rfl,rfl⟩
     go_wp2_with fail
     go_ret
     exact⟨by rw [← HS.out]<;>rfl,hb⟩
    ·have hz0:t.size=0:=by omega
     have He:Hid (strB acc=strB (encL s.data.toList)):=zH (by
      have e0:t.data.toList=[]:=List.eq_nil_of_length_eq_zero (by rw [← Lib.size_eq];exact hz0)
      rw [H.out,e0,encL,List.append_nil])
     have g2:((t.size:Int)==2)=false:=by simp;omega
     have g1:((t.size:Int)==1)=false:=by simp;omega
     clear hz0 H
     go_wp2_with fail
     go_ret
     exact⟨by rw [← He.out]<;>rfl,hb⟩
theorem btI_is (x:Int):btI x=(ltrI x||x==42):=rfl
theorem prI_nat (c:UInt8):prI c.toNat=(!decide (c.toNat<32)&&!decide (126<c.toNat)):=by
 rw [Bool.eq_iff_iff]
 simp [prI]
 omega
theorem freadString_any (s:ByteArray) (w:World) (h0:0<s.size) (hs:s.size≤100000) :
  Calls Tryz.prog 243 #[.string s] w (gotPost (gotV (readStrL s.data.toList)) w):=by
 have hb0:Below w.heap.size w (w.alloc zeroBare):=(Below.refl _ _).alloc (zR _) _
 have Hb0:=zH hb0
 clear hb0
 go_enter Tryz.func243,Tryz.ntmps243
 go_wp2
 go_loop [5,6] (fun v i=>∃(k:Nat) (acc:List UInt8),i=.int .i64 k∧v=.string (strB acc)∧1≤k∧k≤s.size∧acc.length≤k∧Hid (readStrL s.data.toList=rsL (s.data.toList.drop k) acc k)) (fun _ i=>s.size-(intOf i).toNat)
 case atStart=>exact⟨1,[],rfl,rfl,by omega,by omega,by simp,zH rfl⟩
 case round =>
  obtain⟨k,acc,rfl,rfl,hk1,hk,hal,H⟩:=hrel
  have haz:(strB acc).size≤100000:=by rw [strB_size];omega
  by_cases hlt:k<s.size
  ·have hdr:=drop_cons_at s k hlt
   have hone:=one_at s k hlt
   cases h1:(((s[k]'hlt).toNat:Int)==34)
   ·have n1:s[k]'hlt≠34:=by
     intro e;rw [e]at h1;exact absurd h1 (by decide)
    cases h2:(((s[k]'hlt).toNat:Int)==92)
    ·have n2:s[k]'hlt≠92:=by
      intro e;rw [e]at h2;exact absurd h2 (by decide)
     rw [hdr,rsL_other _ _ _ _ n1 n2,prI_nat]at H
     by_cases g1:(s[k]'hlt).toNat<32
     ·have HR:Hid (readStrL s.data.toList=none):=zH (by rw [H.out];simp [g1])
      clear hdr hone n1 n2 H
      go_wp2
      exact bodyPost_ret (v:=gotV none) (by simp [results,Tryz.results243,go_sem,gotV]) rfl ⟨by rw [HR.out],Hb0.out⟩
     ·by_cases g2:126<(s[k]'hlt).toNat
      ·have HR:Hid (readStrL s.data.toList=none):=zH (by rw [H.out];simp [g2])
       clear hdr hone n1 n2 H
       go_wp2
       exact bodyPost_ret (v:=gotV none) (by simp [results,Tryz.results243,go_sem,gotV]) rfl ⟨by rw [HR.out],Hb0.out⟩
      ·have HR:Hid (readStrL s.data.toList=rsL (s.data.toList.drop (k+1)) (acc++[s[k]'hlt]) (k+1)):=zH (by rw [H.out];simp [g1,g2])
       have HS:Hid (strB acc++s.extract k (k+1)=strB (acc++[s[k]'hlt])):=zH (by rw [hone,strB_append])
       have hz:(s.extract k (k+1)).size=1:=by rw [hone]<;>rfl
       clear hdr hone n1 n2 H
       generalize strB acc=S at *
       go_wp2
       go_round
       case rel=>exact⟨k+1,acc++[s[k]],by go_num,by rw [← HS.out],by omega,by omega,by simp;omega,zH HR.out⟩
       case measure=>simp [intOf];omega
    ·have e2:s[k]'hlt=92:=by
      have:=byte_beq (s[k]'hlt) 92
      rw [show((92:UInt8).toNat:Int)=92 from rfl,h2]at this
      simpa using this.symm
     have g1:¬(s[k]'hlt).toNat<32:=by rw [e2];decide
     have g2:¬126<(s[k]'hlt).toNat:=by rw [e2];decide
     by_cases hlt2:k+1<s.size
     ·rw [hdr,e2,drop_cons_at s (k+1) hlt2,rsL_esc]at H
      have hone2:=one_at s (k+1) hlt2
      have hesc:escI ((s[k+1]'hlt2).toNat:Int)=(((s[k+1]'hlt2).toNat:Int)==34||((s[k+1]'hlt2).toNat:Int)==92):=rfl
      rw [hesc]at H
      clear hesc
      have HS:Hid (strB acc++s.extract (k+1) (k+1+1)=strB (acc++[s[k+1]'hlt2])):=zH (by rw [hone2,strB_append])
      have hz:(s.extract (k+1) (k+1+1)).size=1:=by rw [hone2]<;>rfl
      clear hdr hone hone2 n1 e2
      cases p1:(((s[k+1]'hlt2).toNat:Int)==34)<;>cases p2:(((s[k+1]'hlt2).toNat:Int)==92)
      ·have HR:Hid (readStrL s.data.toList=none):=zH (by rw [H.out,p1,p2]<;>rfl)
       have b1:(((s[k+1]'hlt2).toNat:Int) != 34)=true:=by rw [bne,p1]<;>rfl
       have b2:(((s[k+1]'hlt2).toNat:Int) != 92)=true:=by rw [bne,p2]<;>rfl
       clear H p1 p2
       go_wp2
       exact bodyPost_ret (v:=gotV none) (by simp [results,Tryz.results243,go_sem,gotV]) rfl ⟨by rw [HR.out],Hb0.out⟩
      all_goals
       have HR:Hid (readStrL s.data.toList=rsL (s.data.toList.drop (k+1+1)) (acc++[s[k+1]'hlt2]) (k+2)):=zH (by rw [H.out,p1,p2]<;>rfl)
       have b1:(((s[k+1]'hlt2).toNat:Int) != 34)=!(((s[k+1]'hlt2).toNat:Int)==34):=rfl
       have b2:(((s[k+1]'hlt2).toNat:Int) != 92)=!(((s[k+1]'hlt2).toNat:Int)==92):=rfl
       rw [p1]at b1
       rw [p2]at b2
       simp only [Bool.not_true,Bool.not_false]at b1 b2
       clear H p1 p2
       generalize strB acc=S at *
       go_wp2
       go_round
       case rel=>exact⟨k+2,acc++[s[k+1]],by go_num,by rw [← HS.out],by omega,by omega,by simp;omega,zH HR.out⟩
       case measure=>simp [intOf];omega
     ·have hd1:s.data.toList.drop (k+1)=[]:=List.drop_of_length_le (by rw [← Lib.size_eq];omega)
      rw [hdr,e2,hd1,rsL_esc_end]at H
      clear hdr n1 e2 hd1 hone
      go_wp2
      exact bodyPost_ret (v:=gotV none) (by simp [results,Tryz.results243,go_sem,gotV]) rfl ⟨by rw [H.out],Hb0.out⟩
   ·have e1:s[k]'hlt=34:=by
     have:=byte_beq (s[k]'hlt) 34
     rw [show((34:UInt8).toNat:Int)=34 from rfl,h1]at this
     simpa using this.symm
    rw [hdr,e1,rsL_quote]at H
    clear hdr e1 hone
    go_wp2
    exact bodyPost_ret (v:=gotV (some ⟨3,0,acc,k+1⟩)) (by simp [results,Tryz.results243,go_sem,gotV]) rfl ⟨by rw [H.out],(Below.refl _ _).alloc (zR _) _⟩
  ·have hd1:s.data.toList.drop k=[]:=List.drop_of_length_le (by rw [← Lib.size_eq];omega)
   rw [hd1,rsL.eq_def]at H
   clear hd1
   go_wp2
   exact bodyPost_ret (v:=gotV none) (by simp [results,Tryz.results243,go_sem,gotV]) rfl ⟨by rw [H.out],Hb0.out⟩
theorem bare_cells (w:World) (a b:Int) (t:ByteArray) (W:World) (hb:Below (w.heap.size+1) (w.alloc (.cells #[.int .i64 a,.int .i64 b,.string t] 113)) W) :
  (W.cell? ⟨w.heap.size,0,none⟩=some (.int .i64 a)∧W.cell? ⟨w.heap.size,1,none⟩=some (.int .i64 b)∧W.cell? ⟨w.heap.size,2,none⟩=some (.string t)):=by
 refine⟨?_,?_,?_⟩
 ·rw [hb.cell (p:=⟨w.heap.size,0,none⟩) (by simp)];simp
 ·rw [hb.cell (p:=⟨w.heap.size,1,none⟩) (by simp)];simp
 ·rw [hb.cell (p:=⟨w.heap.size,2,none⟩) (by simp)];simp
def dgo:List UInt8→Nat→Nat→List UInt8→Option (List UInt8)
 | [],_,_,acc=>some acc
 | c :: r,v,m,acc =>
  if c=61 then some acc
  else if placeI c<0 then none
  else if m+6<8 then dgo r (v % 4096*64+(placeI c).toNat) (m+6) acc
  else dgo r (v % 4096*64+(placeI c).toNat) (m-2) (acc++[UInt8.ofNat ((v % 4096*64+(placeI c).toNat) / 2 ^ (m-2))])
theorem placeI_lt (c:UInt8):placeI c<64:=by
 have:=all_bytes (fun c=>decide (placeI c<64)) (by decide +kernel) c
 simpa using this
theorem placeI_alp (i:Nat) (h:i<64):placeI (alp i)=(i:Int):=by
 have:∀i:Fin 64,placeI (alp i.val)=(i.val:Int):=by decide +kernel
 exact this ⟨i,h⟩
theorem dgo_0 (i:Nat) (h:i<64) (r:List UInt8) (v:Nat) (acc:List UInt8):dgo (alp i :: r) v 0 acc=dgo r (v % 4096*64+i) 6 acc:=by
 rw [dgo,if_neg (alp_61 i).1,placeI_alp i h,if_neg (by omega),if_pos (by omega),Int.toNat_natCast]
theorem dgo_6 (i:Nat) (h:i<64) (r:List UInt8) (v:Nat) (acc:List UInt8):dgo (alp i :: r) v 6 acc=dgo r (v % 4096*64+i) 4 (acc++[UInt8.ofNat ((v % 4096*64+i) / 16)]):=by
 rw [dgo,if_neg (alp_61 i).1,placeI_alp i h,if_neg (by omega),if_neg (by omega),Int.toNat_natCast]
theorem dgo_4 (i:Nat) (h:i<64) (r:List UInt8) (v:Nat) (acc:List UInt8):dgo (alp i :: r) v 4 acc=dgo r (v % 4096*64+i) 2 (acc++[UInt8.ofNat ((v % 4096*64+i) / 4)]):=by
 rw [dgo,if_neg (alp_61 i).1,placeI_alp i h,if_neg (by omega),if_neg (by omega),Int.toNat_natCast]
theorem dgo_2 (i:Nat) (h:i<64) (r:List UInt8) (v:Nat) (acc:List UInt8):dgo (alp i :: r) v 2 acc=dgo r (v % 4096*64+i) 0 (acc++[UInt8.ofNat ((v % 4096*64+i) / 1)]):=by
 rw [dgo,if_neg (alp_61 i).1,placeI_alp i h,if_neg (by omega),if_neg (by omega),Int.toNat_natCast]
theorem dgo_61 (r:List UInt8) (v m:Nat) (acc:List UInt8):dgo (61 :: r) v m acc=some acc:=by rw [dgo,if_pos rfl]
theorem byte_of (n:Nat) (x:UInt8) (h:n % 256=x.toNat):UInt8.ofNat n=x:=by
 apply UInt8.toNat_inj.1
 rw [UInt8.toNat_ofNat'];exact h
theorem dgo_enc:∀(d:List UInt8) (v:Nat) (acc:List UInt8),dgo (encL d) v 0 acc=some (acc++d)
 | [],v,acc=>by rw [encL,dgo,List.append_nil]
 | [x],v,acc=>by
  have h1:=x.toNat_lt
  rw [encL,c0,c1,z0]
  rw [dgo_0 _ (by omega),dgo_6 _ (by omega),dgo_61]
  rw [byte_of _ x (by omega)]
 | [x,y],v,acc=>by
  have h1:=x.toNat_lt
  have h2:=y.toNat_lt
  rw [encL,c0,c1,c2,z0]
  rw [dgo_0 _ (by omega),dgo_6 _ (by omega),dgo_4 _ (by omega),dgo_61]
  rw [byte_of _ x (by omega),byte_of _ y (by omega),List.append_assoc]
  rfl
 | x :: y :: z :: r,v,acc=>by
  have h1:=x.toNat_lt
  have h2:=y.toNat_lt
  have h3:=z.toNat_lt
  rw [encL,c0,c1,c2,c3]
  rw [dgo_0 _ (by omega),dgo_6 _ (by omega),dgo_4 _ (by omega),dgo_2 _ (by omega),dgo_enc r]
  rw [byte_of _ x (by omega),byte_of _ y (by omega),byte_of _ z (by omega)]
  simp only [List.append_assoc,List.cons_append,List.nil_append]
theorem decL_none (s:List UInt8) (h:dgo s 0 0 []=none):decL s=none:=by
 cases hd:decL s with
 | none=>rfl
 | some d =>
  have:=dgo_enc d 0 []
  rw [decL_some s d hd,h]at this;cases this
theorem decL_dgo (s b:List UInt8) (h:dgo s 0 0 []=some b):decL s=if encL b=s then some b else none:=by
 split
 ·rename_i e
  rw [← e];exact decL_encL b
 ·rename_i e
  cases hd:decL s with
  | none=>rfl
  | some d =>
   have e1:=decL_some s d hd
   have:=dgo_enc d 0 []
   rw [e1,h,List.nil_append]at this
   rw [Option.some.inj this]at e
   exact absurd e1 e
theorem fdecode_any (s:ByteArray) (w:World) (hs:s.size≤100000) :
  Calls Tryz.prog 246 #[.string s] w fun e w'=>e=.returned (decV (decL s.data.toList))∧Below w.heap.size w w':=by
 obtain⟨i0,hi,hz0,hz1,hz2⟩:=info_parts info_u8
 have hb0:Below w.heap.size w (w.alloc (.cells #[] 5)):=(Below.refl _ _).alloc (zR _) _
 have hown0:(w.alloc (.cells #[] 5)).ownsRow w.heap.size 5 1 (.slice (some ⟨w.heap.size,0,none⟩) 0 0) 0 []:=World.ownsRow_lit w #[] 0 (zR _) (by decide) rfl
 have Hown0:=zH hown0
 clear hown0
 go_enter Tryz.func246,Tryz.ntmps246
 go_wp2_with fail
 go_loopw [4,5,6,7] (fun bits many b i wr=>∃(V M k:Nat) (acc:List UInt8),bits=.int .i64 V∧many=.int .i64 M∧i=.int .i64 k∧k≤s.size∧V<262144∧M≤7∧acc.length≤k∧Hid (dgo s.data.toList 0 0 []=dgo (s.data.toList.drop k) V M acc)∧wr.ownsRow w.heap.size 5 1 b acc.length (acc.map u8V)∧Below w.heap.size w wr) (fun _ _ _ i _=>s.size-(intOf i).toNat)
 case atStart=>exact⟨0,0,0,[],rfl,rfl,rfl,by omega,by omega,by omega,by simp,zH rfl,Hown0.out,hb0⟩
 case round =>
  obtain⟨V,M,k,acc,rfl,rfl,rfl,hk,hV,hM,hal,H,hown,hb⟩:=hrel
  clear hb0 Hown0
  by_cases hend:k<s.size→s.data.toList[k]? = some 61
  ·have Hd:Hid (decL s.data.toList=if encL acc=s.data.toList then some acc else none):=zH (decL_dgo _ _ (by
    rw [H.out]
    by_cases hlt:k<s.size
    ·have e:=hend hlt
     rw [drop_cons_at s k hlt]
     have:s[k]=61:=by
      have e2:s.data.toList[k]? = some s[k]:=List.getElem?_eq_getElem (by rw [← Lib.size_eq];exact hlt)
      rw [e2]at e;exact Option.some.inj e
     rw [this,dgo_61]
    ·rw [List.drop_of_length_le (by rw [← Lib.size_eq];omega),dgo]))
   have hcv:=run_owned_str (P:=Tryz.prog) Tryz.underlying23 Tryz.underlying5 Tryz.underlying9 hown
   have cE:=fencode_any (strB acc) wr (by rw [strB_size];omega)
   rw [strB_data]at cE
   have htest:(∃hlt:k<s.size,(((s[k]'hlt).toNat:Int)==61)=true)∨¬k<s.size:=by
    by_cases hlt:k<s.size
    ·refine .inl ⟨hlt,?_⟩
     have e:=hend hlt
     have e2:s.data.toList[k]? = some s[k]:=List.getElem?_eq_getElem (by rw [← Lib.size_eq];exact hlt)
     rw [e2]at e
     rw [Option.some.inj e];decide
    ·exact .inr hlt
   clear hend H
   by_cases he:encL acc=s.data.toList
   ·have Hd2:Hid (decL s.data.toList=some acc):=zH (by rw [Hd.out,if_pos he])
    have heq2:((strB (encL acc)).toList==s.toList)=true:=by rw [Lib.toList_data,Lib.toList_data,strB_data,he];simp
    have heq3:((strB (encL acc)).toList != s.toList)=false:=by rw [bne,heq2]<;>rfl
    clear he Hd
    generalize strB (encL acc)=z at cE heq2 heq3
    rcases htest with ⟨hlt,h61⟩ | hlt
    all_goals
     go_wp2_with fail
     refine cE.mono ?_
     rintro e w1 ⟨rfl,hb1⟩
     have hcv2:=run_owned_str (P:=Tryz.prog) Tryz.underlying23 Tryz.underlying5 Tryz.underlying9 (ownsRow_later hown hb1)
     clear hcv
     go_wp2_with fail
     go_ret2
     exact⟨by rw [Hd2.out]<;>rfl,hb.trans (hb1.mono hb.size)⟩
   ·have Hd2:Hid (decL s.data.toList=none):=zH (by rw [Hd.out,if_neg he])
    have heq2:((strB (encL acc)).toList==s.toList)=false:=by
     have:¬(strB (encL acc)).toList=s.toList:=by rw [Lib.toList_data,Lib.toList_data,strB_data];exact he
     simpa using this
    have heq3:((strB (encL acc)).toList != s.toList)=true:=by rw [bne,heq2]<;>rfl
    clear he Hd
    generalize strB (encL acc)=z at cE heq2 heq3
    rcases htest with ⟨hlt,h61⟩ | hlt
    all_goals
     go_wp2_with fail
     refine cE.mono ?_
     rintro e w1 ⟨rfl,hb1⟩
     clear hcv
     go_wp2_with fail
     go_ret2
     exact⟨by rw [Hd2.out]<;>rfl,hb.trans (hb1.mono hb.size)⟩
  ·have hlt:k<s.size:=by
    by_cases h:k<s.size
    ·exact h
    ·exact absurd (fun h2=>absurd h2 h) hend
   have h61:s[k]'hlt≠61:=by
    intro e
    refine hend (fun _=>?_)
    have e2:s.data.toList[k]? = some s[k]:=List.getElem?_eq_getElem (by rw [← Lib.size_eq];exact hlt)
    rw [e2,e]
   clear hend
   have g61:(((s[k]'hlt).toNat:Int)==61)=false:=by
    have:=byte_beq (s[k]'hlt) 61
    rw [show((61:UInt8).toNat:Int)=61 from rfl]at this
    rw [this];simpa using h61
   have n61:(((s[k]'hlt).toNat:Int) != 61)=true:=by rw [bne,g61]<;>rfl
   have Hdr:=zH (drop_cons_at s k hlt)
   have cP:=fun W=>fplace_any (s[k]'hlt) W
   have hp64:=placeI_lt (s[k]'hlt)
   rw [drop_cons_at s k hlt,dgo,if_neg h61]at H
   generalize placeI (s[k]'hlt)=p at cP H hp64
   clear Hdr h61 g61
   by_cases hp:p<0
   ·have Hd:Hid (decL s.data.toList=none):=zH (decL_none _ (by rw [H.out,if_pos hp]))
    clear H
    have d1:decide (p<0)=true:=by simpa using hp
    go_wp2_with fail
    refine(cP _).mono ?_
    rintro e w' ⟨rfl,rfl⟩
    go_wp2_with fail
    go_ret2
    exact⟨by rw [Hd.out]<;>rfl,hb⟩
   ·obtain⟨P,rfl⟩:∃P:Nat,p=(P:Int):=⟨p.toNat,by omega⟩
    rw [if_neg hp,Int.toNat_natCast]at H
    obtain⟨V2,hV2⟩:∃V2,V % 4096*64+P=V2:=⟨_,rfl⟩
    rw [hV2]at H
    have hV3:V2<262144:=by omega
    have q1:(V:Int) % 4096*64+(P:Int)=(V2:Int):=by omega
    clear hV2
    have d1:decide ((P:Int)<0)=false:=by simp
    by_cases hm:M+6<8
    ·rw [if_pos hm]at H
     have d2:decide ((8:Int)≤(M:Int)+6)=false:=by simp;omega
     go_wp2_with fail
     refine(cP _).mono ?_
     rintro e w' ⟨rfl,rfl⟩
     go_wp2_with fail
     go_roundw
     case rel=>exact⟨V2,M+6,k+1,acc,rfl,by go_num,by go_num,by omega,hV3,by omega,by omega,zH H.out,hown,hb⟩
     case measure=>simp [intOf];omega
    ·rw [if_neg hm]at H
     obtain⟨M2,hM2⟩:∃M2,M-2=M2:=⟨_,rfl⟩
     rw [hM2]at H
     have d2:decide ((8:Int)≤(M:Int)+6)=true:=by simp;omega
     have q2:(M:Int)+6-8=(M2:Int):=by omega
     have hM3:M2≤7:=by omega
     clear hM2
     go_wp2_with fail
     refine(cP _).mono ?_
     rintro e w' ⟨rfl,rfl⟩
     go_wp2_with fail
     clear q1 q2
     go_loop [9,10] (fun x j=>∃J:Nat,J≤M2∧j=.int .i64 J∧x=.int .i64 ((V2 / 2 ^ J:Nat):Int)) (fun _ j=>M2-(intOf j).toNat)
     case atStart=>exact⟨0,Nat.zero_le _,rfl,by simp⟩
     case round =>
      obtain⟨J,hJ,rfl,rfl⟩:=hrel
      have hX:V2 / 2 ^ J≤V2:=Nat.div_le_self _ _
      have HY:Hid (V2 / 2 ^ (J+1)=V2 / 2 ^ J / 2):=zH (by rw [Nat.pow_succ,Nat.div_div_eq_div_mul])
      by_cases hJlt:J<M2
      ·obtain⟨Y,hY⟩:∃Y,V2 / 2 ^ (J+1)=Y:=⟨_,rfl⟩
       rw [hY]at HY
       generalize V2 / 2 ^ J=X at *
       have q3:(X:Int) / 2=(Y:Int):=by have:=HY.out;omega
       have HYe:=zH hY
       clear hY
       go_wp2_with fail
       go_round
       case rel=>exact⟨J+1,by omega,by go_num,by rw [HYe.out]⟩
       case measure=>simp [intOf];omega
      ·obtain rfl:J=M2:=by omega
       clear HY
       obtain⟨B,hB⟩:∃B,UInt8.ofNat (V2 / 2 ^ J)=B:=⟨_,rfl⟩
       rw [hB]at H
       have hBn:B.toNat=V2 / 2 ^ J % 256:=by rw [← hB,UInt8.toNat_ofNat']
       generalize V2 / 2 ^ J=X at *
       have q4:(X:Int) % 256=(B.toNat:Int):=by omega
       have hB2:=B.toNat_lt
       clear hB hBn
       go_wp2_with (at_builtin;refine wpList_append_own _ rfl _ _ 23 rfl w.heap.size 5 i0 (.int .u8 0) 1 1 Tryz.underlying23 hi hz0 hz1 hz2 rfl (by decide) _ _ _ rfl (hown.alloc _) ⟨_,0,none⟩ 1 1 [.int .u8 (B.toNat:Int)] rfl rfl (cells_new _ _ _) (by simp [Value.oneCell']) (by unfold maxLen;omega) (by omega) (by have:=hb.size;simp;omega) ?_;intro v' w2 hown' hgrow _)
       go_roundw
       case rel =>
        have hz3:=hb.size
        refine⟨V2,J,k+1,acc++[B],rfl,rfl,by go_num,by omega,hV3,by omega,by simp;omega,zH H.out,by simpa [u8V] using hown',?_⟩
        exact(hb.alloc (by omega) _).grown hgrow (by simp;omega) (fun k e=>(World.ownsRow.lt hown k e).1)
       case measure=>simp [intOf];omega
theorem numL_app3 (z q:List UInt8) (h:q.length=3):numL (z++q)=1000*numL z+numL q:=by
 match q,h with
 | [a,b,c],_ =>
  rw [numL_three]
  simp only [numL,List.foldl_cons,List.foldl_nil]
  omega
theorem extract_lst (s:ByteArray) (i n:Nat):(s.extract i (i+n)).data.toList=(s.data.toList.drop i).take n:=by
 rw [Lib.extract_data,Nat.add_sub_cancel_left]
theorem fnum0 (s:ByteArray) (w:World) (h0:0<s.size) (hs:s.size≤100000) (hm:(((s[0]'h0).toNat:Int)==45)=false) :
  Calls Tryz.prog 242 #[.string s] w (gotPost (gotV (numTail 0 (1) s.data.toList)) w):=by
 have hb0:Below w.heap.size w (w.alloc zeroBare):=(Below.refl _ _).alloc (zR _) _
 have hbb:∀o:Obj,Below w.heap.size w ((w.alloc o).alloc zeroBare):=fun o=>((Below.refl _ _).alloc (zR _) o).alloc (by simp) _
 have cD:∀W,Calls Tryz.prog 249 #[.string s,.int .i64 0] W fun e w'=>e=.returned (.int .i64 ((ldig (s.data.toList.drop 0)).length:Int))∧W=w':=fun W=>fdigits_any s 0 W hs (by omega)
 have cV:=fun W n h1 h2=>fvalue_any (s.extract 0 (0+n)) W h1 h2
 have hex:∀n,(s.extract 0 (0+n)).data.toList=(s.data.toList.drop 0).take n:=extract_lst s 0
 have zall:=ldig_all (s.data.toList.drop 0)
 have zle:=ldig_len_le (s.data.toList.drop 0)
 rw [List.length_drop,← Lib.size_eq]at zle
 have ztk:(s.data.toList.drop 0).take (ldig (s.data.toList.drop 0)).length=ldig (s.data.toList.drop 0):=take_takeWhile _ _
 generalize hz:ldig (s.data.toList.drop 0)=z at cD zall zle ztk
 obtain⟨N,hN⟩:∃N,z.length=N:=⟨_,rfl⟩
 rw [hN]at cD zle ztk
 by_cases hA:N=0
 ·rw [numTail_none hz (.inl (by omega))]
  rw [hA]at cD
  clear hz zall zle hN hA cV hex ztk hb0
  go_enter Tryz.func242,Tryz.ntmps242
  go_wp2_with fail
  refine(cD _).mono ?_
  rintro e w1 ⟨rfl,rfl⟩
  go_wp2
  exact bodyPost_ret (v:=gotV none) (by simp [results,Tryz.results242,go_sem,gotV]) rfl ⟨rfl,hbb _⟩
 ·by_cases hB:15<N
  ·rw [numTail_none hz (.inr (by omega))]
   clear hz zall hN cV hex ztk hb0
   go_enter Tryz.func242,Tryz.ntmps242
   go_wp2_with fail
   refine(cD _).mono ?_
   rintro e w1 ⟨rfl,rfl⟩
   go_wp2
   exact bodyPost_ret (v:=gotV none) (by simp [results,Tryz.results242,go_sem,gotV]) rfl ⟨rfl,hbb _⟩
  ·have hN1:1≤N:=by omega
   have hN15:N≤15:=by omega
   clear hA hB
   have hXd:=hex N
   rw [ztk]at hXd
   have cV1:=fun W=>cV W N (by rw [Lib.size_eq,hXd];omega) (by rw [hXd];exact zall)
   rw [hXd]at cV1
   obtain⟨v0,v1⟩:=numL_in z zall (by omega)
   clear cV hXd ztk
   rw [Nat.zero_add]at cV1
   by_cases hE:N<s.size
   ·cases hd:(((s[N]'hE).toNat:Int)==46)
    ·have h3:(s.data.toList.drop (0+z.length)).head?≠some 46:=by
      rw [hN,Nat.zero_add,head_at s _ hE]
      intro e
      rw [Option.some.inj e]at hd
      exact absurd hd (by decide)
     rw [numTail_int hz (by omega) (by omega) h3,hN]
     have n46:(((s[N]'hE).toNat:Int) != 46)=true:=by rw [bne,hd]<;>rfl
     clear h3 hz zall hN hex hd
     generalize numL z=V at *
     go_enter Tryz.func242,Tryz.ntmps242
     go_wp2_with fail
     refine(cD _).mono ?_
     rintro e w1 ⟨rfl,rfl⟩
     go_wp2_with fail
     refine(cV1 _).mono ?_
     rintro e w1 ⟨rfl,rfl⟩
     go_wp2
     exact bodyPost_ret (v:=gotV (some ⟨1,1*V,[],0+N⟩)) (by simp [results,Tryz.results242,go_sem,gotV,strB]) rfl ⟨by first | rfl | rw [Int.neg_one_mul],((Below.refl _ _).alloc (zR _) _).alloc (by simp) _⟩
    ·have h3:(s.data.toList.drop (0+z.length)).head? = some 46:=by
      rw [hN,Nat.zero_add,head_at s _ hE]
      congr 1
      have:=byte_beq (s[N]'hE) 46
      rw [show((46:UInt8).toNat:Int)=46 from rfl,hd]at this
      simpa using this.symm
     have n46:(((s[N]'hE).toNat:Int) != 46)=false:=by rw [bne,hd]<;>rfl
     have cP:=fun W=>fdigits_any s (N+1) W hs (by omega)
     have pall:=ldig_all (s.data.toList.drop (N+1))
     have ple:=ldig_len_le (s.data.toList.drop (N+1))
     rw [List.length_drop,← Lib.size_eq]at ple
     have ptk:(s.data.toList.drop (N+1)).take (ldig (s.data.toList.drop (N+1))).length=ldig (s.data.toList.drop (N+1)):=take_takeWhile _ _
     generalize hp:ldig (s.data.toList.drop (N+1))=p at cP pall ple ptk
     have hp':ldig (s.data.toList.drop (0+z.length+1))=p:=by rw [hN,Nat.zero_add];exact hp
     obtain⟨M,hM⟩:∃M,p.length=M:=⟨_,rfl⟩
     rw [hM]at cP ple ptk
     have hpx:(s.extract (N+1) (N+1+M)).data.toList=p:=by rw [extract_lst,ptk]
     clear ptk hd
     by_cases d1:12<N
     ·rw [numTail_bad hz (by omega) (by omega) h3 hp' (.inl (by omega))]
      clear hz zall hN hex h3 hp hp' pall hM hpx
      generalize numL z=V at *
      go_enter Tryz.func242,Tryz.ntmps242
      go_wp2_with fail
      refine(cD _).mono ?_
      rintro e w1 ⟨rfl,rfl⟩
      go_wp2_with fail
      refine(cV1 _).mono ?_
      rintro e w1 ⟨rfl,rfl⟩
      go_wp2_with fail
      refine(cP _).mono ?_
      rintro e w1 ⟨rfl,rfl⟩
      go_wp2
      exact bodyPost_ret (v:=gotV none) (by simp [results,Tryz.results242,go_sem,gotV]) rfl ⟨rfl,hbb _⟩
     ·by_cases d2:M=0
      ·rw [numTail_bad hz (by omega) (by omega) h3 hp' (.inr (.inl (by omega)))]
       rw [d2]at cP
       clear hz zall hN hex h3 hp hp' pall hM hpx ple d2
       generalize numL z=V at *
       go_enter Tryz.func242,Tryz.ntmps242
       go_wp2_with fail
       refine(cD _).mono ?_
       rintro e w1 ⟨rfl,rfl⟩
       go_wp2_with fail
       refine(cV1 _).mono ?_
       rintro e w1 ⟨rfl,rfl⟩
       go_wp2_with fail
       refine(cP _).mono ?_
       rintro e w1 ⟨rfl,rfl⟩
       go_wp2
       exact bodyPost_ret (v:=gotV none) (by simp [results,Tryz.results242,go_sem,gotV]) rfl ⟨rfl,hbb _⟩
      ·by_cases d3:3<M
       ·rw [numTail_bad hz (by omega) (by omega) h3 hp' (.inr (.inr (by omega)))]
        clear hz zall hN hex h3 hp hp' pall hM hpx d2
        generalize numL z=V at *
        go_enter Tryz.func242,Tryz.ntmps242
        go_wp2_with fail
        refine(cD _).mono ?_
        rintro e w1 ⟨rfl,rfl⟩
        go_wp2_with fail
        refine(cV1 _).mono ?_
        rintro e w1 ⟨rfl,rfl⟩
        go_wp2_with fail
        refine(cP _).mono ?_
        rintro e w1 ⟨rfl,rfl⟩
        go_wp2
        exact bodyPost_ret (v:=gotV none) (by simp [results,Tryz.results242,go_sem,gotV]) rfl ⟨rfl,hbb _⟩
       ·rw [numTail_dec hz (by omega) (by omega) h3 hp' (by omega) (by omega),hN,hM]
        have hq3:((p++[48,48]).take 3).length=3:=by rw [List.length_take,List.length_append,hM];simp;omega
        rw [numL_app3 z _ hq3]
        have qall:((p++[48,48]).take 3).all (fun c=>digI c.toNat)=true:=pad_all p pall
        have hqd:((s.extract (N+1) (N+1+M)++(⟨#[48,48]⟩:ByteArray)).extract 0 3).data.toList=(p++[48,48]).take 3:=by rw [extract_take,append_data,hpx]
        have cQ:=fun W=>fvalue_any ((s.extract (N+1) (N+1+M)++(⟨#[48,48]⟩:ByteArray)).extract 0 3) W (by rw [Lib.size_eq,hqd];omega) (by rw [hqd];exact qall)
        rw [hqd]at cQ
        obtain⟨u0,u1⟩:=numL_bd ((p++[48,48]).take 3) 0 0 (by omega) (by decide) qall
        rw [hq3]at u1
        have z12:=numL_bd z 0 0 (by omega) (by decide) zall
        rw [hN]at z12
        have z13:numL z<1000000000000:=Int.lt_of_lt_of_le z12.2 (pow_mono (0+N) 12 (by omega))
        have u2:numL ((p++[48,48]).take 3)<1000:=u1
        have u3:0≤numL ((p++[48,48]).take 3):=u0
        have hps:(s.extract (N+1) (N+1+M)).size=M:=by rw [Lib.size_eq,hpx,hM]
        clear hz zall hN hex h3 hp hp' pall hM hpx hqd qall hq3 u0 u1 z12 hbb hb0
        generalize numL z=V at *
        generalize numL ((p++[48,48]).take 3)=U at *
        go_enter Tryz.func242,Tryz.ntmps242
        go_wp2_with fail
        refine(cD _).mono ?_
        rintro e w1 ⟨rfl,rfl⟩
        go_wp2_with fail
        refine(cV1 _).mono ?_
        rintro e w1 ⟨rfl,rfl⟩
        go_wp2_with fail
        refine(cP _).mono ?_
        rintro e w1 ⟨rfl,rfl⟩
        go_wp2_with fail
        refine(cQ _).mono ?_
        rintro e w1 ⟨rfl,rfl⟩
        go_wp2
        exact bodyPost_ret (v:=gotV (some ⟨2,1*(1000*V+U),[],0+N+1+M⟩)) (by simp [results,Tryz.results242,go_sem,gotV,strB]) rfl ⟨by first | rfl | rw [Int.neg_one_mul],((Below.refl _ _).alloc (zR _) _).alloc (by simp) _⟩
   ·have h3:(s.data.toList.drop (0+z.length)).head?≠some 46:=by
     rw [List.drop_of_length_le (by rw [← Lib.size_eq];omega)]
     simp
    rw [numTail_int hz (by omega) (by omega) h3,hN]
    clear h3 hz zall hN hex
    generalize numL z=V at *
    go_enter Tryz.func242,Tryz.ntmps242
    go_wp2_with fail
    refine(cD _).mono ?_
    rintro e w1 ⟨rfl,rfl⟩
    go_wp2_with fail
    refine(cV1 _).mono ?_
    rintro e w1 ⟨rfl,rfl⟩
    go_wp2
    exact bodyPost_ret (v:=gotV (some ⟨1,1*V,[],0+N⟩)) (by simp [results,Tryz.results242,go_sem,gotV,strB]) rfl ⟨by first | rfl | rw [Int.neg_one_mul],((Below.refl _ _).alloc (zR _) _).alloc (by simp) _⟩
theorem fnum1 (s:ByteArray) (w:World) (h0:0<s.size) (hs:s.size≤100000) (hm:(((s[0]'h0).toNat:Int)==45)=true) :
  Calls Tryz.prog 242 #[.string s] w (gotPost (gotV (numTail 1 (-1) s.data.toList)) w):=by
 have hb0:Below w.heap.size w (w.alloc zeroBare):=(Below.refl _ _).alloc (zR _) _
 have hbb:∀o:Obj,Below w.heap.size w ((w.alloc o).alloc zeroBare):=fun o=>((Below.refl _ _).alloc (zR _) o).alloc (by simp) _
 have cD:∀W,Calls Tryz.prog 249 #[.string s,.int .i64 1] W fun e w'=>e=.returned (.int .i64 ((ldig (s.data.toList.drop 1)).length:Int))∧W=w':=fun W=>fdigits_any s 1 W hs (by omega)
 have cV:=fun W n h1 h2=>fvalue_any (s.extract 1 (1+n)) W h1 h2
 have hex:∀n,(s.extract 1 (1+n)).data.toList=(s.data.toList.drop 1).take n:=extract_lst s 1
 have zall:=ldig_all (s.data.toList.drop 1)
 have zle:=ldig_len_le (s.data.toList.drop 1)
 rw [List.length_drop,← Lib.size_eq]at zle
 have ztk:(s.data.toList.drop 1).take (ldig (s.data.toList.drop 1)).length=ldig (s.data.toList.drop 1):=take_takeWhile _ _
 generalize hz:ldig (s.data.toList.drop 1)=z at cD zall zle ztk
 obtain⟨N,hN⟩:∃N,z.length=N:=⟨_,rfl⟩
 rw [hN]at cD zle ztk
 by_cases hA:N=0
 ·rw [numTail_none hz (.inl (by omega))]
  rw [hA]at cD
  clear hz zall zle hN hA cV hex ztk hb0
  go_enter Tryz.func242,Tryz.ntmps242
  go_wp2_with fail
  refine(cD _).mono ?_
  rintro e w1 ⟨rfl,rfl⟩
  go_wp2
  exact bodyPost_ret (v:=gotV none) (by simp [results,Tryz.results242,go_sem,gotV]) rfl ⟨rfl,hbb _⟩
 ·by_cases hB:15<N
  ·rw [numTail_none hz (.inr (by omega))]
   clear hz zall hN cV hex ztk hb0
   go_enter Tryz.func242,Tryz.ntmps242
   go_wp2_with fail
   refine(cD _).mono ?_
   rintro e w1 ⟨rfl,rfl⟩
   go_wp2
   exact bodyPost_ret (v:=gotV none) (by simp [results,Tryz.results242,go_sem,gotV]) rfl ⟨rfl,hbb _⟩
  ·have hN1:1≤N:=by omega
   have hN15:N≤15:=by omega
   clear hA hB
   have hXd:=hex N
   rw [ztk]at hXd
   have cV1:=fun W=>cV W N (by rw [Lib.size_eq,hXd];omega) (by rw [hXd];exact zall)
   rw [hXd]at cV1
   obtain⟨v0,v1⟩:=numL_in z zall (by omega)
   clear cV hXd ztk
   skip
   by_cases hE:(1+N)<s.size
   ·cases hd:(((s[(1+N)]'hE).toNat:Int)==46)
    ·have h3:(s.data.toList.drop (1+z.length)).head?≠some 46:=by
      rw [hN,head_at s _ hE]
      intro e
      rw [Option.some.inj e]at hd
      exact absurd hd (by decide)
     rw [numTail_int hz (by omega) (by omega) h3,hN]
     have n46:(((s[(1+N)]'hE).toNat:Int) != 46)=true:=by rw [bne,hd]<;>rfl
     clear h3 hz zall hN hex hd
     generalize numL z=V at *
     go_enter Tryz.func242,Tryz.ntmps242
     go_wp2_with fail
     refine(cD _).mono ?_
     rintro e w1 ⟨rfl,rfl⟩
     go_wp2_with fail
     refine(cV1 _).mono ?_
     rintro e w1 ⟨rfl,rfl⟩
     go_wp2
     exact bodyPost_ret (v:=gotV (some ⟨1,-1*V,[],1+N⟩)) (by simp [results,Tryz.results242,go_sem,gotV,strB]) rfl ⟨by first | rfl | rw [Int.neg_one_mul],((Below.refl _ _).alloc (zR _) _).alloc (by simp) _⟩
    ·have h3:(s.data.toList.drop (1+z.length)).head? = some 46:=by
      rw [hN,head_at s _ hE]
      congr 1
      have:=byte_beq (s[(1+N)]'hE) 46
      rw [show((46:UInt8).toNat:Int)=46 from rfl,hd]at this
      simpa using this.symm
     have n46:(((s[(1+N)]'hE).toNat:Int) != 46)=false:=by rw [bne,hd]<;>rfl
     have cP:=fun W=>fdigits_any s ((1+N)+1) W hs (by omega)
     have pall:=ldig_all (s.data.toList.drop ((1+N)+1))
     have ple:=ldig_len_le (s.data.toList.drop ((1+N)+1))
     rw [List.length_drop,← Lib.size_eq]at ple
     have ptk:(s.data.toList.drop ((1+N)+1)).take (ldig (s.data.toList.drop ((1+N)+1))).length=ldig (s.data.toList.drop ((1+N)+1)):=take_takeWhile _ _
     generalize hp:ldig (s.data.toList.drop ((1+N)+1))=p at cP pall ple ptk
     have hp':ldig (s.data.toList.drop (1+z.length+1))=p:=by rw [hN];exact hp
     obtain⟨M,hM⟩:∃M,p.length=M:=⟨_,rfl⟩
     rw [hM]at cP ple ptk
     have hpx:(s.extract ((1+N)+1) ((1+N)+1+M)).data.toList=p:=by rw [extract_lst,ptk]
     clear ptk hd
     by_cases d1:12<N
     ·rw [numTail_bad hz (by omega) (by omega) h3 hp' (.inl (by omega))]
      clear hz zall hN hex h3 hp hp' pall hM hpx
      generalize numL z=V at *
      go_enter Tryz.func242,Tryz.ntmps242
      go_wp2_with fail
      refine(cD _).mono ?_
      rintro e w1 ⟨rfl,rfl⟩
      go_wp2_with fail
      refine(cV1 _).mono ?_
      rintro e w1 ⟨rfl,rfl⟩
      go_wp2_with fail
      refine(cP _).mono ?_
      rintro e w1 ⟨rfl,rfl⟩
      go_wp2
      exact bodyPost_ret (v:=gotV none) (by simp [results,Tryz.results242,go_sem,gotV]) rfl ⟨rfl,hbb _⟩
     ·by_cases d2:M=0
      ·rw [numTail_bad hz (by omega) (by omega) h3 hp' (.inr (.inl (by omega)))]
       rw [d2]at cP
       clear hz zall hN hex h3 hp hp' pall hM hpx ple d2
       generalize numL z=V at *
       go_enter Tryz.func242,Tryz.ntmps242
       go_wp2_with fail
       refine(cD _).mono ?_
       rintro e w1 ⟨rfl,rfl⟩
       go_wp2_with fail
       refine(cV1 _).mono ?_
       rintro e w1 ⟨rfl,rfl⟩
       go_wp2_with fail
       refine(cP _).mono ?_
       rintro e w1 ⟨rfl,rfl⟩
       go_wp2
       exact bodyPost_ret (v:=gotV none) (by simp [results,Tryz.results242,go_sem,gotV]) rfl ⟨rfl,hbb _⟩
      ·by_cases d3:3<M
       ·rw [numTail_bad hz (by omega) (by omega) h3 hp' (.inr (.inr (by omega)))]
        clear hz zall hN hex h3 hp hp' pall hM hpx d2
        generalize numL z=V at *
        go_enter Tryz.func242,Tryz.ntmps242
        go_wp2_with fail
        refine(cD _).mono ?_
        rintro e w1 ⟨rfl,rfl⟩
        go_wp2_with fail
        refine(cV1 _).mono ?_
        rintro e w1 ⟨rfl,rfl⟩
        go_wp2_with fail
        refine(cP _).mono ?_
        rintro e w1 ⟨rfl,rfl⟩
        go_wp2
        exact bodyPost_ret (v:=gotV none) (by simp [results,Tryz.results242,go_sem,gotV]) rfl ⟨rfl,hbb _⟩
       ·rw [numTail_dec hz (by omega) (by omega) h3 hp' (by omega) (by omega),hN,hM]
        have hq3:((p++[48,48]).take 3).length=3:=by rw [List.length_take,List.length_append,hM];simp;omega
        rw [numL_app3 z _ hq3]
        have qall:((p++[48,48]).take 3).all (fun c=>digI c.toNat)=true:=pad_all p pall
        have hqd:((s.extract ((1+N)+1) ((1+N)+1+M)++(⟨#[48,48]⟩:ByteArray)).extract 0 3).data.toList=(p++[48,48]).take 3:=by rw [extract_take,append_data,hpx]
        have cQ:=fun W=>fvalue_any ((s.extract ((1+N)+1) ((1+N)+1+M)++(⟨#[48,48]⟩:ByteArray)).extract 0 3) W (by rw [Lib.size_eq,hqd];omega) (by rw [hqd];exact qall)
        rw [hqd]at cQ
        obtain⟨u0,u1⟩:=numL_bd ((p++[48,48]).take 3) 0 0 (by omega) (by decide) qall
        rw [hq3]at u1
        have z12:=numL_bd z 0 0 (by omega) (by decide) zall
        rw [hN]at z12
        have z13:numL z<1000000000000:=Int.lt_of_lt_of_le z12.2 (pow_mono (0+N) 12 (by omega))
        have u2:numL ((p++[48,48]).take 3)<1000:=u1
        have u3:0≤numL ((p++[48,48]).take 3):=u0
        have hps:(s.extract ((1+N)+1) ((1+N)+1+M)).size=M:=by rw [Lib.size_eq,hpx,hM]
        clear hz zall hN hex h3 hp hp' pall hM hpx hqd qall hq3 u0 u1 z12 hbb hb0
        generalize numL z=V at *
        generalize numL ((p++[48,48]).take 3)=U at *
        go_enter Tryz.func242,Tryz.ntmps242
        go_wp2_with fail
        refine(cD _).mono ?_
        rintro e w1 ⟨rfl,rfl⟩
        go_wp2_with fail
        refine(cV1 _).mono ?_
        rintro e w1 ⟨rfl,rfl⟩
        go_wp2_with fail
        refine(cP _).mono ?_
        rintro e w1 ⟨rfl,rfl⟩
        go_wp2_with fail
        refine(cQ _).mono ?_
        rintro e w1 ⟨rfl,rfl⟩
        go_wp2
        exact bodyPost_ret (v:=gotV (some ⟨2,-1*(1000*V+U),[],1+N+1+M⟩)) (by simp [results,Tryz.results242,go_sem,gotV,strB]) rfl ⟨by first | rfl | rw [Int.neg_one_mul],((Below.refl _ _).alloc (zR _) _).alloc (by simp) _⟩
   ·have h3:(s.data.toList.drop (1+z.length)).head?≠some 46:=by
     rw [List.drop_of_length_le (by rw [← Lib.size_eq];omega)]
     simp
    rw [numTail_int hz (by omega) (by omega) h3,hN]
    clear h3 hz zall hN hex
    generalize numL z=V at *
    go_enter Tryz.func242,Tryz.ntmps242
    go_wp2_with fail
    refine(cD _).mono ?_
    rintro e w1 ⟨rfl,rfl⟩
    go_wp2_with fail
    refine(cV1 _).mono ?_
    rintro e w1 ⟨rfl,rfl⟩
    go_wp2
    exact bodyPost_ret (v:=gotV (some ⟨1,-1*V,[],1+N⟩)) (by simp [results,Tryz.results242,go_sem,gotV,strB]) rfl ⟨by first | rfl | rw [Int.neg_one_mul],((Below.refl _ _).alloc (zR _) _).alloc (by simp) _⟩
theorem freadNumber_any (s:ByteArray) (w:World) (h0:0<s.size) (hs:s.size≤100000) :
  Calls Tryz.prog 242 #[.string s] w (gotPost (gotV (readNumL s.data.toList)) w):=by
 have hh:s.data.toList.head? = some (s[0]'h0):=by have:=head_at s 0 h0;rwa [List.drop_zero]at this
 have hb:(((s[0]'h0).toNat:Int)==45)=(s[0]'h0==45):=byte_beq _ 45
 cases hm:(((s[0]'h0).toNat:Int)==45)
 ·have hr:readNumL s.data.toList=numTail 0 1 s.data.toList:=by
   rw [hm]at hb
   have:¬s[0]'h0=45:=by simpa using hb.symm
   rw [readNumL,hh,if_neg (by simpa using this)]
  rw [hr]
  exact fnum0 s w h0 hs hm
 ·have hr:readNumL s.data.toList=numTail 1 (-1) s.data.toList:=by
   rw [hm]at hb
   have:s[0]'h0=45:=by simpa using hb.symm
   rw [readNumL,hh,if_pos (by rw [this])]
  rw [hr]
  exact fnum1 s w h0 hs hm
theorem no_cells3 (w:World) (o:Obj) (w1:World) (hb:Below ((w.alloc zeroBare).alloc o).heap.size ((w.alloc zeroBare).alloc o) w1):(w1.cell? ⟨w.heap.size,0,none⟩=some (.int .i64 0)∧w1.cell? ⟨w.heap.size,1,none⟩=some (.int .i64 0)∧w1.cell? ⟨w.heap.size,2,none⟩=some (.string ⟨#[]⟩))∧(w1.frozen? ⟨w.heap.size,0,none⟩=false∧w1.frozen? ⟨w.heap.size,1,none⟩=false∧w1.frozen? ⟨w.heap.size,2,none⟩=false):=by
 have h1:Below (w.alloc zeroBare).heap.size (w.alloc zeroBare) ((w.alloc zeroBare).alloc o):=(Below.refl _ _).alloc (zR _) _
 exact no_cells w w1 (h1.trans (hb.mono h1.size))
theorem none_cells (w w1:World) (hb:Below ((w.alloc zeroBare).alloc zeroBare).heap.size ((w.alloc zeroBare).alloc zeroBare) w1):w1.cell? ⟨w.heap.size+1,0,none⟩=some (.int .i64 0)∧w1.cell? ⟨w.heap.size+1,1,none⟩=some (.int .i64 0)∧w1.cell? ⟨w.heap.size+1,2,none⟩=some (.string ⟨#[]⟩):=by
 have:=no_cells (w.alloc zeroBare) w1 hb
 simpa using this.1
theorem indexByte_drop (l:List UInt8) (k:Nat) (hk:1≤k) (hno:∀j,1≤j→j<k→l[j]?≠some 58) (h:l[k]? = some 58):Lib.indexByte (l.drop 1) 58=((k-1:Nat):Int):=by
 have hl:k<l.length:=(List.getElem?_eq_some_iff.1 h).1
 have e:l.drop 1=(l.drop 1).take (k-1)++58 :: (l.drop 1).drop (k-1+1):=by
  have h2:(l.drop 1).drop (k-1)=58 :: (l.drop 1).drop (k-1+1):=by
   rw [List.drop_drop,List.drop_drop,show 1+(k-1)=k by omega,show 1+(k-1+1)=k+1 by omega,List.drop_eq_getElem_cons hl]
   congr 1
   have:=List.getElem?_eq_getElem hl
   rw [this]at h
   exact Option.some.inj h
  rw [← h2,List.take_append_drop]
 have hlen:((l.drop 1).take (k-1)).length=k-1:=by rw [List.length_take,List.length_drop];omega
 rw [e,indexByte_at 58 _ _ (fun x hx=>?_),hlen]
 intro ex
 subst ex
 obtain⟨j,hj,hx2⟩:=List.mem_iff_getElem.1 hx
 rw [hlen]at hj
 rw [List.getElem_take,List.getElem_drop]at hx2
 refine hno (1+j) (by omega) (by omega) ?_
 rw [List.getElem?_eq_getElem (by omega),hx2]
theorem indexByte_no (l:List UInt8) (hno:∀j,1≤j→j<l.length→l[j]?≠some 58):Lib.indexByte (l.drop 1) 58=-1:=by
 by_cases h:Lib.indexByte (l.drop 1) 58=-1
 ·exact h
 ·exfalso
  obtain⟨h0,h1⟩:=index_le _ _ h
  obtain⟨o,ho⟩:=Int.eq_ofNat_of_zero_le h0
  obtain⟨h3,_⟩:=Lib.indexByte_some (l:=l.drop 1) (c:=58) (o:=o) ho
  rw [ho,Int.toNat_natCast,List.length_drop]at h1
  rw [List.getElem?_drop]at h3
  exact hno (1+o) (by omega) (by omega) h3
theorem tlen_scan (s:ByteArray) (k:Nat) (h0:0<s.size) (hb:btI (s[0]'h0).toNat=true) (hk:1≤k) (hks:k≤s.size) (hall:∀j (hj:j<s.size),1≤j→j<k→ttI (s[j]'hj).toNat=true) (hend:∀hlt:k<s.size,ttI (s[k]'hlt).toNat=false):tlen s.data.toList=k:=by
 have e0:=drop_cons_at s 0 h0
 rw [List.drop_zero]at e0
 have hr:(s.data.toList.drop 1).takeWhile (fun c=>ttI c.toNat)=(s.data.toList.drop 1).take (k-1):=by
  have hsplit:s.data.toList.drop 1=(s.data.toList.drop 1).take (k-1)++s.data.toList.drop k:=by
   conv=>lhs;rw [← List.take_append_drop (k-1) (s.data.toList.drop 1)]
   rw [List.drop_drop,show 1+(k-1)=k by omega]
  have hta:((s.data.toList.drop 1).take (k-1)).all (fun c=>ttI c.toNat)=true:=by
   rw [List.all_eq_true]
   intro x hx
   obtain⟨j,hj,rfl⟩:=List.mem_iff_getElem.1 hx
   rw [List.length_take,List.length_drop]at hj
   rw [List.getElem_take,List.getElem_drop]
   exact hall (1+j) (by rw [Lib.size_eq];omega) (by omega) (by omega)
  conv=>lhs;rw [hsplit]
  rw [takeWhile_all _ _ _ hta]
  have:(s.data.toList.drop k).takeWhile (fun c=>ttI c.toNat)=[]:=by
   by_cases hlt:k<s.size
   ·rw [drop_cons_at s k hlt,List.takeWhile_cons,hend hlt]<;>rfl
   ·rw [List.drop_of_length_le (by rw [← Lib.size_eq];omega)]<;>rfl
  rw [this,List.append_nil]
 rw [e0,tlen,if_pos hb,show(0+1)=1 from rfl,hr,List.length_take,List.length_drop,← Lib.size_eq]
 omega
end Go.Proofs.YtfaedmbfabfmeaaGreatDoor
