/- The contracts of bare.decimalText and bare.stringText. · The contract of bare.Print. · Plain facts about bare items: digits, base64 there and back. No program is walked. · Plain facts about bare items: what is read may be, and lies within the text. No program is walked. · The contracts of item's functions on one byte and on keys: beginsKey, inKey, keyLength, Key, ReadKey, unspoken. · The parser's place in memory, and the contract of its take. -/
import Derived.Test.YtfaedmbfabfmeaaGreatDoorZMRawP
import Derived.Test.YtfaedmbfabfmeaaGreatDoorZPowP
import Derived.Test.YtfaedmbfabfmeaaGreatDoorZMBarC
import Derived.Lib.AppendIntMem
import Derived.Lib.ItoaNum
import Derived.Lib.TrimByte
import Derived.Laws.OwnMore
import Derived.Deep.QuietTactic
import Derived.BigQuiet
import Derived.IntWalk
set_option linter.unusedSimpArgs false
set_option linter.unusedVariables false
set_option maxRecDepth 100000
set_option maxHeartbeats 1000000
namespace Go.Proofs.YtfaedmbfabfmeaaGreatDoor
open Go.RowKit
def decN (n:Nat):List UInt8:=Lib.decDigits (n / 1000)++(46 :: UInt8.ofNat (48+n % 1000 / 100) :: Lib.trimRightB [UInt8.ofNat (48+n % 1000 / 10 % 10),UInt8.ofNat (48+n % 1000 % 10)] 48)
def decT (n:Int):List UInt8:=if n<0 then 45 :: decN n.natAbs else decN n.natAbs
theorem encL_len:∀l:List UInt8,(encL l).length=(l.length+2) / 3*4
 | []=>rfl
 | [_]=>by simp [encL]
 | [_,_]=>by simp [encL]
 | x :: y :: z :: r=>by
  have:=encL_len r
  simp only [encL,List.length_cons,this]
  omega
def escL:List UInt8→List UInt8
 | []=>[]
 | c :: r=>if escI c.toNat then 92 :: c :: escL r else c :: escL r
def strT (l:List UInt8):List UInt8:=34 :: (escL l++[34])
def textL (k n:Int) (s:List UInt8):List UInt8:=
 if k=1 then Lib.itoa n else if k=2 then decT n else if k=3 then strT s else if k=4 then s else if k=5 then 58 :: (encL s++[58])else 63 :: Lib.itoa n
end Go.Proofs.YtfaedmbfabfmeaaGreatDoor
namespace Go.Proofs.YtfaedmbfabfmeaaGreatDoor
theorem z0:(0:UInt8).toNat=0:=rfl
theorem decL_some (s d:List UInt8) (h:decL s=some d):encL d=s:=by
 unfold decL at h
 split at h
 ·rename_i e
  rw [← Option.some.inj h];exact e
 ·cases h
theorem numTail_right (b:Nat) (sg:Int) (l:List UInt8) (g:Got) (hb:(b=0∧sg=1)∨(b=1∧sg=-1)) (hl:b≤l.length) (h:numTail b sg l=some g) :
  rightL g.k g.n g.s=true∧1≤g.m∧g.m≤l.length∧g.s=[]:=by
 have za:=ldig_all (l.drop b)
 have zl:=ldig_len_le (l.drop b)
 rw [List.length_drop]at zl
 unfold numTail at h
 generalize ldig (l.drop b)=z at *
 split at h
 ·cases h
 ·rename_i hz
  split at h
  ·have pa:=ldig_all (l.drop (b+z.length+1))
   have pl:=ldig_len_le (l.drop (b+z.length+1))
   rw [List.length_drop]at pl
   generalize ldig (l.drop (b+z.length+1))=p at *
   split at h
   ·cases h
   ·rename_i hp
    obtain rfl:=Option.some.inj h
    obtain⟨n0,n1⟩:=numL_in (z++(p++[48,48]).take 3) (by rw [List.all_append,za,pad_all p pa]<;>rfl) (by rw [List.length_append,List.length_take];omega)
    obtain⟨s0,s1⟩:=i64_mul_sign b sg _ hb n0 n1
    refine⟨?_,?_,?_,rfl⟩
    ·rw [right_num _ _ _ (.inr rfl),inNum]
     simp [s0,s1]
    ·show 1≤_+1+p.length
     omega
    ·show _+1+p.length≤l.length
     omega
  ·obtain rfl:=Option.some.inj h
   obtain⟨n0,n1⟩:=numL_in z za (by omega)
   obtain⟨s0,s1⟩:=i64_mul_sign b sg _ hb n0 n1
   refine⟨?_,?_,?_,rfl⟩
   ·rw [right_num _ _ _ (.inl rfl),inNum]
    simp [s0,s1]
   ·show 1≤b+z.length
    omega
   ·show b+z.length≤l.length
    omega
theorem readNumL_right (l:List UInt8) (g:Got) (h:readNumL l=some g):rightL g.k g.n g.s=true∧1≤g.m∧g.m≤l.length∧g.s=[]:=by
 unfold readNumL at h
 split at h
 ·rename_i hh
  exact numTail_right 1 (-1) l g (.inr ⟨rfl,rfl⟩) (by cases l with | nil=>simp at hh | cons c r=>simp) h
 ·exact numTail_right 0 1 l g (.inl ⟨rfl,rfl⟩) (Nat.zero_le _) h
theorem esc_pr (c:UInt8) (h:escI c.toNat=true):prI c.toNat=true:=by
 have:=all_bytes (fun c=>!escI c.toNat||prI c.toNat) (by decide +kernel) c
 rw [h]at this
 exact this
theorem prL_snoc (acc:List UInt8) (c:UInt8) (h1:prL acc=true) (h2:prI c.toNat=true):prL (acc++[c])=true:=by
 rw [prL]at *
 rw [List.all_append,h1,Bool.true_and,List.all_cons,h2]<;>rfl
theorem rsL_right:∀(l acc:List UInt8) (m:Nat) (g:Got),prL acc=true→rsL l acc m=some g→g.k=3∧g.n=0∧prL g.s=true∧m+1≤g.m∧g.m≤m+l.length∧g.s.length≤acc.length+l.length
 | [],_,_,_,_,h=>by rw [rsL.eq_def]at h;cases h
 | [c],acc,m,g,ha,h=>by
  by_cases h1:c=34
  ·subst h1
   rw [rsL_quote]at h
   obtain rfl:=Option.some.inj h
   exact⟨rfl,rfl,ha,zR _,by simp,by simp⟩
  ·by_cases h2:c=92
   ·subst h2
    rw [rsL_esc_end]at h;cases h
   ·rw [rsL_other _ _ _ _ h1 h2]at h
    split at h
    ·rw [rsL.eq_def]at h;cases h
    ·cases h
 | c :: d :: q,acc,m,g,ha,h=>by
  by_cases h1:c=34
  ·subst h1
   rw [rsL_quote]at h
   obtain rfl:=Option.some.inj h
   exact⟨rfl,rfl,ha,zR _,by simp,by simp⟩
  ·by_cases h2:c=92
   ·subst h2
    rw [rsL_esc]at h
    split at h
    ·rename_i he
     obtain⟨r1,r2,r3,r4,r5,r6⟩:=rsL_right q (acc++[d]) (m+2) g (prL_snoc acc d ha (esc_pr d he)) h
     simp only [List.length_append,List.length_cons,List.length_nil]at r6 ⊢
     exact⟨r1,r2,r3,by omega,by omega,by omega⟩
    ·cases h
   ·rw [rsL_other _ _ _ _ h1 h2]at h
    split at h
    ·rename_i he
     obtain⟨r1,r2,r3,r4,r5,r6⟩:=rsL_right (d :: q) (acc++[c]) (m+1) g (prL_snoc acc c ha he) h
     simp only [List.length_append,List.length_cons,List.length_nil]at r5 r6 ⊢
     exact⟨r1,r2,r3,by omega,by omega,by omega⟩
    ·cases h
theorem takeWhile_again (p:UInt8→Bool):∀l:List UInt8,(l.takeWhile p).takeWhile p=l.takeWhile p
 | []=>rfl
 | c :: l=>by
  rw [List.takeWhile_cons]
  split
  ·rename_i h
   rw [List.takeWhile_cons,h,takeWhile_again p l]<;>rfl
  ·rfl
theorem tok_right (c:UInt8) (r:List UInt8) (h:btI c.toNat=true):rightL 4 0 ((c :: r).take (tlen (c :: r)))=true∧1≤tlen (c :: r):=by
 have e:tlen (c :: r)=(r.takeWhile (fun c=>ttI c.toNat)).length+1:=by rw [tlen,if_pos h];omega
 rw [e,List.take_succ_cons,take_takeWhile,right_tok]
 have e2:tlen (c :: r.takeWhile (fun c=>ttI c.toNat))=(r.takeWhile (fun c=>ttI c.toNat)).length+1:=by rw [tlen,if_pos h,takeWhile_again];omega
 rw [e2]
 simp
theorem readL_right (l:List UInt8) (g:Got) (h:readL l=some g):rightL g.k g.n g.s=true∧1≤g.m∧g.m≤l.length∧g.s.length≤l.length:=by
 cases l with
 | nil=>cases h
 | cons c r =>
  unfold readL at h
  dsimp only at h
  split at h
  ·obtain⟨h1,h2,h3,h4⟩:=readNumL_right _ g h
   exact⟨h1,h2,h3,by rw [h4];simp⟩
  ·split at h
   ·rw [readStrL,List.drop_one,List.tail_cons]at h
    obtain⟨r1,r2,r3,r4,r5,r6⟩:=rsL_right r [] 1 g rfl h
    simp only [List.length_cons,List.length_nil]at r6 ⊢
    exact⟨by rw [r1,r2,right_str,r3]<;>rfl,by omega,by omega,by omega⟩
   ·split at h
    ·rename_i hb
     obtain rfl:=Option.some.inj h
     obtain⟨h1,h2⟩:=tok_right c r hb
     have h3:=tlen_le (c :: r)
     refine⟨h1,h2,h3,?_⟩
     show((c :: r).take _).length≤_
     rw [List.length_take];omega
    ·split at h
     ·unfold readBytesL at h
      rw [List.drop_one,List.tail_cons]at h
      split at h
      ·cases h
      ·rename_i hi
       obtain⟨i0,i1⟩:=index_le _ _ hi
       split at h
       ·cases h
       ·rename_i b hb
        obtain rfl:=Option.some.inj h
        have e:=congrArg List.length (decL_some _ _ hb)
        rw [encL_len,List.length_take]at e
        refine⟨by rw [right_bytes]<;>rfl,?_,?_,?_⟩
        ·show 1≤_+2
         omega
        ·show _+2≤_
         simp only [List.length_cons];omega
        ·show b.length≤_
         simp only [List.length_cons];omega
     ·split at h
      ·unfold readBoolL at h
       split at h
       ·rename_i c d q he
        split at h
        ·rename_i hd
         obtain rfl:=Option.some.inj h
         rw [List.cons.injEq]at he
         obtain⟨_,rfl⟩:=he
         simp only [Bool.or_eq_true,beq_iff_eq]at hd
         refine⟨?_,by simp,by simp,by simp⟩
         rw [right_bool]
         rcases hd with rfl | rfl<;>decide
        ·cases h
       ·cases h
      ·cases h
end Go.Proofs.YtfaedmbfabfmeaaGreatDoor
namespace Go.Proofs.YtfaedmbfabfmeaaGreatDoor
open Go.RowKit
def bkI (c:Int):Bool:=(decide (97≤c)&&decide (c≤122))||c==42
def ikI (c:Int):Bool:=bkI c||digI c||c==95||c==45||c==46
theorem beginsKey_any (c : Int) (w : World) :
    Calls Tryz.prog 197 #[.int .u8 c] w fun e w' => e = .returned (.bool (bkI c)) ∧ w = w' := by
  have hd : bkI c = ((decide (97 ≤ c) && decide (c ≤ 122)) || c == 42) := rfl
  cases h1 : decide (97 ≤ c) <;> cases h2 : decide (c ≤ 122) <;> cases h3 : (c == 42)
  all_goals
    first
    | (exfalso; simp only [decide_eq_true_eq, decide_eq_false_iff_not, beq_iff_eq] at h1 h2 h3; omega)
    | (rw [h1, h2, h3] at hd
       simp only [Bool.and_true, Bool.and_false, Bool.or_true, Bool.or_false] at hd
       rw [hd]
       clear hd
       go_enter Tryz.func197, Tryz.ntmps197
       go_wp2
       go_ret
       exact ⟨rfl, rfl⟩)
theorem inKey_any (c : Int) (w : World) :
    Calls Tryz.prog 198 #[.int .u8 c] w fun e w' => e = .returned (.bool (ikI c)) ∧ w = w' := by
  have cB := beginsKey_any c w
  have hd : ikI c = (bkI c || (decide (48 ≤ c) && decide (c ≤ 57)) || c == 95 || c == 45 || c == 46) := rfl
  rw [hd]
  clear hd
  generalize bkI c = b at *
  cases b
  · cases h1 : decide (48 ≤ c) <;> cases h2 : decide (c ≤ 57) <;> cases h3 : (c == 95) <;> cases h4 : (c == 45) <;> cases h5 : (c == 46)
    all_goals
      first
      | (exfalso; simp only [decide_eq_true_eq, decide_eq_false_iff_not, beq_iff_eq] at h1 h2 h3 h4 h5; omega)
      | (go_enter Tryz.func198, Tryz.ntmps198
         go_wp2_with (go_at_call 197; refine cB.mono ?_; rintro e w' ⟨rfl, rfl⟩)
         go_ret
         exact ⟨rfl, rfl⟩)
  · go_enter Tryz.func198, Tryz.ntmps198
    go_wp2_with (go_at_call 197; refine cB.mono ?_; rintro e w' ⟨rfl, rfl⟩)
    go_ret
    exact ⟨by simp, rfl⟩
def klen:List UInt8→Nat
 | []=>0
 | c :: r=>if bkI c.toNat then 1+(r.takeWhile (fun c=>ikI c.toNat)).length else 0
theorem klen_le (l:List UInt8):klen l≤l.length:=by
 cases l with
 | nil=>exact zR _
 | cons c r =>
  unfold klen
  have:=takeWhile_len_le (fun c=>ikI c.toNat) r
  simp only [List.length_cons]
  split<;>omega
theorem keyLength_any (s:ByteArray) (w:World) (hs:s.size≤maxLen) :
  Calls Tryz.prog 163 #[.string s] w fun e w'=>e=.returned (.int .i64 (klen s.data.toList:Int))∧w=w':=by
 unfold maxLen at hs
 by_cases h0:0<s.size
 ·have hemp:s.toList.isEmpty=false:=by rw [Lib.toList_data];exact isEmpty_false_of s h0
  have cB:=beginsKey_any ((s[0]'h0).toNat:Int) w
  have Hdr:=zH (drop_cons_at s 0 h0)
  cases hb:bkI ((s[0]'h0).toNat:Int)
  ·have Hz:Hid (klen s.data.toList=0):=zH (by
    have:=Hdr.out
    rw [List.drop_zero]at this
    rw [this,klen,hb]<;>rfl)
   rw [hb]at cB
   clear hb
   go_enter Tryz.func163,Tryz.ntmps163
   go_wp2_with (go_at_call 197;refine cB.mono ?_;rintro e w' ⟨rfl,rfl⟩)
   go_ret
   exact⟨ret_eq (int_eq (by rw [Hz.out]<;>rfl)),rfl⟩
  ·have Hz:Hid (klen s.data.toList=1+((s.data.toList.drop 1).takeWhile (fun c=>ikI c.toNat)).length):=zH (by
    have:=Hdr.out
    rw [List.drop_zero]at this
    rw [this,klen,hb]<;>rfl)
   rw [hb]at cB
   clear hb Hdr
   go_enter Tryz.func163,Tryz.ntmps163
   go_wp2_with (go_at_call 197;refine cB.mono ?_;rintro e w' ⟨rfl,rfl⟩)
   go_loop [3] (fun i=>∃k:Nat,1≤k∧k≤s.size∧i=.int .i64 k∧Hid (klen s.data.toList=k+((s.data.toList.drop k).takeWhile (fun c=>ikI c.toNat)).length)) (fun i=>s.size-(intOf i).toNat)
   case atStart=>exact⟨1,by omega,by omega,rfl,Hz⟩
   case round =>
    clear Hz cB
    obtain⟨k,hk1,hk,rfl,H⟩:=hrel
    by_cases hlt:k<s.size
    ·have Hdr:=zH (drop_cons_at s k hlt)
     have cT:=inKey_any ((s[k]'hlt).toNat:Int) w
     cases hd:ikI (s[k].toNat:Int)
     ·have Hf:=zH hd
      rw [hd]at cT
      clear hd
      go_wp2_with (go_at_call 198;refine cT.mono ?_;rintro e w' ⟨rfl,rfl⟩)
      go_ret
      exact⟨ret_eq (int_eq (by rw [H.out,Hdr.out,List.takeWhile_cons,Hf.out];simp)),rfl⟩
     ·have Hf:=zH hd
      rw [hd]at cT
      clear hd
      go_wp2_with (go_at_call 198;refine cT.mono ?_;rintro e w' ⟨rfl,rfl⟩)
      go_round
      case rel=>exact⟨k+1,by omega,by omega,by go_num,zH (by rw [H.out,Hdr.out,List.takeWhile_cons,Hf.out];simp;omega)⟩
      case measure=>simp [intOf];omega
    ·have Hd:Hid (s.data.toList.drop k=[]):=zH (List.drop_of_length_le (by rw [← Lib.size_eq];omega))
     go_wp2
     go_ret
     exact⟨ret_eq (int_eq (by rw [H.out,Hd.out];simp)),rfl⟩
 ·have he:s.data.toList=[]:=List.eq_nil_of_length_eq_zero (by rw [← Lib.size_eq];omega)
  have hemp:s.toList.isEmpty=true:=by rw [Lib.toList_data,he]<;>rfl
  have Hz:Hid (klen s.data.toList=0):=zH (by rw [he]<;>rfl)
  clear he
  go_enter Tryz.func163,Tryz.ntmps163
  go_wp2
  go_ret
  exact⟨ret_eq (int_eq (by rw [Hz.out]<;>rfl)),rfl⟩
def keyL (l:List UInt8):Bool:=!l.isEmpty&&klen l==l.length
def rkV (l:List UInt8):Value:=if klen l=0 then .tuple #[.string ⟨#[]⟩,.int .i64 0,.int .i64 2]else .tuple #[.string (strB (l.take (klen l))),.int .i64 (klen l:Int),.int .i64 0]
def rkPost (v:Value) (w:World) (e:Ending) (w':World):Prop:=e=.returned v∧w=w'
theorem readKey_any (s:ByteArray) (w:World) (hs:s.size≤maxLen) :
  Calls Tryz.prog 128 #[.string s] w (rkPost (rkV s.data.toList) w):=by
 have cK:=fun W=>keyLength_any s W hs
 unfold maxLen at hs
 have hn:=klen_le s.data.toList
 rw [← Lib.size_eq]at hn
 by_cases h0:klen s.data.toList=0
 ·rw [rkV,if_pos h0]
  rw [h0]at cK
  clear h0 hn
  go_enter Tryz.func128,Tryz.ntmps128
  go_wp2_with (go_at_call 163;refine(cK _).mono ?_;rintro e w' ⟨rfl,rfl⟩)
  exact bodyPost_ret (v:=.tuple #[.string ⟨#[]⟩,.int .i64 0,.int .i64 2]) (by simp [results,Tryz.results128,go_sem]) rfl ⟨rfl,rfl⟩
 ·have hx:strB (s.data.toList.take (klen s.data.toList))=s.extract 0 (klen s.data.toList):=by rw [← extract_take,strB_of]
  rw [rkV,if_neg h0,hx]
  clear hx
  generalize klen s.data.toList=n at *
  have hne:((n:Int)==0)=false:=by simpa using h0
  go_enter Tryz.func128,Tryz.ntmps128
  go_wp2_with (go_at_call 163;refine(cK _).mono ?_;rintro e w' ⟨rfl,rfl⟩)
  exact bodyPost_ret (v:=.tuple #[.string (s.extract 0 n),.int .i64 (n:Int),.int .i64 0]) (by simp [results,Tryz.results128,go_sem]) rfl ⟨rfl,rfl⟩
theorem unspoken_any (w:World) :
  Calls Tryz.prog 237 #[] w fun e w'=>e=.returned (.agg #[.int .i64 6,.int .i64 1,.string ⟨#[]⟩])∧Below w.heap.size w w':=by
 go_enter Tryz.func237,Tryz.ntmps237
 go_wp2
 exact bodyPost_ret (v:=.agg #[.int .i64 6,.int .i64 1,.string ⟨#[]⟩]) (by simp [results,Tryz.results237,go_sem]) rfl ⟨rfl,(Below.refl _ _).alloc (zR _) _⟩
structure Moved (b:Nat) (w w':World):Prop where
 os:w'.os=w.os
 tape:w'.tape=w.tape
 output:w'.output=w.output
 size:w.heap.size≤w'.heap.size
 block:∀k,k<w.heap.size→k≠b→w'.heap[k]? = w.heap[k]?
theorem Moved.refl (b:Nat) (w:World):Moved b w w:=⟨rfl,rfl,rfl,zR _,fun _ _ _=>rfl⟩
theorem Moved.of_below {b:Nat} {w w':World} (h:Below w.heap.size w w'):Moved b w w':=⟨h.os,h.tape,h.output,h.size,fun k hk _=>h.block k hk⟩
theorem Moved.trans {b:Nat} {u v w:World} (h:Moved b u v) (k:Moved b v w):Moved b u w:=
 ⟨k.os.trans h.os,k.tape.trans h.tape,k.output.trans h.output,Nat.le_trans h.size k.size,fun i hi hb=>(k.block i (Nat.lt_of_lt_of_le hi h.size) hb).trans (h.block i hi hb)⟩
theorem Moved.below {b B:Nat} {w w':World} (h:Moved b w w') (h1:B≤b) (h2:B≤w.heap.size):Below B w w':=
 ⟨h.os,h.tape,h.output,h.size,fun k hk=>h.block k (Nat.lt_of_lt_of_le hk h2) (by omega)⟩
theorem Moved.cell {b:Nat} {w w':World} (h:Moved b w w') {p:Addr} (h1:p.block<w.heap.size) (h2:p.block≠b):w'.cell? p=w.cell? p:=World.cell?_of_block (w:=w) (h.block p.block h1 h2)
theorem Moved.frozen {b:Nat} {w w':World} (h:Moved b w w') {p:Addr} (h1:p.block<w.heap.size) (h2:p.block≠b):w'.frozen? p=w.frozen? p:=World.frozen?_of_block (w:=w) (h.block p.block h1 h2)
theorem Moved.setCell {b o:Nat} {w W:World} (h:Moved b w W) (v:Value):Moved b w (W.setCell ⟨b,o,none⟩ v):=by
 exact⟨h.os,h.tape,h.output,by simpa using h.size,fun k hk1 hb=>(Below.heap_setCell W ⟨b,o,none⟩ v k hb).trans (h.block k hk1 hb)⟩
theorem Moved.drew {b:Nat} {w W:World} (h:Moved b w W) (n:Nat):Moved b w (W.drewN n):=⟨h.os,h.tape,h.output,h.size,h.block⟩
structure Par (w:World) (b:Nat) (t:ByteArray) (k:Nat):Prop where
 text:w.cell? ⟨b,0,none⟩=some (.string t)
 at_:w.cell? ⟨b,1,none⟩=some (.int .i64 (k:Int))
 f0:w.frozen? ⟨b,0,none⟩=false
 f1:w.frozen? ⟨b,1,none⟩=false
theorem Par.lt {w:World} {b:Nat} {t:ByteArray} {k:Nat} (h:Par w b t k):b<w.heap.size:=lt_of_cell h.text
theorem Par.below {w W:World} {b:Nat} {t:ByteArray} {k:Nat} (h:Par w b t k) (hb:Below w.heap.size w W):Par W b t k:=
 ⟨(hb.cell (p:=⟨b,0,none⟩) h.lt).trans h.text,(hb.cell (p:=⟨b,1,none⟩) h.lt).trans h.at_,(hb.frozen (p:=⟨b,0,none⟩) h.lt).trans h.f0,(hb.frozen (p:=⟨b,1,none⟩) h.lt).trans h.f1⟩
theorem Par.drew {w:World} {b:Nat} {t:ByteArray} {k:Nat} (h:Par w b t k) (n:Nat):Par (w.drewN n) b t k:=⟨h.text,h.at_,h.f0,h.f1⟩
theorem Par.set {w:World} {b:Nat} {t:ByteArray} {k:Nat} (h:Par w b t k) (m:Nat):Par (w.setCell ⟨b,1,none⟩ (.int .i64 (m:Int))) b t m:=
 ⟨(World.cell?_setCell_other w ⟨b,1,none⟩ ⟨b,0,none⟩ _ (by simp)).trans h.text,World.cell?_setCell_same w ⟨b,1,none⟩ _ h.at_,by rw [World.frozen?_setCell];exact h.f0,by rw [World.frozen?_setCell];exact h.f1⟩
def movePost (v:Value) (b:Nat) (t:ByteArray) (k:Nat) (w:World) (e:Ending) (w':World):Prop:=e=.returned v∧Par w' b t k∧Moved b w w'
theorem take_no (b:Nat) (t:ByteArray) (k:Nat) (c:UInt8) (w:World) (h:Par w b t k) (_:t.size≤100000) (hk:k≤t.size) (hc:(t.data.toList.drop k).head?≠some c) :
  Calls Tryz.prog 221 #[.pointer (some ⟨b,0,none⟩),.int .u8 c.toNat] w (movePost (.bool false) b t k w):=by
 have HP:=zH h
 have c0:=h.text
 have c1:=h.at_
 clear h
 by_cases hlt:k<t.size
 ·have hne:(((t[k]'hlt).toNat:Int)==(c.toNat:Int))=false:=by
   rw [byte_beq]
   rw [drop_cons_at t k hlt]at hc
   simpa using hc
  have n1:(((t[k]'hlt).toNat:Int) != (c.toNat:Int))=true:=by rw [bne,hne]<;>rfl
  have q0:((k:Int)==(t.size:Int))=false:=by simp;omega
  have q1:(0:Int)≤(k:Int):=by omega
  have q2:(k:Int)<(t.size:Int):=by omega
  clear hc hne
  go_enter Tryz.func221,Tryz.ntmps221
  go_wp2_with fail
  go_quiet (fail)
  go_wp2_with fail
  go_ret
  exact⟨rfl,HP.out.drew _,(Moved.refl b w).drew _⟩
 ·have q0:((k:Int)==(t.size:Int))=true:=by simp;omega
  clear hc
  go_enter Tryz.func221,Tryz.ntmps221
  go_wp2_with fail
  go_quiet (fail)
  go_wp2_with fail
  go_ret
  exact⟨rfl,HP.out.drew _,(Moved.refl b w).drew _⟩
theorem take_yes (b:Nat) (t:ByteArray) (k:Nat) (c:UInt8) (w:World) (h:Par w b t k) (ht:t.size≤100000) (hc:(t.data.toList.drop k).head? = some c) :
  Calls Tryz.prog 221 #[.pointer (some ⟨b,0,none⟩),.int .u8 c.toNat] w (movePost (.bool true) b t (k+1) w):=by
 have hlt:k<t.size:=by
  by_cases hlt:k<t.size
  ·exact hlt
  ·rw [List.drop_of_length_le (by rw [← Lib.size_eq];omega)]at hc
   cases hc
 have HP:=zH h
 have c0:=h.text
 have c1:=h.at_
 have f1:=h.f1
 clear h
 have hne:(((t[k]'hlt).toNat:Int)==(c.toNat:Int))=true:=by
  rw [byte_beq]
  rw [drop_cons_at t k hlt]at hc
  simpa using hc
 have n1:(((t[k]'hlt).toNat:Int) != (c.toNat:Int))=false:=by rw [bne,hne]<;>rfl
 have q0:((k:Int)==(t.size:Int))=false:=by simp;omega
 have q1:(0:Int)≤(k:Int):=by omega
 have q2:(k:Int)<(t.size:Int):=by omega
 clear hc hne
 go_enter Tryz.func221,Tryz.ntmps221
 go_wp2_with fail
 go_quiet (fail)
 go_wp2_with fail
 go_ret
 refine⟨rfl,?_,?_⟩
 ·exact(HP.out.drew _).set (k+1)
 ·exact((Moved.refl b w).drew _).setCell _
end Go.Proofs.YtfaedmbfabfmeaaGreatDoor
