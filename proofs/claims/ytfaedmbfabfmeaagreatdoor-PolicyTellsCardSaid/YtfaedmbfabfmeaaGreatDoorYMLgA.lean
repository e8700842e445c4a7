/- The contract of strings.Builder's WriteByte, and of legacy.valueOf. · The contract of legacy.valueOf. · The contract of legacy.directive. · The contract of ascii.Trim (for a seat on BasP). · The contract of ascii.Split (for a seat on BasP). · The contract of legacy.Parse. · The contract of head.fieldOf. · Plain: worlds that are the same but for one block (as in DatE, ItmB, for seats that have neither); fields and bytes in memory there. · Plain: how many bytes the directives of a text have; how long the values of fields are, joined. -/
import Derived.Test.YtfaedmbfabfmeaaGreatDoorYMDigP
import Derived.Test.YtfaedmbfabfmeaaGreatDoorYMDirP
import Derived.Test.YtfaedmbfabfmeaaGreatDoorYMBarA
import Derived.Test.YtfaedmbfabfmeaaGreatDoorYMSpP
import Derived.Test.YtfaedmbfabfmeaaGreatDoorYMBasP
import Derived.Test.YtfaedmbfabfmeaaGreatDoorYTrimP
import Derived.Test.YtfaedmbfabfmeaaGreatDoorYMLgE
import Derived.Test.YtfaedmbfabfmeaaGreatDoorYMFldP
import Derived.Test.YtfaedmbfabfmeaaGreatDoorRows
import Derived.Test.YtfaedmbfabfmeaaGreatDoorYAscPlain
import Derived.Test.YtfaedmbfabfmeaaGreatDoorYMAscN
import Derived.Test.YtfaedmbfabfmeaaGreatDoorYMHdS
import Derived.Test.YtfaedmbfabfmeaaGreatDoorYMRoC
import Derived.Shelf.Strings.Prefix
import Derived.Laws.AppendOwn
import Derived.WalkKit
import Derived.WalkSpells
import Derived.WalkLawsBesides
import Derived.Lib.Hide
import Derived.Laws.IdiomStrings
import Derived.Lib.IndexLaws
import Derived.IntWalk
import Derived.Deep.QuietTactic
import Derived.BigQuiet
set_option linter.unusedSimpArgs false
set_option maxRecDepth 100000
set_option maxHeartbeats 4000000
namespace Go.Proofs.YtfaedmbfabfmeaaGreatDoor
open Go.RowKit Go.Lib
theorem writeByte_any (B b:Nat) (bs:List Value) (c:Int) (w:World) (h:Lib.IsBuilder 162 5 B b bs w) (hlen:bs.length+1≤140737488355328) (hBw:B≤w.heap.size) :
  Calls Tryz.prog 176 #[.pointer (some ⟨b,0,none⟩),.int .u8 c] w fun e w'=>e=.returned .nilIface∧(Lib.BuilderAt 162 5 B b (.pointer (some ⟨b,0,none⟩)) (bs++[.int .u8 c]) w'∧Below B w w'):=by
 obtain⟨i0,hi,hz0,hz1,hz2⟩:=info_parts info_u8_HdK
 go_enter Tryz.func176,Tryz.ntmps176
 go_wp2_with fail
 refine(copyCheck_any_HdK B b bs _ h).mono ?_
 rintro e w1 ⟨rfl,h1,hb1⟩
 obtain⟨hB,v,hbk,hown,hne⟩:=h1
 have c0:w1.cell? ⟨b,0,none⟩=some (.pointer (some ⟨b,0,none⟩)):=by rw [Lib.cell_of_heap hbk]<;>rfl
 have c1:w1.cell? ⟨b,1,none⟩=some v:=by rw [Lib.cell_of_heap hbk]<;>rfl
 go_wp2_with (at_builtin;refine wpList_append_own _ rfl _ _ 23 rfl B 5 i0 (.int .u8 0) 1 1 Tryz.underlying23 hi hz0 hz1 hz2 rfl (by decide) _ _ _ rfl (hown.alloc _) ⟨w1.heap.size,0,none⟩ 1 1 [.int .u8 c] rfl rfl ?c1 ?c2 ?c3 ?c4 ?c5 ?_)
 case c1 =>
  intro j u hj
  match j,hj with
  | 0,hj=>simp at hj;subst hj;simp [Addr.add]
 case c2=>intro u hu;simp at hu;subst hu;rfl
 case c3=>unfold maxLen;omega
 case c4=>omega
 case c5=>have:=hb1.size;simp;omega
 intro v' w2 hown' hgrow _
 have hlt:b<w1.heap.size:=by
  rcases Nat.lt_or_ge b w1.heap.size with h' | h'
  ·exact h'
  ·simp [Array.getElem?_eq_none h']at hbk
 have hb2:w2.heap[b]? = some (.cells #[.pointer (some ⟨b,0,none⟩),v] 162 (0,0)):=by
  rw [hgrow.block b (by simp;omega) (fun e=>hne e.symm),Lib.alloc_old w1 _ b hlt]
  exact hbk
 have d0:w2.cell? ⟨b,0,none⟩=some (.pointer (some ⟨b,0,none⟩)):=by rw [Lib.cell_of_heap hb2]<;>rfl
 have d1:w2.cell? ⟨b,1,none⟩=some v:=by rw [Lib.cell_of_heap hb2]<;>rfl
 have f1:w2.frozen? ⟨b,1,none⟩=false:=Lib.frozen_of_heap hb2 1
 obtain⟨g,cap,rfl⟩:∃g cap,v'=.slice (some ⟨g,0,none⟩) (bs.length+1) cap:=by
  rcases hown'.2 with ⟨_,h0⟩ | ⟨g,cap,cur,hv,_⟩
  ·omega
  ·exact⟨g,cap,hv⟩
 go_wp2
 go_ret
 refine⟨rfl,?_,?_⟩
 ·exact Lib.BuilderAt.put (T:=162) (e:=5) hB hb2 (bs':=bs++[.int .u8 c]) (by simpa using hown') (by decide)
 ·exact((hb1.alloc (by have:=hb1.size;omega) _).grown hgrow (by have:=hb1.size;simp;omega) (fun k hk=>(hown.lt k hk).1)).setCell (p:=⟨b,1,none⟩) hB _
def valL (t:List UInt8):Option (List UInt8):=if tokL t=true then some t else unqL t
def valPost (o:Option (List UInt8)) (w:World) (e:Ending) (w':World):Prop:=(∃X,e=.returned (.tuple #[.string X,.bool o.isSome])∧∀t,o=some t→X=strB t)∧Below w.heap.size w w'
def unqE (b:Bool) (l:List UInt8):Option (List UInt8):=
 if b=true then(match l with | []=>none | c :: r=>(unqG r).map (c :: ·))else unqG l
def vqI (l:List UInt8) (k:Nat) (esc:Bool) (acc:List UInt8):Prop:=acc.length≤k∧unqG l=(unqE esc (l.drop k)).map (acc++·)
theorem vqI_start (l:List UInt8):vqI l 0 false []:=⟨zR _,by
 rw [List.drop_zero]
 show unqG l=(unqG l).map _
 cases unqG l<;>rfl⟩
theorem vqI_none {l acc:List UInt8} {k:Nat} {b:Bool} (h:vqI l k b acc) (hd:l.drop k=[]):unqG l=none:=by
 rw [h.2,hd]
 cases b<;>rfl
theorem vqI_end {l acc:List UInt8} {k:Nat} (h:vqI l k false acc) (hd:l.drop k=34 :: l.drop (k+1)):unqG l=if l.drop (k+1)=[]then some acc else none:=by
 rw [h.2,hd]
 show(unqG _).map _=_
 rw [unqG_end]
 split
 ·rw [Option.map_some,List.append_nil]
 ·rfl
theorem vqI_esc {l acc:List UInt8} {k:Nat} (h:vqI l k false acc) (hd:l.drop k=92 :: l.drop (k+1)):vqI l (k+1) true acc:=by
 refine⟨Nat.le_succ_of_le h.1,?_⟩
 rw [h.2,hd]
 show(unqG _).map _=_
 cases hr:l.drop (k+1)with
 | nil=>rfl
 | cons d t=>rw [unqG_esc]<;>rfl
theorem vqI_any {l acc:List UInt8} {k:Nat} {c:UInt8} (h:vqI l k true acc) (hd:l.drop k=c :: l.drop (k+1)):vqI l (k+1) false (acc++[c]):=by
 refine⟨by rw [List.length_append,List.length_singleton];have:=h.1;omega,?_⟩
 rw [h.2,hd]
 show((unqG _).map _).map _=(unqG _).map _
 cases unqG (l.drop (k+1))<;>simp
theorem vqI_other {l acc:List UInt8} {k:Nat} {c:UInt8} (h:vqI l k false acc) (hd:l.drop k=c :: l.drop (k+1)) (h1:c≠34) (h2:c≠92):vqI l (k+1) false (acc++[c]):=by
 refine⟨by rw [List.length_append,List.length_singleton];have:=h.1;omega,?_⟩
 rw [h.2,hd]
 show(unqG _).map _=(unqG _).map _
 rw [unqG_other c _ h1 h2]
 cases unqG (l.drop (k+1))<;>simp
theorem cut_yesV (s:ByteArray) (w:World) (h:s.data.toList.head? = some 34) :
  Calls Tryz.prog 127 #[.string s,.string ⟨#[34]⟩] w fun e w'=>e=.returned (.tuple #[.string (strB (s.data.toList.drop 1)),.bool true])∧w=w':=by
 refine(Tryz.strings_CutPrefix s ⟨#[34]⟩ w).mono ?_
 rintro e w' ⟨rfl,rfl⟩
 have hp:Lib.hasPrefix s.data.toList [34]=true:=by
  cases hl:s.data.toList with
  | nil=>rw [hl]at h;cases h
  | cons d r =>
   rw [hl]at h
   obtain rfl:=Option.some.inj h
   simp [Lib.hasPrefix]
 rw [show(⟨#[34]⟩:ByteArray).data.toList=[34]from rfl,Lib.trimPrefix,hp]
 exact⟨rfl,rfl⟩
theorem cut_noV (s:ByteArray) (w:World) (h:s.data.toList.head?≠some 34) :
  Calls Tryz.prog 127 #[.string s,.string ⟨#[34]⟩] w fun e w'=>e=.returned (.tuple #[.string s,.bool false])∧w=w':=by
 refine(Tryz.strings_CutPrefix s ⟨#[34]⟩ w).mono ?_
 rintro e w' ⟨rfl,rfl⟩
 have hp:Lib.hasPrefix s.data.toList [34]=false:=by
  cases hl:s.data.toList with
  | nil=>rfl
  | cons d r =>
   rw [hl]at h
   simp only [List.head?_cons,ne_eq,Option.some.injEq]at h
   unfold Lib.hasPrefix
   simp only [List.isPrefixOf,Bool.and_true,beq_eq_false_iff_ne,ne_eq]
   exact fun e=>h e.symm
 rw [show(⟨#[34]⟩:ByteArray).data.toList=[34]from rfl,Lib.trimPrefix,hp]
 exact⟨rfl,rfl⟩
theorem value_plain (s:ByteArray) (w:World) (hs:s.size≤100000) (h:tokL s.data.toList=true∨s.data.toList.head?≠some 34) :
  Calls Tryz.prog 137 #[.string s] w (valPost (valL s.data.toList) w):=by
 have cT:=token_any_TokA s w (by unfold maxLen;omega)
 cases ht:tokL s.data.toList
 ·have hh:s.data.toList.head?≠some 34:=by
   rcases h with h | h
   ·rw [ht]at h;cases h
   ·exact h
  have cC:=cut_noV s w hh
  have hv:valL s.data.toList=none:=by
   rw [valL,if_neg (by rw [ht];decide)]
   cases hl:s.data.toList with
   | nil=>rfl
   | cons c r =>
    rw [hl]at hh
    rw [unqL,if_neg (fun e=>hh (by rw [e]<;>rfl))]
  rw [ht]at cT
  rw [hv]
  clear hv hh h ht
  go_enter Tryz.func137,Tryz.ntmps137
  go_wp2_with (first | (go_at_call 135;refine cT.mono ?_;rintro e w' ⟨rfl,rfl⟩) | (go_at_call 127;refine cC.mono ?_;rintro e w' ⟨rfl,rfl⟩))
  refine bodyPost_ret (v:=.tuple #[.string ⟨#[]⟩,.bool false]) (by simp [results,Tryz.results137,go_sem]) rfl ⟨⟨_,rfl,fun t ht=>by cases ht⟩,Below.refl _ _⟩
 ·have hv:valL s.data.toList=some s.data.toList:=by rw [valL,if_pos ht]
  rw [ht]at cT
  rw [hv]
  clear hv h ht
  go_enter Tryz.func137,Tryz.ntmps137
  go_wp2_with (go_at_call 135;refine cT.mono ?_;rintro e w' ⟨rfl,rfl⟩)
  refine bodyPost_ret (v:=.tuple #[.string s,.bool true]) (by simp [results,Tryz.results137,go_sem]) rfl ⟨⟨_,rfl,fun t ht=>by rw [← Option.some.inj ht,strB_of]⟩,Below.refl _ _⟩
theorem value_quoted (s:ByteArray) (w:World) (hs:s.size≤100000) (ht:tokL s.data.toList=false) (hh:s.data.toList.head? = some 34) :
  Calls Tryz.prog 137 #[.string s] w (valPost (valL s.data.toList) w):=by
 have cT:=token_any_TokA s w (by unfold maxLen;omega)
 have cC:=cut_yesV s w hh
 have hv:valL s.data.toList=unqG (s.data.toList.drop 1):=by
  rw [valL,if_neg (by rw [ht];decide)]
  cases hl:s.data.toList with
  | nil=>rw [hl]at hh;cases hh
  | cons c r =>
   rw [hl]at hh
   obtain rfl:=Option.some.inj hh
   rw [unqL,if_pos rfl]
   rfl
 have hz:(s.data.toList.drop 1).length≤100000:=by rw [List.length_drop,← Lib.size_eq];omega
 rw [ht]at cT
 rw [hv]
 clear hv hh ht
 generalize s.data.toList.drop 1=l at *
 have HR:Hid ((strB l).data.toList=l):=zH rfl
 have hRz:(strB l).size≤100000:=by rw [strB_size];exact hz
 rw [← HR.out]
 have HS:=zH (vqI_start (strB l).data.toList)
 clear hz HR
 generalize strB l=R at *
 clear l
 obtain⟨O,hO⟩:∃O,unqG R.data.toList=O:=⟨_,rfl⟩
 rw [hO]
 have HO:=zH hO
 clear hO
 have Hfr:=zH (show Lib.IsBuilder 162 5 w.heap.size w.heap.size (Lib.byteCells []) (w.alloc (.cells #[.pointer none,.slice none 0 0] 162))from
   .inl ⟨zR _,.slice none 0 0,heap_alloc_new w _,World.ownsRow_nil _ _ _ _,by simp [Value.ownBlock]⟩)
 have HB1:=zH ((Below.refl w.heap.size w).alloc (zR _) (.cells #[.pointer none,.slice none 0 0] 162))
 go_enter Tryz.func137,Tryz.ntmps137
 go_wp2_with (first | (go_at_call 135;refine cT.mono ?_;rintro e w' ⟨rfl,rfl⟩) | (go_at_call 127;refine cC.mono ?_;rintro e w' ⟨rfl,rfl⟩))
 clear cT cC
 go_loopw [7,22] (fun q i wr=>∃(k:Nat) (esc:Bool) (acc:List UInt8),q=.bool esc∧i=.int .i64 k∧k≤R.size∧Hid (vqI R.data.toList k esc acc)∧Hid (Lib.IsBuilder 162 5 w.heap.size w.heap.size (Lib.byteCells acc) wr)∧Hid (Below w.heap.size w wr)) (fun _ i _=>R.size-(intOf i).toNat)
 case atStart=>exact⟨0,false,[],rfl,rfl,Nat.zero_le _,HS,Hfr,HB1⟩
 case round =>
  obtain⟨k,esc,acc,rfl,rfl,hk,H,HBD,HB⟩:=hrel
  clear HS Hfr HB1
  have hal:acc.length≤100000:=Nat.le_trans H.out.1 (Nat.le_trans hk hRz)
  have hbl:=IsBuilder_ltF HBD.out
  have hbs:=HB.out.size
  by_cases hlt:k<R.size
  ·have hkI:(k:Int)<(R.size:Int):=by omega
   have hd:=zH (drop_cons_at R k hlt)
   have B34:(((R[k]'hlt).toNat:Int)==34)=((R[k]'hlt)==34):=byte_beq _ 34
   have B92:(((R[k]'hlt).toNat:Int)==92)=((R[k]'hlt)==92):=byte_beq _ 92
   have cW:=writeByte_any w.heap.size w.heap.size (Lib.byteCells acc) ((R[k]'hlt).toNat:Int) wr HBD.out (by rw [Lib.byteCells_length];omega) hbs
   have Hst:Hid (Lib.byteCells acc++[.int .u8 ((R[k]'hlt).toNat:Int)]=Lib.byteCells (acc++[R[k]'hlt])):=zH (by simp [Lib.byteCells])
   cases esc
   ·cases c92:((R[k]'hlt)==92)
    ·rw [c92]at B92
     cases c34:((R[k]'hlt)==34)
     ·rw [c34]at B34
      have HN:=zH (vqI_other H.out hd.out (by simpa using c34) (by simpa using c92))
      clear c34 c92 hd
      go_wp2_with (go_at_call 176;refine cW.mono ?_;rintro e w3 ⟨rfl,hbd3,hb3⟩)
      rw [Hst.out]at hbd3
      have HB3:=zH (HB.out.trans (hb3.mono (zR _)))
      have HBD3:=zH hbd3
      clear hbd3 hb3 cW
      go_roundw
      case rel=>exact⟨k+1,false,acc++[R[k]'hlt],rfl,by go_num,by omega,HN,zH (.inr HBD3.out),HB3⟩
      case measure=>simp [intOf];omega
     ·rw [c34]at B34
      have h34:R[k]'hlt=34:=beq_iff_eq.1 c34
      have hd2:=hd.out
      rw [h34]at hd2
      have HE:=zH (vqI_end H.out hd2)
      have cS:=Tryz.Builder_String_any w.heap.size w.heap.size acc wr HBD.out hbs
      have HV:Hid (((k:Int)==(R.size:Int)-1)=O.isSome):=zH (by
       rw [← HO.out,HE.out]
       by_cases hl:R.data.toList.drop (k+1)=[]
       ·have h1:=congrArg List.length hl
        rw [List.length_drop,← Lib.size_eq,List.length_nil]at h1
        rw [if_pos hl,beq_iff_eq.2 (by omega)]
        rfl
       ·have h1:¬(k:Int)=(R.size:Int)-1:=fun e=>hl (List.drop_of_length_le (by rw [← Lib.size_eq];omega))
        rw [if_neg hl,beq_eq_false_iff_ne.2 h1]
        rfl)
      have HU:Hid (∀t,O=some t→(⟨acc.toArray⟩:ByteArray)=strB t):=zH (fun t ht=>by
       rw [← HO.out,HE.out]at ht
       split at ht
       ·rw [← Option.some.inj ht]<;>rfl
       ·cases ht)
      clear c34 c92 hd hd2 h34 cW
      go_wp2_with (go_at_call 117;refine cS.mono ?_;rintro e w4 ⟨rfl,hb4⟩)
      refine bodyPost_ret (v:=.tuple #[.string ⟨acc.toArray⟩,.bool ((k:Int)==(R.size:Int)-1)]) (by simp [results,Tryz.results137,go_sem]) rfl ⟨⟨_,by rw [HV.out],HU.out⟩,HB.out.trans (hb4.mono (zR _))⟩
    ·rw [c92]at B92
     have h92:R[k]'hlt=92:=beq_iff_eq.1 c92
     have hd2:=hd.out
     rw [h92]at hd2
     have HN:=zH (vqI_esc H.out hd2)
     clear c92 hd hd2 cW
     go_wp2_with fail
     go_roundw
     case rel=>exact⟨k+1,true,acc,rfl,by go_num,by omega,HN,HBD,HB⟩
     case measure=>simp [intOf];omega
   ·have HN:=zH (vqI_any H.out hd.out)
    clear hd
    cases c92:((R[k]'hlt)==92)
    all_goals
     rw [c92]at B92
     cases c34:((R[k]'hlt)==34)
     all_goals
      rw [c34]at B34
      clear c34 c92
      go_wp2_with (go_at_call 176;refine cW.mono ?_;rintro e w3 ⟨rfl,hbd3,hb3⟩)
      rw [Hst.out]at hbd3
      have HB3:=zH (HB.out.trans (hb3.mono (zR _)))
      have HBD3:=zH hbd3
      clear hbd3 hb3
      go_roundw
      case rel=>exact⟨k+1,false,acc++[R[k]'hlt],rfl,by go_num,by omega,HN,zH (.inr HBD3.out),HB3⟩
      case measure=>simp [intOf];omega
  ·have hkI:¬(k:Int)<(R.size:Int):=by omega
   have hn:=zH (show O=none by rw [← HO.out];exact vqI_none H.out (List.drop_of_length_le (by rw [← Lib.size_eq];omega)))
   go_wp2_with fail
   refine bodyPost_ret (v:=.tuple #[.string ⟨#[]⟩,.bool false]) (by simp [results,Tryz.results137,go_sem]) rfl ⟨⟨⟨#[]⟩,by rw [hn.out]<;>rfl,fun t ht=>by rw [hn.out]at ht;cases ht⟩,HB.out⟩
theorem lvalue_any (s:ByteArray) (w:World) (hs:s.size≤100000) :
  Calls Tryz.prog 137 #[.string s] w (valPost (valL s.data.toList) w):=by
 by_cases h:tokL s.data.toList=true∨s.data.toList.head?≠some 34
 ·exact value_plain s w hs h
 ·have h1:tokL s.data.toList=false:=by
   cases ht:tokL s.data.toList
   ·rfl
   ·exact absurd (.inl ht) h
  have h2:s.data.toList.head? = some 34:=Classical.byContradiction fun e=>h (.inr e)
  exact value_quoted s w hs h1 h2
def dirPost (o:Option Dir) (w:World) (e:Ending) (w':World):Prop:=(∃N V H,e=.returned (.tuple #[.agg #[.string (strB N),.string (strB V),.bool H],.bool o.isSome])∧∀d,o=some d→d=(N,V,H))∧Below w.heap.size w w'
theorem oneL_val (s:List UInt8):oneL s=if Lib.indexByte s 61=-1 then(if tokL s=true then some (lowL s,[],false)else none)
  else if tokL (s.take (Lib.indexByte s 61).toNat)=true then(valL (s.drop ((Lib.indexByte s 61).toNat+1))).map fun t=>(lowL (s.take (Lib.indexByte s 61).toNat),t,true)else none:=by
 rw [oneL,valL]
 split
 ·rfl
 ·split
  ·split
   ·rfl
   ·rfl
  ·rfl
theorem directive_bad (s:ByteArray) (n v:List UInt8) (h:Bool) (w:World) (hn:n.length≤100000) (ht:tokL n=false)
  (cC:∀W,Calls Tryz.prog 134 #[.string s,.string ⟨#[61]⟩] W (cutPost (.tuple #[.string (strB n),.string (strB v),.bool h]) W)) :
  Calls Tryz.prog 99 #[.string s] w (dirPost none w):=by
 have cT:=fun W=>token_any_TokA (strB n) W (by rw [strB_size];unfold maxLen;omega)
 rw [strB_data,ht]at cT
 have HB0:=zH (BoxD.made w (.string ⟨#[]⟩) (.string ⟨#[]⟩) (.bool false) 133)
 have HB1:=zH ((Below.refl w.heap.size w).alloc (zR _) (.cells #[.string ⟨#[]⟩,.string ⟨#[]⟩,.bool false] 133))
 clear ht hn
 generalize strB n=SN at *
 generalize strB v=SV at *
 go_enter Tryz.func99,Tryz.ntmps99
 go_wp2_with (first | (go_at_call 134;refine(cC _).mono ?_;rintro e w2 ⟨rfl,hb2⟩;have HB2:=zH (HB0.out.next hb2);have HX2:=zH (HB1.out.trans (hb2.mono HB1.out.size));obtain⟨r0,r1,r2,g0,g1,g2⟩:=HB0.out.next hb2) | (go_at_call 135;refine(cT _).mono ?_;rintro e w3 ⟨rfl,rfl⟩))
 obtain⟨p0,p1,p2,_,_,_⟩:=HB2.out.put (.string ⟨#[]⟩) (.string ⟨#[]⟩) (.bool false)
 have HX:=zH (below_put HX2.out (zR w.heap.size) (.string ⟨#[]⟩) (.string ⟨#[]⟩) (.bool false))
 generalize((w2.setCell ⟨w.heap.size,0,none⟩ (.string ⟨#[]⟩)).setCell ⟨w.heap.size,1,none⟩ (.string ⟨#[]⟩)).setCell ⟨w.heap.size,2,none⟩ (.bool false)=W9 at *
 refine bodyPost_ret (v:=.tuple #[.agg #[.string ⟨#[]⟩,.string ⟨#[]⟩,.bool false],.bool false]) (by simp [results,Tryz.results99,go_sem,p0,p1,p2]) rfl ⟨⟨[],[],false,rfl,fun d hd=>by cases hd⟩,HX.out⟩
theorem directive_name (s:ByteArray) (n v:List UInt8) (w:World) (hn:n.length≤100000) (ht:tokL n=true)
  (cC:∀W,Calls Tryz.prog 134 #[.string s,.string ⟨#[61]⟩] W (cutPost (.tuple #[.string (strB n),.string (strB v),.bool false]) W)) :
  Calls Tryz.prog 99 #[.string s] w (dirPost (some (lowL n,[],false)) w):=by
 have cT:=fun W=>token_any_TokA (strB n) W (by rw [strB_size];unfold maxLen;omega)
 have cL:=fun W=>lower_any (strB n) W (by rw [strB_size];unfold maxLen;omega)
 rw [strB_data,ht]at cT
 rw [strB_data]at cL
 have HB0:=zH (BoxD.made w (.string ⟨#[]⟩) (.string ⟨#[]⟩) (.bool false) 133)
 have HB1:=zH ((Below.refl w.heap.size w).alloc (zR _) (.cells #[.string ⟨#[]⟩,.string ⟨#[]⟩,.bool false] 133))
 have HZ1:=zH (show w.heap.size+1=(w.alloc (.cells #[.string ⟨#[]⟩,.string ⟨#[]⟩,.bool false] 133)).heap.size by simp)
 clear ht hn
 generalize strB n=SN at *
 generalize strB v=SV at *
 generalize lowL n=LN at *
 go_enter Tryz.func99,Tryz.ntmps99
 go_wp2_with (first | (go_at_call 134;refine(cC _).mono ?_;rintro e w2 ⟨rfl,hb2⟩;have HB2:=zH (HB0.out.next hb2);have HX2:=zH (HB1.out.trans (hb2.mono HB1.out.size));have HZ2:=zH (Nat.le_trans (Nat.le_of_eq HZ1.out) hb2.size);clear hb2) | (go_at_call 135;refine(cT _).mono ?_;rintro e w3 ⟨rfl,rfl⟩) | (go_at_call 136;refine(cL _).mono ?_;rintro e w4 ⟨rfl,hb4⟩;have HB4:=zH (HB2.out.next hb4);have HX4:=zH (HX2.out.trans (hb4.mono HX2.out.size));have hlt4:w.heap.size<w4.heap.size:=Nat.lt_of_lt_of_le HZ2.out hb4.size;obtain⟨r0,r1,r2,g0,g1,g2⟩:=HB2.out.next hb4;clear hb4))
 obtain⟨p0,p1,p2,_,_,_⟩:=(HB4.out.put (.string ⟨LN.toArray⟩) (.string ⟨#[]⟩) (.bool false)).next ((Below.refl _ _).alloc (zR _) (.cells #[.string ⟨LN.toArray⟩,.string ⟨#[]⟩,.bool false] 133))
 have hx:=below_put HX4.out (zR w.heap.size) (.string ⟨LN.toArray⟩) (.string ⟨#[]⟩) (.bool false)
 have HX:=zH (hx.alloc hx.size (.cells #[.string ⟨LN.toArray⟩,.string ⟨#[]⟩,.bool false] 133))
 clear hx
 generalize(((w4.setCell ⟨w.heap.size,0,none⟩ (.string ⟨LN.toArray⟩)).setCell ⟨w.heap.size,1,none⟩ (.string ⟨#[]⟩)).setCell ⟨w.heap.size,2,none⟩ (.bool false)).alloc (.cells #[.string ⟨LN.toArray⟩,.string ⟨#[]⟩,.bool false] 133)=W9 at *
 refine bodyPost_ret (v:=.tuple #[.agg #[.string ⟨LN.toArray⟩,.string ⟨#[]⟩,.bool false],.bool true]) (by simp [results,Tryz.results99,go_sem,p0,p1,p2]) rfl ⟨⟨LN,[],false,rfl,fun d hd=>(Option.some.inj hd).symm⟩,HX.out⟩
theorem directive_none (s:ByteArray) (n v:List UInt8) (w:World) (hn:n.length≤100000) (hv:v.length≤100000) (ht:tokL n=true) (hl:valL v=none)
  (cC:∀W,Calls Tryz.prog 134 #[.string s,.string ⟨#[61]⟩] W (cutPost (.tuple #[.string (strB n),.string (strB v),.bool true]) W)) :
  Calls Tryz.prog 99 #[.string s] w (dirPost none w):=by
 have cT:=fun W=>token_any_TokA (strB n) W (by rw [strB_size];unfold maxLen;omega)
 have cL:=fun W=>lower_any (strB n) W (by rw [strB_size];unfold maxLen;omega)
 have cV:∀W,Calls Tryz.prog 137 #[.string (strB v)] W (fun e w'=>(∃X,e=.returned (.tuple #[.string X,.bool false]))∧Below W.heap.size W w'):=fun W=>(lvalue_any (strB v) W (by rw [strB_size];exact hv)).mono fun e w' h=>by
  rw [strB_data,hl]at h
  exact⟨⟨h.1.choose,h.1.choose_spec.1⟩,h.2⟩
 rw [strB_data,ht]at cT
 rw [strB_data]at cL
 have HB0:=zH (BoxD.made w (.string ⟨#[]⟩) (.string ⟨#[]⟩) (.bool false) 133)
 have HB1:=zH ((Below.refl w.heap.size w).alloc (zR _) (.cells #[.string ⟨#[]⟩,.string ⟨#[]⟩,.bool false] 133))
 clear ht hn hl hv
 generalize strB n=SN at *
 generalize strB v=SV at *
 generalize lowL n=LN at *
 go_enter Tryz.func99,Tryz.ntmps99
 go_wp2_with (first | (go_at_call 134;refine(cC _).mono ?_;rintro e w2 ⟨rfl,hb2⟩;have HB2:=zH (HB0.out.next hb2);have HX2:=zH (HB1.out.trans (hb2.mono HB1.out.size));clear hb2) | (go_at_call 135;refine(cT _).mono ?_;rintro e w3 ⟨rfl,rfl⟩) | (go_at_call 136;refine(cL _).mono ?_;rintro e w4 ⟨rfl,hb4⟩;have HB4:=zH ((HB2.out.next hb4).next ((Below.refl _ _).alloc (zR _) (.cells #[.string ⟨LN.toArray⟩,.string ⟨#[]⟩,.bool true] 133)));have HX4:=zH ((HX2.out.trans (hb4.mono HX2.out.size)).alloc (HX2.out.trans (hb4.mono HX2.out.size)).size (.cells #[.string ⟨LN.toArray⟩,.string ⟨#[]⟩,.bool true] 133));clear hb4) | (go_at_call 137;refine(cV _).mono ?_;rintro e w5 ⟨⟨X,rfl⟩,hb5⟩;have HB5:=zH (HB4.out.next hb5);have HX5:=zH (HX4.out.trans (hb5.mono HX4.out.size));obtain⟨r0,r1,r2,g0,g1,g2⟩:=HB4.out.next hb5;clear hb5))
 obtain⟨p0,p1,p2,_,_,_⟩:=HB5.out.put (.string ⟨#[]⟩) (.string ⟨#[]⟩) (.bool false)
 have HX:=zH (below_put HX5.out (zR w.heap.size) (.string ⟨#[]⟩) (.string ⟨#[]⟩) (.bool false))
 generalize((w5.setCell ⟨w.heap.size,0,none⟩ (.string ⟨#[]⟩)).setCell ⟨w.heap.size,1,none⟩ (.string ⟨#[]⟩)).setCell ⟨w.heap.size,2,none⟩ (.bool false)=W9 at *
 refine bodyPost_ret (v:=.tuple #[.agg #[.string ⟨#[]⟩,.string ⟨#[]⟩,.bool false],.bool false]) (by simp [results,Tryz.results99,go_sem,p0,p1,p2]) rfl ⟨⟨[],[],false,rfl,fun d hd=>by cases hd⟩,HX.out⟩
theorem directive_some (s:ByteArray) (n v t:List UInt8) (w:World) (hn:n.length≤100000) (hv:v.length≤100000) (ht:tokL n=true) (hl:valL v=some t)
  (cC:∀W,Calls Tryz.prog 134 #[.string s,.string ⟨#[61]⟩] W (cutPost (.tuple #[.string (strB n),.string (strB v),.bool true]) W)) :
  Calls Tryz.prog 99 #[.string s] w (dirPost (some (lowL n,t,true)) w):=by
 have cT:=fun W=>token_any_TokA (strB n) W (by rw [strB_size];unfold maxLen;omega)
 have cL:=fun W=>lower_any (strB n) W (by rw [strB_size];unfold maxLen;omega)
 have cV:∀W,Calls Tryz.prog 137 #[.string (strB v)] W (fun e w'=>e=.returned (.tuple #[.string (strB t),.bool true])∧Below W.heap.size W w'):=fun W=>(lvalue_any (strB v) W (by rw [strB_size];exact hv)).mono fun e w' h=>by
  rw [strB_data,hl]at h
  exact⟨by rw [h.1.choose_spec.1,h.1.choose_spec.2 t rfl]<;>rfl,h.2⟩
 rw [strB_data,ht]at cT
 rw [strB_data]at cL
 have HB0:=zH (BoxD.made w (.string ⟨#[]⟩) (.string ⟨#[]⟩) (.bool false) 133)
 have HB1:=zH ((Below.refl w.heap.size w).alloc (zR _) (.cells #[.string ⟨#[]⟩,.string ⟨#[]⟩,.bool false] 133))
 have HZ1:=zH (show w.heap.size+1=(w.alloc (.cells #[.string ⟨#[]⟩,.string ⟨#[]⟩,.bool false] 133)).heap.size by simp)
 clear ht hn hl hv
 generalize strB n=SN at *
 generalize strB v=SV at *
 generalize lowL n=LN at *
 go_enter Tryz.func99,Tryz.ntmps99
 go_wp2_with (first | (go_at_call 134;refine(cC _).mono ?_;rintro e w2 ⟨rfl,hb2⟩;have HB2:=zH (HB0.out.next hb2);have HX2:=zH (HB1.out.trans (hb2.mono HB1.out.size));have HZ2:=zH (Nat.le_trans (Nat.le_of_eq HZ1.out) hb2.size);clear hb2) | (go_at_call 135;refine(cT _).mono ?_;rintro e w3 ⟨rfl,rfl⟩) | (go_at_call 136;refine(cL _).mono ?_;rintro e w4 ⟨rfl,hb4⟩;have HB4:=zH ((HB2.out.next hb4).next ((Below.refl _ _).alloc (zR _) (.cells #[.string ⟨LN.toArray⟩,.string ⟨#[]⟩,.bool true] 133)));have HX4:=zH ((HX2.out.trans (hb4.mono HX2.out.size)).alloc (HX2.out.trans (hb4.mono HX2.out.size)).size (.cells #[.string ⟨LN.toArray⟩,.string ⟨#[]⟩,.bool true] 133));have HQ4:=zH (BoxD.made w4 (.string ⟨LN.toArray⟩) (.string ⟨#[]⟩) (.bool true) 133);have hne:w4.heap.size≠w.heap.size:=(by have:=HZ2.out;have:=hb4.size;omega);have hlt4:w.heap.size≤w4.heap.size:=(by have:=HZ2.out;have:=hb4.size;omega);clear hb4) | (go_at_call 137;refine(cV _).mono ?_;rintro e w5 ⟨rfl,hb5⟩;have HB5:=zH (HB4.out.next hb5);have HX5:=zH (HX4.out.trans (hb5.mono HX4.out.size));have HQ5:=zH (HQ4.out.next hb5);obtain⟨r0,r1,r2,g0,g1,g2⟩:=HB4.out.next hb5;obtain⟨q0,q1,q2,f0,f1,f2⟩:=HQ4.out.next hb5;clear hb5))
 have HB6:=zH (HB5.out.other hne (k:=1) (.string (strB t)))
 have HX6:=zH (below_set HX5.out hlt4 1 (.string (strB t)))
 obtain⟨p0,p1,p2,_,_,_⟩:=HB6.out.put (.string ⟨LN.toArray⟩) (.string (strB t)) (.bool true)
 have HX:=zH (below_put HX6.out (zR w.heap.size) (.string ⟨LN.toArray⟩) (.string (strB t)) (.bool true))
 generalize(((w5.setCell ⟨w4.heap.size,1,none⟩ (.string (strB t))).setCell ⟨w.heap.size,0,none⟩ (.string ⟨LN.toArray⟩)).setCell ⟨w.heap.size,1,none⟩ (.string (strB t))).setCell ⟨w.heap.size,2,none⟩ (.bool true)=W9 at *
 refine bodyPost_ret (v:=.tuple #[.agg #[.string ⟨LN.toArray⟩,.string (strB t),.bool true],.bool true]) (by simp [results,Tryz.results99,go_sem,p0,p1,p2]) rfl ⟨⟨LN,t,true,rfl,fun d hd=>(Option.some.inj hd).symm⟩,HX.out⟩
theorem directive_any (s:ByteArray) (w:World) (hs:s.size≤100000) :
  Calls Tryz.prog 99 #[.string s] w (dirPost (oneL s.data.toList) w):=by
 have cC:=fun W=>cut_any s 61 W hs
 have hz:=Lib.size_eq s
 rw [oneL_val]
 by_cases h0:Lib.indexByte s.data.toList 61=-1
 ·rw [cutV,if_pos h0]at cC
  rw [if_pos h0]
  cases ht:tokL s.data.toList
  ·exact directive_bad s _ [] false w (by omega) ht cC
  ·exact directive_name s _ [] w (by omega) ht cC
 ·rw [cutV,if_neg h0]at cC
  rw [if_neg h0]
  have hn:(s.data.toList.take (Lib.indexByte s.data.toList 61).toNat).length≤100000:=by rw [List.length_take];omega
  have hv:(s.data.toList.drop ((Lib.indexByte s.data.toList 61).toNat+1)).length≤100000:=by rw [List.length_drop];omega
  cases ht:tokL (s.data.toList.take (Lib.indexByte s.data.toList 61).toNat)
  ·exact directive_bad s _ _ true w hn ht cC
  ·rw [if_pos rfl]
   cases hl:valL (s.data.toList.drop ((Lib.indexByte s.data.toList 61).toNat+1))with
   | none=>exact directive_none s _ _ w hn hv ht hl cC
   | some t=>exact directive_some s _ _ t w hn hv ht hl cC
end Go.Proofs.YtfaedmbfabfmeaaGreatDoor
namespace Go.Proofs.YtfaedmbfabfmeaaGreatDoor
open Go.RowKit
theorem blank_ascii:∀x:Fin 128,decide (0≤Lib.indexByte [32,9] x.val.toUInt8)=blkR x.val:=by decide
theorem blank_pays (B:Nat) (w:World) (hB:B<w.heap.size) (hc:w.cell? ⟨B,0,none⟩=some (.string ⟨#[32,9]⟩)) :
  PredGrows Tryz.prog 205 #[.pointer (some ⟨B,0,none⟩)] blkR w:=by
 intro W x hx hb
 have hc':=(hb.cell (p:=⟨B,0,none⟩) hB).trans hc
 have cC:Calls Tryz.prog 195 #[.string ⟨#[32,9]⟩,.int .i32 x] W fun e w'=>e=.returned (.bool (blkR x))∧Below W.heap.size W w':=by
  by_cases h:x<128
  ·refine(Tryz.strings_ContainsRune_ascii ⟨#[32,9]⟩ x W (by omega) (by omega)).mono ?_
   rintro e w' ⟨rfl,rfl⟩
   refine⟨?_,Below.refl _ _⟩
   rw [← blank_ascii ⟨x,h⟩]
   rfl
  ·rw [blkR_big x (by omega)]
   exact containsRune_big x W (by omega) hx
 clear hb hc
 generalize blkR x=b at cC
 show Calls Tryz.prog 205 #[.int .i32 x,.pointer (some ⟨B,0,none⟩)] W _
 go_enter Tryz.func205,Tryz.ntmps205
 go_wp2_with (go_at_call 195;refine cC.mono ?_;rintro e w' ⟨rfl,hb⟩)
 go_ret
 exact⟨rfl,hb⟩
abbrev Tabs (w:World):Prop:=Lib.Utf8Tabs 4 5 w
theorem trimF_eq (s:ByteArray):Lib.trimF blkR s=⟨(trimL s.data.toList).toArray⟩:=by
 rw [← trimF_is,Lib.mk_data]
theorem trim_any (s:ByteArray) (w:World) (hs:s.size≤maxLen) (hT:Tabs w) :
  Calls Tryz.prog 133 #[.string s] w fun e w'=>e=.returned (.string ⟨(trimL s.data.toList).toArray⟩)∧Below w.heap.size w w':=by
 rw [← trimF_eq]
 have hb0:Below w.heap.size w (w.alloc (.cells #[.string ⟨#[32,9]⟩] 9)):=(Below.refl _ _).alloc (zR _) _
 have cT:=Tryz.strings_TrimFunc_grows 205 #[.pointer (some ⟨w.heap.size,0,none⟩)] (enters_of Tryz.func205 (by kernel_rfl) rfl) blkR s (w.alloc (.cells #[.string ⟨#[32,9]⟩] 9)) hs (Utf8Tabs_below hT hb0) (blank_pays w.heap.size _ (by simp) (by simp))
 generalize Lib.trimF blkR s=t at cT
 have HT:=zH hT
 clear hT
 go_enter Tryz.func133,Tryz.ntmps133
 go_wp2_with (first | (go_at_call 171;refine cT.mono ?_;rintro e w' ⟨rfl,hb⟩) | go_in)
 go_ret
 exact⟨rfl,hb0.trans (hb.mono hb0.size)⟩
def strLen_SpB:Value→Nat | .string t=>t.size | _=>0
theorem rest_is (t:ByteArray) (k:Nat):(t.extract (min ((k:Int)+1) (t.size:Int)).toNat t.size).data.toList=t.data.toList.drop (k+1)∧((t.extract (min ((k:Int)+1) (t.size:Int)).toNat t.size).size+1≤t.size∨t.size=0):=by
 have e:(min ((k:Int)+1) (t.size:Int)).toNat=min (k+1) t.size:=by omega
 rw [e]
 have h1:(t.extract (min (k+1) t.size) t.size).data.toList=t.data.toList.drop (k+1):=by
  rw [Lib.extract_to_end]
  by_cases h:k+1≤t.size
  ·rw [Nat.min_eq_left h]
  ·rw [Nat.min_eq_right (by omega),List.drop_of_length_le (by rw [← Lib.size_eq];omega),List.drop_of_length_le (by rw [← Lib.size_eq];omega)]
 refine⟨h1,?_⟩
 rw [Lib.size_eq,h1,List.length_drop,← Lib.size_eq]
 omega
theorem split_any (s:ByteArray) (w:World) (hs:s.size≤1099511627776) (hT:Tabs w) :
  Calls Tryz.prog 98 #[.string s] w (StrsOut w.heap.size (splitL s.data.toList) w):=by
 have HT:=zH hT
 clear hT
 obtain⟨i0,hi,hz0,hz1,hz2⟩:=info_parts info_string
 go_enter Tryz.func98,Tryz.ntmps98
 go_wp2
 go_loopw [0,3] (fun x v wr=>∃(t:ByteArray) (acc:List (List UInt8)),x=.string t∧acc.length+t.size≤s.size∧Hid (splitL s.data.toList=acc++splitL t.data.toList)∧wr.ownsRow w.heap.size 9 1 v acc.length (acc.map strV)∧Below w.heap.size w wr) (fun x _ _=>strLen_SpB x)
 case atStart=>exact⟨s,[],rfl,by simp,zH rfl,World.ownsRow_nil _ _ _ _,Below.refl _ _⟩
 case round =>
  obtain⟨t,acc,rfl,hle,H,hown,hb⟩:=hrel
  by_cases hne:0<t.size
  ·have hemp:t.toList.isEmpty=false:=by rw [Lib.toList_data];exact isEmpty_false_of t hne
   have Hst:Hid (t.data.toList≠[]):=zH (fun e=>by rw [Lib.toList_data,e]at hemp;simp at hemp)
   have Hstep:=zH (splitL_step t.data.toList Hst.out)
   have hle2:peL t.data.toList≤t.size:=by rw [Lib.size_eq];exact peL_le _
   have cP:=partEnd_any t wr (by unfold maxLen;omega)
   have hxs:(t.extract 0 (peL t.data.toList)).size≤maxLen:=by rw [Lib.size_eq,extract_take,List.length_take];unfold maxLen;omega
   have cM:=trim_any (t.extract 0 (peL t.data.toList)) wr hxs (Utf8Tabs_below HT.out hb)
   clear hxs
   rw [extract_take]at cM
   generalize trimL (t.data.toList.take (peL t.data.toList))=p at cM Hstep
   generalize peL t.data.toList=k at hle2 cP cM Hstep
   have Hr:=zH (rest_is t k)
   by_cases hp:p=[]
   ·have Hp:=zH hp
    have hpe:p.isEmpty=true:=by rw [hp]<;>rfl
    clear hp
    go_wp2_with (first | (go_at_call 132;refine cP.mono ?_;rintro e w' ⟨rfl,rfl⟩) | (go_at_call 133;refine cM.mono ?_;rintro e w' ⟨rfl,hb2⟩))
    go_roundw
    case rel =>
     refine⟨_,acc,rfl,by have:=Hr.out.2;omega,zH ?_,ownsRow_later hown hb2,hb.trans (hb2.mono hb.size)⟩
     rw [H.out,Hstep.out,if_pos Hp.out,List.nil_append,Hr.out.1]
    case measure =>
     have:=Hr.out.2
     simp only [strLen_SpB]
     omega
   ·have Hp:=zH hp
    have hpe:p.isEmpty=false:=by rw [List.isEmpty_eq_false_iff];exact hp
    clear hp
    go_wp2_with (first | (go_at_call 132;refine cP.mono ?_;rintro e w' ⟨rfl,rfl⟩) | (go_at_call 133;refine cM.mono ?_;rintro e w' ⟨rfl,hb2⟩) | (at_builtin;refine wpList_append_own _ rfl _ _ 81 rfl w.heap.size 9 i0 (.string ⟨#[]⟩) 1 16 Tryz.underlying81 hi hz0 hz1 hz2 rfl (by decide) _ _ _ rfl ((ownsRow_later hown hb2).alloc _) ⟨_,0,none⟩ 1 1 [.string ⟨p.toArray⟩] rfl rfl (cell_one_new _ _ _) (by intro u hu;simp at hu;subst hu;rfl) (by unfold maxLen;omega) (by omega) (by have:=hb.size;have:=hb2.size;simp;omega) ?_;intro v' w1 hown' hgrow _))
    go_roundw
    case rel =>
     have hz1:=hb.size
     have hz2:=hb2.size
     have hb3:=hb.trans (hb2.mono hb.size)
     refine⟨_,acc++[p],rfl,by have:=Hr.out.2;simp;omega,zH ?_,?_,?_⟩
     ·rw [H.out,Hstep.out,if_neg Hp.out,Hr.out.1,List.append_assoc]
     ·simpa [strV] using hown'
     ·exact(hb3.alloc (by omega) _).grown hgrow (by simp;omega) (fun k e=>(World.ownsRow.lt hown k e).1)
    case measure =>
     have:=Hr.out.2
     simp only [strLen_SpB]
     omega
  ·have hemp:t.toList.isEmpty=true:=by
    have:t.data.toList=[]:=List.eq_nil_of_length_eq_zero (by rw [← Lib.size_eq];omega)
    rw [Lib.toList_data,this]<;>rfl
   have Hz:Hid (t.data.toList=[]):=zH (List.eq_nil_of_length_eq_zero (by rw [← Lib.size_eq];omega))
   go_wp2
   go_ret
   refine⟨_,rfl,?_,hb⟩
   rw [H.out,Hz.out,splitL_nil,List.append_nil]
   exact hown
end Go.Proofs.YtfaedmbfabfmeaaGreatDoor
namespace Go.Proofs.YtfaedmbfabfmeaaGreatDoor
open Go.RowKit Go.Lib
theorem info_ldir:(Tryz.prog.info? 133).map (fun i=>(i.zero,i.size,i.bytes))=some (some (.agg #[.string ⟨#[]⟩,.string ⟨#[]⟩,.bool false]),3,40):=by kernel_rfl
theorem lparse_any (s:ByteArray) (w:World) (hs:s.size≤100000) (hT:Tabs w) :
  Calls Tryz.prog 57 #[.string s] w fun e w'=>(∃u,e=.returned u∧Dirs w.heap.size w' u (dirsL s.data.toList))∧Below w.heap.size w w':=by
 obtain⟨i0,hi,hz0,hz1,hz2⟩:=info_parts info_ldir
 have cS:=split_any s w (by omega) hT
 obtain⟨hn1,hn2⟩:=splitL_small _ s.data.toList (zR _)
 rw [← Lib.size_eq]at hn1 hn2
 have HD:Hid (dirsL s.data.toList=(splitL s.data.toList).filterMap oneL):=zH rfl
 generalize dirsL s.data.toList=DS at *
 generalize splitL s.data.toList=ps at *
 have HN2:=zH hn2
 clear hn2
 go_enter Tryz.func57,Tryz.ntmps57
 go_wp2_with fail
 refine cS.mono ?_
 rintro e w1 ⟨vs,rfl,hown,hb1⟩
 have HS1:=zH hown
 have HB1:=zH hb1
 obtain⟨sa,sc,rfl⟩:=owns_formF hown
 clear hown hb1 cS
 go_wp2_with fail
 go_loopw [3,11] (fun r i wr=>∃(j:Nat) (acc:List Dir) (av:Option Addr) (cv:Nat),r=.slice av acc.length cv∧i=.int .i64 j∧j≤ps.length∧acc.length≤j∧Hid (acc=(ps.take j).filterMap oneL)∧Hid (wr.ownsRow w1.heap.size 133 3 (.slice av acc.length cv) acc.length (rowD acc))∧Hid (Below w1.heap.size w1 wr)) (fun _ i _=>ps.length-(intOf i).toNat)
 case atStart=>exact⟨0,[],none,0,rfl,rfl,Nat.zero_le _,by simp,zH rfl,zH (World.ownsRow_nil _ _ _ _),zH (Below.refl _ _)⟩
 case round =>
  obtain⟨j,acc,av,cv,rfl,rfl,hj,hal,HA,HO,HB⟩:=hrel
  by_cases hlt:j<ps.length
  ·obtain⟨p,hp⟩:∃p,ps[j]? = some p:=⟨_,List.getElem?_eq_getElem hlt⟩
   have Htk:Hid ((ps.take (j+1)).filterMap oneL=(ps.take j).filterMap oneL++(oneL p).toList):=zH (by
    rw [List.take_add_one,hp,List.filterMap_append]
    cases h:oneL p<;>simp [h])
   have hpl:p.length≤100000:=Nat.le_trans (HN2.out p (List.mem_of_getElem? hp)) hs
   have cO:=fun W=>directive_any (strB p) W (by rw [Lib.size_eq,strB_data];exact hpl)
   rw [strB_data]at cO
   obtain⟨g,cap2,hv,hg,hgl,_⟩:=owns_sliceF HS1.out (Nat.lt_of_le_of_lt (Nat.zero_le _) hlt)
   obtain⟨rfl,_,rfl⟩:=Value.slice.inj hv
   have a0:=(HB.out.cell (p:=⟨g,j,none⟩) hgl).trans (owns_cellsF HS1.out j (.string (strB p)) (by rw [List.getElem?_map,hp]<;>rfl))
   have hjI:(j:Int)<(ps.length:Int):=by omega
   have hj0:(0:Int)≤(j:Int):=by omega
   have HP:=zH hp
   have hz:=HB.out.size
   clear hv hp hpl
   cases ho:oneL p with
   | none =>
    have HN:Hid ((ps.take (j+1)).filterMap oneL=(ps.take j).filterMap oneL):=zH (by rw [Htk.out,ho];simp)
    have cO1:∀W,Calls Tryz.prog 99 #[.string (strB p)] W (fun e w'=>(∃N V H,e=.returned (.tuple #[.agg #[.string (strB N),.string (strB V),.bool H],.bool false]))∧Below W.heap.size W w'):=fun W=>(cO W).mono fun e w' h=>by
     rw [ho]at h
     obtain⟨⟨N,V,H,he,_⟩,hb⟩:=h
     exact⟨⟨N,V,H,he⟩,hb⟩
    clear cO ho Htk
    go_wp2_with (go_at_call 99;refine(cO1 _).mono ?_;rintro e w2 ⟨⟨N,V,H,rfl⟩,hb2⟩;have HX:=zH (HB.out.trans (hb2.mono hz));have HO2:=zH (ownsRow_later HO.out hb2))
    go_roundw
    case rel=>exact⟨j+1,acc,av,cv,rfl,by go_num,by omega,by omega,zH (by rw [HN.out];exact HA.out),zH (HO2.out.alloc _),zH (HX.out.alloc HX.out.size _)⟩
    case measure=>simp [intOf];omega
   | some d =>
    have HN:Hid ((ps.take (j+1)).filterMap oneL=(ps.take j).filterMap oneL++[d]):=zH (by rw [Htk.out,ho]<;>rfl)
    obtain⟨N,V,H⟩:=d
    have cO1:∀W,Calls Tryz.prog 99 #[.string (strB p)] W (fun e w'=>e=.returned (.tuple #[.agg #[.string (strB N),.string (strB V),.bool H],.bool true])∧Below W.heap.size W w'):=fun W=>(cO W).mono fun e w' h=>by
     rw [ho]at h
     obtain⟨⟨N',V',H',he,hd⟩,hb⟩:=h
     have hd:=hd _ rfl
     simp only [Prod.mk.injEq]at hd
     obtain⟨rfl,rfl,rfl⟩:=hd
     exact⟨he,hb⟩
    clear cO ho Htk
    have HC:=zH (show cellsD (N,V,H)=[.string (strB N),.string (strB V),.bool H]from rfl)
    have HRS:=zH (rowD_snoc acc (N,V,H))
    go_wp2_with (first | (go_at_call 99;refine(cO1 _).mono ?_;rintro e w2 ⟨rfl,hb2⟩;have HX:=zH (HB.out.trans (hb2.mono hz));have HO2:=zH (ownsRow_later HO.out hb2)) | (at_builtin;refine wpList_append_own _ rfl _ _ 91 rfl w1.heap.size 133 i0 (.agg #[.string ⟨#[]⟩,.string ⟨#[]⟩,.bool false]) 3 40 Tryz.underlying91 hi hz0 hz1 hz2 rfl (by decide) (.slice av acc.length cv) acc.length (rowD acc) rfl ((HO2.out.alloc _).alloc _) ⟨_,0,none⟩ 1 1 (cellsD (N,V,H)) rfl rfl (fun j u h=>by have e:=cells_newF (w2.alloc (.cells #[.string (strB N),.string (strB V),.bool H] 133)) (cellsD (N,V,H)) 133 j u h;rw [show(w2.alloc (.cells #[.string (strB N),.string (strB V),.bool H] 133)).heap.size=w2.heap.size+1 by simp]at e;exact e) (by simp [Value.oneCell',cellsD]) (by unfold maxLen;omega) (by omega) (by have:=HX.out.size;simp<;>omega) ?_;intro v' w5 hown5 hgrow5 _;obtain⟨a5,c5,rfl⟩:=owns_formF hown5))
    go_roundw
    case rel =>
     refine⟨j+1,acc++[(N,V,H)],a5,c5,by rw [List.length_append]<;>rfl,by go_num,by omega,by simp;omega,zH (by rw [HN.out,HA.out]),zH (by rw [List.length_append,HRS.out];exact hown5),zH ?_⟩
     exact((HX.out.alloc HX.out.size _).alloc (by have:=HX.out.size;simp<;>omega) _).grown hgrow5 (by have:=HX.out.size;simp<;>omega) (fun k e=>(World.ownsRow.lt HO2.out k e).1)
    case measure=>simp [intOf];omega
  ·obtain rfl:j=ps.length:=by omega
   have HR:Hid (acc=DS):=zH (by have:=HA.out;rw [List.take_length]at this;rw [HD.out];exact this)
   have HX:=zH (HB1.out.trans (HB.out.mono HB1.out.size))
   have HF:=zH (Dirs.of_own HO.out HB1.out.size)
   go_wp2_with fail
   refine bodyPost_ret (v:=.slice av acc.length cv) (by simp [results,Tryz.results57,go_sem]) rfl ⟨⟨_,rfl,by rw [← HR.out];exact HF.out⟩,HX.out⟩
end Go.Proofs.YtfaedmbfabfmeaaGreatDoor
namespace Go.Proofs.YtfaedmbfabfmeaaGreatDoor
open Go.RowKit Go.Shelf Go.Lib
abbrev zeroF:Obj:=.cells #[.string ⟨#[]⟩,.string ⟨#[]⟩] 51
structure Res2 (W:World) (c:Nat):Prop where
 r0:W.cell? ⟨c,0,none⟩=some (.string ⟨#[]⟩)
 r1:W.cell? ⟨c,1,none⟩=some (.string ⟨#[]⟩)
 g0:W.frozen? ⟨c,0,none⟩=false
 g1:W.frozen? ⟨c,1,none⟩=false
theorem Res2.made (w:World):Res2 (w.alloc zeroF) w.heap.size:=⟨by simp,by simp,by simp,by simp⟩
theorem Res2.lt {W:World} {c:Nat} (h:Res2 W c):c<W.heap.size:=lt_of_cell h.r0
theorem Res2.next {W W1:World} {c:Nat} (h:Res2 W c) (hb:Below W.heap.size W W1):Res2 W1 c:=
 ⟨(hb.cell (p:=⟨c,0,none⟩) h.lt).trans h.r0,(hb.cell (p:=⟨c,1,none⟩) h.lt).trans h.r1,(hb.frozen (p:=⟨c,0,none⟩) h.lt).trans h.g0,(hb.frozen (p:=⟨c,1,none⟩) h.lt).trans h.g1⟩
end Go.Proofs.YtfaedmbfabfmeaaGreatDoor
namespace Go.Proofs.YtfaedmbfabfmeaaGreatDoor
open Go.RowKit
structure Moved_MovP (b:Nat) (w w':World):Prop where
 os:w'.os=w.os
 tape:w'.tape=w.tape
 output:w'.output=w.output
 size:w.heap.size≤w'.heap.size
 block:∀k,k<w.heap.size→k≠b→w'.heap[k]? = w.heap[k]?
theorem Moved_MovP.refl (b:Nat) (w:World):Moved_MovP b w w:=⟨rfl,rfl,rfl,zR _,fun _ _ _=>rfl⟩
theorem Moved_MovP.of_below {b:Nat} {w w':World} (h:Below w.heap.size w w'):Moved_MovP b w w':=⟨h.os,h.tape,h.output,h.size,fun k hk _=>h.block k hk⟩
theorem Moved_MovP.trans {b:Nat} {u v w:World} (h:Moved_MovP b u v) (k:Moved_MovP b v w):Moved_MovP b u w:=
 ⟨k.os.trans h.os,k.tape.trans h.tape,k.output.trans h.output,Nat.le_trans h.size k.size,fun i hi hb=>(k.block i (Nat.lt_of_lt_of_le hi h.size) hb).trans (h.block i hi hb)⟩
theorem Moved_MovP.below {b B:Nat} {w w':World} (h:Moved_MovP b w w') (h1:B≤b) (h2:B≤w.heap.size):Below B w w':=
 ⟨h.os,h.tape,h.output,h.size,fun k hk=>h.block k (Nat.lt_of_lt_of_le hk h2) (by omega)⟩
theorem Moved_MovP.cell {b:Nat} {w w':World} (h:Moved_MovP b w w') {p:Addr} (h1:p.block<w.heap.size) (h2:p.block≠b):w'.cell? p=w.cell? p:=World.cell?_of_block (w:=w) (h.block p.block h1 h2)
theorem Moved_MovP.frozen {b:Nat} {w w':World} (h:Moved_MovP b w w') {p:Addr} (h1:p.block<w.heap.size) (h2:p.block≠b):w'.frozen? p=w.frozen? p:=World.frozen?_of_block (w:=w) (h.block p.block h1 h2)
theorem Moved_MovP.setCell {b o:Nat} {w W:World} (h:Moved_MovP b w W) (v:Value):Moved_MovP b w (W.setCell ⟨b,o,none⟩ v):=by
 exact⟨h.os,h.tape,h.output,by simpa using h.size,fun k hk1 hb=>(Below.heap_setCell W ⟨b,o,none⟩ v k hb).trans (h.block k hk1 hb)⟩
theorem Moved_MovP.drew {b:Nat} {w W:World} (h:Moved_MovP b w W) (n:Nat):Moved_MovP b w (W.drewN n):=⟨h.os,h.tape,h.output,h.size,h.block⟩
theorem Flds.moved {lo x:Nat} {w w':World} {v:Value} {fs:List Fld} (h:Flds lo w v fs) (hm:Moved_MovP x w w') (hx:x<lo):Flds lo w' v fs:=by
 obtain⟨ao,cap,hv,hc⟩:=h
 rcases hc with hc | ⟨b,off,h1,h2,h3,h4⟩
 ·exact⟨ao,cap,hv,.inl hc⟩
 ·exact⟨ao,cap,hv,.inr ⟨b,off,h1,h2,Nat.lt_of_lt_of_le h3 hm.size,fun j c hj=>⟨(hm.cell (p:=⟨b,off+j*2,none⟩) h3 (show b≠x by omega)).trans (h4 j c hj).1,(hm.cell (p:=⟨b,off+j*2+1,none⟩) h3 (show b≠x by omega)).trans (h4 j c hj).2⟩⟩⟩
end Go.Proofs.YtfaedmbfabfmeaaGreatDoor
namespace Go.Proofs.YtfaedmbfabfmeaaGreatDoor
open Go.RowKit Go.Lib
theorem lens_pr (n:List UInt8):∀fs:List Fld,2*(allH fs n).length+lensH (allH fs n)≤(prF fs).length
 | []=>Nat.zero_le _
 | p :: fs=>by
  have ih:=lens_pr n fs
  have hl:=lineF_len p
  rw [prF,List.length_append,hl]
  unfold allH at ih ⊢
  rw [List.filter_cons]
  split
  ·rw [List.map_cons,List.length_cons,lensH];omega
  ·omega
theorem join_small (fs:List Fld) (n:List UInt8):(joinH (allH fs n)).length≤(prF fs).length:=by
 have h:=lens_pr n fs
 cases hp:allH fs n with
 | nil=>exact Nat.zero_le _
 | cons p ps =>
  rw [hp,List.length_cons,lensH]at h
  rw [joinH,List.length_append,tailH_len]
  omega
end Go.Proofs.YtfaedmbfabfmeaaGreatDoor
