/- The contracts of what package bare calls of package ascii, and of bare's functions on one byte. · The contracts of bare's functions on texts: inToken, isPrintable, tokenLength, leadingDigits, number, noItem. · The contract of strings.Cut at a separator of one byte. · The contracts of ascii.inToken and Token (for a seat on BasP). · The contract of strings.IndexRune at runes that are none, or stand for none; what a rune beyond ASCII is encoded as. · The contracts of strings.IndexRune and ContainsRune over the two blanks, at runes beyond ASCII: there is none. · The contracts of the calendar of package date. · The contracts of what package date prints with: names, the day of a number, padded numbers, the time of a day. · The reader of a date in memory, and the contracts of its methods skip, number, spacedDay, upTo, clock. · The contracts of named, weekday and month of package date's reader. · The contracts of the three parsers of package date. · The contracts of parseFirst, parseSecond, parseThird of package date. · The contracts of seconds, forms and Parse of package date. · The contracts of the document's own calendar (sculleryref05). · The contracts of the document's own month lengths and days (sculleryref05). · The contracts of the document's own Days and day (sculleryref05). -/
import Derived.Test.YtfaedmbfabfmeaaGreatDoorRows
import Derived.Test.YtfaedmbfabfmeaaGreatDoorYShelf
import Derived.Test.YtfaedmbfabfmeaaGreatDoorYMBasP
import Derived.Test.YtfaedmbfabfmeaaGreatDoorYMAscN
import Derived.WalkKit
import Derived.WalkSpells
import Derived.WalkLawsBesides
import Derived.Lib.Hide
import Derived.Lib.IndexLaws
import Derived.IntWalk
import Derived.BigQuiet
import Derived.Deep.QuietTactic
import Derived.Deep.LoopGhost
import Derived.Lib.OthersKept
import Derived.Lib.DecodeN
import Derived.Shelf.Strings.FuncGrows
import Derived.Deep.RegionWith
import Derived.OwnWalk
set_option linter.unusedSimpArgs false
set_option maxRecDepth 100000
set_option maxHeartbeats 4000000
namespace Go.Proofs.YtfaedmbfabfmeaaGreatDoor
open Go.RowKit
def prI (c:Int):Bool:=decide (32≤c)&&decide (c≤126)
def escI (c:Int):Bool:=c==34||c==92
def btI (c:Int):Bool:=upI c||lowI c||c==42
def ttI (c:Int):Bool:=tchI c||c==58||c==47
theorem aIsDigit_any (c:Int) (w:World) :
  Calls Tryz.prog 169 #[.int .u8 c] w fun e w'=>e=.returned (.bool (digI c))∧w=w':=by
 cases h1:decide (48≤c)<;>cases h2:decide (c≤57)
 all_goals
  have hd:digI c=(decide (48≤c)&&decide (c≤57)):=rfl
  simp only [h1,h2,Bool.and_true,Bool.and_false]at hd
  rw [hd]
  clear hd
  go_enter Tryz.func169,Tryz.ntmps169
  go_wp2
  go_ret
  exact⟨rfl,rfl⟩
theorem isDigit_any (c:Int) (w:World) :
  Calls Tryz.prog 254 #[.int .u8 c] w fun e w'=>e=.returned (.bool (digI c))∧w=w':=by
 cases h1:decide (48≤c)<;>cases h2:decide (c≤57)
 all_goals
  have hd:digI c=(decide (48≤c)&&decide (c≤57)):=rfl
  simp only [h1,h2,Bool.and_true,Bool.and_false]at hd
  rw [hd]
  clear hd
  go_enter Tryz.func254,Tryz.ntmps254
  go_wp2
  go_ret
  exact⟨rfl,rfl⟩
theorem inString_any (c:Int) (w:World) :
  Calls Tryz.prog 265 #[.int .u8 c] w fun e w'=>e=.returned (.bool (prI c))∧w=w':=by
 cases h1:decide (32≤c)<;>cases h2:decide (c≤126)
 all_goals
  have hd:prI c=(decide (32≤c)&&decide (c≤126)):=rfl
  simp only [h1,h2,Bool.and_true,Bool.and_false]at hd
  rw [hd]
  clear hd
  go_enter Tryz.func265,Tryz.ntmps265
  go_wp2
  go_ret
  exact⟨rfl,rfl⟩
theorem isEscaped_any (c:Int) (w:World) :
  Calls Tryz.prog 264 #[.int .u8 c] w fun e w'=>e=.returned (.bool (escI c))∧w=w':=by
 cases h1:(c==34)<;>cases h2:(c==92)
 all_goals
  have hd:escI c=(c==34||c==92):=rfl
  simp only [h1,h2,Bool.or_true,Bool.or_false]at hd
  rw [hd]
  clear hd
  go_enter Tryz.func264,Tryz.ntmps264
  go_wp2
  go_ret
  exact⟨rfl,rfl⟩
theorem isUpper_any (c:Int) (w:World) :
  Calls Tryz.prog 175 #[.int .u8 c] w fun e w'=>e=.returned (.bool (upI c))∧w=w':=by
 cases h1:decide (65≤c)<;>cases h2:decide (c≤90)
 all_goals
  have hd:upI c=(decide (65≤c)&&decide (c≤90)):=rfl
  simp only [h1,h2,Bool.and_true,Bool.and_false]at hd
  rw [hd]
  clear hd
  go_enter Tryz.func175,Tryz.ntmps175
  go_wp2
  go_ret
  exact⟨rfl,rfl⟩
theorem isLetter_any (c:Int) (w:World) :
  Calls Tryz.prog 207 #[.int .u8 c] w fun e w'=>e=.returned (.bool (ltrI c))∧w=w':=by
 have cU:=isUpper_any c w
 have hd:ltrI c=(upI c||(decide (97≤c)&&decide (c≤122))):=rfl
 generalize upI c=u at cU hd
 cases u
 ·cases h1:decide (97≤c)<;>cases h2:decide (c≤122)
  all_goals
   simp only [h1,h2,Bool.and_true,Bool.and_false,Bool.false_or]at hd
   rw [hd]
   clear hd
   go_enter Tryz.func207,Tryz.ntmps207
   go_wp2_with (go_at_call 175;refine cU.mono ?_;rintro e w' ⟨rfl,rfl⟩)
   go_ret
   exact⟨rfl,rfl⟩
 ·rw [hd]
  clear hd
  go_enter Tryz.func207,Tryz.ntmps207
  go_wp2_with (go_at_call 175;refine cU.mono ?_;rintro e w' ⟨rfl,rfl⟩)
  go_ret
  exact⟨rfl,rfl⟩
theorem aInToken_any (c:Int) (w:World) :
  Calls Tryz.prog 174 #[.int .u8 c] w fun e w'=>e=.returned (.bool (tchI c))∧w=w':=by
 have cL:=isLetter_any c w
 have cD:=aIsDigit_any c w
 have cI:=Tryz.strings_IndexByte ⟨#[33,35,36,37,38,39,42,43,45,46,94,95,96,124,126]⟩ c w
 have hd:tchI c=(ltrI c||digI c||decide (0≤Lib.indexByte marksL c.toNat.toUInt8)):=rfl
 have hm:(⟨#[33,35,36,37,38,39,42,43,45,46,94,95,96,124,126]⟩:ByteArray).data.toList=marksL:=rfl
 rw [hm]at cI
 clear hm
 generalize Lib.indexByte marksL c.toNat.toUInt8=n at cI hd
 generalize ltrI c=l at cL hd
 generalize digI c=d at cD hd
 rw [hd]
 clear hd
 cases l<;>cases d
 all_goals
  go_enter Tryz.func174,Tryz.ntmps174
  go_wp2_with (first | (go_at_call 207;refine cL.mono ?_;rintro e w' ⟨rfl,rfl⟩) | (go_at_call 169;refine cD.mono ?_;rintro e w' ⟨rfl,rfl⟩) | (go_at_call 208;refine cI.mono ?_;rintro e w' ⟨rfl,rfl⟩))
  go_ret
  exact⟨rfl,rfl⟩
theorem token_any (s:ByteArray) (w:World) (hs:s.size≤maxLen) :
  Calls Tryz.prog 135 #[.string s] w fun e w'=>e=.returned (.bool (tokL s.data.toList))∧w=w':=by
 unfold maxLen at hs
 go_enter Tryz.func135,Tryz.ntmps135
 go_wp2
 go_loop [6] (fun i=>∃k:Nat,k≤s.size∧i=.int .i64 k∧Hid ((s.data.toList.take k).all (fun c=>tchI c.toNat)=true)) (fun i=>s.size-(intOf i).toNat)
 case atStart=>exact⟨0,Nat.zero_le _,rfl,zH rfl⟩
 case round =>
  obtain⟨k,hk,rfl,Hall⟩:=hrel
  by_cases hlt:k<s.size
  ·have cT:=aInToken_any (s[k].toNat:Int) w
   cases hd:tchI (s[k].toNat:Int)
   ·have Hf:=zH (all_false_of (fun c=>tchI c.toNat) s k hlt hd)
    rw [hd]at cT
    clear hd
    go_wp2_with (go_at_call 174;refine cT.mono ?_;rintro e w' ⟨rfl,rfl⟩)
    go_ret
    exact⟨by simp [tokL,Hf.out],rfl⟩
   ·have Ha:=zH (all_snoc (fun c=>tchI c.toNat) s k hlt)
    rw [hd]at cT
    have Hd:=zH hd
    clear hd
    go_wp2_with (go_at_call 174;refine cT.mono ?_;rintro e w' ⟨rfl,rfl⟩)
    go_round
    case rel=>exact⟨k+1,by omega,by go_num,zH (by rw [Ha.out,Hd.out,Bool.and_true];exact Hall.out)⟩
    case measure=>simp [intOf];omega
  ·have hk':s.size≤k:=by omega
   go_wp2
   go_ret
   refine⟨ret_eq (bool_eq ?_),rfl⟩
   rw [take_all s k hk']at Hall
   rw [tokL,Hall.out,Lib.toList_data,Bool.true_and]
theorem beginsToken_any (c : Int) (w : World) :
    Calls Tryz.prog 257 #[.int .u8 c] w fun e w' => e = .returned (.bool (btI c)) ∧ w = w' := by
  have hd : btI c = ((decide (65 ≤ c) && decide (c ≤ 90)) || (decide (97 ≤ c) && decide (c ≤ 122)) || c == 42) := rfl
  cases h1 : decide (65 ≤ c) <;> cases h2 : decide (c ≤ 90) <;> cases h3 : decide (97 ≤ c) <;> cases h4 : decide (c ≤ 122) <;> cases h5 : (c == 42)
  all_goals
    first
    | (exfalso; simp only [decide_eq_true_eq, decide_eq_false_iff_not, beq_iff_eq] at h1 h2 h3 h4 h5; omega)
    | (simp only [h1, h2, h3, h4, h5, Bool.and_true, Bool.and_false, Bool.or_true, Bool.or_false] at hd
       rw [hd]
       clear hd
       go_enter Tryz.func257, Tryz.ntmps257
       go_wp2
       go_ret
       exact ⟨rfl, rfl⟩)
theorem tokL_one (c:UInt8):tokL [c]=tchI c.toNat:=by simp [tokL]
theorem one_eq (c d:UInt8):((strB [c]).toList==[d])=(c==d):=by
 rw [Lib.toList_data,strB_data,Bool.eq_iff_iff]
 simp
theorem inToken_any (c:UInt8) (w:World) :
  Calls Tryz.prog 266 #[.string (strB [c])] w fun e w'=>e=.returned (.bool (ttI c.toNat))∧w=w':=by
 have cT:=token_any (strB [c]) w (by rw [strB_size];unfold maxLen;simp)
 rw [strB_data,tokL_one]at cT
 have hd:ttI c.toNat=(tchI c.toNat||((c.toNat:Int)==58)||((c.toNat:Int)==47)):=rfl
 have b58:((c.toNat:Int)==58)=(c==58):=byte_beq c 58
 have b47:((c.toNat:Int)==47)=(c==47):=byte_beq c 47
 have e58:=one_eq c 58
 have e47:=one_eq c 47
 rw [b58,b47]at hd
 clear b58 b47
 generalize tchI (c.toNat:Int)=a at cT hd
 generalize(c==58)=b at hd e58
 generalize(c==47)=d at hd e47
 generalize ttI (c.toNat:Int)=r at hd
 generalize strB [c]=t at cT e58 e47
 subst hd
 cases a<;>cases b<;>cases d
 all_goals
  go_enter Tryz.func266,Tryz.ntmps266
  go_wp2_with (go_at_call 135;refine cT.mono ?_;rintro e w' ⟨rfl,rfl⟩)
  go_ret
  exact⟨rfl,rfl⟩
def prL (l:List UInt8):Bool:=l.all (fun c=>prI c.toNat)
def tlen:List UInt8→Nat
 | []=>0
 | c :: r=>if btI c.toNat then 1+(r.takeWhile (fun c=>ttI c.toNat)).length else 0
theorem tlen_le (l:List UInt8):tlen l≤l.length:=by
 cases l with
 | nil=>exact zR _
 | cons c r =>
  unfold tlen
  have:=takeWhile_len_le (fun c=>ttI c.toNat) r
  simp only [List.length_cons]
  split<;>omega
theorem tokenLength_any (s:ByteArray) (w:World) (hs:s.size≤maxLen) :
  Calls Tryz.prog 258 #[.string s] w fun e w'=>e=.returned (.int .i64 (tlen s.data.toList:Int))∧w=w':=by
 unfold maxLen at hs
 by_cases h0:0<s.size
 ·have hemp:s.toList.isEmpty=false:=by rw [Lib.toList_data];exact isEmpty_false_of s h0
  have cB:=beginsToken_any ((s[0]'h0).toNat:Int) w
  have Hdr:=zH (drop_cons_at s 0 h0)
  cases hb:btI ((s[0]'h0).toNat:Int)
  ·have Hz:Hid (tlen s.data.toList=0):=zH (by
    have:=Hdr.out
    rw [List.drop_zero]at this
    rw [this,tlen,hb]<;>rfl)
   rw [hb]at cB
   clear hb
   go_enter Tryz.func258,Tryz.ntmps258
   go_wp2_with (go_at_call 257;refine cB.mono ?_;rintro e w' ⟨rfl,rfl⟩)
   go_ret
   exact⟨ret_eq (int_eq (by rw [Hz.out]<;>rfl)),rfl⟩
  ·have Hz:Hid (tlen s.data.toList=1+((s.data.toList.drop 1).takeWhile (fun c=>ttI c.toNat)).length):=zH (by
    have:=Hdr.out
    rw [List.drop_zero]at this
    rw [this,tlen,hb]<;>rfl)
   rw [hb]at cB
   clear hb Hdr
   go_enter Tryz.func258,Tryz.ntmps258
   go_wp2_with (go_at_call 257;refine cB.mono ?_;rintro e w' ⟨rfl,rfl⟩)
   go_loop [3] (fun i=>∃k:Nat,1≤k∧k≤s.size∧i=.int .i64 k∧Hid (tlen s.data.toList=k+((s.data.toList.drop k).takeWhile (fun c=>ttI c.toNat)).length)) (fun i=>s.size-(intOf i).toNat)
   case atStart=>exact⟨1,by omega,by omega,rfl,Hz⟩
   case round =>
    clear Hz cB
    obtain⟨k,hk1,hk,rfl,H⟩:=hrel
    by_cases hlt:k<s.size
    ·have Hdr:=zH (drop_cons_at s k hlt)
     have cT:=inToken_any s[k] w
     rw [← one_at s k hlt]at cT
     cases hd:ttI (s[k].toNat:Int)
     ·have Hf:=zH hd
      rw [hd]at cT
      clear hd
      go_wp2_with (go_at_call 266;refine cT.mono ?_;rintro e w' ⟨rfl,rfl⟩)
      go_ret
      exact⟨ret_eq (int_eq (by rw [H.out,Hdr.out,List.takeWhile_cons,Hf.out];simp)),rfl⟩
     ·have Hf:=zH hd
      rw [hd]at cT
      clear hd
      go_wp2_with (go_at_call 266;refine cT.mono ?_;rintro e w' ⟨rfl,rfl⟩)
      go_round
      case rel=>exact⟨k+1,by omega,by omega,by go_num,zH (by rw [H.out,Hdr.out,List.takeWhile_cons,Hf.out];simp;omega)⟩
      case measure=>simp [intOf];omega
    ·have Hd:Hid (s.data.toList.drop k=[]):=zH (List.drop_of_length_le (by rw [← Lib.size_eq];omega))
     go_wp2
     go_ret
     exact⟨ret_eq (int_eq (by rw [H.out,Hd.out];simp)),rfl⟩
 ·have he:s.data.toList=[]:=List.eq_nil_of_length_eq_zero (by rw [← Lib.size_eq];omega)
  have hemp:s.toList.isEmpty=true:=by rw [Lib.toList_data,he]<;>rfl
  have Hz:Hid (tlen s.data.toList=0):=zH (by rw [he]<;>rfl)
  clear he
  go_enter Tryz.func258,Tryz.ntmps258
  go_wp2
  go_ret
  exact⟨ret_eq (int_eq (by rw [Hz.out]<;>rfl)),rfl⟩
def ldig (l:List UInt8):List UInt8:=l.takeWhile (fun c=>digI c.toNat)
theorem take_takeWhile (p:UInt8→Bool):∀l:List UInt8,l.take (l.takeWhile p).length=l.takeWhile p
 | []=>rfl
 | c :: l=>by
  rw [List.takeWhile_cons]
  split
  ·simp [take_takeWhile p l]
  ·rfl
theorem leadingDigits_any (s:ByteArray) (w:World) (hs:s.size≤maxLen) :
  Calls Tryz.prog 262 #[.string s] w fun e w'=>e=.returned (.string (strB (ldig s.data.toList)))∧w=w':=by
 unfold maxLen at hs
 go_enter Tryz.func262,Tryz.ntmps262
 go_wp2
 go_loop [3] (fun i=>∃k:Nat,k≤s.size∧i=.int .i64 k∧Hid ((ldig s.data.toList).length=k+(ldig (s.data.toList.drop k)).length)) (fun i=>s.size-(intOf i).toNat)
 case atStart=>exact⟨0,by omega,rfl,zH (by simp)⟩
 case round =>
  obtain⟨k,hk,rfl,H⟩:=hrel
  have Hend:Hid ((ldig s.data.toList).length=k→s.extract 0 k=strB (ldig s.data.toList)):=zH (by
   intro h
   rw [← strB_of (s.extract 0 k),extract_take,← h,ldig,take_takeWhile])
  by_cases hlt:k<s.size
  ·have Hdr:=zH (drop_cons_at s k hlt)
   have cT:=isDigit_any (s[k].toNat:Int) w
   cases hd:digI (s[k].toNat:Int)
   ·have Hf:Hid (s.extract 0 k=strB (ldig s.data.toList)):=zH (Hend.out (by rw [H.out,Hdr.out,ldig,List.takeWhile_cons,hd];simp))
    rw [hd]at cT
    clear hd Hend H Hdr
    go_wp2_with (go_at_call 254;refine cT.mono ?_;rintro e w' ⟨rfl,rfl⟩)
    go_ret
    exact⟨by rw [← Hf.out]<;>rfl,rfl⟩
   ·have Hf:=zH hd
    rw [hd]at cT
    clear hd Hend
    go_wp2_with (go_at_call 254;refine cT.mono ?_;rintro e w' ⟨rfl,rfl⟩)
    go_round
    case rel=>exact⟨k+1,by omega,by go_num,zH (by rw [H.out,Hdr.out,ldig,List.takeWhile_cons,Hf.out,ldig];simp;omega)⟩
    case measure=>simp [intOf];omega
  ·have Hd:Hid (s.data.toList.drop k=[]):=zH (List.drop_of_length_le (by rw [← Lib.size_eq];omega))
   have Hf:Hid (s.extract 0 k=strB (ldig s.data.toList)):=zH (Hend.out (by rw [H.out,Hd.out];simp [ldig]))
   clear Hend H Hd
   go_wp2
   go_ret
   exact⟨by rw [← Hf.out]<;>rfl,rfl⟩
def numL (l:List UInt8):Int:=l.foldl (fun n c=>10*n+((c.toNat:Int)-48)) 0
theorem numL_snoc (l:List UInt8) (c:UInt8):numL (l++[c])=10*numL l+((c.toNat:Int)-48):=by simp [numL]
theorem numL_bd:∀(l:List UInt8) (n:Int) (b:Nat),0≤n→n<10 ^ b→l.all (fun c=>digI c.toNat)=true→0≤l.foldl (fun n c=>10*n+((c.toNat:Int)-48)) n∧l.foldl (fun n c=>10*n+((c.toNat:Int)-48)) n<10 ^ (b+l.length)
 | [],_,_,h0,h1,_=>⟨h0,h1⟩
 | c :: l,n,b,h0,h1,h=>by
  simp only [List.all_cons,Bool.and_eq_true]at h
  obtain⟨x,y⟩:=(digI_iff _).1 h.1
  have:=numL_bd l (10*n+((c.toNat:Int)-48)) (b+1) (by omega) (by rw [Int.pow_succ];omega) h.2
  simp only [List.foldl_cons,List.length_cons]
  rw [show b+(l.length+1)=b+1+l.length by omega]
  exact this
theorem pow_mono (a b:Nat) (h:a≤b):(10:Int) ^ a≤10 ^ b:=by
 have:=Nat.pow_le_pow_right (n:=10) (by decide) h
 exact_mod_cast this
theorem numL_in (l:List UInt8) (h:l.all (fun c=>digI c.toNat)=true) (hl:l.length≤15):0≤numL l∧numL l<1000000000000000:=by
 obtain⟨a,b⟩:=numL_bd l 0 0 (by omega) (by decide) h
 refine⟨a,Int.lt_of_lt_of_le b ?_⟩
 have:=pow_mono (0+l.length) 15 (by omega)
 exact this
theorem number_any (s:ByteArray) (w:World) (hs:s.size≤15) (hall:s.data.toList.all (fun c=>digI c.toNat)=true) :
  Calls Tryz.prog 263 #[.string s] w fun e w'=>e=.returned (.int .i64 (numL s.data.toList))∧w=w':=by
 have Hall:=zH hall
 clear hall
 go_enter Tryz.func263,Tryz.ntmps263
 go_wp2
 go_loop [3,7] (fun n i=>∃k:Nat,k≤s.size∧i=.int .i64 k∧n=.int .i64 (numL (s.data.toList.take k))) (fun _ i=>s.size-(intOf i).toNat)
 case atStart=>exact⟨0,by omega,rfl,rfl⟩
 case round =>
  obtain⟨k,hk,rfl,rfl⟩:=hrel
  by_cases hlt:k<s.size
  ·obtain⟨n0,n1⟩:=numL_in (s.data.toList.take k) (by
    rw [List.all_eq_true]
    intro x hx
    exact List.all_eq_true.1 Hall.out x (List.mem_of_mem_take hx)) (by rw [List.length_take];omega)
   have Hs:Hid (numL (s.data.toList.take (k+1))=10*numL (s.data.toList.take k)+((s[k].toNat:Int)-48)):=zH (by rw [take_snoc s k hlt,numL_snoc])
   have hd:digI (s[k].toNat:Int)=true:=List.all_eq_true.1 Hall.out s[k] (Array.getElem_mem_toList hlt)
   obtain⟨h48,h57⟩:=(digI_iff _).1 hd
   clear hd
   generalize numL (s.data.toList.take k)=m at n0 n1 Hs
   go_wp2
   go_round
   case rel=>exact⟨k+1,by omega,by go_num,by rw [Hs.out]⟩
   case measure=>simp [intOf];omega
  ·have Hk:Hid (s.data.toList.take k=s.data.toList):=zH (take_all s k (by omega))
   go_wp2
   go_ret
   exact⟨ret_eq (int_eq (by rw [Hk.out])),rfl⟩
def cutV (l:List UInt8) (c:UInt8):Value:=
 if Lib.indexByte l c=-1 then .tuple #[.string (strB l),.string ⟨#[]⟩,.bool false]
 else .tuple #[.string (strB (l.take (Lib.indexByte l c).toNat)),.string (strB (l.drop ((Lib.indexByte l c).toNat+1))),.bool true]
def cutPost (v:Value) (w:World) (e:Ending) (w':World):Prop:=e=.returned v∧Below w.heap.size w w'
theorem index_le (l:List UInt8) (c:UInt8) (h:Lib.indexByte l c≠-1):0≤Lib.indexByte l c∧(Lib.indexByte l c).toNat<l.length:=by
 have h1:=Lib.indexByte_ge l c
 have h2:0≤Lib.indexByte l c:=by omega
 refine⟨h2,?_⟩
 obtain⟨o,ho⟩:=Int.eq_ofNat_of_zero_le h2
 obtain⟨h3,_⟩:=Lib.indexByte_some (l:=l) (c:=c) (o:=o) ho
 rw [ho]
 exact(List.getElem?_eq_some_iff.1 h3).1
theorem slCut_any (s:ByteArray) (c:UInt8) (w:World) (hs:s.size≤100000) :
  Calls Tryz.prog 173 #[.string s,.string ⟨#[c]⟩] w (cutPost (cutV s.data.toList c) w):=by
 have cI:=(Tryz.stringslite_Index_one s c w).mono (R':=fun e w'=>e=.returned (.int .i64 (Lib.indexByte s.data.toList c))∧w=w') (fun e w' h=>⟨h.1,h.2.symm⟩)
 by_cases h:Lib.indexByte s.data.toList c=-1
 ·have hv:cutV s.data.toList c=.tuple #[.string s,.string ⟨#[]⟩,.bool false]:=by rw [cutV,if_pos h,strB_of]
  rw [hv]
  rw [h]at cI
  clear hv h
  go_enter Tryz.func173,Tryz.ntmps173
  go_wp2_with (go_at_call 206;refine cI.mono ?_;rintro e w' ⟨rfl,rfl⟩)
  exact bodyPost_ret (v:=.tuple #[.string s,.string ⟨#[]⟩,.bool false]) (by simp [results,Tryz.results173,go_sem]) rfl ⟨rfl,Below.refl _ _⟩
 ·obtain⟨h0,h1⟩:=index_le _ _ h
  rw [← Lib.size_eq]at h1
  obtain⟨o,ho⟩:=Int.eq_ofNat_of_zero_le h0
  have hv:cutV s.data.toList c=.tuple #[.string (s.extract 0 o),.string (s.extract (o+1) s.size),.bool true]:=by
   rw [cutV,if_neg h,ho,Int.toNat_natCast,← extract_take,← Lib.extract_to_end,strB_of,strB_of]
  rw [hv]
  rw [ho]at cI h1
  rw [Int.toNat_natCast]at h1
  clear hv h h0 ho
  have hge:decide ((0:Int)≤(o:Int))=true:=by simp
  have W1:Hid (IntKind.i64.wrap ((o:Int)+1)=(o:Int)+1):=zH (IntWalk.i64_in _ (by omega))
  have T1:Hid (((o:Int)+1).toNat=o+1):=zH (by omega)
  have L1:Hid ((0:Int)≤(o:Int)+1):=zH (by omega)
  have L2:Hid ((o:Int)+1≤(s.size:Int)):=zH (by omega)
  have L3:Hid ((o:Int)≤(s.size:Int)):=zH (by omega)
  go_enter Tryz.func173,Tryz.ntmps173
  go_wp2_with (go_at_call 206;refine cI.mono ?_;rintro e w' ⟨rfl,rfl⟩)
  have a1:=W1.out
  have a2:=T1.out
  have a3:=L1.out
  have a4:=L2.out
  have a5:=L3.out
  have a6:o≤s.size:=by omega
  go_quiet (fail)
  clear a1 a2 a3 a4 a5
  go_wp2
  exact bodyPost_ret (v:=.tuple #[.string (s.extract 0 o),.string (s.extract (o+1) s.size),.bool true]) (by simp [results,Tryz.results173,go_sem]) rfl ⟨rfl,below_drewN _ _⟩
theorem cut_any (s:ByteArray) (c:UInt8) (w:World) (hs:s.size≤100000) :
  Calls Tryz.prog 134 #[.string s,.string ⟨#[c]⟩] w (cutPost (cutV s.data.toList c) w):=by
 have cS:=slCut_any s c w hs
 have hex:∃a b r,cutV s.data.toList c=.tuple #[.string a,.string b,.bool r]:=by
  rw [cutV]
  split
  ·exact⟨_,_,_,rfl⟩
  ·exact⟨_,_,_,rfl⟩
 obtain⟨a,b,r,he⟩:=hex
 rw [he]at cS ⊢
 clear he
 go_enter Tryz.func134,Tryz.ntmps134
 go_wp2_with (go_at_call 173;refine cS.mono ?_;rintro e w1 ⟨rfl,hb1⟩)
 exact bodyPost_ret (v:=.tuple #[.string a,.string b,.bool r]) (by simp [results,Tryz.results134,go_sem]) rfl ⟨rfl,hb1⟩
theorem inToken_any_TokA (c:Int) (w:World) :
  Calls Tryz.prog 174 #[.int .u8 c] w fun e w'=>e=.returned (.bool (tchI c))∧w=w':=by
 have cL:=isLetter_any_LtrA c w
 have cD:=isDigit_any_AscN c w
 have cI:=Tryz.strings_IndexByte ⟨#[33,35,36,37,38,39,42,43,45,46,94,95,96,124,126]⟩ c w
 have hd:tchI c=(ltrI c||digI c||decide (0≤Lib.indexByte marksL c.toNat.toUInt8)):=rfl
 have hm:(⟨#[33,35,36,37,38,39,42,43,45,46,94,95,96,124,126]⟩:ByteArray).data.toList=marksL:=rfl
 rw [hm]at cI
 clear hm
 generalize Lib.indexByte marksL c.toNat.toUInt8=n at cI hd
 generalize ltrI c=l at cL hd
 generalize digI c=d at cD hd
 rw [hd]
 clear hd
 cases l<;>cases d
 all_goals
  go_enter Tryz.func174,Tryz.ntmps174
  go_wp2_with (first | (go_at_call 207;refine cL.mono ?_;rintro e w' ⟨rfl,rfl⟩) | (go_at_call 169;refine cD.mono ?_;rintro e w' ⟨rfl,rfl⟩) | (go_at_call 208;refine cI.mono ?_;rintro e w' ⟨rfl,rfl⟩))
  go_ret
  exact⟨rfl,rfl⟩
theorem token_any_TokA (s:ByteArray) (w:World) (hs:s.size≤maxLen) :
  Calls Tryz.prog 135 #[.string s] w fun e w'=>e=.returned (.bool (tokL s.data.toList))∧w=w':=by
 unfold maxLen at hs
 go_enter Tryz.func135,Tryz.ntmps135
 go_wp2
 go_loop [6] (fun i=>∃k:Nat,k≤s.size∧i=.int .i64 k∧Hid ((s.data.toList.take k).all (fun c=>tchI c.toNat)=true)) (fun i=>s.size-(intOf i).toNat)
 case atStart=>exact⟨0,Nat.zero_le _,rfl,zH rfl⟩
 case round =>
  obtain⟨k,hk,rfl,Hall⟩:=hrel
  by_cases hlt:k<s.size
  ·have cT:=inToken_any_TokA (s[k].toNat:Int) w
   cases hd:tchI (s[k].toNat:Int)
   ·have Hf:=zH (all_false_of (fun c=>tchI c.toNat) s k hlt hd)
    rw [hd]at cT
    clear hd
    go_wp2_with (go_at_call 174;refine cT.mono ?_;rintro e w' ⟨rfl,rfl⟩)
    go_ret
    exact⟨by simp [tokL,Hf.out],rfl⟩
   ·have Ha:=zH (all_snoc (fun c=>tchI c.toNat) s k hlt)
    rw [hd]at cT
    have Hd:=zH hd
    clear hd
    go_wp2_with (go_at_call 174;refine cT.mono ?_;rintro e w' ⟨rfl,rfl⟩)
    go_round
    case rel=>exact⟨k+1,by omega,by go_num,zH (by rw [Ha.out,Hd.out,Bool.and_true];exact Hall.out)⟩
    case measure=>simp [intOf];omega
  ·have hk':s.size≤k:=by omega
   go_wp2
   go_ret
   refine⟨ret_eq (bool_eq ?_),rfl⟩
   rw [take_all s k hk']at Hall
   rw [tokL,Hall.out,Lib.toList_data,Bool.true_and]
theorem indexRune_invalid (s:ByteArray) (r:Int) (w:World) (h0:55296≤r) (h1:r≤57343) :
  Calls Tryz.prog 218 #[.string s,.int .i32 r] w fun e w'=>e=.returned (.int .i64 (-1))∧Below w.heap.size w w':=by
 have cV:=Tryz.utf8_ValidRune r w
 have hv:Lib.validRune r=false:=by unfold Lib.validRune;simp;omega
 rw [hv]at cV
 clear hv
 go_enter Tryz.func218,Tryz.ntmps218
 go_wp2_with (go_at_call 234;refine cV.mono ?_;rintro e w' ⟨rfl,rfl⟩)
 go_ret
 exact⟨rfl,Below.refl _ _⟩
theorem indexRune_error (s:ByteArray) (w:World) (ha:∀pos (h:pos<s.size),(s[pos]'h).toNat<128) :
  Calls Tryz.prog 218 #[.string s,.int .i32 65533] w fun e w'=>e=.returned (.int .i64 (-1))∧Below w.heap.size w w':=by
 go_enter Tryz.func218,Tryz.ntmps218
 go_wp2_with fail
 go_loopg [] s.size (fun gf wx=>∃pos:Nat,wx.heap[w.heap.size]? = some (.stringIter s pos)∧Below w.heap.size w wx∧s.size≤pos+gf)
 case atStart=>exact⟨0,World.iter_heap w s 0,(Below.refl _ w).alloc (Nat.le_refl _) _,by omega⟩
 case round =>
  obtain⟨pos,hit,hbw,hfu⟩:=hrel
  by_cases hps:pos<s.size
  ·obtain⟨g',rfl⟩:∃g',gk=g'+1:=⟨gk-1,by omega⟩
   have ha1:=ha pos hps
   have hnx:∀ty,(Instr.next (.pointer (some ⟨w.heap.size,0,none⟩)) true ty).run Tryz.prog wr=_:=fun ty=>Lib.run_next_ascii_at wr w.heap.size s pos ty hit hps ha1
   have hne:(((s[pos]'hps).toNat:Int)==65533)=false:=by simp;omega
   have hit2:=Lib.iterAt_heap wr w.heap.size s pos (pos+1) hit
   have hbw2:=Lib.below_iterAt hbw (k:=w.heap.size) (Nat.le_refl _) s (pos+1)
   clear ha
   generalize wr.iterAt w.heap.size s (pos+1)=W at hnx hit2 hbw2
   go_wp2
   go_roundg g'
   case measure=>omega
   case rel=>exact⟨pos+1,hit2,hbw2,by omega⟩
  ·have hnx:∀ty,(Instr.next (.pointer (some ⟨w.heap.size,0,none⟩)) true ty).run Tryz.prog wr=_:=fun ty=>Lib.run_next_end_at wr w.heap.size s pos ty hit hps
   go_wp2
   go_ret
   exact⟨rfl,hbw⟩
theorem quiet_add_same {P:Program} {f:FuncId} {args:Array Value} {w:World} {a n:Nat} {v:Value}
  (h:Calls P f args (w.drewN (a+n)) fun e w'=>e=.returned v∧w'=w.drewN (a+n)) :
  Calls P f args (w.drewN (a+n)) fun e w''=>e=.returned v∧∃m,w''=w.drewN (a+m):=
 h.mono fun _ _ ⟨he,hm⟩=>⟨he,n,hm⟩
theorem encode_cases (r:Int) (h0:128≤r):(∃x y:UInt8,128≤y.toNat∧Utf8.encode r=⟨#[x,y]⟩)∨(∃x y z:UInt8,Utf8.encode r=⟨#[x,y,z]⟩)∨(∃x y z u:UInt8,Utf8.encode r=⟨#[x,y,z,u]⟩):=by
 have hc:∃c:Nat,128≤c∧(if Utf8.valid r then r.toNat else Utf8.runeError)=c:=by
  split
  ·exact⟨_,by omega,rfl⟩
  ·exact⟨_,by decide,rfl⟩
 obtain⟨c,h,e⟩:=hc
 unfold Utf8.encode
 simp only [e]
 rw [if_neg (by omega)]
 split
 ·refine .inl ⟨_,_,?_,rfl⟩
  rw [UInt8.toNat_ofNat']
  omega
 ·split
  ·exact .inr (.inl ⟨_,_,_,rfl⟩)
  ·exact .inr (.inr ⟨_,_,_,_,rfl⟩)
theorem indexRune_valid (r:Int) (w:World) (h0:128≤r) (h1:r≤1114111) (h2:r<55296∨57343<r) (h3:(r==65533)=false) :
  Calls Tryz.prog 218 #[.string ⟨#[32,9]⟩,.int .i32 r] w fun e w'=>e=.returned (.int .i64 (-1))∧Below w.heap.size w w':=by
 have cV:=Tryz.utf8_ValidRune r w
 have hv:Lib.validRune r=true:=by unfold Lib.validRune;simp;omega
 rw [hv]at cV
 clear hv
 rcases encode_cases r h0 with ⟨x,y,hy,he⟩ | ⟨x,y,z,he⟩ | ⟨x,y,z,u,he⟩
 ·have hne:((((⟨#[32,9]⟩:ByteArray)[1]'(by decide)).toNat:Int) != ((((⟨#[x,y]⟩:ByteArray)[1]'(Nat.lt_succ_self 1))).toNat:Int))=true:=by
   have h9:((9:Int) != (y.toNat:Int))=true:=by simp;omega
   exact h9
  go_enter Tryz.func218,Tryz.ntmps218
  go_wp2_with (go_at_call 234;refine cV.mono ?_;rintro e w' ⟨rfl,rfl⟩)
  go_step3
  go_wp2_with fail
  refine wp_loop_rounds 1 ?_
  rw [rounds_succ]
  go_wp2_with fail
  go_step3
  go_wp2_with fail
  go_quiet (fail)
  go_wp2_with fail
  go_quiet ((go_at_call 208;exact quiet_add_same (Tryz.strings_IndexByte _ _ _)))
  go_wp2_with fail
  rw [Exit.noGoto_ret]
  go_wp2_with fail
  rw [Exit.noGoto_ret]
  go_ret
  exact⟨rfl,below_drewNg _ _⟩
 ·go_enter Tryz.func218,Tryz.ntmps218
  go_wp2_with (go_at_call 234;refine cV.mono ?_;rintro e w' ⟨rfl,rfl⟩)
  go_step3
  go_wp2_with fail
  refine wp_loop_rounds 1 ?_
  rw [rounds_succ]
  go_wp2
  rw [Exit.noGoto_ret]
  go_ret
  exact⟨rfl,Below.refl _ _⟩
 ·go_enter Tryz.func218,Tryz.ntmps218
  go_wp2_with (go_at_call 234;refine cV.mono ?_;rintro e w' ⟨rfl,rfl⟩)
  go_step3
  go_wp2_with fail
  refine wp_loop_rounds 1 ?_
  rw [rounds_succ]
  go_wp2
  rw [Exit.noGoto_ret]
  go_ret
  exact⟨rfl,Below.refl _ _⟩
theorem containsRune_big (r:Nat) (w:World) (h0:128≤r) (h1:r≤1114111) :
  Calls Tryz.prog 195 #[.string ⟨#[32,9]⟩,.int .i32 r] w fun e w'=>e=.returned (.bool false)∧Below w.heap.size w w':=by
 have cI:Calls Tryz.prog 218 #[.string ⟨#[32,9]⟩,.int .i32 r] w fun e w'=>e=.returned (.int .i64 (-1))∧Below w.heap.size w w':=by
  by_cases h2:55296≤r∧r≤57343
  ·exact indexRune_invalid _ _ _ (by omega) (by omega)
  ·by_cases h3:r=65533
   ·subst h3
    exact indexRune_error _ _ (by
     intro pos h
     match pos,h with
     | 0,_=>exact(show(32:UInt8).toNat<128 by decide)
     | 1,_=>exact(show(9:UInt8).toNat<128 by decide))
   ·exact indexRune_valid _ _ (by omega) (by omega) (by omega) (by simp;omega)
 go_enter Tryz.func195,Tryz.ntmps195
 go_wp2_with (go_at_call 218;refine cI.mono ?_;rintro e w' ⟨rfl,hb⟩)
 go_ret
 exact⟨rfl,hb⟩
structure Cal (w:World):Prop where
 md:∀j,j<12→w.cell? ⟨1,j,none⟩=some (.int .i64 (mdT.getD j 0:Nat))
 wk:∀j,j<7→w.cell? ⟨0,j,none⟩=some (.string (strB (wkT j)))
 mo:∀j,j<12→w.cell? ⟨3,j,none⟩=some (.string (strB (moT (j+1))))
theorem Cal.below {w w':World} (h:Cal w) (hb:Below w.heap.size w w'):Cal w':=
 ⟨fun j hj=>(hb.cell (p:=⟨_,j,none⟩) (lt_of_cell (h.md j hj))).trans (h.md j hj),fun j hj=>(hb.cell (p:=⟨_,j,none⟩) (lt_of_cell (h.wk j hj))).trans (h.wk j hj),fun j hj=>(hb.cell (p:=⟨_,j,none⟩) (lt_of_cell (h.mo j hj))).trans (h.mo j hj)⟩
theorem Cal.drew {w:World} (h:Cal w) (n:Nat):Cal (w.drewN n):=⟨h.md,h.wk,h.mo⟩
def lpI (x:Int):Int:=(x-1) / 4-(x-1) / 100+(x-1) / 400
theorem lpI_nat (y:Nat) (h:1≤y):lpI y=(lpN y:Nat):=by unfold lpI lpN;omega
theorem leapsI_any (x:Int) (w:World) (h1:1≤x) (h2:x≤20000) :
  Calls Tryz.prog 216 #[.int .i64 x] w fun e w'=>e=.returned (.int .i64 (lpI x))∧w=w':=by
 unfold lpI
 go_enter Tryz.func216,Tryz.ntmps216
 go_wp2
 go_ret
 exact⟨rfl,rfl⟩
theorem leaps_any (y:Nat) (w:World) (h1:1≤y) (h2:y≤20000) :
  Calls Tryz.prog 216 #[.int .i64 y] w fun e w'=>e=.returned (.int .i64 (lpN y:Nat))∧w=w':=by
 rw [← lpI_nat y h1]
 exact leapsI_any y w (by omega) (by omega)
theorem daysBefore_any (y:Nat) (w:World) (h1:1970≤y) (h2:y≤19999) :
  Calls Tryz.prog 189 #[.int .i64 y] w fun e w'=>e=.returned (.int .i64 (dbN y:Nat))∧w=w':=by
 have c1:=leaps_any y w (by omega) (by omega)
 have c2:=leaps_any 1970 w (by omega) (by omega)
 rw [show lpN 1970=477 by decide]at c2
 have hg:=lp_ge h1
 have hl:=lp_le h1
 have hv:(dbN y:Int)=365*((y:Int)-1970)+(lpN y:Int)-477:=by unfold dbN;omega
 rw [hv]
 clear hv
 generalize lpN y=l at *
 go_enter Tryz.func189,Tryz.ntmps189
 go_wp2_with fail
 refine c1.mono ?_
 rintro e w1 ⟨rfl,rfl⟩
 go_wp2_with fail
 refine c2.mono ?_
 rintro e w1 ⟨rfl,rfl⟩
 go_wp2_with fail
 go_ret
 exact⟨rfl,rfl⟩
theorem weekday_any (k:Int) (w:World) (h0:-9223372036854775808≤k) (h1:k≤9223372036854775807) :
  Calls Tryz.prog 152 #[.int .i64 k] w fun e w'=>e=.returned (.int .i64 (if k<0 then 0 else(k % 7+4) % 7))∧w=w':=by
 by_cases h:k<0
 ·rw [if_pos h]
  have d1:decide (k<0)=true:=by simpa using h
  go_enter Tryz.func152,Tryz.ntmps152
  go_wp2
  go_ret
  exact⟨rfl,rfl⟩
 ·rw [if_neg h]
  obtain⟨k,rfl⟩:=Int.eq_ofNat_of_zero_le (show 0≤k by omega)
  have d1:decide ((k:Int)<0)=false:=by simp
  go_enter Tryz.func152,Tryz.ntmps152
  go_wp2
  go_ret
  exact⟨rfl,rfl⟩
theorem fullYear_any (n:Nat) (w:World) (h:n≤99) :
  Calls Tryz.prog 185 #[.int .i64 n] w fun e w'=>e=.returned (.int .i64 (fyN n:Nat))∧w=w':=by
 unfold fyN
 by_cases h7:1970≤1900+n
 ·rw [if_pos h7,show((1900+n:Nat):Int)=1900+(n:Int)by omega]
  have d1:(1970:Int)≤1900+(n:Int):=by omega
  go_enter Tryz.func185,Tryz.ntmps185
  go_wp2
  go_ret
  exact⟨rfl,rfl⟩
 ·rw [if_neg h7,show((2000+n:Nat):Int)=2000+(n:Int)by omega]
  have d1:¬(1970:Int)≤1900+(n:Int):=by omega
  go_enter Tryz.func185,Tryz.ntmps185
  go_wp2
  go_ret
  exact⟨rfl,rfl⟩
theorem quiet_same {P:Program} {f:FuncId} {args:Array Value} {w:World} {n:Nat} {v:Value}
  (h:Calls P f args (w.drewN n) fun e w'=>e=.returned v∧w.drewN n=w') :
  Calls P f args (w.drewN n) fun e w''=>e=.returned v∧∃m,w''=w.drewN m:=
 h.mono fun _ _ ⟨he,hm⟩=>⟨he,n,hm.symm⟩
theorem wrap_small (x:Int) (h0:-9223372036854775808≤x) (h1:x≤9223372036854775807):IntKind.i64.wrap x=x:=by
 rw [IntKind.wrap_i64]
 omega
theorem monthLength_any (y m:Nat) (w:World) (h1:1970≤y) (h2:y≤19999) (h3:1≤m) (h4:m≤12) (hC:Cal w) :
  Calls Tryz.prog 190 #[.int .i64 y,.int .i64 m] w fun e w'=>e=.returned (.int .i64 (mlN y m:Nat))∧Below w.heap.size w w':=by
 have hc:=hC.md (m-1) (by omega)
 clear hC
 have e0:((m:Int)-1)=((m-1:Nat):Int):=by omega
 unfold mlN
 by_cases hm:m=2
 ·subst hm
  rw [if_pos rfl]
  have c1:=fun x W=>leapsI_any x W
  have g1:=lp_step h1
  have g2:=lp_ge h1
  have g3:=lp_le h1
  have e1:lpI ((y:Int)+1)=(lpN (y+1):Nat):=by rw [← lpI_nat (y+1) (by omega)]<;>rfl
  have e2:lpI (y:Int)=(lpN y:Nat):=lpI_nat y (by omega)
  have hv:((28+(lpN (y+1)-lpN y):Nat):Int)=28+lpI ((y:Int)+1)-lpI (y:Int):=by rw [e1,e2];omega
  rw [hv]
  clear hv e0
  have w3:=wrap_small (28+lpI ((y:Int)+1)) (by omega) (by omega)
  have w4:=wrap_small (28+lpI ((y:Int)+1)-lpI (y:Int)) (by omega) (by omega)
  have w2:=wrap_small ((y:Int)+1) (by omega) (by omega)
  clear e1 e2 g1 g2 g3
  rw [show((mdT.getD (2-1) 0:Nat):Int)=28 by decide]at hc
  have hc2:w.cell? ⟨1,1,none⟩=some (.int .i64 28):=hc
  clear hc
  show Calls Tryz.prog 190 #[.int .i64 y,.int .i64 2] w _
  have w1:IntKind.i64.wrap 1=1:=by decide
  go_enter Tryz.func190,Tryz.ntmps190
  go_wp2_with fail
  go_quiet ((go_at_call 216;exact quiet_same (c1 _ _ (by omega) (by omega))))
  go_wp2_with fail
  go_ret
  exact⟨rfl,below_drewN _ _⟩
 ·rw [if_neg hm]
  have d1:((m:Int)==2)=false:=by simp;omega
  generalize mdT.getD (m-1) 0=l at *
  go_enter Tryz.func190,Tryz.ntmps190
  go_wp2
  go_ret
  exact⟨rfl,Below.refl _ _⟩
def dayI (y m d:Int):Bool:=decide (0≤y∧0≤m∧0≤d∧DayOk y.toNat m.toNat d.toNat)
theorem dayI_nat (y m d:Nat):dayI y m d=decide (DayOk y m d):=by
 unfold dayI
 rw [Bool.eq_iff_iff]
 simp only [decide_eq_true_eq,Int.toNat_natCast]
 exact⟨fun h=>h.2.2.2,fun h=>⟨by omega,by omega,by omega,h⟩⟩
theorem dayI_no {y m d:Int} (h:¬(1970≤y∧y≤9999∧1≤m∧m≤12∧1≤d)):dayI y m d=false:=by
 unfold dayI
 rw [decide_eq_false_iff_not]
 rintro⟨h1,h2,h3,k⟩
 have:=k.y1
 have:=k.y2
 have:=k.m1
 have:=k.m2
 have:=k.d1
 omega
theorem isDay_any (y m d:Int) (w:World) (hC:Cal w) :
  Calls Tryz.prog 188 #[.int .i64 y,.int .i64 m,.int .i64 d] w fun e w'=>e=.returned (.bool (dayI y m d))∧Below w.heap.size w w':=by
 have HC:=zH hC
 clear hC
 by_cases hin:1970≤y∧y≤9999∧1≤m∧m≤12∧1≤d
 ·obtain⟨q1,q2,q3,q4,q5⟩:=hin
  obtain⟨y,rfl⟩:=Int.eq_ofNat_of_zero_le (show 0≤y by omega)
  obtain⟨m,rfl⟩:=Int.eq_ofNat_of_zero_le (show 0≤m by omega)
  obtain⟨d,rfl⟩:=Int.eq_ofNat_of_zero_le (show 0≤d by omega)
  have cL:=fun W hW=>monthLength_any y m W (by omega) (by omega) (by omega) (by omega) hW
  have hv:dayI (y:Int) m d=decide (d≤mlN y m):=by
   rw [dayI_nat,Bool.eq_iff_iff]
   simp only [decide_eq_true_eq]
   exact⟨fun h=>h.d2,fun h=>⟨by omega,by omega,by omega,by omega,by omega,h⟩⟩
  rw [hv]
  clear hv
  generalize mlN y m=l at *
  have d1:decide (1970≤(y:Int))=true:=by simpa using q1
  have d2:decide ((y:Int)≤9999)=true:=by simpa using q2
  have d3:decide (1≤(m:Int))=true:=by simpa using q3
  have d4:decide ((m:Int)≤12)=true:=by simpa using q4
  have d5:decide (1≤(d:Int))=true:=by simpa using q5
  go_enter Tryz.func188,Tryz.ntmps188
  go_wp2_with fail
  refine(cL _ HC.out).mono ?_
  rintro e w1 ⟨rfl,hb1⟩
  go_wp2_with fail
  go_ret
  exact⟨rfl,hb1⟩
 ·rw [dayI_no hin]
  by_cases q1:1970≤y
  ·have d1:decide (1970≤y)=true:=by simpa using q1
   by_cases q2:y≤9999
   ·have d2:decide (y≤9999)=true:=by simpa using q2
    by_cases q3:1≤m
    ·have d3:decide (1≤m)=true:=by simpa using q3
     by_cases q4:m≤12
     ·have d4:decide (m≤12)=true:=by simpa using q4
      have d5:decide (1≤d)=false:=by simp;omega
      clear hin
      go_enter Tryz.func188,Tryz.ntmps188
      go_wp2_with fail
      go_ret
      exact⟨rfl,Below.refl _ _⟩
     ·have d4:decide (m≤12)=false:=by simpa using q4
      clear hin
      go_enter Tryz.func188,Tryz.ntmps188
      go_wp2_with fail
      go_ret
      exact⟨rfl,Below.refl _ _⟩
    ·have d3:decide (1≤m)=false:=by simpa using q3
     clear hin
     go_enter Tryz.func188,Tryz.ntmps188
     go_wp2_with fail
     go_ret
     exact⟨rfl,Below.refl _ _⟩
   ·have d2:decide (y≤9999)=false:=by simpa using q2
    clear hin
    go_enter Tryz.func188,Tryz.ntmps188
    go_wp2_with fail
    go_ret
    exact⟨rfl,Below.refl _ _⟩
  ·have d1:decide (1970≤y)=false:=by simpa using q1
   clear hin
   go_enter Tryz.func188,Tryz.ntmps188
   go_wp2_with fail
   go_ret
   exact⟨rfl,Below.refl _ _⟩
def daysV (y m d:Int):Value:=if dayI y m d then .tuple #[.int .i64 (daysN y.toNat m.toNat d.toNat:Nat),.int .i64 0]else .tuple #[.int .i64 0,.int .i64 1]
theorem days_any (y m d:Int) (w:World) (hC:Cal w) :
  Calls Tryz.prog 151 #[.int .i64 y,.int .i64 m,.int .i64 d] w fun e w'=>e=.returned (daysV y m d)∧Below w.heap.size w w':=by
 have cI:=isDay_any y m d w hC
 have HC:=zH hC
 clear hC
 unfold daysV
 cases hd:dayI y m d
 ·rw [hd]at cI
  rw [if_neg (by simp)]
  clear hd
  go_enter Tryz.func151,Tryz.ntmps151
  go_wp2_with fail
  refine cI.mono ?_
  rintro e w1 ⟨rfl,hb1⟩
  go_wp2_with fail
  exact bodyPost_ret (v:=.tuple #[.int .i64 0,.int .i64 1]) (by simp [results,Tryz.results151,go_sem]) rfl ⟨rfl,hb1⟩
 ·rw [hd]at cI
  rw [if_pos rfl]
  unfold dayI at hd
  obtain⟨q1,q2,q3,hk⟩:=of_decide_eq_true hd
  clear hd
  obtain⟨y,rfl⟩:=Int.eq_ofNat_of_zero_le q1
  obtain⟨m,rfl⟩:=Int.eq_ofNat_of_zero_le q2
  obtain⟨d,rfl⟩:=Int.eq_ofNat_of_zero_le q3
  simp only [Int.toNat_natCast]at hk cI ⊢
  have hy1:=hk.y1
  have hy2:=hk.y2
  have hm1:=hk.m1
  have hm2:=hk.m2
  have hd1:=hk.d1
  have hlt:=days_bound hk
  have cB:=fun W=>daysBefore_any y W (by omega) (by omega)
  have hH:Hid (daysN y m d=dbN y+msN y (m-1)+d-1):=zH rfl
  have hH2:dbN y+msN y (m-1)+d≤3000000:=by unfold daysN at hlt;omega
  clear hlt q1 q2 q3 hk
  generalize hb0:dbN y=b at cB hH hH2
  clear hb0
  go_enter Tryz.func151,Tryz.ntmps151
  go_wp2_with fail
  refine cI.mono ?_
  rintro e w1 ⟨rfl,hb1⟩
  go_wp2_with fail
  refine(cB _).mono ?_
  rintro e w2 ⟨rfl,rfl⟩
  go_wp2_with fail
  go_loopw [8,9] (fun x i wr=>∃k:Nat,i=.int .i64 k∧1≤k∧k≤m∧x=.int .i64 (b+msN y (k-1):Nat)∧Below w.heap.size w wr) (fun _ i _=>m-(intOf i).toNat)
  case atStart=>exact⟨1,rfl,by omega,by omega,rfl,hb1⟩
  case round =>
   obtain⟨k,rfl,hk1,hkm,rfl,hb⟩:=hrel
   by_cases hlt:k<m
   ·have cL:=fun W hW=>monthLength_any y k W (by omega) (by omega) (by omega) (by omega) hW
    have hCr:Hid (Cal wr):=zH (HC.out.below hb)
    have hs:msN y (k+1-1)=msN y (k-1)+mlN y k:=by
     obtain⟨j,rfl⟩:∃j,k=j+1:=⟨k-1,by omega⟩
     exact ms_step y j
    have hmo:=ms_mono (y:=y) (a:=k+1-1) (b:=m-1) (by omega)
    rw [hs]at hmo
    have Hs:=zH hs
    clear hs
    generalize mlN y k=l at cL hmo Hs
    generalize hq:msN y (k-1)=q at hmo Hs
    generalize msN y (m-1)=z at hmo hH hH2
    go_wp2_with fail
    refine(cL _ hCr.out).mono ?_
    rintro e w3 ⟨rfl,hb3⟩
    go_wp2_with fail
    go_roundw
    case rel=>exact⟨k+1,by go_num,by omega,by omega,by rw [Hs.out];congr 1;omega,hb.trans (hb3.mono hb.size)⟩
    case measure=>simp [intOf];omega
   ·obtain rfl:k=m:=by omega
    go_wp2_with fail
    refine bodyPost_ret (v:=.tuple #[.int .i64 (daysN y k d:Nat),.int .i64 0]) (by simp [results,Tryz.results151,go_sem];rw [hH.out];omega) rfl ⟨rfl,hb⟩
theorem wk_len:∀j:Fin 7,3≤(wkT j.val).length∧(wkT j.val).length≤9:=by decide
theorem fullWeekday_any (j:Nat) (w:World) (hj:j<7) (hC:Cal w) :
  Calls Tryz.prog 147 #[.int .i64 j] w fun e w'=>e=.returned (.string (strB (wkT j)))∧w=w':=by
 have hc:=hC.wk j hj
 clear hC
 generalize strB (wkT j)=s at *
 go_enter Tryz.func147,Tryz.ntmps147
 go_wp2
 go_ret
 exact⟨rfl,rfl⟩
theorem shortWeekday_any (j:Nat) (w:World) (hj:j<7) (hC:Cal w) :
  Calls Tryz.prog 145 #[.int .i64 j] w fun e w'=>e=.returned (.string (strB (wsT j)))∧w=w':=by
 have hc:=hC.wk j hj
 clear hC
 have hs:3≤(strB (wkT j)).size∧(strB (wkT j)).size≤9:=by rw [strB_size];exact wk_len ⟨j,hj⟩
 have hv:strB (wsT j)=(strB (wkT j)).extract 0 3:=(strB_take _ _).symm
 rw [hv]
 clear hv
 generalize strB (wkT j)=s at *
 obtain⟨h3,h9⟩:=hs
 go_enter Tryz.func145,Tryz.ntmps145
 go_wp2
 go_ret
 exact⟨rfl,rfl⟩
theorem monthName_any (j:Nat) (w:World) (h1:1≤j) (h2:j≤12) (hC:Cal w) :
  Calls Tryz.prog 213 #[.int .i64 j] w fun e w'=>e=.returned (.string (strB (moT j)))∧w=w':=by
 have hc:=hC.mo (j-1) (by omega)
 rw [show j-1+1=j by omega]at hc
 clear hC
 have e0:((j:Int)-1)=((j-1:Nat):Int):=by omega
 generalize strB (moT j)=s at *
 go_enter Tryz.func213,Tryz.ntmps213
 go_wp2
 go_ret
 exact⟨rfl,rfl⟩
theorem weekday_nat (k:Nat) (w:World) (h1:k≤3000000) :
  Calls Tryz.prog 152 #[.int .i64 k] w fun e w'=>e=.returned (.int .i64 (wdN k:Nat))∧w=w':=by
 refine(weekday_any k w (by omega) (by omega)).mono ?_
 rintro e w' ⟨rfl,rfl⟩
 refine⟨?_,rfl⟩
 congr 2
theorem wdN_lt (k:Nat):wdN k<7:=by unfold wdN;omega
structure Moved_DatE (b:Nat) (w w':World):Prop where
 os:w'.os=w.os
 tape:w'.tape=w.tape
 output:w'.output=w.output
 size:w.heap.size≤w'.heap.size
 block:∀k,k<w.heap.size→k≠b→w'.heap[k]? = w.heap[k]?
theorem Moved_DatE.refl (b:Nat) (w:World):Moved_DatE b w w:=⟨rfl,rfl,rfl,zR _,fun _ _ _=>rfl⟩
theorem Moved_DatE.of_below {b:Nat} {w w':World} (h:Below w.heap.size w w'):Moved_DatE b w w':=⟨h.os,h.tape,h.output,h.size,fun k hk _=>h.block k hk⟩
theorem Moved_DatE.trans {b:Nat} {u v w:World} (h:Moved_DatE b u v) (k:Moved_DatE b v w):Moved_DatE b u w:=
 ⟨k.os.trans h.os,k.tape.trans h.tape,k.output.trans h.output,Nat.le_trans h.size k.size,fun i hi hb=>(k.block i (Nat.lt_of_lt_of_le hi h.size) hb).trans (h.block i hi hb)⟩
theorem Moved_DatE.below {b B:Nat} {w w':World} (h:Moved_DatE b w w') (h1:B≤b) (h2:B≤w.heap.size):Below B w w':=
 ⟨h.os,h.tape,h.output,h.size,fun k hk=>h.block k (Nat.lt_of_lt_of_le hk h2) (by omega)⟩
theorem Moved_DatE.cell {b:Nat} {w w':World} (h:Moved_DatE b w w') {p:Addr} (h1:p.block<w.heap.size) (h2:p.block≠b):w'.cell? p=w.cell? p:=World.cell?_of_block (w:=w) (h.block p.block h1 h2)
theorem Moved_DatE.frozen {b:Nat} {w w':World} (h:Moved_DatE b w w') {p:Addr} (h1:p.block<w.heap.size) (h2:p.block≠b):w'.frozen? p=w.frozen? p:=World.frozen?_of_block (w:=w) (h.block p.block h1 h2)
theorem Moved_DatE.setCell {b o:Nat} {w W:World} (h:Moved_DatE b w W) (v:Value):Moved_DatE b w (W.setCell ⟨b,o,none⟩ v):=by
 exact⟨h.os,h.tape,h.output,by simpa using h.size,fun k hk1 hb=>(Below.heap_setCell W ⟨b,o,none⟩ v k hb).trans (h.block k hk1 hb)⟩
theorem Moved_DatE.drew {b:Nat} {w W:World} (h:Moved_DatE b w W) (n:Nat):Moved_DatE b w (W.drewN n):=⟨h.os,h.tape,h.output,h.size,h.block⟩
structure Txt (w:World) (b:Nat) (s:St):Prop where
 c0:w.cell? ⟨b,0,none⟩=some (.string (strB s.1))
 c1:w.cell? ⟨b,1,none⟩=some (.bool s.2)
 f0:w.frozen? ⟨b,0,none⟩=false
 f1:w.frozen? ⟨b,1,none⟩=false
 sz:s.1.length≤maxLen
theorem Txt.lt {w:World} {b:Nat} {s:St} (h:Txt w b s):b<w.heap.size:=lt_of_cell h.c0
theorem Txt.drew {w:World} {b:Nat} {s:St} (h:Txt w b s) (n:Nat):Txt (w.drewN n) b s:=⟨h.c0,h.c1,h.f0,h.f1,h.sz⟩
theorem Txt.below {w W:World} {b:Nat} {s:St} (h:Txt w b s) (hb:Below w.heap.size w W):Txt W b s:=
 ⟨(hb.cell (p:=⟨b,0,none⟩) h.lt).trans h.c0,(hb.cell (p:=⟨b,1,none⟩) h.lt).trans h.c1,(hb.frozen (p:=⟨b,0,none⟩) h.lt).trans h.f0,(hb.frozen (p:=⟨b,1,none⟩) h.lt).trans h.f1,h.sz⟩
theorem Txt.rest {w:World} {b:Nat} {s:St} (h:Txt w b s) (r:List UInt8) (hr:r.length≤s.1.length):Txt (w.setCell ⟨b,0,none⟩ (.string (strB r))) b (r,s.2):=
 ⟨World.cell?_setCell_same w ⟨b,0,none⟩ _ h.c0,(World.cell?_setCell_other w ⟨b,0,none⟩ ⟨b,1,none⟩ _ (by simp)).trans h.c1,by rw [World.frozen?_setCell];exact h.f0,by rw [World.frozen?_setCell];exact h.f1,Nat.le_trans hr h.sz⟩
theorem Txt.wrong {w:World} {b:Nat} {s:St} (h:Txt w b s):Txt (w.setCell ⟨b,1,none⟩ (.bool true)) b (s.1,true):=
 ⟨(World.cell?_setCell_other w ⟨b,1,none⟩ ⟨b,0,none⟩ _ (by simp)).trans h.c0,World.cell?_setCell_same w ⟨b,1,none⟩ _ h.c1,by rw [World.frozen?_setCell];exact h.f0,by rw [World.frozen?_setCell];exact h.f1,h.sz⟩
theorem Cal.moved {w w':World} {b:Nat} {s:St} (h:Cal w) (ht:Txt w b s) (hm:Moved_DatE b w w'):Cal w':=by
 have n1:1≠b:=by
  rintro rfl
  have:=(h.md 1 (by omega)).symm.trans ht.c1
  simp at this
 have n2:0≠b:=by
  rintro rfl
  have:=(h.wk 1 (by omega)).symm.trans ht.c1
  simp at this
 have n3:3≠b:=by
  rintro rfl
  have:=(h.mo 1 (by omega)).symm.trans ht.c1
  simp at this
 exact⟨fun j hj=>(hm.cell (p:=⟨_,j,none⟩) (lt_of_cell (h.md j hj)) n1).trans (h.md j hj),fun j hj=>(hm.cell (p:=⟨_,j,none⟩) (lt_of_cell (h.wk j hj)) n2).trans (h.wk j hj),fun j hj=>(hm.cell (p:=⟨_,j,none⟩) (lt_of_cell (h.mo j hj)) n3).trans (h.mo j hj)⟩
def txtPost_DatE (v:Value) (b:Nat) (s:St) (w:World) (e:Ending) (w':World):Prop:=e=.returned v∧Txt w' b s∧Moved_DatE b w w'
theorem skip_any (b:Nat) (s:St) (p:ByteArray) (w:World) (h:Txt w b s) :
  Calls Tryz.prog 181 #[.pointer (some ⟨b,0,none⟩),.string p] w (txtPost_DatE (.tuple #[]) b (skL p.data.toList s) w):=by
 have HT:=zH h
 have c0:=h.c0
 have c1:=h.c1
 have f0:=h.f0
 have f1:=h.f1
 clear h
 have cC:=fun W=>Tryz.strings_CutPrefix (strB s.1) p W
 rw [strB_data,Lib.trimPrefix]at cC
 unfold skL
 have hpp:Lib.hasPrefix s.1 p.data.toList=p.data.toList.isPrefixOf s.1:=rfl
 rw [hpp]at cC
 cases hp:p.data.toList.isPrefixOf s.1
 ·rw [hp]at cC
  simp only [Bool.false_eq_true,if_false]at cC ⊢
  generalize(⟨s.1.toArray⟩:ByteArray)=q at cC
  go_enter Tryz.func181,Tryz.ntmps181
  go_wp2_with fail
  refine(cC _).mono ?_
  rintro e w1 ⟨rfl,rfl⟩
  go_wp2_with fail
  exact bodyPost_ret (v:=.tuple #[]) (by simp [results,Tryz.results181,go_sem]) rfl ⟨rfl,HT.out.wrong,(Moved_DatE.refl b _).setCell _⟩
 ·rw [hp]at cC
  simp only [if_true]at cC ⊢
  have hq:(⟨(s.1.drop p.data.toList.length).toArray⟩:ByteArray)=strB (s.1.drop p.data.toList.length):=rfl
  rw [hq]at cC
  clear hq
  have hl:(s.1.drop p.data.toList.length).length≤s.1.length:=by simp
  generalize s.1.drop p.data.toList.length=r at *
  generalize hQ:strB r=q at cC
  have HQ:=zH hQ
  clear hQ
  go_enter Tryz.func181,Tryz.ntmps181
  go_wp2_with fail
  refine(cC _).mono ?_
  rintro e w1 ⟨rfl,rfl⟩
  go_wp2_with fail
  exact bodyPost_ret (v:=.tuple #[]) (by simp [results,Tryz.results181,go_sem]) rfl ⟨rfl,HQ.out▸HT.out.rest r hl,(Moved_DatE.refl b _).setCell _⟩
theorem hasPrefix_one (s:ByteArray) (c:UInt8) (w:World) :
  Calls Tryz.prog 215 #[.string s,.string ⟨#[c]⟩] w fun e w'=>e=.returned (.bool (s.data.toList.head? == some c))∧w=w':=by
 refine(Tryz.strings_HasPrefix s ⟨#[c]⟩ w).mono ?_
 rintro e w' ⟨rfl,rfl⟩
 refine⟨?_,rfl⟩
 congr 2
 rw [show(⟨#[c]⟩:ByteArray).data.toList=[c]from rfl]
 cases hl:s.data.toList with
 | nil=>rfl
 | cons d r =>
  unfold Lib.hasPrefix
  rw [Bool.eq_iff_iff]
  simp only [List.isPrefixOf,Bool.and_true,beq_iff_eq,List.head?_cons,Option.some.injEq]
  exact eq_comm
theorem valL_lt (l:List UInt8) (h:l.all dgt=true):valL_DatP l<10 ^ l.length:=(padL_valL l.length l rfl h).2
theorem nuL_no {k:Nat} {s:St} (h:(decide (k≤s.1.length)&&(s.1.take k).all dgt)=false):nuL k s=(0,s.1,true):=by
 unfold nuL
 rw [h]
 rfl
theorem nuL_yes {k:Nat} {s:St} (h:(decide (k≤s.1.length)&&(s.1.take k).all dgt)=true):nuL k s=(valL_DatP (s.1.take k),s.1.drop k,s.2):=by
 unfold nuL
 rw [h]
 rfl
theorem nuL_lt (k:Nat) (s:St):(nuL k s).1<10 ^ k:=by
 cases h:(decide (k≤s.1.length)&&(s.1.take k).all dgt)
 ·rw [nuL_no h]
  exact Nat.pow_pos (by omega)
 ·rw [nuL_yes h]
  simp only [Bool.and_eq_true,decide_eq_true_eq]at h
  have:=valL_lt _ h.2
  rw [List.length_take,Nat.min_eq_left h.1]at this
  exact this
theorem number_any_DatE (k b:Nat) (s:St) (w:World) (h:Txt w b s) (hk:k≤4) :
  Calls Tryz.prog 182 #[.pointer (some ⟨b,0,none⟩),.int .i64 k] w (txtPost_DatE (.int .i64 (nuL k s).1) b (nuL k s).2 w):=by
 have HT:=zH h
 have c0:=h.c0
 have c1:=h.c1
 have f0:=h.f0
 have f1:=h.f1
 have hsz:=h.sz
 have hz:=strB_size s.1
 clear h
 unfold maxLen at hsz
 by_cases hlen:k≤s.1.length
 ·have hS:∀j,(hj:j<(strB s.1).size)→s.1.take (j+1)=s.1.take j++[(strB s.1)[j]]:=by
   intro j hj
   have:=List.take_add_one (l:=s.1) (i:=j)
   rw [this,List.getElem?_eq_getElem (by rw [strB_size]at hj;exact hj)]
   rfl
  have hdr:strB (s.1.drop k)=(strB s.1).extract k (strB s.1).size:=by rw [strB_size,strB_drop _ _ _ rfl]
  generalize hG:strB s.1=t at *
  have HG:=zH hG
  clear hG
  have HZ:=zH hz
  have d0:decide ((t.size:Int)<(k:Int))=false:=by simp;omega
  have hkt:k≤t.size:=by omega
  have htm:t.size≤9223372036854775807:=by omega
  clear hz
  go_enter Tryz.func182,Tryz.ntmps182
  go_wp2_with fail
  go_loop [5,19] (fun x z=>∃i:Nat,i≤k∧z=.int .i64 i∧x=.int .i64 (valL_DatP (s.1.take i))∧Hid ((s.1.take i).all dgt=true)) (fun _ z=>k-(intOf z).toNat)
  case atStart=>exact⟨0,Nat.zero_le _,rfl,rfl,zH rfl⟩
  case round =>
   obtain⟨i,hik,rfl,rfl,hA⟩:=hrel
   by_cases hlt:i<k
   ·have hit:i<t.size:=by omega
    have hT:=hS i hit
    have hvn:valL_DatP (s.1.take i)≤9999:=by
     have:=valL_lt _ hA.out
     rw [List.length_take,Nat.min_eq_left (by omega)]at this
     have h10:10 ^ i≤10 ^ 4:=Nat.pow_le_pow_right (by omega) (by omega)
     omega
    cases hd:dgt t[i]
    ·have hno:(decide (k≤s.1.length)&&(s.1.take k).all dgt)=false:=by
      rw [Bool.and_eq_false_iff]
      refine .inr ?_
      have hsub:s.1.take k=s.1.take (i+1)++(s.1.take k).drop (i+1):=by
       rw [show s.1.take (i+1)=(s.1.take k).take (i+1)by rw [List.take_take,Nat.min_eq_left (by omega)],List.take_append_drop]
      rw [hsub,hT,List.all_append,List.all_append]
      simp [hd]
     have HN:=zH (nuL_no hno)
     clear hS hT hdr hno hA
     unfold dgt at hd
     have hcn:(t[i].toNat:Int)<48∨(57:Int)<t[i].toNat:=by
      simp only [Bool.and_eq_false_iff,decide_eq_false_iff_not]at hd
      omega
     clear hd
     rcases hcn with h1 | h1
     ·have g1:decide ((t[i].toNat:Int)<48)=true:=by simpa using h1
      go_wp2_with fail
      go_ret
      exact⟨by rw [HN.out]<;>rfl,by rw [HN.out];exact HT.out.wrong,(Moved_DatE.refl b w).setCell _⟩
     ·have g1:decide ((t[i].toNat:Int)<48)=false:=by simp;omega
      have g2:decide ((57:Int)<t[i].toNat)=true:=by simpa using h1
      go_wp2_with fail
      go_ret
      exact⟨by rw [HN.out]<;>rfl,by rw [HN.out];exact HT.out.wrong,(Moved_DatE.refl b w).setCell _⟩
    ·have hv:Hid (valL_DatP (s.1.take (i+1))=10*valL_DatP (s.1.take i)+(t[i].toNat-48)):=zH (by rw [hT,valL_snoc])
     have hA2:Hid ((s.1.take (i+1)).all dgt=true):=zH (by rw [hT,List.all_append,hA.out];simp [hd])
     unfold dgt at hd
     simp only [Bool.and_eq_true,decide_eq_true_eq]at hd
     obtain⟨h1,h2⟩:=hd
     have g1:decide ((t[i].toNat:Int)<48)=false:=by simp;omega
     have g2:decide ((57:Int)<t[i].toNat)=false:=by simp;omega
     have hw:((t[i].toNat-48:Nat):Int)=(t[i].toNat:Int)-48:=by omega
     clear hS hT hdr hA
     generalize valL_DatP (s.1.take i)=n at *
     go_wp2_with fail
     go_round
     case rel=>exact⟨i+1,by omega,by go_num,by rw [hv.out];go_num,hA2⟩
     case measure=>simp [intOf];omega
   ·obtain rfl:i=k:=by omega
    have hyes:(decide (i≤s.1.length)&&(s.1.take i).all dgt)=true:=by rw [hA.out];simp;omega
    have HN:=zH (nuL_yes hyes)
    have HD:=zH hdr
    clear hS hA hyes hdr
    generalize valL_DatP (s.1.take i)=n at *
    go_wp2_with fail
    go_ret
    refine⟨by rw [HN.out]<;>rfl,?_,(Moved_DatE.refl b w).setCell _⟩
    rw [HN.out]
    have:=HT.out.rest (s.1.drop i) (by simp)
    rw [HD.out]at this
    exact this
 ·have hno:(decide (k≤s.1.length)&&(s.1.take k).all dgt)=false:=by simp;omega
  have HN:=zH (nuL_no hno)
  clear hno
  generalize hG:strB s.1=t at *
  clear hG
  have d0:t.size<k:=by omega
  clear hz
  go_enter Tryz.func182,Tryz.ntmps182
  go_wp2_with fail
  go_ret
  exact⟨by rw [HN.out]<;>rfl,by rw [HN.out];exact HT.out.wrong,(Moved_DatE.refl b w).setCell _⟩
theorem upTo_any (most b:Nat) (s:St) (w:World) (h:Txt w b s) (_:most<100) :
  Calls Tryz.prog 214 #[.pointer (some ⟨b,0,none⟩),.int .i64 most] w (txtPost_DatE (.int .i64 (upL most s).1) b (upL most s).2 w):=by
 have cN:=number_any_DatE 2 b s w h (by omega)
 have hlt:=nuL_lt 2 s
 clear h
 unfold upL
 generalize nuL 2 s=q at *
 obtain⟨n,r,x⟩:=q
 dsimp only at *
 by_cases hg:most<n
 ·have hv:(x||decide (most<n))=true:=by simp [hg]
  rw [hv]
  clear hv
  go_enter Tryz.func214,Tryz.ntmps214
  go_wp2_with fail
  refine cN.mono ?_
  rintro e w1 ⟨rfl,hT1,hM1⟩
  have c1:=hT1.c1
  have f1:=hT1.f1
  have HT1:=zH hT1
  clear hT1
  go_wp2_with fail
  go_ret
  exact⟨rfl,HT1.out.wrong,hM1.setCell _⟩
 ·have hv:(x||decide (most<n))=x:=by simp [hg]
  rw [hv]
  clear hv
  go_enter Tryz.func214,Tryz.ntmps214
  go_wp2_with fail
  refine cN.mono ?_
  rintro e w1 ⟨rfl,hT1,hM1⟩
  go_wp2_with fail
  go_ret
  exact⟨rfl,hT1,hM1⟩
theorem upL_lt (most:Nat) (s:St):(upL most s).1<100:=nuL_lt 2 s
theorem clock_any (b:Nat) (s:St) (w:World) (h:Txt w b s) :
  Calls Tryz.prog 184 #[.pointer (some ⟨b,0,none⟩)] w (txtPost_DatE (.int .i64 (ckL s).1) b (ckL s).2 w):=by
 have c1:=upTo_any 23 b s w h (by omega)
 have c2:=fun W (h:Txt W b (ckA s).2)=>skip_any b (ckA s).2 ⟨#[58]⟩ W h
 have c3:=fun W (h:Txt W b (skL [58] (ckA s).2))=>upTo_any 59 b (skL [58] (ckA s).2) W h (by omega)
 have c4:=fun W (h:Txt W b (ckB s).2)=>skip_any b (ckB s).2 ⟨#[58]⟩ W h
 have c5:=fun W (h:Txt W b (skL [58] (ckB s).2))=>upTo_any 59 b (skL [58] (ckB s).2) W h (by omega)
 rw [show(⟨#[58]⟩:ByteArray).data.toList=[58]from rfl]at c2 c4
 change Calls _ _ _ _ (txtPost_DatE (.int .i64 (ckA s).1) b (ckA s).2 w)at c1
 change ∀W (_:Txt W b (skL [58] (ckA s).2)),Calls _ _ _ _ (txtPost_DatE (.int .i64 (ckB s).1) b (ckB s).2 W)at c3
 change ∀W (_:Txt W b (skL [58] (ckB s).2)),Calls _ _ _ _ (txtPost_DatE (.int .i64 (ckC s).1) b (ckC s).2 W)at c5
 have z1:(ckA s).1<100:=upL_lt _ _
 have z2:(ckB s).1<100:=upL_lt _ _
 have z3:(ckC s).1<100:=upL_lt _ _
 unfold ckL
 clear h
 generalize skL [58] (ckA s).2=s2 at *
 generalize skL [58] (ckB s).2=s4 at *
 generalize ckA s=q1 at *
 generalize ckB s=q2 at *
 generalize ckC s=q3 at *
 obtain⟨n1,s1⟩:=q1
 obtain⟨n2,s3⟩:=q2
 obtain⟨n3,s5⟩:=q3
 dsimp only at *
 have hv:((n1*3600+n2*60+n3:Nat):Int)=(n1:Int)*3600+(n2:Int)*60+(n3:Int):=by omega
 rw [hv]
 clear hv
 go_enter Tryz.func184,Tryz.ntmps184
 go_wp2_with fail
 refine c1.mono ?_
 rintro e w1 ⟨rfl,hT1,hM1⟩
 go_wp2_with fail
 refine(c2 _ hT1).mono ?_
 rintro e w2 ⟨rfl,hT2,hM2⟩
 have hM2':=hM1.trans hM2
 clear hT1 hM1 hM2
 go_wp2_with fail
 refine(c3 _ hT2).mono ?_
 rintro e w3 ⟨rfl,hT3,hM3⟩
 have hM3':=hM2'.trans hM3
 clear hT2 hM2' hM3
 go_wp2_with fail
 refine(c4 _ hT3).mono ?_
 rintro e w4 ⟨rfl,hT4,hM4⟩
 have hM4':=hM3'.trans hM4
 clear hT3 hM3' hM4
 go_wp2_with fail
 refine(c5 _ hT4).mono ?_
 rintro e w5 ⟨rfl,hT5,hM5⟩
 have hM5':=hM4'.trans hM5
 clear hT4 hM4' hM5
 go_wp2_with fail
 go_ret
 exact⟨rfl,hT5,hM5'⟩
theorem spacedDay_any (b:Nat) (s:St) (w:World) (h:Txt w b s) :
  Calls Tryz.prog 186 #[.pointer (some ⟨b,0,none⟩)] w (txtPost_DatE (.int .i64 (sdL s).1) b (sdL s).2 w):=by
 obtain⟨r,x⟩:=s
 have HT:=zH h
 have c0:=h.c0
 have c1:=h.c1
 have f1:=h.f1
 have p1:=fun W=>hasPrefix_one (strB r) 32 W
 have p2:=fun W=>hasPrefix_one (strB r) 48 W
 rw [strB_data]at p1 p2
 dsimp only at c0 c1
 unfold sdL
 dsimp only
 cases h32:r.head? == some 32
 ·rw [h32]at p1
  simp only [Bool.false_eq_true,if_false]
  cases h48:r.head? == some 48
  ·rw [h48]at p2
   rw [Bool.or_false]
   have c3:=number_any_DatE 2 b (r,x) w h (by omega)
   clear h h32 h48
   generalize strB r=t at *
   generalize nuL 2 (r,x)=q at *
   go_enter Tryz.func186,Tryz.ntmps186
   go_wp2_with fail
   refine(p1 _).mono ?_
   rintro e w1 ⟨rfl,rfl⟩
   go_wp2_with fail
   refine(p2 _).mono ?_
   rintro e w1 ⟨rfl,rfl⟩
   go_wp2_with fail
   refine c3.mono ?_
   rintro e w1 ⟨rfl,hT1,hM1⟩
   go_wp2_with fail
   go_ret
   exact⟨rfl,hT1,hM1⟩
  ·rw [h48]at p2
   rw [Bool.or_true]
   have c3:=fun W (h:Txt W b (r,true))=>number_any_DatE 2 b (r,true) W h (by omega)
   clear h h32 h48
   generalize strB r=t at *
   generalize nuL 2 (r,true)=q at *
   go_enter Tryz.func186,Tryz.ntmps186
   go_wp2_with fail
   refine(p1 _).mono ?_
   rintro e w1 ⟨rfl,rfl⟩
   go_wp2_with fail
   refine(p2 _).mono ?_
   rintro e w1 ⟨rfl,rfl⟩
   go_wp2_with fail
   refine(c3 _ HT.out.wrong).mono ?_
   rintro e w1 ⟨rfl,hT1,hM1⟩
   go_wp2_with fail
   go_ret
   exact⟨rfl,hT1,((Moved_DatE.refl b _).setCell _).trans hM1⟩
 ·rw [h32]at p1
  simp only [if_true]
  have hsk:skL [32] (r,x)=(r.drop 1,x):=by
   unfold skL
   have:[32].isPrefixOf r=true:=by
    cases r with
    | nil=>cases h32
    | cons c q=>simpa using (by simpa using h32:c=32).symm
   simp only [this,if_true]
   rfl
  have c2:=skip_any b (r,x) ⟨#[32]⟩ w h
  rw [show(⟨#[32]⟩:ByteArray).data.toList=[32]from rfl,hsk]at c2
  have c3:=fun W (h:Txt W b (r.drop 1,x))=>number_any_DatE 1 b (r.drop 1,x) W h (by omega)
  clear h h32 hsk
  generalize strB r=t at *
  generalize nuL 1 (r.drop 1,x)=q at *
  generalize r.drop 1=r1 at *
  go_enter Tryz.func186,Tryz.ntmps186
  go_wp2_with fail
  refine(p1 _).mono ?_
  rintro e w1 ⟨rfl,rfl⟩
  go_wp2_with fail
  refine c2.mono ?_
  rintro e w1 ⟨rfl,hT1,hM1⟩
  go_wp2_with fail
  refine(c3 _ hT1).mono ?_
  rintro e w2 ⟨rfl,hT2,hM2⟩
  go_wp2_with fail
  go_ret
  exact⟨rfl,hT2,hM1.trans hM2⟩
def Names (F:FuncId) (f:Nat→List UInt8) (a b:Nat):Prop:=
 ∀n W,a≤n→n<b→Cal W→Calls Tryz.prog F #[.int .i64 (n:Nat)] W fun e w'=>e=.returned (.string (strB (f n)))∧W=w'
theorem names_short:Names 145 wsT 0 7:=fun n W _ h2 hC=>shortWeekday_any n W h2 hC
theorem names_full:Names 147 wkT 0 7:=fun n W _ h2 hC=>fullWeekday_any n W h2 hC
theorem names_month:Names 213 moT 1 13:=fun n W h1 h2 hC=>monthName_any n W h1 (by omega) hC
theorem nmL_yes {f:Nat→List UInt8} {a k:Nat} {s:St} (h:(f a).isPrefixOf s.1=true):nmL f a (k+1) s=(a,skL (f a) s):=by
 rw [nmL,if_pos h]
 unfold skL
 rw [if_pos h]
theorem nmL_no {f:Nat→List UInt8} {a k:Nat} {s:St} (h:(f a).isPrefixOf s.1=false):nmL f a (k+1) s=nmL f (a+1) k s:=by
 rw [nmL,if_neg (by rw [h];simp)]
theorem named_any (F:FuncId) (f:Nat→List UInt8) (a k b:Nat) (s:St) (w:World) (hE:∀args W,(callFunc F args).run Tryz.prog W=.ok (.enter F args) W) (hF:Names F f a (a+k)) (h:Txt w b s) (hC:Cal w) (hk:a+k≤1000) (L:Nat) (hL:L+1=a+k) :
  Calls Tryz.prog 187 #[.pointer (some ⟨b,0,none⟩),.int .i64 a,.int .i64 L,.func (.func F) #[] #[]] w (txtPost_DatE (.int .i64 (nmL f a k s).1) b (nmL f a k s).2 w):=by
 have HT:=zH h
 have HC:=zH hC
 clear h hC
 go_enter Tryz.func187,Tryz.ntmps187
 go_wp2_with fail
 go_loopw [9] (fun x wr=>∃i j:Nat,x=.int .i64 i∧i+j=a+k∧a≤i∧Txt wr b s∧Cal wr∧Moved_DatE b w wr∧Hid (nmL f a k s=nmL f i j s)) (fun x _=>a+k-(intOf x).toNat)
 case atStart=>exact⟨a,k,rfl,rfl,zR _,HT.out,HC.out,Moved_DatE.refl _ _,zH rfl⟩
 case round =>
  obtain⟨i,j,rfl,hij,hai,hTr,hCr,hM,hH⟩:=hrel
  have c0:=hTr.c0
  have c1:=hTr.c1
  have f1:=hTr.f1
  have HTr:=zH hTr
  have HCr:=zH hCr
  clear hTr hCr
  by_cases hlt:i≤L
  ·obtain⟨j,rfl⟩:∃q,j=q+1:=⟨j-1,by omega⟩
   have cF:=fun W hW=>hF i W hai (by omega) hW
   have cP:=fun W=>Tryz.strings_HasPrefix (strB s.1) (strB (f i)) W
   rw [strB_data,strB_data]at cP
   have hpp:Lib.hasPrefix s.1 (f i)=(f i).isPrefixOf s.1:=rfl
   rw [hpp]at cP
   cases hp:(f i).isPrefixOf s.1
   ·rw [hp]at cP
    have H2:Hid (nmL f a k s=nmL f (i+1) j s):=zH (by rw [hH.out,nmL_no hp])
    clear hp hpp hH
    generalize strB (f i)=p at *
    generalize strB s.1=t at *
    go_wp2_with fail
    go_quiet (first | (go_at_call 215;exact Calls.quiet_of_same (cP _)) | (refine⟨rfl,?_⟩;exact quiet_same (cF _ (HCr.out.drew _))) | exact quiet_same (cF _ (HCr.out.drew _)))
    go_wp2_with fail
    go_roundw
    case rel=>exact⟨i+1,j,by go_num,by omega,by omega,HTr.out.drew _,HCr.out.drew _,hM.drew _,H2⟩
    case measure=>simp [intOf];omega
   ·rw [hp]at cP
    have H2:Hid (nmL f a k s=(i,skL (f i) s)):=zH (by rw [hH.out,nmL_yes hp])
    have cS:=fun W (h:Txt W b s)=>skip_any b s (strB (f i)) W h
    rw [strB_data]at cS
    clear hp hpp hH
    generalize skL (f i) s=s2 at *
    generalize strB (f i)=p at *
    generalize hG:strB s.1=t at c0 cP
    clear hG
    go_wp2_with fail
    go_quiet (first | (go_at_call 215;exact Calls.quiet_of_same (cP _)) | (refine⟨rfl,?_⟩;exact quiet_same (cF _ (HCr.out.drew _))) | exact quiet_same (cF _ (HCr.out.drew _)))
    go_wp2_with fail
    refine(cF _ (HCr.out.drew _)).mono ?_
    rintro e w1 ⟨rfl,rfl⟩
    go_wp2_with fail
    refine(cS _ (HTr.out.drew _)).mono ?_
    rintro e w1 ⟨rfl,hT1,hM1⟩
    go_wp2_with fail
    go_ret
    exact⟨by rw [H2.out]<;>rfl,by rw [H2.out];exact hT1,(hM.drew _).trans hM1⟩
  ·obtain rfl:j=0:=by omega
   have H2:Hid (nmL f a k s=(0,s.1,true)):=zH (by rw [hH.out]<;>rfl)
   clear hH
   go_wp2_with fail
   go_ret
   exact⟨by rw [H2.out]<;>rfl,by rw [H2.out];exact HTr.out.wrong,hM.setCell _⟩
theorem enters_short:∀args W,(callFunc 145 args).run Tryz.prog W=.ok (.enter 145 args) W:=enters_of Tryz.func145 (by kernel_rfl) rfl
theorem enters_full:∀args W,(callFunc 147 args).run Tryz.prog W=.ok (.enter 147 args) W:=enters_of Tryz.func147 (by kernel_rfl) rfl
theorem enters_monthName:∀args W,(callFunc 213 args).run Tryz.prog W=.ok (.enter 213 args) W:=enters_of Tryz.func213 (by kernel_rfl) rfl
theorem weekday_read (F:FuncId) (f:Nat→List UInt8) (b:Nat) (s:St) (w:World) (hE:∀args W,(callFunc F args).run Tryz.prog W=.ok (.enter F args) W) (hF:Names F f 0 7) (h:Txt w b s) (hC:Cal w) :
  Calls Tryz.prog 150 #[.pointer (some ⟨b,0,none⟩),.func (.func F) #[] #[]] w (txtPost_DatE (.int .i64 (nmL f 0 7 s).1) b (nmL f 0 7 s).2 w):=by
 have cN:=named_any F f 0 7 b s w hE hF h hC (by omega) 6 rfl
 clear h hC hE hF
 generalize nmL f 0 7 s=q at *
 go_enter Tryz.func150,Tryz.ntmps150
 go_wp2_with fail
 refine cN.mono ?_
 rintro e w1 ⟨rfl,hT1,hM1⟩
 go_wp2_with fail
 go_ret
 exact⟨rfl,hT1,hM1⟩
theorem month_read (b:Nat) (s:St) (w:World) (h:Txt w b s) (hC:Cal w) :
  Calls Tryz.prog 183 #[.pointer (some ⟨b,0,none⟩)] w (txtPost_DatE (.int .i64 (nmL moT 1 12 s).1) b (nmL moT 1 12 s).2 w):=by
 have cN:=named_any _ moT 1 12 b s w enters_monthName names_month h hC (by omega) 12 rfl
 clear h hC
 generalize nmL moT 1 12 s=q at *
 go_enter Tryz.func183,Tryz.ntmps183
 go_wp2_with fail
 refine cN.mono ?_
 rintro e w1 ⟨rfl,hT1,hM1⟩
 go_wp2_with fail
 go_ret
 exact⟨rfl,hT1,hM1⟩
structure Four (W:World) (c:Nat) (a0 a1 a2 a3:Int):Prop where
 c0:W.cell? ⟨c,0,none⟩=some (.int .i64 a0)
 c1:W.cell? ⟨c,1,none⟩=some (.int .i64 a1)
 c2:W.cell? ⟨c,2,none⟩=some (.int .i64 a2)
 c3:W.cell? ⟨c,3,none⟩=some (.int .i64 a3)
 f0:W.frozen? ⟨c,0,none⟩=false
 f1:W.frozen? ⟨c,1,none⟩=false
 f2:W.frozen? ⟨c,2,none⟩=false
 f3:W.frozen? ⟨c,3,none⟩=false
theorem Four.moved {W W':World} {b c:Nat} {a0 a1 a2 a3:Int} (h:Four W c a0 a1 a2 a3) (hM:Moved_DatE b W W') (hb:c≠b):Four W' c a0 a1 a2 a3:=
  have l:=lt_of_cell h.c0
  ⟨(hM.cell (p:=⟨c,0,none⟩) l hb).trans h.c0,(hM.cell (p:=⟨c,1,none⟩) l hb).trans h.c1,(hM.cell (p:=⟨c,2,none⟩) l hb).trans h.c2,(hM.cell (p:=⟨c,3,none⟩) l hb).trans h.c3,
   (hM.frozen (p:=⟨c,0,none⟩) l hb).trans h.f0,(hM.frozen (p:=⟨c,1,none⟩) l hb).trans h.f1,(hM.frozen (p:=⟨c,2,none⟩) l hb).trans h.f2,(hM.frozen (p:=⟨c,3,none⟩) l hb).trans h.f3⟩
theorem Four.set0 {W:World} {c:Nat} {a0 a1 a2 a3:Int} (h:Four W c a0 a1 a2 a3) (x:Int):Four (W.setCell ⟨c,0,none⟩ (.int .i64 x)) c x a1 a2 a3:=
  ⟨World.cell?_setCell_same W _ _ h.c0,(World.cell?_setCell_other W _ ⟨c,1,none⟩ _ (by simp)).trans h.c1,(World.cell?_setCell_other W _ ⟨c,2,none⟩ _ (by simp)).trans h.c2,(World.cell?_setCell_other W _ ⟨c,3,none⟩ _ (by simp)).trans h.c3,
   by rw [World.frozen?_setCell];exact h.f0,by rw [World.frozen?_setCell];exact h.f1,by rw [World.frozen?_setCell];exact h.f2,by rw [World.frozen?_setCell];exact h.f3⟩
theorem Four.set1 {W:World} {c:Nat} {a0 a1 a2 a3:Int} (h:Four W c a0 a1 a2 a3) (x:Int):Four (W.setCell ⟨c,1,none⟩ (.int .i64 x)) c a0 x a2 a3:=
  ⟨(World.cell?_setCell_other W _ ⟨c,0,none⟩ _ (by simp)).trans h.c0,World.cell?_setCell_same W _ _ h.c1,(World.cell?_setCell_other W _ ⟨c,2,none⟩ _ (by simp)).trans h.c2,(World.cell?_setCell_other W _ ⟨c,3,none⟩ _ (by simp)).trans h.c3,
   by rw [World.frozen?_setCell];exact h.f0,by rw [World.frozen?_setCell];exact h.f1,by rw [World.frozen?_setCell];exact h.f2,by rw [World.frozen?_setCell];exact h.f3⟩
theorem Four.set2 {W:World} {c:Nat} {a0 a1 a2 a3:Int} (h:Four W c a0 a1 a2 a3) (x:Int):Four (W.setCell ⟨c,2,none⟩ (.int .i64 x)) c a0 a1 x a3:=
  ⟨(World.cell?_setCell_other W _ ⟨c,0,none⟩ _ (by simp)).trans h.c0,(World.cell?_setCell_other W _ ⟨c,1,none⟩ _ (by simp)).trans h.c1,World.cell?_setCell_same W _ _ h.c2,(World.cell?_setCell_other W _ ⟨c,3,none⟩ _ (by simp)).trans h.c3,
   by rw [World.frozen?_setCell];exact h.f0,by rw [World.frozen?_setCell];exact h.f1,by rw [World.frozen?_setCell];exact h.f2,by rw [World.frozen?_setCell];exact h.f3⟩
theorem Four.set3 {W:World} {c:Nat} {a0 a1 a2 a3:Int} (h:Four W c a0 a1 a2 a3) (x:Int):Four (W.setCell ⟨c,3,none⟩ (.int .i64 x)) c a0 a1 a2 x:=
  ⟨(World.cell?_setCell_other W _ ⟨c,0,none⟩ _ (by simp)).trans h.c0,(World.cell?_setCell_other W _ ⟨c,1,none⟩ _ (by simp)).trans h.c1,(World.cell?_setCell_other W _ ⟨c,2,none⟩ _ (by simp)).trans h.c2,World.cell?_setCell_same W _ _ h.c3,
   by rw [World.frozen?_setCell];exact h.f0,by rw [World.frozen?_setCell];exact h.f1,by rw [World.frozen?_setCell];exact h.f2,by rw [World.frozen?_setCell];exact h.f3⟩
theorem Four.other {W:World} {c d o:Nat} {a0 a1 a2 a3:Int} (h:Four W c a0 a1 a2 a3) (hd:d≠c) (v:Value):Four (W.setCell ⟨d,o,none⟩ v) c a0 a1 a2 a3:=
  ⟨(World.cell?_setCell_other W _ ⟨c,0,none⟩ _ (by simp [])).trans h.c0,(World.cell?_setCell_other W _ ⟨c,1,none⟩ _ (by simp [])).trans h.c1,(World.cell?_setCell_other W _ ⟨c,2,none⟩ _ (by simp [])).trans h.c2,(World.cell?_setCell_other W _ ⟨c,3,none⟩ _ (by simp [])).trans h.c3,
   by rw [World.frozen?_setCell];exact h.f0,by rw [World.frozen?_setCell];exact h.f1,by rw [World.frozen?_setCell];exact h.f2,by rw [World.frozen?_setCell];exact h.f3⟩
theorem Txt.other {W:World} {b d o:Nat} {s:St} (h:Txt W b s) (hd:d≠b) (v:Value):Txt (W.setCell ⟨d,o,none⟩ v) b s:=
  ⟨(World.cell?_setCell_other W _ ⟨b,0,none⟩ _ (by simp [])).trans h.c0,(World.cell?_setCell_other W _ ⟨b,1,none⟩ _ (by simp [])).trans h.c1,
   by rw [World.frozen?_setCell];exact h.f0,by rw [World.frozen?_setCell];exact h.f1,h.sz⟩
theorem Moved_DatE.setNew {b c o:Nat} {w W:World} (h:Moved_DatE b w W) (hc:w.heap.size≤c) (v:Value):Moved_DatE b w (W.setCell ⟨c,o,none⟩ v):=
 ⟨h.os,h.tape,h.output,by simpa using h.size,fun k hk1 hb=>(Below.heap_setCell W ⟨c,o,none⟩ v k (by simp;omega)).trans (h.block k hk1 hb)⟩
def momV (m:Mom):Value:=.agg #[.int .i64 m.y,.int .i64 m.m,.int .i64 m.d,.int .i64 m.c]
def Reads2 (F:FuncId) (p:St→Mom×St):Prop:=
 ∀b s w,Txt w b s→Cal w→Calls Tryz.prog F #[.pointer (some ⟨b,0,none⟩)] w (txtPost_DatE (momV (p s).1) b (p s).2 w)
theorem zero_four (w:World):Four ((w.alloc (.cells #[.int .i64 0,.int .i64 0,.int .i64 0,.int .i64 0] 198)).alloc (.cells #[.int .i64 0,.int .i64 0,.int .i64 0,.int .i64 0] 198)) w.heap.size 0 0 0 0:=by
 constructor<;>simp
theorem zero_four2 (w:World):Four ((w.alloc (.cells #[.int .i64 0,.int .i64 0,.int .i64 0,.int .i64 0] 198)).alloc (.cells #[.int .i64 0,.int .i64 0,.int .i64 0,.int .i64 0] 198)) (w.heap.size+1) 0 0 0 0:=by
 constructor<;>simp
abbrev twoMom (w:World):World:=(w.alloc (.cells #[.int .i64 0,.int .i64 0,.int .i64 0,.int .i64 0] 198)).alloc (.cells #[.int .i64 0,.int .i64 0,.int .i64 0,.int .i64 0] 198)
theorem twoMom_below (w:World):Below w.heap.size w (twoMom w):=by
 have h1:Below w.heap.size w (w.alloc (.cells #[.int .i64 0,.int .i64 0,.int .i64 0,.int .i64 0] 198)):=(Below.refl _ _).alloc (zR _) _
 exact h1.alloc (by simp) _
structure Mid (w W:World) (b:Nat) (s:St) (y m d c:Int):Prop where
 t:Txt W b s
 r:Four W w.heap.size 0 0 0 0
 m:Four W (w.heap.size+1) y m d c
 mv:Moved_DatE b w W
 lt:b<w.heap.size
theorem Mid.start {w:World} {b:Nat} {s:St} (h:Txt w b s):Mid w (twoMom w) b s 0 0 0 0:=
 ⟨h.below (twoMom_below w),zero_four w,zero_four2 w,Moved_DatE.of_below (twoMom_below w),h.lt⟩
theorem Mid.call {w W W':World} {b:Nat} {s s':St} {y m d c:Int} (h:Mid w W b s y m d c) (hT:Txt W' b s') (hM:Moved_DatE b W W'):Mid w W' b s' y m d c:=
 ⟨hT,h.r.moved hM (by have:=h.lt;omega),h.m.moved hM (by have:=h.lt;omega),h.mv.trans hM,h.lt⟩
theorem Mid.ne {w W:World} {b:Nat} {s:St} {y m d c:Int} (h:Mid w W b s y m d c):w.heap.size+1≠b:=by have:=h.lt;omega
theorem Mid.setY {w W:World} {b:Nat} {s:St} {y m d c:Int} (h:Mid w W b s y m d c) (x:Int):Mid w (W.setCell ⟨w.heap.size+1,0,none⟩ (.int .i64 x)) b s x m d c:=
 ⟨h.t.other h.ne _,h.r.other (by omega) _,h.m.set0 x,h.mv.setNew (by omega) _,h.lt⟩
theorem Mid.setM {w W:World} {b:Nat} {s:St} {y m d c:Int} (h:Mid w W b s y m d c) (x:Int):Mid w (W.setCell ⟨w.heap.size+1,1,none⟩ (.int .i64 x)) b s y x d c:=
 ⟨h.t.other h.ne _,h.r.other (by omega) _,h.m.set1 x,h.mv.setNew (by omega) _,h.lt⟩
theorem Mid.setD {w W:World} {b:Nat} {s:St} {y m d c:Int} (h:Mid w W b s y m d c) (x:Int):Mid w (W.setCell ⟨w.heap.size+1,2,none⟩ (.int .i64 x)) b s y m x c:=
 ⟨h.t.other h.ne _,h.r.other (by omega) _,h.m.set2 x,h.mv.setNew (by omega) _,h.lt⟩
theorem Mid.setC {w W:World} {b:Nat} {s:St} {y m d c:Int} (h:Mid w W b s y m d c) (x:Int):Mid w (W.setCell ⟨w.heap.size+1,3,none⟩ (.int .i64 x)) b s y m d x:=
 ⟨h.t.other h.ne _,h.r.other (by omega) _,h.m.set3 x,h.mv.setNew (by omega) _,h.lt⟩
theorem parseFirst_any:Reads2 146 p0L:=by
 intro b s w h hC
 have H0:=zH (Mid.start h)
 have HCw:=zH (fun W (hm:Moved_DatE b w W)=>hC.moved h hm)
 clear h hC
 have c1:=fun W h=>skip_any b s ⟨#[44,32]⟩ W h
 have c2:=fun W h=>number_any_DatE 2 b (skL [44,32] s) W h (by omega)
 have c3:=fun W h=>skip_any b (nuL 2 (skL [44,32] s)).2 ⟨#[32]⟩ W h
 rw [show(⟨#[44,32]⟩:ByteArray).data.toList=[44,32]from rfl]at c1
 rw [show(⟨#[32]⟩:ByteArray).data.toList=[32]from rfl]at c3
 unfold p0L
 dsimp only
 generalize skL [44,32] s=s1 at *
 generalize nuL 2 s1=q1 at *
 obtain⟨n1,t1⟩:=q1
 dsimp only at *
 generalize skL [32] t1=s2 at *
 have c4:=fun W h hC=>month_read b s2 W h hC
 generalize nmL moT 1 12 s2=q2 at *
 obtain⟨n2,t2⟩:=q2
 dsimp only at *
 have c5:=fun W h=>skip_any b t2 ⟨#[32]⟩ W h
 rw [show(⟨#[32]⟩:ByteArray).data.toList=[32]from rfl]at c5
 generalize skL [32] t2=s3 at *
 have c6:=fun W h=>number_any_DatE 4 b s3 W h (by omega)
 generalize nuL 4 s3=q3 at *
 obtain⟨n3,t3⟩:=q3
 dsimp only at *
 have c7:=fun W h=>skip_any b t3 ⟨#[32]⟩ W h
 rw [show(⟨#[32]⟩:ByteArray).data.toList=[32]from rfl]at c7
 generalize skL [32] t3=s4 at *
 have c8:=fun W h=>clock_any b s4 W h
 generalize ckL s4=q4 at *
 obtain⟨n4,t4⟩:=q4
 dsimp only at *
 have c9:=fun W h=>skip_any b t4 ⟨#[32,71,77,84]⟩ W h
 rw [show(⟨#[32,71,77,84]⟩:ByteArray).data.toList=[32,71,77,84]from rfl]at c9
 generalize skL [32,71,77,84] t4=s5 at *
 unfold momV
 dsimp only
 go_enter Tryz.func146,Tryz.ntmps146
 go_wp2_with fail
 refine(c1 _ H0.out.t).mono ?_
 rintro e w1 ⟨rfl,hT,hM⟩
 have H1:=zH (H0.out.call hT hM)
 clear hT hM H0
 go_wp2_with fail
 refine(c2 _ H1.out.t).mono ?_
 rintro e w2 ⟨rfl,hT,hM⟩
 have H2:=zH (H1.out.call hT hM)
 clear hT hM H1
 have k:=H2.out.m.c2
 have f:=H2.out.m.f2
 go_wp2_with fail
 clear k f
 have H3:=zH (H2.out.setD n1)
 clear H2
 refine(c3 _ H3.out.t).mono ?_
 rintro e w3 ⟨rfl,hT,hM⟩
 have H4:=zH (H3.out.call hT hM)
 clear hT hM H3
 go_wp2_with fail
 refine(c4 _ H4.out.t (HCw.out _ H4.out.mv)).mono ?_
 rintro e w4 ⟨rfl,hT,hM⟩
 have H5:=zH (H4.out.call hT hM)
 clear hT hM H4
 have k:=H5.out.m.c1
 have f:=H5.out.m.f1
 go_wp2_with fail
 clear k f
 have H6:=zH (H5.out.setM n2)
 clear H5
 refine(c5 _ H6.out.t).mono ?_
 rintro e w5 ⟨rfl,hT,hM⟩
 have H7:=zH (H6.out.call hT hM)
 clear hT hM H6
 go_wp2_with fail
 refine(c6 _ H7.out.t).mono ?_
 rintro e w6 ⟨rfl,hT,hM⟩
 have H8:=zH (H7.out.call hT hM)
 clear hT hM H7
 have k:=H8.out.m.c0
 have f:=H8.out.m.f0
 go_wp2_with fail
 clear k f
 have H9:=zH (H8.out.setY n3)
 clear H8
 refine(c7 _ H9.out.t).mono ?_
 rintro e w7 ⟨rfl,hT,hM⟩
 have HA:=zH (H9.out.call hT hM)
 clear hT hM H9
 go_wp2_with fail
 refine(c8 _ HA.out.t).mono ?_
 rintro e w8 ⟨rfl,hT,hM⟩
 have HB:=zH (HA.out.call hT hM)
 clear hT hM HA
 have k:=HB.out.m.c3
 have f:=HB.out.m.f3
 go_wp2_with fail
 clear k f
 have HC:=zH (HB.out.setC n4)
 clear HB
 refine(c9 _ HC.out.t).mono ?_
 rintro e w9 ⟨rfl,hT,hM⟩
 have HD:=zH (HC.out.call hT hM)
 clear hT hM HC
 have k0:=HD.out.m.c0
 have k1:=HD.out.m.c1
 have k2:=HD.out.m.c2
 have k3:=HD.out.m.c3
 have r0:=HD.out.r.c0
 have r1:=HD.out.r.c1
 have r2:=HD.out.r.c2
 have r3:=HD.out.r.c3
 have f0:=HD.out.r.f0
 have f1:=HD.out.r.f1
 have f2:=HD.out.r.f2
 have f3:=HD.out.r.f3
 go_wp2_with fail
 exact bodyPost_ret (v:=.agg #[.int .i64 n3,.int .i64 n2,.int .i64 n1,.int .i64 n4]) (by simp [results,Tryz.results146,go_sem,r0,r1,r2,r3]) rfl ⟨rfl,(((HD.out.t.other (by have:=HD.out.lt;omega) _).other (by have:=HD.out.lt;omega) _).other (by have:=HD.out.lt;omega) _).other (by have:=HD.out.lt;omega) _,(((HD.out.mv.setNew (zR _) _).setNew (zR _) _).setNew (zR _) _).setNew (zR _) _⟩
theorem parseSecond_any:Reads2 148 p1L:=by
 intro b s w h hC
 have H0:=zH (Mid.start h)
 have HCw:=zH (fun W (hm:Moved_DatE b w W)=>hC.moved h hm)
 clear h hC
 have c1:=fun W h=>skip_any b s ⟨#[44,32]⟩ W h
 have c2:=fun W h=>number_any_DatE 2 b (skL [44,32] s) W h (by omega)
 have c3:=fun W h=>skip_any b (nuL 2 (skL [44,32] s)).2 ⟨#[45]⟩ W h
 rw [show(⟨#[44,32]⟩:ByteArray).data.toList=[44,32]from rfl]at c1
 rw [show(⟨#[45]⟩:ByteArray).data.toList=[45]from rfl]at c3
 unfold p1L
 dsimp only
 generalize skL [44,32] s=s1 at *
 generalize nuL 2 s1=q1 at *
 obtain⟨n1,t1⟩:=q1
 dsimp only at *
 generalize skL [45] t1=s2 at *
 have c4:=fun W h hC=>month_read b s2 W h hC
 generalize nmL moT 1 12 s2=q2 at *
 obtain⟨n2,t2⟩:=q2
 dsimp only at *
 have c5:=fun W h=>skip_any b t2 ⟨#[45]⟩ W h
 rw [show(⟨#[45]⟩:ByteArray).data.toList=[45]from rfl]at c5
 generalize skL [45] t2=s3 at *
 have c6:=fun W h=>number_any_DatE 2 b s3 W h (by omega)
 have hn3:=nuL_lt 2 s3
 generalize nuL 2 s3=q3 at *
 obtain⟨n3,t3⟩:=q3
 dsimp only at *
 have cY:=fun W=>fullYear_any n3 W (by omega)
 generalize fyN n3=n5 at *
 have c7:=fun W h=>skip_any b t3 ⟨#[32]⟩ W h
 rw [show(⟨#[32]⟩:ByteArray).data.toList=[32]from rfl]at c7
 generalize skL [32] t3=s4 at *
 have c8:=fun W h=>clock_any b s4 W h
 generalize ckL s4=q4 at *
 obtain⟨n4,t4⟩:=q4
 dsimp only at *
 have c9:=fun W h=>skip_any b t4 ⟨#[32,71,77,84]⟩ W h
 rw [show(⟨#[32,71,77,84]⟩:ByteArray).data.toList=[32,71,77,84]from rfl]at c9
 generalize skL [32,71,77,84] t4=s5 at *
 unfold momV
 dsimp only
 go_enter Tryz.func148,Tryz.ntmps148
 go_wp2_with fail
 refine(c1 _ H0.out.t).mono ?_
 rintro e w1 ⟨rfl,hT,hM⟩
 have H1:=zH (H0.out.call hT hM)
 clear hT hM H0
 go_wp2_with fail
 refine(c2 _ H1.out.t).mono ?_
 rintro e w2 ⟨rfl,hT,hM⟩
 have H2:=zH (H1.out.call hT hM)
 clear hT hM H1
 have k:=H2.out.m.c2
 have f:=H2.out.m.f2
 go_wp2_with fail
 clear k f
 have H3:=zH (H2.out.setD n1)
 clear H2
 refine(c3 _ H3.out.t).mono ?_
 rintro e w3 ⟨rfl,hT,hM⟩
 have H4:=zH (H3.out.call hT hM)
 clear hT hM H3
 go_wp2_with fail
 refine(c4 _ H4.out.t (HCw.out _ H4.out.mv)).mono ?_
 rintro e w4 ⟨rfl,hT,hM⟩
 have H5:=zH (H4.out.call hT hM)
 clear hT hM H4
 have k:=H5.out.m.c1
 have f:=H5.out.m.f1
 go_wp2_with fail
 clear k f
 have H6:=zH (H5.out.setM n2)
 clear H5
 refine(c5 _ H6.out.t).mono ?_
 rintro e w5 ⟨rfl,hT,hM⟩
 have H7:=zH (H6.out.call hT hM)
 clear hT hM H6
 go_wp2_with fail
 refine(c6 _ H7.out.t).mono ?_
 rintro e w6 ⟨rfl,hT,hM⟩
 have H8:=zH (H7.out.call hT hM)
 clear hT hM H7
 go_wp2_with fail
 refine(cY _).mono ?_
 rintro e wy ⟨rfl,rfl⟩
 have k:=H8.out.m.c0
 have f:=H8.out.m.f0
 go_wp2_with fail
 clear k f
 have H9:=zH (H8.out.setY n5)
 clear H8
 refine(c7 _ H9.out.t).mono ?_
 rintro e w7 ⟨rfl,hT,hM⟩
 have HA:=zH (H9.out.call hT hM)
 clear hT hM H9
 go_wp2_with fail
 refine(c8 _ HA.out.t).mono ?_
 rintro e w8 ⟨rfl,hT,hM⟩
 have HB:=zH (HA.out.call hT hM)
 clear hT hM HA
 have k:=HB.out.m.c3
 have f:=HB.out.m.f3
 go_wp2_with fail
 clear k f
 have HC:=zH (HB.out.setC n4)
 clear HB
 refine(c9 _ HC.out.t).mono ?_
 rintro e w9 ⟨rfl,hT,hM⟩
 have HD:=zH (HC.out.call hT hM)
 clear hT hM HC
 have k0:=HD.out.m.c0
 have k1:=HD.out.m.c1
 have k2:=HD.out.m.c2
 have k3:=HD.out.m.c3
 have r0:=HD.out.r.c0
 have r1:=HD.out.r.c1
 have r2:=HD.out.r.c2
 have r3:=HD.out.r.c3
 have f0:=HD.out.r.f0
 have f1:=HD.out.r.f1
 have f2:=HD.out.r.f2
 have f3:=HD.out.r.f3
 go_wp2_with fail
 exact bodyPost_ret (v:=.agg #[.int .i64 n5,.int .i64 n2,.int .i64 n1,.int .i64 n4]) (by simp [results,Tryz.results148,go_sem,r0,r1,r2,r3]) rfl ⟨rfl,(((HD.out.t.other (by have:=HD.out.lt;omega) _).other (by have:=HD.out.lt;omega) _).other (by have:=HD.out.lt;omega) _).other (by have:=HD.out.lt;omega) _,(((HD.out.mv.setNew (zR _) _).setNew (zR _) _).setNew (zR _) _).setNew (zR _) _⟩
theorem parseThird_any:Reads2 149 p2L:=by
 intro b s w h hC
 have H0:=zH (Mid.start h)
 have HCw:=zH (fun W (hm:Moved_DatE b w W)=>hC.moved h hm)
 clear h hC
 have c1:=fun W h=>skip_any b s ⟨#[32]⟩ W h
 rw [show(⟨#[32]⟩:ByteArray).data.toList=[32]from rfl]at c1
 unfold p2L
 dsimp only
 generalize skL [32] s=s1 at *
 have c2:=fun W h hC=>month_read b s1 W h hC
 generalize nmL moT 1 12 s1=q1 at *
 obtain⟨n1,t1⟩:=q1
 dsimp only at *
 have c3:=fun W h=>skip_any b t1 ⟨#[32]⟩ W h
 rw [show(⟨#[32]⟩:ByteArray).data.toList=[32]from rfl]at c3
 generalize skL [32] t1=s2 at *
 have c4:=fun W h=>spacedDay_any b s2 W h
 generalize sdL s2=q2 at *
 obtain⟨n2,t2⟩:=q2
 dsimp only at *
 have c5:=fun W h=>skip_any b t2 ⟨#[32]⟩ W h
 rw [show(⟨#[32]⟩:ByteArray).data.toList=[32]from rfl]at c5
 generalize skL [32] t2=s3 at *
 have c6:=fun W h=>clock_any b s3 W h
 generalize ckL s3=q3 at *
 obtain⟨n3,t3⟩:=q3
 dsimp only at *
 have c7:=fun W h=>skip_any b t3 ⟨#[32]⟩ W h
 rw [show(⟨#[32]⟩:ByteArray).data.toList=[32]from rfl]at c7
 generalize skL [32] t3=s4 at *
 have c8:=fun W h=>number_any_DatE 4 b s4 W h (by omega)
 generalize nuL 4 s4=q4 at *
 obtain⟨n4,t4⟩:=q4
 dsimp only at *
 unfold momV
 dsimp only
 go_enter Tryz.func149,Tryz.ntmps149
 go_wp2_with fail
 refine(c1 _ H0.out.t).mono ?_
 rintro e w1 ⟨rfl,hT,hM⟩
 have H1:=zH (H0.out.call hT hM)
 clear hT hM H0
 go_wp2_with fail
 refine(c2 _ H1.out.t (HCw.out _ H1.out.mv)).mono ?_
 rintro e w2 ⟨rfl,hT,hM⟩
 have H2:=zH (H1.out.call hT hM)
 clear hT hM H1
 have k:=H2.out.m.c1
 have f:=H2.out.m.f1
 go_wp2_with fail
 clear k f
 have H3:=zH (H2.out.setM n1)
 clear H2
 refine(c3 _ H3.out.t).mono ?_
 rintro e w3 ⟨rfl,hT,hM⟩
 have H4:=zH (H3.out.call hT hM)
 clear hT hM H3
 go_wp2_with fail
 refine(c4 _ H4.out.t).mono ?_
 rintro e w4 ⟨rfl,hT,hM⟩
 have H5:=zH (H4.out.call hT hM)
 clear hT hM H4
 have k:=H5.out.m.c2
 have f:=H5.out.m.f2
 go_wp2_with fail
 clear k f
 have H6:=zH (H5.out.setD n2)
 clear H5
 refine(c5 _ H6.out.t).mono ?_
 rintro e w5 ⟨rfl,hT,hM⟩
 have H7:=zH (H6.out.call hT hM)
 clear hT hM H6
 go_wp2_with fail
 refine(c6 _ H7.out.t).mono ?_
 rintro e w6 ⟨rfl,hT,hM⟩
 have H8:=zH (H7.out.call hT hM)
 clear hT hM H7
 have k:=H8.out.m.c3
 have f:=H8.out.m.f3
 go_wp2_with fail
 clear k f
 have H9:=zH (H8.out.setC n3)
 clear H8
 refine(c7 _ H9.out.t).mono ?_
 rintro e w7 ⟨rfl,hT,hM⟩
 have HA:=zH (H9.out.call hT hM)
 clear hT hM H9
 go_wp2_with fail
 refine(c8 _ HA.out.t).mono ?_
 rintro e w8 ⟨rfl,hT,hM⟩
 have HB:=zH (HA.out.call hT hM)
 clear hT hM HA
 have k0:=HB.out.m.c0
 have k1:=HB.out.m.c1
 have k2:=HB.out.m.c2
 have k3:=HB.out.m.c3
 have g0:=HB.out.m.f0
 have r0:=HB.out.r.c0
 have r1:=HB.out.r.c1
 have r2:=HB.out.r.c2
 have r3:=HB.out.r.c3
 have f0:=HB.out.r.f0
 have f1:=HB.out.r.f1
 have f2:=HB.out.r.f2
 have f3:=HB.out.r.f3
 go_wp2_with fail
 exact bodyPost_ret (v:=.agg #[.int .i64 n4,.int .i64 n1,.int .i64 n2,.int .i64 n3]) (by simp [results,Tryz.results149,go_sem,r0,r1,r2,r3]) rfl ⟨rfl,((((HB.out.setY n4).t.other (by have:=HB.out.lt;omega) _).other (by have:=HB.out.lt;omega) _).other (by have:=HB.out.lt;omega) _).other (by have:=HB.out.lt;omega) _,((((HB.out.setY n4).mv.setNew (zR _) _).setNew (zR _) _).setNew (zR _) _).setNew (zR _) _⟩
def secV:Option Nat→Value
 | some n=>.tuple #[.int .i64 n,.int .i64 0]
 | none=>.tuple #[.int .i64 0,.int .i64 2]
theorem isEmpty_strB (r:List UInt8):(strB r).toList.isEmpty=r.isEmpty:=by rw [Lib.toList_data,strB_data]
abbrev secW (w:World) (F G:FuncId) (s:ByteArray):World:=(w.alloc (.cells #[.func (.func F) #[] #[],.func (.func G) #[] #[]] 153)).alloc (.cells #[.string s,.bool false] 195)
theorem secW_below (w:World) (F G:FuncId) (s:ByteArray):Below w.heap.size w (secW w F G s):=by
 have h1:Below w.heap.size w (w.alloc (.cells #[.func (.func F) #[] #[],.func (.func G) #[] #[]] 153)):=(Below.refl _ _).alloc (zR _) _
 exact h1.alloc (by simp) _
theorem secW_txt (w:World) (F G:FuncId) (s:List UInt8) (hs:s.length≤maxLen):Txt (secW w F G (strB s)) (w.heap.size+1) (s,false):=by
 constructor<;>simp [hs]
theorem secW_box (w:World) (F G:FuncId) (s:ByteArray):(secW w F G s).cell? ⟨w.heap.size,1,none⟩=some (.func (.func G) #[] #[]):=by simp
theorem secW_size (w:World) (F G:FuncId) (s:ByteArray):(secW w F G s).heap.size=w.heap.size+2:=by simp
theorem seconds_any (F G:FuncId) (f:Nat→List UInt8) (p:St→Mom×St) (s:List UInt8) (w:World)
  (hE:∀args W,(callFunc F args).run Tryz.prog W=.ok (.enter F args) W) (hEG:∀args W,(callFunc G args).run Tryz.prog W=.ok (.enter G args) W)
  (hF:Names F f 0 7) (hG:Reads2 G p) (hp:∀s,(p s).1.c<400000) (hs:s.length≤maxLen) (hC:Cal w) :
  Calls Tryz.prog 112 #[.agg #[.func (.func F) #[] #[],.func (.func G) #[] #[]],.string (strB s)] w fun e w'=>e=.returned (secV (scL f p s))∧Below w.heap.size w w':=by
 have cW:=fun W h hC=>weekday_read F f (w.heap.size+1) (s,false) W hE hF h hC
 have HG:=zH hG
 have HC:=zH hC
 have HS:=zH hs
 clear hE hF hG hC hs
 unfold scL
 dsimp only
 generalize nmL f 0 7 (s,false)=q1 at *
 obtain⟨n1,t1⟩:=q1
 dsimp only at *
 have cP:=fun W h hC=>HG.out (w.heap.size+1) t1 W h hC
 have hc:=hp t1
 clear hp
 generalize p t1=q2 at *
 obtain⟨⟨y,m,d,c⟩,r,x⟩:=q2
 dsimp only at *
 obtain⟨ans,hA⟩:∃a,a=(if (x||!r.isEmpty)=true then none else if DayOk y m d∧wdN (daysN y m d)=n1 then some (86400*daysN y m d+c)else none):=⟨_,rfl⟩
 rw [← hA]
 have hT0:=zH (secW_txt w F G s HS.out)
 have hbx0:=zH (secW_box w F G (strB s))
 have hz0:=zH (secW_size w F G (strB s))
 have hb0:=zH (secW_below w F G (strB s))
 simp only [momV]at cP
 generalize strB s=ss at *
 go_enter Tryz.func112,Tryz.ntmps112
 go_wp2_with fail
 refine(cW _ hT0.out (HC.out.below hb0.out)).mono ?_
 rintro e w1 ⟨rfl,hT1,hM1⟩
 have hbx:=(hM1.cell (p:=⟨w.heap.size,1,none⟩) (by rw [hz0.out];simp) (by simp)).trans hbx0.out
 have hC1:=zH ((HC.out.below hb0.out).moved hT0.out hM1)
 have HT1:=zH hT1
 have hb1:=zH (hb0.out.trans (hM1.below (B:=w.heap.size) (Nat.le_succ _) (by rw [hz0.out];omega)))
 have hz1:w.heap.size+2≤w1.heap.size:=by have:=hM1.size;rw [hz0.out]at this;exact this
 clear hT1 hM1 cW hT0 hbx0
 go_wp2_with fail
 refine(cP _ HT1.out hC1.out).mono ?_
 rintro e w2 ⟨rfl,hT2,hM2⟩
 have hC2:=zH (hC1.out.moved HT1.out hM2)
 have hb2:=zH (hb1.out.trans (hM2.below (B:=w.heap.size) (Nat.le_succ _) (by omega)))
 have hz2:w.heap.size+2≤w2.heap.size:=Nat.le_trans hz1 hM2.size
 have hbA:Below w2.heap.size w2 (w2.alloc (.cells #[.int .i64 (y:Int),.int .i64 (m:Int),.int .i64 (d:Int),.int .i64 (c:Int)] 198)):=(Below.refl _ _).alloc (zR _) _
 have hTA:=hT2.below hbA
 have k0:=hTA.c0
 have k1:=hTA.c1
 have hbB:=zH (hb2.out.trans (hbA.mono hb2.out.size))
 have hCB:=zH (hC2.out.below hbA)
 dsimp only at k0 k1
 have he:=isEmpty_strB r
 clear hT2 hM2 hbA hTA hbx cP
 cases x
 ·cases hr:r.isEmpty
  ·rw [hr]at he hA
   have hA2:Hid (ans=none):=zH hA
   clear hA
   generalize strB r=q at *
   go_wp2_with fail
   go_ret2
   exact⟨by rw [hA2.out]<;>rfl,hbB.out⟩
  ·rw [hr]at he hA
   have hA':ans=(if DayOk y m d∧wdN (daysN y m d)=n1 then some (86400*daysN y m d+c)else none):=by rw [hA]<;>rfl
   clear hA
   have cD:=days_any y m d _ hCB.out
   generalize hq:strB r=q at *
   clear hq
   have hz3:(w2.alloc (.cells #[.int .i64 (y:Int),.int .i64 (m:Int),.int .i64 (d:Int),.int .i64 (c:Int)] 198)).heap.size=w2.heap.size+1:=by simp
   have Hz3:=zH hz3
   clear hz3
   unfold daysV at cD
   rw [dayI_nat]at cD
   by_cases hk:DayOk y m d
   ·rw [if_pos (by simpa using hk)]at cD
    simp only [Int.toNat_natCast]at cD
    have hlt:=days_bound hk
    have cK:=fun W=>weekday_nat (daysN y m d) W (by omega)
    by_cases hw:wdN (daysN y m d)=n1
    ·have hgo:Hid (ans=some (86400*daysN y m d+c)):=zH (hA'.trans (if_pos ⟨hk,hw⟩))
     clear hA'
     have hne:(((wdN (daysN y m d):Nat):Int) != (n1:Int))=false:=by rw [hw];simp
     generalize wdN (daysN y m d)=wd at *
     generalize daysN y m d=K at *
     go_wp2_with fail
     refine cD.mono ?_
     rintro e w3 ⟨rfl,hb3⟩
     have kc:w3.cell? ⟨w2.heap.size,3,none⟩=some (.int .i64 (c:Int)):=(hb3.cell (p:=⟨w2.heap.size,3,none⟩) (by rw [Hz3.out];exact Nat.lt_succ_self _)).trans (by simp)
     go_wp2_with fail
     refine(cK _).mono ?_
     rintro e w4 ⟨rfl,rfl⟩
     go_wp2_with fail
     go_ret2
     refine⟨?_,hbB.out.trans (hb3.mono hbB.out.size)⟩
     rw [hgo.out]
     have hcast:((86400*K+c:Nat):Int)=(K:Int)*86400+(c:Int):=by omega
     simp only [secV]
     rw [hcast]
     rfl
    ·have hgo:Hid (ans=none):=zH (hA'.trans (if_neg (fun h=>hw h.2)))
     clear hA'
     have hne:(((wdN (daysN y m d):Nat):Int) != (n1:Int))=true:=by simp;omega
     generalize wdN (daysN y m d)=wd at *
     generalize daysN y m d=K at *
     go_wp2_with fail
     refine cD.mono ?_
     rintro e w3 ⟨rfl,hb3⟩
     go_wp2_with fail
     refine(cK _).mono ?_
     rintro e w4 ⟨rfl,rfl⟩
     go_wp2_with fail
     go_ret2
     refine⟨?_,hbB.out.trans (hb3.mono hbB.out.size)⟩
     rw [hgo.out]
     rfl
   ·rw [if_neg (by simpa using hk)]at cD
    have hgo:Hid (ans=none):=zH (hA'.trans (if_neg (fun h=>hk h.1)))
    clear hA'
    go_wp2_with fail
    refine cD.mono ?_
    rintro e w3 ⟨rfl,hb3⟩
    go_wp2_with fail
    go_ret2
    refine⟨?_,hbB.out.trans (hb3.mono hbB.out.size)⟩
    rw [hgo.out]
    rfl
 ·have hA2:Hid (ans=none):=zH hA
  clear he hA
  generalize strB r=q at *
  go_wp2_with fail
  go_ret2
  exact⟨by rw [hA2.out]<;>rfl,hbB.out⟩
def leapB (y:Nat):Bool:=decide (y % 4=0∧(y % 100≠0∨y % 400=0))
theorem lp_leapB {y:Nat} (h:1970≤y):lpN (y+1)=lpN y+if leapB y then 1 else 0:=by
 rw [lp_leap h]
 unfold leapB
 simp only [decide_eq_true_eq]
theorem db_leapB {y:Nat} (h:1970≤y):dbN (y+1)=dbN y+365+if leapB y then 1 else 0:=by
 have h1:=lp_leapB h
 have h2:=lp_ge h
 unfold dbN
 omega
theorem ml_leapB {y:Nat} (h:1970≤y):mlN y 2=if leapB y then 29 else 28:=by
 have h1:=lp_leapB h
 unfold mlN
 rw [if_pos rfl,h1]
 split<;>omega
theorem rleap_any (y:Nat) (w:World) :
  Calls Tryz.prog 157 #[.int .i64 y] w fun e w'=>e=.returned (.bool (leapB y))∧w=w':=by
 unfold leapB
 by_cases h4:y % 4=0
 ·have d4:((y:Int) % 4==0)=true:=by simp;omega
  by_cases h100:y % 100=0
  ·have d100:((y:Int) % 100 != 0)=false:=by simp;omega
   by_cases h400:y % 400=0
   ·have d400:((y:Int) % 400==0)=true:=by simp;omega
    rw [decide_eq_true (p:=_∧_) ⟨h4,.inr h400⟩]
    clear h4 h100 h400
    go_enter Tryz.func157,Tryz.ntmps157
    go_wp2_with fail
    go_ret
    exact⟨rfl,rfl⟩
   ·have d400:((y:Int) % 400==0)=false:=by simp;omega
    rw [decide_eq_false (p:=_∧_) (by omega)]
    clear h4 h100 h400
    go_enter Tryz.func157,Tryz.ntmps157
    go_wp2_with fail
    go_ret
    exact⟨rfl,rfl⟩
  ·have d100:((y:Int) % 100 != 0)=true:=by simp;omega
   rw [decide_eq_true (p:=_∧_) ⟨h4,.inl h100⟩]
   clear h4 h100
   go_enter Tryz.func157,Tryz.ntmps157
   go_wp2_with fail
   go_ret
   exact⟨rfl,rfl⟩
 ·have d4:((y:Int) % 4==0)=false:=by simp;omega
  rw [decide_eq_false (p:=_∧_) (by omega)]
  clear h4
  go_enter Tryz.func157,Tryz.ntmps157
  go_wp2_with fail
  go_ret
  exact⟨rfl,rfl⟩
theorem rweekday_any (k:Int) (w:World) (h0:-9223372036854775808≤k) (h1:k≤9223372036854775807) :
  Calls Tryz.prog 122 #[.int .i64 k] w fun e w'=>e=.returned (.int .i64 (if k<0 then 0 else(k % 7+4) % 7))∧w=w':=by
 by_cases h:k<0
 ·rw [if_pos h]
  have d1:decide (k<0)=true:=by simpa using h
  go_enter Tryz.func122,Tryz.ntmps122
  go_wp2
  go_ret
  exact⟨rfl,rfl⟩
 ·rw [if_neg h]
  obtain⟨k,rfl⟩:=Int.eq_ofNat_of_zero_le (show 0≤k by omega)
  have d1:decide ((k:Int)<0)=false:=by simp
  go_enter Tryz.func122,Tryz.ntmps122
  go_wp2
  go_ret
  exact⟨rfl,rfl⟩
abbrev lgC:Array Value:=#[.int .i64 0,.int .i64 31,.int .i64 28,.int .i64 31,.int .i64 30,.int .i64 31,.int .i64 30,.int .i64 31,.int .i64 31,.int .i64 30,.int .i64 31,.int .i64 30,.int .i64 31]
theorem lg_at:∀j:Fin 13,1≤j.val→lgC[j.val]? = some (.int .i64 (mdT.getD (j.val-1) 0:Nat)):=by
 intro j h
 match j,h with
 | ⟨1,_⟩,_ | ⟨2,_⟩,_ | ⟨3,_⟩,_ | ⟨4,_⟩,_ | ⟨5,_⟩,_ | ⟨6,_⟩,_ | ⟨7,_⟩,_ | ⟨8,_⟩,_ | ⟨9,_⟩,_ | ⟨10,_⟩,_ | ⟨11,_⟩,_ | ⟨12,_⟩,_=>rfl
theorem alloc_at (w:World) (cs:Array Value) (T:TypeId) (m:Nat) (v:Value) (h:cs[m]? = some v):(w.alloc (.cells cs T)).cell? ⟨w.heap.size,m,none⟩=some v:=by
 simp [h]
theorem rlong_any (y m:Nat) (w:World) (h1:1970≤y) (h3:1≤m) (h4:m≤12) :
  Calls Tryz.prog 156 #[.int .i64 y,.int .i64 m] w fun e w'=>e=.returned (.int .i64 (mlN y m:Nat))∧Below w.heap.size w w':=by
 have cL:=fun W=>rleap_any y W
 have hb:∀o,Below w.heap.size w (w.alloc o):=fun o=>(Below.refl _ _).alloc (zR _) _
 by_cases hm:m=2
 ·subst hm
  rw [ml_leapB h1]
  cases hl:leapB y
  ·rw [hl]at cL
   go_enter Tryz.func156,Tryz.ntmps156
   go_wp2_with fail
   refine(cL _).mono ?_
   rintro e w1 ⟨rfl,rfl⟩
   go_wp2_with fail
   go_ret
   exact⟨rfl,hb _⟩
  ·rw [hl]at cL
   go_enter Tryz.func156,Tryz.ntmps156
   go_wp2_with fail
   refine(cL _).mono ?_
   rintro e w1 ⟨rfl,rfl⟩
   go_wp2_with fail
   go_ret
   exact⟨rfl,hb _⟩
 ·have d1:((m:Int)==2)=false:=by simp;omega
  have hv:(mlN y m:Nat)=mdT.getD (m-1) 0:=by unfold mlN;rw [if_neg hm]
  rw [hv]
  have hc:=alloc_at w lgC 3 m _ (lg_at ⟨m,by omega⟩ h3)
  dsimp only at hc
  generalize mdT.getD (m-1) 0=l at *
  go_enter Tryz.func156,Tryz.ntmps156
  go_wp2_with fail
  go_ret
  exact⟨rfl,hb _⟩
theorem rdays_yes (y m d:Nat) (hk:DayOk y m d) (w:World) :
  Calls Tryz.prog 118 #[.int .i64 y,.int .i64 m,.int .i64 d] w fun e w'=>e=.returned (.tuple #[.int .i64 (daysN y m d:Nat),.int .i64 0])∧Below w.heap.size w w':=by
 have hy1:=hk.y1
 have hy2:=hk.y2
 have hm1:=hk.m1
 have hm2:=hk.m2
 have hd1:=hk.d1
 have hd2:=hk.d2
 have hlt:=days_bound hk
 have cG:=fun W=>rlong_any y m W hy1 hm1 hm2
 have hH:Hid (daysN y m d=dbN y+msN y (m-1)+d-1):=zH rfl
 have hH2:dbN y+msN y (m-1)+d≤3000000:=by unfold daysN at hlt;omega
 have d1:decide ((y:Int)<1970)=false:=by simp;omega
 have d2:decide ((y:Int) > 9999)=false:=by simp;omega
 have d3:decide ((m:Int)<1)=false:=by simp;omega
 have d4:decide ((m:Int) > 12)=false:=by simp;omega
 have d5:decide ((d:Int)<1)=false:=by simp;omega
 clear hlt hk
 generalize mlN y m=lm at cG hd2
 have d6:decide (lm<d)=false:=by simp;omega
 go_enter Tryz.func118,Tryz.ntmps118
 go_wp2_with fail
 refine(cG _).mono ?_
 rintro e w1 ⟨rfl,hb1⟩
 go_wp2_with fail
 clear cG
 go_loopw [8,9] (fun x i wr=>∃k:Nat,i=.int .i64 k∧1970≤k∧k≤y∧x=.int .i64 (dbN k:Nat)∧Below w.heap.size w wr) (fun _ i _=>y-(intOf i).toNat)
 case atStart=>exact⟨1970,rfl,by omega,hy1,by rw [db_first]<;>rfl,hb1⟩
 case round =>
  obtain⟨k,rfl,hk1,hk2,rfl,hb⟩:=hrel
  by_cases hlt:k<y
  ·have cL:=fun W=>rleap_any k W
   have hs:=db_leapB hk1
   have hmo:=db_mono (y:=k+1) (z:=y) (by omega) hlt
   cases hl:leapB k
   ·rw [hl]at cL hs
    have hs2:dbN (k+1)=dbN k+365:=hs
    have Hs:=zH hs2
    have hq:dbN k≤3000000:=by omega
    clear hs hs2 hmo hl hH hH2
    generalize dbN k=q at *
    go_wp2_with fail
    refine(cL _).mono ?_
    rintro e w3 ⟨rfl,rfl⟩
    go_wp2_with fail
    go_roundw
    case rel=>exact⟨k+1,by go_num,by omega,by omega,by rw [Hs.out];go_num,hb⟩
    case measure=>simp [intOf];omega
   ·rw [hl]at cL hs
    have hs2:dbN (k+1)=dbN k+365+1:=hs
    have Hs:=zH hs2
    have hq:dbN k≤3000000:=by omega
    clear hs hs2 hmo hl hH hH2
    generalize dbN k=q at *
    go_wp2_with fail
    refine(cL _).mono ?_
    rintro e w3 ⟨rfl,rfl⟩
    go_wp2_with fail
    go_roundw
    case rel=>exact⟨k+1,by go_num,by omega,by omega,by rw [Hs.out];go_num,hb⟩
    case measure=>simp [intOf];omega
  ·obtain rfl:k=y:=by omega
   generalize dbN k=b at *
   go_wp2_with fail
   go_loopw [8,10] (fun x i wr2=>∃j:Nat,i=.int .i64 j∧1≤j∧j≤m∧x=.int .i64 (b+msN k (j-1):Nat)∧Below w.heap.size w wr2) (fun _ i _=>m-(intOf i).toNat)
   case atStart=>exact⟨1,rfl,by omega,by omega,rfl,hb⟩
   case round =>
    rename World=>W1
    obtain⟨j,rfl,hj1,hjm,rfl,hbj⟩:=hrel
    by_cases hlt:j<m
    ·have cL:=fun W=>rlong_any k j W (by omega) (by omega) (by omega)
     have hs:msN k (j+1-1)=msN k (j-1)+mlN k j:=by
      obtain⟨i,rfl⟩:∃i,j=i+1:=⟨j-1,by omega⟩
      exact ms_step k i
     have hmo:=ms_mono (y:=k) (a:=j+1-1) (b:=m-1) (by omega)
     rw [hs]at hmo
     have Hs:=zH hs
     clear hs
     generalize mlN k j=l at cL hmo Hs
     generalize hq:msN k (j-1)=q at hmo Hs
     generalize msN k (m-1)=z at hmo hH hH2
     go_wp2_with fail
     refine(cL _).mono ?_
     rintro e w3 ⟨rfl,hb3⟩
     go_wp2_with fail
     go_roundw
     case rel=>exact⟨j+1,by go_num,by omega,by omega,by rw [Hs.out];go_num,hbj.trans (hb3.mono hbj.size)⟩
     case measure=>simp [intOf];omega
    ·obtain rfl:j=m:=by omega
     go_wp2_with fail
     refine bodyPost_ret (v:=.tuple #[.int .i64 (daysN k j d:Nat),.int .i64 0]) (by simp [results,Tryz.results118,go_sem];rw [hH.out];omega) rfl ⟨rfl,hbj⟩
theorem rdays_any (y m d:Int) (w:World) :
  Calls Tryz.prog 118 #[.int .i64 y,.int .i64 m,.int .i64 d] w fun e w'=>e=.returned (daysV y m d)∧Below w.heap.size w w':=by
 cases hd:dayI y m d
 ·have hv:daysV y m d=.tuple #[.int .i64 0,.int .i64 1]:=by unfold daysV;rw [hd]<;>rfl
  rw [hv]
  by_cases q1:y<1970
  ·have d1:decide (y<1970)=true:=by simpa using q1
   clear hd hv
   go_enter Tryz.func118,Tryz.ntmps118
   go_wp2_with fail
   exact bodyPost_ret (v:=.tuple #[.int .i64 0,.int .i64 1]) (by simp [results,Tryz.results118,go_sem]) rfl ⟨rfl,Below.refl _ _⟩
  ·have d1:decide (y<1970)=false:=by simpa using q1
   by_cases q2:y > 9999
   ·have d2:decide (y > 9999)=true:=by simpa using q2
    clear hd hv
    go_enter Tryz.func118,Tryz.ntmps118
    go_wp2_with fail
    exact bodyPost_ret (v:=.tuple #[.int .i64 0,.int .i64 1]) (by simp [results,Tryz.results118,go_sem]) rfl ⟨rfl,Below.refl _ _⟩
   ·have d2:decide (y > 9999)=false:=by simpa using q2
    by_cases q3:m<1
    ·have d3:decide (m<1)=true:=by simpa using q3
     clear hd hv
     go_enter Tryz.func118,Tryz.ntmps118
     go_wp2_with fail
     exact bodyPost_ret (v:=.tuple #[.int .i64 0,.int .i64 1]) (by simp [results,Tryz.results118,go_sem]) rfl ⟨rfl,Below.refl _ _⟩
    ·have d3:decide (m<1)=false:=by simpa using q3
     by_cases q4:m > 12
     ·have d4:decide (m > 12)=true:=by simpa using q4
      clear hd hv
      go_enter Tryz.func118,Tryz.ntmps118
      go_wp2_with fail
      exact bodyPost_ret (v:=.tuple #[.int .i64 0,.int .i64 1]) (by simp [results,Tryz.results118,go_sem]) rfl ⟨rfl,Below.refl _ _⟩
     ·have d4:decide (m > 12)=false:=by simpa using q4
      by_cases q5:d<1
      ·have d5:decide (d<1)=true:=by simpa using q5
       clear hd hv
       go_enter Tryz.func118,Tryz.ntmps118
       go_wp2_with fail
       exact bodyPost_ret (v:=.tuple #[.int .i64 0,.int .i64 1]) (by simp [results,Tryz.results118,go_sem]) rfl ⟨rfl,Below.refl _ _⟩
      ·have d5:decide (d<1)=false:=by simpa using q5
       obtain⟨y,rfl⟩:=Int.eq_ofNat_of_zero_le (show 0≤y by omega)
       obtain⟨m,rfl⟩:=Int.eq_ofNat_of_zero_le (show 0≤m by omega)
       obtain⟨d,rfl⟩:=Int.eq_ofNat_of_zero_le (show 0≤d by omega)
       have cG:=fun W=>rlong_any y m W (by omega) (by omega) (by omega)
       have hl:mlN y m<d:=by
        rw [dayI_nat,decide_eq_false_iff_not]at hd
        by_cases h:d≤mlN y m
        ·exact absurd ⟨by omega,by omega,by omega,by omega,by omega,h⟩ hd
        ·omega
       clear hd hv
       generalize mlN y m=lm at *
       have d6:decide (lm<d)=true:=by simp;omega
       go_enter Tryz.func118,Tryz.ntmps118
       go_wp2_with fail
       refine(cG _).mono ?_
       rintro e w1 ⟨rfl,hb1⟩
       go_wp2_with fail
       exact bodyPost_ret (v:=.tuple #[.int .i64 0,.int .i64 1]) (by simp [results,Tryz.results118,go_sem]) rfl ⟨rfl,hb1⟩
 ·have hv:daysV y m d=.tuple #[.int .i64 (daysN y.toNat m.toNat d.toNat:Nat),.int .i64 0]:=by unfold daysV;rw [if_pos hd]
  rw [hv]
  clear hv
  unfold dayI at hd
  obtain⟨q1,q2,q3,hk⟩:=of_decide_eq_true hd
  obtain⟨y,rfl⟩:=Int.eq_ofNat_of_zero_le q1
  obtain⟨m,rfl⟩:=Int.eq_ofNat_of_zero_le q2
  obtain⟨d,rfl⟩:=Int.eq_ofNat_of_zero_le q3
  exact rdays_yes y m d hk w
end Go.Proofs.YtfaedmbfabfmeaaGreatDoor
