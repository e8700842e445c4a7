/- The contract of ascii.Digits (for a seat on BasP). · The contracts of strings.Builder's copyCheck and WriteString at this translation (its copyCheck ends in a refused place that no run comes to). · The contract of ascii.Lower. · The contract of the document's own Digits (sculleryref01). · The contracts of the document's own answers for package ascii (sculleryref01): Lower. -/
import Derived.Test.YtfaedmbfabfmeaaGreatDoorYMAscN
import Derived.Test.YtfaedmbfabfmeaaGreatDoorYMBasP
import Derived.Test.YtfaedmbfabfmeaaGreatDoorRows
import Derived.Lib.Builder
import Derived.Lib.AppendStr
import Derived.Lib.UnsafeStr
import Derived.Laws.IdiomStrings
import Derived.WalkKit
import Derived.WalkSpells
import Derived.WalkLawsBesides
import Derived.Laws.AppendOwn
import Derived.Laws.BytesArg
set_option linter.unusedSimpArgs false
set_option maxRecDepth 100000
set_option maxHeartbeats 2000000
namespace Go.Proofs.YtfaedmbfabfmeaaGreatDoor
open Go.RowKit
theorem digits_any (s:ByteArray) (w:World) (hs:s.size≤maxLen) :
  Calls Tryz.prog 131 #[.string s] w fun e w'=>e=.returned (.tuple #[.int .i64 (digitsN s.data.toList),.bool (digitsB s.data.toList)])∧w=w':=by
 unfold maxLen at hs
 go_enter Tryz.func131,Tryz.ntmps131
 go_wp2
 go_loop [4,8] (fun n i=>∃k:Nat,k≤s.size∧i=.int .i64 k∧digAll (s.data.toList.take k)=true∧n=.int .i64 (digN (s.data.toList.take k))) (fun _ i=>s.size-(intOf i).toNat)
 case atStart=>exact⟨0,Nat.zero_le _,rfl,rfl,rfl⟩
 case round =>
  obtain⟨k,hk,rfl,hall,rfl⟩:=hrel
  obtain⟨hn0,hn1⟩:=digN_in s k hall
  have Hall:=zH hall
  clear hall
  by_cases hlt:k<s.size
  ·have cD:=isDigit_any_AscN (s[k].toNat:Int) w
   cases hd:digI (s[k].toNat:Int)
   ·have Hf:=zH (all_false_of (fun c=>digI c.toNat) s k hlt hd)
    rw [hd]at cD
    clear hd
    go_wp2_with (go_at_call 169;refine cD.mono ?_;rintro e w' ⟨rfl,rfl⟩)
    go_ret2
    exact⟨by simp [digitsN,digitsB,digAll,Hf.out],rfl⟩
   ·have Hs:=zH (digN_snoc s k hlt)
    have Ha:=zH (all_snoc (fun c=>digI c.toNat) s k hlt)
    rw [hd]at cD
    obtain⟨h48,h57⟩:=(digI_iff _).1 hd
    have Hd:=zH hd
    clear hd
    go_wp2_with (go_at_call 169;refine cD.mono ?_;rintro e w' ⟨rfl,rfl⟩)
    go_round
    case rel=>exact⟨k+1,by omega,by go_num,by rw [digAll,Ha.out,Hd.out,Bool.and_true];exact Hall.out,by rw [Hs.out,digStep];exact int_eq (by split<;>omega)⟩
    case measure=>simp [intOf];omega
  ·have hk':s.size≤k:=by omega
   go_wp2
   go_ret2
   refine⟨two_eq (int_eq ?_) (bool_eq ?_),rfl⟩
   ·rw [take_all s k hk']at Hall ⊢
    rw [digitsN,if_pos Hall.out]
   ·rw [take_all s k hk']at Hall
    rw [digitsB,Hall.out,Lib.toList_data,Bool.true_and]
theorem info_u8_HdK:(Tryz.prog.info? 5).map (fun i=>(i.zero,i.size,i.bytes))=some (some (.int .u8 0),1,1):=by kernel_rfl
theorem size_builder_HdK:(Tryz.prog.info? 162).map (·.size)=some 2:=by kernel_rfl
theorem lies_builder_HdK:liesAt Tryz.prog Tryz.prog.depth 162 (2 / Tryz.prog.cellsOf 162) 0 162 1=true:=by kernel_rfl
theorem copyCheck_used_HdK (b:Nat) (w:World) (h0:w.cell? ⟨b,0,none⟩=some (.pointer (some ⟨b,0,none⟩))) :
  Calls Tryz.prog 154 #[.pointer (some ⟨b,0,none⟩)] w fun e w'=>e=.returned (.tuple #[])∧w'=w:=by
 obtain⟨j,hj,_⟩:=Option.map_eq_some_iff.1 size_builder_HdK
 go_enter Tryz.func154,Tryz.ntmps154
 go_wp2
 rw [Lib.run_neq_ptr_same w _ Tryz.underlying160 hj]
 go_wp2
 go_end0
 exact⟨rfl,rfl⟩
theorem copyCheck_fresh_HdK (b:Nat) (w:World) (h0:w.cell? ⟨b,0,none⟩=some (.pointer none)) (hsh:w.shape? b=some (162,2)) (hfz:w.frozen? ⟨b,0,none⟩=false) :
  Calls Tryz.prog 154 #[.pointer (some ⟨b,0,none⟩)] w fun e w'=>e=.returned (.tuple #[])∧w'=w.setCell ⟨b,0,none⟩ (.pointer (some ⟨b,0,none⟩)):=by
 obtain⟨j,hj,hjs⟩:=Option.map_eq_some_iff.1 size_builder_HdK
 go_enter Tryz.func154,Tryz.ntmps154
 go_wp2
 rw [Lib.run_to_unsafe w ⟨b,0,none⟩ Tryz.underlying160 Tryz.underlying235 hj (by rw [hjs];decide) hsh (Nat.zero_lt_succ 1)]
 simp only [Result.andThen]
 rw [Oper.upon_value]
 go_wp2
 rw [run_callFunc_extern Tryz.func191 (by kernel_rfl) (by kernel_rfl) (by kernel_rfl) (e:=Extern.AbiNoEscape.same) (by kernel_rfl)]
 rw [Lib.run_noEscape]
 simp only [Result.andThen]
 rw [Oper.upon_value]
 go_wp2
 rw [Lib.run_from_unsafe w ⟨b,0,none⟩ Tryz.underlying235 Tryz.underlying160 hj hsh lies_builder_HdK]
 simp only [Result.andThen]
 rw [Oper.upon_value]
 go_wp2
 go_end0
 exact⟨rfl,rfl⟩
theorem copyCheck_any_HdK (B b:Nat) (bs:List Value) (w:World) (h:Lib.IsBuilder 162 5 B b bs w) :
  Calls Tryz.prog 154 #[.pointer (some ⟨b,0,none⟩)] w fun e w'=>e=.returned (.tuple #[])∧(Lib.BuilderAt 162 5 B b (.pointer (some ⟨b,0,none⟩)) bs w'∧Below B w w'):=by
 rcases h with h | h
 ·refine(copyCheck_fresh_HdK b w h.cell0 h.shape h.frozen0).mono ?_
  rintro e w' ⟨rfl,rfl⟩
  exact⟨rfl,h.used _,(Below.refl B w).setCell (p:=⟨b,0,none⟩) h.1 _⟩
 ·refine(copyCheck_used_HdK b w h.cell0).mono ?_
  rintro e w' ⟨rfl,rfl⟩
  exact⟨rfl,h,Below.refl B _⟩
def RowIs (w:World) (b:Nat) (l:List UInt8):Prop:=∀j,j<l.length→w.cell? ⟨b,j,none⟩=some (.int .u8 ((l.getD j 0).toNat:Int))∧w.frozen? ⟨b,j,none⟩=false
theorem RowIs.set {w:World} {b:Nat} {l:List UInt8} (h:RowIs w b l) (k:Nat) (c:UInt8) (n:Int) (hn:(c.toNat:Int)=n):RowIs (w.setCell ⟨b,k,none⟩ (.int .u8 n)) b (l.set k c):=by
 intro j hj
 rw [List.length_set]at hj
 refine⟨?_,by rw [World.frozen?_setCell];exact(h j hj).2⟩
 by_cases e:k=j
 ·subst e
  rw [World.cell?_setCell_same w _ _ (h k hj).1,← hn]
  simp [hj]
 ·rw [World.cell?_setCell_other w _ _ _ (by intro q;exact e (by injection q)),(h j hj).1]
  simp [e]
theorem RowIs.of_bytes (w:World) (s:ByteArray) (cap:Nat) (e:TypeId) (h:s.size≤cap):RowIs (w.drew.alloc (.cells (bytesRow s cap) e ((bytesRow s cap).size,(bytesRow s cap).size+1))) w.heap.size s.data.toList:=by
 intro j hj
 have hj':j<s.data.size:=by simpa using hj
 have hz:(bytesRow s cap).size=cap:=by
  unfold bytesRow
  have:s.data.size=s.size:=rfl
  simp
  omega
 refine⟨?_,?_⟩
 ·rw [show w.heap.size=w.drew.heap.size from rfl,World.cell?_alloc_mark,bytesRow_at s cap j hj']
  rw [List.getD_eq_getElem?_getD,Array.getElem?_toList,Array.getElem?_eq_getElem hj',Option.getD_some]
 ·rw [show w.heap.size=w.drew.heap.size from rfl,World.frozen?_alloc_mark,hz]
  have:s.data.size=s.size:=rfl
  simp
  omega
theorem lower_any (s:ByteArray) (w:World) (hs:s.size≤maxLen) :
  Calls Tryz.prog 136 #[.string s] w fun e w'=>e=.returned (.string ⟨(lowL s.data.toList).toArray⟩)∧Below w.heap.size w w':=by
 unfold maxLen at hs
 have hcap:=grownCap_ge w s.size 0 5
 have hconv:=run_bytes_of_string (P:=Tryz.prog) w 9 23 5 s Tryz.underlying9 Tryz.underlying23 Tryz.underlying5
 have R0:=RowIs.of_bytes w s _ 5 hcap
 have hb0:Below w.heap.size w (w.drew.alloc (.cells (bytesRow s (grownCap w s.size 0 5)) 5 ((bytesRow s (grownCap w s.size 0 5)).size,(bytesRow s (grownCap w s.size 0 5)).size+1))):=(Below.refl _ _).drew.alloc (zR _) _
 generalize grownCap w s.size 0 5=cap at hcap hconv R0 hb0
 generalize(Obj.cells (bytesRow s cap) 5 ((bytesRow s cap).size,(bytesRow s cap).size+1))=ob at hconv R0 hb0
 go_enter Tryz.func136,Tryz.ntmps136
 go_wp2_with fail
 go_loopw [10] (fun i wr=>∃k:Nat,k≤s.size∧i=.int .i64 k∧RowIs wr w.heap.size (lowTo s.data.toList k)∧Below w.heap.size w wr) (fun i _=>s.size-(intOf i).toNat)
 case atStart=>exact⟨0,by omega,rfl,by rw [lowTo_zero];exact R0,hb0⟩
 case round =>
  obtain⟨k,hk,rfl,R,hb⟩:=hrel
  clear hconv R0 hb0
  have hsz:=Lib.size_eq s
  by_cases hlt:k<s.size
  ·have hlk:k<(lowTo s.data.toList k).length:=by rw [lowTo_length];omega
   have hkl:k<s.data.toList.length:=by omega
   clear hsz
   have hcell:=(R k hlk).1
   have hfrz:=(R k hlk).2
   rw [lowTo_at _ _ hkl]at hcell
   have Hsu:=zH (lowTo_succ s.data.toList k hkl)
   have Hat:=zH (lowTo_at s.data.toList k hkl)
   generalize s.data.toList[k]=c at hcell Hsu Hat
   have cU:=isUpper_any_AscN (c.toNat:Int) wr
   cases hu:upI (c.toNat:Int)
   ·rw [hu]at cU
    have Hlow:=zH (lowB_not c hu)
    clear hu
    go_wp2_with (go_at_call 175;refine cU.mono ?_;rintro e w' ⟨rfl,rfl⟩)
    go_roundw
    case rel=>exact⟨k+1,by omega,by go_num,by rw [Hsu.out,Hlow.out,← Hat.out,set_same_LowP _ _ hlk];exact R,hb⟩
    case measure=>simp [intOf];omega
   ·rw [hu]at cU
    have Hlow:=zH (lowB_up c hu)
    obtain⟨h65,h90⟩:=(upI_iff _).1 hu
    clear hu
    go_wp2_with (go_at_call 175;refine cU.mono ?_;rintro e w' ⟨rfl,rfl⟩)
    go_roundw
    case rel=>exact⟨k+1,by omega,by go_num,by rw [Hsu.out];exact R.set k _ _ Hlow.out,hb.setCell (zR _) _⟩
    case measure=>simp [intOf];omega
  ·have Hk:Hid (lowTo s.data.toList k=lowL s.data.toList):=zH (lowTo_end _ _ (by omega))
   have hback:=run_convert_bytes_back (P:=Tryz.prog) wr 23 9 5 ⟨w.heap.size,0,none⟩ cap (lowL s.data.toList) Tryz.underlying23 Tryz.underlying5 Tryz.underlying9 (by
    intro j hj
    have h1:j<(lowTo s.data.toList k).length:=by rw [Hk.out];exact hj
    have:=(R j h1).1
    rw [Hk.out,List.getD_eq_getElem?_getD,List.getElem?_eq_getElem hj]at this
    rw [add_none]
    simpa using this)
   rw [show(lowL s.data.toList).length=s.size by rw [hsz];simp [lowL]]at hback
   clear hsz
   go_wp2
   go_ret
   exact⟨rfl,hb⟩
theorem rdigits_any (s:ByteArray) (w:World) (hs:s.size≤maxLen) :
  Calls Tryz.prog 140 #[.string s] w fun e w'=>e=.returned (.tuple #[.int .i64 (digitsN s.data.toList),.bool (digitsB s.data.toList)])∧w=w':=by
 unfold maxLen at hs
 go_enter Tryz.func140,Tryz.ntmps140
 go_wp2
 go_loop [4,5] (fun n i=>∃k:Nat,k≤s.size∧i=.int .i64 k∧Hid (digAll (s.data.toList.take k)=true)∧n=.int .i64 (digN (s.data.toList.take k))) (fun _ i=>s.size-(intOf i).toNat)
 case atStart=>exact⟨0,Nat.zero_le _,rfl,rfl,rfl⟩
 case round =>
  obtain⟨k,hk,rfl,Hall,rfl⟩:=hrel
  obtain⟨hn0,hn1⟩:=digN_in s k Hall.out
  by_cases hlt:k<s.size
  ·by_cases hd:digI (s[k].toNat:Int)=true
   ·have Hs:=zH (digN_snoc s k hlt)
    have Ha:=zH (all_snoc (fun c=>digI c.toNat) s k hlt)
    obtain⟨h48,h57⟩:=(digI_iff _).1 hd
    have d1:decide ((s[k].toNat:Int)<48)=false:=by simp;omega
    have d2:decide (57<(s[k].toNat:Int))=false:=by simp;omega
    have Hd:=zH hd
    clear hd
    go_wp2
    go_round
    case rel=>exact⟨k+1,by omega,by go_num,zH (by rw [digAll,Ha.out,Hd.out,Bool.and_true];exact Hall.out),by rw [Hs.out,digStep];exact int_eq (by omega)⟩
    case measure=>simp [intOf];omega
   ·have Hf:=zH (all_false_of (fun c=>digI c.toNat) s k hlt (by simpa using hd))
    have hn:¬(48≤(s[k].toNat:Int)∧(s[k].toNat:Int)≤57):=fun h=>hd ((digI_iff _).2 h)
    clear hd
    cases d1:decide ((s[k].toNat:Int)<48)<;>cases d2:decide (57<(s[k].toNat:Int))
    ·exfalso;simp at d1 d2;omega
    all_goals
     clear hn
     go_wp2
     go_ret2
     exact⟨by simp [digitsN,digitsB,digAll,Hf.out],rfl⟩
  ·have hk':s.size≤k:=by omega
   have Hp:Hid (decide (0<s.size)=!s.data.toList.isEmpty):=zH (by rw [Lib.size_eq];exact pos_of _)
   go_wp2
   go_ret2
   rw [take_all s k hk']at Hall ⊢
   refine⟨two_eq (int_eq ?_) (bool_eq ?_),rfl⟩
   ·rw [digitsN,if_pos Hall.out]
   ·rw [digitsB,Hall.out,Bool.true_and,← Hp.out]
theorem info_byte:(Tryz.prog.info? 5).map (fun i=>(i.zero,i.size,i.bytes))=some (some (.int .u8 0),1,1):=by kernel_rfl
theorem lowB_up32 (c:UInt8) (h:upI c.toNat=true):((lowB c).toNat:Int)=(c.toNat:Int)+32:=by
 rw [lowB_up c h];omega
theorem lowL_snoc (s:ByteArray) (k:Nat) (h:k<s.size):lowL (s.data.toList.take (k+1))=lowL (s.data.toList.take k)++[lowB s[k]]:=by
 rw [take_snoc s k h];simp [lowL]
theorem rlower_any (s:ByteArray) (w:World) (hs:s.size≤1099511627776) :
  Calls Tryz.prog 142 #[.string s] w fun e w'=>e=.returned (.string (strB (lowL s.data.toList)))∧Below w.heap.size w w':=by
 obtain⟨i0,hi,hz0,hz1,hz2⟩:=info_parts info_byte
 go_enter Tryz.func142,Tryz.ntmps142
 go_wp2_with fail
 go_loopw [3,4] (fun v i wr=>∃k:Nat,k≤s.size∧i=.int .i64 k∧wr.ownsRow w.heap.size 5 1 v k ((lowL (s.data.toList.take k)).map bytV)∧Below w.heap.size w wr) (fun _ i _=>s.size-(intOf i).toNat)
 case atStart=>exact⟨0,by omega,rfl,World.ownsRow_made _ _ _ (zR _) (by decide) rfl,(Below.refl _ _).alloc (zR _) _⟩
 case round =>
  obtain⟨k,hk,rfl,hown,hb⟩:=hrel
  by_cases hlt:k<s.size
  ·have Hsn:=zH (lowL_snoc s k hlt)
   cases d1:decide (65≤(s[k].toNat:Int))<;>cases d2:decide ((s[k].toNat:Int)≤90)
   ·have Hlow:=zH (lowB_not s[k] (by rw [upI,d1,d2]<;>rfl))
    go_wp2_with (at_builtin;refine wpList_append_own _ rfl _ _ 23 rfl w.heap.size 5 i0 (.int .u8 0) 1 1 Tryz.underlying23 hi hz0 hz1 hz2 rfl (by decide) _ _ _ rfl (hown.alloc _) ⟨_,0,none⟩ 1 1 [.int .u8 (s[k].toNat:Int)] rfl rfl (cell_one_new _ _ _) (by intro u hu;simp at hu;subst hu;rfl) (by unfold maxLen;omega) (by omega) (by have:=hb.size;simp;omega) ?_;intro v' w1 hown' hgrow _)
    go_roundw
    case rel =>
     refine⟨k+1,by omega,by go_num,?_,(hb.alloc hb.size _).grown hgrow (by have:=hb.size;simp;omega) (fun k e=>(World.ownsRow.lt hown k e).1)⟩
     rw [Hsn.out,List.map_append,List.map_singleton,bytV,Hlow.out]
     exact hown'
    case measure=>simp [intOf];omega
   ·have Hlow:=zH (lowB_not s[k] (by rw [upI,d1,d2]<;>rfl))
    go_wp2_with (at_builtin;refine wpList_append_own _ rfl _ _ 23 rfl w.heap.size 5 i0 (.int .u8 0) 1 1 Tryz.underlying23 hi hz0 hz1 hz2 rfl (by decide) _ _ _ rfl (hown.alloc _) ⟨_,0,none⟩ 1 1 [.int .u8 (s[k].toNat:Int)] rfl rfl (cell_one_new _ _ _) (by intro u hu;simp at hu;subst hu;rfl) (by unfold maxLen;omega) (by omega) (by have:=hb.size;simp;omega) ?_;intro v' w1 hown' hgrow _)
    go_roundw
    case rel =>
     refine⟨k+1,by omega,by go_num,?_,(hb.alloc hb.size _).grown hgrow (by have:=hb.size;simp;omega) (fun k e=>(World.ownsRow.lt hown k e).1)⟩
     rw [Hsn.out,List.map_append,List.map_singleton,bytV,Hlow.out]
     exact hown'
    case measure=>simp [intOf];omega
   ·have Hlow:=zH (lowB_not s[k] (by rw [upI,d1,d2]<;>rfl))
    go_wp2_with (at_builtin;refine wpList_append_own _ rfl _ _ 23 rfl w.heap.size 5 i0 (.int .u8 0) 1 1 Tryz.underlying23 hi hz0 hz1 hz2 rfl (by decide) _ _ _ rfl (hown.alloc _) ⟨_,0,none⟩ 1 1 [.int .u8 (s[k].toNat:Int)] rfl rfl (cell_one_new _ _ _) (by intro u hu;simp at hu;subst hu;rfl) (by unfold maxLen;omega) (by omega) (by have:=hb.size;simp;omega) ?_;intro v' w1 hown' hgrow _)
    go_roundw
    case rel =>
     refine⟨k+1,by omega,by go_num,?_,(hb.alloc hb.size _).grown hgrow (by have:=hb.size;simp;omega) (fun k e=>(World.ownsRow.lt hown k e).1)⟩
     rw [Hsn.out,List.map_append,List.map_singleton,bytV,Hlow.out]
     exact hown'
    case measure=>simp [intOf];omega
   ·have hu:upI (s[k].toNat:Int)=true:=by rw [upI,d1,d2]<;>rfl
    have Hlow:=zH (lowB_up32 s[k] hu)
    obtain⟨h65,h90⟩:=(upI_iff _).1 hu
    clear hu
    go_wp2_with (at_builtin;refine wpList_append_own _ rfl _ _ 23 rfl w.heap.size 5 i0 (.int .u8 0) 1 1 Tryz.underlying23 hi hz0 hz1 hz2 rfl (by decide) _ _ _ rfl (hown.alloc _) ⟨_,0,none⟩ 1 1 [.int .u8 ((s[k].toNat:Int)+32)] rfl rfl (cell_one_new _ _ _) (by intro u hu;simp at hu;subst hu;rfl) (by unfold maxLen;omega) (by omega) (by have:=hb.size;simp;omega) ?_;intro v' w1 hown' hgrow _)
    go_roundw
    case rel =>
     refine⟨k+1,by omega,by go_num,?_,(hb.alloc hb.size _).grown hgrow (by have:=hb.size;simp;omega) (fun k e=>(World.ownsRow.lt hown k e).1)⟩
     rw [Hsn.out,List.map_append,List.map_singleton,bytV,Hlow.out]
     exact hown'
    case measure=>simp [intOf];omega
  ·have hk':s.size≤k:=by omega
   obtain rfl:k=s.size:=by omega
   have Hlen:Hid ((lowL s.data.toList).length=s.size):=zH (by rw [lowL_length,Lib.size_eq])
   rw [take_all s s.size (zR _)]at hown
   rcases hown.2 with ⟨hv,hz⟩ | ⟨g,cap,cur,hv,_,hh,_⟩
   ·have hnil:Hid (strB (lowL s.data.toList)=ByteArray.empty):=zH (by
     have:lowL s.data.toList=[]:=List.eq_nil_of_length_eq_zero (by rw [Hlen.out];exact hz)
     rw [this]<;>rfl)
    have hback:=run_convert_bytes_nil (P:=Tryz.prog) wr 23 5 Tryz.underlying23 Tryz.underlying5 0 0 9 Tryz.underlying9
    rw [hv]
    have Hz:=zH hz
    clear hown hv hz
    go_wp2
    go_ret
    exact⟨by rw [hnil.out]<;>rfl,hb⟩
   ·have hback:=run_convert_bytes_back (P:=Tryz.prog) wr 23 9 5 ⟨g,0,none⟩ cap (lowL s.data.toList) Tryz.underlying23 Tryz.underlying5 Tryz.underlying9 (by
     intro j hj
     exact World.ownsRow.cells hown (g:=g) (by rw [hv]<;>rfl) j _ (by rw [List.getElem?_map,List.getElem?_eq_getElem hj]<;>rfl))
    rw [Hlen.out]at hback
    rw [hv]
    clear hown hv hh
    go_wp2
    go_ret
    exact⟨rfl,hb⟩
end Go.Proofs.YtfaedmbfabfmeaaGreatDoor
