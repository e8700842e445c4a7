/- Plain facts about texts and rows of memory; no program is named. · Laws that no program is named in: a copy out of a string into a block that was made last; an owned row of bytes turned to a string; what text an owned row holds. · Plain: bytes and texts in lower case. · Plain: rows that a call owns; a map's datum that is a set of keys. (As in the texts of package item, which this seat does not have.) · Plain: texts are the same just where their bytes are. · Plain: however many cells at a block, to be written to. · Plain: rules; whether a response may be told by them. · Plain: the calendar and the texts of dates; no program is named. · Plain: what each reader of a date reads, said both ways. · Plain: which texts are dates, and of which seconds. · Four numbers in a block, as long as a region calls. · Plain: numbers in memory, read only. · One number in memory. · A byte as a value. -/
import Derived.Test.YtfaedmbfabfmeaaGreatDoorYAscPlain
import Derived.Lib.IndexBytes
import Derived.Lib.Hide
import Derived.Laws.IdiomStrings
import Derived.Deep.Draws
import Derived.WalkKit
import Derived.WalkSpells
import Derived.Laws.CopyRow
import Derived.Laws.BytesArg
import Derived.Laws.AppendOwn
import Derived.Tactics
import Derived.Maps.OwnSet
namespace Go.Proofs.YtfaedmbfabfmeaaGreatDoor
open Go.RowKit
def strB (p:List UInt8):ByteArray:=⟨p.toArray⟩
theorem strB_data (p:List UInt8):(strB p).data.toList=p:=rfl
theorem strB_size (p:List UInt8):(strB p).size=p.length:=by rw [Lib.size_eq,strB_data]
theorem strB_of (s:ByteArray):strB s.data.toList=s:=Lib.mk_data s
theorem append_data (a b:ByteArray):(a++b).data.toList=a.data.toList++b.data.toList:=by
 simp
theorem strB_append (a b:List UInt8):strB a++strB b=strB (a++b):=by
 rw [← strB_of (strB a++strB b),append_data];rfl
theorem all_bytes (p:UInt8→Bool) (h:∀x:Fin 256,p (UInt8.ofNat x.val)=true) (c:UInt8):p c=true:=by
 have:=h ⟨c.toNat,c.toNat_lt⟩
 simpa using this
theorem drop_cons_at (s:ByteArray) (k:Nat) (h:k<s.size):s.data.toList.drop k=s[k] :: s.data.toList.drop (k+1):=by
 rw [List.drop_eq_getElem_cons (by rw [← Lib.size_eq];exact h)];rfl
theorem byte_beq (c d:UInt8):((c.toNat:Int)==(d.toNat:Int))=(c==d):=by
 rw [Bool.eq_iff_iff]
 simp only [beq_iff_eq]
 constructor
 ·intro e
  exact UInt8.toNat_inj.1 (by omega)
 ·intro e
  rw [e]
theorem add_none (b j:Nat):(⟨b,0,none⟩:Addr).add j=⟨b,j,none⟩:=by unfold Addr.add;split<;>simp_all
theorem extract_take (t:ByteArray) (k:Nat):(t.extract 0 k).data.toList=t.data.toList.take k:=by rw [Lib.extract_data];simp
theorem strB_take (p:List UInt8) (k:Nat):(strB p).extract 0 k=strB (p.take k):=by
 rw [← strB_of ((strB p).extract 0 k),extract_take];rfl
theorem strB_drop (p:List UInt8) (k n:Nat) (h:n=p.length):(strB p).extract k n=strB (p.drop k):=by
 subst h
 rw [← strB_of ((strB p).extract k p.length),← strB_size,Lib.extract_to_end];rfl
theorem one_at (s:ByteArray) (k:Nat) (h:k<s.size):s.extract k (k+1)=strB [s[k]]:=by
 have hl:k<s.data.toList.length:=by rw [← Lib.size_eq];exact h
 rw [← strB_of (s.extract k (k+1)),Lib.extract_data]
 congr 1
 rw [show k+1-k=1 by omega,List.drop_eq_getElem_cons hl]
 rfl
theorem takeWhile_len_le (p:UInt8→Bool):∀l:List UInt8,(l.takeWhile p).length≤l.length
 | []=>Nat.le_refl _
 | c :: l=>by
  have:=takeWhile_len_le p l
  rw [List.takeWhile_cons]
  split
  ·simp only [List.length_cons];omega
  ·simp
theorem ownsRow_later {w w':World} {base:Nat} {e:TypeId} {size:Nat} {v:Value} {n:Nat} {xs:List Value} (h:w.ownsRow base e size v n xs) (hb:Below w.heap.size w w'):w'.ownsRow base e size v n xs:=by
 obtain⟨h1,h2⟩:=h
 refine⟨h1,?_⟩
 rcases h2 with h2 | ⟨g,cap,cur,hv,hg,hh,r⟩
 ·exact Or.inl h2
 ·exact Or.inr ⟨g,cap,cur,hv,hg,by rw [hb.block g (Array.getElem?_eq_some_iff.1 hh).1];exact hh,r⟩
theorem bcell {W w1:World} (hb:Below W.heap.size W w1):(∀b o,b<W.heap.size→w1.cell? ⟨b,o,none⟩=W.cell? ⟨b,o,none⟩)∧(∀b o,b<W.heap.size→w1.frozen? ⟨b,o,none⟩=W.frozen? ⟨b,o,none⟩):=
 ⟨fun b o h=>hb.cell (p:=⟨b,o,none⟩) h,fun b o h=>hb.frozen (p:=⟨b,o,none⟩) h⟩
theorem below_drewN (w:World) (n:Nat):Below w.heap.size w (w.drewN n):=⟨rfl,rfl,rfl,Nat.le_refl _,fun _ _=>rfl⟩
theorem lt_of_cell {w:World} {a:Addr} {v:Value} (h:w.cell? a=some v):a.block<w.heap.size:=by
 rcases Nat.lt_or_ge a.block w.heap.size with h1 | h1
 ·exact h1
 ·exfalso
  unfold World.cell? at h
  rw [Array.getElem?_eq_none h1]at h
  simp at h
theorem zH {p:Prop} (h:p):Hid p:=h
theorem zR (n:Nat):n≤n:=Nat.le_refl n
def u8V (c:UInt8):Value:=.int .u8 (c.toNat:Int)
theorem push_set (h:Array Obj) (x y:Obj):(h.push x).set h.size y (by simp)=h.push y:=by
 apply Array.ext
 ·simp
 ·intro i h1 h2
  simp only [Array.getElem_set,Array.getElem_push]
  split
  ·subst_vars;simp
  ·have h3:i<h.size:=by simp at h2;omega
   simp [h3]
theorem setRow_new (W:World) (cur new:Array Value) (t:TypeId):(W.alloc (.cells cur t)).setRow W.heap.size new=W.alloc (.cells new t):=by
 unfold World.setRow World.alloc
 simp [Array.modify,Array.modifyM]
 rw [push_set]
 rfl
theorem run_copy_str {P : Program} (W : World) (dT sT ty elem : TypeId) (off dLen dCap : Nat) (s : ByteArray) (cur new : Array Value) (t : TypeId)
    (hu : P.underlying dT = some (.slice elem)) (hs : (P.info? elem).map (·.size) = some 1) (m : Nat) (hm : Nat.min s.size dLen = m) (hfit : off + m ≤ cur.size)
    (hnew : new = (cur.toList.take off ++ ((s.data.toList.take m).map u8V ++ cur.toList.drop (off + m))).toArray) :
    (Builtin.copy_ #[dT, sT] ty #[.slice (some ⟨W.heap.size, off, none⟩) dLen dCap, .string s]).run P (W.alloc (.cells cur t)) =
      .ok (goInt m) (W.alloc (.cells new t)) := by
  have hlen : ((s.data.toList.take m).map u8V).length = m := by rw [List.length_map, List.length_take, ← Lib.size_eq]; have : m ≤ s.size := by rw [← hm]; exact Nat.min_le_left _ _
                                                                omega
  have hst := run_storeCells_at P W.heap.size off t ((s.data.toList.take m).map u8V) 0 cur (W.alloc (.cells cur t)) (heap_alloc_new W _) (by rw [hlen]; simpa using hfit) (by
    intro v hv
    obtain ⟨x, _, rfl⟩ := List.mem_map.1 hv
    rfl)
  rw [hlen] at hst
  simp only [Nat.add_zero] at hst
  cases hq : P.info? elem with
  | none => simp [hq] at hs
  | some i =>
    have h1 : List.take m (List.map (fun b : UInt8 => Value.int IntKind.u8 (b.toNat : Int)) s.data.toList) = (s.data.toList.take m).map u8V := by
      rw [← List.map_take] <;> rfl
    simp [Builtin.copy_, run_underlying hu, Builtin.lenOf, Builtin.firstCells, sizeOf, typeInfo, hq, hm]
    rw [← List.map_take, show (fun b : UInt8 => Value.int IntKind.u8 (b.toNat : Int)) = u8V from rfl, hst, setRow_new, hnew]
    simp [Result.andThen]
theorem run_owned_str {P:Program} {w:World} {src dst e:TypeId} {B:Nat} {v:Value} {l:List UInt8} (hs:P.underlying src=some (.slice e)) (he:P.underlying e=some (.int .u8)) (hd:P.underlying dst=some .string)
  (h:w.ownsRow B e 1 v l.length (l.map u8V)):(convert src dst v).run P w=.ok (.string (strB l)) w:=by
 obtain⟨h1,h2⟩:=h
 rcases h2 with ⟨rfl,h2⟩ | ⟨g,cap,cur,rfl,hg,hh,r⟩
 ·have:l=[]:=List.eq_nil_of_length_eq_zero h2
  subst this
  exact run_convert_bytes_nil w src e hs he 0 0 dst hd
 ·refine run_convert_bytes_back w src dst e _ cap l hs he hd fun j hj=>?_
  exact World.ownsRow.cells (w:=w) (base:=B) (e:=e) (size:=1) ⟨h1,.inr ⟨g,cap,cur,rfl,hg,hh,r⟩⟩ (g:=g) rfl j _ (by rw [List.getElem?_map,List.getElem?_eq_getElem hj]<;>rfl)
def lowB (c:UInt8):UInt8:=if upI c.toNat then c+32 else c
def lowTo (l:List UInt8) (k:Nat):List UInt8:=(l.take k).map lowB++l.drop k
def lowL (l:List UInt8):List UInt8:=l.map lowB
theorem lowTo_length (l:List UInt8) (k:Nat):(lowTo l k).length=l.length:=by
 simp [lowTo];omega
theorem lowTo_zero (l:List UInt8):lowTo l 0=l:=by simp [lowTo]
theorem lowTo_end (l:List UInt8) (k:Nat) (h:l.length≤k):lowTo l k=lowL l:=by
 simp [lowTo,lowL,List.take_of_length_le h,List.drop_of_length_le h]
theorem lowTo_at (l:List UInt8) (k:Nat) (h:k<l.length):(lowTo l k).getD k 0=l[k]:=by
 have h1:((l.take k).map lowB).length=k:=by simp;omega
 rw [lowTo,List.getD_eq_getElem?_getD,List.getElem?_append_right (by omega),h1]
 simp [h]
theorem lowTo_succ (l:List UInt8) (k:Nat) (h:k<l.length):lowTo l (k+1)=(lowTo l k).set k (lowB l[k]):=by
 have h1:((l.take k).map lowB).length=k:=by simp;omega
 rw [lowTo,lowTo,List.set_append_right _ _ (by omega),h1,Nat.sub_self,List.take_succ_eq_append_getElem h,List.drop_eq_getElem_cons h,List.map_append,List.set_cons_zero,List.append_assoc]
 rfl
theorem upI_iff (c:Int):upI c=true↔65≤c∧c≤90:=by simp [upI]
theorem lowB_up (c:UInt8) (h:upI c.toNat=true):((lowB c).toNat:Int)=(c.toNat:Int)-65+97:=by
 rw [lowB,if_pos h]
 obtain⟨a,b⟩:=(upI_iff _).1 h
 rw [UInt8.toNat_add]
 simp
 omega
theorem lowB_not (c:UInt8) (h:upI c.toNat=false):lowB c=c:=by rw [lowB,if_neg (by simp [h])]
theorem set_same_LowP (l:List UInt8) (k:Nat) (h:k<l.length):l.set k (l.getD k 0)=l:=by
 rw [List.getD_eq_getElem?_getD,List.getElem?_eq_getElem h]
 simp
theorem lowL_length (l:List UInt8):(lowL l).length=l.length:=by simp [lowL]
theorem pos_of (l:List UInt8):decide (0<l.length)=!l.isEmpty:=by cases l<;>rfl
end Go.Proofs.YtfaedmbfabfmeaaGreatDoor
namespace Go.Proofs.YtfaedmbfabfmeaaGreatDoor
open Go.RowKit Go.Maps
open Go.WideMaps (keyOf_string_mk)
theorem owns_sliceF {w:World} {base:Nat} {e:TypeId} {size:Nat} {v:Value} {n:Nat} {xs:List Value} (h:w.ownsRow base e size v n xs) (hn:0<n):∃g cap,v=.slice (some ⟨g,0,none⟩) n cap∧base≤g∧g<w.heap.size∧n≤cap:=by
 rcases h.2 with ⟨_,h2⟩ | ⟨g,cap,cur,hv,hg,hh,hc,_⟩
 ·omega
 ·exact⟨g,cap,hv,hg,(Array.getElem?_eq_some_iff.1 hh).1,hc⟩
theorem owns_cellsF {w:World} {base:Nat} {e:TypeId} {size n g cap:Nat} {xs:List Value} (h:w.ownsRow base e size (.slice (some ⟨g,0,none⟩) n cap) n xs) (j:Nat) (u:Value) (hj:xs[j]? = some u):w.cell? ⟨g,j,none⟩=some u:=by
 have:=World.ownsRow.cells h (g:=g) rfl j u hj
 rw [add_none]at this
 exact this
end Go.Proofs.YtfaedmbfabfmeaaGreatDoor
namespace Go.Proofs.YtfaedmbfabfmeaaGreatDoor
open Go.RowKit
theorem name_eq (a b:List UInt8):((strB a).toList==(strB b).toList)=decide (b=a):=by
 rw [Lib.toList_data,Lib.toList_data,strB_data,strB_data]
 by_cases h:b=a
 ·subst h;simp
 ·rw [decide_eq_false h,beq_eq_false_iff_ne]
  exact fun e=>h e.symm
end Go.Proofs.YtfaedmbfabfmeaaGreatDoor
namespace Go.Proofs.YtfaedmbfabfmeaaGreatDoor
open Go.RowKit Go.Lib
def BoxN (W:World) (c:Nat) (vs:List Value):Prop:=c<W.heap.size∧∀k v,vs[k]? = some v→W.cell? ⟨c,k,none⟩=some v∧W.frozen? ⟨c,k,none⟩=false
theorem BoxN.made (w:World) (vs:List Value) (T:TypeId):BoxN (w.alloc (.cells vs.toArray T)) w.heap.size vs:=⟨by simp,fun k v h=>by
 have hk:k<vs.length:=(List.getElem?_eq_some_iff.1 h).1
 constructor
 ·simp [h]
 ·simp⟩
theorem BoxN.next {W W1:World} {c:Nat} {vs:List Value} (h:BoxN W c vs) (hb:Below W.heap.size W W1):BoxN W1 c vs:=
 ⟨Nat.lt_of_lt_of_le h.1 hb.size,fun k v e=>⟨(hb.cell (p:=⟨c,k,none⟩) h.1).trans (h.2 k v e).1,(hb.frozen (p:=⟨c,k,none⟩) h.1).trans (h.2 k v e).2⟩⟩
theorem BoxN.set {W:World} {c:Nat} {vs:List Value} (h:BoxN W c vs) (k:Nat) (u:Value) (hk:k<vs.length):BoxN (W.setCell ⟨c,k,none⟩ u) c (vs.set k u):=
 ⟨by have:=h.1;simpa using this,fun j v e=>by
  rw [World.frozen?_setCell]
  by_cases hj:k=j
  ·subst hj
   rw [List.getElem?_set_self hk]at e
   cases e
   exact⟨World.cell?_setCell_same W ⟨c,k,none⟩ u (h.2 k _ (List.getElem?_eq_getElem hk)).1,(h.2 k _ (List.getElem?_eq_getElem hk)).2⟩
  ·rw [List.getElem?_set_ne hj]at e
   exact⟨(World.cell?_setCell_other W ⟨c,k,none⟩ ⟨c,j,none⟩ u (by simp<;>omega)).trans (h.2 j v e).1,(h.2 j v e).2⟩⟩
theorem BoxN.other {W:World} {c d k:Nat} {vs:List Value} (h:BoxN W c vs) (hd:d≠c) (u:Value):BoxN (W.setCell ⟨d,k,none⟩ u) c vs:=
 ⟨by have:=h.1;simpa using this,fun j v e=>by
  rw [World.frozen?_setCell]
  exact⟨(World.cell?_setCell_other W ⟨d,k,none⟩ ⟨c,j,none⟩ u (by simp<;>omega)).trans (h.2 j v e).1,(h.2 j v e).2⟩⟩
theorem set13B {c:Nat} {w W:World} (h:Below c w W) (a0 a1 a2 a3 a4 a5 a6 a7 a8 a9 a10 a11 a12:Value):Below c w (((((((((((((W.setCell ⟨c,0,none⟩ a0).setCell ⟨c,1,none⟩ a1).setCell ⟨c,2,none⟩ a2).setCell ⟨c,3,none⟩ a3).setCell ⟨c,4,none⟩ a4).setCell ⟨c,5,none⟩ a5).setCell ⟨c,6,none⟩ a6).setCell ⟨c,7,none⟩ a7).setCell ⟨c,8,none⟩ a8).setCell ⟨c,9,none⟩ a9).setCell ⟨c,10,none⟩ a10).setCell ⟨c,11,none⟩ a11).setCell ⟨c,12,none⟩ a12):=
 ((((((((((((h.setCell (p:=⟨c,0,none⟩) (zR _) a0).setCell (p:=⟨c,1,none⟩) (zR _) a1).setCell (p:=⟨c,2,none⟩) (zR _) a2).setCell (p:=⟨c,3,none⟩) (zR _) a3).setCell (p:=⟨c,4,none⟩) (zR _) a4).setCell (p:=⟨c,5,none⟩) (zR _) a5).setCell (p:=⟨c,6,none⟩) (zR _) a6).setCell (p:=⟨c,7,none⟩) (zR _) a7).setCell (p:=⟨c,8,none⟩) (zR _) a8).setCell (p:=⟨c,9,none⟩) (zR _) a9).setCell (p:=⟨c,10,none⟩) (zR _) a10).setCell (p:=⟨c,11,none⟩) (zR _) a11).setCell (p:=⟨c,12,none⟩) (zR _) a12
theorem set13X {W:World} {c:Nat} {l:List Value} (h:BoxN W c l) (hl:l.length=13) (a0 a1 a2 a3 a4 a5 a6 a7 a8 a9 a10 a11 a12:Value):BoxN (((((((((((((W.setCell ⟨c,0,none⟩ a0).setCell ⟨c,1,none⟩ a1).setCell ⟨c,2,none⟩ a2).setCell ⟨c,3,none⟩ a3).setCell ⟨c,4,none⟩ a4).setCell ⟨c,5,none⟩ a5).setCell ⟨c,6,none⟩ a6).setCell ⟨c,7,none⟩ a7).setCell ⟨c,8,none⟩ a8).setCell ⟨c,9,none⟩ a9).setCell ⟨c,10,none⟩ a10).setCell ⟨c,11,none⟩ a11).setCell ⟨c,12,none⟩ a12) c (((((((((((((l.set 0 a0).set 1 a1).set 2 a2).set 3 a3).set 4 a4).set 5 a5).set 6 a6).set 7 a7).set 8 a8).set 9 a9).set 10 a10).set 11 a11).set 12 a12):=
 ((((((((((((h.set 0 a0 (by simp [hl])).set 1 a1 (by simp [hl])).set 2 a2 (by simp [hl])).set 3 a3 (by simp [hl])).set 4 a4 (by simp [hl])).set 5 a5 (by simp [hl])).set 6 a6 (by simp [hl])).set 7 a7 (by simp [hl])).set 8 a8 (by simp [hl])).set 9 a9 (by simp [hl])).set 10 a10 (by simp [hl])).set 11 a11 (by simp [hl])).set 12 a12 (by simp [hl])
theorem a13X {W:World} {c:Nat} {v0 v1 v2 v3 v4 v5 v6 v7 v8 v9 v10 v11 v12:Value} (h:BoxN W c [v0,v1,v2,v3,v4,v5,v6,v7,v8,v9,v10,v11,v12]):W.cell? ⟨c,0,none⟩=some v0∧W.frozen? ⟨c,0,none⟩=false∧W.cell? ⟨c,1,none⟩=some v1∧W.frozen? ⟨c,1,none⟩=false∧W.cell? ⟨c,2,none⟩=some v2∧W.frozen? ⟨c,2,none⟩=false∧W.cell? ⟨c,3,none⟩=some v3∧W.frozen? ⟨c,3,none⟩=false∧W.cell? ⟨c,4,none⟩=some v4∧W.frozen? ⟨c,4,none⟩=false∧W.cell? ⟨c,5,none⟩=some v5∧W.frozen? ⟨c,5,none⟩=false∧W.cell? ⟨c,6,none⟩=some v6∧W.frozen? ⟨c,6,none⟩=false∧W.cell? ⟨c,7,none⟩=some v7∧W.frozen? ⟨c,7,none⟩=false∧W.cell? ⟨c,8,none⟩=some v8∧W.frozen? ⟨c,8,none⟩=false∧W.cell? ⟨c,9,none⟩=some v9∧W.frozen? ⟨c,9,none⟩=false∧W.cell? ⟨c,10,none⟩=some v10∧W.frozen? ⟨c,10,none⟩=false∧W.cell? ⟨c,11,none⟩=some v11∧W.frozen? ⟨c,11,none⟩=false∧W.cell? ⟨c,12,none⟩=some v12∧W.frozen? ⟨c,12,none⟩=false:=
 ⟨(h.2 0 _ rfl).1,(h.2 0 _ rfl).2,(h.2 1 _ rfl).1,(h.2 1 _ rfl).2,(h.2 2 _ rfl).1,(h.2 2 _ rfl).2,(h.2 3 _ rfl).1,(h.2 3 _ rfl).2,(h.2 4 _ rfl).1,(h.2 4 _ rfl).2,(h.2 5 _ rfl).1,(h.2 5 _ rfl).2,(h.2 6 _ rfl).1,(h.2 6 _ rfl).2,(h.2 7 _ rfl).1,(h.2 7 _ rfl).2,(h.2 8 _ rfl).1,(h.2 8 _ rfl).2,(h.2 9 _ rfl).1,(h.2 9 _ rfl).2,(h.2 10 _ rfl).1,(h.2 10 _ rfl).2,(h.2 11 _ rfl).1,(h.2 11 _ rfl).2,(h.2 12 _ rfl).1,(h.2 12 _ rfl).2⟩
theorem b13X {W:World} {c:Nat} {v0 v1 v2 v3 v4 v5 v6 v7 v8 v9 v10 v11 v12:Value} (h:BoxN W c [v0,v1,v2,v3,v4,v5,v6,v7,v8,v9,v10,v11,v12]):W.cell? ⟨c,0,none⟩=some v0∧W.cell? ⟨c,1,none⟩=some v1∧W.cell? ⟨c,2,none⟩=some v2∧W.cell? ⟨c,3,none⟩=some v3∧W.cell? ⟨c,4,none⟩=some v4∧W.cell? ⟨c,5,none⟩=some v5∧W.cell? ⟨c,6,none⟩=some v6∧W.cell? ⟨c,7,none⟩=some v7∧W.cell? ⟨c,8,none⟩=some v8∧W.cell? ⟨c,9,none⟩=some v9∧W.cell? ⟨c,10,none⟩=some v10∧W.cell? ⟨c,11,none⟩=some v11∧W.cell? ⟨c,12,none⟩=some v12:=
 ⟨(h.2 0 _ rfl).1,(h.2 1 _ rfl).1,(h.2 2 _ rfl).1,(h.2 3 _ rfl).1,(h.2 4 _ rfl).1,(h.2 5 _ rfl).1,(h.2 6 _ rfl).1,(h.2 7 _ rfl).1,(h.2 8 _ rfl).1,(h.2 9 _ rfl).1,(h.2 10 _ rfl).1,(h.2 11 _ rfl).1,(h.2 12 _ rfl).1⟩
end Go.Proofs.YtfaedmbfabfmeaaGreatDoor
namespace Go.Proofs.YtfaedmbfabfmeaaGreatDoor
open Go.RowKit
structure Ru_RuP where
 ns:Bool
 nc:Bool
 pr:Bool
 pu:Bool
 mr:Bool
 xr:Bool
 im:Bool
 oi:Bool
 ma:Int
 sm:Int
 st:Int
 fr:Int
 ie:Int
abbrev Ru_RuP.v (r:Ru_RuP):Value:=.agg #[.bool r.ns,.bool r.nc,.bool r.pr,.bool r.pu,.bool r.mr,.bool r.xr,.bool r.im,.bool r.oi,.int .i64 r.ma,.int .i64 r.sm,.int .i64 r.st,.int .i64 r.fr,.int .i64 r.ie]
def usual_RuP (n:Int):Bool:=decide (n∈[200,203,204,300,301,308,404,405,410,414,(501:Int)])
def strictR_RuP (r:Ru_RuP):Bool:=r.mr||(r.xr||decide (0≤r.sm))
def judP_RuP (a l:Int) (r q:Ru_RuP):Int:=
 if r.nc=true then 1 else if a<l∧r.im=true then 0
 else if q.nc=true∨(0≤q.ma∧q.ma<a)∨(0≤q.fr∧l-a<q.fr)then 2
 else if a<l∨(0≤q.st∧a-l≤q.st∧strictR_RuP r=false)then 0 else 1
def errP_RuP (a l:Int) (r:Ru_RuP):Bool:=!r.nc&&(decide (a<l)||(!strictR_RuP r||(decide (0≤r.ie)&&(decide (a-l≤r.ie)&&!r.mr))))
end Go.Proofs.YtfaedmbfabfmeaaGreatDoor
namespace Go.Proofs.YtfaedmbfabfmeaaGreatDoor
def lpN (y:Nat):Nat:=(y-1) / 4-(y-1) / 100+(y-1) / 400
def dbN (y:Nat):Nat:=365*(y-1970)+(lpN y-477)
def mdT:List Nat:=[31,28,31,30,31,30,31,31,30,31,30,31]
def mlN (y m:Nat):Nat:=if m=2 then 28+(lpN (y+1)-lpN y)else mdT.getD (m-1) 0
def msN (y:Nat):Nat→Nat
 | 0=>0
 | m+1=>msN y m+mlN y (m+1)
structure DayOk (y m d:Nat):Prop where
 y1:1970≤y
 y2:y≤9999
 m1:1≤m
 m2:m≤12
 d1:1≤d
 d2:d≤mlN y m
instance (y m d:Nat):Decidable (DayOk y m d):=
 decidable_of_iff (1970≤y∧y≤9999∧1≤m∧m≤12∧1≤d∧d≤mlN y m) ⟨fun⟨a,b,c,d,e,f⟩=>⟨a,b,c,d,e,f⟩,fun⟨a,b,c,d,e,f⟩=>⟨a,b,c,d,e,f⟩⟩
def daysN (y m d:Nat):Nat:=dbN y+msN y (m-1)+d-1
def wdN (k:Nat):Nat:=(k % 7+4) % 7
theorem lp_ge {y:Nat} (h:1970≤y):477≤lpN y:=by unfold lpN;omega
theorem lp_le {y:Nat} (h:1970≤y):lpN y≤y:=by unfold lpN;omega
theorem lp_step {y:Nat} (h:1970≤y):lpN y≤lpN (y+1)∧lpN (y+1)≤lpN y+1:=by unfold lpN;omega
theorem div_step (y k:Nat) (h:1≤y) (hk:k=4∨k=100∨k=400):y / k=(y-1) / k+(if y % k=0 then 1 else 0):=by
 rcases hk with rfl | rfl | rfl<;>(split<;>omega)
theorem lp_leap {y:Nat} (h:1970≤y):lpN (y+1)=lpN y+if y % 4=0∧(y % 100≠0∨y % 400=0)then 1 else 0:=by
 have h1:=div_step y 4 (by omega) (.inl rfl)
 have h2:=div_step y 100 (by omega) (.inr (.inl rfl))
 have h3:=div_step y 400 (by omega) (.inr (.inr rfl))
 have g0:=lp_ge h
 have g1:y % 100=0→y % 4=0:=by omega
 have g2:y % 400=0→y % 100=0:=by omega
 have g3:(y-1) / 100≤(y-1) / 4:=by omega
 unfold lpN at g0 ⊢
 rw [Nat.add_sub_cancel,h1,h2,h3]
 generalize(y-1) / 4=a at *
 generalize(y-1) / 100=b at *
 generalize(y-1) / 400=c at *
 clear h1 h2 h3
 by_cases e1:y % 4=0<;>by_cases e2:y % 100=0<;>by_cases e3:y % 400=0<;>simp [e1,e2,e3]at g1 g2 ⊢<;>omega
theorem ml2_bounds {y:Nat} (h:1970≤y):28≤mlN y 2∧mlN y 2≤29:=by
 have:=lp_step h
 unfold mlN
 rw [if_pos rfl]
 omega
theorem ml_table:∀m:Fin 13,1≤m.val→m.val≠2→28≤mdT.getD (m.val-1) 0∧mdT.getD (m.val-1) 0≤31:=by decide
theorem ml_bounds {y m:Nat} (h:1970≤y) (h1:1≤m) (h2:m≤12):28≤mlN y m∧mlN y m≤31:=by
 by_cases e:m=2
 ·subst e
  have:=ml2_bounds h
  omega
 ·unfold mlN
  rw [if_neg e]
  exact ml_table ⟨m,by omega⟩ h1 e
theorem ms12 {y:Nat}:msN y 12=337+mlN y 2:=by
 simp [msN,mlN,mdT]
 omega
theorem db_step {y:Nat} (h:1970≤y):dbN (y+1)=dbN y+msN y 12:=by
 have h1:=lp_step h
 have h2:=lp_ge h
 rw [ms12]
 unfold mlN dbN
 rw [if_pos rfl]
 omega
theorem db_mono {y z:Nat} (h:1970≤y) (h2:y≤z):dbN y≤dbN z:=by
 induction z with
 | zero=>omega
 | succ z ih =>
  by_cases e:y=z+1
  ·subst e;exact zR _
  ·have:=db_step (y:=z) (by omega)
   have:=ih (by omega)
   omega
theorem db_first:dbN 1970=0:=by decide
theorem db_last:dbN 10000=2932897:=by decide
theorem ms_step (y m:Nat):msN y (m+1)=msN y m+mlN y (m+1):=rfl
theorem ms_mono {y a b : Nat} (h2 : a ≤ b) : msN y a ≤ msN y b := by
  induction b with
  | zero => obtain rfl : a = 0 := by omega
            exact zR _
  | succ b ih =>
    by_cases e : a = b + 1
    · subst e; exact zR _
    · have := ih (by omega)
      rw [ms_step]
      omega
theorem day_in {y m d:Nat} (h:DayOk y m d):msN y (m-1)+d≤msN y m:=by
 obtain⟨m,rfl⟩:∃k,m=k+1:=⟨m-1,by have:=h.m1;omega⟩
 rw [ms_step]
 have:=h.d2
 simp only [Nat.add_sub_cancel]
 omega
theorem days_lt {y m d:Nat} (h:DayOk y m d):dbN y≤daysN y m d∧daysN y m d<dbN (y+1):=by
 have h1:=day_in h
 have h2:=db_step h.y1
 have h3:=ms_mono (y:=y) h.m2
 have:=h.d1
 unfold daysN
 omega
theorem days_bound {y m d:Nat} (h:DayOk y m d):daysN y m d<2932897:=by
 have h1:=days_lt h
 have h2:=db_mono (y:=y+1) (z:=10000) (by have:=h.y1;omega) (by have:=h.y2;omega)
 rw [db_last]at h2
 omega
theorem days_year {y m d y' m' d':Nat} (h:DayOk y m d) (h':DayOk y' m' d') (e:daysN y m d=daysN y' m' d'):y=y':=by
 have h1:=days_lt h
 have h2:=days_lt h'
 have hy:=h.y1
 have hy':=h'.y1
 rcases Nat.lt_trichotomy y y' with c | c | c
 ·have:=db_mono (y:=y+1) (z:=y') (by omega) c
  omega
 ·exact c
 ·have:=db_mono (y:=y'+1) (z:=y) (by omega) c
  omega
theorem days_inj {y m d y' m' d':Nat} (h:DayOk y m d) (h':DayOk y' m' d') (e:daysN y m d=daysN y' m' d'):y=y'∧m=m'∧d=d':=by
 obtain rfl:=days_year h h' e
 have h1:=day_in h
 have h2:=day_in h'
 have hd:=h.d1
 have hd':=h'.d1
 have hm:=h.m1
 have hm':=h'.m1
 unfold daysN at e
 rcases Nat.lt_trichotomy m m' with c | c | c
 ·have:=ms_mono (y:=y) (a:=m) (b:=m'-1) (by omega)
  omega
 ·subst c
  exact⟨rfl,rfl,by omega⟩
 ·have:=ms_mono (y:=y) (a:=m') (b:=m-1) (by omega)
  omega
theorem day_of (k:Nat) (h:k<2932897):∃y m d,DayOk y m d∧daysN y m d=k:=by
 induction k with
 | zero=>exact⟨1970,1,1,by decide,by decide⟩
 | succ k ih =>
  obtain⟨y,m,d,hd,e⟩:=ih (by omega)
  have h1:=hd.d1
  have h2:=hd.m1
  have h3:=hd.y1
  have h4:=hd.m2
  have h5:=hd.y2
  by_cases c1:d+1≤mlN y m
  ·exact⟨y,m,d+1,⟨hd.y1,hd.y2,hd.m1,hd.m2,by omega,c1⟩,by unfold daysN at e ⊢;omega⟩
  ·have ed:d=mlN y m:=by have:=hd.d2;omega
   by_cases c2:m<12
   ·have hb:=ml_bounds (m:=m+1) h3 (by omega) (by omega)
    refine⟨y,m+1,1,⟨hd.y1,hd.y2,by omega,by omega,by omega,by omega⟩,?_⟩
    obtain⟨i,rfl⟩:∃i,m=i+1:=⟨m-1,by omega⟩
    unfold daysN at e ⊢
    simp only [Nat.add_sub_cancel]at e ⊢
    rw [ms_step]
    omega
   ·obtain rfl:m=12:=by omega
    have hs:=db_step h3
    have hm12:msN y 12=msN y 11+mlN y 12:=ms_step y 11
    unfold daysN at e
    rw [show(12:Nat)-1=11 by omega]at e
    have hy:y<9999:=by
     by_cases c3:y<9999
     ·exact c3
     ·have e3:dbN (y+1)=2932897:=by rw [show y+1=10000 by omega];exact db_last
      omega
    have hb:=ml_bounds (y:=y+1) (m:=1) (by omega) (by omega) (by omega)
    refine⟨y+1,1,1,⟨by omega,by omega,by omega,by omega,by omega,by omega⟩,?_⟩
    have z:msN (y+1) (1-1)=0:=by rw [Nat.sub_self]<;>rfl
    unfold daysN
    rw [z]
    omega
def digC (n:Nat):UInt8:=UInt8.ofNat (48+n % 10)
def padL:Nat→Nat→List UInt8
 | 0,_=>[]
 | k+1,n=>padL k (n / 10)++[digC n]
def wkT (n:Nat):List UInt8:=([[83,117,110,100,97,121],[77,111,110,100,97,121],[84,117,101,115,100,97,121],[87,101,100,110,101,115,100,97,121],[84,104,117,114,115,100,97,121],[70,114,105,100,97,121],[83,97,116,117,114,100,97,121]]:List (List UInt8)).getD n []
def wsT (n:Nat):List UInt8:=(wkT n).take 3
def moT (n:Nat):List UInt8:=([[74,97,110],[70,101,98],[77,97,114],[65,112,114],[77,97,121],[74,117,110],[74,117,108],[65,117,103],[83,101,112],[79,99,116],[78,111,118],[68,101,99]]:List (List UInt8)).getD (n-1) []
def ckT (c:Nat):List UInt8:=padL 2 (c / 3600)++([58]++(padL 2 (c % 3600 / 60)++([58]++padL 2 (c % 60))))
def spT (d:Nat):List UInt8:=if d<10 then [32]++padL 1 d else padL 2 d
def tx0 (y m d c:Nat):List UInt8:=wsT (wdN (daysN y m d))++([44,32]++(padL 2 d++([32]++(moT m++([32]++(padL 4 y++([32]++(ckT c++[32,71,77,84]))))))))
def tx1 (y m d c:Nat):List UInt8:=wkT (wdN (daysN y m d))++([44,32]++(padL 2 d++([45]++(moT m++([45]++(padL 2 (y % 100)++([32]++(ckT c++[32,71,77,84]))))))))
def tx2 (y m d c:Nat):List UInt8:=wsT (wdN (daysN y m d))++([32]++(moT m++([32]++(spT d++([32]++(ckT c++([32]++padL 4 y)))))))
abbrev St:=List UInt8×Bool
def skL (p:List UInt8) (s:St):St:=if p.isPrefixOf s.1 then(s.1.drop p.length,s.2)else(s.1,true)
def dgt (c:UInt8):Bool:=decide (48≤c.toNat)&&decide (c.toNat≤57)
def valL_DatP (l:List UInt8):Nat:=l.foldl (fun n c=>10*n+(c.toNat-48)) 0
def nuL (k:Nat) (s:St):Nat×St:=if decide (k≤s.1.length)&&(s.1.take k).all dgt then(valL_DatP (s.1.take k),s.1.drop k,s.2)else(0,s.1,true)
def sdL (s:St):Nat×St:=if s.1.head? == some 32 then nuL 1 (s.1.drop 1,s.2)else nuL 2 (s.1,s.2||s.1.head? == some 48)
def upL (most:Nat) (s:St):Nat×St:=((nuL 2 s).1,(nuL 2 s).2.1,(nuL 2 s).2.2||decide (most<(nuL 2 s).1))
def ckA (s:St):Nat×St:=upL 23 s
def ckB (s:St):Nat×St:=upL 59 (skL [58] (ckA s).2)
def ckC (s:St):Nat×St:=upL 59 (skL [58] (ckB s).2)
def ckL (s:St):Nat×St:=((ckA s).1*3600+(ckB s).1*60+(ckC s).1,(ckC s).2)
def nmL (f:Nat→List UInt8):Nat→Nat→St→Nat×St
 | _,0,s=>(0,s.1,true)
 | a,k+1,s=>if (f a).isPrefixOf s.1 then(a,s.1.drop (f a).length,s.2)else nmL f (a+1) k s
structure Mom where
 y:Nat
 m:Nat
 d:Nat
 c:Nat
def fyN (n:Nat):Nat:=if 1970≤1900+n then 1900+n else 2000+n
def p0L (s:St):Mom×St:=
 let d:=nuL 2 (skL [44,32] s)
 let m:=nmL moT 1 12 (skL [32] d.2)
 let y:=nuL 4 (skL [32] m.2)
 let c:=ckL (skL [32] y.2)
 (⟨y.1,m.1,d.1,c.1⟩,skL [32,71,77,84] c.2)
def p1L (s:St):Mom×St:=
 let d:=nuL 2 (skL [44,32] s)
 let m:=nmL moT 1 12 (skL [45] d.2)
 let y:=nuL 2 (skL [45] m.2)
 let c:=ckL (skL [32] y.2)
 (⟨fyN y.1,m.1,d.1,c.1⟩,skL [32,71,77,84] c.2)
def p2L (s:St):Mom×St:=
 let m:=nmL moT 1 12 (skL [32] s)
 let d:=sdL (skL [32] m.2)
 let c:=ckL (skL [32] d.2)
 let y:=nuL 4 (skL [32] c.2)
 (⟨y.1,m.1,d.1,c.1⟩,y.2)
def scL (f:Nat→List UInt8) (p:St→Mom×St) (s:List UInt8):Option Nat:=
 let w:=nmL f 0 7 (s,false)
 let r:=p w.2
 if r.2.2||!r.2.1.isEmpty then none
 else if DayOk r.1.y r.1.m r.1.d∧wdN (daysN r.1.y r.1.m r.1.d)=w.1 then some (86400*daysN r.1.y r.1.m r.1.d+r.1.c)else none
def parL_DatP (s:List UInt8):Option Nat:=
 match scL wsT p0L s with
 | some n=>some n
 | none=>match scL wkT p1L s with
  | some n=>some n
  | none=>scL wsT p2L s
theorem skL_iff (p:List UInt8) (s:St) (r:List UInt8):skL p s=(r,false)↔s=(p++r,false):=by
 obtain⟨t,x⟩:=s
 unfold skL
 constructor
 ·intro h
  split at h
  ·rename_i hp
   obtain⟨q,rfl⟩:=List.isPrefixOf_iff_prefix.1 hp
   simp only [List.drop_left,Prod.mk.injEq]at h
   obtain⟨rfl,rfl⟩:=h
   rfl
  ·simp at h
 ·intro h
  simp only [Prod.mk.injEq]at h
  obtain⟨rfl,rfl⟩:=h
  rw [if_pos (List.isPrefixOf_iff_prefix.2 (List.prefix_append _ _))]
  simp
theorem digC_nat (n:Nat):(digC n).toNat=48+n % 10:=by
 unfold digC
 rw [UInt8.toNat_ofNat']
 omega
theorem digC_dgt (n:Nat):dgt (digC n)=true:=by
 unfold dgt
 rw [digC_nat]
 simp
 omega
theorem dgt_digC (c:UInt8) (n:Nat) (h:dgt c=true):digC (10*n+(c.toNat-48))=c:=by
 unfold dgt at h
 simp at h
 apply UInt8.toNat_inj.1
 rw [digC_nat]
 omega
theorem padL_length:∀(k n:Nat),(padL k n).length=k
 | 0,_=>rfl
 | k+1,n=>by rw [padL,List.length_append,padL_length k]<;>rfl
theorem padL_all:∀(k n:Nat),(padL k n).all dgt=true
 | 0,_=>rfl
 | k+1,n=>by rw [padL,List.all_append,padL_all k];simp [digC_dgt]
theorem valL_snoc (l:List UInt8) (c:UInt8):valL_DatP (l++[c])=10*valL_DatP l+(c.toNat-48):=by
 unfold valL_DatP
 rw [List.foldl_append]
 rfl
theorem valL_padL:∀(k n:Nat),n<10 ^ k→valL_DatP (padL k n)=n
 | 0,n,h=>by
  obtain rfl:n=0:=by simpa using h
  rfl
 | k+1,n,h=>by
  rw [padL,valL_snoc,valL_padL k (n / 10) (by rw [Nat.pow_succ]at h;omega),digC_nat]
  omega
theorem padL_valL:∀(k:Nat) (l:List UInt8),l.length=k→l.all dgt=true→padL k (valL_DatP l)=l∧valL_DatP l<10 ^ k
 | 0,l,h,_=>by
  obtain rfl:=List.length_eq_zero_iff.1 h
  exact⟨rfl,by decide⟩
 | k+1,l,h,ha=>by
  rcases List.eq_nil_or_concat l with rfl | ⟨q,c,rfl⟩
  ·cases h
  ·simp only [List.concat_eq_append,List.length_append,List.length_cons,List.length_nil,List.all_append,List.all_cons,List.all_nil,Bool.and_true,Bool.and_eq_true,Nat.add_right_cancel_iff]at h ha ⊢
   obtain⟨h1,h2⟩:=padL_valL k q h ha.1
   have hc:=ha.2
   have hd:=dgt_digC c (valL_DatP q) hc
   have hc9:c.toNat-48<10:=by unfold dgt at hc;simp at hc;omega
   rw [valL_snoc]
   refine⟨?_,by rw [Nat.pow_succ];omega⟩
   rw [padL,hd,show(10*valL_DatP q+(c.toNat-48)) / 10=valL_DatP q by omega,h1]
theorem nuL_iff (k:Nat) (s:St) (n:Nat) (r:List UInt8):nuL k s=(n,r,false)↔s=(padL k n++r,false)∧n<10 ^ k:=by
 obtain⟨t,x⟩:=s
 unfold nuL
 constructor
 ·intro h
  split at h
  ·rename_i hp
   simp only [Bool.and_eq_true,decide_eq_true_eq]at hp
   simp only [Prod.mk.injEq]at h
   obtain⟨rfl,rfl,rfl⟩:=h
   obtain⟨h1,h2⟩:=padL_valL k (t.take k) (by rw [List.length_take];omega) hp.2
   rw [h1,List.take_append_drop]
   exact⟨rfl,h2⟩
  ·simp at h
 ·rintro⟨h,hn⟩
  simp only [Prod.mk.injEq]at h
  obtain⟨rfl,rfl⟩:=h
  have hl:=padL_length k n
  have e1:(padL k n++r).take k=padL k n:=by rw [List.take_append_of_le_length (by omega),List.take_of_length_le (by omega)]
  have e2:(padL k n++r).drop k=r:=by rw [List.drop_append_of_le_length (by omega),List.drop_of_length_le (by omega)]<;>rfl
  simp only [e1,e2,padL_all,valL_padL k n hn]
  rw [if_pos (by simp;omega)]
theorem upL_iff (most:Nat) (hm:most<100) (s:St) (n:Nat) (r:List UInt8):upL most s=(n,r,false)↔s=(padL 2 n++r,false)∧n≤most:=by
 unfold upL
 constructor
 ·intro h
  simp only [Prod.mk.injEq,Bool.or_eq_false_iff,decide_eq_false_iff_not,Nat.not_lt]at h
  obtain⟨rfl,rfl,h1,h2⟩:=h
  have:=(nuL_iff 2 s (nuL 2 s).1 (nuL 2 s).2.1).1 (by rw [← h1])
  exact⟨this.1,h2⟩
 ·rintro⟨h,hn⟩
  have:=(nuL_iff 2 s n r).2 ⟨h,by omega⟩
  rw [this]
  simp
  exact hn
theorem sdL_iff (s:St) (n:Nat) (r:List UInt8):sdL s=(n,r,false)↔s=(spT n++r,false)∧n<100:=by
 obtain⟨t,x⟩:=s
 unfold sdL
 by_cases hs:t.head? = some 32
 ·obtain⟨q,rfl⟩:∃q,t=32 :: q:=by
   cases t with
   | nil=>cases hs
   | cons c q=>obtain rfl:=Option.some.inj hs;exact⟨q,rfl⟩
  simp only [List.head?_cons,BEq.rfl,if_true,List.drop_one,List.tail_cons]
  rw [nuL_iff]
  unfold spT
  constructor
  ·rintro⟨h,hn⟩
   simp only [Prod.mk.injEq]at h
   obtain⟨rfl,rfl⟩:=h
   rw [if_pos (by omega)]
   exact⟨rfl,by omega⟩
  ·rintro⟨h,hn⟩
   by_cases h10:n<10
   ·rw [if_pos h10]at h
    simp only [Prod.mk.injEq,List.cons_append,List.nil_append,List.cons.injEq,true_and]at h
    obtain⟨rfl,rfl⟩:=h
    exact⟨rfl,by omega⟩
   ·rw [if_neg h10]at h
    simp only [Prod.mk.injEq]at h
    have h0:=congrArg List.head? h.1
    have hd:=digC_dgt (n / 10)
    simp [padL]at h0
    rw [← h0]at hd
    exact absurd hd (by decide)
 ·rw [if_neg (by simpa using hs),nuL_iff]
  simp only [Prod.mk.injEq,Bool.or_eq_false_iff,beq_eq_false_iff_ne,ne_eq]
  unfold spT
  constructor
  ·rintro⟨⟨rfl,rfl,h0⟩,hn⟩
   have h10:¬n<10:=by
    intro h
    apply h0
    have:digC (n / 10)=48:=by
     apply UInt8.toNat_inj.1
     rw [digC_nat]
     have:n / 10=0:=by omega
     rw [this]
     rfl
    simp [padL,this]
   rw [if_neg h10]
   exact⟨⟨rfl,rfl⟩,hn⟩
  ·rintro⟨⟨rfl,rfl⟩,hn⟩
   by_cases h10:n<10
   ·rw [if_pos h10]at hs
    simp at hs
   ·rw [if_neg h10]at hs ⊢
    refine⟨⟨rfl,rfl,?_⟩,by omega⟩
    intro h
    simp [padL]at h
    have:=congrArg UInt8.toNat h
    rw [digC_nat]at this
    have e:((48:UInt8).toNat)=48:=rfl
    rw [e]at this
    omega
def Apart (f:Nat→List UInt8) (a b:Nat):Prop:=∀i j,a≤i→i<b→a≤j→j<b→i≠j→(f i).isPrefixOf (f j)=false
theorem prefix_of_two {p q r t:List UInt8} (h1:p <+: t) (h2:q++r=t) (h3:¬p <+: q) (h4:¬q <+: p):False:=by
 subst h2
 rcases Nat.le_total p.length q.length with h | h
 ·exact h3 (List.prefix_of_prefix_length_le h1 (List.prefix_append _ _) h)
 ·exact h4 (List.prefix_of_prefix_length_le (List.prefix_append _ _) h1 h)
theorem nmL_iff (f:Nat→List UInt8):∀(k a:Nat),Apart f a (a+k)→∀(s:St) (n:Nat) (r:List UInt8),nmL f a k s=(n,r,false)↔s=(f n++r,false)∧a≤n∧n<a+k
 | 0,a,_,s,n,r=>by
  unfold nmL
  simp
 | k+1,a,hA,s,n,r=>by
  obtain⟨t,x⟩:=s
  rw [nmL]
  have ih:=nmL_iff f k (a+1) (fun i j h1 h2 h3 h4=>hA i j (by omega) (by omega) (by omega) (by omega)) (t,x) n r
  by_cases hp:(f a).isPrefixOf t=true
  ·rw [if_pos hp]
   obtain⟨q,rfl⟩:=List.isPrefixOf_iff_prefix.1 hp
   simp only [List.drop_left,Prod.mk.injEq]
   constructor
   ·rintro⟨rfl,rfl,rfl⟩
    exact⟨⟨rfl,rfl⟩,by omega,by omega⟩
   ·rintro⟨⟨h,rfl⟩,h1,h2⟩
    by_cases e:a=n
    ·subst e
     exact⟨rfl,List.append_cancel_left h,rfl⟩
    ·exfalso
     have p1:=hA a n (by omega) (by omega) (by omega) (by omega) e
     have p2:=hA n a (by omega) (by omega) (by omega) (by omega) (Ne.symm e)
     exact prefix_of_two (List.prefix_append (f a) q) h.symm (fun g=>by rw [List.isPrefixOf_iff_prefix.2 g]at p1;cases p1) (fun g=>by rw [List.isPrefixOf_iff_prefix.2 g]at p2;cases p2)
  ·rw [if_neg hp,ih]
   constructor
   ·rintro⟨h,h1,h2⟩
    exact⟨h,by omega,by omega⟩
   ·rintro⟨h,h1,h2⟩
    refine⟨h,?_,by omega⟩
    by_cases e:a=n
    ·subst e
     simp only [Prod.mk.injEq]at h
     rw [h.1,List.isPrefixOf_iff_prefix.2 (List.prefix_append _ _)]at hp
     exact absurd rfl hp
    ·omega
theorem apart_of {f:Nat→List UInt8} {a b:Nat} (h:∀i:Fin b,∀j:Fin b,a≤i.val→a≤j.val→i≠j→(f i.val).isPrefixOf (f j.val)=false):Apart f a b:=
 fun i j h1 h2 h3 h4 h5=>h ⟨i,h2⟩ ⟨j,h4⟩ h1 h3 (fun e=>h5 (congrArg Fin.val e))
theorem wk_apart:Apart wkT 0 7:=apart_of (by decide)
theorem ws_apart:Apart wsT 0 7:=apart_of (by decide)
theorem mo_apart:Apart moT 1 13:=apart_of (by decide +kernel)
theorem ckL_iff (s:St) (c:Nat) (r:List UInt8):ckL s=(c,r,false)↔s=(ckT c++r,false)∧c<86400:=by
 constructor
 ·intro h
  unfold ckL at h
  simp only [Prod.mk.injEq]at h
  obtain⟨hc,hr⟩:=h
  have h3:ckC s=((ckC s).1,r,false):=by rw [← hr]
  obtain⟨e3,b3⟩:=(upL_iff 59 (by omega) _ _ _).1 h3
  obtain e3':=(skL_iff _ _ _).1 e3
  have h2:ckB s=((ckB s).1,[58]++(padL 2 (ckC s).1++r),false):=by rw [← e3']
  obtain⟨e2,b2⟩:=(upL_iff 59 (by omega) _ _ _).1 h2
  obtain e2':=(skL_iff _ _ _).1 e2
  have h1:ckA s=((ckA s).1,[58]++(padL 2 (ckB s).1++([58]++(padL 2 (ckC s).1++r))),false):=by rw [← e2']
  obtain⟨e1,b1⟩:=(upL_iff 23 (by omega) _ _ _).1 h1
  rw [e1]
  subst hc
  generalize(ckA s).1=a at b1
  generalize(ckB s).1=b at b2
  generalize(ckC s).1=d at b3
  refine⟨?_,by omega⟩
  unfold ckT
  rw [show(a*3600+b*60+d) / 3600=a by omega,show(a*3600+b*60+d) % 3600 / 60=b by omega,show(a*3600+b*60+d) % 60=d by omega]
  simp
 ·rintro⟨rfl,hc⟩
  unfold ckT
  have e1:ckA (padL 2 (c / 3600)++([58]++(padL 2 (c % 3600 / 60)++([58]++padL 2 (c % 60))))++r,false)=(c / 3600,[58]++(padL 2 (c % 3600 / 60)++([58]++(padL 2 (c % 60)++r))),false):=
   (upL_iff 23 (by omega) _ _ _).2 ⟨by simp,by omega⟩
  have e2:ckB (padL 2 (c / 3600)++([58]++(padL 2 (c % 3600 / 60)++([58]++padL 2 (c % 60))))++r,false)=(c % 3600 / 60,[58]++(padL 2 (c % 60)++r),false):=by
   refine(upL_iff 59 (by omega) _ _ _).2 ⟨?_,by omega⟩
   rw [e1]
   exact(skL_iff _ _ _).2 rfl
  have e3:ckC (padL 2 (c / 3600)++([58]++(padL 2 (c % 3600 / 60)++([58]++padL 2 (c % 60))))++r,false)=(c % 60,r,false):=by
   refine(upL_iff 59 (by omega) _ _ _).2 ⟨?_,by omega⟩
   rw [e2]
   exact(skL_iff _ _ _).2 rfl
  unfold ckL
  rw [e1,e2,e3]
  simp only [Prod.mk.injEq,and_true]
  omega
def re0 (y m d c:Nat):List UInt8:=[44,32]++(padL 2 d++([32]++(moT m++([32]++(padL 4 y++([32]++(ckT c++[32,71,77,84])))))))
def re1 (y m d c:Nat):List UInt8:=[44,32]++(padL 2 d++([45]++(moT m++([45]++(padL 2 (y % 100)++([32]++(ckT c++[32,71,77,84])))))))
def re2 (y m d c:Nat):List UInt8:=[32]++(moT m++([32]++(spT d++([32]++(ckT c++([32]++padL 4 y))))))
theorem tx0_re (y m d c:Nat):tx0 y m d c=wsT (wdN (daysN y m d))++re0 y m d c:=rfl
theorem tx1_re (y m d c:Nat):tx1 y m d c=wkT (wdN (daysN y m d))++re1 y m d c:=rfl
theorem tx2_re (y m d c:Nat):tx2 y m d c=wsT (wdN (daysN y m d))++re2 y m d c:=rfl
structure MomIn (lo hi:Nat) (M:Mom):Prop where
 y1:lo≤M.y
 y2:M.y<hi
 m1:1≤M.m
 m2:M.m<13
 d:M.d<100
 c:M.c<86400
theorem p0_some (s:St) (M:Mom):p0L s=(M,[],false)↔s=(re0 M.y M.m M.d M.c,false)∧MomIn 0 10000 M:=by
 constructor
 ·intro h
  unfold p0L at h
  dsimp only at h
  generalize hD:nuL 2 (skL [44,32] s)=D at h
  generalize hM:nmL moT 1 12 (skL [32] D.2)=N at h
  generalize hY:nuL 4 (skL [32] N.2)=Y at h
  generalize hC:ckL (skL [32] Y.2)=C at h
  obtain⟨d,sd⟩:=D
  obtain⟨m,sm⟩:=N
  obtain⟨y,sy⟩:=Y
  obtain⟨c,sc⟩:=C
  simp only [Prod.mk.injEq]at h
  obtain⟨rfl,h⟩:=h
  dsimp only at *
  rw [(skL_iff _ _ _).1 h]at hC
  obtain⟨eC,bC⟩:=(ckL_iff _ _ _).1 hC
  rw [(skL_iff _ _ _).1 eC]at hY
  obtain⟨eY,bY⟩:=(nuL_iff _ _ _ _).1 hY
  rw [(skL_iff _ _ _).1 eY]at hM
  obtain⟨eM,bM1,bM2⟩:=(nmL_iff moT 12 1 mo_apart _ _ _).1 hM
  rw [(skL_iff _ _ _).1 eM]at hD
  obtain⟨eD,bD⟩:=(nuL_iff _ _ _ _).1 hD
  exact⟨(skL_iff _ _ _).1 eD,⟨Nat.zero_le _,bY,bM1,bM2,bD,bC⟩⟩
 ·obtain⟨y,m,d,c⟩:=M
  rintro⟨rfl,h⟩
  obtain⟨_,hy,h1,h2,hd,hc⟩:=h
  dsimp only at *
  unfold p0L
  dsimp only
  have e1:=(skL_iff [44,32] (re0 y m d c,false) _).2 rfl
  have e2:=(nuL_iff 2 _ d _).2 ⟨e1,hd⟩
  rw [e2]
  have e3:=(skL_iff [32] _ _).2 (rfl:(([32]++(moT m++([32]++(padL 4 y++([32]++(ckT c++[32,71,77,84])))))),false)=_)
  have e4:=(nmL_iff moT 12 1 mo_apart _ m _).2 ⟨e3,h1,h2⟩
  rw [e4]
  have e5:=(skL_iff [32] _ _).2 (rfl:(([32]++(padL 4 y++([32]++(ckT c++[32,71,77,84])))),false)=_)
  have e6:=(nuL_iff 4 _ y _).2 ⟨e5,hy⟩
  rw [e6]
  have e7:=(skL_iff [32] _ _).2 (rfl:(([32]++(ckT c++[32,71,77,84])),false)=_)
  have e8:=(ckL_iff _ c _).2 ⟨e7,hc⟩
  rw [e8]
  rfl
theorem fy_in (n:Nat) (h:n<100):1970≤fyN n∧fyN n<2070∧fyN n % 100=n:=by
 unfold fyN
 split<;>omega
theorem fy_of (y:Nat) (h1:1970≤y) (h2:y<2070):fyN (y % 100)=y:=by
 unfold fyN
 split<;>omega
theorem p1_some (s:St) (M:Mom):p1L s=(M,[],false)↔s=(re1 M.y M.m M.d M.c,false)∧MomIn 1970 2070 M:=by
 constructor
 ·intro h
  unfold p1L at h
  dsimp only at h
  generalize hD:nuL 2 (skL [44,32] s)=D at h
  generalize hM:nmL moT 1 12 (skL [45] D.2)=N at h
  generalize hY:nuL 2 (skL [45] N.2)=Y at h
  generalize hC:ckL (skL [32] Y.2)=C at h
  obtain⟨d,sd⟩:=D
  obtain⟨m,sm⟩:=N
  obtain⟨y,sy⟩:=Y
  obtain⟨c,sc⟩:=C
  simp only [Prod.mk.injEq]at h
  obtain⟨rfl,h⟩:=h
  dsimp only at *
  rw [(skL_iff _ _ _).1 h]at hC
  obtain⟨eC,bC⟩:=(ckL_iff _ _ _).1 hC
  rw [(skL_iff _ _ _).1 eC]at hY
  obtain⟨eY,bY⟩:=(nuL_iff _ _ _ _).1 hY
  rw [(skL_iff _ _ _).1 eY]at hM
  obtain⟨eM,bM1,bM2⟩:=(nmL_iff moT 12 1 mo_apart _ _ _).1 hM
  rw [(skL_iff _ _ _).1 eM]at hD
  obtain⟨eD,bD⟩:=(nuL_iff _ _ _ _).1 hD
  obtain⟨f1,f2,f3⟩:=fy_in y bY
  refine⟨?_,⟨f1,f2,bM1,bM2,bD,bC⟩⟩
  unfold re1
  rw [f3]
  exact(skL_iff _ _ _).1 eD
 ·obtain⟨y,m,d,c⟩:=M
  rintro⟨rfl,h⟩
  obtain⟨hy1,hy2,h1,h2,hd,hc⟩:=h
  dsimp only at *
  unfold p1L
  dsimp only
  have e1:=(skL_iff [44,32] (re1 y m d c,false) _).2 rfl
  have e2:=(nuL_iff 2 _ d _).2 ⟨e1,hd⟩
  rw [e2]
  have e3:=(skL_iff [45] _ _).2 (rfl:(([45]++(moT m++([45]++(padL 2 (y % 100)++([32]++(ckT c++[32,71,77,84])))))),false)=_)
  have e4:=(nmL_iff moT 12 1 mo_apart _ m _).2 ⟨e3,h1,h2⟩
  rw [e4]
  have e5:=(skL_iff [45] _ _).2 (rfl:(([45]++(padL 2 (y % 100)++([32]++(ckT c++[32,71,77,84])))),false)=_)
  have e6:=(nuL_iff 2 _ (y % 100) _).2 ⟨e5,by omega⟩
  rw [e6]
  have e7:=(skL_iff [32] _ _).2 (rfl:(([32]++(ckT c++[32,71,77,84])),false)=_)
  have e8:=(ckL_iff _ c _).2 ⟨e7,hc⟩
  rw [e8]
  dsimp only
  rw [fy_of y hy1 hy2]
  rfl
theorem p2_some (s:St) (M:Mom):p2L s=(M,[],false)↔s=(re2 M.y M.m M.d M.c,false)∧MomIn 0 10000 M:=by
 constructor
 ·intro h
  unfold p2L at h
  dsimp only at h
  generalize hM:nmL moT 1 12 (skL [32] s)=N at h
  generalize hD:sdL (skL [32] N.2)=D at h
  generalize hC:ckL (skL [32] D.2)=C at h
  generalize hY:nuL 4 (skL [32] C.2)=Y at h
  obtain⟨d,sd⟩:=D
  obtain⟨m,sm⟩:=N
  obtain⟨y,sy⟩:=Y
  obtain⟨c,sc⟩:=C
  simp only [Prod.mk.injEq]at h
  obtain⟨rfl,rfl⟩:=h
  dsimp only at *
  obtain⟨eY,bY⟩:=(nuL_iff _ _ _ _).1 hY
  rw [List.append_nil]at eY
  rw [(skL_iff _ _ _).1 eY]at hC
  obtain⟨eC,bC⟩:=(ckL_iff _ _ _).1 hC
  rw [(skL_iff _ _ _).1 eC]at hD
  obtain⟨eD,bD⟩:=(sdL_iff _ _ _).1 hD
  rw [(skL_iff _ _ _).1 eD]at hM
  obtain⟨eM,bM1,bM2⟩:=(nmL_iff moT 12 1 mo_apart _ _ _).1 hM
  exact⟨(skL_iff _ _ _).1 eM,⟨Nat.zero_le _,bY,bM1,bM2,bD,bC⟩⟩
 ·obtain⟨y,m,d,c⟩:=M
  rintro⟨rfl,h⟩
  obtain⟨_,hy,h1,h2,hd,hc⟩:=h
  dsimp only at *
  unfold p2L
  dsimp only
  have e3:=(skL_iff [32] (re2 y m d c,false) _).2 rfl
  have e4:=(nmL_iff moT 12 1 mo_apart _ m _).2 ⟨e3,h1,h2⟩
  rw [e4]
  have e1:=(skL_iff [32] _ _).2 (rfl:(([32]++(spT d++([32]++(ckT c++([32]++padL 4 y))))),false)=_)
  have e2:=(sdL_iff _ d _).2 ⟨e1,hd⟩
  rw [e2]
  have e7:=(skL_iff [32] _ _).2 (rfl:(([32]++(ckT c++([32]++padL 4 y))),false)=_)
  have e8:=(ckL_iff _ c _).2 ⟨e7,hc⟩
  rw [e8]
  have e5:skL [32] ([32]++padL 4 y,false)=(padL 4 y,false):=(skL_iff [32] _ _).2 rfl
  have e6:nuL 4 (skL [32] ([32]++padL 4 y,false))=(y,[],false):=(nuL_iff 4 _ y []).2 ⟨by rw [List.append_nil];exact e5,hy⟩
  dsimp only
  rw [e6]
def IsTx (f:Nat→List UInt8) (re:Nat→Nat→Nat→Nat→List UInt8) (lo hi:Nat) (l:List UInt8) (n:Nat):Prop:=
 ∃y m d c,DayOk y m d∧lo≤y∧y<hi∧c<86400∧l=f (wdN (daysN y m d))++re y m d c∧n=86400*daysN y m d+c
theorem sc_iff {f:Nat→List UInt8} {p:St→Mom×St} {re:Nat→Nat→Nat→Nat→List UInt8} {lo hi:Nat} (hf:Apart f 0 7)
  (hp:∀s M,p s=(M,[],false)↔s=(re M.y M.m M.d M.c,false)∧MomIn lo hi M) (l:List UInt8) (n:Nat):scL f p l=some n↔IsTx f re lo hi l n:=by
 unfold scL IsTx
 dsimp only
 constructor
 ·intro h
  generalize hw:nmL f 0 7 (l,false)=w at h
  generalize hr:p w.2=r at h
  obtain⟨w,sw⟩:=w
  obtain⟨M,r,x⟩:=r
  dsimp only at *
  split at h
  ·cases h
  ·rename_i hx
   simp only [Bool.or_eq_true,Bool.not_eq_true',not_or,Bool.not_eq_true,Bool.not_eq_false,List.isEmpty_iff]at hx
   obtain⟨rfl,rfl⟩:=hx
   split at h
   ·rename_i hk
    obtain⟨hk,hwd⟩:=hk
    obtain⟨e1,b⟩:=(hp _ _).1 hr
    rw [e1]at hw
    obtain⟨e2,_⟩:=(nmL_iff f 7 0 hf _ _ _).1 hw
    simp only [Prod.mk.injEq,and_true]at e2
    refine⟨M.y,M.m,M.d,M.c,hk,b.y1,b.y2,b.c,?_,(Option.some.inj h).symm⟩
    rw [e2,hwd]
   ·cases h
 ·rintro⟨y,m,d,c,hk,h1,h2,hc,rfl,rfl⟩
  have hb:=ml_bounds hk.y1 hk.m1 hk.m2
  have e1:=(nmL_iff f 7 0 hf (f (wdN (daysN y m d))++re y m d c,false) _ _).2 ⟨rfl,Nat.zero_le _,by unfold wdN;omega⟩
  rw [e1]
  have e2:=(hp (re y m d c,false) ⟨y,m,d,c⟩).2 ⟨rfl,⟨h1,h2,hk.m1,by have:=hk.m2;dsimp only;omega,by have:=hk.d2;dsimp only;omega,hc⟩⟩
  dsimp only
  rw [e2]
  dsimp only
  rw [if_neg (by simp),if_pos ⟨hk,rfl⟩]
theorem sc0_iff (l:List UInt8) (n:Nat):scL wsT p0L l=some n↔IsTx wsT re0 0 10000 l n:=sc_iff ws_apart p0_some l n
theorem sc1_iff (l:List UInt8) (n:Nat):scL wkT p1L l=some n↔IsTx wkT re1 1970 2070 l n:=sc_iff wk_apart p1_some l n
theorem sc2_iff (l:List UInt8) (n:Nat):scL wsT p2L l=some n↔IsTx wsT re2 0 10000 l n:=sc_iff ws_apart p2_some l n
theorem par_some {l:List UInt8} {n:Nat} (h:parL_DatP l=some n):IsTx wsT re0 0 10000 l n∨IsTx wkT re1 1970 2070 l n∨IsTx wsT re2 0 10000 l n:=by
 unfold parL_DatP at h
 cases h0:scL wsT p0L l with
 | some k =>
  rw [h0]at h
  exact .inl ((sc0_iff l n).1 (h0.trans h))
 | none =>
  rw [h0]at h
  cases h1:scL wkT p1L l with
  | some k =>
   rw [h1]at h
   exact .inr (.inl ((sc1_iff l n).1 (h1.trans h)))
  | none =>
   rw [h1]at h
   exact .inr (.inr ((sc2_iff l n).1 h))
theorem isTx_in {f:Nat→List UInt8} {re:Nat→Nat→Nat→Nat→List UInt8} {lo hi:Nat} {l:List UInt8} {n:Nat} (h:IsTx f re lo hi l n):∃y m d c,DayOk y m d∧c<86400∧n=86400*daysN y m d+c:=by
 obtain⟨y,m,d,c,hk,_,_,hc,_,e⟩:=h
 exact⟨y,m,d,c,hk,hc,e⟩
theorem par_in {l:List UInt8} {n:Nat} (h:parL_DatP l=some n):∃y m d c,DayOk y m d∧c<86400∧n=86400*daysN y m d+c:=by
 rcases par_some h with h | h | h<;>exact isTx_in h
theorem secs_of (n:Nat) (h:n<253402300800):∃y m d c,DayOk y m d∧c<86400∧n=86400*daysN y m d+c:=by
 obtain⟨y,m,d,hk,e⟩:=day_of (n / 86400) (by omega)
 exact⟨y,m,d,n % 86400,hk,by omega,by rw [e];omega⟩
theorem secs_inj {y m d c y' m' d' c':Nat} (hk:DayOk y m d) (hk':DayOk y' m' d') (hc:c<86400) (hc':c'<86400) (e:86400*daysN y m d+c=86400*daysN y' m' d'+c'):y=y'∧m=m'∧d=d'∧c=c':=by
 obtain⟨e1,e2,e3⟩:=days_inj hk hk' (by omega)
 subst e1 e2 e3
 exact⟨rfl,rfl,rfl,by omega⟩
theorem len_sp (d:Nat):(spT d).length=2:=by
 unfold spT
 split
 ·simp [padL_length]
 ·exact padL_length _ _
theorem len_ck (c:Nat):(ckT c).length=8:=by simp [ckT,padL_length]
theorem len_mo (m:Nat) (h1:1≤m) (h2:m<13):(moT m).length=3:=by
 have:∀j:Fin 13,1≤j.val→(moT j.val).length=3:=by decide
 exact this ⟨m,h2⟩ h1
theorem len_ws (k:Nat) (h:k<7):(wsT k).length=3:=by
 have:∀j:Fin 7,(wsT j.val).length=3:=by decide
 exact this ⟨k,h⟩
end Go.Proofs.YtfaedmbfabfmeaaGreatDoor
namespace Go.Proofs.YtfaedmbfabfmeaaGreatDoor
open Go.RowKit
def belowA (w W:World):Prop:=Below w.heap.size w W
theorem drewA (W:World):Below W.heap.size W W.drew:=(Below.refl _ _).drew
def IntsF (w:World) (v:Value) (xs:List Int):Prop:=
 ∃ao cap,v=.slice ao xs.length cap∧(xs=[]∨∃b off,ao=some ⟨b,off,none⟩∧b<w.heap.size∧∀j x,xs[j]? = some x→w.cell? ⟨b,off+j,none⟩=some (.int .i64 x))
theorem IntsF.below {w w':World} {v:Value} {xs:List Int} (h:IntsF w v xs) (hb:Below w.heap.size w w'):IntsF w' v xs:=by
 obtain⟨ao,cap,hv,hc⟩:=h
 rcases hc with hc | ⟨b,off,h1,h2,h3⟩
 ·exact⟨ao,cap,hv,.inl hc⟩
 ·exact⟨ao,cap,hv,.inr ⟨b,off,h1,Nat.lt_of_lt_of_le h2 hb.size,fun j x hj=>(hb.cell (p:=⟨b,off+j,none⟩) h2).trans (h3 j x hj)⟩⟩
theorem ints_two (W:World) (a b:Int) (T:TypeId):IntsF (W.alloc (.cells #[.int .i64 a,.int .i64 b] T)) (.slice (some ⟨W.heap.size,0,none⟩) 2 2) [a,b]:=by
 refine⟨_,2,rfl,.inr ⟨W.heap.size,0,rfl,by simp,fun j x hj=>?_⟩⟩
 match j,hj with
 | 0,hj =>
  obtain rfl:=Option.some.inj hj
  simp
 | 1,hj =>
  obtain rfl:=Option.some.inj hj
  simp
 | j+2,hj=>simp at hj
end Go.Proofs.YtfaedmbfabfmeaaGreatDoor
namespace Go.Proofs.YtfaedmbfabfmeaaGreatDoor
open Go.RowKit Go.Lib
theorem ints_one (W:World) (a:Int) (T:TypeId):IntsF (W.alloc (.cells #[.int .i64 a] T)) (.slice (some ⟨W.heap.size,0,none⟩) 1 1) [a]:=by
 refine⟨_,1,rfl,.inr ⟨W.heap.size,0,rfl,by simp,fun j x hj=>?_⟩⟩
 match j,hj with
 | 0,hj =>
  obtain rfl:=Option.some.inj hj
  simp
 | j+1,hj=>simp at hj
end Go.Proofs.YtfaedmbfabfmeaaGreatDoor
namespace Go.Proofs.YtfaedmbfabfmeaaGreatDoor
def bytV (c:UInt8):Value:=.int .u8 c.toNat
end Go.Proofs.YtfaedmbfabfmeaaGreatDoor
