/- Directives in memory: rows of three cells. · Directives by their names: what a map of them reads as. · Plain: fields that are valid, and their text; a builder behind a later world. · Plain: what a text's directives are bounded by. -/
import Derived.Test.YtfaedmbfabfmeaaGreatDoorYMSpP
import Derived.Test.YtfaedmbfabfmeaaGreatDoorYMFldP
import Derived.Test.YtfaedmbfabfmeaaGreatDoorYMBasP
import Derived.Test.YtfaedmbfabfmeaaGreatDoorRows
import Derived.Maps.OwnSet
import Derived.Maps.Views
import Derived.Lib.Builder
namespace Go.Proofs.YtfaedmbfabfmeaaGreatDoor
open Go.RowKit Go.Lib
def cellsD (d:Dir):List Value:=[.string (strB d.1),.string (strB d.2.1),.bool d.2.2]
def rowD:List Dir→List Value
 | []=>[]
 | p :: ps=>cellsD p++rowD ps
theorem rowD_snoc:∀(ps:List Dir) (p:Dir),rowD (ps++[p])=rowD ps++cellsD p
 | [],p=>by simp [rowD]
 | q :: ps,p=>by rw [List.cons_append,rowD,rowD,rowD_snoc ps p,List.append_assoc]
def dirV (d:Dir):Value:=.agg #[.string (strB d.1),.string (strB d.2.1),.bool d.2.2]
def Dirs (lo:Nat) (w:World) (v:Value) (ds:List Dir):Prop:=
 ∃ao cap,v=.slice ao ds.length cap∧(ds=[]∨∃b off,ao=some ⟨b,off,none⟩∧lo≤b∧b<w.heap.size∧∀j d,ds[j]? = some d→w.cell? ⟨b,off+j*3,none⟩=some (.string (strB d.1))∧w.cell? ⟨b,off+j*3+1,none⟩=some (.string (strB d.2.1))∧w.cell? ⟨b,off+j*3+2,none⟩=some (.bool d.2.2))
theorem Dirs.nothing (lo:Nat) (w:World):Dirs lo w (.slice none 0 0) []:=⟨none,0,rfl,.inl rfl⟩
theorem Dirs.below {lo:Nat} {w w':World} {v:Value} {ds:List Dir} (h:Dirs lo w v ds) (hb:Below w.heap.size w w'):Dirs lo w' v ds:=by
 obtain⟨ao,cap,hv,hc⟩:=h
 rcases hc with hc | ⟨b,off,h1,h0,h2,h3⟩
 ·exact⟨ao,cap,hv,.inl hc⟩
 ·exact⟨ao,cap,hv,.inr ⟨b,off,h1,h0,Nat.lt_of_lt_of_le h2 hb.size,fun j d hj=>⟨(hb.cell (p:=⟨b,off+j*3,none⟩) h2).trans (h3 j d hj).1,(hb.cell (p:=⟨b,off+j*3+1,none⟩) h2).trans (h3 j d hj).2.1,(hb.cell (p:=⟨b,off+j*3+2,none⟩) h2).trans (h3 j d hj).2.2⟩⟩⟩
theorem Dirs.low {lo lo':Nat} {w:World} {v:Value} {ds:List Dir} (h:Dirs lo w v ds) (hl:lo'≤lo):Dirs lo' w v ds:=by
 obtain⟨ao,cap,hv,hc⟩:=h
 rcases hc with hc | ⟨b,off,h1,h0,h2,h3⟩
 ·exact⟨ao,cap,hv,.inl hc⟩
 ·exact⟨ao,cap,hv,.inr ⟨b,off,h1,Nat.le_trans hl h0,h2,h3⟩⟩
theorem rowD_at:∀(ds:List Dir) (j:Nat) (d:Dir),ds[j]? = some d→(rowD ds)[j*3]? = some (.string (strB d.1))∧(rowD ds)[j*3+1]? = some (.string (strB d.2.1))∧(rowD ds)[j*3+2]? = some (.bool d.2.2)
 | [],_,_,h=>by simp at h
 | q :: ds,0,d,h=>by
  obtain rfl:q=d:=by simpa using h
  exact⟨rfl,rfl,rfl⟩
 | q :: ds,j+1,d,h=>by
  have ih:=rowD_at ds j d (by simpa using h)
  have e1:(j+1)*3=j*3+1+1+1:=by omega
  rw [e1,rowD]
  exact ih
theorem Dirs.of_own {lo base:Nat} {e:TypeId} {w:World} {v:Value} {ds:List Dir} (h:w.ownsRow base e 3 v ds.length (rowD ds)) (hl:lo≤base):Dirs lo w v ds:=by
 obtain⟨ao,cap,rfl⟩:=owns_formF h
 refine⟨ao,cap,rfl,?_⟩
 by_cases hx:ds=[]
 ·exact .inl hx
 ·have hpos:0<ds.length:=List.length_pos_iff.2 hx
  obtain⟨g,cap2,hv,hg,hlt,_⟩:=owns_sliceF h hpos
  obtain⟨rfl,_,rfl⟩:=Value.slice.inj hv
  refine .inr ⟨g,0,rfl,Nat.le_trans hl hg,hlt,fun j d hj=>?_⟩
  obtain⟨h1,h2,h3⟩:=rowD_at ds j d hj
  rw [Nat.zero_add]
  exact⟨owns_cellsF h _ _ h1,owns_cellsF h _ _ h2,owns_cellsF h _ _ h3⟩
def DirsOk (ds:List Dir):Prop:=ds.length≤100000∧∀d∈ds,d.1.length≤100000∧d.2.1.length≤100000
structure BoxD (W:World) (c:Nat) (x y z:Value):Prop where
 r0:W.cell? ⟨c,0,none⟩=some x
 r1:W.cell? ⟨c,1,none⟩=some y
 r2:W.cell? ⟨c,2,none⟩=some z
 g0:W.frozen? ⟨c,0,none⟩=false
 g1:W.frozen? ⟨c,1,none⟩=false
 g2:W.frozen? ⟨c,2,none⟩=false
theorem BoxD.made (w:World) (x y z:Value) (T:TypeId):BoxD (w.alloc (.cells #[x,y,z] T)) w.heap.size x y z:=⟨by simp,by simp,by simp,by simp,by simp,by simp⟩
theorem BoxD.lt {W:World} {c:Nat} {x y z:Value} (h:BoxD W c x y z):c<W.heap.size:=lt_of_cell h.r0
theorem BoxD.next {W W1:World} {c:Nat} {x y z:Value} (h:BoxD W c x y z) (hb:Below W.heap.size W W1):BoxD W1 c x y z:=
 ⟨(hb.cell (p:=⟨c,0,none⟩) h.lt).trans h.r0,(hb.cell (p:=⟨c,1,none⟩) h.lt).trans h.r1,(hb.cell (p:=⟨c,2,none⟩) h.lt).trans h.r2,(hb.frozen (p:=⟨c,0,none⟩) h.lt).trans h.g0,(hb.frozen (p:=⟨c,1,none⟩) h.lt).trans h.g1,(hb.frozen (p:=⟨c,2,none⟩) h.lt).trans h.g2⟩
theorem BoxD.put {W:World} {c:Nat} {x y z:Value} (h:BoxD W c x y z) (x' y' z':Value):BoxD (((W.setCell ⟨c,0,none⟩ x').setCell ⟨c,1,none⟩ y').setCell ⟨c,2,none⟩ z') c x' y' z':=by
 have a0:=World.cell?_setCell_same W ⟨c,0,none⟩ x' h.r0
 have a1:=(World.cell?_setCell_other W ⟨c,0,none⟩ ⟨c,1,none⟩ x' (by simp)).trans h.r1
 have a2:=(World.cell?_setCell_other W ⟨c,0,none⟩ ⟨c,2,none⟩ x' (by simp)).trans h.r2
 have b0:=(World.cell?_setCell_other (W.setCell ⟨c,0,none⟩ x') ⟨c,1,none⟩ ⟨c,0,none⟩ y' (by simp)).trans a0
 have b1:=World.cell?_setCell_same (W.setCell ⟨c,0,none⟩ x') ⟨c,1,none⟩ y' a1
 have b2:=(World.cell?_setCell_other (W.setCell ⟨c,0,none⟩ x') ⟨c,1,none⟩ ⟨c,2,none⟩ y' (by simp)).trans a2
 exact⟨(World.cell?_setCell_other _ ⟨c,2,none⟩ ⟨c,0,none⟩ z' (by simp)).trans b0,(World.cell?_setCell_other _ ⟨c,2,none⟩ ⟨c,1,none⟩ z' (by simp)).trans b1,World.cell?_setCell_same _ ⟨c,2,none⟩ z' b2,
  by rw [World.frozen?_setCell,World.frozen?_setCell,World.frozen?_setCell];exact h.g0,by rw [World.frozen?_setCell,World.frozen?_setCell,World.frozen?_setCell];exact h.g1,by rw [World.frozen?_setCell,World.frozen?_setCell,World.frozen?_setCell];exact h.g2⟩
theorem BoxD.put1 {W:World} {c:Nat} {x y z:Value} (h:BoxD W c x y z) (y':Value):BoxD (W.setCell ⟨c,1,none⟩ y') c x y' z:=
 ⟨(World.cell?_setCell_other W ⟨c,1,none⟩ ⟨c,0,none⟩ y' (by simp)).trans h.r0,World.cell?_setCell_same W ⟨c,1,none⟩ y' h.r1,(World.cell?_setCell_other W ⟨c,1,none⟩ ⟨c,2,none⟩ y' (by simp)).trans h.r2,
  by rw [World.frozen?_setCell];exact h.g0,by rw [World.frozen?_setCell];exact h.g1,by rw [World.frozen?_setCell];exact h.g2⟩
theorem BoxD.other {W:World} {c d k:Nat} {x y z:Value} (h:BoxD W c x y z) (hd:d≠c) (v:Value):BoxD (W.setCell ⟨d,k,none⟩ v) c x y z:=
 ⟨(World.cell?_setCell_other W ⟨d,k,none⟩ ⟨c,0,none⟩ v (by simp<;>omega)).trans h.r0,(World.cell?_setCell_other W ⟨d,k,none⟩ ⟨c,1,none⟩ v (by simp<;>omega)).trans h.r1,(World.cell?_setCell_other W ⟨d,k,none⟩ ⟨c,2,none⟩ v (by simp<;>omega)).trans h.r2,
  by rw [World.frozen?_setCell];exact h.g0,by rw [World.frozen?_setCell];exact h.g1,by rw [World.frozen?_setCell];exact h.g2⟩
theorem below_put {w W:World} {c n:Nat} (h:Below n w W) (hc:n≤c) (x y z:Value):Below n w (((W.setCell ⟨c,0,none⟩ x).setCell ⟨c,1,none⟩ y).setCell ⟨c,2,none⟩ z):=
 ((h.setCell hc _).setCell hc _).setCell hc _
theorem below_set {w W:World} {c n:Nat} (h:Below n w W) (hc:n≤c) (k:Nat) (v:Value):Below n w (W.setCell ⟨c,k,none⟩ v):=h.setCell hc _
end Go.Proofs.YtfaedmbfabfmeaaGreatDoor
namespace Go.Proofs.YtfaedmbfabfmeaaGreatDoor
open Go.RowKit Go.Maps Go.Lib
open Go.WideMaps (keyOf_string_mk)
theorem keyStrD:Keyed Tryz.prog 9:=string_keyed Tryz.underlying9
def datD (d:Dir):DataW Unit:=.agg [.lit (.string d.1),.lit (.string d.2.1),.lit (.bool d.2.2)]
def readDL:List Value→Option (DataW Unit×List MemPlace)
 | [.string n,.string v,.bool h]=>some (.agg [.lit (.string n.data.toList),.lit (.string v.data.toList),.lit (.bool h)],[])
 | _=>none
def readD:Value→Option (DataW Unit×List MemPlace)
 | .agg cs=>readDL cs.toList
 | _=>none
theorem readD_mk (d:Dir):readD (dirV d)=some (datD d,[]):=by
 obtain⟨n,v,h⟩:=d
 rfl
theorem readD_inv {v:Value} {d:Dir} {ps:List MemPlace} (h:readD v=some (datD d,ps)):v=dirV d:=by
 obtain⟨n,t,b⟩:=d
 cases v with
 | agg cs =>
  obtain⟨l⟩:=cs
  change readDL l=_ at h
  unfold readDL at h
  split at h
  ·rename_i n' v' h'
   simp only [Option.some.injEq,Prod.mk.injEq,datD,DataW.agg.injEq,List.cons.injEq,DataW.lit.injEq,Lit.string.injEq,Lit.bool.injEq,and_true]at h
   obtain⟨⟨h1,h2,h3⟩,_⟩:=h
   rw [dirV]
   dsimp only
   rw [← h1,← h2,← h3,strB_of,strB_of]
  ·cases h
 | _=>cases h
theorem fst_snoc (l:List Dir) (d:Dir) (n:List UInt8):fstN (l++[d]) n=(fstN l n).or (if d.1=n then some d else none):=by
 unfold fstN
 rw [List.find?_append,List.find?_cons]
 by_cases h:d.1=n
 ·rw [if_pos h,beq_iff_eq.2 h]
 ·rw [if_neg h,beq_eq_false_iff_ne.2 h]
  rfl
def FstOf (D:DataW Unit) (l:List Dir):Prop:=
 IsMap D∧∀n,Maps.has D (.string n)=hasN l n∧∀d,fstN l n=some d→∀z,D.atKey (.string n) z=datD d
theorem fstOf_nil:FstOf (.map []) []:=⟨isMap_empty,fun n=>⟨rfl,fun d h=>by cases h⟩⟩
theorem fstOf_put {D:DataW Unit} {l:List Dir} (h:FstOf D l) (d:Dir) (hn:fstN l d.1=none):FstOf (D.put (.string d.1) (datD d)) (l++[d]):=by
 refine⟨h.1.put _ _,fun n=>?_⟩
 have hk:WideAt.IsKeyLit (.string d.1):=trivial
 rw [hasN,fst_snoc]
 by_cases hd:d.1=n
 ·subst hd
  rw [hn,if_pos rfl,has_put_same h.1 hk]
  refine⟨rfl,fun e he z=>?_⟩
  obtain rfl:=Option.some.inj he
  exact atKey_put_same h.1 hk _ _
 ·have hne:Lit.string n≠.string d.1:=fun e=>hd (Lit.string.inj e).symm
  rw [if_neg hd,Option.or_none,has_put_other hne]
  refine⟨(h.2 n).1,fun e he z=>?_⟩
  rw [atKey_put_other hne]
  exact(h.2 n).2 e he z
theorem fstOf_skip {D:DataW Unit} {l:List Dir} (h:FstOf D l) (d e:Dir) (hn:fstN l d.1=some e):FstOf D (l++[d]):=by
 refine⟨h.1,fun n=>?_⟩
 have hs:fstN (l++[d]) n=fstN l n:=by
  rw [fst_snoc]
  by_cases hd:d.1=n
  ·rw [← hd,hn]<;>rfl
  ·rw [if_neg hd,Option.or_none]
 rw [hasN,hs]
 exact h.2 n
theorem wpList_lookup_dir {T E:TypeId} (w:World) {ops:Array Oper} {rest:List Oper} {o:Oper} {a:Act} {Q:Exit→Act→World→Prop}
  (hg:o.guard=none) (m x:Operand) (hop:o.op=Op.lookup T m x true) (ht:Tryz.prog.underlying T=some (.map 9 E))
  (hz:∀W,(zeroValue E).run Tryz.prog W=.ok (dirV ([],[],false)) W)
  (b n:Nat) (D:DataW Unit) (l:List Dir) (hm:a.eval m=.map (some b)) (hown:w.ownsMap Tryz.prog 9 readD b n D) (hF:FstOf D l) (k:List UInt8) (hx:a.eval x=.string (strB k)) (hk:k.length≤100000)
  (N V:List UInt8) (H B:Bool) (hd:(fstN l k).getD ([],[],false)=(N,V,H)) (hh:hasN l k=B)
  (hK:wpList Tryz.prog ops Q rest (a.put o.dst (.tuple #[.agg #[.string (strB N),.string (strB V),.bool H],.bool B])) w) :
  wpList Tryz.prog ops Q (o :: rest) a w:=by
 have hkey:keyOf Tryz.prog 9 (.string (strB k))=some (.string k):=keyOf_string_mk Tryz.underlying9 (by rw [strB_size];unfold maxLen;omega)
 refine wpList_lookup_own_ok w hg m x T hop 9 E keyStrD ht readD (hz w) _ [] (readD_mk _) b n D hm hown _ _ hx hkey (fun v ps hv=>?_)
 rw [(hF.2 k).1]
 have hvd:v=dirV ((fstN l k).getD ([],[],false)):=by
  cases hf:fstN l k with
  | none =>
   have h0:Maps.has D (.string k)=false:=by rw [(hF.2 k).1,hasN,hf]<;>rfl
   rw [atKey_of_not_has h0]at hv
   exact readD_inv hv
  | some d =>
   rw [(hF.2 k).2 d hf]at hv
   exact readD_inv hv
 rw [hvd,hd,hh]
 exact hK
theorem ownsMap_below {P:Program} {k:TypeId} {R:Value→Option (DataW Unit×List MemPlace)} {w w':World} {b n:Nat} {D:DataW Unit} (h:w.ownsMap P k R b n D) (hb:Below w.heap.size w w'):w'.ownsMap P k R b n D:=by
 obtain⟨es,clock,hh,r⟩:=h
 exact⟨es,clock,(hb.block b (Array.getElem?_eq_some_iff.1 hh).1).trans hh,r⟩
def Held (W:World) (B:Nat) (ds:List Dir):Prop:=B<W.heap.size∧∃M,W.cell? ⟨B,0,none⟩=some (.map (some M))∧∃n D,W.ownsMap Tryz.prog 9 readD M n D∧FstOf D ds
theorem Held.below {W W':World} {B:Nat} {ds:List Dir} (h:Held W B ds) (hb:Below W.heap.size W W'):Held W' B ds:=by
 obtain⟨hl,M,hc,n,D,ho,hF⟩:=h
 exact⟨Nat.lt_of_lt_of_le hl hb.size,M,(hb.cell (p:=⟨B,0,none⟩) hl).trans hc,n,D,ownsMap_below ho hb,hF⟩
def numM (d:Dir):Int:=if d.1=nStale∧d.2.2=false then 2147483648 else digitsN d.2.1
def nm2 (l:List Dir) (n:List UInt8):Int:=match fstN l n with | none=>-1 | some d=>numM d
theorem fst_name {l:List Dir} {n:List UInt8} {d:Dir} (h:fstN l n=some d):d.1=n:=by
 have:=List.find?_some h
 simpa using this
theorem nm2_other (l:List Dir) (n:List UInt8) (h:n≠nStale):nm2 l n=numN l n:=by
 unfold nm2 numN
 cases hf:fstN l n with
 | none=>rfl
 | some d =>
  have hn:=fst_name hf
  simp only [numM]
  rw [if_neg (fun e=>h (hn▸e.1))]
theorem nm2_stale (l:List Dir):nm2 l nStale=stlN l nStale:=by
 unfold nm2 stlN
 cases hf:fstN l nStale with
 | none=>rfl
 | some d =>
  have hn:=fst_name hf
  simp only [numM]
  cases d.2.2
  ·rw [if_pos ⟨hn,rfl⟩,if_neg (by decide)]
  ·rw [if_neg (fun e=>by cases e.2),if_pos rfl]
end Go.Proofs.YtfaedmbfabfmeaaGreatDoor
namespace Go.Proofs.YtfaedmbfabfmeaaGreatDoor
open Go.RowKit Go.Shelf Go.Lib
def lineF (p:Fld):List UInt8:=p.1++[58,32]++p.2++[13,10]
def prF:List Fld→List UInt8
 | []=>[]
 | p :: ps=>lineF p++prF ps
theorem lineF_len (p:Fld):(lineF p).length=p.1.length+p.2.length+4:=by
 simp [lineF]
 omega
theorem IsBuilder_ltF {T e:TypeId} {B b:Nat} {bs:List Value} {w:World} (h:Lib.IsBuilder T e B b bs w):b<w.heap.size:=by
 rcases h with h | h
 ·exact h.lt
 ·exact h.lt
end Go.Proofs.YtfaedmbfabfmeaaGreatDoor
namespace Go.Proofs.YtfaedmbfabfmeaaGreatDoor
open Go.RowKit
theorem unqF_len:∀(f:Nat) (l t:List UInt8),unqF f l=some t→t.length≤l.length
 | 0,_,_,h=>by cases h
 | _+1,[],_,h=>by cases h
 | f+1,c :: r,t,h=>by
  rw [unqF]at h
  split at h
  ·split at h
   ·cases h;simp
   ·cases h
  ·split at h
   ·split at h
    ·cases h
    ·next hr =>
     cases hq:unqF f (r.drop 1)with
     | none=>rw [hq]at h;cases h
     | some u =>
      rw [hq]at h
      cases h
      have h1:=unqF_len f (r.drop 1) u hq
      have h2:=List.length_pos_iff.2 hr
      rw [List.length_drop]at h1
      simp only [List.length_cons]
      omega
   ·cases hq:unqF f r with
    | none=>rw [hq]at h;cases h
    | some u =>
     rw [hq]at h
     cases h
     have h1:=unqF_len f r u hq
     simp only [List.length_cons]
     omega
theorem unqL_len (l t:List UInt8) (h:unqL l=some t):t.length≤l.length:=by
 cases l with
 | nil=>cases h
 | cons c r =>
  rw [unqL]at h
  split at h
  ·have:=unqF_len _ _ _ h
   simp only [List.length_cons]
   omega
  ·cases h
theorem lowL_size (l:List UInt8):(lowL l).length=l.length:=by simp [lowL]
theorem oneL_len (s:List UInt8) (d:Dir) (h:oneL s=some d):d.1.length≤s.length∧d.2.1.length≤s.length:=by
 rw [oneL]at h
 split at h
 ·split at h
  ·cases h
   exact⟨by rw [lowL_size];exact zR _,by simp⟩
  ·cases h
 ·split at h
  ·split at h
   ·cases h
    exact⟨by rw [lowL_size,List.length_take];omega,by rw [List.length_drop];omega⟩
   ·cases hq:unqL (s.drop ((Lib.indexByte s 61).toNat+1))with
    | none=>rw [hq]at h;cases h
    | some t =>
     rw [hq]at h
     cases h
     have:=unqL_len _ _ hq
     rw [List.length_drop]at this
     exact⟨by rw [lowL_size,List.length_take];omega,by dsimp only;omega⟩
  ·cases h
theorem splitL_small:∀(n:Nat) (l:List UInt8),l.length≤n→(splitL l).length≤l.length∧∀p∈splitL l,p.length≤l.length
 | 0,l,h=>by
  obtain rfl:l=[]:=List.eq_nil_of_length_eq_zero (by omega)
  exact⟨by rw [splitL_nil];exact zR _,fun p hp=>by rw [splitL_nil]at hp;cases hp⟩
 | n+1,l,h=>by
  by_cases hl:l=[]
  ·subst hl
   exact⟨by rw [splitL_nil];exact zR _,fun p hp=>by rw [splitL_nil]at hp;cases hp⟩
  ·have hp:=List.length_pos_iff.2 hl
   have hd:(l.drop (peL l+1)).length=l.length-(peL l+1):=List.length_drop
   obtain⟨h1,h2⟩:=splitL_small n (l.drop (peL l+1)) (by omega)
   have ht:(trimL (l.take (peL l))).length≤l.length:=Nat.le_trans (trimL_le _) (by rw [List.length_take];omega)
   rw [splitL_step l hl]
   constructor
   ·rw [List.length_append]
    split
    ·simp only [List.length_nil];omega
    ·simp only [List.length_singleton];omega
   ·intro p hm
    rw [List.mem_append]at hm
    rcases hm with hm | hm
    ·split at hm
     ·cases hm
     ·rw [List.mem_singleton]at hm
      rw [hm];exact ht
    ·have:=h2 p hm
     omega
theorem dirsL_ok (s:List UInt8) (hs:s.length≤100000):DirsOk (dirsL s):=by
 obtain⟨h1,h2⟩:=splitL_small _ s (zR _)
 refine⟨Nat.le_trans (List.length_filterMap_le _ _) (Nat.le_trans h1 hs),fun d hd=>?_⟩
 obtain⟨p,hp,ho⟩:=List.mem_filterMap.1 hd
 obtain⟨h3,h4⟩:=oneL_len p d ho
 have:=h2 p hp
 omega
end Go.Proofs.YtfaedmbfabfmeaaGreatDoor
