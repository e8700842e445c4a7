/- The contract of the parser's value. · The contract of the parser's param. · What the parser's params needs: the parameters of a text (plain), their row in memory, their places in a map. · The contract of the parser's params. · The contract of the parser's item. · The contract of item.parserOf; how far a parser reads. · Parameters in memory as an argument, and the contract of item.hasEqualKeys. · Items in memory, whose parameters lie elsewhere: what is read of them, and what is owned. · The contracts of item.Params and item.Read. · The contract of item.paramText. · The contracts of item.PrintParams and item.Print. · The contract of item.Print. · What item prints is parsed (plain). · What item prints has no space at its ends; so it is parsed with spaces around it, too (plain). · What is parsed may be printed; what a parameter more does (plain). · Sizes: how long the printed text of a small item is, and that of one which was parsed (plain). · The contracts of slices.Equal at parameters and of item.Same. · The contract of item.Same. -/
import Derived.Test.YtfaedmbfabfmeaaGreatDoorYMBarG
import Derived.Deep.RegionHeld3
import Derived.Maps.OwnSet
import Derived.Maps.Views
import Derived.Laws.OwnMore
import Derived.Lib.Builder
import Derived.Lib.AppendStr
import Derived.Lib.UnsafeStr
set_option linter.unusedSimpArgs false
set_option maxRecDepth 100000
set_option maxHeartbeats 2000000
namespace Go.Proofs.YtfaedmbfabfmeaaGreatDoor
open Go.RowKit
theorem Par.other {w:World} {b:Nat} {t:ByteArray} {k:Nat} (h:Par w b t k) {c o:Nat} (hc:c≠b) (v:Value):Par (w.setCell ⟨c,o,none⟩ v) b t k:=
 ⟨(World.cell?_setCell_other w ⟨c,o,none⟩ ⟨b,0,none⟩ _ (by simp)).trans h.text,(World.cell?_setCell_other w ⟨c,o,none⟩ ⟨b,1,none⟩ _ (by simp)).trans h.at_,by rw [World.frozen?_setCell];exact h.f0,by rw [World.frozen?_setCell];exact h.f1⟩
theorem Par.alloc {w:World} {b:Nat} {t:ByteArray} {k:Nat} (h:Par w b t k) (o:Obj):Par (w.alloc o) b t k:=h.below ((Below.refl _ _).alloc (zR _) o)
theorem Moved.alloc {b:Nat} {w W:World} (h:Moved b w W) (o:Obj):Moved b w (W.alloc o):=h.trans (Moved.of_below ((Below.refl _ _).alloc (zR _) o))
theorem Moved.setNew {b:Nat} {w W:World} (h:Moved b w W) {c o:Nat} (hc:w.heap.size≤c) (v:Value):Moved b w (W.setCell ⟨c,o,none⟩ v):=
 ⟨h.os,h.tape,h.output,by simpa using h.size,fun k hk1 hb=>(Below.heap_setCell W ⟨c,o,none⟩ v k (by show k≠c;omega)).trans (h.block k hk1 hb)⟩
theorem Moved.low {b:Nat} {w W V:World} (h:Moved b w W) (hb:Below W.heap.size W V):Moved b w V:=h.trans (Moved.of_below hb)
def valV (o:Option Got):Value:=match o with
 | some g=>.tuple #[.agg #[.int .i64 g.k,.int .i64 g.n,.string (strB g.s)],.int .i64 0]
 | none=>.tuple #[.agg #[.int .i64 0,.int .i64 0,.string ⟨#[]⟩],.int .i64 2]
def advL (o:Option Got):Nat:=match o with
 | some g=>g.m
 | none=>0
theorem Par.setI {w:World} {b:Nat} {t:ByteArray} {k:Nat} (h:Par w b t k) (m:Nat) (z:Int) (hz:z=(m:Int)):Par (w.setCell ⟨b,1,none⟩ (.int .i64 z)) b t m:=hz▸h.set m
theorem gotV_parts (o:Option Got):∃(x y:Int) (z:ByteArray) (r:Int),gotV o=.tuple #[.agg #[.int .i64 x,.int .i64 y,.string z],.int .i64 (advL o:Int),.int .i64 r]∧valV o=.tuple #[.agg #[.int .i64 x,.int .i64 y,.string z],.int .i64 r]:=by
 cases o with
 | none=>exact⟨_,_,_,_,rfl,rfl⟩
 | some g=>exact⟨_,_,_,_,rfl,rfl⟩
structure Res (W:World) (c:Nat):Prop where
 r0:W.cell? ⟨c,0,none⟩=some (.int .i64 0)
 r1:W.cell? ⟨c,1,none⟩=some (.int .i64 0)
 r2:W.cell? ⟨c,2,none⟩=some (.string ⟨#[]⟩)
 g0:W.frozen? ⟨c,0,none⟩=false
 g1:W.frozen? ⟨c,1,none⟩=false
 g2:W.frozen? ⟨c,2,none⟩=false
abbrev heldV (w W:World) (b:Nat) (t:ByteArray) (k:Nat):Prop:=
 W.cell? ⟨b,0,none⟩=some (.string t)∧W.cell? ⟨b,1,none⟩=some (.int .i64 (k:Int))∧Par W b t k∧Below w.heap.size w W∧Alph W∧Res W w.heap.size
theorem Res.lt {W:World} {c:Nat} (h:Res W c):c<W.heap.size:=lt_of_cell h.r0
theorem Res.below {W W1:World} {c:Nat} (h:Res W c) (hb:Below W.heap.size W W1):Res W1 c:=
 ⟨(hb.cell (p:=⟨c,0,none⟩) h.lt).trans h.r0,(hb.cell (p:=⟨c,1,none⟩) h.lt).trans h.r1,(hb.cell (p:=⟨c,2,none⟩) h.lt).trans h.r2,(hb.frozen (p:=⟨c,0,none⟩) h.lt).trans h.g0,(hb.frozen (p:=⟨c,1,none⟩) h.lt).trans h.g1,(hb.frozen (p:=⟨c,2,none⟩) h.lt).trans h.g2⟩
theorem Res.other {W:World} {c:Nat} (h:Res W c) {d o:Nat} (hd:d≠c) (v:Value):Res (W.setCell ⟨d,o,none⟩ v) c:=
 ⟨(World.cell?_setCell_other W ⟨d,o,none⟩ ⟨c,0,none⟩ _ (by simp)).trans h.r0,(World.cell?_setCell_other W ⟨d,o,none⟩ ⟨c,1,none⟩ _ (by simp)).trans h.r1,(World.cell?_setCell_other W ⟨d,o,none⟩ ⟨c,2,none⟩ _ (by simp)).trans h.r2,by rw [World.frozen?_setCell];exact h.g0,by rw [World.frozen?_setCell];exact h.g1,by rw [World.frozen?_setCell];exact h.g2⟩
theorem Res.made (w:World):Res (w.alloc zeroBare) w.heap.size:=⟨by simp,by simp,by simp,by simp,by simp,by simp⟩
theorem held_below2 {w W W1:World} {b:Nat} {t:ByteArray} {k:Nat} (hb:Below W.heap.size W W1) (h:heldV w W b t k):heldV w W1 b t k:=by
 obtain⟨_,_,h2,h3,h4,h5⟩:=h
 have hP:=h2.below hb
 exact⟨hP.text,hP.at_,hP,h3.trans (hb.mono h3.size),h4.below hb,h5.below hb⟩
theorem held_alloc {w W:World} {b:Nat} {t:ByteArray} {k:Nat} (h:heldV w W b t k) (o:Obj):heldV w (W.alloc o) b t k:=held_below2 ((Below.refl _ _).alloc (zR _) o) h
theorem held_set3 {w W:World} {b:Nat} {t:ByteArray} {k:Nat} (hA:Alph w) (hbl:b<w.heap.size) (h:heldV w W b t k) (c:Nat) (hc:w.heap.size<c) (v0 v1 v2:Value) :
  heldV w (((W.setCell ⟨c,0,none⟩ v0).setCell ⟨c,1,none⟩ v1).setCell ⟨c,2,none⟩ v2) b t k:=by
 obtain⟨_,_,h2,h3,_,h5⟩:=h
 have hne:c≠b:=by omega
 have hne2:c≠w.heap.size:=by omega
 have hle:w.heap.size≤c:=by omega
 have hP:=((h2.other hne v0 (o:=0)).other hne v1 (o:=1)).other hne v2 (o:=2)
 have hB:Below w.heap.size w (((W.setCell ⟨c,0,none⟩ v0).setCell ⟨c,1,none⟩ v1).setCell ⟨c,2,none⟩ v2):=((h3.setCell hle _).setCell hle _).setCell hle _
 exact⟨hP.text,hP.at_,hP,hB,hA.below hB,((h5.other hne2 v0 (o:=0)).other hne2 v1 (o:=1)).other hne2 v2 (o:=2)⟩
theorem value_any (b:Nat) (t:ByteArray) (k:Nat) (w:World) (h:Par w b t k) (ht:t.size≤100000) (hk:k≤t.size) (hA:Alph w) :
  Calls Tryz.prog 236 #[.pointer (some ⟨b,0,none⟩)] w (movePost (valV (readL (t.data.toList.drop k))) b t (k+advL (readL (t.data.toList.drop k))) w):=by
 have hb0:Below w.heap.size w (w.alloc zeroBare):=(Below.refl _ _).alloc (zR _) _
 have HA:=zH hA
 have hxd:(t.extract k t.size).data.toList=t.data.toList.drop k:=Lib.extract_to_end t k
 have hxs:(t.extract k t.size).size≤100000:=by rw [Lib.size_eq,hxd,List.length_drop,← Lib.size_eq];omega
 have cQ:=fun W hW=>read_any (t.extract k t.size) W hxs hW
 rw [hxd]at cQ
 clear hA hxd hxs
 have hbl:=h.lt
 have HP:=zH h
 clear h
 have ho:k+advL (readL (t.data.toList.drop k))≤t.size:=by
  cases hg:readL (t.data.toList.drop k)with
  | none=>exact hk
  | some g =>
   have:=(readL_right _ g hg).2.2.1
   rw [List.length_drop,← Lib.size_eq]at this
   show k+g.m≤t.size
   omega
 generalize readL (t.data.toList.drop k)=o at *
 obtain⟨x,y,z,r,hv,hv2⟩:=gotV_parts o
 rw [hv]at cQ
 rw [hv2]
 generalize advL o=m at *
 clear hv hv2
 have hS0:heldV w (w.alloc zeroBare).drew b t k:=⟨(HP.out.alloc zeroBare).text,(HP.out.alloc zeroBare).at_,HP.out.below hb0.drew,hb0.drew,HA.out.below hb0.drew,(Res.made w).below (Below.refl _ _).drew⟩
 have cQ2:∀W,heldV w W b t k→Calls Tryz.prog 247 #[.string (t.extract k t.size)] W fun e w'=>e=.returned (.tuple #[.agg #[.int .i64 x,.int .i64 y,.string z],.int .i64 (m:Int),.int .i64 r])∧heldV w w' b t k∧Below W.heap.size W w':=
  fun W h=>(cQ W h.2.2.2.2.1).mono fun e w' hh=>⟨hh.1,held_below2 hh.2 h,hh.2⟩
 have j1:(0:Int)≤(k:Int):=by omega
 have j2:(k:Int)≤(t.size:Int):=by omega
 clear cQ
 go_enter Tryz.func236,Tryz.ntmps236
 go_wp2_with fail
 go_region_held3 (fun W=>W.cell? ⟨b,0,none⟩=some (.string t)∧W.cell? ⟨b,1,none⟩=some (.int .i64 (k:Int))∧Par W b t k∧Below w.heap.size w W∧Alph W∧Res W w.heap.size) (first | assumption | exact held_alloc (by assumption) _ | exact held_set3 HA.out hbl (by assumption) _ (by omega) _ _ _ | go_keep)
  (first | (go_at_call 247;refine(cQ2 _ (by assumption)).mono ?_;rintro e w' ⟨rfl,hh,hlow⟩;obtain⟨hce,hfr⟩:=bcell hlow;have hsz:=hlow.size;have hbl2:b<w'.heap.size:=hh.2.2.1.lt;have hrl2:w.heap.size<w'.heap.size:=hh.2.2.2.2.2.lt;have s0:=hh.2.2.2.2.2.r0;have s1:=hh.2.2.2.2.2.r1;have s2:=hh.2.2.2.2.2.r2))
 all_goals
  obtain⟨e0,e1,eP,eB,_,eR⟩:=(by assumption:heldV w _ b t k)
  have e2:=eP.f1
  have r0:=eR.r0
  have r1:=eR.r1
  have r2:=eR.r2
  have g0:=eR.g0
  have g1:=eR.g1
  have g2:=eR.g2
 all_goals go_wp2_with fail
 all_goals
  have n1:¬b=w.heap.size:=by omega
  have n2:¬w.heap.size=b:=by omega
  refine bodyPost_ret (v:=.tuple #[.agg #[.int .i64 x,.int .i64 y,.string z],.int .i64 r]) (by simp [results,Tryz.results236,go_sem,s0,s1,s2,hrl2]) rfl ⟨rfl,?_,?_⟩
  ·repeat(first | with_reducible refine Par.alloc ?_ _ | with_reducible refine Par.other ?_ (by omega) _ | with_reducible refine Par.setI (k:=k) ?_ _ _ (Int.natCast_add k m).symm)
   exact hh.2.2.1
  ·repeat(first | with_reducible refine Moved.alloc ?_ _ | with_reducible refine Moved.setNew ?_ (by omega) _ | with_reducible refine Moved.setCell ?_ _)
   exact Moved.of_below hh.2.2.2.1
theorem Par.moved {w W:World} {b c:Nat} {t:ByteArray} {k:Nat} (h:Par w b t k) (hm:Moved c w W) (hc:b≠c):Par W b t k:=
 ⟨(hm.cell (p:=⟨b,0,none⟩) h.lt hc).trans h.text,(hm.cell (p:=⟨b,1,none⟩) h.lt hc).trans h.at_,(hm.frozen (p:=⟨b,0,none⟩) h.lt hc).trans h.f0,(hm.frozen (p:=⟨b,1,none⟩) h.lt hc).trans h.f1⟩
structure Res4 (W:World) (c:Nat):Prop where
 r0:W.cell? ⟨c,0,none⟩=some (.string ⟨#[]⟩)
 r1:W.cell? ⟨c,1,none⟩=some (.int .i64 0)
 r2:W.cell? ⟨c,2,none⟩=some (.int .i64 0)
 r3:W.cell? ⟨c,3,none⟩=some (.string ⟨#[]⟩)
 g0:W.frozen? ⟨c,0,none⟩=false
 g1:W.frozen? ⟨c,1,none⟩=false
 g2:W.frozen? ⟨c,2,none⟩=false
 g3:W.frozen? ⟨c,3,none⟩=false
abbrev zeroParam:Obj:=.cells #[.string ⟨#[]⟩,.int .i64 0,.int .i64 0,.string ⟨#[]⟩] 215
theorem Res4.made (w:World):Res4 (w.alloc zeroParam) w.heap.size:=⟨by simp,by simp,by simp,by simp,by simp,by simp,by simp,by simp⟩
theorem Res4.lt {W:World} {c:Nat} (h:Res4 W c):c<W.heap.size:=lt_of_cell h.r0
theorem Res4.moved {W W1:World} {b c:Nat} (h:Res4 W c) (hm:Moved b W W1) (hc:c≠b):Res4 W1 c:=
 ⟨(hm.cell (p:=⟨c,0,none⟩) h.lt hc).trans h.r0,(hm.cell (p:=⟨c,1,none⟩) h.lt hc).trans h.r1,(hm.cell (p:=⟨c,2,none⟩) h.lt hc).trans h.r2,(hm.cell (p:=⟨c,3,none⟩) h.lt hc).trans h.r3,(hm.frozen (p:=⟨c,0,none⟩) h.lt hc).trans h.g0,(hm.frozen (p:=⟨c,1,none⟩) h.lt hc).trans h.g1,(hm.frozen (p:=⟨c,2,none⟩) h.lt hc).trans h.g2,(hm.frozen (p:=⟨c,3,none⟩) h.lt hc).trans h.g3⟩
structure Prm where
 key:List UInt8
 k:Int
 n:Int
 s:List UInt8
def spcL (l:List UInt8):Nat:=(l.takeWhile (·==32)).length
def parL (l:List UInt8):Option (Prm×Nat):=
 if klen (l.drop (spcL l))=0 then none
 else if (l.drop (spcL l+klen (l.drop (spcL l)))).head? = some 61 then
  match readL (l.drop (spcL l+klen (l.drop (spcL l))+1))with
  | none=>none
  | some g=>some (⟨(l.drop (spcL l)).take (klen (l.drop (spcL l))),g.k,g.n,g.s⟩,spcL l+klen (l.drop (spcL l))+1+g.m)
 else some (⟨(l.drop (spcL l)).take (klen (l.drop (spcL l))),6,1,[]⟩,spcL l+klen (l.drop (spcL l)))
def prmV (o:Option (Prm×Nat)):Value:=match o with
 | some p=>.tuple #[.agg #[.string (strB p.1.key),.int .i64 p.1.k,.int .i64 p.1.n,.string (strB p.1.s)],.int .i64 0]
 | none=>.tuple #[.agg #[.string ⟨#[]⟩,.int .i64 0,.int .i64 0,.string ⟨#[]⟩],.int .i64 2]
def prmPost (o:Option (Prm×Nat)) (b:Nat) (t:ByteArray) (k:Nat) (w:World) (e:Ending) (w':World):Prop:=
 e=.returned (prmV o)∧Moved b w w'∧∃k',k'≤t.size∧Par w' b t k'∧∀p,o=some p→k'=k+p.2
theorem spc_at:∀(l:List UInt8) (j:Nat),j≤spcL l→((l.drop j).head? = some 32↔j<spcL l)
 | [],j,h=>by
  simp [spcL]at h ⊢
 | c :: l,0,_=>by
  rw [List.drop_zero,List.head?_cons,spcL,List.takeWhile_cons]
  by_cases hc:c=32
  ·subst hc;simp
  ·have:(c==32)=false:=by simpa using hc
   rw [this];simp [hc]
 | c :: l,j+1,h=>by
  rw [List.drop_succ_cons]
  rw [spcL,List.takeWhile_cons]at h ⊢
  by_cases hc:(c==32)=true
  ·rw [hc]at h ⊢
   simp only [if_true,List.length_cons]at h ⊢
   have:=spc_at l j (by unfold spcL;omega)
   rw [this]
   unfold spcL
   omega
  ·rw [Bool.not_eq_true]at hc
   rw [hc]at h
   simp at h
theorem spc_le (l:List UInt8):spcL l≤l.length:=takeWhile_len_le _ l
def atOf (w:World) (b:Nat):Nat:=match w.cell? ⟨b,1,none⟩with
 | some (.int _ z)=>z.toNat
 | _=>0
theorem Par.atOf {w:World} {b:Nat} {t:ByteArray} {k:Nat} (h:Par w b t k):atOf w b=k:=by
 unfold Proofs.YtfaedmbfabfmeaaGreatDoor.atOf
 rw [h.at_];simp
theorem Alph.moved {w W:World} {b:Nat} (h:Alph w) (hm:Moved b w W) (hb:6≠b):Alph W:=fun j hj=>by
 have:=h j hj
 rw [hm.cell (p:=⟨_,j,none⟩) (lt_of_cell this) hb]
 exact this
theorem parL_at (l:List UInt8) (k ns K1 n:Nat) (h1:spcL (l.drop k)=ns) (h2:k+ns=K1) (h3:klen (l.drop K1)=n) :
  parL (l.drop k)=if n=0 then none else if (l.drop (K1+n)).head? = some 61 then
   match readL (l.drop (K1+n+1))with
   | none=>none
   | some g=>some (⟨(l.drop K1).take n,g.k,g.n,g.s⟩,ns+n+1+g.m)
  else some (⟨(l.drop K1).take n,6,1,[]⟩,ns+n):=by
 rw [parL,h1]
 simp only [List.drop_drop]
 rw [h2,h3,show k+(ns+n)=K1+n by omega,show k+(ns+n+1)=K1+n+1 by omega]
theorem param_any (b:Nat) (t:ByteArray) (k:Nat) (w:World) (h:Par w b t k) (ht:t.size≤100000) (hk:k≤t.size) (hA:Alph w) (hAb:6≠b) :
  Calls Tryz.prog 222 #[.pointer (some ⟨b,0,none⟩)] w (prmPost (parL (t.data.toList.drop k)) b t k w):=by
 have hbl:=h.lt
 have HA:=zH hA
 have hbn:b≠w.heap.size:=by omega
 have hm0:Moved b w (w.alloc zeroParam):=(Moved.refl b w).alloc _
 have HP0:=zH (h.alloc zeroParam)
 have HR0:=zH (Res4.made w)
 clear hA h
 obtain⟨ns,hns⟩:∃ns,spcL (t.data.toList.drop k)=ns:=⟨_,rfl⟩
 have hspc:=spc_at (t.data.toList.drop k)
 have hnl:=spc_le (t.data.toList.drop k)
 rw [List.length_drop,← Lib.size_eq]at hnl
 rw [hns]at hspc hnl
 simp only [List.drop_drop]at hspc
 have Hspc:=zH hspc
 clear hspc
 have hM0:=zH hm0
 clear hm0
 go_enter Tryz.func222,Tryz.ntmps222
 go_wp2_with fail
 go_loopw [] (fun wr=>∃j:Nat,j≤ns∧Par wr b t (k+j)∧Moved b w wr∧Res4 wr w.heap.size) (fun wr=>t.size-atOf wr b)
 case atStart=>exact⟨0,by omega,HP0.out,hM0.out,HR0.out⟩
 case round =>
  obtain⟨j,hj,hP,hM,hR⟩:=hrel
  clear HP0 hM0 HR0
  by_cases hlt:j<ns
  ·have cT:=take_yes b t (k+j) 32 wr hP ht ((Hspc.out j hj).2 hlt)
   have hR1:=zH hR
   have hM1:=zH hM
   have hP1:=zH hP
   clear hP hM hR
   go_wp2_with fail
   refine cT.mono ?_
   rintro e w1 ⟨rfl,hP2,hM2⟩
   go_wp2_with fail
   go_roundw
   case rel=>exact⟨j+1,by omega,hP2,hM1.out.trans hM2,hR1.out.moved hM2 (Ne.symm hbn)⟩
   case measure=>rw [hP2.atOf,hP1.out.atOf];omega
  ·obtain rfl:j=ns:=by omega
   have cT:=take_no b t (k+j) 32 wr hP ht (by omega) (by
    intro e
    exact hlt ((Hspc.out j hj).1 e))
   have hk1:k+j≤t.size:=by omega
   obtain⟨K1,hK1⟩:∃K1,k+j=K1:=⟨_,rfl⟩
   obtain⟨n,hn⟩:∃n,klen (t.data.toList.drop K1)=n:=⟨_,rfl⟩
   have HL:=zH (parL_at t.data.toList k j K1 n hns hK1 hn)
   have HK:=zH hK1
   rw [hK1]at cT hP hk1
   have hxd:(t.extract K1 t.size).data.toList=t.data.toList.drop K1:=Lib.extract_to_end t K1
   have hxs:(t.extract K1 t.size).size≤maxLen:=by rw [Lib.size_eq,hxd,List.length_drop,← Lib.size_eq];unfold maxLen;omega
   have hn2:K1+n≤t.size:=by
    have:=klen_le (t.data.toList.drop K1)
    rw [hn,List.length_drop,← Lib.size_eq]at this;omega
   have cK:∀W,Calls Tryz.prog 128 #[.string (t.extract K1 t.size)] W fun e w'=>e=.returned (rkV (t.data.toList.drop K1))∧w'=W:=fun W=>by
    have:=readKey_any (t.extract K1 t.size) W hxs
    rw [hxd]at this
    exact this.mono (fun _ _ h=>⟨h.1,h.2.symm⟩)
   rw [rkV,hn]at cK
   have hM1:=zH hM
   have hR1:=zH hR
   clear hP hM hR hlt hj hns hnl Hspc hxd hxs hK1 hn
   go_wp2_with fail
   refine cT.mono ?_
   rintro e w1 ⟨rfl,hP1,hM2⟩
   have hMw:=hM1.out.trans hM2
   have hRw:=hR1.out.moved hM2 (Ne.symm hbn)
   have HP1:=zH hP1
   have c0:=hP1.text
   have c1:=hP1.at_
   have f1:=hP1.f1
   have j1:(0:Int)≤(K1:Int):=by omega
   have j2:(K1:Int)≤(t.size:Int):=by omega
   clear cT hM2 hM1 hR1 hP1
   have HM:=zH hMw
   have HR:=zH hRw
   clear hMw hRw
   by_cases hn0:n=0
   ·rw [if_pos hn0]at cK HL
    have r0:=HR.out.r0
    have r1:=HR.out.r1
    have r2:=HR.out.r2
    have r3:=HR.out.r3
    have g0:=HR.out.g0
    have g1:=HR.out.g1
    have g2:=HR.out.g2
    have g3:=HR.out.g3
    clear hn0
    go_wp2_with fail
    go_quiet ((go_at_call 128;exact Calls.quiet_of_same (cK _)))
    go_wp2_with fail
    have n1:¬b=w.heap.size:=hbn
    refine bodyPost_ret (v:=prmV none) (by simp [results,Tryz.results222,go_sem,prmV,r0,r1,r2,r3]) rfl ⟨by rw [HL.out],?_,K1,hk1,?_,fun p h=>by rw [HL.out]at h;cases h⟩
    ·repeat(first | with_reducible refine Moved.alloc ?_ _ | (with_reducible refine Moved.setNew ?_ (by omega) _) | with_reducible refine Moved.setCell ?_ _)
     exact HM.out.drew _
    ·repeat(first | with_reducible refine Par.alloc ?_ _ | with_reducible refine Par.other ?_ (by omega) _)
     exact HP1.out.drew _
   ·rw [if_neg hn0]at cK HL
    obtain⟨K2,hK2⟩:∃K2,K1+n=K2:=⟨_,rfl⟩
    rw [hK2]at HL hn2
    have q1:(K1:Int)+(n:Int)=(K2:Int):=by omega
    have HK2:=zH hK2
    obtain⟨X,hX⟩:∃X,strB ((t.data.toList.drop K1).take n)=X:=⟨_,rfl⟩
    rw [hX]at cK
    have HX:=zH hX
    clear hK2 hX
    go_wp2_with fail
    go_quiet ((go_at_call 128;exact Calls.quiet_of_same (cK _)))
    clear cK c0
    by_cases h61:(t.data.toList.drop K2).head? = some 61
    ·rw [if_pos h61]at HL
     have hK2s:K2+1≤t.size:=by
      by_cases hlt:K2<t.size
      ·omega
      ·rw [List.drop_of_length_le (by rw [← Lib.size_eq];omega)]at h61;cases h61
     go_wp2_with fail
     refine(take_yes b t K2 61 _ ?_ ht h61).mono ?_
     ·exact(HP1.out.drew _).setI K2 _ rfl
     rintro e w2 ⟨rfl,hP2,hM2⟩
     have hMw2:=((HM.out.drew _).setCell _).trans hM2
     have hRw2:=(HR.out.moved (((Moved.refl b w1).drew _).setCell _) (Ne.symm hbn)).moved hM2 (Ne.symm hbn)
     clear hM2 c1 f1 q1
     have cV:=value_any b t (K2+1) w2 hP2 ht hK2s (HA.out.moved hMw2 hAb)
     have HM2:=zH hMw2
     have HR2:=zH hRw2
     clear hMw2 hRw2 hP2
     cases ho:readL (t.data.toList.drop (K2+1))with
     | none =>
      rw [ho]at HL cV
      simp only [advL,Nat.add_zero]at cV
      simp only [valV]at cV
      clear ho
      go_wp2_with fail
      refine cV.mono ?_
      rintro e w3 ⟨rfl,hP3,hM3⟩
      have hR3:=HR2.out.moved hM3 (Ne.symm hbn)
      have hMw3:=HM2.out.trans hM3
      have hlt3:w.heap.size<w3.heap.size:=hR3.lt
      obtain⟨r0,r1,r2,r3,g0,g1,g2,g3⟩:=hR3
      clear hM3 cV
      go_wp2_with fail
      refine bodyPost_ret (v:=prmV none) (by simp [results,Tryz.results222,go_sem,prmV,r0,r1,r2,r3,hlt3]) rfl ⟨by rw [HL.out],?_,K2+1,hK2s,?_,fun p h=>by rw [HL.out]at h;cases h⟩
      ·repeat(first | with_reducible refine Moved.alloc ?_ _ | (with_reducible refine Moved.setNew ?_ (by omega) _) | with_reducible refine Moved.setCell ?_ _)
       exact hMw3
      ·repeat(first | with_reducible refine Par.alloc ?_ _ | with_reducible refine Par.other ?_ (by omega) _)
       exact hP3
     | some g =>
      have hgm:=(readL_right _ g ho).2.2.1
      rw [List.length_drop,← Lib.size_eq]at hgm
      rw [ho]at HL cV
      simp only [advL]at cV
      simp only [valV]at cV
      clear ho
      obtain⟨gk,gn,gs,gm⟩:=g
      simp only at cV hgm
      have HV:Hid (prmV (some (⟨(t.data.toList.drop K1).take n,gk,gn,gs⟩,j+n+1+gm))=.tuple #[.agg #[.string X,.int .i64 gk,.int .i64 gn,.string (strB gs)],.int .i64 0]):=zH (by rw [prmV,HX.out])
      generalize strB gs=S at cV HV
      go_wp2_with fail
      refine cV.mono ?_
      rintro e w3 ⟨rfl,hP3,hM3⟩
      have hR3:=HR2.out.moved hM3 (Ne.symm hbn)
      have hMw3:=HM2.out.trans hM3
      have hlt3:w.heap.size<w3.heap.size:=hR3.lt
      obtain⟨r0,r1,r2,r3,g0,g1,g2,g3⟩:=hR3
      clear hM3 cV
      go_wp2_with fail
      refine bodyPost_ret (v:=.tuple #[.agg #[.string X,.int .i64 gk,.int .i64 gn,.string S],.int .i64 0]) (by simp [results,Tryz.results222,go_sem,r0,r1,r2,r3,hlt3]) rfl ⟨by rw [HL.out,HV.out],?_,K2+1+gm,by omega,?_,fun p h=>by rw [HL.out]at h;obtain rfl:=Option.some.inj h;have:=HK.out;have:=HK2.out;show _=k+(j+n+1+gm);omega⟩
      ·repeat(first | with_reducible refine Moved.alloc ?_ _ | (with_reducible refine Moved.setNew ?_ (by omega) _) | with_reducible refine Moved.setCell ?_ _)
       exact hMw3
      ·repeat(first | with_reducible refine Par.alloc ?_ _ | with_reducible refine Par.other ?_ (by omega) _)
       exact hP3
    ·rw [if_neg h61]at HL
     have HV:Hid (prmV (some (⟨(t.data.toList.drop K1).take n,6,1,[]⟩,j+n))=.tuple #[.agg #[.string X,.int .i64 6,.int .i64 1,.string ⟨#[]⟩],.int .i64 0]):=zH (by rw [prmV,HX.out]<;>rfl)
     go_wp2_with fail
     refine(take_no b t K2 61 _ ?_ ht hn2 h61).mono ?_
     ·exact(HP1.out.drew _).setI K2 _ rfl
     rintro e w2 ⟨rfl,hP2,hM2⟩
     have hMw2:=((HM.out.drew _).setCell _).trans hM2
     have hRw2:=(HR.out.moved (((Moved.refl b w1).drew _).setCell _) (Ne.symm hbn)).moved hM2 (Ne.symm hbn)
     clear hM2 c1 f1 q1
     have HM2:=zH hMw2
     have HR2:=zH hRw2
     clear hMw2 hRw2
     have cU:=unspoken_any w2
     go_wp2_with fail
     refine cU.mono ?_
     rintro e w3 ⟨rfl,hb3⟩
     have hM3:Moved b w2 w3:=Moved.of_below hb3
     have hP3:=hP2.below hb3
     have hR3:=HR2.out.moved hM3 (Ne.symm hbn)
     have hMw3:=HM2.out.trans hM3
     have hlt3:w.heap.size<w3.heap.size:=hR3.lt
     obtain⟨r0,r1,r2,r3,g0,g1,g2,g3⟩:=hR3
     clear hM3 cU hb3 hP2
     go_wp2_with fail
     refine bodyPost_ret (v:=.tuple #[.agg #[.string X,.int .i64 6,.int .i64 1,.string ⟨#[]⟩],.int .i64 0]) (by simp [results,Tryz.results222,go_sem,r0,r1,r2,r3]) rfl ⟨by rw [HL.out,HV.out],?_,K2,hn2,?_,fun p h=>by rw [HL.out]at h;obtain rfl:=Option.some.inj h;have:=HK.out;have:=HK2.out;show _=k+(j+n);omega⟩
     ·repeat(first | with_reducible refine Moved.alloc ?_ _ | (with_reducible refine Moved.setNew ?_ (by omega) _) | with_reducible refine Moved.setCell ?_ _)
      exact hMw3
     ·repeat(first | with_reducible refine Par.alloc ?_ _ | with_reducible refine Par.other ?_ (by omega) _)
      exact hP3
end Go.Proofs.YtfaedmbfabfmeaaGreatDoor
namespace Go.Proofs.YtfaedmbfabfmeaaGreatDoor
open Go.RowKit Go.Maps
def idxL (ks:List (List UInt8)) (k:List UInt8):Nat:=ks.findIdx (·==k)
theorem idxL_lt (ks:List (List UInt8)) (k:List UInt8):idxL ks k<ks.length↔k∈ks:=by
 unfold idxL
 rw [List.findIdx_lt_length]
 constructor
 ·rintro⟨x,hx,h⟩
  rw [beq_iff_eq]at h
  rw [← h];exact hx
 ·intro h
  exact⟨k,h,by simp⟩
def putL (ps:List Prm) (p:Prm):List Prm:=
 if idxL (ps.map Prm.key) p.key<ps.length then ps.set (idxL (ps.map Prm.key) p.key) p else ps++[p]
theorem putL_len (ps:List Prm) (p:Prm):(putL ps p).length≤ps.length+1:=by
 unfold putL
 split
 ·rw [List.length_set];omega
 ·simp
def psL (l:List UInt8) (acc:List Prm) (m:Nat):Option (List Prm×Nat):=
 if _h:l.head? = some 59 then
  match parL (l.drop 1)with
  | none=>none
  | some (p,n)=>psL (l.drop (1+n)) (putL acc p) (m+1+n)
 else some (acc,m)
termination_by l.length
decreasing_by
 cases l with
 | nil=>simp at _h
 | cons c r=>simp only [List.length_drop,List.length_cons];omega
theorem psL_end (l:List UInt8) (acc:List Prm) (m:Nat) (h:l.head?≠some 59):psL l acc m=some (acc,m):=by
 rw [psL,dif_neg h]
theorem psL_none (l:List UInt8) (acc:List Prm) (m:Nat) (h:l.head? = some 59) (h2:parL (l.drop 1)=none):psL l acc m=none:=by
 rw [psL,dif_pos h,h2]
theorem psL_some (l:List UInt8) (acc:List Prm) (m:Nat) (p:Prm) (n:Nat) (h:l.head? = some 59) (h2:parL (l.drop 1)=some (p,n)):psL l acc m=psL (l.drop (1+n)) (putL acc p) (m+1+n):=by
 rw [psL,dif_pos h,h2]
def cellsP (p:Prm):List Value:=[.string (strB p.key),.int .i64 p.k,.int .i64 p.n,.string (strB p.s)]
def rowP (ps:List Prm):List Value:=ps.flatMap cellsP
theorem rowP_len (ps:List Prm):(rowP ps).length=ps.length*4:=by
 induction ps with
 | nil=>rfl
 | cons p ps ih =>
  unfold rowP at ih ⊢
  rw [List.flatMap_cons,List.length_append,ih,List.length_cons]
  show 4+_=_
  omega
theorem rowP_snoc (ps:List Prm) (p:Prm):rowP (ps++[p])=rowP ps++cellsP p:=by
 simp [rowP,List.flatMap_append]
theorem rowP_set:∀(ps:List Prm) (i:Nat) (p:Prm),i<ps.length→rowP (ps.set i p)=((((rowP ps).set (i*4) (.string (strB p.key))).set (i*4+1) (.int .i64 p.k)).set (i*4+2) (.int .i64 p.n)).set (i*4+3) (.string (strB p.s))
 | [],i,_,h=>by simp at h
 | q :: ps,0,p,_=>by
  rw [List.set_cons_zero]
  unfold rowP
  rw [List.flatMap_cons,List.flatMap_cons]
  rfl
 | q :: ps,i+1,p,h=>by
  rw [List.set_cons_succ]
  have ih:=rowP_set ps i p (by simpa using h)
  unfold rowP at ih ⊢
  rw [List.flatMap_cons,ih,List.flatMap_cons]
  have e:∀(j:Nat) (l:List Value) (v:Value),(cellsP q++l).set ((i+1)*4+j) v=cellsP q++l.set (i*4+j) v:=by
   intro j l v
   rw [List.set_append,if_neg (by show ¬_<4;omega)]
   congr 2
   show(i+1)*4+j-4=_
   omega
  have e0:=e 0
  simp only [Nat.add_zero]at e0
  rw [e0,e 1,e 2,e 3]
theorem ownsRow_moved {w w':World} {b base:Nat} {e:TypeId} {size:Nat} {v:Value} {n:Nat} {xs:List Value} (h:w.ownsRow base e size v n xs) (hm:Moved b w w') (hb:b<base):w'.ownsRow base e size v n xs:=by
 obtain⟨h1,h2⟩:=h
 refine⟨h1,?_⟩
 rcases h2 with h2 | ⟨g,cap,cur,hv,hg,hh,r⟩
 ·exact Or.inl h2
 ·exact Or.inr ⟨g,cap,cur,hv,hg,by rw [hm.block g (Array.getElem?_eq_some_iff.1 hh).1 (by omega)];exact hh,r⟩
theorem ownsMap_moved {H:Type} {w w':World} {P:Program} {k:TypeId} {R:Value→Option (DataW H×List MemPlace)} {b c n:Nat} {D:DataW H} (h:w.ownsMap P k R c n D) (hm:Moved b w w') (hb:c≠b):w'.ownsMap P k R c n D:=by
 have hlt:=h.lt
 obtain⟨es,clock,hh,F,hs,hD⟩:=h
 exact⟨es,clock,(hm.block c hlt hb).trans hh,F,hs,hD⟩
theorem Moved.grown {b:Nat} {w W V:World} {row:Option Nat} (h:Moved b w W) (hg:W.grownBy V row) (hr:∀k,row=some k→w.heap.size≤k):Moved b w V:=
 ⟨hg.os.trans h.os,hg.tape.trans h.tape,hg.output.trans h.output,Nat.le_trans h.size hg.size,fun k hk hb=>(hg.block k (Nat.lt_of_lt_of_le hk h.size) (fun e=>by have:=hr k e.symm;omega)).trans (h.block k hk hb)⟩
theorem Par.grown {W V:World} {b:Nat} {t:ByteArray} {k:Nat} {row:Option Nat} (h:Par W b t k) (hg:W.grownBy V row) (hb:some b≠row):Par V b t k:=by
 have hbl:=hg.block b h.lt hb
 have hc:∀o,V.cell? ⟨b,o,none⟩=W.cell? ⟨b,o,none⟩:=fun o=>World.cell?_of_block (w:=W) (a:=⟨b,o,none⟩) hbl
 have hf:∀o,V.frozen? ⟨b,o,none⟩=W.frozen? ⟨b,o,none⟩:=fun o=>World.frozen?_of_block (w:=W) (a:=⟨b,o,none⟩) hbl
 exact⟨(hc 0).trans h.text,(hc 1).trans h.at_,(hf 0).trans h.f0,(hf 1).trans h.f1⟩
def PlaceOf (D:DataW Unit) (ks:List (List UInt8)):Prop:=
 IsMap D∧∀k,Maps.has D (.string k)=decide (k∈ks)∧(k∈ks→∀z,D.atKey (.string k) z=.lit (.int .i64 (idxL ks k:Int)))
theorem placeOf_none:PlaceOf (.map []) []:=⟨isMap_empty,fun k=>⟨by simp [Maps.has],fun h=>by simp at h⟩⟩
theorem placeOf_put {D:DataW Unit} {ks:List (List UInt8)} (h:PlaceOf D ks) (k:List UInt8) (hk:k∉ks):PlaceOf (D.put (.string k) (.lit (.int .i64 (ks.length:Int)))) (ks++[k]):=by
  obtain⟨h1,h2⟩:=h
  refine⟨h1.put _ _,fun q=>?_⟩
  by_cases hq:q=k
  · subst hq
    refine⟨?_,fun _ z=>?_⟩
    · rw [has_put_same h1 (show WideAt.IsKeyLit (.string q)from trivial)];simp
    · rw [atKey_put_same h1 (show WideAt.IsKeyLit (.string q)from trivial)]
      have:idxL (ks++[q]) q=ks.length:=by
        unfold idxL
        rw [List.findIdx_append]
        have hn:¬ks.findIdx (·==q)<ks.length:=fun hlt=>hk ((idxL_lt ks q).1 hlt)
        rw [if_neg hn]
        simp [List.findIdx_cons]
      rw [this]
  · have hne:(Lit.string q)≠.string k:=by simpa using hq
    refine⟨?_,fun hm z=>?_⟩
    · rw [has_put_other hne,(h2 q).1]
      simp [hq]
    · have hm2:q∈ks:=by simpa [hq] using hm
      rw [atKey_put_other hne,(h2 q).2 hm2]
      have:idxL (ks++[k]) q=idxL ks q:=by
        unfold idxL
        rw [List.findIdx_append,if_pos (show List.findIdx _ ks<ks.length from(idxL_lt ks q).2 hm2)]
      rw [this]
open Go.WideMaps (keyOf_string_mk)
theorem info_param:(Tryz.prog.info? 215).map (fun i=>(i.zero,i.size,i.bytes))=some (some (.agg #[.string ⟨#[]⟩,.int .i64 0,.int .i64 0,.string ⟨#[]⟩]),4,48):=by kernel_rfl
theorem keyStr:Keyed Tryz.prog 9:=string_keyed Tryz.underlying9
theorem zeroInt (w:World):(zeroValue 3).run Tryz.prog w=.ok (.int .i64 0) w:=by kernel_rfl
theorem parL_key (l:List UInt8) (p:Prm) (n:Nat) (h:parL l=some (p,n)):p.key.length≤l.length:=by
 have hk:∀(q:List UInt8) (j:Nat),((l.drop j).take (klen q)).length≤l.length:=fun q j=>by
  rw [List.length_take,List.length_drop];omega
 unfold parL at h
 split at h
 ·cases h
 ·split at h
  ·split at h
   ·cases h
   ·have:=congrArg (fun o=>o.map (fun x=>x.1.key)) h
    simp only [Option.map_some,Option.some.injEq]at this
    rw [← this];exact hk _ _
  ·have:=congrArg (fun o=>o.map (fun x=>x.1.key)) h
   simp only [Option.map_some,Option.some.injEq]at this
   rw [← this];exact hk _ _
def parsPost (o:Option (List Prm×Nat)) (b:Nat) (t:ByteArray) (k:Nat) (w:World) (e:Ending) (w':World):Prop:=
 Moved b w w'∧match o with
  | none=>e=.returned (.tuple #[.slice none 0 0,.int .i64 2])
  | some (ps,m)=>∃v,e=.returned (.tuple #[v,.int .i64 0])∧w'.ownsRow w.heap.size 215 4 v ps.length (rowP ps)∧Par w' b t (k+m)
theorem ownsRow_low {w:World} {base B:Nat} {e:TypeId} {size:Nat} {v:Value} {n:Nat} {xs:List Value} (h:w.ownsRow base e size v n xs) (hB:B≤base):w.ownsRow B e size v n xs:=by
 obtain⟨h1,h2⟩:=h
 refine⟨h1,?_⟩
 rcases h2 with h2 | ⟨g,cap,cur,hv,hg,r⟩
 ·exact .inl h2
 ·exact .inr ⟨g,cap,cur,hv,Nat.le_trans hB hg,r⟩
theorem owns_slice {w:World} {base:Nat} {e:TypeId} {size:Nat} {v:Value} {n:Nat} {xs:List Value} (h:w.ownsRow base e size v n xs) (hn:0<n):∃g cap,v=.slice (some ⟨g,0,none⟩) n cap∧base≤g∧g<w.heap.size∧n≤cap:=by
 rcases h.2 with ⟨_,h2⟩ | ⟨g,cap,cur,hv,hg,hh,hc,_⟩
 ·omega
 ·exact⟨g,cap,hv,hg,(Array.getElem?_eq_some_iff.1 hh).1,hc⟩
theorem owns_form {w:World} {base:Nat} {e:TypeId} {size:Nat} {v:Value} {n:Nat} {xs:List Value} (h:w.ownsRow base e size v n xs):∃ao cap,v=.slice ao n cap:=by
 rcases h.2 with ⟨hv,h2⟩ | ⟨g,cap,cur,hv,_⟩
 ·exact⟨none,0,by rw [hv,h2]⟩
 ·exact⟨_,cap,hv⟩
theorem owns_cell {w:World} {base:Nat} {e:TypeId} {size n g cap:Nat} {xs:List Value} (h:w.ownsRow base e size (.slice (some ⟨g,0,none⟩) n cap) n xs) (j:Nat) (hj:j<n*size):∃u,w.cell? ⟨g,j,none⟩=some u∧w.frozen? ⟨g,j,none⟩=false:=by
 have h1:=h.cellAt j hj
 have h2:j<xs.length:=by rw [h.1];exact hj
 exact⟨xs[j],by rw [h1,List.getElem?_eq_getElem h2],h.frozenAt j⟩
theorem keys_set (acc:List Prm) (p:Prm) (i:Nat) (hie:idxL (acc.map Prm.key) p.key=i) (hix:i<acc.length):(acc.set i p).map Prm.key=acc.map Prm.key:=by
  have hm:i<(acc.map Prm.key).length:=by simpa using hix
  have hk:(acc.map Prm.key)[i]=p.key:=by
    have h1:(acc.map Prm.key).findIdx (·==p.key)<(acc.map Prm.key).length:=by
      show idxL _ _<_
      rw [hie];exact hm
    have:=List.findIdx_getElem (w:=h1)
    have e:(acc.map Prm.key).findIdx (·==p.key)=i:=hie
    simp only [e,beq_iff_eq]at this
    exact this
  rw [List.map_set,← hk,List.set_getElem_self]
theorem grown_cell {W V:World} {row:Option Nat} (hg:W.grownBy V row) {c:Nat} (hc:c<W.heap.size) (hne:some c≠row) (o:Nat):V.cell? ⟨c,o,none⟩=W.cell? ⟨c,o,none⟩:=
 World.cell?_of_block (w:=W) (a:=⟨c,o,none⟩) (hg.block c hc hne)
theorem own_ne {w:World} {base c:Nat} {e:TypeId} {size:Nat} {v:Value} {n:Nat} {xs:List Value} (h:w.ownsRow base e size v n xs) (hc:c<base):some c≠v.ownBlock:=by
 intro e1
 have:=(World.ownsRow.lt h c e1.symm).1
 omega
theorem params_any (b:Nat) (t:ByteArray) (k:Nat) (w:World) (h:Par w b t k) (ht:t.size≤100000) (hk:k≤t.size) (hA:Alph w) (hAb:6≠b) :
  Calls Tryz.prog 202 #[.pointer (some ⟨b,0,none⟩)] w (parsPost (psL (t.data.toList.drop k) [] 0) b t k w):=by
 obtain⟨i0,hi,hz0,hz1,hz2⟩:=info_parts info_param
 have hbl:=h.lt
 have HA:=zH hA
 have HP0:=zH (h.alloc (.map #[] 0))
 have HM0:=zH ((Moved.refl b w).alloc (.map #[] 0))
 have Hmap0:=zH (World.ownsMap_made (H:=Unit) w Tryz.prog 9 (plainElem Tryz.prog 3))
 have hmm:=@run_makeMap Tryz.prog
 clear hA h
 go_enter Tryz.func202,Tryz.ntmps202
 go_wp2_with fail
 clear hmm
 go_loopw [4] (fun v wr=>∃(K:Nat) (acc:List Prm) (D:DataW Unit),k≤K∧K≤t.size∧acc.length≤K∧Hid (psL (t.data.toList.drop k) [] 0=psL (t.data.toList.drop K) acc (K-k))∧Par wr b t K∧Moved b w wr∧wr.ownsRow (w.heap.size+1) 215 4 v acc.length (rowP acc)∧wr.ownsMap Tryz.prog 9 (plainElem Tryz.prog 3) w.heap.size acc.length D∧Hid (PlaceOf D (acc.map Prm.key))) (fun _ wr=>t.size-atOf wr b)
 case atStart=>exact⟨k,[],.map [],zR _,hk,Nat.zero_le _,zH (by rw [Nat.sub_self]),HP0.out,HM0.out,World.ownsRow_nil _ _ _ _,Hmap0.out,zH placeOf_none⟩
 case round =>
  obtain⟨K,acc,D,hkK,hK,hal,H,hP,hM,hown,hmap,HD⟩:=hrel
  clear HP0 HM0 Hmap0
  have hP1:=zH hP
  have hM1:=zH hM
  by_cases h59:(t.data.toList.drop K).head? = some 59
  ·have cT:=take_yes b t K 59 _ hP ht h59
   have hKs:K+1≤t.size:=by
    by_cases hlt:K<t.size
    ·omega
    ·rw [List.drop_of_length_le (by rw [← Lib.size_eq];omega)]at h59;cases h59
   have hown1:=zH hown
   have hmap1:=zH hmap
   have hdrop:(t.data.toList.drop K).drop 1=t.data.toList.drop (K+1):=by rw [List.drop_drop]
   clear hP hM hown hmap
   go_wp2_with fail
   refine cT.mono ?_
   rintro e w1 ⟨rfl,hP2,hM2⟩
   have hMw1:=hM1.out.trans hM2
   have cV:=param_any b t (K+1) w1 hP2 ht hKs (HA.out.moved hMw1 hAb) hAb
   have HO1:=zH (ownsRow_moved hown1.out hM2 (by omega))
   have HT1:=zH (ownsMap_moved hmap1.out hM2 (by omega))
   have HM1:=zH hMw1
   have HPK:=zH hP2
   clear cT hM2 hMw1 hP2 hown1 hmap1
   cases hp:parL (t.data.toList.drop (K+1))with
   | none =>
    rw [psL_none _ _ _ h59 (by rw [hdrop,hp])]at H
    rw [hp]at cV
    clear hp h59 hdrop
    go_wp2_with fail
    refine cV.mono ?_
    rintro e w2 ⟨rfl,hM3,_⟩
    have hM4:=HM1.out.trans hM3
    simp only [prmV]
    clear cV hM3
    go_wp2_with fail
    go_ret2
    refine⟨hM4.alloc _,?_⟩
    rw [H.out]
    rfl
   | some pn =>
    obtain⟨p,n⟩:=pn
    have hkl:=parL_key _ p n hp
    rw [List.length_drop,← Lib.size_eq]at hkl
    rw [psL_some _ _ _ p n h59 (by rw [hdrop,hp]),List.drop_drop]at H
    rw [hp]at cV
    have hkey:keyOf Tryz.prog 9 (.string (strB p.key))=some (.string p.key):=keyOf_string_mk Tryz.underlying9 (by rw [strB_size];unfold maxLen;omega)
    have Hkey:=zH hkey
    clear hp h59 hdrop hkey
    go_wp2_with fail
    refine cV.mono ?_
    rintro e w2 ⟨rfl,hM3,K3,hK3,hP3,hadv⟩
    obtain rfl:K3=K+1+n:=hadv _ rfl
    have hM4:=HM1.out.trans hM3
    have hO2:=ownsRow_moved HO1.out hM3 (by omega)
    have hT2:=ownsMap_moved HT1.out hM3 (by omega)
    have hw2:w.heap.size<w2.heap.size:=hT2.lt
    simp only [prmV]
    have HM4:=zH hM4
    have HP4:=zH hP3
    have HO2:=zH hO2
    have hT3:=hT2.alloc (.cells #[.string (strB p.key),.int .i64 p.k,.int .i64 p.n,.string (strB p.s)] 215)
    have HT3:=zH hT3
    have HT2:=zH hT2
    clear cV hM3 hadv hM4 hO2 hT2 hP3 HO1 HT1 HM1 hT3
    by_cases hmem:p.key∈acc.map Prm.key
    ·have hhas:Maps.has D (.string p.key)=true:=by rw [(HD.out.2 p.key).1];simpa using hmem
     have hix:idxL (acc.map Prm.key) p.key<acc.length:=by have:=(idxL_lt _ _).2 hmem;simpa using this
     have hat0:=(HD.out.2 p.key).2 hmem (.lit (.int .i64 0))
     obtain⟨i,hie⟩:∃i,idxL (acc.map Prm.key) p.key=i:=⟨_,rfl⟩
     rw [hie]at hix hat0
     have Hat0:=zH hat0
     have Hie:=zH hie
     clear hat0 hie hmem
     have Hhas:=zH hhas
     clear hhas
     obtain⟨g,cap,rfl,hgB,hg2,hcap⟩:=owns_slice HO2.out (by omega)
     obtain⟨u0,a0,f0⟩:=owns_cell HO2.out (i*4) (by omega)
     obtain⟨u1,a1,f1⟩:=owns_cell HO2.out (i*4+1) (by omega)
     obtain⟨u2,a2,f2⟩:=owns_cell HO2.out (i*4+2) (by omega)
     obtain⟨u3,a3,f3⟩:=owns_cell HO2.out (i*4+3) (by omega)
     have hixI:(i:Int)<(acc.length:Int):=by omega
     go_wp2_with (at_lookup;refine wpList_lookup_own_ok_int _ rfl _ _ 183 rfl 9 3 .i64 keyStr Tryz.underlying183 Tryz.underlying3 (zeroInt _) w.heap.size acc.length _ rfl HT3.out _ _ rfl Hkey.out ?_;intro c hat hwc;have hc:c=(i:Int):=(by have:=hat.symm.trans Hat0.out;simpa using this);subst hc;rw [Hhas.out];clear hat hwc)
     go_roundw
     case rel =>
      have s0:=HO2.out.stored (i*4) (.string (strB p.key))
      have s1:=s0.1.stored (i*4+1) (.int .i64 p.k)
      have s2:=s1.1.stored (i*4+2) (.int .i64 p.n)
      have s3:=s2.1.stored (i*4+3) (.string (strB p.s))
      have hne:some w.heap.size≠some g:=by simp;omega
      have m0:=(((HT2.out.kept s0.2 hne).kept s1.2 hne).kept s2.2 hne).kept s3.2 hne
      have hgb:g≠b:=by omega
      refine⟨K+1+n,acc.set i p,D,by omega,hK3,by rw [List.length_set];omega,zH ?_,?_,?_,?_,?_,zH ?_⟩
      ·rw [H.out,show K+(1+n)=K+1+n by omega,show K-k+1+n=K+1+n-k by omega,putL,Hie.out,if_pos hix]
      ·exact((((HP4.out.other hgb _).other hgb _).other hgb _).other hgb _).alloc _
      ·exact((((HM4.out.setNew (by omega) _).setNew (by omega) _).setNew (by omega) _).setNew (by omega) _).alloc _
      ·rw [List.length_set,rowP_set acc i p hix]
       exact s3.1.alloc _
      ·rw [List.length_set]
       exact m0.alloc _
      ·rw [keys_set acc p i Hie.out hix]
       exact HD.out
     case measure =>
      have e1:atOf ((((((w2.setCell ⟨g,i*4,none⟩ (.string (strB p.key))).setCell ⟨g,i*4+1,none⟩ (.int .i64 p.k)).setCell ⟨g,i*4+2,none⟩ (.int .i64 p.n)).setCell ⟨g,i*4+3,none⟩ (.string (strB p.s))).alloc (.cells #[.string (strB p.key),.int .i64 p.k,.int .i64 p.n,.string (strB p.s)] 215))) b=K+1+n:=
       (((((HP4.out.other (by omega) _).other (by omega) _).other (by omega) _).other (by omega) _).alloc _).atOf
      rw [e1,hP1.out.atOf]
      omega
    ·have hhas:Maps.has D (.string p.key)=false:=by rw [(HD.out.2 p.key).1];simpa using hmem
     have Hhas:=zH hhas
     have Hmem:=zH hmem
     obtain⟨ao,cap,rfl⟩:=owns_form HO2.out
     have hO3:=HO2.out.alloc (.cells #[.string (strB p.key),.int .i64 p.k,.int .i64 p.n,.string (strB p.s)] 215)
     have HO3:=zH hO3
     clear hhas hmem hO3
     go_wp2_with (first | (at_lookup;refine wpList_lookup_own_ok_int _ rfl _ _ 183 rfl 9 3 .i64 keyStr Tryz.underlying183 Tryz.underlying3 (zeroInt _) w.heap.size acc.length _ rfl HT3.out _ _ rfl Hkey.out ?_;intro c hat hwc;rw [Hhas.out];clear hat hwc) | (at_mapUpdate;refine wpList_mapUpdate_own _ rfl _ _ _ 183 rfl 9 3 keyStr Tryz.underlying183 _ w.heap.size acc.length _ rfl HT3.out (by unfold maxLen;omega) _ _ _ rfl rfl Hkey.out _ [] (plainElem_int Tryz.underlying3 (WalkArith.wf_i64 (by omega))) ?_;intro w4 hmap4 hgrow4;have hO4:=HO3.out.kept hgrow4 (.inr (Ne.symm (own_ne HO3.out (Nat.lt_succ_self _))));have hw4:=hgrow4.size;have e0:=grown_cell hgrow4 (c:=w2.heap.size) (by simp) (by simp;omega) 0;have e1:=grown_cell hgrow4 (c:=w2.heap.size) (by simp) (by simp;omega) 1;have e2:=grown_cell hgrow4 (c:=w2.heap.size) (by simp) (by simp;omega) 2;have e3:=grown_cell hgrow4 (c:=w2.heap.size) (by simp) (by simp;omega) 3) | (at_builtin;refine wpList_append_own _ rfl _ _ 114 rfl (w.heap.size+1) 215 i0 (.agg #[.string ⟨#[]⟩,.int .i64 0,.int .i64 0,.string ⟨#[]⟩]) 4 48 Tryz.underlying114 hi hz0 hz1 hz2 rfl (by decide) _ _ _ rfl (hO4.alloc _) ⟨_,0,none⟩ 1 1 (cellsP p) rfl rfl (cells_new _ _ _) (by simp [Value.oneCell',cellsP]) (by unfold maxLen;omega) (by omega) (by simp at hw4;simp;omega) ?_;intro v' w5 hown5 hgrow5 _))
     have hPf:Par w5 b t (K+1+n):=((((HP4.out.alloc _).grown hgrow4 (by simp;omega)).alloc _).grown hgrow5 (own_ne hO4 (by omega)))
     go_roundw
     case rel =>
      have hnix:¬idxL (acc.map Prm.key) p.key<acc.length:=by
       intro h1
       exact Hmem.out ((idxL_lt _ _).1 (by simpa using h1))
      refine⟨K+1+n,acc++[p],D.put (.string p.key) (.lit (.int .i64 (acc.length:Int))),by omega,hK3,by simp;omega,zH ?_,hPf,?_,?_,?_,zH ?_⟩
      ·rw [H.out,show K+(1+n)=K+1+n by omega,show K-k+1+n=K+1+n-k by omega,putL,if_neg hnix]
      ·exact(((HM4.out.alloc _).grown hgrow4 (fun k e=>by cases e;exact zR _)).alloc _).grown hgrow5 (fun k e=>Nat.le_trans (Nat.le_succ _) (World.ownsRow.lt hO4 k e).1)
      ·rw [rowP_snoc,List.length_append]
       exact hown5
      ·rw [List.length_append]
       exact(hmap4.alloc _).kept hgrow5 (own_ne hO4 (Nat.lt_succ_self _))
      ·have:=placeOf_put HD.out p.key Hmem.out
       rw [List.length_map]at this
       rw [List.map_append]
       exact this
     case measure =>
      rw [hPf.atOf,hP1.out.atOf]
      omega
  ·have cT:=take_no b t K 59 _ hP ht hK h59
   rw [psL_end _ _ _ h59]at H
   clear hP hM h59
   go_wp2_with fail
   refine cT.mono ?_
   rintro e w1 ⟨rfl,hP2,hM2⟩
   have hown1:=zH (ownsRow_low (ownsRow_moved hown hM2 (by omega)) (Nat.le_succ w.heap.size))
   clear cT hown hmap
   go_wp2_with fail
   go_ret2
   refine⟨hM1.out.trans hM2,?_⟩
   rw [H.out]
   exact⟨_,rfl,hown1.out,by rw [show k+(K-k)=K by omega];exact hP2⟩
end Go.Proofs.YtfaedmbfabfmeaaGreatDoor
namespace Go.Proofs.YtfaedmbfabfmeaaGreatDoor
open Go.RowKit
abbrev zeroItem:Obj:=.cells #[.int .i64 0,.int .i64 0,.string ⟨#[]⟩,.slice none 0 0] 116
structure ResI (W:World) (c:Nat):Prop where
 r0:W.cell? ⟨c,0,none⟩=some (.int .i64 0)
 r1:W.cell? ⟨c,1,none⟩=some (.int .i64 0)
 r2:W.cell? ⟨c,2,none⟩=some (.string ⟨#[]⟩)
 r3:W.cell? ⟨c,3,none⟩=some (.slice none 0 0)
 g0:W.frozen? ⟨c,0,none⟩=false
 g1:W.frozen? ⟨c,1,none⟩=false
 g2:W.frozen? ⟨c,2,none⟩=false
 g3:W.frozen? ⟨c,3,none⟩=false
theorem ResI.made (w:World):ResI (w.alloc zeroItem) w.heap.size:=⟨by simp,by simp,by simp,by simp,by simp,by simp,by simp,by simp⟩
theorem ResI.lt {W:World} {c:Nat} (h:ResI W c):c<W.heap.size:=lt_of_cell h.r0
theorem ResI.moved {W W1:World} {b c:Nat} (h:ResI W c) (hm:Moved b W W1) (hc:c≠b):ResI W1 c:=
 ⟨(hm.cell (p:=⟨c,0,none⟩) h.lt hc).trans h.r0,(hm.cell (p:=⟨c,1,none⟩) h.lt hc).trans h.r1,(hm.cell (p:=⟨c,2,none⟩) h.lt hc).trans h.r2,(hm.cell (p:=⟨c,3,none⟩) h.lt hc).trans h.r3,(hm.frozen (p:=⟨c,0,none⟩) h.lt hc).trans h.g0,(hm.frozen (p:=⟨c,1,none⟩) h.lt hc).trans h.g1,(hm.frozen (p:=⟨c,2,none⟩) h.lt hc).trans h.g2,(hm.frozen (p:=⟨c,3,none⟩) h.lt hc).trans h.g3⟩
def itmL (l:List UInt8):Option (Got×List Prm×Nat):=match readL l with
 | none=>none
 | some g=>match psL (l.drop g.m) [] 0 with
  | none=>none
  | some (ps,m)=>some (g,ps,g.m+m)
def itmPost (o:Option (Got×List Prm×Nat)) (b:Nat) (t:ByteArray) (k:Nat) (w:World) (e:Ending) (w':World):Prop:=
 Moved b w w'∧match o with
  | none=>e=.returned (.tuple #[.agg #[.int .i64 0,.int .i64 0,.string ⟨#[]⟩,.slice none 0 0],.int .i64 2])
  | some (g,ps,m)=>∃v,e=.returned (.tuple #[.agg #[.int .i64 g.k,.int .i64 g.n,.string (strB g.s),v],.int .i64 0])∧w'.ownsRow w.heap.size 215 4 v ps.length (rowP ps)∧Par w' b t (k+m)
theorem item_any (b:Nat) (t:ByteArray) (k:Nat) (w:World) (h:Par w b t k) (ht:t.size≤100000) (hk:k≤t.size) (hA:Alph w) (hAb:6≠b) :
  Calls Tryz.prog 220 #[.pointer (some ⟨b,0,none⟩)] w (itmPost (itmL (t.data.toList.drop k)) b t k w):=by
 have hbl:=h.lt
 have hbn:b≠w.heap.size:=by omega
 have HA:=zH hA
 have HM0:=zH ((Moved.refl b w).alloc zeroItem)
 have HR0:=zH (ResI.made w)
 have cV:=value_any b t k (w.alloc zeroItem) (h.alloc _) ht hk (hA.moved HM0.out hAb)
 have ho:∀g,readL (t.data.toList.drop k)=some g→k+g.m≤t.size:=by
  intro g hg
  have:=(readL_right _ g hg).2.2.1
  rw [List.length_drop,← Lib.size_eq]at this
  omega
 clear hA h
 cases hrd:readL (t.data.toList.drop k)with
 | none =>
  have hI:itmL (t.data.toList.drop k)=none:=by rw [itmL,hrd]
  rw [hI]
  rw [hrd]at cV
  simp only [valV]at cV
  clear hrd ho hI
  go_enter Tryz.func220,Tryz.ntmps220
  go_wp2_with fail
  refine cV.mono ?_
  rintro e w1 ⟨rfl,_,hM1⟩
  have hMw:=HM0.out.trans hM1
  have hR1:=HR0.out.moved hM1 (Ne.symm hbn)
  have hlt1:=hR1.lt
  obtain⟨r0,r1,r2,r3,g0,g1,g2,g3⟩:=hR1
  clear cV hM1 HM0 HR0
  go_wp2_with fail
  refine bodyPost_ret (v:=.tuple #[.agg #[.int .i64 0,.int .i64 0,.string ⟨#[]⟩,.slice none 0 0],.int .i64 2]) (by simp [results,Tryz.results220,go_sem,r0,r1,r2,r3,hlt1]) rfl ⟨?_,rfl⟩
  repeat(first | with_reducible refine Moved.alloc ?_ _ | (with_reducible refine Moved.setNew ?_ (by omega) _) | with_reducible refine Moved.setCell ?_ _)
  exact hMw
 | some g =>
  have hg2:=ho g hrd
  obtain⟨gk,gn,gs,gm⟩:=g
  simp only at hg2
  rw [hrd]at cV
  simp only [valV,advL]at cV
  have hI:itmL (t.data.toList.drop k)=match psL (t.data.toList.drop (k+gm)) [] 0 with
    | none=>none
    | some (ps,m)=>some (⟨gk,gn,gs,gm⟩,ps,gm+m):=by rw [itmL,hrd];simp only [List.drop_drop]
  rw [hI]
  clear hI hrd ho
  obtain⟨S,hS⟩:∃S,strB gs=S:=⟨_,rfl⟩
  have HS:=zH hS
  rw [hS]at cV
  clear hS
  cases hps:psL (t.data.toList.drop (k+gm)) [] 0 with
  | none =>
   go_enter Tryz.func220,Tryz.ntmps220
   go_wp2_with fail
   refine cV.mono ?_
   rintro e w1 ⟨rfl,hP1,hM1⟩
   have hMw:=HM0.out.trans hM1
   have hR1:=HR0.out.moved hM1 (Ne.symm hbn)
   have cS:=params_any b t (k+gm) (w1.alloc (.cells #[.int .i64 gk,.int .i64 gn,.string S] 113)) (hP1.alloc _) ht hg2 (HA.out.moved (hMw.alloc _) hAb) hAb
   rw [hps]at cS
   have HM1:=zH hMw
   have HR1:=zH hR1
   clear cV hM1 HM0 HR0 hps hMw hR1 hP1
   go_wp2_with fail
   refine cS.mono ?_
   rintro e w2 ⟨hM2,rfl⟩
   have hMw:=(HM1.out.alloc _).trans hM2
   have hR2:=(HR1.out.moved ((Moved.refl b w1).alloc _) (Ne.symm hbn)).moved hM2 (Ne.symm hbn)
   have hlt2:=hR2.lt
   obtain⟨r0,r1,r2,r3,g0,g1,g2,g3⟩:=hR2
   clear cS hM2 HM1 HR1
   go_wp2_with fail
   refine bodyPost_ret (v:=.tuple #[.agg #[.int .i64 0,.int .i64 0,.string ⟨#[]⟩,.slice none 0 0],.int .i64 2]) (by simp [results,Tryz.results220,go_sem,r0,r1,r2,r3]) rfl ⟨?_,rfl⟩
   repeat(first | with_reducible refine Moved.alloc ?_ _ | (with_reducible refine Moved.setNew ?_ (by omega) _) | with_reducible refine Moved.setCell ?_ _)
   exact hMw
  | some pm =>
   obtain⟨ps,m⟩:=pm
   go_enter Tryz.func220,Tryz.ntmps220
   go_wp2_with fail
   refine cV.mono ?_
   rintro e w1 ⟨rfl,hP1,hM1⟩
   have hMw:=HM0.out.trans hM1
   have hR1:=HR0.out.moved hM1 (Ne.symm hbn)
   have cS:=params_any b t (k+gm) (w1.alloc (.cells #[.int .i64 gk,.int .i64 gn,.string S] 113)) (hP1.alloc _) ht hg2 (HA.out.moved (hMw.alloc _) hAb) hAb
   rw [hps]at cS
   have HM1:=zH hMw
   have HR1:=zH hR1
   have hlt1:w.heap.size<w1.heap.size:=hR1.lt
   clear cV hM1 HM0 HR0 hps hMw hR1 hP1
   go_wp2_with fail
   refine cS.mono ?_
   rintro e w2 ⟨hM2,v,rfl,hown,hP2⟩
   have hMw:=(HM1.out.alloc _).trans hM2
   have hR2:=(HR1.out.moved ((Moved.refl b w1).alloc _) (Ne.symm hbn)).moved hM2 (Ne.symm hbn)
   have hlt2:=hR2.lt
   have hcb:=hM2.cell (p:=⟨w1.heap.size,0,none⟩) (by simp) (by have:=hM2;simp;omega)
   have hcb1:=hM2.cell (p:=⟨w1.heap.size,1,none⟩) (by simp) (by simp;omega)
   have hcb2:=hM2.cell (p:=⟨w1.heap.size,2,none⟩) (by simp) (by simp;omega)
   simp at hcb hcb1 hcb2
   obtain⟨r0,r1,r2,r3,g0,g1,g2,g3⟩:=hR2
   obtain⟨ao,cap,rfl⟩:=owns_form hown
   have HO:=zH hown
   have HP2:=zH hP2
   clear cS hM2 HM1 HR1 hown hP2
   go_wp2_with fail
   refine bodyPost_ret (v:=.tuple #[.agg #[.int .i64 gk,.int .i64 gn,.string S,.slice ao ps.length cap],.int .i64 0]) (by simp [results,Tryz.results220,go_sem,r0,r1,r2,r3]) rfl ?_
   refine⟨?_,_,by rw [HS.out],?_,?_⟩
   ·repeat(first | with_reducible refine Moved.alloc ?_ _ | (with_reducible refine Moved.setNew ?_ (by omega) _) | with_reducible refine Moved.setCell ?_ _)
    exact hMw
   ·refine ownsRow_low (ownsRow_moved HO.out (b:=w.heap.size) ?_ (by simp;omega)) (by simp;omega)
    repeat(with_reducible refine Moved.setCell ?_ _)
    exact Moved.refl _ _
   ·repeat(with_reducible refine Par.other ?_ (by omega) _)
    rw [← Nat.add_assoc]
    exact HP2.out
theorem parserOf_any (s:ByteArray) (w:World) :
  Calls Tryz.prog 201 #[.string s] w fun e w'=>e=.returned (.agg #[.string s,.int .i64 0])∧Below w.heap.size w w':=by
 go_enter Tryz.func201,Tryz.ntmps201
 go_wp2
 exact bodyPost_ret (v:=.agg #[.string s,.int .i64 0]) (by simp [results,Tryz.results201,go_sem]) rfl ⟨rfl,(Below.refl _ _).alloc (zR _) _⟩
theorem Par.made (w:World) (t:ByteArray):Par (w.alloc (.cells #[.string t,.int .i64 0] 247)) w.heap.size t 0:=⟨by simp,by simp,by simp,by simp⟩
theorem parL_le (l:List UInt8) (p:Prm) (n:Nat) (h:parL l=some (p,n)):n≤l.length:=by
 have hs:=spc_le l
 have hk:=klen_le (l.drop (spcL l))
 rw [List.length_drop]at hk
 unfold parL at h
 split at h
 ·cases h
 ·split at h
  ·rename_i h61
   have hlt:spcL l+klen (l.drop (spcL l))<l.length:=by
    by_cases hc:spcL l+klen (l.drop (spcL l))<l.length
    ·exact hc
    ·rw [List.drop_of_length_le (by omega)]at h61;cases h61
   split at h
   ·cases h
   ·rename_i g hg
    have hm:=(readL_right _ g hg).2.2.1
    rw [List.length_drop]at hm
    have:=congrArg (fun o=>o.map (fun x=>x.2)) h
    simp only [Option.map_some,Option.some.injEq]at this
    omega
  ·have:=congrArg (fun o=>o.map (fun x=>x.2)) h
   simp only [Option.map_some,Option.some.injEq]at this
   omega
theorem psL_le (n:Nat):∀(l:List UInt8) (acc:List Prm) (m:Nat) (ps:List Prm) (k:Nat),l.length≤n→psL l acc m=some (ps,k)→k≤m+l.length:=by
 induction n with
 | zero =>
  intro l acc m ps k hl h
  have:l=[]:=List.eq_nil_of_length_eq_zero (by omega)
  subst this
  rw [psL_end _ _ _ (by simp)]at h
  have:=congrArg (fun o=>o.map (fun x=>x.2)) h
  simp only [Option.map_some,Option.some.injEq]at this
  omega
 | succ n ih =>
  intro l acc m ps k hl h
  by_cases h59:l.head? = some 59
  ·cases hp:parL (l.drop 1)with
   | none=>rw [psL_none _ _ _ h59 hp]at h;cases h
   | some pn =>
    obtain⟨p,j⟩:=pn
    have hj:=parL_le _ p j hp
    have hlen:1≤l.length:=by
     cases l with
     | nil=>simp at h59
     | cons c r=>simp
    rw [List.length_drop]at hj
    rw [psL_some _ _ _ p j h59 hp]at h
    have:=ih (l.drop (1+j)) (putL acc p) (m+1+j) ps k (by rw [List.length_drop];omega) h
    rw [List.length_drop]at this
    omega
  ·rw [psL_end _ _ _ h59]at h
   have:=congrArg (fun o=>o.map (fun x=>x.2)) h
   simp only [Option.map_some,Option.some.injEq]at this
   omega
theorem itmL_le (l:List UInt8) (g:Got) (ps:List Prm) (m:Nat) (h:itmL l=some (g,ps,m)):m≤l.length:=by
 unfold itmL at h
 split at h
 ·cases h
 ·rename_i g' hg
  have h1:=(readL_right _ g' hg).2.2.1
  split at h
  ·cases h
  ·rename_i ps' m' hp
   have h2:=psL_le _ _ _ _ _ _ (zR _) hp
   rw [List.length_drop]at h2
   have:=congrArg (fun o=>o.map (fun x=>x.2.2)) h
   simp only [Option.map_some,Option.some.injEq]at this
   omega
end Go.Proofs.YtfaedmbfabfmeaaGreatDoor
namespace Go.Proofs.YtfaedmbfabfmeaaGreatDoor
open Go.RowKit Go.Maps
open Go.WideMaps (keyOf_string_mk)
def Prms (w:World) (v:Value) (ps:List Prm):Prop:=
 ∃ao cap,v=.slice ao ps.length cap∧(ps=[]∨∃b off,ao=some ⟨b,off,none⟩∧∀j u,(rowP ps)[j]? = some u→w.cell? ⟨b,off+j,none⟩=some u)
theorem Prms.of_own {w:World} {base:Nat} {e:TypeId} {v:Value} {ps:List Prm} (h:w.ownsRow base e 4 v ps.length (rowP ps)):Prms w v ps:=by
 rcases h.2 with ⟨hv,h2⟩ | ⟨g,cap,cur,hv,hg,hh,hc,hr⟩
 ·have:ps=[]:=List.eq_nil_of_length_eq_zero h2
  subst this
  exact⟨none,0,hv,.inl rfl⟩
 ·refine⟨_,cap,hv,.inr ⟨g,0,rfl,fun j u hu=>?_⟩⟩
  have:=World.ownsRow.cells h (g:=g) (by rw [hv]<;>rfl) j u hu
  rw [add_none]at this
  rw [Nat.zero_add];exact this
theorem Prms.below {w W:World} {v:Value} {ps:List Prm} (h:Prms w v ps) (hb:Below w.heap.size w W):Prms W v ps:=by
 obtain⟨ao,cap,hv,h⟩:=h
 refine⟨ao,cap,hv,?_⟩
 rcases h with h | ⟨b,off,ha,h⟩
 ·exact .inl h
 ·exact .inr ⟨b,off,ha,fun j u hu=>by have:=h j u hu;exact(hb.cell (p:=⟨b,off+j,none⟩) (lt_of_cell this)).trans this⟩
theorem rowP_at:∀(ps:List Prm) (i:Nat) (p:Prm),ps[i]? = some p→(rowP ps)[i*4]? = some (.string (strB p.key))∧(rowP ps)[i*4+1]? = some (.int .i64 p.k)∧(rowP ps)[i*4+2]? = some (.int .i64 p.n)∧(rowP ps)[i*4+3]? = some (.string (strB p.s))
 | [],i,p,h=>by simp at h
 | q :: ps,0,p,h=>by
  simp only [List.getElem?_cons_zero,Option.some.injEq]at h
  subst h
  unfold rowP
  rw [List.flatMap_cons]
  exact⟨rfl,rfl,rfl,rfl⟩
 | q :: ps,i+1,p,h=>by
  have ih:=rowP_at ps i p (by simpa using h)
  unfold rowP at ih ⊢
  rw [List.flatMap_cons]
  have e:∀j,(cellsP q++ps.flatMap cellsP)[(i+1)*4+j]? = (ps.flatMap cellsP)[i*4+j]?:=by
   intro j
   rw [List.getElem?_append_right (by show 4≤_;omega)]
   congr 1
   show(i+1)*4+j-4=_
   omega
  have e0:=e 0
  simp only [Nat.add_zero]at e0
  rw [e0,e 1,e 2,e 3]
  exact ih
def eqK (ps:List Prm):Bool:=!decide (ps.map Prm.key).Nodup
structure Itm where
 k:Int
 n:Int
 s:List UInt8
 ps:List Prm
def PrmsOff (lo:Nat) (blk:Option Nat) (w:World) (v:Value) (ps:List Prm):Prop:=
 ∃ao cap,v=.slice ao ps.length cap∧(ps=[]∨∃b off,ao=some ⟨b,off,none⟩∧lo≤b∧some b≠blk∧b<w.heap.size∧∀j u,(rowP ps)[j]? = some u→w.cell? ⟨b,off+j,none⟩=some u)
theorem PrmsOff.prms {lo:Nat} {blk:Option Nat} {w:World} {v:Value} {ps:List Prm} (h:PrmsOff lo blk w v ps):Prms w v ps:=by
 obtain⟨ao,cap,hv,hc⟩:=h
 rcases hc with hc | ⟨b,off,h1,_,_,_,h2⟩
 ·exact⟨ao,cap,hv,.inl hc⟩
 ·exact⟨ao,cap,hv,.inr ⟨b,off,h1,h2⟩⟩
theorem PrmsOff.grown {lo:Nat} {blk:Option Nat} {w w':World} {v:Value} {ps:List Prm} (h:PrmsOff lo blk w v ps) (hg:w.grownBy w' blk):PrmsOff lo blk w' v ps:=by
 obtain⟨ao,cap,hv,hc⟩:=h
 rcases hc with hc | ⟨b,off,h1,h0,h2,h3,h4⟩
 ·exact⟨ao,cap,hv,.inl hc⟩
 ·exact⟨ao,cap,hv,.inr ⟨b,off,h1,h0,h2,Nat.lt_of_lt_of_le h3 hg.size,fun j u hj=>(grown_cell hg h3 h2 _).trans (h4 j u hj)⟩⟩
theorem PrmsOff.below {lo:Nat} {blk:Option Nat} {w w':World} {v:Value} {ps:List Prm} (h:PrmsOff lo blk w v ps) (hb:Below w.heap.size w w'):PrmsOff lo blk w' v ps:=by
 obtain⟨ao,cap,hv,hc⟩:=h
 rcases hc with hc | ⟨b,off,h1,h0,h2,h3,h4⟩
 ·exact⟨ao,cap,hv,.inl hc⟩
 ·exact⟨ao,cap,hv,.inr ⟨b,off,h1,h0,h2,Nat.lt_of_lt_of_le h3 hb.size,fun j u hj=>(hb.cell (p:=⟨b,off+j,none⟩) h3).trans (h4 j u hj)⟩⟩
theorem PrmsOff.elsewhere {lo:Nat} {blk:Option Nat} {w:World} {v:Value} {ps:List Prm} (h:PrmsOff lo blk w v ps) (g:Nat) (hg:blk=some g∨w.heap.size≤g):PrmsOff lo (some g) w v ps:=by
 obtain⟨ao,cap,hv,hc⟩:=h
 rcases hc with hc | ⟨b,off,h1,h0,h2,h3,h4⟩
 ·exact⟨ao,cap,hv,.inl hc⟩
 ·refine⟨ao,cap,hv,.inr ⟨b,off,h1,h0,?_,h3,h4⟩⟩
  rcases hg with rfl | hg
  ·exact h2
  ·intro e
   have:=Option.some.inj e
   omega
theorem PrmsOff.low {lo lo':Nat} {blk:Option Nat} {w:World} {v:Value} {ps:List Prm} (h:PrmsOff lo blk w v ps) (hl:lo'≤lo):PrmsOff lo' blk w v ps:=by
 obtain⟨ao,cap,hv,hc⟩:=h
 rcases hc with hc | ⟨b,off,h1,h0,h2,h3,h4⟩
 ·exact⟨ao,cap,hv,.inl hc⟩
 ·exact⟨ao,cap,hv,.inr ⟨b,off,h1,Nat.le_trans hl h0,h2,h3,h4⟩⟩
theorem PrmsOff.avoid {lo:Nat} {blk blk':Option Nat} {w:World} {v:Value} {ps:List Prm} (h:PrmsOff lo blk w v ps) (hb:∀g,blk'=some g→g<lo):PrmsOff lo blk' w v ps:=by
 obtain⟨ao,cap,hv,hc⟩:=h
 rcases hc with hc | ⟨b,off,h1,h0,h2,h3,h4⟩
 ·exact⟨ao,cap,hv,.inl hc⟩
 ·exact⟨ao,cap,hv,.inr ⟨b,off,h1,h0,fun e=>by have:=hb b e.symm;omega,h3,h4⟩⟩
theorem PrmsOff.nothing (lo:Nat) (blk:Option Nat) (w:World):PrmsOff lo blk w (.slice none 0 0) []:=⟨none,0,rfl,.inl rfl⟩
theorem PrmsOff.made {lo:Nat} {blk:Option Nat} {w:World} {v:Value} {ps:List Prm} {base:Nat} {e:TypeId} (h:w.ownsRow base e 4 v ps.length (rowP ps)) (hlo:lo≤base) (hb:∀g,blk=some g→g<base):PrmsOff lo blk w v ps:=by
 rcases h.2 with ⟨hv,h2⟩ | ⟨g,cap,cur,hv,hg,hh,hc,hr⟩
 ·obtain⟨ao,cap,hv2,hc⟩:=Prms.of_own h
  rw [hv]at hv2 ⊢
  obtain⟨rfl,hl,rfl⟩:=Value.slice.inj hv2
  exact⟨none,0,by rw [← hl],.inl (List.eq_nil_of_length_eq_zero hl.symm)⟩
 ·obtain⟨ao,cap2,hv2,hc2⟩:=Prms.of_own h
  refine⟨ao,cap2,hv2,?_⟩
  rcases hc2 with hc2 | ⟨b,off,h1,h2⟩
  ·exact .inl hc2
  ·by_cases hps:ps=[]
   ·exact .inl hps
   ·rw [hv]at hv2
    obtain⟨hao,_,_⟩:=Value.slice.inj hv2
    rw [h1]at hao
    obtain⟨rfl,rfl,_⟩:=Addr.mk.inj (Option.some.inj hao)
    have hlt:=(World.ownsRow.lt h g (by rw [hv]<;>rfl)).2
    exact .inr ⟨g,0,h1,Nat.le_trans hlo hg,fun e=>by have:=hb g e.symm;omega,hlt,h2⟩
def cellsI (x:Itm) (u:Value):List Value:=[.int .i64 x.k,.int .i64 x.n,.string (strB x.s),u]
def rowI:List (Itm×Value)→List Value
 | []=>[]
 | (x,u) :: r=>cellsI x u++rowI r
theorem rowI_snoc (l:List (Itm×Value)) (x:Itm) (u:Value):rowI (l++[(x,u)])=rowI l++cellsI x u:=by
 induction l with
 | nil=>simp [rowI]
 | cons y r ih =>
  obtain⟨y,v⟩:=y
  rw [List.cons_append,rowI,rowI,ih,List.append_assoc]
theorem rowI_at:∀(l:List (Itm×Value)) (i:Nat) (x:Itm) (u:Value),l[i]? = some (x,u)→(rowI l)[i*4]? = some (.int .i64 x.k)∧(rowI l)[i*4+1]? = some (.int .i64 x.n)∧(rowI l)[i*4+2]? = some (.string (strB x.s))∧(rowI l)[i*4+3]? = some u
 | [],i,x,u,h=>by simp at h
 | (y,v) :: l,0,x,u,h=>by
  obtain⟨rfl,rfl⟩:=Prod.mk.inj (Option.some.inj h)
  exact⟨rfl,rfl,rfl,rfl⟩
 | (y,v) :: l,i+1,x,u,h=>by
  have:=rowI_at l i x u h
  rw [rowI]
  have e:∀j,(cellsI y v++rowI l)[(i+1)*4+j]? = (rowI l)[i*4+j]?:=fun j=>by
   rw [List.getElem?_append_right (by simp [cellsI];omega)]
   congr 1
   simp [cellsI];omega
  have e0:=e 0
  rw [Nat.add_zero,Nat.add_zero]at e0
  rw [e0,e 1,e 2,e 3]
  exact this
def ItmsOff (lo:Nat) (blk:Option Nat) (w:World) (v:Value) (xs:List Itm):Prop:=
 ∃ao cap,v=.slice ao xs.length cap∧(xs=[]∨∃b off,ao=some ⟨b,off,none⟩∧lo≤b∧some b≠blk∧b<w.heap.size∧∀j x,xs[j]? = some x→∃u,(w.cell? ⟨b,off+j*4,none⟩=some (.int .i64 x.k)∧w.cell? ⟨b,off+j*4+1,none⟩=some (.int .i64 x.n)∧w.cell? ⟨b,off+j*4+2,none⟩=some (.string (strB x.s))∧w.cell? ⟨b,off+j*4+3,none⟩=some u)∧PrmsOff lo blk w u x.ps)
theorem ItmsOff.nothing (lo:Nat) (blk:Option Nat) (w:World):ItmsOff lo blk w (.slice none 0 0) []:=⟨none,0,rfl,.inl rfl⟩
theorem ItmsOff.below {lo:Nat} {blk:Option Nat} {w w':World} {v:Value} {xs:List Itm} (h:ItmsOff lo blk w v xs) (hb:Below w.heap.size w w'):ItmsOff lo blk w' v xs:=by
 obtain⟨ao,cap,hv,hc⟩:=h
 rcases hc with hc | ⟨b,off,h1,h0,h2,h3,h4⟩
 ·exact⟨ao,cap,hv,.inl hc⟩
 ·refine⟨ao,cap,hv,.inr ⟨b,off,h1,h0,h2,Nat.lt_of_lt_of_le h3 hb.size,fun j x hx=>?_⟩⟩
  obtain⟨u,⟨c0,c1,c2,c3⟩,hp⟩:=h4 j x hx
  have hk:∀i,w'.cell? ⟨b,i,none⟩=w.cell? ⟨b,i,none⟩:=fun i=>hb.cell (p:=⟨b,i,none⟩) h3
  exact⟨u,⟨(hk _).trans c0,(hk _).trans c1,(hk _).trans c2,(hk _).trans c3⟩,hp.below hb⟩
theorem ItmsOff.grown {lo:Nat} {blk:Option Nat} {w w':World} {v:Value} {xs:List Itm} (h:ItmsOff lo blk w v xs) (hg:w.grownBy w' blk):ItmsOff lo blk w' v xs:=by
 obtain⟨ao,cap,hv,hc⟩:=h
 rcases hc with hc | ⟨b,off,h1,h0,h2,h3,h4⟩
 ·exact⟨ao,cap,hv,.inl hc⟩
 ·refine⟨ao,cap,hv,.inr ⟨b,off,h1,h0,h2,Nat.lt_of_lt_of_le h3 hg.size,fun j x hx=>?_⟩⟩
  obtain⟨u,⟨c0,c1,c2,c3⟩,hp⟩:=h4 j x hx
  have hk:∀i,w'.cell? ⟨b,i,none⟩=w.cell? ⟨b,i,none⟩:=fun i=>grown_cell hg h3 h2 i
  exact⟨u,⟨(hk _).trans c0,(hk _).trans c1,(hk _).trans c2,(hk _).trans c3⟩,hp.grown hg⟩
theorem ItmsOff.low {lo lo':Nat} {blk:Option Nat} {w:World} {v:Value} {xs:List Itm} (h:ItmsOff lo blk w v xs) (hl:lo'≤lo):ItmsOff lo' blk w v xs:=by
 obtain⟨ao,cap,hv,hc⟩:=h
 rcases hc with hc | ⟨b,off,h1,h0,h2,h3,h4⟩
 ·exact⟨ao,cap,hv,.inl hc⟩
 ·refine⟨ao,cap,hv,.inr ⟨b,off,h1,Nat.le_trans hl h0,h2,h3,fun j x hx=>?_⟩⟩
  obtain⟨u,hc,hp⟩:=h4 j x hx
  exact⟨u,hc,hp.low hl⟩
theorem ItmsOff.avoid {lo:Nat} {blk blk':Option Nat} {w:World} {v:Value} {xs:List Itm} (h:ItmsOff lo blk w v xs) (hb:∀g,blk'=some g→g<lo):ItmsOff lo blk' w v xs:=by
 obtain⟨ao,cap,hv,hc⟩:=h
 rcases hc with hc | ⟨b,off,h1,h0,h2,h3,h4⟩
 ·exact⟨ao,cap,hv,.inl hc⟩
 ·refine⟨ao,cap,hv,.inr ⟨b,off,h1,h0,fun e=>by have:=hb b e.symm;omega,h3,fun j x hx=>?_⟩⟩
  obtain⟨u,hc,hp⟩:=h4 j x hx
  exact⟨u,hc,hp.avoid hb⟩
theorem ItmsOff.form {lo:Nat} {blk:Option Nat} {w:World} {v:Value} {xs:List Itm} (h:ItmsOff lo blk w v xs):∃ao cap,v=.slice ao xs.length cap:=by
 obtain⟨ao,cap,hv,_⟩:=h
 exact⟨ao,cap,hv⟩
theorem PrmsOff.form {lo:Nat} {blk:Option Nat} {w:World} {v:Value} {ps:List Prm} (h:PrmsOff lo blk w v ps):∃ao cap,v=.slice ao ps.length cap:=by
 obtain⟨ao,cap,hv,_⟩:=h
 exact⟨ao,cap,hv⟩
theorem PrmsOff.moved {lo c:Nat} {blk:Option Nat} {w w':World} {v:Value} {ps:List Prm} (h:PrmsOff lo blk w v ps) (hm:Moved c w w') (hc:c<lo):PrmsOff lo blk w' v ps:=by
 obtain⟨ao,cap,hv,hh⟩:=h
 rcases hh with hh | ⟨b,off,h1,h0,h2,h3,h4⟩
 ·exact⟨ao,cap,hv,.inl hh⟩
 ·exact⟨ao,cap,hv,.inr ⟨b,off,h1,h0,h2,Nat.lt_of_lt_of_le h3 hm.size,fun j u hj=>(hm.cell (p:=⟨b,off+j,none⟩) h3 (by show b≠c;omega)).trans (h4 j u hj)⟩⟩
theorem ItmsOff.moved {lo c:Nat} {blk:Option Nat} {w w':World} {v:Value} {xs:List Itm} (h:ItmsOff lo blk w v xs) (hm:Moved c w w') (hc:c<lo):ItmsOff lo blk w' v xs:=by
 obtain⟨ao,cap,hv,hh⟩:=h
 rcases hh with hh | ⟨b,off,h1,h0,h2,h3,h4⟩
 ·exact⟨ao,cap,hv,.inl hh⟩
 ·refine⟨ao,cap,hv,.inr ⟨b,off,h1,h0,h2,Nat.lt_of_lt_of_le h3 hm.size,fun j x hx=>?_⟩⟩
  obtain⟨u,⟨c0,c1,c2,c3⟩,hp⟩:=h4 j x hx
  have hk:∀i,w'.cell? ⟨b,i,none⟩=w.cell? ⟨b,i,none⟩:=fun i=>hm.cell (p:=⟨b,i,none⟩) h3 (by show b≠c;omega)
  exact⟨u,⟨(hk _).trans c0,(hk _).trans c1,(hk _).trans c2,(hk _).trans c3⟩,hp.moved hm hc⟩
def OwnI (T:TypeId) (w:World) (base:Nat) (v:Value) (xs:List Itm):Prop:=
 ∃us:List Value,us.length=xs.length∧w.ownsRow base T 4 v xs.length (rowI (xs.zip us))∧∀(j:Nat) (u:Value) (x:Itm),us[j]? = some u→xs[j]? = some x→PrmsOff base v.ownBlock w u x.ps
theorem owns_cells {w:World} {base:Nat} {e:TypeId} {size n g cap:Nat} {xs:List Value} (h:w.ownsRow base e size (.slice (some ⟨g,0,none⟩) n cap) n xs) (j:Nat) (u:Value) (hj:xs[j]? = some u):w.cell? ⟨g,j,none⟩=some u:=by
 have:=World.ownsRow.cells h (g:=g) rfl j u hj
 rw [add_none]at this
 exact this
theorem OwnI.nothing (T:TypeId) (w:World) (base:Nat):OwnI T w base (.slice none 0 0) []:=⟨[],rfl,World.ownsRow_nil _ _ _ _,fun j u x h=>by simp at h⟩
theorem OwnI.below {T:TypeId} {w w':World} {base:Nat} {v:Value} {xs:List Itm} (h:OwnI T w base v xs) (hb:Below w.heap.size w w'):OwnI T w' base v xs:=by
 obtain⟨us,h1,h2,h3⟩:=h
 exact⟨us,h1,ownsRow_later h2 hb,fun j u x hu hx=>(h3 j u x hu hx).below hb⟩
theorem OwnI.low {T:TypeId} {w:World} {base B:Nat} {v:Value} {xs:List Itm} (h:OwnI T w base v xs) (hB:B≤base):OwnI T w B v xs:=by
 obtain⟨us,h1,h2,h3⟩:=h
 exact⟨us,h1,ownsRow_low h2 hB,fun j u x hu hx=>(h3 j u x hu hx).low hB⟩
theorem OwnI.snoc {T:TypeId} {w w1:World} {base:Nat} {v u:Value} {xs:List Itm} {x:Itm} {us:List Value} {g cap:Nat} (h1:us.length=xs.length) (h3:∀(j:Nat) (u:Value) (x:Itm),us[j]? = some u→xs[j]? = some x→PrmsOff base v.ownBlock w u x.ps) (hu:PrmsOff base v.ownBlock w u x.ps)
  (hown:w1.ownsRow base T 4 (.slice (some ⟨g,0,none⟩) (xs.length+1) cap) (xs.length+1) (rowI (xs.zip us)++cellsI x u)) (hg:w.grownBy w1 v.ownBlock) (hat:v.ownBlock=some g∨g=w.heap.size):OwnI T w1 base (.slice (some ⟨g,0,none⟩) (xs.length+1) cap) (xs++[x]):=by
 have hoff:∀u' ps,PrmsOff base v.ownBlock w u' ps→PrmsOff base (some g) w1 u' ps:=fun u' ps hp=>by
  rcases hat with hat | hat
  ·have:=hp.grown hg
   rw [hat]at this
   exact this
  ·obtain⟨ao,c2,hv,hc⟩:=hp
   rcases hc with hc | ⟨b,off,q1,q0,q2,q3,q4⟩
   ·exact⟨ao,c2,hv,.inl hc⟩
   ·refine⟨ao,c2,hv,.inr ⟨b,off,q1,q0,?_,Nat.lt_of_lt_of_le q3 hg.size,fun j u hj=>(grown_cell hg q3 q2 _).trans (q4 j u hj)⟩⟩
    intro e
    have:=Option.some.inj e
    omega
 refine⟨us++[u],by simp [h1],?_,?_⟩
 ·rw [List.length_append,List.zip_append h1.symm]
  show w1.ownsRow base T 4 _ (xs.length+1) (rowI (xs.zip us++[(x,u)]))
  rw [rowI_snoc]
  exact hown
 ·intro j u' x' hu' hx'
  rw [List.getElem?_append]at hu' hx'
  show PrmsOff base (some g) w1 u' x'.ps
  by_cases hj:j<us.length
  ·rw [if_pos hj]at hu'
   rw [if_pos (by omega)]at hx'
   exact hoff _ _ (h3 j u' x' hu' hx')
  ·rw [if_neg hj]at hu'
   rw [if_neg (by omega)]at hx'
   have hj0:j-us.length=0:=by
    have:=(List.getElem?_eq_some_iff.1 hu').1
    simp only [List.length_singleton]at this
    omega
   rw [hj0]at hu'
   rw [← h1,hj0]at hx'
   obtain rfl:=Option.some.inj hu'
   obtain rfl:=Option.some.inj hx'
   exact hoff _ _ hu
theorem OwnI.off {T:TypeId} {w:World} {base:Nat} {v:Value} {xs:List Itm} {blk:Option Nat} (h:OwnI T w base v xs) (hb:∀g,blk=some g→g<base):ItmsOff base blk w v xs:=by
 obtain⟨us,h1,h2,h3⟩:=h
 rcases h2.2 with ⟨hv,hz⟩ | ⟨g,cap,cur,hv,hg,hh,hc,hr⟩
 ·obtain⟨ao,cap,hv2⟩:=owns_form h2
  rw [hv]at hv2 ⊢
  obtain⟨rfl,hl,rfl⟩:=Value.slice.inj hv2
  exact⟨none,0,by rw [← hl],.inl (List.eq_nil_of_length_eq_zero hl.symm)⟩
 ·by_cases hxs:xs=[]
  ·obtain⟨ao,cap2,hv2⟩:=owns_form h2
   exact⟨ao,cap2,hv2,.inl hxs⟩
  ·have hlt:=(World.ownsRow.lt h2 g (by rw [hv]<;>rfl)).2
   have hn:0<xs.length:=List.length_pos_iff.2 hxs
   obtain⟨g2,cap2,hv2,_,_,_⟩:=owns_slice h2 hn
   refine⟨_,cap2,hv2,.inr ⟨g2,0,rfl,?_⟩⟩
   rw [hv]at hv2
   obtain⟨hao,_,_⟩:=Value.slice.inj hv2
   obtain⟨rfl,_,_⟩:=Addr.mk.inj (Option.some.inj hao)
   refine⟨hg,fun e=>by have:=hb g e.symm;omega,hlt,fun j x hx=>?_⟩
   have hjl:j<us.length:=by rw [h1];exact(List.getElem?_eq_some_iff.1 hx).1
   obtain⟨u,hu⟩:∃u,us[j]? = some u:=⟨_,List.getElem?_eq_getElem hjl⟩
   have hz:(xs.zip us)[j]? = some (x,u):=by rw [List.getElem?_zip_eq_some];exact⟨hx,hu⟩
   obtain⟨x0,x1,x2,x3⟩:=rowI_at _ j x u hz
   rw [hv]at h2
   have hcell:=owns_cells h2
   simp only [Nat.zero_add]
   exact⟨u,⟨hcell _ _ x0,hcell _ _ x1,hcell _ _ x2,hcell _ _ x3⟩,(h3 j u x hu hx).avoid hb⟩
def psPost (o:Option (List Prm×Nat)) (w:World) (e:Ending) (w':World):Prop:=
 Below w.heap.size w w'∧match o with
  | none=>e=.returned (.tuple #[.slice none 0 0,.int .i64 0,.int .i64 2])
  | some (ps,m)=>∃v,e=.returned (.tuple #[v,.int .i64 (m:Int),.int .i64 0])∧w'.ownsRow w.heap.size 215 4 v ps.length (rowP ps)
theorem iparams_any (s:ByteArray) (w:World) (hs:s.size≤100000) (hA:Alph w) :
  Calls Tryz.prog 165 #[.string s] w (psPost (psL s.data.toList [] 0) w):=by
 have hgl:6<w.heap.size:=lt_of_cell (hA 0 (by decide))
 have HA:=zH hA
 clear hA
 go_enter Tryz.func165,Tryz.ntmps165
 go_wp2_with fail
 refine(parserOf_any _ _).mono ?_
 rintro e w2 ⟨rfl,hb2⟩
 have hz2:=hb2.size
 have cI:=params_any w2.heap.size s 0 (w2.alloc (.cells #[.string s,.int .i64 0] 247)) (Par.made w2 s) hs (Nat.zero_le _) (HA.out.below (hb2.alloc hb2.size _)) (by omega)
 rw [List.drop_zero]at cI
 have HB2:=zH (hb2.alloc hb2.size (.cells #[.string s,.int .i64 0] 247))
 clear hb2
 cases hit:psL s.data.toList [] 0 with
 | none =>
  rw [hit]at cI
  have HL:=zH hit
  clear hit
  go_wp2_with fail
  refine cI.mono ?_
  rintro e w3 ⟨hM3,rfl⟩
  have hB3:=HB2.out.trans (hM3.below (by omega) (by simp;omega))
  clear cI hM3 HB2
  go_wp2_with fail
  refine bodyPost_ret (v:=.tuple #[.slice none 0 0,.int .i64 0,.int .i64 2]) (by simp [results,Tryz.results165,go_sem]) rfl ?_
  rw [HL.out]
  exact⟨hB3,rfl⟩
 | some x =>
  obtain⟨ps,m⟩:=x
  rw [hit]at cI
  have HL:=zH hit
  clear hit
  go_wp2_with fail
  refine cI.mono ?_
  rintro e w3 ⟨hM3,v,rfl,hown,hP3⟩
  rw [Nat.zero_add]at hP3
  obtain⟨ao,cap,rfl⟩:=owns_form hown
  have hB3:=HB2.out.trans (hM3.below (by omega) (by simp;omega))
  have c1:=hP3.at_
  have hw:=ownsRow_low hown (show w.heap.size≤_ by simp;omega)
  have HO:=zH hw
  clear cI hM3 HB2 hP3 hown hw
  go_wp2_with fail
  go_quiet (fail)
  go_wp2_with fail
  refine bodyPost_ret (v:=.tuple #[.slice ao ps.length cap,.int .i64 (m:Int),.int .i64 0]) (by simp [results,Tryz.results165,go_sem]) rfl ?_
  rw [HL.out]
  refine⟨hB3.trans ((below_drewN _ _).mono hB3.size),_,rfl,?_⟩
  exact ownsRow_later HO.out (below_drewN _ _)
theorem Moved.drew1 {b:Nat} {w W:World} (h:Moved b w W):Moved b w W.drew:=⟨h.os,h.tape,h.output,h.size,h.block⟩
def ireadPost (o:Option (Got×List Prm×Nat)) (w:World) (e:Ending) (w':World):Prop:=
 Below w.heap.size w w'∧match o with
  | none=>e=.returned (.tuple #[.agg #[.int .i64 0,.int .i64 0,.string ⟨#[]⟩,.slice none 0 0],.int .i64 0,.int .i64 2])
  | some (g,ps,m)=>∃v,e=.returned (.tuple #[.agg #[.int .i64 g.k,.int .i64 g.n,.string (strB g.s),v],.int .i64 (m:Int),.int .i64 0])∧w'.ownsRow w.heap.size 215 4 v ps.length (rowP ps)
theorem iread_any (s:ByteArray) (w:World) (hs:s.size≤100000) (hA:Alph w) :
  Calls Tryz.prog 200 #[.string s] w (ireadPost (itmL s.data.toList) w):=by
 have hgl:6<w.heap.size:=lt_of_cell (hA 0 (by decide))
 have HA:=zH hA
 have hb0:Below w.heap.size w (w.alloc zeroItem):=(Below.refl _ _).alloc (zR _) _
 have HR0:=zH (ResI.made w)
 clear hA
 go_enter Tryz.func200,Tryz.ntmps200
 go_wp2_with fail
 refine(parserOf_any _ _).mono ?_
 rintro e w2 ⟨rfl,hb2⟩
 have hbw:=hb0.trans (hb2.mono hb0.size)
 have hz2:w.heap.size<w2.heap.size:=by have:=hb2.size;simp at this;omega
 have hR2:=HR0.out.moved (Moved.of_below (b:=w2.heap.size) hb2) (by omega)
 have cI:=item_any w2.heap.size s 0 (w2.alloc (.cells #[.string s,.int .i64 0] 247)) (Par.made w2 s) hs (Nat.zero_le _) (HA.out.below (hbw.alloc hbw.size _)) (by omega)
 rw [List.drop_zero]at cI
 have HBw:=zH (hbw.alloc hbw.size (.cells #[.string s,.int .i64 0] 247))
 have HR2:=zH hR2
 clear hb2 hbw hR2 HR0 hb0
 cases hit:itmL s.data.toList with
 | none =>
  rw [hit]at cI
  have HL:=zH hit
  clear hit
  go_wp2_with fail
  refine cI.mono ?_
  rintro e w3 ⟨hM3,rfl⟩
  have hR3:=(HR2.out.moved ((Moved.refl w2.heap.size w2).alloc _) (by omega)).moved hM3 (by omega)
  have hB3:=HBw.out.trans (hM3.below (by omega) (by simp;omega))
  have hlt3:=hR3.lt
  obtain⟨r0,r1,r2,r3,g0,g1,g2,g3⟩:=hR3
  clear cI hM3 HBw HR2
  go_wp2_with fail
  refine bodyPost_ret (v:=.tuple #[.agg #[.int .i64 0,.int .i64 0,.string ⟨#[]⟩,.slice none 0 0],.int .i64 0,.int .i64 2]) (by simp [results,Tryz.results200,go_sem,r0,r1,r2,r3,hlt3]) rfl ?_
  rw [HL.out]
  refine⟨?_,rfl⟩
  repeat(first | with_reducible refine Below.alloc ?_ (by simp;omega) _ | with_reducible refine Below.setCell ?_ (by simp) _)
  exact hB3
 | some x =>
  obtain⟨⟨gk,gn,gs,gm⟩,ps,m⟩:=x
  rw [hit]at cI
  have HL:=zH hit
  clear hit
  go_wp2_with fail
  refine cI.mono ?_
  rintro e w3 ⟨hM3,v,rfl,hown,hP3⟩
  simp only
  generalize hSe:strB gs=S
  have HS:=zH hSe
  clear hSe
  rw [Nat.zero_add]at hP3
  obtain⟨ao,cap,rfl⟩:=owns_form hown
  have hR3:=(HR2.out.moved ((Moved.refl w2.heap.size w2).alloc _) (by omega)).moved hM3 (by omega)
  have hB3:=HBw.out.trans (hM3.below (by omega) (by simp;omega))
  have hlt3:=hR3.lt
  have hlt4:w2.heap.size<w3.heap.size:=hP3.lt
  obtain⟨r0,r1,r2,r3,g0,g1,g2,g3⟩:=hR3
  have c0:=hP3.text
  have c1:=hP3.at_
  have HO:=zH hown
  clear cI hM3 HBw HR2 hP3 hown
  go_wp2_with fail
  go_region
  all_goals
   go_wp2_with fail
   refine bodyPost_ret (v:=.tuple #[.agg #[.int .i64 gk,.int .i64 gn,.string S,.slice ao ps.length cap],.int .i64 (m:Int),.int .i64 0]) (by simp [results,Tryz.results200,go_sem,r0,r1,r2,r3,hlt3]) rfl ?_
   rw [HL.out]
   refine⟨?_,_,by rw [HS.out],?_⟩
   ·repeat(first | with_reducible refine Below.alloc ?_ (by simp;omega) _ | with_reducible refine Below.setCell ?_ (by simp) _ | with_reducible refine Below.drew ?_)
    exact hB3
   ·refine ownsRow_low (ownsRow_moved (HO.out) (b:=w.heap.size) ?_ (by simp;omega)) (by simp;omega)
    repeat(first | with_reducible refine Moved.drew1 ?_ | with_reducible refine Moved.alloc ?_ _ | with_reducible refine Moved.setCell ?_ _)
    exact Moved.refl _ _
end Go.Proofs.YtfaedmbfabfmeaaGreatDoor
namespace Go.Proofs.YtfaedmbfabfmeaaGreatDoor
open Go.RowKit
def pmT (p:Prm):Option (List UInt8):=
 if rightL p.k p.n p.s=true∧keyL p.key=true then
  some (if p.k=6∧p.n=1 then 59 :: p.key else 59 :: (p.key++61 :: textL p.k p.n p.s))
 else none
theorem pmT_one (p:Prm) (h1:rightL p.k p.n p.s=true) (h2:keyL p.key=true) (h3:p.k=6∧p.n=1):pmT p=some (59 :: p.key):=by
 rw [pmT,if_pos ⟨h1,h2⟩,if_pos h3]
theorem pmT_all (p:Prm) (h1:rightL p.k p.n p.s=true) (h2:keyL p.key=true) (h3:¬(p.k=6∧p.n=1)):pmT p=some (59 :: (p.key++61 :: textL p.k p.n p.s)):=by
 rw [pmT,if_pos ⟨h1,h2⟩,if_neg h3]
theorem cell_next {W W1:World} {b o:Nat} {v:Value} (hb:Below W.heap.size W W1) (h:W.cell? ⟨b,o,none⟩=some v):W1.cell? ⟨b,o,none⟩=some v:=
 (hb.cell (p:=⟨b,o,none⟩) (lt_of_cell h)).trans h
end Go.Proofs.YtfaedmbfabfmeaaGreatDoor
namespace Go.Proofs.YtfaedmbfabfmeaaGreatDoor
open Go.RowKit Go.Maps
def ppGo:List Prm→Option (List UInt8)
 | []=>some []
 | p :: ps=>match pmT p with
  | none=>none
  | some t=>(ppGo ps).map (t++·)
def ppT (ps:List Prm):Option (List UInt8):=if eqK ps=true then none else ppGo ps
theorem ppGo_some (p:Prm) (ps:List Prm) (t:List UInt8) (h:pmT p=some t):ppGo (p :: ps)=(ppGo ps).map (t++·):=by rw [ppGo,h]
def prT (k n:Int) (s:List UInt8) (ps:List Prm):Option (List UInt8):=
 if rightL k n s=true then(ppT ps).map (textL k n s++·)else none
end Go.Proofs.YtfaedmbfabfmeaaGreatDoor
namespace Go.Proofs.YtfaedmbfabfmeaaGreatDoor
open Go.RowKit
theorem takeWhile_app (f:UInt8→Bool):∀(l t:List UInt8),l.all f=true→(∀c,t.head? = some c→f c=false)→(l++t).takeWhile f=l
 | [],[],_,_=>rfl
 | [],c :: t,_,h=>by
  rw [List.nil_append,List.takeWhile_cons,if_neg (by rw [h c rfl];simp)]
 | c :: l,t,ha,h=>by
  rw [List.all_cons,Bool.and_eq_true]at ha
  rw [List.cons_append,List.takeWhile_cons,if_pos ha.1,takeWhile_app f l t ha.2 h]
theorem ppT_some (ps:List Prm) (u:List UInt8) (h:ppT ps=some u):(ps.map Prm.key).Nodup∧ppGo ps=some u:=by
 unfold ppT at h
 split at h
 ·cases h
 ·rename_i he
  refine⟨?_,h⟩
  unfold eqK at he
  simpa using he
theorem prT_some (k n:Int) (s u:List UInt8) (ps:List Prm) (h:prT k n s ps=some u):rightL k n s=true∧(ps.map Prm.key).Nodup∧∃v,ppGo ps=some v∧u=textL k n s++v:=by
 unfold prT at h
 split at h
 ·rename_i hr
  cases hp:ppT ps with
  | none=>rw [hp]at h;cases h
  | some v =>
   rw [hp]at h
   obtain rfl:=Option.some.inj h
   obtain⟨a,b⟩:=ppT_some ps v hp
   exact⟨hr,a,v,b,rfl⟩
 ·cases h
theorem keyL_take (l:List UInt8) (h:klen l≠0):keyL (l.take (klen l))=true:=by
 cases l with
 | nil=>exact absurd rfl h
 | cons c r =>
  rw [klen]at h ⊢
  split at h
  ·rename_i hb
   rw [if_pos hb]
   have ht:r.take (r.takeWhile (fun c=>ikI c.toNat)).length=r.takeWhile (fun c=>ikI c.toNat):=(List.prefix_iff_eq_take.1 (List.takeWhile_prefix _)).symm
   rw [Nat.add_comm,List.take_succ_cons,ht,keyL,klen,if_pos hb]
   have h2:(r.takeWhile (fun c=>ikI c.toNat)).takeWhile (fun c=>ikI c.toNat)=r.takeWhile (fun c=>ikI c.toNat):=by
    have:=takeWhile_app (fun c=>ikI c.toNat) (r.takeWhile (fun c=>ikI c.toNat)) [] List.all_takeWhile (by intro c hc;cases hc)
    rw [List.append_nil]at this
    exact this
   rw [h2,List.length_cons,Nat.add_comm]
   simp
  ·exact absurd rfl h
def OkP (N:Nat) (p:Prm):Prop:=rightL p.k p.n p.s=true∧keyL p.key=true∧p.key.length≤N∧p.s.length≤N
theorem parL_right (l:List UInt8) (p:Prm) (n:Nat) (h:parL l=some (p,n)):OkP l.length p:=by
 have hkl:=parL_key l p n h
 unfold parL at h
 split at h
 ·cases h
 ·rename_i hk
  split at h
  ·split at h
   ·cases h
   ·rename_i g hg
    have hr:=readL_right _ g hg
    have e:=congrArg (fun o=>o.map (fun x=>x.1)) h
    simp only [Option.map_some,Option.some.injEq]at e
    subst e
    refine⟨hr.1,keyL_take _ hk,hkl,?_⟩
    have:=hr.2.2.2
    rw [List.length_drop]at this
    show g.s.length≤_
    omega
  ·have e:=congrArg (fun o=>o.map (fun x=>x.1)) h
   simp only [Option.map_some,Option.some.injEq]at e
   subst e
   exact⟨(rfl:rightL 6 1 []=true),keyL_take _ hk,hkl,Nat.zero_le _⟩
theorem putL_mem (acc:List Prm) (p q:Prm) (h:q∈putL acc p):q=p∨q∈acc:=by
 unfold putL at h
 split at h
 ·rcases List.mem_or_eq_of_mem_set h with h | h
  ·exact .inr h
  ·exact .inl h
 ·rcases List.mem_append.1 h with h | h
  ·exact .inr h
  ·exact .inl (List.mem_singleton.1 h)
theorem putL_nodup (acc:List Prm) (p:Prm) (h:(acc.map Prm.key).Nodup):((putL acc p).map Prm.key).Nodup:=by
 unfold putL
 split
 ·rename_i hlt
  rw [keys_set acc p _ rfl hlt]
  exact h
 ·rename_i hlt
  rw [List.map_append,List.nodup_append]
  refine⟨h,by simp,?_⟩
  intro a ha b hb
  have:b=p.key:=by simpa using hb
  subst this
  rintro rfl
  have:=(idxL_lt _ _).2 ha
  rw [List.length_map]at this
  exact hlt this
theorem psL_right (N:Nat):∀(n:Nat) (l:List UInt8) (acc:List Prm) (m:Nat) (ps:List Prm) (k:Nat),l.length≤n→l.length≤N→(acc.map Prm.key).Nodup→(∀p∈acc,OkP N p)→psL l acc m=some (ps,k)→(ps.map Prm.key).Nodup∧(∀p∈ps,OkP N p)∧ps.length≤acc.length+l.length:=by
 intro n
 induction n with
 | zero =>
  intro l acc m ps k hl _ hn ha h
  have:l=[]:=List.eq_nil_of_length_eq_zero (by omega)
  subst this
  rw [psL_end _ _ _ (by simp)]at h
  have e:=congrArg (fun o=>o.map (fun x=>x.1)) h
  simp only [Option.map_some,Option.some.injEq]at e
  subst e
  exact⟨hn,ha,by simp⟩
 | succ n ih =>
  intro l acc m ps k hl hN hn ha h
  by_cases h59:l.head? = some 59
  ·cases hp:parL (l.drop 1)with
   | none=>rw [psL_none _ _ _ h59 hp]at h;cases h
   | some x =>
    obtain⟨p,j⟩:=x
    rw [psL_some _ _ _ _ _ h59 hp]at h
    have hlen:1≤l.length:=by
     cases l with
     | nil=>cases h59
     | cons=>simp
    have hq:=parL_right _ _ _ hp
    rw [List.length_drop]at hq
    obtain⟨r1,r2,r3⟩:=ih (l.drop (1+j)) (putL acc p) (m+1+j) ps k (by rw [List.length_drop];omega) (by rw [List.length_drop];omega) (putL_nodup _ _ hn) (by
     intro q hq2
     rcases putL_mem _ _ _ hq2 with rfl | hq2
     ·exact⟨hq.1,hq.2.1,by have:=hq.2.2.1;omega,by have:=hq.2.2.2;omega⟩
     ·exact ha q hq2) h
    refine⟨r1,r2,?_⟩
    have:=putL_len acc p
    rw [List.length_drop]at r3
    omega
  ·rw [psL_end _ _ _ h59]at h
   have e:=congrArg (fun o=>o.map (fun x=>x.1)) h
   simp only [Option.map_some,Option.some.injEq]at e
   subst e
   exact⟨hn,ha,by omega⟩
theorem pmT_right (p:Prm) (h1:rightL p.k p.n p.s=true) (h2:keyL p.key=true):∃u,pmT p=some u:=by
 by_cases h3:p.k=6∧p.n=1
 ·exact⟨_,pmT_one p h1 h2 h3⟩
 ·exact⟨_,pmT_all p h1 h2 h3⟩
theorem ppGo_right (N:Nat):∀(ps:List Prm),(∀p∈ps,OkP N p)→∃u,ppGo ps=some u
 | [],_=>⟨[],rfl⟩
 | p :: ps,h=>by
  obtain⟨u,hu⟩:=pmT_right p (h p (List.mem_cons_self ..)).1 (h p (List.mem_cons_self ..)).2.1
  obtain⟨v,hv⟩:=ppGo_right N ps (fun q hq=>h q (List.mem_cons_of_mem _ hq))
  exact⟨u++v,by rw [ppGo_some _ _ _ hu,hv]<;>rfl⟩
def szN:List Prm→Nat
 | []=>0
 | p :: ps=>p.key.length+p.s.length+1+szN ps
theorem szN_append:∀(ps qs:List Prm),szN (ps++qs)=szN ps+szN qs
 | [],_=>by simp [szN]
 | p :: ps,qs=>by rw [List.cons_append,szN,szN,szN_append ps qs];omega
theorem szN_set:∀(ps:List Prm) (i:Nat) (p:Prm),szN (ps.set i p)≤szN ps+(p.key.length+p.s.length+1)
 | [],_,_=>by simp [szN]
 | q :: ps,0,p=>by simp only [List.set_cons_zero,szN];omega
 | q :: ps,i+1,p=>by
  have:=szN_set ps i p
  simp only [List.set_cons_succ,szN];omega
theorem szN_put (acc:List Prm) (p:Prm):szN (putL acc p)≤szN acc+(p.key.length+p.s.length+1):=by
 unfold putL
 split
 ·exact szN_set _ _ _
 ·rw [szN_append];simp [szN]
theorem szN_len:∀ps:List Prm,ps.length≤szN ps
 | []=>zR _
 | p :: ps=>by
  have:=szN_len ps
  rw [szN,List.length_cons];omega
theorem rsL_used:∀(l acc:List UInt8) (m:Nat) (g:Got),rsL l acc m=some g→g.s.length+m≤acc.length+g.m
 | [],_,_,_,h=>by rw [rsL.eq_def]at h;cases h
 | [c],acc,m,g,h=>by
  by_cases h1:c=34
  ·subst h1
   rw [rsL_quote]at h
   obtain rfl:=Option.some.inj h
   show acc.length+m≤acc.length+(m+1)
   omega
  ·by_cases h2:c=92
   ·subst h2
    rw [rsL_esc_end]at h;cases h
   ·rw [rsL_other _ _ _ _ h1 h2]at h
    split at h
    ·rw [rsL.eq_def]at h;cases h
    ·cases h
 | c :: d :: q,acc,m,g,h=>by
  by_cases h1:c=34
  ·subst h1
   rw [rsL_quote]at h
   obtain rfl:=Option.some.inj h
   show acc.length+m≤acc.length+(m+1)
   omega
  ·by_cases h2:c=92
   ·subst h2
    rw [rsL_esc]at h
    split at h
    ·have r:=rsL_used q (acc++[d]) (m+2) g h
     simp only [List.length_append,List.length_cons,List.length_nil]at r
     omega
    ·cases h
   ·rw [rsL_other _ _ _ _ h1 h2]at h
    split at h
    ·have r:=rsL_used (d :: q) (acc++[c]) (m+1) g h
     simp only [List.length_append,List.length_cons,List.length_nil]at r
     omega
    ·cases h
theorem readL_used (l:List UInt8) (g:Got) (h:readL l=some g):g.s.length≤g.m:=by
 cases l with
 | nil=>cases h
 | cons c r =>
  unfold readL at h
  dsimp only at h
  split at h
  ·obtain⟨_,_,_,h4⟩:=readNumL_right _ g h
   rw [h4];simp
  ·split at h
   ·rw [readStrL,List.drop_one,List.tail_cons]at h
    have r:=rsL_used r [] 1 g h
    simp only [List.length_nil]at r
    omega
   ·split at h
    ·obtain rfl:=Option.some.inj h
     show((c :: r).take (tlen (c :: r))).length≤tlen (c :: r)
     rw [List.length_take];omega
    ·split at h
     ·unfold readBytesL at h
      rw [List.drop_one,List.tail_cons]at h
      split at h
      ·cases h
      ·rename_i hi
       obtain⟨i0,i1⟩:=index_le _ _ hi
       split at h
       ·cases h
       ·rename_i b hb
        obtain rfl:=Option.some.inj h
        have e:=congrArg List.length (decL_some _ _ hb)
        rw [encL_len,List.length_take]at e
        show b.length≤_+2
        omega
     ·split at h
      ·unfold readBoolL at h
       split at h
       ·split at h
        ·obtain rfl:=Option.some.inj h
         exact Nat.zero_le _
        ·cases h
       ·cases h
      ·cases h
theorem parL_used (l:List UInt8) (p:Prm) (n:Nat) (h:parL l=some (p,n)):p.key.length+p.s.length≤n:=by
 unfold parL at h
 split at h
 ·cases h
 ·split at h
  ·split at h
   ·cases h
   ·rename_i g hg
    have hr:=readL_used _ g hg
    obtain⟨rfl,rfl⟩:=Prod.mk.inj (Option.some.inj h)
    show(List.take _ _).length+g.s.length≤_
    rw [List.length_take]
    omega
  ·obtain⟨rfl,rfl⟩:=Prod.mk.inj (Option.some.inj h)
   show(List.take _ _).length+([]:List UInt8).length≤_
   rw [List.length_take,List.length_nil]
   omega
theorem psL_used (n:Nat):∀(l:List UInt8) (acc:List Prm) (m:Nat) (ps:List Prm) (k:Nat),l.length≤n→psL l acc m=some (ps,k)→szN ps+m≤szN acc+k:=by
 induction n with
 | zero =>
  intro l acc m ps k hl h
  rw [psL_end l acc m (by rw [List.length_eq_zero_iff.1 (Nat.le_zero.1 hl)];simp)]at h
  obtain⟨rfl,rfl⟩:=Prod.mk.inj (Option.some.inj h)
  exact zR _
 | succ n ih =>
  intro l acc m ps k hl h
  by_cases hh:l.head? = some 59
  ·cases hp:parL (l.drop 1)with
   | none=>rw [psL_none l acc m hh hp]at h;cases h
   | some x =>
    obtain⟨p,j⟩:=x
    rw [psL_some l acc m p j hh hp]at h
    have hu:=parL_used _ _ _ hp
    have h2:=ih _ _ _ _ _ (by rw [List.length_drop];omega) h
    have h3:=szN_put acc p
    omega
  ·rw [psL_end l acc m hh]at h
   obtain⟨rfl,rfl⟩:=Prod.mk.inj (Option.some.inj h)
   exact zR _
theorem itmL_used (l:List UInt8) (g:Got) (ps:List Prm) (m:Nat) (h:itmL l=some (g,ps,m)):szN ps+g.s.length≤m:=by
 unfold itmL at h
 split at h
 ·cases h
 ·rename_i g3 hg
  split at h
  ·cases h
  ·rename_i ps3 m3 hps
   obtain⟨rfl,h2⟩:=Prod.mk.inj (Option.some.inj h)
   obtain⟨rfl,rfl⟩:=Prod.mk.inj h2
   have h3:=readL_used _ _ hg
   have h4:=psL_used _ _ _ _ _ _ (zR _) hps
   have h5:szN []=0:=rfl
   omega
def sameP (p q:Prm):Bool:=((strB p.key).toList==(strB q.key).toList)&&(p.k==q.k&&(p.n==q.n&&((strB p.s).toList==(strB q.s).toList)))
theorem sameP_iff (p q:Prm):sameP p q=true↔p=q:=by
 obtain⟨a,b,c,d⟩:=p
 obtain⟨a',b',c',d'⟩:=q
 simp only [sameP,Lib.toList_data,strB_data,Bool.and_eq_true,beq_iff_eq,Prm.mk.injEq]
def samePs (ps qs:List Prm):Bool:=ps.length==qs.length&&(ps.zip qs).all fun x=>sameP x.1 x.2
theorem samePs_iff:∀(ps qs:List Prm),samePs ps qs=true↔ps=qs
 | [],[]=>by simp [samePs]
 | [],_ :: _=>by simp [samePs]
 | _ :: _,[]=>by simp [samePs]
 | p :: ps,q :: qs=>by
  have ih:=samePs_iff ps qs
  simp only [samePs,List.length_cons,List.zip_cons_cons,List.all_cons,Bool.and_eq_true,beq_iff_eq]at ih ⊢
  rw [List.cons.injEq,← sameP_iff,← ih]
  constructor
  ·rintro⟨h1,h2,h3⟩
   exact⟨h2,by omega,h3⟩
  ·rintro⟨h1,h2,h3⟩
   exact⟨by omega,h1,h3⟩
def sameI (k n:Int) (s:List UInt8) (ps:List Prm) (k' n':Int) (s':List UInt8) (qs:List Prm):Bool:=
 (k==k'&&(n==n'&&((strB s).toList==(strB s').toList)))&&samePs ps qs
end Go.Proofs.YtfaedmbfabfmeaaGreatDoor
