/- Fields as rows. · Fields in memory. · What a call leaves that hands out texts in new memory. · Plain: texts in memory; the values of a name; fields without names. -/
import Derived.Test.YtfaedmbfabfmeaaGreatDoorRows
import Derived.Test.YtfaedmbfabfmeaaGreatDoorYMBasP
import Derived.Laws.AppendOwn
import Derived.WalkKit
namespace Go.Proofs.YtfaedmbfabfmeaaGreatDoor
open Go.RowKit Go.Lib
abbrev Fld:=List UInt8×List UInt8
def cellsF (p:Fld):List Value:=[.string (strB p.1),.string (strB p.2)]
def rowF:List Fld→List Value
 | []=>[]
 | p :: ps=>cellsF p++rowF ps
theorem cells_newF (w:World) (cs:List Value) (T:TypeId) (j:Nat) (u:Value) (h:cs[j]? = some u):(w.alloc (.cells cs.toArray T)).cell? ((⟨w.heap.size,0,none⟩:Addr).add j)=some u:=by
 rw [add_none]
 have hj:j<cs.length:=(List.getElem?_eq_some_iff.1 h).1
 simp [h]
theorem owns_formF {w:World} {base:Nat} {e:TypeId} {size:Nat} {v:Value} {n:Nat} {xs:List Value} (h:w.ownsRow base e size v n xs):∃ao cap,v=.slice ao n cap:=by
 rcases h.2 with ⟨hv,h2⟩ | ⟨g,cap,cur,hv,_⟩
 ·exact⟨none,0,by rw [hv,h2]⟩
 ·exact⟨_,cap,hv⟩
def Flds (lo:Nat) (w:World) (v:Value) (fs:List Fld):Prop:=
 ∃ao cap,v=.slice ao fs.length cap∧(fs=[]∨∃b off,ao=some ⟨b,off,none⟩∧lo≤b∧b<w.heap.size∧∀j p,fs[j]? = some p→w.cell? ⟨b,off+j*2,none⟩=some (.string (strB p.1))∧w.cell? ⟨b,off+j*2+1,none⟩=some (.string (strB p.2)))
theorem Flds.nothing (lo:Nat) (w:World):Flds lo w (.slice none 0 0) []:=⟨none,0,rfl,.inl rfl⟩
theorem Flds.below {lo:Nat} {w w':World} {v:Value} {fs:List Fld} (h:Flds lo w v fs) (hb:Below w.heap.size w w'):Flds lo w' v fs:=by
 obtain⟨ao,cap,hv,hc⟩:=h
 rcases hc with hc | ⟨b,off,h1,h0,h2,h3⟩
 ·exact⟨ao,cap,hv,.inl hc⟩
 ·exact⟨ao,cap,hv,.inr ⟨b,off,h1,h0,Nat.lt_of_lt_of_le h2 hb.size,fun j p hj=>⟨(hb.cell (p:=⟨b,off+j*2,none⟩) h2).trans (h3 j p hj).1,(hb.cell (p:=⟨b,off+j*2+1,none⟩) h2).trans (h3 j p hj).2⟩⟩⟩
theorem Flds.low {lo lo':Nat} {w:World} {v:Value} {fs:List Fld} (h:Flds lo w v fs) (hl:lo'≤lo):Flds lo' w v fs:=by
 obtain⟨ao,cap,hv,hc⟩:=h
 rcases hc with hc | ⟨b,off,h1,h0,h2,h3⟩
 ·exact⟨ao,cap,hv,.inl hc⟩
 ·exact⟨ao,cap,hv,.inr ⟨b,off,h1,Nat.le_trans hl h0,h2,h3⟩⟩
theorem rowF_at:∀(fs:List Fld) (j:Nat) (p:Fld),fs[j]? = some p→(rowF fs)[j*2]? = some (.string (strB p.1))∧(rowF fs)[j*2+1]? = some (.string (strB p.2))
 | [],_,_,h=>by simp at h
 | q :: fs,0,p,h=>by
  obtain rfl:q=p:=by simpa using h
  exact⟨rfl,rfl⟩
 | q :: fs,j+1,p,h=>by
  have ih:=rowF_at fs j p (by simpa using h)
  have e1:(j+1)*2=j*2+1+1:=by omega
  rw [e1,rowF]
  exact ih
theorem Flds.of_own {lo base:Nat} {w:World} {v:Value} {fs:List Fld} (h:w.ownsRow base 51 2 v fs.length (rowF fs)) (hl:lo≤base):Flds lo w v fs:=by
 obtain⟨ao,cap,rfl⟩:=owns_formF h
 refine⟨ao,cap,rfl,?_⟩
 by_cases hx:fs=[]
 ·exact .inl hx
 ·have hpos:0<fs.length:=List.length_pos_iff.2 hx
  obtain⟨g,cap2,hv,hg,hlt,_⟩:=owns_sliceF h hpos
  obtain⟨rfl,_,rfl⟩:=Value.slice.inj hv
  refine .inr ⟨g,0,rfl,Nat.le_trans hl hg,hlt,fun j p hj=>?_⟩
  obtain⟨h1,h2⟩:=rowF_at fs j p hj
  rw [Nat.zero_add]
  exact⟨owns_cellsF h _ _ h1,owns_cellsF h _ _ h2⟩
def FldsOk (fs:List Fld):Prop:=fs.length≤100000∧∀p∈fs,p.1.length≤100000∧p.2.length≤100000
end Go.Proofs.YtfaedmbfabfmeaaGreatDoor
namespace Go.Proofs.YtfaedmbfabfmeaaGreatDoor
open Go.RowKit
def strV (p:List UInt8):Value:=.string ⟨p.toArray⟩
theorem info_string:(Tryz.prog.info? 9).map (fun i=>(i.zero,i.size,i.bytes))=some (some (.string ⟨#[]⟩),1,16):=by kernel_rfl
def StrsOut (B:Nat) (ps:List (List UInt8)) (w:World) (e:Ending) (w':World):Prop:=
 ∃v,e=.returned v∧w'.ownsRow B 9 1 v ps.length (ps.map strV)∧Below w.heap.size w w'
def StrsF (w:World) (v:Value) (ps:List (List UInt8)):Prop:=
 ∃ao cap,v=.slice ao ps.length cap∧(ps=[]∨∃b off,ao=some ⟨b,off,none⟩∧b<w.heap.size∧∀j q,ps[j]? = some q→w.cell? ⟨b,off+j,none⟩=some (.string (strB q)))
theorem StrsF.below {w w':World} {v:Value} {ps:List (List UInt8)} (h:StrsF w v ps) (hb:Below w.heap.size w w'):StrsF w' v ps:=by
 obtain⟨ao,cap,hv,hc⟩:=h
 rcases hc with hc | ⟨b,off,h1,h2,h3⟩
 ·exact⟨ao,cap,hv,.inl hc⟩
 ·exact⟨ao,cap,hv,.inr ⟨b,off,h1,Nat.lt_of_lt_of_le h2 hb.size,fun j q hj=>(hb.cell (p:=⟨b,off+j,none⟩) h2).trans (h3 j q hj)⟩⟩
def rowS (ps:List (List UInt8)):List Value:=ps.map fun q=>.string (strB q)
theorem StrsF.of_own {base:Nat} {w:World} {v:Value} {ps:List (List UInt8)} (h:w.ownsRow base 9 1 v ps.length (rowS ps)):StrsF w v ps:=by
 obtain⟨ao,cap,rfl⟩:=owns_formF h
 refine⟨ao,cap,rfl,?_⟩
 by_cases hx:ps=[]
 ·exact .inl hx
 ·obtain⟨g,cap2,hv,hg,hlt,_⟩:=owns_sliceF h (List.length_pos_iff.2 hx)
  obtain⟨rfl,_,rfl⟩:=Value.slice.inj hv
  refine .inr ⟨g,0,rfl,hlt,fun j q hj=>?_⟩
  rw [Nat.zero_add]
  exact owns_cellsF h _ _ (by rw [rowS,List.getElem?_map,hj]<;>rfl)
def allH (fs:List Fld) (name:List UInt8):List (List UInt8):=(fs.filter fun p=>decide (p.1=name)).map Prod.snd
theorem allH_yes (fs:List Fld) (name:List UInt8) (p:Fld) (h:p.1=name):allH (fs++[p]) name=allH fs name++[p.2]:=by simp [allH,h]
theorem allH_no (fs:List Fld) (name:List UInt8) (p:Fld) (h:¬p.1=name):allH (fs++[p]) name=allH fs name:=by simp [allH,h]
theorem allH_len (fs:List Fld) (name:List UInt8):(allH fs name).length≤fs.length:=by
 rw [allH,List.length_map]
 exact List.length_filter_le _ _
theorem allH_take (fs:List Fld) (name:List UInt8) (k:Nat):allH (fs.take k) name <+: allH fs name:=by
 unfold allH
 exact List.IsPrefix.map _ (List.IsPrefix.filter _ (List.take_prefix k fs))
theorem allH_in {fs:List Fld} {name q:List UInt8} (h:q∈allH fs name):∃p∈fs,p.1=name∧p.2=q:=by
 unfold allH at h
 obtain⟨p,hp,rfl⟩:=List.mem_map.1 h
 obtain⟨h1,h2⟩:=List.mem_filter.1 hp
 exact⟨p,h1,by simpa using h2,rfl⟩
theorem info_strF:(Tryz.prog.info? 9).map (fun i=>(i.zero,i.size,i.bytes))=some (some (.string ⟨#[]⟩),1,16):=by kernel_rfl
theorem allH_snoc (fs:List Fld) (p:Fld) (name:List UInt8):allH (fs++[p]) name=if p.1=name then allH fs name++[p.2]else allH fs name:=by
 unfold allH
 rw [List.filter_append,List.map_append]
 by_cases h:p.1=name
 ·rw [if_pos h];simp [h]
 ·rw [if_neg h];simp [h]
theorem rowS_snoc (ps:List (List UInt8)) (p:List UInt8):rowS (ps++[p])=rowS ps++[.string (strB p)]:=by simp [rowS]
theorem cell_newS (w:World) (s:ByteArray) (j:Nat) (u:Value) (h:[Value.string s][j]? = some u):(w.alloc (.cells #[.string s] 9)).cell? ((⟨w.heap.size,0,none⟩:Addr).add j)=some u:=by
 rw [add_none]
 match j,h with
 | 0,h=>obtain rfl:=Option.some.inj h;simp
theorem ownsRow_lowF {w:World} {base B:Nat} {e:TypeId} {size:Nat} {v:Value} {n:Nat} {xs:List Value} (h:w.ownsRow base e size v n xs) (hB:B≤base):w.ownsRow B e size v n xs:=by
 obtain⟨h1,h2⟩:=h
 refine⟨h1,?_⟩
 rcases h2 with h2 | ⟨g,cap,cur,hv,hg,r⟩
 ·exact .inl h2
 ·exact .inr ⟨g,cap,cur,hv,Nat.le_trans hB hg,r⟩
end Go.Proofs.YtfaedmbfabfmeaaGreatDoor
