/- Two rules, and two numbers, as arguments, opened. -/
import Derived.Test.YtfaedmbfabfmeaaGreatDoorZOpnF
import Derived.Test.YtfaedmbfabfmeaaGreatDoorZMChsP
set_option linter.unusedSimpArgs false
set_option linter.unusedVariables false
set_option maxRecDepth 100000
set_option maxHeartbeats 1000000
namespace Go.Proofs.YtfaedmbfabfmeaaGreatDoor
open Go.ChangeShapes Go.WideShapes Go.ChangeAt Go.RowKit Go.Shelf Go.Lib
theorem cells_boolP:Tryz.prog.cellsOf 4=1:=by kernel_rfl
theorem cells_intP:Tryz.prog.cellsOf 3=1:=by kernel_rfl
theorem cells_rulP:Tryz.prog.cellsOf 34=13:=by kernel_rfl
theorem cells_rul2P:Tryz.prog.cellsOf 35=26:=by kernel_rfl
section
variable {H:Type} {enc:TypeId×Value→H} {W:World} {base:Nat} {spare:Nat→Bool} {held:Bool}
theorem rul_trod {fuel:Nat} {cs:List Value} {x:DataW H×List MemPlace} (hl:cs.length=13) (h:DataW.trod enc Tryz.prog W base spare held fuel 34 cs=some x):∃r:Ru_RuP,cs=r.l:=by
 match cs,hl with
 | [c0,c1,c2,c3,c4,c5,c6,c7,c8,c9,c10,c11,c12],_ =>
  obtain⟨xs,m,_,_,_,hn,hf⟩:=DataW.trod_struct Tryz.underlying34 h
  match xs,hn,hf with
  | [y0,y1,y2,y3,y4,y5,y6,y7,y8,y9,y10,y11,y12],_,hf =>
   have e0:DataW.trod enc Tryz.prog W base spare held m 4 [c0]=some y0:=by simpa [cells_boolP,cells_intP] using hf 0 _ rfl
   have e1:DataW.trod enc Tryz.prog W base spare held m 4 [c1]=some y1:=by simpa [cells_boolP,cells_intP] using hf 1 _ rfl
   have e2:DataW.trod enc Tryz.prog W base spare held m 4 [c2]=some y2:=by simpa [cells_boolP,cells_intP] using hf 2 _ rfl
   have e3:DataW.trod enc Tryz.prog W base spare held m 4 [c3]=some y3:=by simpa [cells_boolP,cells_intP] using hf 3 _ rfl
   have e4:DataW.trod enc Tryz.prog W base spare held m 4 [c4]=some y4:=by simpa [cells_boolP,cells_intP] using hf 4 _ rfl
   have e5:DataW.trod enc Tryz.prog W base spare held m 4 [c5]=some y5:=by simpa [cells_boolP,cells_intP] using hf 5 _ rfl
   have e6:DataW.trod enc Tryz.prog W base spare held m 4 [c6]=some y6:=by simpa [cells_boolP,cells_intP] using hf 6 _ rfl
   have e7:DataW.trod enc Tryz.prog W base spare held m 4 [c7]=some y7:=by simpa [cells_boolP,cells_intP] using hf 7 _ rfl
   have e8:DataW.trod enc Tryz.prog W base spare held m 3 [c8]=some y8:=by simpa [cells_boolP,cells_intP] using hf 8 _ rfl
   have e9:DataW.trod enc Tryz.prog W base spare held m 3 [c9]=some y9:=by simpa [cells_boolP,cells_intP] using hf 9 _ rfl
   have e10:DataW.trod enc Tryz.prog W base spare held m 3 [c10]=some y10:=by simpa [cells_boolP,cells_intP] using hf 10 _ rfl
   have e11:DataW.trod enc Tryz.prog W base spare held m 3 [c11]=some y11:=by simpa [cells_boolP,cells_intP] using hf 11 _ rfl
   have e12:DataW.trod enc Tryz.prog W base spare held m 3 [c12]=some y12:=by simpa [cells_boolP,cells_intP] using hf 12 _ rfl
   obtain⟨b0,q0,_⟩:=DataW.trod_bool Tryz.underlying4 e0
   obtain⟨b1,q1,_⟩:=DataW.trod_bool Tryz.underlying4 e1
   obtain⟨b2,q2,_⟩:=DataW.trod_bool Tryz.underlying4 e2
   obtain⟨b3,q3,_⟩:=DataW.trod_bool Tryz.underlying4 e3
   obtain⟨b4,q4,_⟩:=DataW.trod_bool Tryz.underlying4 e4
   obtain⟨b5,q5,_⟩:=DataW.trod_bool Tryz.underlying4 e5
   obtain⟨b6,q6,_⟩:=DataW.trod_bool Tryz.underlying4 e6
   obtain⟨b7,q7,_⟩:=DataW.trod_bool Tryz.underlying4 e7
   obtain⟨b8,q8,_,_⟩:=DataW.trod_int Tryz.underlying3 e8
   obtain⟨b9,q9,_,_⟩:=DataW.trod_int Tryz.underlying3 e9
   obtain⟨b10,q10,_,_⟩:=DataW.trod_int Tryz.underlying3 e10
   obtain⟨b11,q11,_,_⟩:=DataW.trod_int Tryz.underlying3 e11
   obtain⟨b12,q12,_,_⟩:=DataW.trod_int Tryz.underlying3 e12
   simp only [List.cons.injEq,and_true]at q0 q1 q2 q3 q4 q5 q6 q7 q8 q9 q10 q11 q12
   subst q0 q1 q2 q3 q4 q5 q6 q7 q8 q9 q10 q11 q12
   exact⟨⟨b0,b1,b2,b3,b4,b5,b6,b7,b8,b9,b10,b11,b12⟩,rfl⟩
theorem open_rules2 {v:Value} {d:DataW H} {p:List MemPlace} (hv:Value.okWide Tryz.prog W .any base 35 v) (h:DataW.Trod enc Tryz.prog W 0 (fun _=>true) true 35 v d p) :
  ∃r q:Ru_RuP,v=.agg (r.l++q.l).toArray:=by
 obtain⟨cs,rfl,hsz,_⟩:∃cs,v=.agg cs∧cs.size=Tryz.prog.cellsOf 35∧Row.okWide Tryz.prog W .any base 35 cs:=by
  simpa [Value.okWide,Tryz.underlying35] using hv
 obtain⟨l⟩:=cs
 have hl:l.length=26:=hsz.trans cells_rul2P
 obtain⟨fuel,hf⟩:=h
 obtain⟨xs,m,_,_,_,hn,hel⟩:=DataW.trod_array Tryz.underlying35 hf
 match xs,hn,hel with
 | [y0,y1],_,hel =>
  have e0:=hel 0 (by omega)
  have e1:=hel 1 (by omega)
  rw [cells_rulP]at e0 e1
  simp only [Value.cells,Nat.zero_mul,Nat.one_mul,List.drop_zero,List.getElem?_cons_zero,List.getElem?_cons_succ]at e0 e1
  obtain⟨r,hr⟩:=rul_trod (by simp;omega) e0
  obtain⟨q,hq⟩:=rul_trod (by simp;omega) e1
  refine⟨r,q,?_⟩
  rw [← hr,← hq,List.take_of_length_le (l:=l.drop 13) (by simp;omega),List.take_append_drop]
theorem open_pairP {v:Value} {d:DataW H} {p:List MemPlace} (hv:Value.okWide Tryz.prog W .any base 48 v) (h:DataW.Trod enc Tryz.prog W 0 (fun _=>true) true 48 v d p) :
  ∃x y:Int,v=.agg #[.int .i64 x,.int .i64 y]:=by
 obtain⟨cs,rfl,hsz,_⟩:∃cs,v=.agg cs∧cs.size=Tryz.prog.cellsOf 48∧Row.okWide Tryz.prog W .any base 48 cs:=by
  simpa [Value.okWide,Tryz.underlying48] using hv
 obtain⟨c0,c1,rfl⟩:=Joins.array2 (hsz.trans (by kernel_rfl))
 obtain⟨fuel,hf⟩:=h
 obtain⟨xs,m,_,_,_,hn,hel⟩:=DataW.trod_array Tryz.underlying48 hf
 match xs,hn,hel with
 | [y0,y1],_,hel =>
  have e0:=hel 0 (by omega)
  have e1:=hel 1 (by omega)
  rw [cells_intP]at e0 e1
  simp [Value.cells]at e0 e1
  obtain⟨x0,q0,_,_⟩:=DataW.trod_int Tryz.underlying3 e0
  obtain⟨x1,q1,_,_⟩:=DataW.trod_int Tryz.underlying3 e1
  simp at q0 q1
  subst q0 q1
  exact⟨x0,x1,rfl⟩
end
end Go.Proofs.YtfaedmbfabfmeaaGreatDoor
