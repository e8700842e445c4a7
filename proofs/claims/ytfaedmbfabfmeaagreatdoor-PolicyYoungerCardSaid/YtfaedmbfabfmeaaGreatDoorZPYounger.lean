/- PROVED: the law PolicyYounger: for any age, lifetime, rules and changes of these the law returns true, and its arguments read afterwards as before.
  CONDITIONS: the card's own: the listed tables (package date's three, bare's alphabet, package utf8's two) start as the program's text lays them (tied). -/
import Derived.Test.YtfaedmbfabfmeaaGreatDoorZMLaw14U
import Derived.Test.YtfaedmbfabfmeaaGreatDoorZLift14
import Derived.Test.YtfaedmbfabfmeaaGreatDoorZOpnP
set_option linter.unusedSimpArgs false
set_option linter.unusedVariables false
set_option maxRecDepth 100000
set_option maxHeartbeats 1000000
namespace Go.Proofs.YtfaedmbfabfmeaaGreatDoor
open Go.ChangeShapes Go.WideShapes Go.ChangeAt Go.RowKit Go.Shelf Go.Lib
open Go.ChangeMaps (open_string shut_string)
theorem pyounger_lifted (os:Os) (started:os.Started) (H:Type) (enc:TypeId×Value→H) :
  ReturnsInHanded {} Tryz.checked os 6 .any (fun w args=>(Rows.policyYoungerSpec.pre enc Tryz.prog Tryz.f6 [] false w args∧laidMetH Tryz.prog laid14 w)∧sizedMet enc Tryz.prog Tryz.f6 (OpenSpec.ofChange Rows.policyYoungerSpec) false w args)
   (Rows.policyYoungerSpec.post enc Tryz.prog Tryz.f6 false true false false):=by
 refine returnsInHanded_of_change_and (C:=Tryz.checked) (X:=fun w _=>laidMetH Tryz.prog laid14 w) (fun _ _ _ hh h=>h.of_heap hh) own started (by kernel_rfl) Tryz.func6
  (ChangeSpec.witness_shaped (enc:=enc) (C:=Tryz.checked) (os:=os) (X:=fun w _=>laidMetH Tryz.prog laid14 w) false (World.laidAll Tryz.prog os laid14) #[.agg #[.int .i64 0,.int .i64 0],.agg #[Value.bool false,Value.bool false,Value.bool false,Value.bool false,Value.bool false,Value.bool false,Value.bool false,Value.bool false,.int .i64 0,.int .i64 0,.int .i64 0,.int .i64 0,.int .i64 0,Value.bool false,Value.bool false,Value.bool false,Value.bool false,Value.bool false,Value.bool false,Value.bool false,Value.bool false,.int .i64 0,.int .i64 0,.int .i64 0,.int .i64 0,.int .i64 0],.agg #[.int .i64 0,.int .i64 0]] 8 (World.laidAll_os _ _ _)
   (World.shaped_of_ZipB (by kernel_rfl) (by kernel_rfl)) (by kernel_rfl) (by kernel_rfl) (by kernel_rfl) (laid14_met os _)) ?_
 intro W base args ds gs before hval0 hW _ hZ hL _
 have hval:∀(j:Nat) t v,Tryz.f6.params[j]? = some t→args[j]? = some v→Value.okWide Tryz.prog W .any base t v:=hval0
 have hW':=hW
 obtain⟨p,q,hA0,hV,rfl,_,_⟩:=hW
 have hA:DataW.TrodAll enc Tryz.prog W 0 (fun _=>true) true Tryz.f6.params.toList args.toList ds p:=hA0
 rw [Tryz.params6]at hA hval
 obtain⟨v0,v1,v2,d0,d1,d2,p0,p1,p2,rfl,rfl,rfl,h0,h1,h2⟩:=trodAll_three hA
 obtain⟨rfl,rfl⟩:=trodVars_none hV
 simp only [List.append_nil]at hW'
 try simp only [List.nil_append]at hW'
 have hlt0:∀x∈p0,x.block<W.heap.size:=fun x hx=>hW'.lt x (by first | (simp [hx]) | (simp only [List.append_nil,List.nil_append,List.mem_append];simp [hx]))
 have hlt1:∀x∈p1,x.block<W.heap.size:=fun x hx=>hW'.lt x (by first | (simp [hx]) | (simp only [List.append_nil,List.nil_append,List.mem_append];simp [hx]))
 have hlt2:∀x∈p2,x.block<W.heap.size:=fun x hx=>hW'.lt x (by first | (simp [hx]) | (simp only [List.append_nil,List.nil_append,List.mem_append];simp [hx]))
 obtain⟨x0,y0,rfl⟩:=open_pairP (hval 0 48 v0 rfl rfl) h0
 obtain⟨x1,y1,rfl⟩:=open_rules2 (hval 1 35 v1 rfl rfl) h1
 obtain⟨x2,y2,rfl⟩:=open_pairP (hval 2 48 v2 rfl rfl) h2
 refine(pyounger_walk x0 y0 x1 y1 x2 y2 W (alph_of_laid hL) (tabs_of_laid hL) (cal_of_laid hL)).mono fun e W' ⟨he,hb⟩=>?_
 subst he
 exact⟨_,rfl,_,_,_,[],p0++(p1++p2),[],hW',trodAll_mk1 (shut_bool Tryz.underlying4 _),
  (by have:=trodAll_mk3 (Below.trod laidOut (by kernel_rfl) (of_decide_eq_true (by kernel_rfl)) h0 hb hlt0) (Below.trod laidOut (by kernel_rfl) (of_decide_eq_true (by kernel_rfl)) h1 hb hlt1) (Below.trod laidOut (by kernel_rfl) (of_decide_eq_true (by kernel_rfl)) h2 hb hlt2);first | exact this | (simp only [List.append_nil]at this;exact this) | (simp only [List.nil_append]at this;exact this) | (simp only [List.append_nil,List.nil_append]at this;exact this)),rfl,hb.frame _,fun h=>by cases h⟩
theorem pyounger_holds:Rows.PolicyYoungerSaid:=
 OpenClaim.holds_of_wide 6 Tryz.f6 rfl rfl rfl rfl rfl rfl rfl ⟨rfl,rfl,rfl,rfl,rfl⟩ rfl rfl rfl rfl rfl (by kernel_rfl) Tryz.func6 (by kernel_rfl)
  (of_decide_eq_true (by kernel_rfl)) (by unfold Func.isWrapper;first | (rw [if_pos (by decide +kernel)];kernel_rfl) | (rw [if_neg (by decide +kernel)];exact⟨rfl,rfl⟩))
  (fun os started H enc _=>pyounger_lifted os started H enc)
theorem pyounger_card:Rows.PolicyYoungerCardSaid:=
 Claim7.holds_tied_plain_at .later [] [.data,.data,.data,.data,.data,.pinned] true Rows.policyYoungerCard.stood.harness false pyounger_holds (fun _ h=>by cases h) (by kernel_rfl) (fun _ h=>by cases h) policyYounger_row_tie rfl ⟨rfl,rfl⟩ (by kernel_rfl) rfl
  (fun f fn hf hfn=>by
   obtain rfl:f=6:=Option.some.inj ((show Tryz.prog.funcNamed Rows.policyYoungerRow.func=some 6 by kernel_rfl).symm.trans hf) |>.symm
   obtain rfl:fn=Tryz.f6:=(Option.some.inj (Tryz.func6.symm.trans hfn)).symm
   exact⟨by kernel_rfl,fun j t ht=>by
    rw [Tryz.params6]at ht
    have hm:t∈[48,35,48]:=by simpa using Array.mem_of_getElem? ht
    have hall:([48,35,48].all fun u=>!Tryz.prog.wantsStandIn u)=true:=by kernel_rfl
    exact(show Tryz.prog.wantsStandIn t=false by simpa using List.all_eq_true.1 hall t hm)⟩)
  (by kernel_rfl)
#print axioms pyounger_card
end Go.Proofs.YtfaedmbfabfmeaaGreatDoor
