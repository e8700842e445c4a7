/- PROVED: the law PolicyJudges: for any age, lifetime and rules the law returns true, and its arguments read afterwards as before.
  CONDITIONS: the card's own: the listed tables (package date's three, bare's alphabet, package utf8's two) start as the program's text lays them (tied). -/
import Derived.Test.YtfaedmbfabfmeaaGreatDoorZLaw14J
import Derived.Test.YtfaedmbfabfmeaaGreatDoorZLift14
import Derived.Test.YtfaedmbfabfmeaaGreatDoorZOpnP
set_option linter.unusedSimpArgs false
set_option linter.unusedVariables false
set_option maxRecDepth 100000
set_option maxHeartbeats 1000000
namespace Go.Proofs.YtfaedmbfabfmeaaGreatDoor
open Go.ChangeShapes Go.WideShapes Go.ChangeAt Go.RowKit Go.Shelf Go.Lib
open Go.ChangeMaps (open_string shut_string)
theorem pjudges_lifted (os:Os) (started:os.Started) (H:Type) (enc:TypeId×Value→H) :
  ReturnsInHanded {} Tryz.checked os 4 .any (fun w args=>(Rows.policyJudgesSpec.pre enc Tryz.prog Tryz.f4 [] false w args∧laidMetH Tryz.prog laid14 w)∧sizedMet enc Tryz.prog Tryz.f4 (OpenSpec.ofChange Rows.policyJudgesSpec) false w args)
   (Rows.policyJudgesSpec.post enc Tryz.prog Tryz.f4 false true false false):=by
 refine returnsInHanded_of_change_and (C:=Tryz.checked) (X:=fun w _=>laidMetH Tryz.prog laid14 w) (fun _ _ _ hh h=>h.of_heap hh) own started (by kernel_rfl) Tryz.func4
  (ChangeSpec.witness_shaped (enc:=enc) (C:=Tryz.checked) (os:=os) (X:=fun w _=>laidMetH Tryz.prog laid14 w) false (World.laidAll Tryz.prog os laid14) #[.int .i64 0,.int .i64 0,.agg #[Value.bool false,Value.bool false,Value.bool false,Value.bool false,Value.bool false,Value.bool false,Value.bool false,Value.bool false,.int .i64 0,.int .i64 0,.int .i64 0,.int .i64 0,.int .i64 0,Value.bool false,Value.bool false,Value.bool false,Value.bool false,Value.bool false,Value.bool false,Value.bool false,Value.bool false,.int .i64 0,.int .i64 0,.int .i64 0,.int .i64 0,.int .i64 0]] 8 (World.laidAll_os _ _ _)
   (World.shaped_of_ZipB (by kernel_rfl) (by kernel_rfl)) (by kernel_rfl) (by kernel_rfl) (by kernel_rfl) (laid14_met os _)) ?_
 intro W base args ds gs before hval0 hW _ hZ hL _
 have hval:∀(j:Nat) t v,Tryz.f4.params[j]? = some t→args[j]? = some v→Value.okWide Tryz.prog W .any base t v:=hval0
 have hW':=hW
 obtain⟨p,q,hA0,hV,rfl,_,_⟩:=hW
 have hA:DataW.TrodAll enc Tryz.prog W 0 (fun _=>true) true Tryz.f4.params.toList args.toList ds p:=hA0
 rw [Tryz.params4]at hA hval
 obtain⟨v0,v1,v2,d0,d1,d2,p0,p1,p2,rfl,rfl,rfl,h0,h1,h2⟩:=trodAll_three hA
 obtain⟨rfl,rfl⟩:=trodVars_none hV
 obtain⟨x0,rfl,rfl,rfl,wf0⟩:=open_int Tryz.underlying3 (hval 0 3 v0 rfl rfl) h0
 have hn0:-9223372036854775808≤x0∧x0≤9223372036854775807:=by simpa [Lit.wf,IntKind.min,IntKind.max,IntKind.signed,IntKind.bits] using wf0
 obtain⟨x1,rfl,rfl,rfl,wf1⟩:=open_int Tryz.underlying3 (hval 1 3 v1 rfl rfl) h1
 have hn1:-9223372036854775808≤x1∧x1≤9223372036854775807:=by simpa [Lit.wf,IntKind.min,IntKind.max,IntKind.signed,IntKind.bits] using wf1
 simp only [List.append_nil]at hW'
 try simp only [List.nil_append]at hW'
 have hlt2:∀x∈p2,x.block<W.heap.size:=fun x hx=>hW'.lt x (by first | (simp [hx]) | (simp only [List.append_nil,List.nil_append,List.mem_append];simp [hx]))
 obtain⟨x2,y2,rfl⟩:=open_rules2 (hval 2 35 v2 rfl rfl) h2
 refine(pjudges_walk x0 x1 x2 y2 W (alph_of_laid hL) (tabs_of_laid hL) (cal_of_laid hL)).mono fun e W' ⟨he,hb⟩=>?_
 subst he
 exact⟨_,rfl,_,_,_,[],p2,[],hW',trodAll_mk1 (shut_bool Tryz.underlying4 _),
  (by have:=trodAll_mk3 (shut_int Tryz.underlying3 wf0) (shut_int Tryz.underlying3 wf1) (Below.trod laidOut (by kernel_rfl) (of_decide_eq_true (by kernel_rfl)) h2 hb hlt2);first | exact this | (simp only [List.append_nil]at this;exact this) | (simp only [List.nil_append]at this;exact this) | (simp only [List.append_nil,List.nil_append]at this;exact this)),rfl,hb.frame _,fun h=>by cases h⟩
theorem pjudges_holds:Rows.PolicyJudgesSaid:=
 OpenClaim.holds_of_wide 4 Tryz.f4 rfl rfl rfl rfl rfl rfl rfl ⟨rfl,rfl,rfl,rfl,rfl⟩ rfl rfl rfl rfl rfl (by kernel_rfl) Tryz.func4 (by kernel_rfl)
  (of_decide_eq_true (by kernel_rfl)) (by unfold Func.isWrapper;first | (rw [if_pos (by decide +kernel)];kernel_rfl) | (rw [if_neg (by decide +kernel)];exact⟨rfl,rfl⟩))
  (fun os started H enc _=>pjudges_lifted os started H enc)
theorem pjudges_card:Rows.PolicyJudgesCardSaid:=
 Claim7.holds_tied_plain_at .later [] [.data,.data,.data,.data,.data,.pinned] true Rows.policyJudgesCard.stood.harness false pjudges_holds (fun _ h=>by cases h) (by kernel_rfl) (fun _ h=>by cases h) policyJudges_row_tie rfl ⟨rfl,rfl⟩ (by kernel_rfl) rfl
  (fun f fn hf hfn=>by
   obtain rfl:f=4:=Option.some.inj ((show Tryz.prog.funcNamed Rows.policyJudgesRow.func=some 4 by kernel_rfl).symm.trans hf) |>.symm
   obtain rfl:fn=Tryz.f4:=(Option.some.inj (Tryz.func4.symm.trans hfn)).symm
   exact⟨by kernel_rfl,fun j t ht=>by
    rw [Tryz.params4]at ht
    have hm:t∈[3,3,35]:=by simpa using Array.mem_of_getElem? ht
    have hall:([3,3,35].all fun u=>!Tryz.prog.wantsStandIn u)=true:=by kernel_rfl
    exact(show Tryz.prog.wantsStandIn t=false by simpa using List.all_eq_true.1 hall t hm)⟩)
  (by kernel_rfl)
#print axioms pjudges_card
end Go.Proofs.YtfaedmbfabfmeaaGreatDoor
