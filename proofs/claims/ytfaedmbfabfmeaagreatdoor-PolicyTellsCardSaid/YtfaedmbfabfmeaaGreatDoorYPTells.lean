/- PROVED: the law PolicyTells: for any request, response and moment the law returns true, and its arguments read afterwards as before.
  CONDITIONS: the card's own: the listed tables (package date's three, bare's alphabet, package utf8's two) start as the program's text lays them (tied). -/
import Derived.Test.YtfaedmbfabfmeaaGreatDoorYLaw14T
import Derived.Test.YtfaedmbfabfmeaaGreatDoorYLift14
import Derived.Test.YtfaedmbfabfmeaaGreatDoorYMMsP
set_option linter.unusedSimpArgs false
set_option maxRecDepth 100000
set_option maxHeartbeats 1000000
namespace Go.Proofs.YtfaedmbfabfmeaaGreatDoor
open Go.ChangeShapes Go.WideShapes Go.ChangeAt Go.RowKit Go.Shelf Go.Lib
open Go.ChangeMaps (open_string shut_string)
theorem ptells_lifted (os:Os) (started:os.Started) (H:Type) (enc:TypeId×Value→H) :
  ReturnsInHanded {} Tryz.checked os 3 .any (fun w args=>(Rows.policyTellsSpec.pre enc Tryz.prog Tryz.f3 [] false w args∧laidMetH Tryz.prog laid14 w)∧sizedMet enc Tryz.prog Tryz.f3 (OpenSpec.ofChange Rows.policyTellsSpec) false w args)
   (Rows.policyTellsSpec.post enc Tryz.prog Tryz.f3 false true false false):=by
 refine returnsInHanded_of_change_and (C:=Tryz.checked) (X:=fun w _=>laidMetH Tryz.prog laid14 w) (fun _ _ _ hh h=>h.of_heap hh) own started (by kernel_rfl) Tryz.func3
  (ChangeSpec.witness_shaped (enc:=enc) (C:=Tryz.checked) (os:=os) (X:=fun w _=>laidMetH Tryz.prog laid14 w) false (World.laidAll Tryz.prog os laid14) #[.agg #[.string ⟨#[]⟩,.string ⟨#[]⟩,.slice none 0 0,.slice none 0 0],.agg #[.int .i64 0,.slice none 0 0,.slice none 0 0],.int .i64 0] 8 (World.laidAll_os _ _ _)
   (World.shaped_of_ZipB (by kernel_rfl) (by kernel_rfl)) (by kernel_rfl) (by kernel_rfl) (by kernel_rfl) (laid14_met os _)) ?_
 intro W base args ds gs before hval0 hW _ hZ hL _
 have hval:∀(j:Nat) t v,Tryz.f3.params[j]? = some t→args[j]? = some v→Value.okWide Tryz.prog W .any base t v:=hval0
 have hW':=hW
 obtain⟨p,q,hA0,hV,rfl,_,_⟩:=hW
 have hA:DataW.TrodAll enc Tryz.prog W 0 (fun _=>true) true Tryz.f3.params.toList args.toList ds p:=hA0
 rw [Tryz.params3]at hA hval
 obtain⟨v0,v1,v2,d0,d1,d2,p0,p1,p2,rfl,rfl,rfl,h0,h1,h2⟩:=trodAll_three hA
 obtain⟨rfl,rfl⟩:=trodVars_none hV
 obtain⟨x2,rfl,rfl,rfl,wf2⟩:=open_int Tryz.underlying2 (hval 2 2 v2 rfl rfl) h2
 have hn2:-9223372036854775808≤x2∧x2≤9223372036854775807:=by simpa [Lit.wf,IntKind.min,IntKind.max,IntKind.signed,IntKind.bits] using wf2
 simp only [List.append_nil]at hW'
 try simp only [List.nil_append]at hW'
 have hlt0:∀x∈p0,x.block<W.heap.size:=fun x hx=>hW'.lt x (by first | (simp [hx]) | (simp only [List.append_nil,List.nil_append,List.mem_append];simp [hx]))
 have hlt1:∀x∈p1,x.block<W.heap.size:=fun x hx=>hW'.lt x (by first | (simp [hx]) | (simp only [List.append_nil,List.nil_append,List.mem_append];simp [hx]))
 have hz0:∀z∈d0.weights Tryz.prog 25,z≤reachBytes:=fun z hz=>by
  have:=List.all_eq_true.1 hZ _ (DataW.weights_mem_each (j:=0) (t:=25) (by rw [Tryz.params3];rfl) rfl z hz)
  simpa using this
 obtain⟨x0,f0,y0,rfl,hF0,hY0,hk0,hm0,ht0,hb0⟩:=open_req (hval 0 25 v0 rfl rfl) h0 hz0
 have hz1:∀z∈d1.weights Tryz.prog 27,z≤reachBytes:=fun z hz=>by
  have:=List.all_eq_true.1 hZ _ (DataW.weights_mem_each (j:=1) (t:=27) (by rw [Tryz.params3];rfl) rfl z hz)
  simpa using this
 obtain⟨x1,f1,y1,rfl,hF1,hY1,hk1,hb1⟩:=open_rsp (hval 1 27 v1 rfl rfl) h1 hz1
 refine(ptells_walk x0 x1 f0 y0 f1 y1 x2 W hF0 hY0 hF1 hY1 hk0 hk1 (alph_of_laid hL) (tabs_of_laid hL) (cal_of_laid hL)).mono fun e W' ⟨he,hb⟩=>?_
 subst he
 exact⟨_,rfl,_,_,_,[],p0++p1,[],hW',trodAll_mk1 (shut_bool Tryz.underlying4 _),
  (by have:=trodAll_mk3 (Below.trod laidOut (by kernel_rfl) (of_decide_eq_true (by kernel_rfl)) h0 hb hlt0) (Below.trod laidOut (by kernel_rfl) (of_decide_eq_true (by kernel_rfl)) h1 hb hlt1) (shut_int Tryz.underlying2 wf2);first | exact this | (simp only [List.append_nil]at this;exact this) | (simp only [List.nil_append]at this;exact this) | (simp only [List.append_nil,List.nil_append]at this;exact this)),rfl,hb.frame _,fun h=>by cases h⟩
theorem ptells_holds:Rows.PolicyTellsSaid:=
 OpenClaim.holds_of_wide 3 Tryz.f3 rfl rfl rfl rfl rfl rfl rfl ⟨rfl,rfl,rfl,rfl,rfl⟩ rfl rfl rfl rfl rfl (by kernel_rfl) Tryz.func3 (by kernel_rfl)
  (of_decide_eq_true (by kernel_rfl)) (by unfold Func.isWrapper;first | (rw [if_pos (by decide +kernel)];kernel_rfl) | (rw [if_neg (by decide +kernel)];exact⟨rfl,rfl⟩))
  (fun os started H enc _=>ptells_lifted os started H enc)
theorem ptells_card:Rows.PolicyTellsCardSaid:=
 Claim7.holds_tied_plain_at .later [] [.data,.data,.data,.data,.data,.pinned] true Rows.policyTellsCard.stood.harness false ptells_holds (fun _ h=>by cases h) (by kernel_rfl) (fun _ h=>by cases h) policyTells_row_tie rfl ⟨rfl,rfl⟩ (by kernel_rfl) rfl
  (fun f fn hf hfn=>by
   obtain rfl:f=3:=Option.some.inj ((show Tryz.prog.funcNamed Rows.policyTellsRow.func=some 3 by kernel_rfl).symm.trans hf) |>.symm
   obtain rfl:fn=Tryz.f3:=(Option.some.inj (Tryz.func3.symm.trans hfn)).symm
   exact⟨by kernel_rfl,fun j t ht=>by
    rw [Tryz.params3]at ht
    have hm:t∈[25,27,2]:=by simpa using Array.mem_of_getElem? ht
    have hall:([25,27,2].all fun u=>!Tryz.prog.wantsStandIn u)=true:=by kernel_rfl
    exact(show Tryz.prog.wantsStandIn t=false by simpa using List.all_eq_true.1 hall t hm)⟩)
  (by kernel_rfl)
#print axioms ptells_card
end Go.Proofs.YtfaedmbfabfmeaaGreatDoor
