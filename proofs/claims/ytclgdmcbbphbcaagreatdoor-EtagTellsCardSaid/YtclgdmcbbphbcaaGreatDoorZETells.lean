/- PROVED: the law EtagTells: for any text, any two entity tags and any two lists of fields the law returns true, and its arguments read afterwards as before.
  CONDITIONS: the card's own: the listed tables (package date's three, package unicode/utf8's two) start as the program's text lays them (tied). -/
import Derived.Test.YtclgdmcbbphbcaaGreatDoorZLaw12T
import Derived.Test.YtclgdmcbbphbcaaGreatDoorZLift12
import Derived.Test.YtclgdmcbbphbcaaGreatDoorZMOpnF

namespace Go.Proofs.YtclgdmcbbphbcaaGreatDoor
open Go.ChangeShapes Go.WideShapes Go.ChangeAt Go.RowKit Go.Shelf Go.Lib
open Go.ChangeMaps (open_string shut_string)

set_option maxRecDepth 100000 in
theorem etells_lifted (os : Os) (started : os.Started) (H : Type) (enc : TypeId × Value → H) :
    ReturnsInHanded {} Tryz.checked os 3 .any (fun w args => (Rows.etagTellsSpec.pre enc Tryz.prog Tryz.f3 [] false w args ∧ laidMetH Tryz.prog laid12 w) ∧ sizedMet enc Tryz.prog Tryz.f3 (OpenSpec.ofChange Rows.etagTellsSpec) false w args)
      (Rows.etagTellsSpec.post enc Tryz.prog Tryz.f3 false true false false) := by
  refine returnsInHanded_of_change_and (C := Tryz.checked) (X := fun w _ => laidMetH Tryz.prog laid12 w) (fun _ _ _ hh h => h.of_heap hh) own started (by kernel_rfl) Tryz.func3
    (ChangeSpec.witness_shaped (enc := enc) (C := Tryz.checked) (os := os) (X := fun w _ => laidMetH Tryz.prog laid12 w) false (World.laidAll Tryz.prog os laid12) #[.string ⟨#[]⟩, .agg #[.bool false, .string ⟨#[]⟩, .bool false, .string ⟨#[]⟩], .agg #[.slice none 0 0, .slice none 0 0]] 8 (World.laidAll_os _ _ _)
      (World.shaped_of_ZipB (by kernel_rfl) (by kernel_rfl)) (by kernel_rfl) (by kernel_rfl) (by kernel_rfl) (laid12_met os _)) ?_
  intro W base args ds gs before hval0 hW _ hZ hL _
  have hval : ∀ (j : Nat) t v, Tryz.f3.params[j]? = some t → args[j]? = some v → Value.okWide Tryz.prog W .any base t v := hval0
  have hW' := hW
  obtain ⟨p, q, hA0, hV, rfl, _, _⟩ := hW
  have hA : DataW.TrodAll enc Tryz.prog W 0 (fun _ => true) true Tryz.f3.params.toList args.toList ds p := hA0
  rw [Tryz.params3] at hA hval
  obtain ⟨v0, v1, v2, d0, d1, d2, p0, p1, p2, rfl, rfl, rfl, h0, h1, h2⟩ := trodAll_three hA
  obtain ⟨rfl, rfl⟩ := trodVars_none hV
  obtain ⟨s0, rfl, rfl, rfl, hs0⟩ := open_string Tryz.underlying9 (hval 0 9 v0 rfl rfl) h0
  simp only [List.append_nil] at hW'
  try simp only [List.nil_append] at hW'
  have hlt1 : ∀ x ∈ p1, x.block < W.heap.size := fun x hx => hW'.lt x (by first | (simp [hx]) | (simp only [List.append_nil, List.nil_append, List.mem_append]; simp [hx]))
  have hlt2 : ∀ x ∈ p2, x.block < W.heap.size := fun x hx => hW'.lt x (by first | (simp [hx]) | (simp only [List.append_nil, List.nil_append, List.mem_append]; simp [hx]))
  have hz1 : ∀ z ∈ d1.weights Tryz.prog 24, z ≤ reachBytes := fun z hz => by
    have := List.all_eq_true.1 hZ _ (DataW.weights_mem_each (j := 1) (t := 24) (by rw [Tryz.params3]; rfl) rfl z hz)
    simpa using this
  obtain ⟨x1, y1, rfl, hk1, hl1⟩ := open_tag2 (hval 1 24 v1 rfl rfl) h1 hz1
  have hz2 : ∀ z ∈ d2.weights Tryz.prog 26, z ≤ reachBytes := fun z hz => by
    have := List.all_eq_true.1 hZ _ (DataW.weights_mem_each (j := 2) (t := 26) (by rw [Tryz.params3]; rfl) rfl z hz)
    simpa using this
  obtain ⟨a2, b2, f2, g2, rfl, hF2, hk2, hG2, hl2⟩ := open_flds2 (hval 2 26 v2 rfl rfl) h2 hz2
  refine (etells_walk s0 x1 y1 a2 b2 f2 g2 W hs0 hk1 hl1 hF2 hk2 hG2 hl2 (cal_of_laid hL)).mono fun e W' ⟨he, hb⟩ => ?_
  subst he
  exact ⟨_, rfl, _, _, _, [], p1 ++ p2, [], hW', trodAll_mk1 (shut_bool Tryz.underlying4 _),
    (by have := trodAll_mk3 (shut_string (enc := enc) (w := W') (base := 0) (sp := fun b => decide (b < W.heap.size)) (held := true) Tryz.underlying9 hs0) (Below.trod laidOut (by kernel_rfl) (of_decide_eq_true (by kernel_rfl)) h1 hb hlt1) (Below.trod laidOut (by kernel_rfl) (of_decide_eq_true (by kernel_rfl)) h2 hb hlt2); first | exact this | (simp only [List.append_nil, List.nil_append] at this; exact this)), rfl, hb.frame _, fun h => by cases h⟩

theorem etells_holds : Rows.EtagTellsSaid :=
  OpenClaim.holds_of_wide 3 Tryz.f3 rfl rfl rfl rfl rfl rfl rfl ⟨rfl, rfl, rfl, rfl, rfl⟩ rfl rfl rfl rfl rfl (by kernel_rfl) Tryz.func3 (by kernel_rfl)
    (of_decide_eq_true (by kernel_rfl)) (by unfold Func.isWrapper; first | (rw [if_pos (by decide +kernel)]; kernel_rfl) | (rw [if_neg (by decide +kernel)]; exact ⟨rfl, rfl⟩))
    (fun os started H enc _ => etells_lifted os started H enc)

theorem etells_card : Rows.EtagTellsCardSaid :=
  Claim7.holds_tied_plain_at .later [] [.data, .data, .data, .data, .pinned] true Rows.etagTellsCard.stood.harness false etells_holds (fun _ h => by cases h) (by kernel_rfl) (fun _ h => by cases h) etagTells_row_tie rfl ⟨rfl, rfl⟩ (by kernel_rfl) rfl
    (fun f fn hf hfn => by
      obtain rfl : f = 3 := Option.some.inj ((show Tryz.prog.funcNamed Rows.etagTellsRow.func = some 3 by kernel_rfl).symm.trans hf) |>.symm
      obtain rfl : fn = Tryz.f3 := (Option.some.inj (Tryz.func3.symm.trans hfn)).symm
      exact ⟨by kernel_rfl, fun j t ht => by
        rw [Tryz.params3] at ht
        have hm : t ∈ [9, 24, 26] := by simpa using Array.mem_of_getElem? ht
        have hall : ([9, 24, 26].all fun u => !Tryz.prog.wantsStandIn u) = true := by kernel_rfl
        exact (show Tryz.prog.wantsStandIn t = false by simpa using List.all_eq_true.1 hall t hm)⟩)
    (by kernel_rfl)
#print axioms etells_card
end Go.Proofs.YtclgdmcbbphbcaaGreatDoor
