/- What the laws over package target need to be lifted to their rows: the error values, as the rows list them, and a world in which they lie. -/
import Derived.Test.YtbbdifcmhoobaaaGreatDoorShelf
import Derived.Test.YtbbdifcmhoobaaaGreatDoorTie
import Derived.Test.YtbbdifcmhoobaaaGreatDoorCards
import Derived.Test.YtbbdifcmhoobaaaGreatDoorErsP
import Derived.ProofKit
import Derived.PinnedBridge
import Derived.Lay
import Derived.SevenTiedAt
import Derived.SizedLaws
import Derived.OpenShut
import Derived.ChangeSame
namespace Go.Proofs.YtbbdifcmhoobaaaGreatDoor
open Go.ChangeShapes Go.WideShapes Go.ChangeAt Go.RowKit Go.Shelf Go.Lib

theorem own : ownKnob Tryz.prog.godebug = none := by kernel_rfl
/-- The variables that the rows list. -/
def laid9 : List (String × DataW Unit) := Rows.targetTellsRow.laid
set_option maxRecDepth 100000 in
theorem laid9_met (os : Os) (args : Array Value) : laidMetH Tryz.prog laid9 ((World.laidAll Tryz.prog os laid9).forCall (fun _ _ => 0) ⟨#[], args, []⟩).memory := by
  rw [MakeChecks.laidMetH_plain _ _ _ (by kernel_rfl)]
  exact laidMet_laidAll _ (by kernel_rfl) (by kernel_rfl)

theorem iface_of_trod {H : Type} {enc : TypeId × Value → H} {P : Program} {w : World} {base : Nat} {sp : Nat → Bool} {held : Bool} {fuel : Nat} {t : TypeId} {ms : Array (String × TypeId)} {cs : List Value} {x : DataW H × List MemPlace}
    (ht : P.underlying t = some (.interface ms)) (h : DataW.trod enc P w base sp held fuel t cs = some x) : ∃ v, cs = [v] ∧ (v = .nilIface ∨ ∃ te pe, v = .iface te pe) := by
  cases fuel with
  | zero => simp [DataW.trod] at h
  | succ fuel =>
    match cs, h with
    | [], h => simp [DataW.trod, ht] at h
    | [v], h =>
      cases v with
      | nilIface => exact ⟨_, rfl, .inl rfl⟩
      | iface u y => exact ⟨_, rfl, .inr ⟨u, y, rfl⟩⟩
      | _ => simp [DataW.trod, ht] at h
    | _ :: _ :: _, h => simp [DataW.trod, ht] at h

theorem iface_of_reads {P : Program} {W : World} {name : String} {d : DataW Unit} {g : Nat} {t : TypeId} {ms : Array (String × TypeId)}
    (hg : P.globalNamed name = some g) (hty : (P.globals[g]?).map (·.type) = some t) (ht : P.underlying t = some (.interface ms)) (h : VarReads P W name d) :
    ∃ ev, W.cell? ⟨g, 0, none⟩ = some ev ∧ (ev = .nilIface ∨ ∃ te pe, ev = .iface te pe) := by
  obtain ⟨g', t', cs, fuel, p, hg', ht', hvar, hd⟩ := h
  obtain rfl := Option.some.inj (hg.symm.trans hg')
  obtain rfl := Option.some.inj (hty.symm.trans ht')
  obtain ⟨v, hv, hs⟩ := iface_of_trod ht hd
  have := World.var?_cell hg hvar 0
  refine ⟨v, ?_, hs⟩
  rw [this, ← Array.getElem?_toList, hv]
  rfl
set_option maxRecDepth 100000 in
theorem errs_of_laid {W : World} (hL0 : laidMetH Tryz.prog laid9 W) : Errs W := by
  rw [MakeChecks.laidMetH_plain _ _ _ (by kernel_rfl)] at hL0
  exact ⟨iface_of_reads (by kernel_rfl) (by kernel_rfl) Tryz.underlying40 (Lib.laidMet.reads hL0 (.tail _ (.tail _ (.tail _ (.tail _ (.tail _ (.head _))))))),
    iface_of_reads (by kernel_rfl) (by kernel_rfl) Tryz.underlying40 (Lib.laidMet.reads hL0 (.tail _ (.tail _ (.tail _ (.tail _ (.head _))))))⟩

end Go.Proofs.YtbbdifcmhoobaaaGreatDoor
