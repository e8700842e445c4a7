/- What the laws over package modern need to be lifted to their rows: the tables, as the rows list them, and a world in which they lie; fields, texts and numbers as arguments, opened. -/
import Derived.Test.YtpifbgefkbhopaaGreatDoorShelf
import Derived.Test.YtpifbgefkbhopaaGreatDoorTie
import Derived.Test.YtpifbgefkbhopaaGreatDoorCards
import Derived.Test.YtpifbgefkbhopaaGreatDoorZMOpnF
import Derived.Test.YtpifbgefkbhopaaGreatDoorZMBarC
import Derived.Test.YtpifbgefkbhopaaGreatDoorZMLgA
import Derived.ProofKit
import Derived.PinnedBridge
import Derived.Lay
import Derived.Lib.LaidU8T
import Derived.Lib.LaidTab
import Derived.Lib.LaidU8
import Derived.SevenTiedAt
import Derived.SizedLaws
import Derived.SliceStrings
import Derived.OpenShut
import Derived.Lib.SmallJoins
import Derived.Deep.Slices
import Derived.Deep.Fields
import Derived.ChangeSame
import Derived.Deep.Strs

namespace Go.Proofs.YtpifbgefkbhopaaGreatDoor
open Go.ChangeShapes Go.WideShapes Go.ChangeAt Go.RowKit Go.Shelf Go.Lib

theorem own : ownKnob Tryz.prog.godebug = none := by kernel_rfl
theorem laidOut : laidOutB Tryz.prog = true := by kernel_rfl
/-- The variables that the rows list. -/
def laid2 : List (String × DataW Unit) := Rows.modernAloneRow.laid
theorem accept_eq : (Rows.laid_unicode_utf8_acceptRanges : DataW Unit) = acceptData := by kernel_rfl
theorem u8x : U8Extra Tryz.prog Tryz.lays260_ren := ⟨by kernel_rfl, by kernel_rfl, by kernel_rfl, by kernel_rfl, by kernel_rfl, by kernel_rfl, by kernel_rfl⟩
theorem tabs_of_laid {W : World} (hL0 : laidMetH Tryz.prog laid2 W) : Tabs W := by
  rw [MakeChecks.laidMetH_plain _ _ _ (by kernel_rfl)] at hL0
  exact utf8Tabs_of_readsT (U8Types.of260 Tryz.lays260) u8x (Pinned.utf8First_eq ▸ Lib.laidMet.reads hL0 (.tail _ (.tail _ (.head _)))) (accept_eq ▸ Lib.laidMet.reads hL0 (.head _))
theorem tabIs_of_reads {P : Program} {W : World} {name : String} {k : IntKind} {zs : List Int} {g : Nat} {t e : TypeId} {n : Nat}
    (hg : P.globalNamed name = some g) (hty : (P.globals[g]?).map (·.type) = some t) (ht : P.underlying t = some (.array n e)) (he : P.underlying e = some (.int k)) (hce : P.cellsOf e = 1) (hct : P.cellsOf t = n)
    (h : VarReads P W name (tabData k zs)) : TabIs P W name k zs := by
  obtain ⟨g', t', cs, fuel, p, hg', ht', hvar, hd⟩ := h
  obtain rfl := Option.some.inj (hg.symm.trans hg')
  obtain rfl := Option.some.inj (hty.symm.trans ht')
  unfold TabIs
  rw [hvar, ← cells_of_tab ht he hce hct hd]

theorem alph_eq : (Rows.laid_scullery_bare_alphabet : DataW Unit) = tabData .u8 (alphL.map fun c => (c.toNat : Int)) := by kernel_rfl

theorem alp_tab (j : Nat) (h : j < 64) : (alphL.map fun c => (c.toNat : Int)).getD j 0 = ((alp j).toNat : Int) := by
  have : ∀ i : Fin 64, (alphL.map fun c => (c.toNat : Int)).getD i.val 0 = ((alp i.val).toNat : Int) := by decide +kernel
  exact this ⟨j, h⟩

set_option maxRecDepth 100000 in
theorem alph_of_laid {W : World} (hL0 : laidMetH Tryz.prog laid2 W) : Alph W := by
  rw [MakeChecks.laidMetH_plain _ _ _ (by kernel_rfl)] at hL0
  have h := tabIs_of_reads (g := 3) (t := 231) (e := 5) (n := 64) (by kernel_rfl) (by kernel_rfl) Tryz.underlying231 Tryz.underlying5 (by kernel_rfl) (by kernel_rfl)
    (alph_eq ▸ Lib.laidMet.reads hL0 (.tail _ (.head _)))
  intro j hj
  have := TabIs.cell h (g := 3) (by kernel_rfl) j (by simpa [alphL] using hj)
  rw [alp_tab j hj] at this
  exact this

theorem laid2_met (os : Os) (args : Array Value) : laidMetH Tryz.prog laid2 ((World.laidAll Tryz.prog os laid2).forCall (fun _ _ => 0) ⟨#[], args, []⟩).memory := by
  rw [MakeChecks.laidMetH_plain _ _ _ (by kernel_rfl)]
  exact laidMet_laidAll _ (by kernel_rfl) (by kernel_rfl)

end Go.Proofs.YtpifbgefkbhopaaGreatDoor
