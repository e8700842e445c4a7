/- What the laws over package age need to be lifted to their rows: package date's tables, as the rows list them, and a world in which they lie. -/
import Derived.Test.YtgffnjdmhpfneaaDoorShelf
import Derived.Test.YtgffnjdmhpfneaaDoorTie
import Derived.Test.YtgffnjdmhpfneaaDoorCards
import Derived.Test.YtgffnjdmhpfneaaDoorZMDatA
import Derived.ProofKit
import Derived.PinnedBridge
import Derived.Lay
import Derived.Lib.LaidTab
import Derived.Lib.LaidU8
import Derived.Lib.SmallJoins
import Derived.SevenTiedAt
import Derived.SizedLaws
import Derived.OpenShut

namespace Go.Proofs.YtgffnjdmhpfneaaDoor
open Go.ChangeShapes Go.WideShapes Go.ChangeAt Go.RowKit Go.Shelf Go.Lib

theorem own : ownKnob Tryd.prog.godebug = none := by kernel_rfl
theorem laidOut : laidOutB Tryd.prog = true := by kernel_rfl
/-- The variables that the rows list. -/
def laid13 : List (String × DataW Unit) := Rows.ageGrowsRow.laid

theorem tabIs_of_reads {P : Program} {W : World} {name : String} {k : IntKind} {zs : List Int} {g : Nat} {t e : TypeId} {n : Nat}
    (hg : P.globalNamed name = some g) (hty : (P.globals[g]?).map (·.type) = some t) (ht : P.underlying t = some (.array n e)) (he : P.underlying e = some (.int k)) (hce : P.cellsOf e = 1) (hct : P.cellsOf t = n)
    (h : VarReads P W name (tabData k zs)) : TabIs P W name k zs := by
  obtain ⟨g', t', cs, fuel, p, hg', ht', hvar, hd⟩ := h
  obtain rfl := Option.some.inj (hg.symm.trans hg')
  obtain rfl := Option.some.inj (hty.symm.trans ht')
  unfold TabIs
  rw [hvar, ← cells_of_tab ht he hce hct hd]

/-- A table of texts, as a row lists it. -/
def strData (ss : List (List UInt8)) : DataW Unit := .agg (ss.map fun l => .lit (.string l))

theorem cells_of_strs {enc : TypeId × Value → Unit} {P : Program} {w : World} {base : Nat} {sp : Nat → Bool} {held : Bool} {fuel : Nat} {t e : TypeId} {n : Nat} {cs : List Value} {ss : List (List UInt8)} {p : List MemPlace}
    (ht : P.underlying t = some (.array n e)) (he : P.underlying e = some .string) (hce : P.cellsOf e = 1) (hct : P.cellsOf t = n)
    (h : DataW.trod enc P w base sp held fuel t cs = some (strData ss, p)) : cs = ss.map fun l => Value.string (strB l) := by
  cases fuel with
  | zero => simp [DataW.trod] at h
  | succ fuel =>
    simp only [DataW.trod, ht, hce, hct, Nat.mul_one] at h
    split at h
    · rename_i hl
      obtain ⟨xs, hm, hx⟩ := Option.map_eq_some_iff.1 h
      have hxs : xs.map (·.1) = ss.map fun l => (DataW.lit (.string l) : DataW Unit) := by
        have := congrArg Prod.fst hx
        simpa [strData] using this
      have hxl : xs.length = n := by simpa using mapM_length hm
      have hzl : ss.length = n := by
        have := congrArg List.length hxs
        simp at this
        omega
      apply List.ext_getElem?
      intro i
      by_cases hi : i < n
      · obtain ⟨b, hb, hf⟩ := mapM_at hm i i (by simp [hi])
        obtain ⟨s, hc, rfl, _⟩ := DataW.trod_string he hf
        have h1 : cs[i]? = some (.string s) := by
          have := congrArg (·[0]?) hc
          simpa [List.getElem?_take, List.getElem?_drop] using this
        have h2 : (xs.map (·.1))[i]? = some (DataW.lit (.string s.data.toList) : DataW Unit) := by simp [hb]
        rw [hxs] at h2
        simp only [List.getElem?_map, Option.map_eq_some_iff, DataW.lit.injEq, Lit.string.injEq] at h2
        obtain ⟨l, hl', rfl⟩ := h2
        simp [h1, hl', strB_of]
      · rw [List.getElem?_eq_none (by omega), List.getElem?_eq_none (by simp; omega)]
    · cases h

theorem strs_of_reads {P : Program} {W : World} {name : String} {ss : List (List UInt8)} {g : Nat} {t e : TypeId} {n : Nat}
    (hg : P.globalNamed name = some g) (hty : (P.globals[g]?).map (·.type) = some t) (ht : P.underlying t = some (.array n e)) (he : P.underlying e = some .string) (hce : P.cellsOf e = 1) (hct : P.cellsOf t = n)
    (h : VarReads P W name (strData ss)) (j : Nat) (hj : j < ss.length) : W.cell? ⟨g, j, none⟩ = some (.string (strB (ss.getD j []))) := by
  obtain ⟨g', t', cs, fuel, p, hg', ht', hvar, hd⟩ := h
  obtain rfl := Option.some.inj (hg.symm.trans hg')
  obtain rfl := Option.some.inj (hty.symm.trans ht')
  have hcs := cells_of_strs ht he hce hct hd
  have hv : W.var? P name = some (ss.map fun l => Value.string (strB l)).toArray := by rw [hvar, ← hcs]
  have := World.var?_cell hg hv j
  simpa [List.getD, hj] using this

theorem md_eq : (Rows.laid_scullery_date_monthDays : DataW Unit) = tabData .i64 (mdT.map fun c : Nat => (c : Int)) := by kernel_rfl
theorem wk_eq : (Rows.laid_scullery_date_weekdays : DataW Unit) = strData [wkT 0, wkT 1, wkT 2, wkT 3, wkT 4, wkT 5, wkT 6] := by kernel_rfl
theorem mo_eq : (Rows.laid_scullery_date_months : DataW Unit) = strData [moT 1, moT 2, moT 3, moT 4, moT 5, moT 6, moT 7, moT 8, moT 9, moT 10, moT 11, moT 12] := by kernel_rfl

set_option maxRecDepth 100000 in
theorem cal_of_laid {W : World} (hL0 : laidMetH Tryd.prog laid13 W) : Cal W := by
  rw [MakeChecks.laidMetH_plain _ _ _ (by kernel_rfl)] at hL0
  have h1 := tabIs_of_reads (g := 1) (t := 109) (e := 3) (n := 12) (by kernel_rfl) (by kernel_rfl) Tryd.underlying109 Tryd.underlying3 (by kernel_rfl) (by kernel_rfl)
    (md_eq ▸ Lib.laidMet.reads hL0 (.head _))
  have h2 := strs_of_reads (g := 0) (t := 97) (e := 9) (n := 7) (by kernel_rfl) (by kernel_rfl) Tryd.underlying97 Tryd.underlying9 (by kernel_rfl) (by kernel_rfl)
    (wk_eq ▸ Lib.laidMet.reads hL0 (.tail _ (.head _)))
  have h3 := strs_of_reads (g := 3) (t := 111) (e := 9) (n := 12) (by kernel_rfl) (by kernel_rfl) Tryd.underlying111 Tryd.underlying9 (by kernel_rfl) (by kernel_rfl)
    (mo_eq ▸ Lib.laidMet.reads hL0 (.tail _ (.tail _ (.head _))))
  refine ⟨fun j hj => ?_, fun j hj => ?_, fun j hj => ?_⟩
  · have := TabIs.cell h1 (g := 1) (by kernel_rfl) j (by simpa [mdT] using hj)
    rw [this]
    have hall : ∀ i : Fin 12, (mdT.map fun c : Nat => (c : Int)).getD i.val 0 = ((mdT.getD i.val 0 : Nat) : Int) := by decide
    rw [hall ⟨j, hj⟩]
  · have := h2 j (by simpa using hj)
    rw [this]
    have hall : ∀ i : Fin 7, ([wkT 0, wkT 1, wkT 2, wkT 3, wkT 4, wkT 5, wkT 6] : List (List UInt8)).getD i.val [] = wkT i.val := by decide
    rw [hall ⟨j, hj⟩]
  · have := h3 j (by simpa using hj)
    rw [this]
    have hall : ∀ i : Fin 12, ([moT 1, moT 2, moT 3, moT 4, moT 5, moT 6, moT 7, moT 8, moT 9, moT 10, moT 11, moT 12] : List (List UInt8)).getD i.val [] = moT (i.val + 1) := by decide
    rw [hall ⟨j, hj⟩]

set_option maxRecDepth 100000 in
theorem laid13_met (os : Os) (args : Array Value) : laidMetH Tryd.prog laid13 ((World.laidAll Tryd.prog os laid13).forCall (fun _ _ => 0) ⟨#[], args, []⟩).memory := by
  rw [MakeChecks.laidMetH_plain _ _ _ (by kernel_rfl)]
  exact laidMet_laidAll _ (by kernel_rfl) (by kernel_rfl)


end Go.Proofs.YtgffnjdmhpfneaaDoor
