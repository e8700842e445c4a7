/- What every law over package bare needs to be lifted to its row: the tables, as the rows list them, and a world in which they lie. -/
import Derived.Test.YtjbipplaacgnkaaGreatDoorShelf
import Derived.Test.YtjbipplaacgnkaaGreatDoorTie
import Derived.Test.YtjbipplaacgnkaaGreatDoorCards
import Derived.Test.YtjbipplaacgnkaaGreatDoorGD
import Derived.ProofKit
import Derived.PinnedBridge
import Derived.Lay
import Derived.Lib.LaidTab
import Derived.Lib.LaidU8
import Derived.Lib.SmallJoins
import Derived.SevenTiedAt
import Derived.SizedLaws
import Derived.OpenShut

namespace Go.Proofs.YtjbipplaacgnkaaGreatDoor
open Go.ChangeShapes Go.WideShapes Go.ChangeAt Go.RowKit Go.Shelf Go.Lib

theorem own : ownKnob Tryz.prog.godebug = none := by kernel_rfl
theorem laidOut : laidOutB Tryz.prog = true := by kernel_rfl

/-- The variables that the rows list. -/
def laid2 : List (String × DataW Unit) := Rows.membersJoinRow.laid

theorem tabIs_of_reads {P : Program} {W : World} {name : String} {k : IntKind} {zs : List Int} {g : Nat} {t e : TypeId} {n : Nat}
    (hg : P.globalNamed name = some g) (hty : (P.globals[g]?).map (·.type) = some t) (ht : P.underlying t = some (.array n e)) (he : P.underlying e = some (.int k)) (hce : P.cellsOf e = 1) (hct : P.cellsOf t = n)
    (h : VarReads P W name (tabData k zs)) : TabIs P W name k zs := by
  obtain ⟨g', t', cs, fuel, p, hg', ht', hvar, hd⟩ := h
  obtain rfl := Option.some.inj (hg.symm.trans hg')
  obtain rfl := Option.some.inj (hty.symm.trans ht')
  unfold TabIs
  rw [hvar, ← cells_of_tab ht he hce hct hd]

theorem pow_eq : (Rows.laid_internal_strconv_uint64pow10 : DataW Unit) = tabData .u64 pow10Tab := by kernel_rfl
theorem alph_eq : (Rows.laid_scullery_bare_alphabet : DataW Unit) = tabData .u8 (alphL.map fun c => (c.toNat : Int)) := by kernel_rfl

set_option maxRecDepth 100000 in
theorem pow_of_laid {W : World} (hL0 : laidMetH Tryz.prog laid2 W) : Pow W := by
  rw [MakeChecks.laidMetH_plain _ _ _ (by kernel_rfl)] at hL0
  exact tabIs_of_reads (g := 4) (t := 212) (e := 202) (n := 20) (by kernel_rfl) (by kernel_rfl) Tryz.underlying212 Tryz.underlying202 (by kernel_rfl) (by kernel_rfl)
    (pow_eq ▸ Lib.laidMet.reads hL0 (.tail _ (.tail _ (.head _))))

theorem alp_tab (j : Nat) (h : j < 64) : (alphL.map fun c => (c.toNat : Int)).getD j 0 = ((alp j).toNat : Int) := by
  have : ∀ i : Fin 64, (alphL.map fun c => (c.toNat : Int)).getD i.val 0 = ((alp i.val).toNat : Int) := by decide +kernel
  exact this ⟨j, h⟩

set_option maxRecDepth 100000 in
theorem alph_of_laid {W : World} (hL0 : laidMetH Tryz.prog laid2 W) : Alph W := by
  rw [MakeChecks.laidMetH_plain _ _ _ (by kernel_rfl)] at hL0
  have h := tabIs_of_reads (g := 2) (t := 208) (e := 5) (n := 64) (by kernel_rfl) (by kernel_rfl) Tryz.underlying208 Tryz.underlying5 (by kernel_rfl) (by kernel_rfl)
    (alph_eq ▸ Lib.laidMet.reads hL0 (.tail _ (.tail _ (.tail _ (.tail _ (.head _))))))
  intro j hj
  have := TabIs.cell h (g := 2) (by kernel_rfl) j (by simpa [alphL] using hj)
  rw [alp_tab j hj] at this
  exact this

set_option maxRecDepth 100000 in
theorem laid2_met (os : Os) (args : Array Value) : laidMetH Tryz.prog laid2 ((World.laidAll Tryz.prog os laid2).forCall (fun _ _ => 0) ⟨#[], args, []⟩).memory := by
  rw [MakeChecks.laidMetH_plain _ _ _ (by kernel_rfl)]
  exact laidMet_laidAll _ (by kernel_rfl) (by kernel_rfl)

section
variable {H : Type} {enc : TypeId × Value → H} {W : World} {base : Nat}

set_option maxRecDepth 100000 in
theorem open_bare {v : Value} {d : DataW H} {p : List MemPlace} (hv : Value.okWide Tryz.prog W .any base 43 v) (h : DataW.Trod enc Tryz.prog W 0 (fun _ => true) true 43 v d p) :
    ∃ (k n : Int) (s : ByteArray), v = .agg #[.int .i64 k, .int .i64 n, .string s] ∧ (-9223372036854775808 ≤ k ∧ k ≤ 9223372036854775807) ∧ (-9223372036854775808 ≤ n ∧ n ≤ 9223372036854775807) ∧ s.size ≤ maxLen := by
  obtain ⟨v0, v1, v2, y0, y1, y2, n, rfl, _, _, h0, h1, h2⟩ := Joins.open_agg3 Tryz.underlying43 (by kernel_rfl) (by kernel_rfl) hv h
  obtain ⟨a, e0, _, w0⟩ := DataW.trod_int Tryz.underlying3 h0
  obtain ⟨b, e1, _, w1⟩ := DataW.trod_int Tryz.underlying2 h1
  obtain ⟨s, e2, _, w2⟩ := DataW.trod_string Tryz.underlying9 h2
  simp only [List.cons.injEq, and_true] at e0 e1 e2
  subst e0 e1 e2
  refine ⟨a, b, s, rfl, ?_, ?_, w2⟩
  · simpa [Lit.wf, IntKind.min, IntKind.max, IntKind.signed, IntKind.bits] using w0
  · simpa [Lit.wf, IntKind.min, IntKind.max, IntKind.signed, IntKind.bits] using w1
end

end Go.Proofs.YtjbipplaacgnkaaGreatDoor
