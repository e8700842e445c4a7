/-
  NARROWER THAN 'FOR EVERY INPUT', by the rows' own cells (each row's printed sentence says how): AgeTells: laid · AgeGrows: laid · AgeTold: laid.
  DERIVED. THE GIVEN ROWS OF THIS SEAT. 3 by the template 'for every input the law returns true; each argument reads behind the call as it read before'; 0 by the template 'total and deterministic' (their statements: YtgffnjdmhpfneaaDoorTotals.lean).
  GIVEN WITH THE SEED: the statements are not yours to turn. If you find one false, say at which input.
  Laid BY PROGRAM, IN A SANDBOX (cutbox-rows.mjs): the forced cells as the released guide's own fill.sh prints them over the translation a62718dbc9185f58… (all of the seat's roots in one cut). By AI agents, Wed Nov 11 2026. No macro, syntax, notation, axiom, sorry.
-/
import Derived.Test.YtgffnjdmhpfneaaDoorChecked
import GoSem.Claim
import GoSem.ClaimJoined
import GoSem.ClaimMapViews
import Derived.JoinedTies
import Derived.KernelRfl
namespace Go.Proofs.YtgffnjdmhpfneaaDoor
/- THE CELL 'sum', in the pinned program and in every row, IS THE sha256 OF THE DUMP (.gsa) THAT YtgffnjdmhpfneaaDoorProg.lean LOADS. Nothing in Lean hashes anything: it is a label: what it is worth is what the hold of that sum in a sandbox is worth. -/
noncomputable def Tryd.pinned : Pinned := { name := "ytgffnjdmhpfneaadoor", sum := "a62718dbc9185f5849227ceb1254b6c4a46a653cd2864a6d4608c0d0cca47da2", checked := Tryd.checked }
namespace Rows
def none {H : Type} : Left H := { results := [], args := [] }

/- WHAT THE LISTED PACKAGE-LEVEL VARIABLES READ AS WHEN THE CALL BEGINS. Each datum BY PROGRAM (the guide's laid-datum.mjs) off the statement by which the dump's own 'gosem.cut.vars' lays the variable. In a bare row this is a premise. The card (YtgffnjdmhpfneaaDoorCards.lean) ties it to the program's text. -/
def laid_scullery_date_monthDays {H : Type} : DataW H := .agg [.lit (.int .i64 31), .lit (.int .i64 28), .lit (.int .i64 31), .lit (.int .i64 30), .lit (.int .i64 31), .lit (.int .i64 30), .lit (.int .i64 31), .lit (.int .i64 31), .lit (.int .i64 30), .lit (.int .i64 31), .lit (.int .i64 30), .lit (.int .i64 31)]
def laid_scullery_date_weekdays {H : Type} : DataW H := .agg [.lit (.string [83, 117, 110, 100, 97, 121]), .lit (.string [77, 111, 110, 100, 97, 121]), .lit (.string [84, 117, 101, 115, 100, 97, 121]), .lit (.string [87, 101, 100, 110, 101, 115, 100, 97, 121]), .lit (.string [84, 104, 117, 114, 115, 100, 97, 121]), .lit (.string [70, 114, 105, 100, 97, 121]), .lit (.string [83, 97, 116, 117, 114, 100, 97, 121])]
def laid_scullery_date_months {H : Type} : DataW H := .agg [.lit (.string [74, 97, 110]), .lit (.string [70, 101, 98]), .lit (.string [77, 97, 114]), .lit (.string [65, 112, 114]), .lit (.string [77, 97, 121]), .lit (.string [74, 117, 110]), .lit (.string [74, 117, 108]), .lit (.string [65, 117, 103]), .lit (.string [83, 101, 112]), .lit (.string [79, 99, 116]), .lit (.string [78, 111, 118]), .lit (.string [68, 101, 99])]

/-- 'scullerylaw13.AgeTells': WHATEVER THE INPUT: true; the input reads as it did. -/
def ageTellsSpec : ChangeSpec := { name := "ageTells", fn := fun _ => fun
  | [d1, d2, d3] => { results := [.lit (.bool true)], args := [d1, d2, d3] }
  | _ => none }
def ageTellsRow : OpenClaim := { program := "ytgffnjdmhpfneaadoor", sum := "a62718dbc9185f5849227ceb1254b6c4a46a653cd2864a6d4608c0d0cca47da2", func := "scullery/scullerylaw13.AgeTells", spec := "ageTells", inPlace := ["internal/abi.NoEscape", "internal/bytealg.MakeNoZero"], unfollowed := true, recurses := true, named := ["scullery/date.weekdays", "scullery/date.months", "scullery/date.monthDays"], apart := false, laid := [("scullery/date.monthDays", laid_scullery_date_monthDays), ("scullery/date.weekdays", laid_scullery_date_weekdays), ("scullery/date.months", laid_scullery_date_months)] }
def AgeTellsSaid : Prop := ageTellsRow.holds Tryd.pinned (OpenSpec.ofChange ageTellsSpec)

/-- ITS FALSE NEIGHBOUR: 'it returns false'. Refute it at one input. -/
def ageTellsWrong : ChangeSpec := { name := "ageTells", fn := fun _ => fun
  | [d1, d2, d3] => { results := [.lit (.bool false)], args := [d1, d2, d3] }
  | _ => none }
def AgeTellsWrongFalsely : Prop := ageTellsRow.holds Tryd.pinned (OpenSpec.ofChange ageTellsWrong)

/-- 'scullerylaw13.AgeGrows': WHATEVER THE INPUT: true; the input reads as it did. -/
def ageGrowsSpec : ChangeSpec := { name := "ageGrows", fn := fun _ => fun
  | [d1, d2] => { results := [.lit (.bool true)], args := [d1, d2] }
  | _ => none }
def ageGrowsRow : OpenClaim := { program := "ytgffnjdmhpfneaadoor", sum := "a62718dbc9185f5849227ceb1254b6c4a46a653cd2864a6d4608c0d0cca47da2", func := "scullery/scullerylaw13.AgeGrows", spec := "ageGrows", inPlace := ["internal/abi.NoEscape", "internal/bytealg.MakeNoZero"], unfollowed := true, recurses := true, named := ["scullery/date.weekdays", "scullery/date.months", "scullery/date.monthDays"], apart := false, laid := [("scullery/date.monthDays", laid_scullery_date_monthDays), ("scullery/date.weekdays", laid_scullery_date_weekdays), ("scullery/date.months", laid_scullery_date_months)] }
def AgeGrowsSaid : Prop := ageGrowsRow.holds Tryd.pinned (OpenSpec.ofChange ageGrowsSpec)

/-- ITS FALSE NEIGHBOUR: 'it returns false'. Refute it at one input. -/
def ageGrowsWrong : ChangeSpec := { name := "ageGrows", fn := fun _ => fun
  | [d1, d2] => { results := [.lit (.bool false)], args := [d1, d2] }
  | _ => none }
def AgeGrowsWrongFalsely : Prop := ageGrowsRow.holds Tryd.pinned (OpenSpec.ofChange ageGrowsWrong)

/-- 'scullerylaw13.AgeTold': WHATEVER THE INPUT: true; the input reads as it did. -/
def ageToldSpec : ChangeSpec := { name := "ageTold", fn := fun _ => fun
  | [d1, d2, d3] => { results := [.lit (.bool true)], args := [d1, d2, d3] }
  | _ => none }
def ageToldRow : OpenClaim := { program := "ytgffnjdmhpfneaadoor", sum := "a62718dbc9185f5849227ceb1254b6c4a46a653cd2864a6d4608c0d0cca47da2", func := "scullery/scullerylaw13.AgeTold", spec := "ageTold", inPlace := ["internal/abi.NoEscape", "internal/bytealg.MakeNoZero"], unfollowed := true, recurses := true, named := ["scullery/date.weekdays", "scullery/date.months", "scullery/date.monthDays"], apart := false, laid := [("scullery/date.monthDays", laid_scullery_date_monthDays), ("scullery/date.weekdays", laid_scullery_date_weekdays), ("scullery/date.months", laid_scullery_date_months)] }
def AgeToldSaid : Prop := ageToldRow.holds Tryd.pinned (OpenSpec.ofChange ageToldSpec)

/-- ITS FALSE NEIGHBOUR: 'it returns false'. Refute it at one input. -/
def ageToldWrong : ChangeSpec := { name := "ageTold", fn := fun _ => fun
  | [d1, d2, d3] => { results := [.lit (.bool false)], args := [d1, d2, d3] }
  | _ => none }
def AgeToldWrongFalsely : Prop := ageToldRow.holds Tryd.pinned (OpenSpec.ofChange ageToldWrong)

/- THE SECOND FORM. 'bulk': how many values and letters a reading holds, each counted each time it is reached (what is shared counts as often as it is met; a slice's spare places count too). A statement '..UptoSaid' is the law's where the arguments, and the package variables that the reading takes, are together of bulk at most 1048576: NARROWER than '..Said'. Prove '..Said' where nothing that the law and all that it calls make is longer than what came in: it says more and counts as full. Else prove '..UptoSaid'. A law counts once. -/
mutual
def uptoBulk {H : Type} : DataW H → Nat
  | .lit (.string bytes) => bytes.length + 1
  | .lit _ => 1
  | .nil => 1
  | .ptr d => uptoBulk d + 1
  | .slice elems spare => uptoBulkAll elems + uptoBulkAll spare + 1
  | .agg parts => uptoBulkAll parts + 1
  | .iface _ d => uptoBulk d + 1
  | .map entries => uptoBulkEntries entries + 1
  | .held _ => 1
def uptoBulkAll {H : Type} : List (DataW H) → Nat
  | [] => 0
  | d :: r => uptoBulk d + uptoBulkAll r
def uptoBulkEntries {H : Type} : List (Lit × DataW H) → Nat
  | [] => 0
  | x :: r => uptoBulkEntry x + uptoBulkEntries r
def uptoBulkEntry {H : Type} : Lit × DataW H → Nat
  | (.string bytes, d) => bytes.length + uptoBulk d + 1
  | (_, d) => uptoBulk d + 1
 end
def uptoSmall : (H : Type) → List (DataW H) → Bool := fun _ ds => decide (uptoBulkAll ds ≤ 1048576)
def OpenSpec.upto (s : _root_.Go.ChangeSpec) : _root_.Go.OpenSpec := { _root_.Go.OpenSpec.ofChange s with cond := some uptoSmall }

/-- 'scullerylaw13.AgeTells', WHERE WHAT IT READS IS OF BULK AT MOST 1048576: true; the input reads as it did. -/
def ageTellsUptoRow : OpenClaim := { program := "ytgffnjdmhpfneaadoor", sum := "a62718dbc9185f5849227ceb1254b6c4a46a653cd2864a6d4608c0d0cca47da2", func := "scullery/scullerylaw13.AgeTells", spec := "ageTells", inPlace := ["internal/abi.NoEscape", "internal/bytealg.MakeNoZero"], unfollowed := true, recurses := true, named := ["scullery/date.weekdays", "scullery/date.months", "scullery/date.monthDays"], apart := false, laid := [("scullery/date.monthDays", laid_scullery_date_monthDays), ("scullery/date.weekdays", laid_scullery_date_weekdays), ("scullery/date.months", laid_scullery_date_months)], narrowed := true }
def AgeTellsUptoSaid : Prop := ageTellsUptoRow.holds Tryd.pinned (OpenSpec.upto ageTellsSpec)

/-- 'scullerylaw13.AgeGrows', WHERE WHAT IT READS IS OF BULK AT MOST 1048576: true; the input reads as it did. -/
def ageGrowsUptoRow : OpenClaim := { program := "ytgffnjdmhpfneaadoor", sum := "a62718dbc9185f5849227ceb1254b6c4a46a653cd2864a6d4608c0d0cca47da2", func := "scullery/scullerylaw13.AgeGrows", spec := "ageGrows", inPlace := ["internal/abi.NoEscape", "internal/bytealg.MakeNoZero"], unfollowed := true, recurses := true, named := ["scullery/date.weekdays", "scullery/date.months", "scullery/date.monthDays"], apart := false, laid := [("scullery/date.monthDays", laid_scullery_date_monthDays), ("scullery/date.weekdays", laid_scullery_date_weekdays), ("scullery/date.months", laid_scullery_date_months)], narrowed := true }
def AgeGrowsUptoSaid : Prop := ageGrowsUptoRow.holds Tryd.pinned (OpenSpec.upto ageGrowsSpec)

/-- 'scullerylaw13.AgeTold', WHERE WHAT IT READS IS OF BULK AT MOST 1048576: true; the input reads as it did. -/
def ageToldUptoRow : OpenClaim := { program := "ytgffnjdmhpfneaadoor", sum := "a62718dbc9185f5849227ceb1254b6c4a46a653cd2864a6d4608c0d0cca47da2", func := "scullery/scullerylaw13.AgeTold", spec := "ageTold", inPlace := ["internal/abi.NoEscape", "internal/bytealg.MakeNoZero"], unfollowed := true, recurses := true, named := ["scullery/date.weekdays", "scullery/date.months", "scullery/date.monthDays"], apart := false, laid := [("scullery/date.monthDays", laid_scullery_date_monthDays), ("scullery/date.weekdays", laid_scullery_date_weekdays), ("scullery/date.months", laid_scullery_date_months)], narrowed := true }
def AgeToldUptoSaid : Prop := ageToldUptoRow.holds Tryd.pinned (OpenSpec.upto ageToldSpec)

end Rows
end Go.Proofs.YtgffnjdmhpfneaaDoor
