/-
  NARROWER THAN 'FOR EVERY INPUT', by the rows' own cells (each row's printed sentence says how): PolicyTells: laid · PolicyJudges: laid · PolicyTargeted: laid · PolicyYounger: laid.
  DERIVED. THE GIVEN ROWS OF THIS SEAT. 4 by the template 'for every input the law returns true; each argument reads behind the call as it read before'; 0 by the template 'total and deterministic' (their statements: YtfaedmbfabfmeaaGreatDoorTotals.lean).
  GIVEN WITH THE SEED: the statements are not yours to turn. If you find one false, say at which input.
  Laid BY PROGRAM, IN A SANDBOX (cutbox-rows.mjs): the forced cells as the released guide's own fill.sh prints them over the translation cd32a7fc1c693b36… (all of the seat's roots in one cut). By AI agents, Wed Nov 11 2026. No macro, syntax, notation, axiom, sorry.
-/
import Derived.Test.YtfaedmbfabfmeaaGreatDoorChecked
import GoSem.PinnedTables
import GoSem.Claim
import GoSem.ClaimJoined
import GoSem.ClaimMapViews
import Derived.JoinedTies
import Derived.KernelRfl
namespace Go.Proofs.YtfaedmbfabfmeaaGreatDoor
/- THE CELL 'sum', in the pinned program and in every row, IS THE sha256 OF THE DUMP (.gsa) THAT YtfaedmbfabfmeaaGreatDoorProg.lean LOADS. Nothing in Lean hashes anything: it is a label: what it is worth is what the hold of that sum in a sandbox is worth. -/
noncomputable def Tryz.pinned : Pinned := { name := "ytfaedmbfabfmeaagreatdoor", sum := "cd32a7fc1c693b36f8498585661bed5642b777478ad6f0d88121d27290f28f60", checked := Tryz.checked }
namespace Rows
def none {H : Type} : Left H := { results := [], args := [] }

/- WHAT THE LISTED PACKAGE-LEVEL VARIABLES READ AS WHEN THE CALL BEGINS. Each datum BY PROGRAM (the guide's laid-datum.mjs) off the statement by which the dump's own 'gosem.cut.vars' lays the variable. In a bare row this is a premise. The card (YtfaedmbfabfmeaaGreatDoorCards.lean) ties it to the program's text. -/
def laid_unicode_utf8_acceptRanges {H : Type} : DataW H := .agg [.agg [.lit (.int .u8 128), .lit (.int .u8 191)], .agg [.lit (.int .u8 160), .lit (.int .u8 191)], .agg [.lit (.int .u8 128), .lit (.int .u8 159)], .agg [.lit (.int .u8 144), .lit (.int .u8 191)], .agg [.lit (.int .u8 128), .lit (.int .u8 143)], .agg [.lit (.int .u8 0), .lit (.int .u8 0)], .agg [.lit (.int .u8 0), .lit (.int .u8 0)], .agg [.lit (.int .u8 0), .lit (.int .u8 0)], .agg [.lit (.int .u8 0), .lit (.int .u8 0)], .agg [.lit (.int .u8 0), .lit (.int .u8 0)], .agg [.lit (.int .u8 0), .lit (.int .u8 0)], .agg [.lit (.int .u8 0), .lit (.int .u8 0)], .agg [.lit (.int .u8 0), .lit (.int .u8 0)], .agg [.lit (.int .u8 0), .lit (.int .u8 0)], .agg [.lit (.int .u8 0), .lit (.int .u8 0)], .agg [.lit (.int .u8 0), .lit (.int .u8 0)]]
def laid_scullery_bare_alphabet {H : Type} : DataW H := .agg [.lit (.int .u8 65), .lit (.int .u8 66), .lit (.int .u8 67), .lit (.int .u8 68), .lit (.int .u8 69), .lit (.int .u8 70), .lit (.int .u8 71), .lit (.int .u8 72), .lit (.int .u8 73), .lit (.int .u8 74), .lit (.int .u8 75), .lit (.int .u8 76), .lit (.int .u8 77), .lit (.int .u8 78), .lit (.int .u8 79), .lit (.int .u8 80), .lit (.int .u8 81), .lit (.int .u8 82), .lit (.int .u8 83), .lit (.int .u8 84), .lit (.int .u8 85), .lit (.int .u8 86), .lit (.int .u8 87), .lit (.int .u8 88), .lit (.int .u8 89), .lit (.int .u8 90), .lit (.int .u8 97), .lit (.int .u8 98), .lit (.int .u8 99), .lit (.int .u8 100), .lit (.int .u8 101), .lit (.int .u8 102), .lit (.int .u8 103), .lit (.int .u8 104), .lit (.int .u8 105), .lit (.int .u8 106), .lit (.int .u8 107), .lit (.int .u8 108), .lit (.int .u8 109), .lit (.int .u8 110), .lit (.int .u8 111), .lit (.int .u8 112), .lit (.int .u8 113), .lit (.int .u8 114), .lit (.int .u8 115), .lit (.int .u8 116), .lit (.int .u8 117), .lit (.int .u8 118), .lit (.int .u8 119), .lit (.int .u8 120), .lit (.int .u8 121), .lit (.int .u8 122), .lit (.int .u8 48), .lit (.int .u8 49), .lit (.int .u8 50), .lit (.int .u8 51), .lit (.int .u8 52), .lit (.int .u8 53), .lit (.int .u8 54), .lit (.int .u8 55), .lit (.int .u8 56), .lit (.int .u8 57), .lit (.int .u8 43), .lit (.int .u8 47)]
def laid_scullery_date_monthDays {H : Type} : DataW H := .agg [.lit (.int .i64 31), .lit (.int .i64 28), .lit (.int .i64 31), .lit (.int .i64 30), .lit (.int .i64 31), .lit (.int .i64 30), .lit (.int .i64 31), .lit (.int .i64 31), .lit (.int .i64 30), .lit (.int .i64 31), .lit (.int .i64 30), .lit (.int .i64 31)]
def laid_scullery_date_weekdays {H : Type} : DataW H := .agg [.lit (.string [83, 117, 110, 100, 97, 121]), .lit (.string [77, 111, 110, 100, 97, 121]), .lit (.string [84, 117, 101, 115, 100, 97, 121]), .lit (.string [87, 101, 100, 110, 101, 115, 100, 97, 121]), .lit (.string [84, 104, 117, 114, 115, 100, 97, 121]), .lit (.string [70, 114, 105, 100, 97, 121]), .lit (.string [83, 97, 116, 117, 114, 100, 97, 121])]
def laid_scullery_date_months {H : Type} : DataW H := .agg [.lit (.string [74, 97, 110]), .lit (.string [70, 101, 98]), .lit (.string [77, 97, 114]), .lit (.string [65, 112, 114]), .lit (.string [77, 97, 121]), .lit (.string [74, 117, 110]), .lit (.string [74, 117, 108]), .lit (.string [65, 117, 103]), .lit (.string [83, 101, 112]), .lit (.string [79, 99, 116]), .lit (.string [78, 111, 118]), .lit (.string [68, 101, 99])]
/-- One of Go's own tables, pinned by name: the form's constant. -/
def laid_unicode_utf8_first : DataW Unit := Go.Pinned.utf8First

/-- 'scullerylaw14.PolicyTells': WHATEVER THE INPUT: true; the input reads as it did. -/
def policyTellsSpec : ChangeSpec := { name := "policyTells", fn := fun _ => fun
  | [d1, d2, d3] => { results := [.lit (.bool true)], args := [d1, d2, d3] }
  | _ => none }
def policyTellsRow : OpenClaim := { program := "ytfaedmbfabfmeaagreatdoor", sum := "cd32a7fc1c693b36f8498585661bed5642b777478ad6f0d88121d27290f28f60", func := "scullery/scullerylaw14.PolicyTells", spec := "policyTells", inPlace := ["internal/abi.NoEscape", "internal/bytealg.MakeNoZero", "internal/bytealg.IndexByteString", "internal/bytealg.IndexString"], unfollowed := true, recurses := true, named := ["unicode/utf8.first", "unicode/utf8.acceptRanges", "internal/bytealg.MaxLen", "scullery/bare.alphabet", "scullery/date.weekdays", "scullery/date.months", "scullery/date.monthDays"], apart := false, laid := [("unicode/utf8.acceptRanges", laid_unicode_utf8_acceptRanges), ("scullery/bare.alphabet", laid_scullery_bare_alphabet), ("scullery/date.monthDays", laid_scullery_date_monthDays), ("scullery/date.weekdays", laid_scullery_date_weekdays), ("scullery/date.months", laid_scullery_date_months), ("unicode/utf8.first", laid_unicode_utf8_first)] }
def PolicyTellsSaid : Prop := policyTellsRow.holds Tryz.pinned (OpenSpec.ofChange policyTellsSpec)

/-- ITS FALSE NEIGHBOUR: 'it returns false'. Refute it at one input. -/
def policyTellsWrong : ChangeSpec := { name := "policyTells", fn := fun _ => fun
  | [d1, d2, d3] => { results := [.lit (.bool false)], args := [d1, d2, d3] }
  | _ => none }
def PolicyTellsWrongFalsely : Prop := policyTellsRow.holds Tryz.pinned (OpenSpec.ofChange policyTellsWrong)

/-- 'scullerylaw14.PolicyJudges': WHATEVER THE INPUT: true; the input reads as it did. -/
def policyJudgesSpec : ChangeSpec := { name := "policyJudges", fn := fun _ => fun
  | [d1, d2, d3] => { results := [.lit (.bool true)], args := [d1, d2, d3] }
  | _ => none }
def policyJudgesRow : OpenClaim := { program := "ytfaedmbfabfmeaagreatdoor", sum := "cd32a7fc1c693b36f8498585661bed5642b777478ad6f0d88121d27290f28f60", func := "scullery/scullerylaw14.PolicyJudges", spec := "policyJudges", inPlace := ["internal/abi.NoEscape", "internal/bytealg.MakeNoZero", "internal/bytealg.IndexByteString", "internal/bytealg.IndexString"], unfollowed := true, recurses := true, named := ["unicode/utf8.first", "unicode/utf8.acceptRanges", "internal/bytealg.MaxLen", "scullery/bare.alphabet", "scullery/date.weekdays", "scullery/date.months", "scullery/date.monthDays"], apart := false, laid := [("unicode/utf8.acceptRanges", laid_unicode_utf8_acceptRanges), ("scullery/bare.alphabet", laid_scullery_bare_alphabet), ("scullery/date.monthDays", laid_scullery_date_monthDays), ("scullery/date.weekdays", laid_scullery_date_weekdays), ("scullery/date.months", laid_scullery_date_months), ("unicode/utf8.first", laid_unicode_utf8_first)] }
def PolicyJudgesSaid : Prop := policyJudgesRow.holds Tryz.pinned (OpenSpec.ofChange policyJudgesSpec)

/-- ITS FALSE NEIGHBOUR: 'it returns false'. Refute it at one input. -/
def policyJudgesWrong : ChangeSpec := { name := "policyJudges", fn := fun _ => fun
  | [d1, d2, d3] => { results := [.lit (.bool false)], args := [d1, d2, d3] }
  | _ => none }
def PolicyJudgesWrongFalsely : Prop := policyJudgesRow.holds Tryz.pinned (OpenSpec.ofChange policyJudgesWrong)

/-- 'scullerylaw14.PolicyTargeted': WHATEVER THE INPUT: true; the input reads as it did. -/
def policyTargetedSpec : ChangeSpec := { name := "policyTargeted", fn := fun _ => fun
  | [d1, d2, d3] => { results := [.lit (.bool true)], args := [d1, d2, d3] }
  | _ => none }
def policyTargetedRow : OpenClaim := { program := "ytfaedmbfabfmeaagreatdoor", sum := "cd32a7fc1c693b36f8498585661bed5642b777478ad6f0d88121d27290f28f60", func := "scullery/scullerylaw14.PolicyTargeted", spec := "policyTargeted", inPlace := ["internal/abi.NoEscape", "internal/bytealg.MakeNoZero", "internal/bytealg.IndexByteString", "internal/bytealg.IndexString"], unfollowed := true, recurses := true, named := ["unicode/utf8.first", "unicode/utf8.acceptRanges", "internal/bytealg.MaxLen", "scullery/bare.alphabet", "scullery/date.weekdays", "scullery/date.months", "scullery/date.monthDays"], apart := false, laid := [("unicode/utf8.acceptRanges", laid_unicode_utf8_acceptRanges), ("scullery/bare.alphabet", laid_scullery_bare_alphabet), ("scullery/date.monthDays", laid_scullery_date_monthDays), ("scullery/date.weekdays", laid_scullery_date_weekdays), ("scullery/date.months", laid_scullery_date_months), ("unicode/utf8.first", laid_unicode_utf8_first)] }
def PolicyTargetedSaid : Prop := policyTargetedRow.holds Tryz.pinned (OpenSpec.ofChange policyTargetedSpec)

/-- ITS FALSE NEIGHBOUR: 'it returns false'. Refute it at one input. -/
def policyTargetedWrong : ChangeSpec := { name := "policyTargeted", fn := fun _ => fun
  | [d1, d2, d3] => { results := [.lit (.bool false)], args := [d1, d2, d3] }
  | _ => none }
def PolicyTargetedWrongFalsely : Prop := policyTargetedRow.holds Tryz.pinned (OpenSpec.ofChange policyTargetedWrong)

/-- 'scullerylaw14.PolicyYounger': WHATEVER THE INPUT: true; the input reads as it did. -/
def policyYoungerSpec : ChangeSpec := { name := "policyYounger", fn := fun _ => fun
  | [d1, d2, d3] => { results := [.lit (.bool true)], args := [d1, d2, d3] }
  | _ => none }
def policyYoungerRow : OpenClaim := { program := "ytfaedmbfabfmeaagreatdoor", sum := "cd32a7fc1c693b36f8498585661bed5642b777478ad6f0d88121d27290f28f60", func := "scullery/scullerylaw14.PolicyYounger", spec := "policyYounger", inPlace := ["internal/abi.NoEscape", "internal/bytealg.MakeNoZero", "internal/bytealg.IndexByteString", "internal/bytealg.IndexString"], unfollowed := true, recurses := true, named := ["unicode/utf8.first", "unicode/utf8.acceptRanges", "internal/bytealg.MaxLen", "scullery/bare.alphabet", "scullery/date.weekdays", "scullery/date.months", "scullery/date.monthDays"], apart := false, laid := [("unicode/utf8.acceptRanges", laid_unicode_utf8_acceptRanges), ("scullery/bare.alphabet", laid_scullery_bare_alphabet), ("scullery/date.monthDays", laid_scullery_date_monthDays), ("scullery/date.weekdays", laid_scullery_date_weekdays), ("scullery/date.months", laid_scullery_date_months), ("unicode/utf8.first", laid_unicode_utf8_first)] }
def PolicyYoungerSaid : Prop := policyYoungerRow.holds Tryz.pinned (OpenSpec.ofChange policyYoungerSpec)

/-- ITS FALSE NEIGHBOUR: 'it returns false'. Refute it at one input. -/
def policyYoungerWrong : ChangeSpec := { name := "policyYounger", fn := fun _ => fun
  | [d1, d2, d3] => { results := [.lit (.bool false)], args := [d1, d2, d3] }
  | _ => none }
def PolicyYoungerWrongFalsely : Prop := policyYoungerRow.holds Tryz.pinned (OpenSpec.ofChange policyYoungerWrong)

/- THE SECOND FORM. 'bulk': how many values and letters a reading holds, each counted each time it is reached (what is shared counts as often as it is met; a slice's spare places count too). A statement '..UptoSaid' is the law's where the arguments, and the package variables that the reading takes, are together of bulk at most 1048576: NARROWER than '..Said'. Prove '..Said' where nothing that the law and all that it calls make is longer than what came in: it says more and counts as full. Else prove '..UptoSaid'. A law counts once. -/
mutual
def uptoBulk {H : Type} : DataW H → Nat
  | .lit (.string bytes) => bytes.length + 1
  | .lit _ => 1
  | .nil => 1
  | .ptr d => uptoBulk d + 1
  | .slice elems spare => uptoBulkAll elems + uptoBulkAll spare + 1
  | .agg parts => uptoBulkAll parts + 1
  | .iface _ d => uptoBulk d + 1
  | .map entries => uptoBulkEntries entries + 1
  | .held _ => 1
def uptoBulkAll {H : Type} : List (DataW H) → Nat
  | [] => 0
  | d :: r => uptoBulk d + uptoBulkAll r
def uptoBulkEntries {H : Type} : List (Lit × DataW H) → Nat
  | [] => 0
  | x :: r => uptoBulkEntry x + uptoBulkEntries r
def uptoBulkEntry {H : Type} : Lit × DataW H → Nat
  | (.string bytes, d) => bytes.length + uptoBulk d + 1
  | (_, d) => uptoBulk d + 1
 end
def uptoSmall : (H : Type) → List (DataW H) → Bool := fun _ ds => decide (uptoBulkAll ds ≤ 1048576)
def OpenSpec.upto (s : _root_.Go.ChangeSpec) : _root_.Go.OpenSpec := { _root_.Go.OpenSpec.ofChange s with cond := some uptoSmall }

/-- 'scullerylaw14.PolicyTells', WHERE WHAT IT READS IS OF BULK AT MOST 1048576: true; the input reads as it did. -/
def policyTellsUptoRow : OpenClaim := { program := "ytfaedmbfabfmeaagreatdoor", sum := "cd32a7fc1c693b36f8498585661bed5642b777478ad6f0d88121d27290f28f60", func := "scullery/scullerylaw14.PolicyTells", spec := "policyTells", inPlace := ["internal/abi.NoEscape", "internal/bytealg.MakeNoZero", "internal/bytealg.IndexByteString", "internal/bytealg.IndexString"], unfollowed := true, recurses := true, named := ["unicode/utf8.first", "unicode/utf8.acceptRanges", "internal/bytealg.MaxLen", "scullery/bare.alphabet", "scullery/date.weekdays", "scullery/date.months", "scullery/date.monthDays"], apart := false, laid := [("unicode/utf8.acceptRanges", laid_unicode_utf8_acceptRanges), ("scullery/bare.alphabet", laid_scullery_bare_alphabet), ("scullery/date.monthDays", laid_scullery_date_monthDays), ("scullery/date.weekdays", laid_scullery_date_weekdays), ("scullery/date.months", laid_scullery_date_months), ("unicode/utf8.first", laid_unicode_utf8_first)], narrowed := true }
def PolicyTellsUptoSaid : Prop := policyTellsUptoRow.holds Tryz.pinned (OpenSpec.upto policyTellsSpec)

/-- 'scullerylaw14.PolicyJudges', WHERE WHAT IT READS IS OF BULK AT MOST 1048576: true; the input reads as it did. -/
def policyJudgesUptoRow : OpenClaim := { program := "ytfaedmbfabfmeaagreatdoor", sum := "cd32a7fc1c693b36f8498585661bed5642b777478ad6f0d88121d27290f28f60", func := "scullery/scullerylaw14.PolicyJudges", spec := "policyJudges", inPlace := ["internal/abi.NoEscape", "internal/bytealg.MakeNoZero", "internal/bytealg.IndexByteString", "internal/bytealg.IndexString"], unfollowed := true, recurses := true, named := ["unicode/utf8.first", "unicode/utf8.acceptRanges", "internal/bytealg.MaxLen", "scullery/bare.alphabet", "scullery/date.weekdays", "scullery/date.months", "scullery/date.monthDays"], apart := false, laid := [("unicode/utf8.acceptRanges", laid_unicode_utf8_acceptRanges), ("scullery/bare.alphabet", laid_scullery_bare_alphabet), ("scullery/date.monthDays", laid_scullery_date_monthDays), ("scullery/date.weekdays", laid_scullery_date_weekdays), ("scullery/date.months", laid_scullery_date_months), ("unicode/utf8.first", laid_unicode_utf8_first)], narrowed := true }
def PolicyJudgesUptoSaid : Prop := policyJudgesUptoRow.holds Tryz.pinned (OpenSpec.upto policyJudgesSpec)

/-- 'scullerylaw14.PolicyTargeted', WHERE WHAT IT READS IS OF BULK AT MOST 1048576: true; the input reads as it did. -/
def policyTargetedUptoRow : OpenClaim := { program := "ytfaedmbfabfmeaagreatdoor", sum := "cd32a7fc1c693b36f8498585661bed5642b777478ad6f0d88121d27290f28f60", func := "scullery/scullerylaw14.PolicyTargeted", spec := "policyTargeted", inPlace := ["internal/abi.NoEscape", "internal/bytealg.MakeNoZero", "internal/bytealg.IndexByteString", "internal/bytealg.IndexString"], unfollowed := true, recurses := true, named := ["unicode/utf8.first", "unicode/utf8.acceptRanges", "internal/bytealg.MaxLen", "scullery/bare.alphabet", "scullery/date.weekdays", "scullery/date.months", "scullery/date.monthDays"], apart := false, laid := [("unicode/utf8.acceptRanges", laid_unicode_utf8_acceptRanges), ("scullery/bare.alphabet", laid_scullery_bare_alphabet), ("scullery/date.monthDays", laid_scullery_date_monthDays), ("scullery/date.weekdays", laid_scullery_date_weekdays), ("scullery/date.months", laid_scullery_date_months), ("unicode/utf8.first", laid_unicode_utf8_first)], narrowed := true }
def PolicyTargetedUptoSaid : Prop := policyTargetedUptoRow.holds Tryz.pinned (OpenSpec.upto policyTargetedSpec)

/-- 'scullerylaw14.PolicyYounger', WHERE WHAT IT READS IS OF BULK AT MOST 1048576: true; the input reads as it did. -/
def policyYoungerUptoRow : OpenClaim := { program := "ytfaedmbfabfmeaagreatdoor", sum := "cd32a7fc1c693b36f8498585661bed5642b777478ad6f0d88121d27290f28f60", func := "scullery/scullerylaw14.PolicyYounger", spec := "policyYounger", inPlace := ["internal/abi.NoEscape", "internal/bytealg.MakeNoZero", "internal/bytealg.IndexByteString", "internal/bytealg.IndexString"], unfollowed := true, recurses := true, named := ["unicode/utf8.first", "unicode/utf8.acceptRanges", "internal/bytealg.MaxLen", "scullery/bare.alphabet", "scullery/date.weekdays", "scullery/date.months", "scullery/date.monthDays"], apart := false, laid := [("unicode/utf8.acceptRanges", laid_unicode_utf8_acceptRanges), ("scullery/bare.alphabet", laid_scullery_bare_alphabet), ("scullery/date.monthDays", laid_scullery_date_monthDays), ("scullery/date.weekdays", laid_scullery_date_weekdays), ("scullery/date.months", laid_scullery_date_months), ("unicode/utf8.first", laid_unicode_utf8_first)], narrowed := true }
def PolicyYoungerUptoSaid : Prop := policyYoungerUptoRow.holds Tryz.pinned (OpenSpec.upto policyYoungerSpec)

end Rows
end Go.Proofs.YtfaedmbfabfmeaaGreatDoor
