/-
  DERIVED. GIVEN WITH THE SEED: THE CARDS: each row of YtfaedmbfabfmeaaGreatDoorRows.lean that lists a variable, with what it lists TIED to the program's text (the seventh form; the later family's looks); each row that meets fmt, with fmt's text TOLD by the authors' own Lean function (tested against real Go, not proved from fmt's source: count such statements apart). THE CARD IS WHAT COUNTS. Prove the row's statement (the work); the ties are given (YtfaedmbfabfmeaaGreatDoorTie.lean); close each card by the builder's one call (the guide's Derived/Test/ToyasCard.lean, 'card_holds'). Laid BY PROGRAM, IN A SANDBOX (cutbox-door.mjs). By AI agents, Wed Nov 11 2026. No macro, syntax, notation, axiom, sorry.
-/
import Derived.Test.YtfaedmbfabfmeaaGreatDoorRows
import GoSem.ClaimSeven
namespace Go.Proofs.YtfaedmbfabfmeaaGreatDoor
namespace Rows

/-- THE TIED CARD OF 'scullerylaw14.PolicyTells'. -/
def policyTellsCard : Claim7 := { stood := { row := policyTellsRow, standIns := [], harness := (true, "f06ae6926861be86d15edf1bb3f3a7d3eb1ed4099a3fae4a4e0de6c0ecdaf2f2"), looks := false }, kinds := [], alts := [], laidByText := true, laidKinds := [.data, .data, .data, .data, .data, .pinned], laidTests := true, laidLooks := .later }
def PolicyTellsCardSaid : Prop := Claim7.holds Tryz.pinned (.plain (OpenSpec.ofChange policyTellsSpec)) policyTellsCard

/-- THE TIED CARD OF 'scullerylaw14.PolicyJudges'. -/
def policyJudgesCard : Claim7 := { stood := { row := policyJudgesRow, standIns := [], harness := (true, "f06ae6926861be86d15edf1bb3f3a7d3eb1ed4099a3fae4a4e0de6c0ecdaf2f2"), looks := false }, kinds := [], alts := [], laidByText := true, laidKinds := [.data, .data, .data, .data, .data, .pinned], laidTests := true, laidLooks := .later }
def PolicyJudgesCardSaid : Prop := Claim7.holds Tryz.pinned (.plain (OpenSpec.ofChange policyJudgesSpec)) policyJudgesCard

/-- THE TIED CARD OF 'scullerylaw14.PolicyTargeted'. -/
def policyTargetedCard : Claim7 := { stood := { row := policyTargetedRow, standIns := [], harness := (true, "f06ae6926861be86d15edf1bb3f3a7d3eb1ed4099a3fae4a4e0de6c0ecdaf2f2"), looks := false }, kinds := [], alts := [], laidByText := true, laidKinds := [.data, .data, .data, .data, .data, .pinned], laidTests := true, laidLooks := .later }
def PolicyTargetedCardSaid : Prop := Claim7.holds Tryz.pinned (.plain (OpenSpec.ofChange policyTargetedSpec)) policyTargetedCard

/-- THE TIED CARD OF 'scullerylaw14.PolicyYounger'. -/
def policyYoungerCard : Claim7 := { stood := { row := policyYoungerRow, standIns := [], harness := (true, "f06ae6926861be86d15edf1bb3f3a7d3eb1ed4099a3fae4a4e0de6c0ecdaf2f2"), looks := false }, kinds := [], alts := [], laidByText := true, laidKinds := [.data, .data, .data, .data, .data, .pinned], laidTests := true, laidLooks := .later }
def PolicyYoungerCardSaid : Prop := Claim7.holds Tryz.pinned (.plain (OpenSpec.ofChange policyYoungerSpec)) policyYoungerCard

/-- THE SECOND FORM's CARD OF 'scullerylaw14.PolicyTells'. -/
def policyTellsUptoCard : Claim7 := { stood := { row := policyTellsUptoRow, standIns := [], harness := (true, "f06ae6926861be86d15edf1bb3f3a7d3eb1ed4099a3fae4a4e0de6c0ecdaf2f2"), looks := false }, kinds := [], alts := [], laidByText := true, laidKinds := [.data, .data, .data, .data, .data, .pinned], laidTests := true, laidLooks := .later }
def PolicyTellsUptoCardSaid : Prop := Claim7.holds Tryz.pinned (.plain (OpenSpec.upto policyTellsSpec)) policyTellsUptoCard

/-- THE SECOND FORM's CARD OF 'scullerylaw14.PolicyJudges'. -/
def policyJudgesUptoCard : Claim7 := { stood := { row := policyJudgesUptoRow, standIns := [], harness := (true, "f06ae6926861be86d15edf1bb3f3a7d3eb1ed4099a3fae4a4e0de6c0ecdaf2f2"), looks := false }, kinds := [], alts := [], laidByText := true, laidKinds := [.data, .data, .data, .data, .data, .pinned], laidTests := true, laidLooks := .later }
def PolicyJudgesUptoCardSaid : Prop := Claim7.holds Tryz.pinned (.plain (OpenSpec.upto policyJudgesSpec)) policyJudgesUptoCard

/-- THE SECOND FORM's CARD OF 'scullerylaw14.PolicyTargeted'. -/
def policyTargetedUptoCard : Claim7 := { stood := { row := policyTargetedUptoRow, standIns := [], harness := (true, "f06ae6926861be86d15edf1bb3f3a7d3eb1ed4099a3fae4a4e0de6c0ecdaf2f2"), looks := false }, kinds := [], alts := [], laidByText := true, laidKinds := [.data, .data, .data, .data, .data, .pinned], laidTests := true, laidLooks := .later }
def PolicyTargetedUptoCardSaid : Prop := Claim7.holds Tryz.pinned (.plain (OpenSpec.upto policyTargetedSpec)) policyTargetedUptoCard

/-- THE SECOND FORM's CARD OF 'scullerylaw14.PolicyYounger'. -/
def policyYoungerUptoCard : Claim7 := { stood := { row := policyYoungerUptoRow, standIns := [], harness := (true, "f06ae6926861be86d15edf1bb3f3a7d3eb1ed4099a3fae4a4e0de6c0ecdaf2f2"), looks := false }, kinds := [], alts := [], laidByText := true, laidKinds := [.data, .data, .data, .data, .data, .pinned], laidTests := true, laidLooks := .later }
def PolicyYoungerUptoCardSaid : Prop := Claim7.holds Tryz.pinned (.plain (OpenSpec.upto policyYoungerSpec)) policyYoungerUptoCard
end Rows
end Go.Proofs.YtfaedmbfabfmeaaGreatDoor
