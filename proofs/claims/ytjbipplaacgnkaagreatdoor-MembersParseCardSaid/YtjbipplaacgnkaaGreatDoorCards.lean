/-
  DERIVED. GIVEN WITH THE SEED: THE CARDS: each row of YtjbipplaacgnkaaGreatDoorRows.lean that lists a variable, with what it lists TIED to the program's text (the seventh form; the later family's looks); each row that meets fmt, with fmt's text TOLD by the authors' own Lean function (tested against real Go, not proved from fmt's source: count such statements apart). THE CARD IS WHAT COUNTS. Prove the row's statement (the work); the ties are given (YtjbipplaacgnkaaGreatDoorTie.lean); close each card by the builder's one call (the guide's Derived/Test/ToyasCard.lean, 'card_holds'). Laid BY PROGRAM, IN A SANDBOX (cutbox-door.mjs). By AI agents, Wed Nov 11 2026. No macro, syntax, notation, axiom, sorry.
-/
import Derived.Test.YtjbipplaacgnkaaGreatDoorRows
import GoSem.ClaimSeven
namespace Go.Proofs.YtjbipplaacgnkaaGreatDoor
namespace Rows

/-- THE TIED CARD OF 'scullerylaw04.MembersParse'. -/
def membersParseCard : Claim7 := { stood := { row := membersParseRow, standIns := [], harness := (true, "7e1123b1d8a089431738d463125f2681b1a316ae0e98922c4213aa6c49abf2b6"), looks := false }, kinds := [], alts := [], laidByText := true, laidKinds := [.data, .data, .data, .data, .data, .pinned], laidTests := true, laidLooks := .later }
def MembersParseCardSaid : Prop := Claim7.holds Tryz.pinned (.plain (OpenSpec.ofChange membersParseSpec)) membersParseCard

/-- THE TIED CARD OF 'scullerylaw04.MembersPrint'. -/
def membersPrintCard : Claim7 := { stood := { row := membersPrintRow, standIns := [], harness := (true, "7e1123b1d8a089431738d463125f2681b1a316ae0e98922c4213aa6c49abf2b6"), looks := false }, kinds := [], alts := [], laidByText := true, laidKinds := [.data, .data, .data, .data, .data, .pinned], laidTests := true, laidLooks := .later }
def MembersPrintCardSaid : Prop := Claim7.holds Tryz.pinned (.plain (OpenSpec.ofChange membersPrintSpec)) membersPrintCard

/-- THE TIED CARD OF 'scullerylaw04.MembersBack'. -/
def membersBackCard : Claim7 := { stood := { row := membersBackRow, standIns := [], harness := (true, "7e1123b1d8a089431738d463125f2681b1a316ae0e98922c4213aa6c49abf2b6"), looks := false }, kinds := [], alts := [], laidByText := true, laidKinds := [.data, .data, .data, .data, .data, .pinned], laidTests := true, laidLooks := .later }
def MembersBackCardSaid : Prop := Claim7.holds Tryz.pinned (.plain (OpenSpec.ofChange membersBackSpec)) membersBackCard

/-- THE TIED CARD OF 'scullerylaw04.MembersJoin'. -/
def membersJoinCard : Claim7 := { stood := { row := membersJoinRow, standIns := [], harness := (true, "7e1123b1d8a089431738d463125f2681b1a316ae0e98922c4213aa6c49abf2b6"), looks := false }, kinds := [], alts := [], laidByText := true, laidKinds := [.data, .data, .data, .data, .data, .pinned], laidTests := true, laidLooks := .later }
def MembersJoinCardSaid : Prop := Claim7.holds Tryz.pinned (.plain (OpenSpec.ofChange membersJoinSpec)) membersJoinCard

/-- THE SECOND FORM's CARD OF 'scullerylaw04.MembersParse'. -/
def membersParseUptoCard : Claim7 := { stood := { row := membersParseUptoRow, standIns := [], harness := (true, "7e1123b1d8a089431738d463125f2681b1a316ae0e98922c4213aa6c49abf2b6"), looks := false }, kinds := [], alts := [], laidByText := true, laidKinds := [.data, .data, .data, .data, .data, .pinned], laidTests := true, laidLooks := .later }
def MembersParseUptoCardSaid : Prop := Claim7.holds Tryz.pinned (.plain (OpenSpec.upto membersParseSpec)) membersParseUptoCard

/-- THE SECOND FORM's CARD OF 'scullerylaw04.MembersPrint'. -/
def membersPrintUptoCard : Claim7 := { stood := { row := membersPrintUptoRow, standIns := [], harness := (true, "7e1123b1d8a089431738d463125f2681b1a316ae0e98922c4213aa6c49abf2b6"), looks := false }, kinds := [], alts := [], laidByText := true, laidKinds := [.data, .data, .data, .data, .data, .pinned], laidTests := true, laidLooks := .later }
def MembersPrintUptoCardSaid : Prop := Claim7.holds Tryz.pinned (.plain (OpenSpec.upto membersPrintSpec)) membersPrintUptoCard

/-- THE SECOND FORM's CARD OF 'scullerylaw04.MembersBack'. -/
def membersBackUptoCard : Claim7 := { stood := { row := membersBackUptoRow, standIns := [], harness := (true, "7e1123b1d8a089431738d463125f2681b1a316ae0e98922c4213aa6c49abf2b6"), looks := false }, kinds := [], alts := [], laidByText := true, laidKinds := [.data, .data, .data, .data, .data, .pinned], laidTests := true, laidLooks := .later }
def MembersBackUptoCardSaid : Prop := Claim7.holds Tryz.pinned (.plain (OpenSpec.upto membersBackSpec)) membersBackUptoCard

/-- THE SECOND FORM's CARD OF 'scullerylaw04.MembersJoin'. -/
def membersJoinUptoCard : Claim7 := { stood := { row := membersJoinUptoRow, standIns := [], harness := (true, "7e1123b1d8a089431738d463125f2681b1a316ae0e98922c4213aa6c49abf2b6"), looks := false }, kinds := [], alts := [], laidByText := true, laidKinds := [.data, .data, .data, .data, .data, .pinned], laidTests := true, laidLooks := .later }
def MembersJoinUptoCardSaid : Prop := Claim7.holds Tryz.pinned (.plain (OpenSpec.upto membersJoinSpec)) membersJoinUptoCard
end Rows
end Go.Proofs.YtjbipplaacgnkaaGreatDoor
