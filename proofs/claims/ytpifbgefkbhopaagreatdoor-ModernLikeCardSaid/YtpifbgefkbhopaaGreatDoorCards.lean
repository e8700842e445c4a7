/-
  DERIVED. GIVEN WITH THE SEED: THE CARDS: each row of YtpifbgefkbhopaaGreatDoorRows.lean that lists a variable, with what it lists TIED to the program's text (the seventh form; the later family's looks); each row that meets fmt, with fmt's text TOLD by the authors' own Lean function (tested against real Go, not proved from fmt's source: count such statements apart). THE CARD IS WHAT COUNTS. Prove the row's statement (the work); the ties are given (YtpifbgefkbhopaaGreatDoorTie.lean); close each card by the builder's one call (the guide's Derived/Test/ToyasCard.lean, 'card_holds'). Laid BY PROGRAM, IN A SANDBOX (cutbox-door.mjs). By AI agents, Wed Nov 11 2026. No macro, syntax, notation, axiom, sorry.
-/
import Derived.Test.YtpifbgefkbhopaaGreatDoorRows
import GoSem.ClaimSeven
namespace Go.Proofs.YtpifbgefkbhopaaGreatDoor
namespace Rows

/-- THE TIED CARD OF 'scullerylaw11.ModernTells'. -/
def modernTellsCard : Claim7 := { stood := { row := modernTellsRow, standIns := [], harness := (true, "0b514a7b081545547c477b3672706814849376f375fd7e6e4e1ca223c6a09142"), looks := false }, kinds := [], alts := [], laidByText := true, laidKinds := [.data, .data, .pinned], laidTests := true, laidLooks := .later }
def ModernTellsCardSaid : Prop := Claim7.holds Tryz.pinned (.plain (OpenSpec.ofChange modernTellsSpec)) modernTellsCard

/-- THE TIED CARD OF 'scullerylaw11.ModernAlone'. -/
def modernAloneCard : Claim7 := { stood := { row := modernAloneRow, standIns := [], harness := (true, "0b514a7b081545547c477b3672706814849376f375fd7e6e4e1ca223c6a09142"), looks := false }, kinds := [], alts := [], laidByText := true, laidKinds := [.data, .data, .pinned], laidTests := true, laidLooks := .later }
def ModernAloneCardSaid : Prop := Claim7.holds Tryz.pinned (.plain (OpenSpec.ofChange modernAloneSpec)) modernAloneCard

/-- THE TIED CARD OF 'scullerylaw11.ModernLike'. -/
def modernLikeCard : Claim7 := { stood := { row := modernLikeRow, standIns := [], harness := (true, "0b514a7b081545547c477b3672706814849376f375fd7e6e4e1ca223c6a09142"), looks := false }, kinds := [], alts := [], laidByText := true, laidKinds := [.data, .data, .pinned], laidTests := true, laidLooks := .later }
def ModernLikeCardSaid : Prop := Claim7.holds Tryz.pinned (.plain (OpenSpec.ofChange modernLikeSpec)) modernLikeCard

/-- THE SECOND FORM's CARD OF 'scullerylaw11.ModernTells'. -/
def modernTellsUptoCard : Claim7 := { stood := { row := modernTellsUptoRow, standIns := [], harness := (true, "0b514a7b081545547c477b3672706814849376f375fd7e6e4e1ca223c6a09142"), looks := false }, kinds := [], alts := [], laidByText := true, laidKinds := [.data, .data, .pinned], laidTests := true, laidLooks := .later }
def ModernTellsUptoCardSaid : Prop := Claim7.holds Tryz.pinned (.plain (OpenSpec.upto modernTellsSpec)) modernTellsUptoCard

/-- THE SECOND FORM's CARD OF 'scullerylaw11.ModernAlone'. -/
def modernAloneUptoCard : Claim7 := { stood := { row := modernAloneUptoRow, standIns := [], harness := (true, "0b514a7b081545547c477b3672706814849376f375fd7e6e4e1ca223c6a09142"), looks := false }, kinds := [], alts := [], laidByText := true, laidKinds := [.data, .data, .pinned], laidTests := true, laidLooks := .later }
def ModernAloneUptoCardSaid : Prop := Claim7.holds Tryz.pinned (.plain (OpenSpec.upto modernAloneSpec)) modernAloneUptoCard

/-- THE SECOND FORM's CARD OF 'scullerylaw11.ModernLike'. -/
def modernLikeUptoCard : Claim7 := { stood := { row := modernLikeUptoRow, standIns := [], harness := (true, "0b514a7b081545547c477b3672706814849376f375fd7e6e4e1ca223c6a09142"), looks := false }, kinds := [], alts := [], laidByText := true, laidKinds := [.data, .data, .pinned], laidTests := true, laidLooks := .later }
def ModernLikeUptoCardSaid : Prop := Claim7.holds Tryz.pinned (.plain (OpenSpec.upto modernLikeSpec)) modernLikeUptoCard
end Rows
end Go.Proofs.YtpifbgefkbhopaaGreatDoor
