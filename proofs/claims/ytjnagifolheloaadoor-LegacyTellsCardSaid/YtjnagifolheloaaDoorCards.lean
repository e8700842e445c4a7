/-
  DERIVED. GIVEN WITH THE SEED: THE CARDS: each row of YtjnagifolheloaaDoorRows.lean that lists a variable, with what it lists TIED to the program's text (the seventh form; the later family's looks); each row that meets fmt, with fmt's text TOLD by the authors' own Lean function (tested against real Go, not proved from fmt's source: count such statements apart). THE CARD IS WHAT COUNTS. Prove the row's statement (the work); the ties are given (YtjnagifolheloaaDoorTie.lean); close each card by the builder's one call (the guide's Derived/Test/ToyasCard.lean, 'card_holds'). Laid BY PROGRAM, IN A SANDBOX (cutbox-door.mjs). By AI agents, Wed Nov 11 2026. No macro, syntax, notation, axiom, sorry.
-/
import Derived.Test.YtjnagifolheloaaDoorRows
import GoSem.ClaimSeven
namespace Go.Proofs.YtjnagifolheloaaDoor
namespace Rows

/-- THE TIED CARD OF 'scullerylaw10.LegacyTells'. -/
def legacyTellsCard : Claim7 := { stood := { row := legacyTellsRow, standIns := [], harness := (true, "a2f4315bb6be8c194d88e7c5266bf4e8ed694f1858be4f2b4dcb05bf7e2eb3eb"), looks := false }, kinds := [], alts := [], laidByText := true, laidKinds := [.data, .pinned], laidTests := true, laidLooks := .later }
def LegacyTellsCardSaid : Prop := Claim7.holds Tryd.pinned (.plain (OpenSpec.ofChange legacyTellsSpec)) legacyTellsCard

/-- THE TIED CARD OF 'scullerylaw10.LegacyFirst'. -/
def legacyFirstCard : Claim7 := { stood := { row := legacyFirstRow, standIns := [], harness := (true, "a2f4315bb6be8c194d88e7c5266bf4e8ed694f1858be4f2b4dcb05bf7e2eb3eb"), looks := false }, kinds := [], alts := [], laidByText := true, laidKinds := [.data, .pinned], laidTests := true, laidLooks := .later }
def LegacyFirstCardSaid : Prop := Claim7.holds Tryd.pinned (.plain (OpenSpec.ofChange legacyFirstSpec)) legacyFirstCard

/-- THE TIED CARD OF 'scullerylaw10.LegacyTurned'. -/
def legacyTurnedCard : Claim7 := { stood := { row := legacyTurnedRow, standIns := [], harness := (true, "a2f4315bb6be8c194d88e7c5266bf4e8ed694f1858be4f2b4dcb05bf7e2eb3eb"), looks := false }, kinds := [], alts := [], laidByText := true, laidKinds := [.data, .pinned], laidTests := true, laidLooks := .later }
def LegacyTurnedCardSaid : Prop := Claim7.holds Tryd.pinned (.plain (OpenSpec.ofChange legacyTurnedSpec)) legacyTurnedCard

/-- THE SECOND FORM's CARD OF 'scullerylaw10.LegacyTells'. -/
def legacyTellsUptoCard : Claim7 := { stood := { row := legacyTellsUptoRow, standIns := [], harness := (true, "a2f4315bb6be8c194d88e7c5266bf4e8ed694f1858be4f2b4dcb05bf7e2eb3eb"), looks := false }, kinds := [], alts := [], laidByText := true, laidKinds := [.data, .pinned], laidTests := true, laidLooks := .later }
def LegacyTellsUptoCardSaid : Prop := Claim7.holds Tryd.pinned (.plain (OpenSpec.upto legacyTellsSpec)) legacyTellsUptoCard

/-- THE SECOND FORM's CARD OF 'scullerylaw10.LegacyFirst'. -/
def legacyFirstUptoCard : Claim7 := { stood := { row := legacyFirstUptoRow, standIns := [], harness := (true, "a2f4315bb6be8c194d88e7c5266bf4e8ed694f1858be4f2b4dcb05bf7e2eb3eb"), looks := false }, kinds := [], alts := [], laidByText := true, laidKinds := [.data, .pinned], laidTests := true, laidLooks := .later }
def LegacyFirstUptoCardSaid : Prop := Claim7.holds Tryd.pinned (.plain (OpenSpec.upto legacyFirstSpec)) legacyFirstUptoCard

/-- THE SECOND FORM's CARD OF 'scullerylaw10.LegacyTurned'. -/
def legacyTurnedUptoCard : Claim7 := { stood := { row := legacyTurnedUptoRow, standIns := [], harness := (true, "a2f4315bb6be8c194d88e7c5266bf4e8ed694f1858be4f2b4dcb05bf7e2eb3eb"), looks := false }, kinds := [], alts := [], laidByText := true, laidKinds := [.data, .pinned], laidTests := true, laidLooks := .later }
def LegacyTurnedUptoCardSaid : Prop := Claim7.holds Tryd.pinned (.plain (OpenSpec.upto legacyTurnedSpec)) legacyTurnedUptoCard
end Rows
end Go.Proofs.YtjnagifolheloaaDoor
