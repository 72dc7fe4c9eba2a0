/-
  DERIVED. GIVEN WITH THE SEED: THE CARDS: each row of YtacgmadgkmcmoaaGreatDoorRows.lean that lists a variable, with what it lists TIED to the program's text (the seventh form; the later family's looks); each row that meets fmt, with fmt's text TOLD by the authors' own Lean function (tested against real Go, not proved from fmt's source: count such statements apart). THE CARD IS WHAT COUNTS. Prove the row's statement (the work); the ties are given (YtacgmadgkmcmoaaGreatDoorTie.lean); close each card by the builder's one call (the guide's Derived/Test/ToyasCard.lean, 'card_holds'). Laid BY PROGRAM, IN A SANDBOX (cutbox-door.mjs). By AI agents, Wed Nov 11 2026. No macro, syntax, notation, axiom, sorry.
-/
import Derived.Test.YtacgmadgkmcmoaaGreatDoorRows
import GoSem.ClaimSeven
namespace Go.Proofs.YtacgmadgkmcmoaaGreatDoor
namespace Rows

/-- THE TIED CARD OF 'hindcastlaw18.CheckpointWrites'. -/
def checkpointWritesCard : Claim7 := { stood := { row := checkpointWritesRow, standIns := [], harness := (true, "1925c5de5fd68a4dd07aebcf7043ce9d32e17b365bd363dc7b55be0cca6f01ed"), looks := false }, kinds := [], alts := [], laidByText := true, laidKinds := [.data, .data], laidTests := true, laidLooks := .later }
def CheckpointWritesCardSaid : Prop := Claim7.holds Tryz.pinned (.plain (OpenSpec.ofChange checkpointWritesSpec)) checkpointWritesCard

/-- THE TIED CARD OF 'hindcastlaw18.CheckpointLoads'. -/
def checkpointLoadsCard : Claim7 := { stood := { row := checkpointLoadsRow, standIns := [], harness := (true, "1925c5de5fd68a4dd07aebcf7043ce9d32e17b365bd363dc7b55be0cca6f01ed"), looks := false }, kinds := [], alts := [], laidByText := true, laidKinds := [.data, .data], laidTests := true, laidLooks := .later }
def CheckpointLoadsCardSaid : Prop := Claim7.holds Tryz.pinned (.plain (OpenSpec.ofChange checkpointLoadsSpec)) checkpointLoadsCard

/-- THE TIED CARD OF 'hindcastlaw18.CheckpointCut'. -/
def checkpointCutCard : Claim7 := { stood := { row := checkpointCutRow, standIns := [], harness := (true, "1925c5de5fd68a4dd07aebcf7043ce9d32e17b365bd363dc7b55be0cca6f01ed"), looks := false }, kinds := [], alts := [], laidByText := true, laidKinds := [.data, .data], laidTests := true, laidLooks := .later }
def CheckpointCutCardSaid : Prop := Claim7.holds Tryz.pinned (.plain (OpenSpec.ofChange checkpointCutSpec)) checkpointCutCard

/-- THE TIED CARD OF 'hindcastlaw18.CheckpointKnown'. -/
def checkpointKnownCard : Claim7 := { stood := { row := checkpointKnownRow, standIns := [], harness := (true, "1925c5de5fd68a4dd07aebcf7043ce9d32e17b365bd363dc7b55be0cca6f01ed"), looks := false }, kinds := [], alts := [], laidByText := true, laidKinds := [.data, .data], laidTests := true, laidLooks := .later }
def CheckpointKnownCardSaid : Prop := Claim7.holds Tryz.pinned (.plain (OpenSpec.ofChange checkpointKnownSpec)) checkpointKnownCard

/-- THE SECOND FORM's CARD OF 'hindcastlaw18.CheckpointWrites'. -/
def checkpointWritesUptoCard : Claim7 := { stood := { row := checkpointWritesUptoRow, standIns := [], harness := (true, "1925c5de5fd68a4dd07aebcf7043ce9d32e17b365bd363dc7b55be0cca6f01ed"), looks := false }, kinds := [], alts := [], laidByText := true, laidKinds := [.data, .data], laidTests := true, laidLooks := .later }
def CheckpointWritesUptoCardSaid : Prop := Claim7.holds Tryz.pinned (.plain (OpenSpec.upto checkpointWritesSpec)) checkpointWritesUptoCard

/-- THE SECOND FORM's CARD OF 'hindcastlaw18.CheckpointLoads'. -/
def checkpointLoadsUptoCard : Claim7 := { stood := { row := checkpointLoadsUptoRow, standIns := [], harness := (true, "1925c5de5fd68a4dd07aebcf7043ce9d32e17b365bd363dc7b55be0cca6f01ed"), looks := false }, kinds := [], alts := [], laidByText := true, laidKinds := [.data, .data], laidTests := true, laidLooks := .later }
def CheckpointLoadsUptoCardSaid : Prop := Claim7.holds Tryz.pinned (.plain (OpenSpec.upto checkpointLoadsSpec)) checkpointLoadsUptoCard

/-- THE SECOND FORM's CARD OF 'hindcastlaw18.CheckpointCut'. -/
def checkpointCutUptoCard : Claim7 := { stood := { row := checkpointCutUptoRow, standIns := [], harness := (true, "1925c5de5fd68a4dd07aebcf7043ce9d32e17b365bd363dc7b55be0cca6f01ed"), looks := false }, kinds := [], alts := [], laidByText := true, laidKinds := [.data, .data], laidTests := true, laidLooks := .later }
def CheckpointCutUptoCardSaid : Prop := Claim7.holds Tryz.pinned (.plain (OpenSpec.upto checkpointCutSpec)) checkpointCutUptoCard

/-- THE SECOND FORM's CARD OF 'hindcastlaw18.CheckpointKnown'. -/
def checkpointKnownUptoCard : Claim7 := { stood := { row := checkpointKnownUptoRow, standIns := [], harness := (true, "1925c5de5fd68a4dd07aebcf7043ce9d32e17b365bd363dc7b55be0cca6f01ed"), looks := false }, kinds := [], alts := [], laidByText := true, laidKinds := [.data, .data], laidTests := true, laidLooks := .later }
def CheckpointKnownUptoCardSaid : Prop := Claim7.holds Tryz.pinned (.plain (OpenSpec.upto checkpointKnownSpec)) checkpointKnownUptoCard
end Rows
end Go.Proofs.YtacgmadgkmcmoaaGreatDoor
