/-
  DERIVED. GIVEN WITH THE SEED: THE CARDS: each row of YtakejacamkdncaaDoorRows.lean that lists a variable, with what it lists TIED to the program's text (the seventh form; the later family's looks); each row that meets fmt, with fmt's text TOLD by the authors' own Lean function (tested against real Go, not proved from fmt's source: count such statements apart). THE CARD IS WHAT COUNTS. Prove the row's statement (the work); the ties are given (YtakejacamkdncaaDoorTie.lean); close each card by the builder's one call (the guide's Derived/Test/ToyasCard.lean, 'card_holds'). Laid BY PROGRAM, IN A SANDBOX (cutbox-door.mjs). By AI agents, Wed Nov 11 2026. No macro, syntax, notation, axiom, sorry.
-/
import Derived.Test.YtakejacamkdncaaDoorRows
import GoSem.ClaimSeven
namespace Go.Proofs.YtakejacamkdncaaDoor
namespace Rows

/-- THE TIED CARD OF 'hindcastlaw17.ManifestPuts'. -/
def manifestPutsCard : Claim7 := { stood := { row := manifestPutsRow, standIns := [], harness := (true, "a197dfadd3c74a098cf13efe5f7612754396d47f253a3756c7d98ee81a3b87fb"), looks := false }, kinds := [], alts := [], laidByText := true, laidKinds := [.data], laidTests := true, laidLooks := .later }
def ManifestPutsCardSaid : Prop := Claim7.holds Tryd.pinned (.plain (OpenSpec.ofChange manifestPutsSpec)) manifestPutsCard

/-- THE TIED CARD OF 'hindcastlaw17.ManifestTakes'. -/
def manifestTakesCard : Claim7 := { stood := { row := manifestTakesRow, standIns := [], harness := (true, "a197dfadd3c74a098cf13efe5f7612754396d47f253a3756c7d98ee81a3b87fb"), looks := false }, kinds := [], alts := [], laidByText := true, laidKinds := [.data], laidTests := true, laidLooks := .later }
def ManifestTakesCardSaid : Prop := Claim7.holds Tryd.pinned (.plain (OpenSpec.ofChange manifestTakesSpec)) manifestTakesCard

/-- THE TIED CARD OF 'hindcastlaw17.ManifestBack'. -/
def manifestBackCard : Claim7 := { stood := { row := manifestBackRow, standIns := [], harness := (true, "a197dfadd3c74a098cf13efe5f7612754396d47f253a3756c7d98ee81a3b87fb"), looks := false }, kinds := [], alts := [], laidByText := true, laidKinds := [.data], laidTests := true, laidLooks := .later }
def ManifestBackCardSaid : Prop := Claim7.holds Tryd.pinned (.plain (OpenSpec.ofChange manifestBackSpec)) manifestBackCard

/-- THE SECOND FORM's CARD OF 'hindcastlaw17.ManifestPuts'. -/
def manifestPutsUptoCard : Claim7 := { stood := { row := manifestPutsUptoRow, standIns := [], harness := (true, "a197dfadd3c74a098cf13efe5f7612754396d47f253a3756c7d98ee81a3b87fb"), looks := false }, kinds := [], alts := [], laidByText := true, laidKinds := [.data], laidTests := true, laidLooks := .later }
def ManifestPutsUptoCardSaid : Prop := Claim7.holds Tryd.pinned (.plain (OpenSpec.upto manifestPutsSpec)) manifestPutsUptoCard

/-- THE SECOND FORM's CARD OF 'hindcastlaw17.ManifestTakes'. -/
def manifestTakesUptoCard : Claim7 := { stood := { row := manifestTakesUptoRow, standIns := [], harness := (true, "a197dfadd3c74a098cf13efe5f7612754396d47f253a3756c7d98ee81a3b87fb"), looks := false }, kinds := [], alts := [], laidByText := true, laidKinds := [.data], laidTests := true, laidLooks := .later }
def ManifestTakesUptoCardSaid : Prop := Claim7.holds Tryd.pinned (.plain (OpenSpec.upto manifestTakesSpec)) manifestTakesUptoCard

/-- THE SECOND FORM's CARD OF 'hindcastlaw17.ManifestBack'. -/
def manifestBackUptoCard : Claim7 := { stood := { row := manifestBackUptoRow, standIns := [], harness := (true, "a197dfadd3c74a098cf13efe5f7612754396d47f253a3756c7d98ee81a3b87fb"), looks := false }, kinds := [], alts := [], laidByText := true, laidKinds := [.data], laidTests := true, laidLooks := .later }
def ManifestBackUptoCardSaid : Prop := Claim7.holds Tryd.pinned (.plain (OpenSpec.upto manifestBackSpec)) manifestBackUptoCard
end Rows
end Go.Proofs.YtakejacamkdncaaDoor
