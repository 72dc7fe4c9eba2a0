/- Texts of the walk. -/
import Derived.Test.YtgeaacabpnepmaaGreatDoorAb8
import Derived.Test.YtgeaacabpnepmaaGreatDoorRows
import Derived.Lib.LaidTab
import Derived.LaidMore
import Derived.JoinedTies
import Derived.KernelRfl
/- The program's one listed variable: from the row's condition to what the walks ask; the start that the door's own run leaves meets the condition. -/
namespace Go.Proofs.YtgeaacabpnepmaaGreatDoor
open Go.RowKit
set_option linter.unusedVariables false

noncomputable def laidList : List (String × DataW Unit) := [("hindcast/crc.fourSteps", Rows.laid_hindcast_crc_fourSteps)]
def fours : List Int := [0, 498536548, 997073096, 651767980, 1994146192, 1802195444, 1303535960, 1342533948, 3988292384, 4027552580, 3604390888, 3412177804, 2607071920, 2262029012, 2685067896, 3183342108]
theorem fours_nib : ∀ i : Nat, i < 16 → fours.getD i 0 = ((nib i : Nat) : Int) := by decide +kernel
theorem gFours : Tryz.prog.globalNamed "hindcast/crc.fourSteps" = some 1 := by kernel_rfl
theorem tFours : (Tryz.prog.globals[1]?).map (·.type) = some 384 := by kernel_rfl
theorem cFours : Tryz.prog.cellsOf 384 = 16 := by kernel_rfl
theorem cU32 : Tryz.prog.cellsOf 146 = 1 := by kernel_rfl
theorem tab_of_laid {W : World} (h : laidMetH Tryz.prog laidList W) : Tab W := by
  rw [MakeChecks.laidMetH_plain _ _ _ (by kernel_rfl)] at h
  have hT := Lib.tabIs_of_head (k := .u32) (zs := fours) (rest := []) gFours tFours Tryz.underlying384 Tryz.underlying146 cU32 cFours h
  have hc : ∀ i : Nat, i < 16 → W.cell? ⟨1, i, none⟩ = some (.int .u32 ((nib i : Nat) : Int)) := fun i hi => by
    rw [hT.cell gFours i hi, fours_nib i hi]
  refine ⟨?_, hc⟩
  have h0 := hc 0 (by omega)
  rcases Nat.lt_or_ge 1 W.heap.size with h1 | h1
  · exact h1
  · simp [World.cell?, Array.getElem?_eq_none h1] at h0
theorem door_met (os : Os) (args : Array Value) : laidMetH Tryz.prog laidList ((World.doorLaid Tryz.prog 14 os).forCall (fun _ _ => 0) ⟨#[], args, []⟩).memory :=
  laidMetH_of_parts3 (fuel := 8) (laidMet_of_run' 8 (by kernel_rfl) (by kernel_rfl)) (by kernel_rfl) (by kernel_rfl)
end Go.Proofs.YtgeaacabpnepmaaGreatDoor
