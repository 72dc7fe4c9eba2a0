/- Closed facts of the row of JournalFloor, in a text of their own: the kernel's memory. -/
import Derived.Test.YtgeaacabpnepmaaGreatDoorRows
import Derived.ShutString
import Derived.ChangeOld
import Derived.Below
import Derived.SevenTiedAt
import Derived.Stop.Joined
import Derived.LaidMore
namespace Go.Proofs.YtgeaacabpnepmaaGreatDoor
open Go Go.ChangeShapes Go.WideShapes Go.RowKit
theorem joinedJournalFloor : joinedFacts Tryz.pinned.checked.prog 5 Tryz.f5 Rows.journalFloorSpec Rows.journalFloorRow = true := by kernel_rfl
end Go.Proofs.YtgeaacabpnepmaaGreatDoor
