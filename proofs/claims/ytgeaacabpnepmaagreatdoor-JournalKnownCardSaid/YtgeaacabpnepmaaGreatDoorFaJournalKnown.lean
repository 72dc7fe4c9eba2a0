/- Closed facts of the row of JournalKnown, in a text of their own: the kernel's memory. -/
import Derived.Test.YtgeaacabpnepmaaGreatDoorRows
import Derived.ShutString
import Derived.ChangeOld
import Derived.Below
import Derived.SevenTiedAt
import Derived.Stop.Joined
import Derived.LaidMore
namespace Go.Proofs.YtgeaacabpnepmaaGreatDoor
open Go Go.ChangeShapes Go.WideShapes Go.RowKit
theorem joinedJournalKnown : joinedFacts Tryz.pinned.checked.prog 4 Tryz.f4 Rows.journalKnownSpec Rows.journalKnownRow = true := by kernel_rfl
end Go.Proofs.YtgeaacabpnepmaaGreatDoor
