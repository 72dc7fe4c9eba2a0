/- Texts of elder layers, one behind the other. -/
import Derived.Test.YtacgmadgkmcmoaaGreatDoorEz
import Derived.Test.YtacgmadgkmcmoaaGreatDoorDz
/- The document's acts: their. -/
namespace Go.Proofs.YtacgmadgkmcmoaaGreatDoor
open Go.RowKit Go.Shelf
set_option linter.unusedVariables false
set_option linter.unusedSimpArgs false
set_option maxRecDepth 100000

end Go.Proofs.YtacgmadgkmcmoaaGreatDoor
/- The document's methods on no disk (nil); their, on nil. -/
namespace Go.Proofs.YtacgmadgkmcmoaaGreatDoor
open Go.RowKit Go.Shelf
set_option linter.unusedVariables false
set_option linter.unusedSimpArgs false
set_option maxRecDepth 100000

end Go.Proofs.YtacgmadgkmcmoaaGreatDoor
/- alike: two disks of one list; both nil. -/
namespace Go.Proofs.YtacgmadgkmcmoaaGreatDoor
open Go.RowKit Go.Shelf Go.Deep
set_option linter.unusedVariables false
set_option linter.unusedSimpArgs false
set_option maxRecDepth 100000

end Go.Proofs.YtacgmadgkmcmoaaGreatDoor
