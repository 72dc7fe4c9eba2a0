/- What a step may turn: the disk's words. -/
import Derived.Test.YthnelnfefllhpaaGreatDoorAc
import Derived.Test.YthnelnfefllhpaaGreatDoorDc
namespace Go.Proofs.YthnelnfefllhpaaGreatDoor
end Go.Proofs.YthnelnfefllhpaaGreatDoor
