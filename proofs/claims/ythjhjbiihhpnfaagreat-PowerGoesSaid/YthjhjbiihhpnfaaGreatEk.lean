/- The document's acts: their. -/
import Derived.Test.YthjhjbiihhpnfaaGreatEj
namespace Go.Proofs.YthjhjbiihhpnfaaGreat
open Go.RowKit Go.Shelf
set_option linter.unusedVariables false
set_option linter.unusedSimpArgs false
set_option maxRecDepth 100000

end Go.Proofs.YthjhjbiihhpnfaaGreat
