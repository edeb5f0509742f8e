/- The document's reader: End. -/
import Derived.Test.YticdpfjajkfheaaDoorOctT
namespace Go.Proofs.YticdpfjajkfheaaDoor
set_option linter.unusedVariables false
open Go.RowKit OctM

end Go.Proofs.YticdpfjajkfheaaDoor
