/- Cards: what a patch writes to a card, by the document: what it returns. -/
import Derived.Test.YticdpfjajkfheaaCardN
namespace Go.Proofs.Yticdpfjajkfheaa
set_option linter.unusedVariables false
open Go Go.RowKit BitM

end Go.Proofs.Yticdpfjajkfheaa
