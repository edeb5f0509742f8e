/- Cards: the patch of what a card has, a new card, by the document: what each returns. -/
import Derived.Test.YticdpfjajkfheaaCardO
import Derived.Test.YticdpfjajkfheaaCardH
namespace Go.Proofs.Yticdpfjajkfheaa
set_option linter.unusedVariables false
open Go Go.RowKit BitM

end Go.Proofs.Yticdpfjajkfheaa
