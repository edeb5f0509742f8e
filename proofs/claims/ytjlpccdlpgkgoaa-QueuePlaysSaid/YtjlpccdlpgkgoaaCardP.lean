/- Cards: the patch of what a card has, a new card, by the document: what each returns. -/
import Derived.Test.YtjlpccdlpgkgoaaCardO
import Derived.Test.YtjlpccdlpgkgoaaCardH
namespace Go.Proofs.Ytjlpccdlpgkgoaa
set_option linter.unusedVariables false
open Go Go.RowKit BitM

end Go.Proofs.Ytjlpccdlpgkgoaa
