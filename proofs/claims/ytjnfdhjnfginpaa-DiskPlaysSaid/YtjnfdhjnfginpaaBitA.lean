/- bits and the document's sets: bit, Has, With, Within, One: what each returns. -/
import Derived.Test.YtjnfdhjnfginpaaWords
import Derived.Test.YtjnfdhjnfginpaaBitM
namespace Go.Proofs.Ytjnfdhjnfginpaa
set_option linter.unusedVariables false
open Go.RowKit BitM

end Go.Proofs.Ytjnfdhjnfginpaa
