/- bits and the document's sets: bit, Has, With, Within, One: what each returns. -/
import Derived.Test.YtgoebblcggdlgaaWords
import Derived.Test.YtgoebblcggdlgaaBitM
namespace Go.Proofs.Ytgoebblcggdlgaa
set_option linter.unusedVariables false
open Go.RowKit BitM

end Go.Proofs.Ytgoebblcggdlgaa
