/- The document's reader, by the place in the bytes. -/
import Derived.Test.YtnhcjadkbogioaaJ2
import Derived.Test.YtnhcjadkbogioaaJ4
namespace Go.Proofs.Ytnhcjadkbogioaa
set_option linter.unusedVariables false
open Go Go.RowKit OctM
end Go.Proofs.Ytnhcjadkbogioaa
