/- The document's Num, Str, Flag as texts: what each returns. -/
import Derived.Test.YtnhcjadkbogioaaJ1
namespace Go.Proofs.Ytnhcjadkbogioaa
set_option linter.unusedVariables false
open Go.RowKit OctM
end Go.Proofs.Ytnhcjadkbogioaa
