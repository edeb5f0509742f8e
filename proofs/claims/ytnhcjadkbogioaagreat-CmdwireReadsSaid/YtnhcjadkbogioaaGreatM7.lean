/- The document's Num, Str, Flag as texts: what each returns. -/
import Derived.Test.YtnhcjadkbogioaaGreatM2
namespace Go.Proofs.YtnhcjadkbogioaaGreat
set_option linter.unusedVariables false
open Go.RowKit OctM
end Go.Proofs.YtnhcjadkbogioaaGreat
