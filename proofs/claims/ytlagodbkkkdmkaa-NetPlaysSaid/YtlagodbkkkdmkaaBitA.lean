/- bits and the document's sets: bit, Has, With, Within, One: what each returns. -/
import Derived.Test.YtlagodbkkkdmkaaWords
import Derived.Test.YtlagodbkkkdmkaaBitM
namespace Go.Proofs.Ytlagodbkkkdmkaa
set_option linter.unusedVariables false
open Go.RowKit BitM

end Go.Proofs.Ytlagodbkkkdmkaa
