/- octet's Reader: a text. -/
import Derived.Test.YticdpfjajkfheaaDoorOctD
namespace Go.Proofs.YticdpfjajkfheaaDoor
set_option linter.unusedVariables false
open Go.RowKit OctM

/-- What taking a text gives. -/
def strOut (l : List UInt8) (at_ : Nat) (err most : Int) : List UInt8 × Nat × Int :=
  if err ≠ 0 then ([], at_, err)
  else if (numOut l at_ 0 most).2.2 ≠ 0 then ([], (numOut l at_ 0 most).2)
  else if l.length < (numOut l at_ 0 most).2.1 + (numOut l at_ 0 most).1 then ([], at_, 2)
  else ((l.drop (numOut l at_ 0 most).2.1).take (numOut l at_ 0 most).1, (numOut l at_ 0 most).2.1 + (numOut l at_ 0 most).1, 0)

end Go.Proofs.YticdpfjajkfheaaDoor
