/- The document's reader: Flag, End. -/
import Derived.Test.YticdpfjajkfheaaDoorOctR
namespace Go.Proofs.YticdpfjajkfheaaDoor
set_option linter.unusedVariables false
open Go.RowKit OctM

/-- What the document's Flag gives. -/
def rflagOut (l : List UInt8) (err : Int) : Bool × List UInt8 × Int :=
  if err ≠ 0 then (false, l, err)
  else if (nextOut l 1099511627776).2.2 ≠ 0 then (false, l, ((nextOut l 1099511627776).2.2 : Nat))
  else if 1 < (nextOut l 1099511627776).1 then (false, l, 3)
  else (decide ((nextOut l 1099511627776).1 = 1), l.drop (nextOut l 1099511627776).2.1, 0)
end Go.Proofs.YticdpfjajkfheaaDoor
