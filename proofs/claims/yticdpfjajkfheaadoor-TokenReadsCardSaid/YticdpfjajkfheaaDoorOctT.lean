/- The document's reader: Str. -/
import Derived.Test.YticdpfjajkfheaaDoorOctS
namespace Go.Proofs.YticdpfjajkfheaaDoor
set_option linter.unusedVariables false
open Go.RowKit OctM

theorem str_mid (l : List UInt8) (a b : Nat) : (str l).extract a (a + b) = str ((l.drop a).take b) := by
  apply ByteArray.ext
  apply Array.ext'
  simp [str, ByteArray.data_extract]
/-- What the document's Str gives. -/
def rstrOut (l : List UInt8) (err most : Int) : List UInt8 × List UInt8 × Int :=
  if err ≠ 0 then ([], l, err)
  else if (nextOut l most).2.2 ≠ 0 then ([], l, ((nextOut l most).2.2 : Nat))
  else if l.length < (nextOut l most).2.1 + (nextOut l most).1 then ([], l, 2)
  else ((l.drop (nextOut l most).2.1).take (nextOut l most).1, l.drop ((nextOut l most).2.1 + (nextOut l most).1), 0)
end Go.Proofs.YticdpfjajkfheaaDoor
