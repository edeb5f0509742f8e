/- Filters: the chapter's examples; the walk of PredChecks. -/
import Derived.Test.YtfoppjgjljellaaPrdI
namespace Go.Proofs.Ytfoppjgjljellaa
set_option linter.unusedVariables false
set_option linter.unusedSimpArgs false
open Go Go.RowKit

theorem range_later {w w' : World} {B b o : Nat} {cs : List Value} (h : w.rangeAt b o cs) (hl : Below B w w') (hb : b < B) : w'.rangeAt b o cs := fun j v hj => (hl.cell (p := ⟨b, o + j, none⟩) hb).trans (h j v hj)

def exA : List Nd := [(10, 0, zv), (3, 3, zv)]
def exB : List Nd := [(11, 0, zv), (1, 0, zv)]
theorem exA_ok : lchk exA = 0 ∧ dep exA = 2 := by decide +kernel
theorem exB_ok : lchk exB = 1 := by decide +kernel

end Go.Proofs.Ytfoppjgjljellaa
