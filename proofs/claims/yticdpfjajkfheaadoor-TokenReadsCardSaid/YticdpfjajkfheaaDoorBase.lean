/- What each frame of this seat asks once. -/
import Derived.Test.YticdpfjajkfheaaDoorWords
namespace Go.Proofs.YticdpfjajkfheaaDoor
theorem own : ownKnob Tryd.prog.godebug = none := by kernel_rfl
theorem laidOut : laidOutB Tryd.prog = true := by kernel_rfl
theorem boolT : Tryd.prog.underlying 4 = some .bool := Tryd.underlying4
end Go.Proofs.YticdpfjajkfheaaDoor
