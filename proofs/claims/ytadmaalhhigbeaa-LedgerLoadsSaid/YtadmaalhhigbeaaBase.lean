/- What each frame of this seat asks once. -/
import Derived.Test.YtadmaalhhigbeaaWords
namespace Go.Proofs.Ytadmaalhhigbeaa
theorem own : ownKnob Try.prog.godebug = none := by kernel_rfl
theorem laidOut : laidOutB Try.prog = true := by kernel_rfl
theorem boolT : Try.prog.underlying 4 = some .bool := Try.underlying4
end Go.Proofs.Ytadmaalhhigbeaa
