/- The example that every statement of the sums ends with; what each frame of this seat asks once. -/
import Derived.Test.YtgoebblcggdlgaaSumC
import Derived.Lib.SlBytesConst
namespace Go.Proofs.Ytgoebblcggdlgaa
set_option linter.unusedVariables false
open Go.RowKit SumM
def digits9 : List UInt8 := [49, 50, 51, 52, 53, 54, 55, 56, 57]
theorem digits9_sum : (sumOf digits9).toNat = 3808858755 := by decide +kernel
theorem digits9_len : digits9.length ≤ maxLen := by simp [digits9, maxLen]
theorem own : ownKnob Try.prog.godebug = none := by kernel_rfl
theorem laidOut : laidOutB Try.prog = true := by kernel_rfl
theorem boolT : Try.prog.underlying 4 = some .bool := Try.underlying4
end Go.Proofs.Ytgoebblcggdlgaa
