/- The example that every statement of the sums ends with; what each frame of this seat asks once. -/
import Derived.Test.YtgnkkbgphghioaaSumC
import Derived.Lib.SlBytesConst
namespace Go.Proofs.Ytgnkkbgphghioaa
set_option linter.unusedVariables false
open Go.RowKit SumM
def digits9 : List UInt8 := [49, 50, 51, 52, 53, 54, 55, 56, 57]
theorem digits9_sum : (sumOf digits9).toNat = 3808858755 := by decide +kernel
theorem digits9_len : digits9.length ≤ maxLen := by simp [digits9, maxLen]
theorem sum_awake (w : World) : Calls Try.prog 33 #[] w fun e w' => e = .returned (.bool true) ∧ Below w.heap.size w w' := by
  have HD := Lib.hid digits9_sum
  have kc := fun (w : World) (C : Array Value) (n c : Nat) => Lib.run_convert_bytes_const (P := Try.prog) w 22 5 C n c Try.underlying22 Try.underlying5
  go_enter Try.func33, Try.ntmps33
  go_wp2_with fail
  refine (of_any _ _ _ digits9 _ _ rfl (sees_lit w _ 5 (9, 10) (bvs digits9) rfl) digits9_len).mono ?_
  rintro e w' ⟨rfl, rfl⟩
  rw [HD.out]
  go_wp2
  go_ret
  exact ⟨rfl, (Below.refl _ _).alloc (Nat.le_refl _) _⟩

theorem own : ownKnob Try.prog.godebug = none := by kernel_rfl
theorem laidOut : laidOutB Try.prog = true := by kernel_rfl
theorem boolT : Try.prog.underlying 4 = some .bool := Try.underlying4
end Go.Proofs.Ytgnkkbgphghioaa
