/- bits and the document's sets: bit, Has, With, Within, One: what each returns. -/
import Derived.Test.YtadmaalhhigbeaaWords
import Derived.Test.YtadmaalhhigbeaaBitM
namespace Go.Proofs.Ytadmaalhhigbeaa
set_option linter.unusedVariables false
open Go.RowKit BitM

theorem within_any (x y : BitVec 32) (w : World) : Calls Try.prog 65 #[.int .u32 (x.toNat : Int), .int .u32 (y.toNat : Int)] w fun e w' => e = .returned (.bool (x &&& ~~~y == 0#32)) ∧ w = w' := by
  have h1 := BitM.u32_andNot x y
  have h2 := nat_eq0 (x &&& ~~~y)
  generalize x &&& ~~~y = r at h1 h2 ⊢
  go_enter Try.func65, Try.ntmps65
  go_wp2_with fail
  go_ret
  exact ⟨rfl, rfl⟩
end Go.Proofs.Ytadmaalhhigbeaa
