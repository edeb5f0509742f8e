/- CardMerges: whether the layer is awake. -/
import Derived.Test.YtadmaalhhigbeaaCardH
import Derived.Test.YtadmaalhhigbeaaCardI
namespace Go.Proofs.Ytadmaalhhigbeaa
set_option linter.unusedVariables false
open Go Go.RowKit BitM

/-- The patch that awake writes. -/
def awf : List V3 := (1, 7, ⟨#[]⟩) :: List.replicate 7 zv
theorem aw_p : #[Value.int .u32 1, .int .u32 0, .int .i64 1, .int .i64 7, .string { data := #[] }, .int .i64 0, .int .i64 0, .string { data := #[] }, .int .i64 0, .int .i64 0, .string { data := #[] }, .int .i64 0, .int .i64 0, .string { data := #[] }, .int .i64 0, .int .i64 0, .string { data := #[] }, .int .i64 0, .int .i64 0, .string { data := #[] }, .int .i64 0, .int .i64 0, .string { data := #[] }, .int .i64 0, .int .i64 0, .string { data := #[] }] = (pcells (((1#32 : BitVec 32).toNat : Nat) : Int) 0 awf).toArray := rfl
theorem aw_mix : mix (fun i => has 1#32 (i : Int)) awf zeros = awf := by decide
theorem aw_mix2 : mix (fun i => has 2#32 (i : Int)) awf zeros = zeros := by decide
theorem aw_zc : (ccells 1 1 0 zeros).toArray = #[Value.int .i64 1, .int .i64 1, .int .u32 0, .int .i64 0, .int .i64 0, .string { data := #[] }, .int .i64 0, .int .i64 0, .string { data := #[] }, .int .i64 0, .int .i64 0, .string { data := #[] }, .int .i64 0, .int .i64 0, .string { data := #[] }, .int .i64 0, .int .i64 0, .string { data := #[] }, .int .i64 0, .int .i64 0, .string { data := #[] }, .int .i64 0, .int .i64 0, .string { data := #[] }, .int .i64 0, .int .i64 0, .string { data := #[] }] := rfl

end Go.Proofs.Ytadmaalhhigbeaa
