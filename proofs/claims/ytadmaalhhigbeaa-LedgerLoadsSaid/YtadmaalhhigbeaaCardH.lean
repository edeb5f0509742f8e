/- Cards: a new card: what it returns. -/
import Derived.Test.YtadmaalhhigbeaaCardG
namespace Go.Proofs.Ytadmaalhhigbeaa
set_option linter.unusedVariables false
open Go Go.RowKit BitM

theorem zcid (id : Int) : (ccells id 0 0 zeros).toArray = #[Value.int .i64 id, .int .i64 0, .int .u32 0, .int .i64 0, .int .i64 0, .string { data := #[] }, .int .i64 0, .int .i64 0, .string { data := #[] }, .int .i64 0, .int .i64 0, .string { data := #[] }, .int .i64 0, .int .i64 0, .string { data := #[] }, .int .i64 0, .int .i64 0, .string { data := #[] }, .int .i64 0, .int .i64 0, .string { data := #[] }, .int .i64 0, .int .i64 0, .string { data := #[] }, .int .i64 0, .int .i64 0, .string { data := #[] }] := rfl

end Go.Proofs.Ytadmaalhhigbeaa
