/- Cards: the patch of what a card has; what is in both of two masks, by the document: what each returns. -/
import Derived.Test.YtjlpccdlpgkgoaaCardG
import Derived.Test.YtjlpccdlpgkgoaaCardF
namespace Go.Proofs.Ytjlpccdlpgkgoaa
set_option linter.unusedVariables false
open Go Go.RowKit BitM

theorem Blk.putLabP {w : World} {g : Nat} {m lab : Int} {f : List V3} (h : Blk w g (pcells m lab f)) (l : Int) : Blk (w.setCell ⟨g, 1, none⟩ (.int .u32 l)) g (pcells m l f) := h.set 1 _
theorem Blk.putFieldsP {w : World} {g : Nat} {m lab : Int} {f h : List V3} (hB : Blk w g (pcells m lab f)) (hf : f.length = 8) (hh : h.length = 8) :
    Blk (w.setCells g 2 (fcells h)) g (pcells m lab h) := by
  have hl : (fcells h).length = 24 := by rw [fcells_len, hh]
  have h2 := hB.sets (fcells h) 2 (by rw [pcells_len m lab hf, hl]; omega)
  rw [hl, List.drop_eq_nil_of_le (by rw [pcells_len m lab hf]; omega), List.append_nil] at h2
  exact h2
theorem zp26 : (pcells 0 0 zeros).toArray = #[Value.int .u32 0, .int .u32 0, .int .i64 0, .int .i64 0, .string { data := #[] }, .int .i64 0, .int .i64 0, .string { data := #[] }, .int .i64 0, .int .i64 0, .string { data := #[] }, .int .i64 0, .int .i64 0, .string { data := #[] }, .int .i64 0, .int .i64 0, .string { data := #[] }, .int .i64 0, .int .i64 0, .string { data := #[] }, .int .i64 0, .int .i64 0, .string { data := #[] }, .int .i64 0, .int .i64 0, .string { data := #[] }] := rfl
theorem zpm (m : Int) : (pcells m 0 zeros).toArray = #[Value.int .u32 m, .int .u32 0, .int .i64 0, .int .i64 0, .string { data := #[] }, .int .i64 0, .int .i64 0, .string { data := #[] }, .int .i64 0, .int .i64 0, .string { data := #[] }, .int .i64 0, .int .i64 0, .string { data := #[] }, .int .i64 0, .int .i64 0, .string { data := #[] }, .int .i64 0, .int .i64 0, .string { data := #[] }, .int .i64 0, .int .i64 0, .string { data := #[] }, .int .i64 0, .int .i64 0, .string { data := #[] }] := rfl

end Go.Proofs.Ytjlpccdlpgkgoaa
