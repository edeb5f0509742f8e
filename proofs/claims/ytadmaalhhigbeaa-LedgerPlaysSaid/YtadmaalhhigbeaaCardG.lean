/- Cards: what a mask shows of a card; a new card: what each returns. -/
import Derived.Test.YtadmaalhhigbeaaCardC
namespace Go.Proofs.Ytadmaalhhigbeaa
set_option linter.unusedVariables false
open Go Go.RowKit BitM

theorem Blk.fieldsC {w : World} {g : Nat} {id ver lab : Int} {f : List V3} (h : Blk w g (ccells id ver lab f)) : w.rangeAt g 3 (fcells f) := by
  refine h.range 3 _ ?_
  unfold ccells
  rw [List.drop_append_of_le_length (by simp), List.drop_eq_nil_of_le (by simp), List.nil_append, List.take_length]
theorem Blk.fieldsP {w : World} {g : Nat} {m lab : Int} {f : List V3} (h : Blk w g (pcells m lab f)) : w.rangeAt g 2 (fcells f) := by
  refine h.range 2 _ ?_
  unfold pcells
  rw [List.drop_append_of_le_length (by simp), List.drop_eq_nil_of_le (by simp), List.nil_append, List.take_length]
theorem Blk.wholeC {w : World} {g : Nat} {cs : List Value} (h : Blk w g cs) : w.rangeAt g 0 cs := h.range 0 cs (by rw [List.drop_zero, List.take_length])
theorem Blk.putFields {w : World} {g : Nat} {id ver lab : Int} {f h : List V3} (hB : Blk w g (ccells id ver lab f)) (hf : f.length = 8) (hh : h.length = 8) :
    Blk (w.setCells g 3 (fcells h)) g (ccells id ver lab h) := by
  have hl : (fcells h).length = 24 := by rw [fcells_len, hh]
  have h2 := hB.sets (fcells h) 3 (by rw [ccells_len id ver lab hf, hl]; omega)
  rw [hl, List.drop_eq_nil_of_le (by rw [ccells_len id ver lab hf]; omega), List.append_nil] at h2
  exact h2

end Go.Proofs.Ytadmaalhhigbeaa
