/- Go's table of powers of ten, as the rows' condition lays it. -/
import Derived.Test.YticdpfjajkfheaaDoorTens
import Derived.LaidSub
namespace Go.Proofs.YticdpfjajkfheaaDoor
open Go

theorem pow_at : ∃ g : Nat, Tryd.prog.globalNamed "internal/strconv.uint64pow10" = some g ∧ (Tryd.prog.globals[g]?).map (·.type) = some 135 :=
  ⟨3, by kernel_rfl, by kernel_rfl⟩
theorem tab_of {W : World} (h : laidMetH Tryd.prog Rows.tokenReadsRow.laid W) : Tab W := by
  have h1 : laidMet Tryd.prog Rows.tokenReadsRow.laid W := h
  have h2 := h1.filter (fun x => x.1 == "internal/strconv.uint64pow10")
  have e : (Rows.tokenReadsRow.laid.filter fun x => x.1 == "internal/strconv.uint64pow10") = [("internal/strconv.uint64pow10", Lib.tabData .u64 Lib.pow10Tab)] := by kernel_rfl
  rw [e] at h2
  obtain ⟨g, hg, hty⟩ := pow_at
  exact Lib.tabIs_of_head hg hty Tryd.underlying135 Tryd.underlying122 (by kernel_rfl) (by kernel_rfl) h2
end Go.Proofs.YticdpfjajkfheaaDoor
