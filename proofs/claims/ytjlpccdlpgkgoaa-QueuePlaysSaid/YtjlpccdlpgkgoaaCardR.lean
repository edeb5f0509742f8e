/- Cards: which cards may be, by the document: what it returns. -/
import Derived.Test.YtjlpccdlpgkgoaaCardF
namespace Go.Proofs.Ytjlpccdlpgkgoaa
set_option linter.unusedVariables false
open Go Go.RowKit BitM

/-- May the first k values be? -/
def vk (f : List V3) (k : Nat) : Bool := (List.range k).all fun i => vchk (f.getD i zv)
theorem vk_succ (f : List V3) (k : Nat) : vk f (k + 1) = (vk f k && vchk (f.getD k zv)) := by
  unfold vk
  rw [List.range_succ, List.all_append]
  simp
theorem vk_mono (f : List V3) {j k : Nat} (h : j ≤ k) (hf : vk f j = false) : vk f k = false := by
  induction k with
  | zero => obtain rfl : j = 0 := by omega
            exact hf
  | succ k ih =>
    by_cases e : j = k + 1
    · subst e; exact hf
    · rw [vk_succ, ih (by omega)]; rfl
/-- May a card be? -/
def ccheck (id ver lab : Int) (f : List V3) : Bool := decide (1 ≤ id ∧ id < 1073741824 ∧ 1 ≤ ver ∧ ver ≤ 1099511627776 ∧ lab < 65536) && vk f 8

end Go.Proofs.Ytjlpccdlpgkgoaa
