/- Cards: what a mask shows of a card, what a patch writes to it, by the document: what each returns. -/
import Derived.Test.YtjlpccdlpgkgoaaCardL
namespace Go.Proofs.Ytjlpccdlpgkgoaa
set_option linter.unusedVariables false
open Go Go.RowKit BitM

/-- The fields ahead of k that a mask has. -/
def pk (x : BitVec 32) (k : Nat) : Nat → Bool := fun i => decide (i < k) && has x (i : Int)
theorem pk_no (x : BitVec 32) (k i : Nat) (h : has x (k : Int) = false) : pk x (k + 1) i = pk x k i := by
  unfold pk
  by_cases e : i = k
  · subst e; simp [h]
  · rw [show decide (i < k + 1) = decide (i < k) from by by_cases h2 : i < k <;> simp [h2] <;> omega]
theorem pk_yes (x : BitVec 32) (k i : Nat) (h : has x (k : Int) = true) : pk x (k + 1) i = (pk x k i || i == k) := by
  unfold pk
  by_cases e : i = k
  · subst e; simp [h]
  · rw [show decide (i < k + 1) = decide (i < k) from by by_cases h2 : i < k <;> simp [h2] <;> omega, show (i == k) = false from by simpa using e, Bool.or_false]
theorem pk_all (x : BitVec 32) (a c : List V3) : mix (pk x 8) a c = mix (fun i => has x (i : Int)) a c := mix_congr _ _ (fun i hi => by unfold pk; rw [decide_eq_true hi]; rfl)
theorem pk_none (x : BitVec 32) (a c : List V3) (hc : c.length = 8) : mix (pk x 0) a c = c := by
  exact (mix_congr (p := pk x 0) (q := fun _ => false) a c (fun i _ => by unfold pk; simp)).trans (mix_none a c hc)

end Go.Proofs.Ytjlpccdlpgkgoaa
