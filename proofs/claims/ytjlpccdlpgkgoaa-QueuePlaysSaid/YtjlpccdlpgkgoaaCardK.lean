/- CardMerges: what a merge leaves alone: the masks. -/
import Derived.Test.YtjlpccdlpgkgoaaCardJ
namespace Go.Proofs.Ytjlpccdlpgkgoaa
set_option linter.unusedVariables false
open Go Go.RowKit BitM

theorem has_mkm (b : Bool) (l : List Int) (n : Int) : has (mkm b l) n = ((decide (0 ≤ n ∧ n < 8) && decide (n ∈ l)) || (b && decide (n = 8))) := by
  have h0 : has (ofl l &&& 255#32) n = (decide (0 ≤ n ∧ n < 8) && decide (n ∈ l)) := by
    rw [has_and_255, has_ofl]
    by_cases h1 : 0 ≤ n ∧ n < 8
    · rw [decide_eq_true h1, decide_eq_true (show 0 ≤ n ∧ n < 32 by omega), decide_eq_true h1.2]; simp
    · rw [decide_eq_false h1]
      by_cases h2 : n < 8
      · rw [decide_eq_false (show ¬ (0 ≤ n ∧ n < 32) by omega)]; simp
      · rw [decide_eq_false h2]; simp
  unfold mkm
  cases b
  · simp only [Bool.false_eq_true, if_false, Bool.false_and, Bool.or_false]
    rw [show (ofl l &&& 255#32) ||| 0#32 = ofl l &&& 255#32 by simp, h0]
  · simp only [if_true, Bool.true_and]
    rw [show (ofl l &&& 255#32) ||| 256#32 = put (ofl l &&& 255#32) 8 from rfl, has_put, h0]
    by_cases h : n = 8
    · subst h; simp
    · rw [decide_eq_false (show ¬ ((8 : Int) = n) from fun e => h e.symm), decide_eq_false h]; simp
theorem mix_getD (p : Nat → Bool) (a c : List V3) (i : Nat) (h : i < 8) : (mix p a c).getD i zv = if p i then a.getD i zv else c.getD i zv := by
  have hl : i < (mix p a c).length := by rw [mix_len]; exact h
  rw [List.getD_eq_getElem?_getD, List.getElem?_eq_getElem hl, Option.getD_some, mix_get]
theorem dmask_within (x : BitVec 32) (lab pl : Int) (C P : List V3) :
    decide (∀ i : Nat, i < 32 → has (dmask lab C (if has x 8 then pl else lab) (mix (fun i => has x (i : Int)) P C)) (i : Int) = true → has x (i : Int) = true) = true := by
  refine decide_eq_true fun i hi h => ?_
  unfold dmask at h
  rw [has_mkm] at h
  cases hx : has x (i : Int)
  · exfalso
    by_cases h8 : i = 8
    · subst h8
      rw [show ((8 : Nat) : Int) = 8 from rfl] at h hx
      rw [hx] at h
      simp at h
    · rw [decide_eq_false (show ¬ ((i : Int) = 8) by omega), Bool.and_false, Bool.or_false, Bool.and_eq_true, decide_eq_true_eq, decide_eq_true_eq] at h
      obtain ⟨j, hj, hij, hne⟩ := (mem_unl _ _ _ _).1 h.2
      obtain rfl : i = j := by omega
      rw [mix_getD _ _ _ _ hj, hx] at hne
      exact hne rfl
  · rfl
end Go.Proofs.Ytjlpccdlpgkgoaa
