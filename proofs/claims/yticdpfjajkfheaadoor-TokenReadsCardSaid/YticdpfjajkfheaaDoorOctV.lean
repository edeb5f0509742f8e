/- The program's reader and the document's answer alike. -/
import Derived.Test.YticdpfjajkfheaaDoorOctU
namespace Go.Proofs.YticdpfjajkfheaaDoor
set_option linter.unusedVariables false
open Go.RowKit OctM

theorem next_num (l : List UInt8) (at_ : Nat) (most : Int) :
    nextOut (l.drop at_) most = ((numOut l at_ 0 most).1, (numOut l at_ 0 most).2.1 - at_, (numOut l at_ 0 most).2.2.toNat) ∧ at_ ≤ (numOut l at_ 0 most).2.1 ∧ 0 ≤ (numOut l at_ 0 most).2.2 ∧
    ((numOut l at_ 0 most).2.2 ≠ 0 → (numOut l at_ 0 most).1 = 0 ∧ (numOut l at_ 0 most).2.1 = at_) := by
  unfold nextOut numOut
  rw [if_neg (show ¬ ((0 : Int) ≠ 0) by simp)]
  generalize scan (l.drop at_) 0 0 = s
  obtain ⟨v, n, e⟩ := s
  by_cases h1 : e = 0
  · subst h1
    by_cases h2 : 1099511627776 < (v : Int) ∨ most < (v : Int)
    · simp [h2]
    · simp [h2]
  · simp [h1]
theorem same_num (l : List UInt8) (at_ : Nat) (err most : Int) :
    rnumOut (l.drop at_) err most = ((numOut l at_ err most).1, l.drop (numOut l at_ err most).2.1, (numOut l at_ err most).2.2) := by
  by_cases he : err = 0
  · subst he
    obtain ⟨h1, h2, h3, h4⟩ := next_num l at_ most
    unfold rnumOut
    rw [if_neg (by simp), h1]
    generalize numOut l at_ 0 most = o at *
    obtain ⟨v, a, e⟩ := o
    simp only at *
    rw [List.drop_drop, show at_ + (a - at_) = a by omega, Int.toNat_of_nonneg h3]
  · unfold rnumOut numOut
    rw [if_pos he, if_pos he]
theorem same_flag (l : List UInt8) (at_ : Nat) (err : Int) :
    rflagOut (l.drop at_) err = ((flagOut l at_ err).1, l.drop (flagOut l at_ err).2.1, (flagOut l at_ err).2.2) := by
  by_cases he : err = 0
  · subst he
    obtain ⟨h1, h2, h3, h4⟩ := next_num l at_ 1099511627776
    unfold rflagOut flagOut
    simp only [ne_eq, not_true_eq_false, if_false]
    rw [h1]
    generalize numOut l at_ 0 1099511627776 = o at *
    obtain ⟨v, a, e⟩ := o
    simp only at *
    by_cases h5 : e = 0
    · subst h5
      simp only [Int.toNat_zero, not_true_eq_false, if_false]
      by_cases h6 : 1 < v
      · simp [h6]
      · rw [if_neg h6, if_neg h6, List.drop_drop, show at_ + (a - at_) = a by omega]
    · obtain ⟨rfl, rfl⟩ := h4 h5
      rw [if_pos (by omega)]
      simp [Int.toNat_of_nonneg h3]
  · unfold rflagOut flagOut
    rw [if_pos he, if_pos he]
theorem same_str (l : List UInt8) (at_ : Nat) (err most : Int) (ha : at_ ≤ l.length) :
    rstrOut (l.drop at_) err most = ((strOut l at_ err most).1, l.drop (strOut l at_ err most).2.1, (strOut l at_ err most).2.2) := by
  by_cases he : err = 0
  · subst he
    obtain ⟨h1, h2, h3, h4⟩ := next_num l at_ most
    unfold rstrOut strOut
    simp only [ne_eq, not_true_eq_false, if_false]
    rw [h1]
    generalize numOut l at_ 0 most = o at *
    obtain ⟨v, a, e⟩ := o
    simp only at *
    by_cases h5 : e = 0
    · subst h5
      simp only [Int.toNat_zero, not_true_eq_false, if_false]
      rw [List.length_drop]
      by_cases h6 : l.length < a + v
      · rw [if_pos (by omega), if_pos h6]
      · rw [if_neg (by omega), if_neg h6, List.drop_drop, List.drop_drop, show at_ + (a - at_) = a by omega, show at_ + (a - at_ + v) = a + v by omega]
    · obtain ⟨rfl, rfl⟩ := h4 h5
      rw [if_pos (by omega), if_pos h5]
      simp [Int.toNat_of_nonneg h3]
  · unfold rstrOut strOut
    rw [if_pos he, if_pos he]
theorem same_end (l : List UInt8) (at_ : Nat) (err : Int) (ha : at_ ≤ l.length) : endOut (l.drop at_).length 0 err = endOut l.length at_ err := by
  unfold endOut
  rw [List.length_drop]
  by_cases h : at_ < l.length
  · rw [if_pos (show 0 < l.length - at_ by omega), if_pos h]
  · rw [if_neg (show ¬ 0 < l.length - at_ by omega), if_neg h]
end Go.Proofs.YticdpfjajkfheaaDoor
