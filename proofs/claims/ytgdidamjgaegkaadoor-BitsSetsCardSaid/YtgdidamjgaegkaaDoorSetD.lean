/- A text that is read as a number is that number's text: the mathematics. -/
import Derived.Test.YtgdidamjgaegkaaDoorSetC
namespace Go.Proofs.YtgdidamjgaegkaaDoor
set_option linter.unusedVariables false
open Go Go.RowKit BitM MskM

theorem num_pos : ∀ (k : Nat) (l : List UInt8), l.length = k → l ≠ [] → l.all dig = true → l.headD 0 ≠ 48 → 1 ≤ num l
  | 0, l, h, hne, _, _ => absurd (List.length_eq_zero_iff.1 h) hne
  | k + 1, l, h, hne, ha, hh => by
    rw [← List.dropLast_concat_getLast hne] at ha ⊢
    rw [List.all_append, Bool.and_eq_true] at ha
    rw [num_snoc]
    by_cases hq : l.dropLast = []
    · have hl : l = [l.getLast hne] := by
        conv => lhs; rw [← List.dropLast_concat_getLast hne, hq]
        rfl
      have hd := ha.2
      simp only [List.all_cons, List.all_nil, Bool.and_true, dig, Bool.and_eq_true, decide_eq_true_eq] at hd
      have h48 : (l.getLast hne).toNat ≠ 48 := by
        intro e
        apply hh
        rw [hl]
        exact UInt8.toNat_inj.1 e
      omega
    · have ih := num_pos k l.dropLast (by rw [List.length_dropLast]; omega) hq ha.1 (by
        intro e
        apply hh
        conv => lhs; rw [← List.dropLast_concat_getLast hne]
        cases hd : l.dropLast with
        | nil => exact absurd hd hq
        | cons a b => rw [hd] at e; exact e)
      omega
theorem dec_num : ∀ (k : Nat) (l : List UInt8), l.length = k → l ≠ [] → l.all dig = true → ¬ (1 < l.length ∧ l.headD 0 = 48) → Lib.decDigits (num l) = l
  | 0, l, h, hne, _, _ => absurd (List.length_eq_zero_iff.1 h) hne
  | k + 1, l, h, hne, ha, hh => by
    have e0 := List.dropLast_concat_getLast hne
    obtain ⟨q, hq⟩ : ∃ q, q = l.dropLast := ⟨_, rfl⟩
    obtain ⟨c, hc⟩ : ∃ c, c = l.getLast hne := ⟨_, rfl⟩
    rw [← hq, ← hc] at e0
    have hlq : q.length = k := by rw [hq, List.length_dropLast]; omega
    clear hq hc
    subst e0
    rw [List.all_append, Bool.and_eq_true] at ha
    have hd := ha.2
    simp only [List.all_cons, List.all_nil, Bool.and_true, dig, Bool.and_eq_true, decide_eq_true_eq] at hd
    have h48 : UInt8.ofNat (48 + (c.toNat - 48)) = c := by
      rw [show 48 + (c.toNat - 48) = c.toNat by omega]; simp
    rw [num_snoc]
    by_cases hqe : q = []
    · subst hqe
      show Lib.decDigits (10 * 0 + (c.toNat - 48)) = [c]
      rw [Nat.mul_zero, Nat.zero_add, Lib.decDigits_one (by omega), h48]
    · have hlen : 1 < (q ++ [c]).length := by
        have := List.length_pos_iff.2 hqe
        rw [List.length_append]; simp; omega
      have hhead : (q ++ [c]).headD 0 = q.headD 0 := by
        cases q with
        | nil => exact absurd rfl hqe
        | cons a b => rfl
      have hh2 : q.headD 0 ≠ 48 := fun e => hh ⟨hlen, by rw [hhead]; exact e⟩
      have hp := num_pos q.length q rfl hqe ha.1 hh2
      have ih := dec_num k q hlq hqe ha.1 (fun e => hh2 e.2)
      have h1 : (10 * num q + (c.toNat - 48)) / 10 = num q := by omega
      have h2 : (10 * num q + (c.toNat - 48)) % 10 = c.toNat - 48 := by omega
      rw [Lib.decDigits, dif_neg (by omega), h1, h2, ih, h48]
/-- A text that is read as a number is its text. -/
theorem itoa_pint (p : List UInt8) (most : Int) (h : (pint p most).2 = true) : Lib.itoa (pint p most).1 = p := by
  unfold pint at h ⊢
  split at h
  · cases h
  · rename_i hc
    rw [if_neg hc]
    simp only [not_or] at hc
    obtain ⟨c1, c2, c3, c4, c5⟩ := hc
    show Lib.itoa (num p : Int) = p
    unfold Lib.itoa
    rw [if_neg (by omega), Int.toNat_natCast]
    exact dec_num p.length p rfl c1 (by simpa using c4) c3
end Go.Proofs.YtgdidamjgaegkaaDoor
