/- What the frame gives of a value, of fields, of a card, of a patch. -/
import Derived.Test.YtgoebblcggdlgaaCardJ
import Derived.Lib.SmallJoins
import Derived.Deep.Strs
namespace Go.Proofs.Ytgoebblcggdlgaa
set_option linter.unusedVariables false
open Go Go.RowKit BitM

section
variable {H : Type} {enc : TypeId × Value → H} {W : World}

theorem list3 {α : Type} {l : List α} {a b c : α} (hl : l.length = 3) (h0 : (l.drop 0).take 1 = [a]) (h1 : (l.drop 1).take 1 = [b]) (h2 : (l.drop 2).take 1 = [c]) : l = [a, b, c] := by
  match l, hl with
  | [x, y, z], _ => simp at h0 h1 h2; rw [h0, h1, h2]
/-- What a number, a text in an input is. -/
def okV (v : V3) : Prop := (-9223372036854775808 ≤ v.1 ∧ v.1 ≤ 9223372036854775807) ∧ (-9223372036854775808 ≤ v.2.1 ∧ v.2.1 ≤ 9223372036854775807) ∧ v.2.2.size ≤ maxLen
theorem cut3 : ∀ (l : List Value) (n : Nat), l.length = n * 3 → (∀ i, i < n → ∃ v : V3, (l.drop (i * 3)).take 3 = vcells v ∧ okV v) → ∃ f : List V3, l = fcells f ∧ f.length = n ∧ ∀ v ∈ f, okV v
  | l, 0, hl, _ => ⟨[], List.length_eq_zero_iff.1 (by rw [hl]), rfl, by simp⟩
  | l, n + 1, hl, h => by
    obtain ⟨v, hv, ok⟩ := h 0 (by omega)
    obtain ⟨f, hf, hn, hok⟩ := cut3 (l.drop 3) n (by rw [List.length_drop, hl]; omega) (fun i hi => by
      have := h (i + 1) (by omega)
      rw [List.drop_drop, show 3 + i * 3 = (i + 1) * 3 by omega]
      exact this)
    refine ⟨v :: f, ?_, by simp [hn], ?_⟩
    · rw [fcells_cons, ← hf, ← hv]
      simp
    · intro u hu
      rcases List.mem_cons.1 hu with rfl | hu
      · exact ok
      · exact hok u hu
theorem list2 {α : Type} {l : List α} {a b : α} (hl : l.length = 2) (h0 : (l.drop 0).take 1 = [a]) (h1 : (l.drop 1).take 1 = [b]) : l = [a, b] := by
  match l, hl with
  | [x, y], _ => simp at h0 h1; rw [h0, h1]
end
end Go.Proofs.Ytgoebblcggdlgaa
