/- When two values, fields, cards, patches are the same: what == gives. -/
import Derived.Test.YtjnfdhjnfginpaaCardC
import Derived.Laws.StructEq
namespace Go.Proofs.Ytjnfdhjnfginpaa
set_option linter.unusedVariables false
open Go Go.RowKit BitM

theorem list_str (a b : ByteArray) : a.toList = b.toList ↔ a = b := by
  rw [ByteArray.toList_eq, ByteArray.toList_eq]
  constructor
  · intro h
    apply ByteArray.ext
    apply Array.ext'
    exact h
  · rintro rfl; rfl
theorem ite_ok {p : Prop} [Decidable p] (w : World) : (if p then Result.ok true w else Result.ok false w) = Result.ok (decide p) w := by
  by_cases h : p <;> simp [h]

theorem fcells_ext (f : List V3) (i : Nat) (h : i < f.length) : (fcells f).toArray.extract (i * 3) (i * 3 + 3) = (vcells f[i]).toArray := by
  rw [← fcells_drop f i h, Nat.mul_comm i 3]
  simp [List.extract_eq_take_drop]
theorem all_fields : ∀ (f g : List V3), f.length = g.length → ((List.range f.length).all fun i => decide (f.getD i zv = g.getD i zv)) = decide (f = g)
  | [], [], _ => rfl
  | x :: xs, y :: ys, h => by
    have ih := all_fields xs ys (by simpa using h)
    rw [List.length_cons, List.range_succ_eq_map, List.all_cons, List.all_map]
    simp only [List.getD_cons_zero, Function.comp_def, List.getD_cons_succ, ih]
    by_cases h1 : x = y <;> by_cases h2 : xs = ys <;> simp [h1, h2]
  | [], _ :: _, h => by simp at h
  | _ :: _, [], h => by simp at h
theorem fcells_pre (pre : List Value) (f : List V3) (o : Nat) (ho : pre.length = o) (hf : f.length = 8) : (pre ++ fcells f).toArray.extract o (o + 24) = (fcells f).toArray := by
  subst ho
  have hl : (fcells f).length = 24 := by rw [fcells_len, hf]
  simp [List.extract_eq_take_drop, ← hl]
end Go.Proofs.Ytjnfdhjnfginpaa
