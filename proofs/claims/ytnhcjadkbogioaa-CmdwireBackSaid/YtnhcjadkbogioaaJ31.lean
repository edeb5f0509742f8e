/- What the frame gives of a value, of fields, of a card, of a patch. -/
import Derived.Test.YtnhcjadkbogioaaJ7
import Derived.Lib.SmallJoins
import Derived.Deep.Strs
namespace Go.Proofs.Ytnhcjadkbogioaa
set_option linter.unusedVariables false
open Go Go.RowKit BitM
section
variable {H : Type} {enc : TypeId × Value → H} {W : World}
theorem list3 {α : Type} {l : List α} {a b c : α} (hl : l.length = 3) (h0 : (l.drop 0).take 1 = [a]) (h1 : (l.drop 1).take 1 = [b]) (h2 : (l.drop 2).take 1 = [c]) : l = [a, b, c] := by
  match l, hl with
  | [x, y, z], _ => simp at h0 h1 h2; rw [h0, h1, h2]
def okV (v : V3) : Prop := (-9223372036854775808 ≤ v.1 ∧ v.1 ≤ 9223372036854775807) ∧ (-9223372036854775808 ≤ v.2.1 ∧ v.2.1 ≤ 9223372036854775807) ∧ v.2.2.size ≤ maxLen
theorem trod_val {sp : Nat → Bool} {held : Bool} {n : Nat} {cs : List Value} {x : DataW H × List MemPlace} (h : DataW.trod enc Try.prog W 0 sp held n 24 cs = some x) : ∃ v : V3, cs = vcells v ∧ okV v := by
  obtain ⟨y0, y1, y2, m, _, hl, h0, h1, h2⟩ := Go.Deep.trod_struct3 Try.underlying24 h
  have c1 : Try.prog.cellsOf 3 = 1 := by kernel_rfl
  have c2 : Try.prog.cellsOf 9 = 1 := by kernel_rfl
  have c3 : Try.prog.cellsOf 24 = 3 := by kernel_rfl
  rw [c3] at hl
  simp only [c1] at h0 h1
  simp only [c2] at h2
  obtain ⟨a, e0, _, w0⟩ := DataW.trod_int Try.underlying3 h0
  obtain ⟨b, e1, _, w1⟩ := DataW.trod_int Try.underlying3 h1
  obtain ⟨s, e2, _, w2⟩ := DataW.trod_string Try.underlying9 h2
  exact ⟨(a, b, s), list3 hl e0 e1 e2, i64_wf w0, i64_wf w1, w2⟩
theorem cut3 : ∀ (l : List Value) (n : Nat), l.length = n * 3 → (∀ i, i < n → ∃ v : V3, (l.drop (i * 3)).take 3 = vcells v ∧ okV v) → ∃ f : List V3, l = fcells f ∧ f.length = n ∧ ∀ v ∈ f, okV v
  | l, 0, hl, _ => ⟨[], List.length_eq_zero_iff.1 (by rw [hl]), rfl, by simp⟩
  | l, n + 1, hl, h => by
    obtain ⟨v, hv, ok⟩ := h 0 (by omega)
    obtain ⟨f, hf, hn, hok⟩ := cut3 (l.drop 3) n (by rw [List.length_drop, hl]; omega) (fun i hi => by
      have := h (i + 1) (by omega)
      rw [List.drop_drop, show 3 + i * 3 = (i + 1) * 3 by omega]
      exact this)
    refine ⟨v :: f, ?_, by simp [hn], ?_⟩
    · rw [fcells_cons, ← hf, ← hv]
      simp
    · intro u hu
      rcases List.mem_cons.1 hu with rfl | hu
      · exact ok
      · exact hok u hu
theorem trod_fields {sp : Nat → Bool} {held : Bool} {n : Nat} {cs : List Value} {x : DataW H × List MemPlace} (h : DataW.trod enc Try.prog W 0 sp held n 25 cs = some x) : ∃ f : List V3, cs = fcells f ∧ f.length = 8 ∧ ∀ v ∈ f, okV v := by
  obtain ⟨xs, m, _, _, hl, hxl, heach⟩ := DataW.trod_array Try.underlying25 h
  have c3 : Try.prog.cellsOf 24 = 3 := by kernel_rfl
  have c8 : Try.prog.cellsOf 25 = 24 := by kernel_rfl
  rw [c8] at hl
  simp only [c3] at heach
  refine cut3 cs 8 hl fun i hi => ?_
  have h1 := heach i hi
  rw [List.getElem?_eq_getElem (by rw [hxl]; exact hi)] at h1
  exact trod_val h1
theorem list2 {α : Type} {l : List α} {a b : α} (hl : l.length = 2) (h0 : (l.drop 0).take 1 = [a]) (h1 : (l.drop 1).take 1 = [b]) : l = [a, b] := by
  match l, hl with
  | [x, y], _ => simp at h0 h1; rw [h0, h1]
end
end Go.Proofs.Ytnhcjadkbogioaa
