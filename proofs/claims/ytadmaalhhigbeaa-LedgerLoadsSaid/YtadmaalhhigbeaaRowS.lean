/- Rows of structs that a call owns: a store of a whole struct into one. -/
import Derived.Test.YtadmaalhhigbeaaRws
import Derived.Test.YtadmaalhhigbeaaRowK
namespace Go.Proofs.Ytadmaalhhigbeaa
set_option linter.unusedVariables false
open Go Go.RowKit

theorem heap_set1 {w : World} {g : Nat} {t : TypeId} {cs : List Value} (h : w.heap[g]? = some (.cells cs.toArray t (0, 0))) (j : Nat) (v : Value) : (w.setCell ⟨g, j, none⟩ v).heap[g]? = some (.cells (cs.set j v).toArray t (0, 0)) := by
  have hlt := (Array.getElem?_eq_some_iff.1 h).1
  obtain ⟨h1, h2⟩ := Array.getElem?_eq_some_iff.1 h
  show (w.heap.modify g _)[g]? = _
  rw [Array.getElem?_eq_getElem (by rw [Array.size_modify]; exact hlt), Array.getElem_modify_self, h2]
  simp
theorem heap_sets {t : TypeId} {g : Nat} : ∀ (vs : List Value) (o : Nat) {w : World} {cs : List Value}, w.heap[g]? = some (.cells cs.toArray t (0, 0)) → o + vs.length ≤ cs.length →
    (w.setCells g o vs).heap[g]? = some (.cells (cs.take o ++ vs ++ cs.drop (o + vs.length)).toArray t (0, 0))
  | [], o, w, cs, h, ho => by
    show w.heap[g]? = _
    rw [h]; simp
  | v :: vs, o, w, cs, h, ho => by
    simp only [List.length_cons] at ho
    have h2 := heap_sets vs (o + 1) (heap_set1 h o v) (by simp; omega)
    have e : (cs.set o v).take (o + 1) ++ vs ++ (cs.set o v).drop (o + 1 + vs.length) = cs.take o ++ (v :: vs) ++ cs.drop (o + (v :: vs).length) := by
      rw [List.take_succ_eq_append_getElem (by simp; omega), List.take_set_of_le (Nat.le_refl o), List.getElem_set_self, List.drop_set_of_lt (by omega)]
      simp [Nat.add_comm, Nat.add_left_comm]
    rw [e] at h2
    exact h2
theorem row_sets {α : Type} {f : α → List Value} {sz : Nat} {w : World} {base g n c : Nat} {e : TypeId} {l : List α} (hf : ∀ x ∈ l, (f x).length = sz) (h : w.ownsRow base e sz (.slice (some ⟨g, 0, none⟩) n c) n (rws f l)) (hn : l.length = n)
    (k : Nat) (hk : k < n) (x : α) (hx : (f x).length = sz) :
    (w.setCells g (k * sz) (f x)).ownsRow base e sz (.slice (some ⟨g, 0, none⟩) n c) n (rws f (l.set k x)) ∧ w.there g (k * sz) sz ∧ base ≤ g := by
  obtain ⟨h1, h2 | ⟨g', cap, cur, e1, e2, e3, e4, e5, e6, e7⟩⟩ := h
  · exact absurd h2.1 (by simp)
  · injection e1 with ea eb ec
    injection ea with ea
    injection ea with ea
    subst ea
    subst ec
    have hks : k * sz + sz ≤ n * sz := by rw [← Nat.succ_mul]; exact Nat.mul_le_mul_right _ hk
    have hncs : n * sz ≤ c * sz := Nat.mul_le_mul_right _ e4
    have hcl : cur.toList.length = c * sz := by rw [Array.length_toList]; exact e6
    have hrl := rws_len l hf
    rw [hn] at hrl
    have h3 : w.heap[g]? = some (.cells cur.toList.toArray e (0, 0)) := by rw [e3]
    have h4 := heap_sets (f x) (k * sz) h3 (by rw [hx, hcl]; omega)
    have hB : Blk w g cur.toList := ⟨e, h3⟩
    refine ⟨?_, hB.there _ _ (by rw [hcl]; omega), e2⟩
    have hfs : ∀ y ∈ l.set k x, (f y).length = sz := fun y hy => by
      rcases List.mem_or_eq_of_mem_set hy with h | h
      · exact hf y h
      · rw [h]; exact hx
    have hset : l.set k x = l.take k ++ x :: l.drop (k + 1) := by rw [List.set_eq_take_append_cons_drop, if_pos (by omega)]
    have hcur : cur.toList = rws f l ++ cur.toList.drop (n * sz) := by
      rw [← e7, List.take_append_drop]
    have t1 : cur.toList.take (k * sz) = rws f (l.take k) := by
      rw [hcur, List.take_append_of_le_length (by rw [hrl]; omega), rws_take l k hf]
    have t2 : cur.toList.drop (k * sz + (f x).length) = rws f (l.drop (k + 1)) ++ cur.toList.drop (n * sz) := by
      rw [hx, show k * sz + sz = (k + 1) * sz by rw [Nat.succ_mul]]
      conv => lhs; rw [hcur]
      rw [List.drop_append_of_le_length (by rw [hrl, Nat.succ_mul]; omega), rws_drop l (k + 1) hf]
    refine ⟨by rw [rws_len _ hfs, List.length_set, hn], .inr ⟨g, c, _, rfl, e2, h4, e4, e5, ?_, ?_⟩⟩
    · rw [List.size_toArray, List.length_append, List.length_append, List.length_take, List.length_drop, hcl, hx]
      omega
    · have e9 : (cur.toList.take (k * sz) ++ f x ++ cur.toList.drop (k * sz + (f x).length)) = rws f (l.set k x) ++ cur.toList.drop (n * sz) := by
        rw [t1, t2, hset, rws_append, rws_cons]
        simp only [List.append_assoc]
      rw [List.toList_toArray, e9, List.take_append_of_le_length (by rw [rws_len _ hfs, List.length_set, hn]; exact Nat.le_refl _), List.take_of_length_le (by rw [rws_len _ hfs, List.length_set, hn]; exact Nat.le_refl _)]
end Go.Proofs.Ytadmaalhhigbeaa
