/- Nets: what the law's loop wants: packets held against each other, sent ones and those under way. -/
import Derived.Test.YtlagodbkkkdmkaaNetM
import Derived.Test.YtlagodbkkkdmkaaLoadG
namespace Go.Proofs.Ytlagodbkkkdmkaa
set_option linter.unusedVariables false
set_option linter.unusedSimpArgs false
open Go Go.RowKit Go.MuLone


theorem fieldsK : Try.prog.underlying 59 = some (.struct (Try.prog.fieldsOf 59)) := by kernel_rfl

theorem eq_pk (d : Nat) (u v : V3) (w : World) : (Op.equalIn (d + 2) 59 (.agg (vcells u).toArray) (.agg (vcells v).toArray)).run Try.prog w = .ok (decide (u = v)) w := by
  obtain ⟨a, b, c⟩ := u
  obtain ⟨a', b', c'⟩ := v
  rw [run_equalIn_agg w (d + 1) 59 _ _ fieldsK (by kernel_rfl)]
  have e : (Try.prog.fieldsOf 59).toList = [⟨"From", 3, 0, false, "", "", 0⟩, ⟨"To", 3, 1, false, "", "", 8⟩, ⟨"Text", 9, 2, false, "", "", 16⟩] := by kernel_rfl
  rw [e]
  simp only [vcells, Op.eqFields]
  simp [go_sem, part, isAgg]
  by_cases h1 : a = a' <;> by_cases h2 : b = b' <;> simp [h1, h2, list_str, ite_ok]


theorem guard_pk : Try.prog.eqGuardType Try.prog.depth 59 = false := by kernel_rfl

theorem row_turn {w w' : World} {g base size n : Nat} {r : Option Nat} {e : TypeId} {v : Value} {xs : List Value} (h : w.ownsRow base e size v n xs) (T : Turn2 w w' g r) (hg : v.ownBlock ≠ some g) (hr : v.ownBlock = none ∨ v.ownBlock ≠ r) : w'.ownsRow base e size v n xs := by
  have hl := h.lt
  obtain ⟨h1, h2⟩ := h
  refine ⟨h1, h2.imp id fun ⟨k, cap, cur, e1, e2, e3, e4⟩ => ⟨k, cap, cur, e1, e2, ?_, e4⟩⟩
  have hk : v.ownBlock = some k := by rw [e1]; rfl
  refine (T.block k (hl k hk).2 (fun e => hg (by rw [hk, e])) (fun e => ?_)).trans e3
  rcases hr with hr | hr
  · rw [hr] at hk; cases hk
  · exact hr (hk.trans e)
theorem NetAt.grown {w w' : World} {g : Nat} {st : Int} {r row : Option Nat} {l : List V3} (h : NetAt w g st r l) (hg : w.grownBy w' row) (h1 : row ≠ some g) (h2 : row = none ∨ row ≠ r) : NetAt w' g st r l := by
  have hgl : g < w.heap.size := by obtain ⟨A, c, B, _⟩ := h; exact B.lt
  refine h.same fun k hk => hg.block k ?_ ?_
  · rcases hk with rfl | hk
    · exact hgl
    · exact (h.row k hk.symm).2
  · rcases hk with rfl | hk
    · exact fun e => h1 e.symm
    · intro e
      rcases h2 with h2 | h2
      · rw [h2] at e; cases e
      · exact h2 (e.symm.trans hk)
theorem cut_perm (l : List V3) (k : Nat) (h : k < l.length) : l.Perm (l[k] :: (l.take k ++ l.drop (k + 1))) := by
  conv => lhs; rw [← List.take_append_drop k l, List.drop_eq_getElem_cons h]
  exact List.perm_middle
theorem perm_send {s l : List V3} (h : s.Perm l) (p : V3) : (s ++ [p]).Perm (l ++ [p]) := h.append_right [p]
theorem perm_take {s l : List V3} (h : s.Perm l) {i k : Nat} (hi : i < s.length) (hk : k < l.length) (e : s[i] = l[k]) : (s.take i ++ s.drop (i + 1)).Perm (l.take k ++ l.drop (k + 1)) := by
  have h1 := cut_perm s i hi
  have h2 := cut_perm l k hk
  rw [e] at h1
  exact (h1.symm.trans (h.trans h2)).cons_inv
/-- What the search has found in the first k: the last place of p there, or -1. -/
def Found (s : List V3) (p : V3) (k : Nat) (a : Int) : Prop := (a = -1 ∧ ∀ j, j < k → s[j]? ≠ some p) ∨ ∃ i : Nat, a = (i : Int) ∧ i < k ∧ s[i]? = some p
theorem found_zero (s : List V3) (p : V3) : Found s p 0 (-1) := .inl ⟨rfl, fun j hj => absurd hj (by omega)⟩
theorem found_yes {s : List V3} {p : V3} {k : Nat} {a : Int} (h : s[k]? = some p) : Found s p (k + 1) k := .inr ⟨k, rfl, by omega, h⟩
theorem found_no {s : List V3} {p : V3} {k : Nat} {a : Int} (hf : Found s p k a) (h : s[k]? ≠ some p) : Found s p (k + 1) a := by
  rcases hf with ⟨e, hf⟩ | ⟨i, e, hi, hs⟩
  · refine .inl ⟨e, fun j hj => ?_⟩
    rcases Nat.lt_or_ge j k with h1 | h1
    · exact hf j h1
    · have : j = k := by omega
      rw [this]; exact h
  · exact .inr ⟨i, e, by omega, hs⟩
theorem found_end {s l : List V3} {p : V3} {a : Int} (h : s.Perm l) (hp : p ∈ l) (hf : Found s p s.length a) : ∃ i : Nat, a = (i : Int) ∧ ∃ hi : i < s.length, s[i] = p := by
  rcases hf with ⟨_, hf⟩ | ⟨i, e, hi, hs⟩
  · obtain ⟨j, hj, e⟩ := List.getElem_of_mem (h.mem_iff.2 hp)
    exact absurd (by rw [List.getElem?_eq_getElem hj, e]) (hf j hj)
  · exact ⟨i, e, hi, by rw [List.getElem?_eq_getElem hi] at hs; exact Option.some.inj hs⟩
end Go.Proofs.Ytlagodbkkkdmkaa
