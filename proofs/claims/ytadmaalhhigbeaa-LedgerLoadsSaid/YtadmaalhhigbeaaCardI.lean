/- Cards: what is unlike in two cards: what it returns. -/
import Derived.Test.YtadmaalhhigbeaaCardE
import Derived.Test.YtadmaalhhigbeaaCardF
import Derived.Test.YtadmaalhhigbeaaCardG
namespace Go.Proofs.Ytadmaalhhigbeaa
set_option linter.unusedVariables false
open Go Go.RowKit BitM

section
variable {P : Program} {ops : Array Oper} {rest : List Oper} {op : Oper} {a : Act} {w : World} {Q : Exit → Act → World → Prop}
/-- An operation by its run. -/
theorem wpList_exec (hw : Region.wanted op (yielded ops a.tmps) = true) (v : Value) (he : (execOp a.eval op).run P w = .ok (.value v) w)
    (h : wpList P ops Q rest (a.put op.dst v) w) : wpList P ops Q (op :: rest) a w :=
  wpList_step fun K hK => by
    rw [if_pos hw]
    unfold Oper.wp
    rw [he]
    exact hK _ _ h
theorem exec_eql (t u : TypeId) (x y : Operand) (ho : op.op = .binOp .eql t x y u) (xs ys : Array Value) (hx : a.eval x = .agg xs) (hy : a.eval y = .agg ys)
    (hg : P.eqGuardType P.depth t = false) (b : Bool) (hr : (Op.equalIn 10000 t (.agg xs) (.agg ys)).run P w = .ok b w) : (execOp a.eval op).run P w = .ok (.value (.bool b)) w := by
  unfold execOp
  simp only [ho, hx, hy, Sem.run_bind, run_eqGuard_agg w _ _ _ _ _ _ hg, run_eql_struct, hr, Result.andThen_ok, Sem.run_pure]
theorem exec_neq (t u : TypeId) (x y : Operand) (ho : op.op = .binOp .neq t x y u) (xs ys : Array Value) (hx : a.eval x = .agg xs) (hy : a.eval y = .agg ys)
    (hg : P.eqGuardType P.depth t = false) (b : Bool) (hr : (Op.equalIn 10000 t (.agg xs) (.agg ys)).run P w = .ok b w) : (execOp a.eval op).run P w = .ok (.value (.bool (!b))) w := by
  unfold execOp
  simp only [ho, hx, hy, Sem.run_bind, run_eqGuard_agg w _ _ _ _ _ _ hg, run_neq_struct, hr, Result.andThen_ok, Sem.run_pure]
end

theorem Own.onward {w w' : World} {base : Nat} {e : TypeId} {v : Value} {xs : List Value} (h : Own w base e v xs) (hb : Below w.heap.size w w') : Own w' base e v xs := by
  refine ⟨h.1, h.2.imp id ?_⟩
  rintro ⟨g, cap, cur, h1, h2, h3, h4⟩
  exact ⟨g, cap, cur, h1, h2, (hb.block g (Array.getElem?_eq_some_iff.1 h3).1).trans h3, h4⟩

/-- Which of the first k fields are unlike. -/
def unl (f g : List V3) (k : Nat) : List Int := ((List.range k).filter fun i => decide (f.getD i zv ≠ g.getD i zv)).map fun i : Nat => (i : Int)
theorem unl_succ (f g : List V3) (k : Nat) : unl f g (k + 1) = unl f g k ++ if f.getD k zv ≠ g.getD k zv then [(k : Int)] else [] := by
  unfold unl
  rw [List.range_succ, List.filter_append, List.map_append]
  by_cases h : f.getD k zv = g.getD k zv
  · rw [List.filter_cons_of_neg (by rw [decide_eq_false (fun hn => hn h)]; exact Bool.false_ne_true), if_neg (fun hn => hn h)]; rfl
  · rw [List.filter_cons_of_pos (by rw [decide_eq_true h]), if_pos h]; rfl
theorem unl_len (f g : List V3) (k : Nat) : (unl f g k).length ≤ k := by
  unfold unl
  rw [List.length_map]
  exact Nat.le_trans (List.length_filter_le _ _) (by simp)
theorem mem_unl (f g : List V3) (k : Nat) (n : Int) : n ∈ unl f g k ↔ ∃ i : Nat, i < k ∧ n = (i : Int) ∧ f.getD i zv ≠ g.getD i zv := by
  unfold unl
  simp only [List.mem_map, List.mem_filter, List.mem_range, decide_eq_true_eq]
  constructor
  · rintro ⟨i, ⟨h1, h2⟩, rfl⟩; exact ⟨i, h1, rfl, h2⟩
  · rintro ⟨i, h1, rfl, h2⟩; exact ⟨i, ⟨h1, h2⟩, rfl⟩
/-- The mask of what is unlike. -/
def dmask (lab : Int) (f : List V3) (lab' : Int) (g : List V3) : BitVec 32 := mkm (decide (lab ≠ lab')) (unl f g 8)
theorem dmask_same (lab : Int) (f : List V3) : dmask lab f lab f = 0#32 := by
  have h : unl f f 8 = [] := by
    apply List.eq_nil_iff_forall_not_mem.2
    intro n hn
    obtain ⟨i, _, _, h⟩ := (mem_unl f f 8 n).1 hn
    exact h rfl
  unfold dmask mkm
  rw [h]
  simp [ofl]

theorem range3 {w : World} {g o : Nat} {v : V3} (h : w.cell? ⟨g, o, none⟩ = some (.int .i64 v.1) ∧ w.cell? ⟨g, o + 1, none⟩ = some (.int .i64 v.2.1) ∧ w.cell? ⟨g, o + 2, none⟩ = some (.string v.2.2)) : w.rangeAt g o (vcells v) := fun j u hj => by
  unfold vcells at hj
  match j with
  | 0 => simp at hj; subst hj; exact h.1
  | 1 => simp at hj; subst hj; exact h.2.1
  | 2 => simp at hj; subst hj; exact h.2.2
  | j + 3 => simp at hj
theorem info_val : (Try.prog.info? 69).map (·.size) = some 3 := by kernel_rfl
theorem guard_val : Try.prog.eqGuardType Try.prog.depth 69 = false := by kernel_rfl
end Go.Proofs.Ytadmaalhhigbeaa
