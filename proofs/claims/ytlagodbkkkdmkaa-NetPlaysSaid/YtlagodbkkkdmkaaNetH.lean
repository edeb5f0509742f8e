/- Nets: slices.Delete on a net's packets; Take. -/
import Derived.Test.YtlagodbkkkdmkaaNetG
namespace Go.Proofs.Ytlagodbkkkdmkaa
set_option linter.unusedVariables false
set_option linter.unusedSimpArgs false
open Go Go.RowKit Go.MuLone

def BlkT (w : World) (g : Nat) (cs : List Value) (t : TypeId) : Prop := w.heap[g]? = some (.cells cs.toArray t (0, 0))
theorem BlkT.set {w : World} {g : Nat} {cs : List Value} {t : TypeId} (h : BlkT w g cs t) (j : Nat) (v : Value) : BlkT (w.setCell ⟨g, j, none⟩ v) g (cs.set j v) t := by
  obtain ⟨h1, h2⟩ := Array.getElem?_eq_some_iff.1 h
  show (w.heap.modify g _)[g]? = _
  rw [Array.getElem?_eq_getElem (by rw [Array.size_modify]; exact h1), Array.getElem_modify_self, h2]
  simp
theorem BlkT.sets {w : World} {g : Nat} {cs : List Value} {t : TypeId} (h : BlkT w g cs t) : ∀ (vs : List Value) (o : Nat), o + vs.length ≤ cs.length → BlkT (w.setCells g o vs) g (cs.take o ++ vs ++ cs.drop (o + vs.length)) t := by
  intro vs
  induction vs generalizing w cs with
  | nil =>
    intro o ho
    show BlkT w g _ t
    simpa using h
  | cons v vs ih =>
    intro o ho
    simp only [List.length_cons] at ho
    have h2 := ih (h.set o v) (o + 1) (by simp; omega)
    have e : (cs.set o v).take (o + 1) ++ vs ++ (cs.set o v).drop (o + 1 + vs.length) = cs.take o ++ (v :: vs) ++ cs.drop (o + (v :: vs).length) := by
      rw [List.take_succ_eq_append_getElem (by simp; omega), List.take_set_of_le (Nat.le_refl o), List.getElem_set_self, List.drop_set_of_lt (by omega)]
      simp [Nat.add_comm, Nat.add_left_comm]
    rw [e] at h2
    exact h2
theorem fcells_take (l : List V3) (i : Nat) : (fcells l).take (i * 3) = fcells (l.take i) := by
  induction l generalizing i with
  | nil => simp [fcells]
  | cons v l ih =>
    cases i with
    | zero => simp [fcells]
    | succ i =>
      rw [fcells_cons, List.take_succ_cons, fcells_cons, show (i + 1) * 3 = (vcells v).length + i * 3 by simp [vcells]; omega, List.take_length_add_append, ih i]
theorem fcells_app (l m : List V3) : fcells (l ++ m) = fcells l ++ fcells m := by unfold fcells; rw [List.flatMap_append]

theorem del_row (w : World) (g n c i : Nat) (A : Option Addr) (l : List V3) (hn : l.length = n) (hi : i < n) (hn40 : n ≤ 40) (hr : w.ownsRow (g + 1) 59 3 (.slice A n c) n (fcells l)) :
    Calls Try.prog 48 #[.slice A n c, .int .i64 i, .int .i64 (i + 1)] w fun e w' => e = .returned (.slice A (n - 1) c) ∧ w'.ownsRow (g + 1) 59 3 (.slice A (n - 1) c) (n - 1) (fcells (l.take i ++ l.drop (i + 1))) ∧ w.grownBy w' (Value.slice A n c).ownBlock := by
  obtain ⟨h1, h2 | ⟨b, cap, cur, e1, e2, e3, e4, e5, e6, e7⟩⟩ := hr
  · omega
  · cases e1
    refine (del_pk w g b c n i l cur hn hi e4 e5 e6 e3 e7 hn40).mono ?_
    rintro e w' ⟨rfl, rfl⟩
    have hml := movedP_len l i
    rw [hn] at hml
    have hzl : (vcells zv).length = 3 := rfl
    have B0 : BlkT w.drew b cur.toList 59 := by unfold BlkT; rw [Array.toArray_toList]; exact e3
    have hcl : cur.toList.length = c * 3 := by simpa using e6
    have B1 := B0.sets (movedP l i) (i * 3) (by rw [hml, hcl]; omega)
    have l1 : (cur.toList.take (i * 3) ++ movedP l i ++ cur.toList.drop (i * 3 + (movedP l i).length)).length = c * 3 := by
      simp only [List.length_append, List.length_take, List.length_drop, hml, hcl]; omega
    have B2 := B1.sets (vcells zv) ((n - 1) * 3) (by rw [l1, hzl]; omega)
    have hfl : (fcells (l.take i ++ l.drop (i + 1))).length = (n - 1) * 3 := by
      rw [fcells_len, List.length_append, List.length_take, List.length_drop, hn]; omega
    have key : cur.toList.take (i * 3) ++ movedP l i = fcells (l.take i ++ l.drop (i + 1)) := by
      rw [fcells_app, ← fcells_take, ← e7, List.take_take, Nat.min_eq_left (by omega)]; rfl
    rw [key] at B2 l1
    refine ⟨rfl, ⟨hfl, .inr ⟨b, c, _, rfl, e2, B2, by omega, e5, ?_, ?_⟩⟩, ?_⟩
    · simp only [List.size_toArray, List.length_append, List.length_take, List.length_drop, hzl, hcl, hml, hfl]; omega
    · simp only [List.append_assoc]
      rw [List.take_append_of_le_length (by rw [List.length_take, List.length_append, hfl]; omega), List.take_append_of_le_length (by rw [hfl]; exact Nat.le_refl _), List.take_take, Nat.min_self, List.take_of_length_le (by rw [hfl]; exact Nat.le_refl _)]
    · have G1 := grown_sets b (movedP l i) (i * 3) w.drew
      have G2 := grown_sets b (vcells zv) ((n - 1) * 3) (w.drew.setCells b (i * 3) (movedP l i))
      exact ⟨(G2.os.trans G1.os), (G2.tape.trans G1.tape), (G2.output.trans G1.output), Nat.le_trans G1.size G2.size, fun k hk hne => (G2.block k (Nat.lt_of_lt_of_le hk G1.size) hne).trans (G1.block k hk hne)⟩
end Go.Proofs.Ytlagodbkkkdmkaa
