/- Slices and boxes that a drawn region makes, told apart by their types; copy of whole structs: general. -/
import Derived.Test.YtadmaalhhigbeaaW3
import Derived.Test.YtadmaalhhigbeaaW4
import Derived.Test.YtadmaalhhigbeaaW2
import Derived.Laws.IdiomCopy
namespace Go.Proofs.Ytadmaalhhigbeaa
set_option linter.unusedVariables false
set_option linter.unusedSimpArgs false
open Go Go.RowKit

/-- A block that is known whole, with its type. -/
def BT (w : World) (g : Nat) (cs : List Value) (t : TypeId) : Prop := w.heap[g]? = some (.cells cs.toArray t (0, 0))
theorem BT.blk {w : World} {g : Nat} {cs : List Value} {t : TypeId} (h : BT w g cs t) : Blk w g cs := ⟨t, h⟩
theorem BT.lt {w : World} {g : Nat} {cs : List Value} {t : TypeId} (h : BT w g cs t) : g < w.heap.size := h.blk.lt
theorem BT.later {w w' : World} {g : Nat} {cs : List Value} {t : TypeId} (h : BT w g cs t) (hb : Below w.heap.size w w') : BT w' g cs t := (hb.block g h.lt).trans h
theorem BT.new (w : World) (cs : List Value) (t : TypeId) : BT (w.alloc (.cells cs.toArray t)) w.heap.size cs t := by
  show (w.heap.push _)[w.heap.size]? = _
  simp
theorem BT.ne {w : World} {g g' : Nat} {cs cs' : List Value} {t t' : TypeId} (h : BT w g cs t) (h' : BT w g' cs' t') (ht : t ≠ t') : g ≠ g' := by
  rintro rfl
  unfold BT at h h'
  rw [h] at h'
  injection h' with e
  injection e with _ e
  exact ht e
theorem BT.set {w : World} {g : Nat} {cs : List Value} {t : TypeId} (h : BT w g cs t) (j : Nat) (v : Value) : BT (w.setCell ⟨g, j, none⟩ v) g (cs.set j v) t := by
  obtain ⟨h1, h2⟩ := Array.getElem?_eq_some_iff.1 h
  show (w.heap.modify g _)[g]? = _
  rw [Array.getElem?_eq_getElem (by rw [Array.size_modify]; exact h1), Array.getElem_modify_self, h2]
  simp
theorem BT.other {w : World} {g b : Nat} {cs : List Value} {t : TypeId} (h : BT w g cs t) (hb : b ≠ g) (vs : List Value) (o : Nat) : BT (w.setCells b o vs) g cs t := by
  induction vs generalizing o w with
  | nil => exact h
  | cons v vs ih => exact ih (w := w.setCell ⟨b, o, none⟩ v) ((Below.heap_setCell w ⟨b, o, none⟩ v g (Ne.symm hb)).trans h) (o + 1)
theorem BT.sets {w : World} {g : Nat} {cs : List Value} {t : TypeId} (h : BT w g cs t) : ∀ (vs : List Value) (o : Nat), o + vs.length ≤ cs.length → BT (w.setCells g o vs) g (cs.take o ++ vs ++ cs.drop (o + vs.length)) t := by
  intro vs
  induction vs generalizing w cs with
  | nil => intro o _; simpa [World.setCells] using h
  | cons v vs ih =>
    intro o ho
    have h1 := h.set o v
    have := ih h1 (o + 1) (by simp at ho ⊢; omega)
    show BT _ g _ t
    rw [World.setCells]
    have e := list_seg_step cs o v vs (by simpa using ho)
    rw [e] at this
    exact this
/-- A slot that holds a slice made here. -/
def relMk (B n : Nat) (cs : List Value) (t : TypeId) : Rel where
  rel v w := ∃ g, v = .slice (some ⟨g, 0, none⟩) n n ∧ B ≤ g ∧ BT w g cs t
  mono := fun v w w' h ⟨g, e, hg, hb⟩ => ⟨g, e, hg, hb.later h⟩
  real := fun w ⟨_, e, _⟩ => by cases e
/-- A slot that holds a struct boxed here. -/
def relBx (B : Nat) (cs : List Value) (t : TypeId) : Rel where
  rel v w := ∃ g, v = .pointer (some ⟨g, 0, none⟩) ∧ B ≤ g ∧ BT w g cs t
  mono := fun v w w' h ⟨g, e, hg, hb⟩ => ⟨g, e, hg, hb.later h⟩
  real := fun w ⟨_, e, _⟩ => by cases e
theorem mk_gives {P : Program} {a : Act} {op : Oper} (B n : Nat) (cs : List Value) (ts t : TypeId) (l c : Operand) (ho : op.op = .makeSlice ts l c) (hl : a.eval l = .int .i64 (n : Int)) (hc : a.eval c = .int .i64 (n : Int))
    (hr : ∀ w, (Instr.makeSlice ts (.int .i64 (n : Int)) (.int .i64 (n : Int))).run P w = .ok (.slice (some ⟨w.heap.size, 0, none⟩) n n) (w.alloc (.cells cs.toArray t))) (w : World) (hB : B ≤ w.heap.size) : gives P op a (relMk B n cs t).rel w := by
  unfold gives execOp
  simp only [ho, hl, hc, Sem.run_bind, hr, Result.andThen_ok, Sem.run_pure]
  exact ⟨(Below.refl _ _).alloc (Nat.le_refl _) _, _, rfl, hB, BT.new w cs _⟩
theorem bx_gives {P : Program} {a : Act} {op : Oper} (B : Nat) (cs : List Value) (t : TypeId) (y : Operand) (ho : op.op = .box t y) (hy : a.eval y = .agg cs.toArray)
    (hr : ∀ w, (Instr.box t (.agg cs.toArray)).run P w = .ok (.pointer (some ⟨w.heap.size, 0, none⟩)) (w.alloc (.cells cs.toArray t))) (w : World) (hB : B ≤ w.heap.size) : gives P op a (relBx B cs t).rel w := by
  unfold gives execOp
  simp only [ho, hy, Sem.run_bind, hr, Result.andThen_ok, Sem.run_pure]
  exact ⟨(Below.refl _ _).alloc (Nat.le_refl _) _, _, rfl, hB, BT.new w cs _⟩
/-- copy of whole structs. -/
theorem run_copy_whole {P : Program} (w : World) (t ty e : TypeId) (i : TypeInfo) (size : Nat) (ht : P.underlying t = some (.slice e)) (hi : P.info? e = some i) (hsz : i.size = size) (hpos : 0 < size) (g n c c' B : Nat) (A : Option Addr) (news cs : List Value)
    (hl : news.length = n * size) (hs : Sees w B A news) (h1 : ∀ u ∈ news, u.oneCell' = true) (hB : Blk w g cs) (hfit : news.length ≤ cs.length) :
    (Builtin.copy_ #[t, t] ty #[.slice (some ⟨g, 0, none⟩) n c, .slice A n c']).run P w = .ok (goInt n) (w.setCells g 0 news) := by
  have hst := run_storeCells_cells (P := P) g 0 news 0 w (fun j hj => by
    simp only [Nat.zero_add]
    rw [hB.cell (List.getElem?_eq_getElem (show j < cs.length by omega))]
    rfl) (fun j hj => hB.frozen _) h1
  rw [Nat.add_zero] at hst
  cases A with
  | none =>
    have hn : news = [] := by
      cases news with
      | nil => rfl
      | cons x l => obtain ⟨b, o, e, _⟩ := hs (by simp); cases e
    subst hn
    simp [Builtin.copy_, run_underlying ht, Builtin.lenOf, Builtin.firstCells, sizeOf, typeInfo, hi, storeCells, World.setCells]
  | some ad =>
    have hnews : ∀ j u, news[j]? = some u → w.cell? (ad.add j) = some u := fun j u hj => by
      have hlt := (List.getElem?_eq_some_iff.1 hj).1
      obtain ⟨b', o', e', _, hc⟩ := hs (by omega)
      cases e'
      rw [Addr.add_lit]
      have := hc j hlt
      rw [(List.getElem?_eq_some_iff.1 hj).2] at this
      exact this
    have hld := run_loadCells_list (P := P) w ad news hnews
    rw [hl] at hld
    simp [Builtin.copy_, run_underlying ht, Builtin.lenOf, Builtin.firstCells, sizeOf, typeInfo, hi, hsz, hld, hst]
end Go.Proofs.Ytadmaalhhigbeaa
