/- Slices and boxes that a drawn region makes, told apart by their types; copy of whole structs: general. -/
import Derived.Test.YtnhcjadkbogioaaGreatM5
import Derived.Test.YtnhcjadkbogioaaGreatM12
import Derived.Test.YtnhcjadkbogioaaGreatM3
import Derived.Laws.IdiomCopy
namespace Go.Proofs.YtnhcjadkbogioaaGreat
set_option linter.unusedVariables false
set_option linter.unusedSimpArgs false
open Go Go.RowKit
def BT (w : World) (g : Nat) (cs : List Value) (t : TypeId) : Prop := w.heap[g]? = some (.cells cs.toArray t (0, 0))
theorem BT.blk {w : World} {g : Nat} {cs : List Value} {t : TypeId} (h : BT w g cs t) : Blk w g cs := ⟨t, h⟩
theorem BT.lt {w : World} {g : Nat} {cs : List Value} {t : TypeId} (h : BT w g cs t) : g < w.heap.size := h.blk.lt
theorem BT.later {w w' : World} {g : Nat} {cs : List Value} {t : TypeId} (h : BT w g cs t) (hb : Below w.heap.size w w') : BT w' g cs t := (hb.block g h.lt).trans h
theorem BT.new (w : World) (cs : List Value) (t : TypeId) : BT (w.alloc (.cells cs.toArray t)) w.heap.size cs t := by
  show (w.heap.push _)[w.heap.size]? = _
  simp
theorem BT.set {w : World} {g : Nat} {cs : List Value} {t : TypeId} (h : BT w g cs t) (j : Nat) (v : Value) : BT (w.setCell ⟨g, j, none⟩ v) g (cs.set j v) t := by
  obtain ⟨h1, h2⟩ := Array.getElem?_eq_some_iff.1 h
  show (w.heap.modify g _)[g]? = _
  rw [Array.getElem?_eq_getElem (by rw [Array.size_modify]; exact h1), Array.getElem_modify_self, h2]
  simp
theorem BT.other {w : World} {g b : Nat} {cs : List Value} {t : TypeId} (h : BT w g cs t) (hb : b ≠ g) (vs : List Value) (o : Nat) : BT (w.setCells b o vs) g cs t := by
  induction vs generalizing o w with
  | nil => exact h
  | cons v vs ih => exact ih (w := w.setCell ⟨b, o, none⟩ v) ((Below.heap_setCell w ⟨b, o, none⟩ v g (Ne.symm hb)).trans h) (o + 1)
theorem BT.sets {w : World} {g : Nat} {cs : List Value} {t : TypeId} (h : BT w g cs t) : ∀ (vs : List Value) (o : Nat), o + vs.length ≤ cs.length → BT (w.setCells g o vs) g (cs.take o ++ vs ++ cs.drop (o + vs.length)) t := by
  intro vs
  induction vs generalizing w cs with
  | nil => intro o _; simpa [World.setCells] using h
  | cons v vs ih =>
    intro o ho
    have h1 := h.set o v
    have := ih h1 (o + 1) (by simp at ho ⊢; omega)
    show BT _ g _ t
    rw [World.setCells]
    have e := list_seg_step cs o v vs (by simpa using ho)
    rw [e] at this
    exact this
end Go.Proofs.YtnhcjadkbogioaaGreat
