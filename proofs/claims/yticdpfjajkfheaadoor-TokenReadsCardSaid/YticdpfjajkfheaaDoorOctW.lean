/- Two readers beside one another: the program's, and the document's, at the same place. -/
import Derived.Test.YticdpfjajkfheaaDoorOctV
import Derived.Test.YticdpfjajkfheaaDoorOctG
import Derived.Test.YticdpfjajkfheaaDoorOctetBack
import Derived.Test.YticdpfjajkfheaaDoorWords3
import Derived.Test.YticdpfjajkfheaaDoorSteady
namespace Go.Proofs.YticdpfjajkfheaaDoor
set_option linter.unusedVariables false
open Go.ChangeShapes Go.WideShapes Go.ChangeAt Go.RowKit OctM

theorem grown_none {w w' : World} (h : Below w.heap.size w w') (row : Option Nat) : w.grownBy w' row := ⟨h.os, h.tape, h.output, h.size, fun k hk _ => h.block k hk⟩
theorem Own.laterO {w w' : World} {base : Nat} {e : TypeId} {v : Value} {xs : List Value} (h : Own w base e v xs) (hb : Below w.heap.size w w') : Own w' base e v xs := by
  refine h.kept (grown_none hb none) ?_
  rcases v.ownBlock with _ | g
  · exact .inl rfl
  · exact .inr (by simp)
theorem Rd.later {w w' : World} {base g : Nat} {l : List UInt8} {a : Nat} {e : Int} (h : Rd w base g l a e) (hb : Below w.heap.size w w') : Rd w' base g l a e := by
  have hg := h.block.2
  obtain ⟨A, c, h1, h2, h3, h4⟩ := h
  exact ⟨A, c, h1, h2, h3.laterO hb, h4.below (hb.mono (Nat.le_of_lt hg))⟩
theorem Rr.later {w w' : World} {base g : Nat} {l : List UInt8} {e : Int} (h : Rr w base g l e) (hb : Below w.heap.size w w') : Rr w' base g l e := Own.laterO h hb
theorem Rr.block {w : World} {base g : Nat} {l : List UInt8} {e : Int} (h : Rr w base g l e) : base ≤ g ∧ g < w.heap.size := Own.lt h g rfl
theorem Rd.other {w w' : World} {base g m : Nat} {l : List UInt8} {a : Nat} {e : Int} (h : Rd w base g l a e) (hg : w.grownBy w' (some m)) (hm : g < m) : Rd w' base g l a e := by
  have hlt := h.block.2
  obtain ⟨A, c, h1, h2, h3, h4⟩ := h
  exact ⟨A, c, h1, h2, h3.kept hg (.inr (by simp [Value.ownBlock]; omega)), h4.grown hg (Nat.le_of_lt hlt) (fun k hk => by cases hk; omega)⟩
theorem Rr.other {w w' : World} {base g m : Nat} {l : List UInt8} {e : Int} (h : Rr w base g l e) (hg : w.grownBy w' (some m)) (hm : m < g) : Rr w' base g l e :=
  Own.kept h hg (.inr (by simp [Value.ownBlock]; omega))

/-- Both readers, and what was there before them as it was. -/
def Two (W w : World) (gr gm : Nat) (l : List UInt8) (a : Nat) (e : Int) (l' : List UInt8) (e' : Int) : Prop :=
  Rd w W.heap.size gr l a e ∧ Rr w W.heap.size gm l' e' ∧ gr < gm ∧ Below W.heap.size W w
theorem Two.later {W w w' : World} {gr gm : Nat} {l : List UInt8} {a : Nat} {e : Int} {l' : List UInt8} {e' : Int} (h : Two W w gr gm l a e l' e') (hb : Below w.heap.size w w') : Two W w' gr gm l a e l' e' :=
  ⟨h.1.later hb, h.2.1.later hb, h.2.2.1, on_below h.2.2.2 hb⟩
theorem Two.drewN {W w : World} {gr gm : Nat} {l : List UInt8} {a : Nat} {e : Int} {l' : List UInt8} {e' : Int} (h : Two W w gr gm l a e l' e') (k : Nat) : Two W (w.drewN k) gr gm l a e l' e' :=
  h.later (below_drewN (Below.refl _ _) k)
theorem Two.first {W w w' : World} {gr gm : Nat} {l : List UInt8} {a a2 : Nat} {e e2 : Int} {l' : List UInt8} {e' : Int} (h : Two W w gr gm l a e l' e') (hr : Rd w' W.heap.size gr l a2 e2) (hg : w.grownBy w' (some gr)) : Two W w' gr gm l a2 e2 l' e' :=
  ⟨hr, h.2.1.other hg h.2.2.1, h.2.2.1, h.2.2.2.grown hg h.2.2.2.size (fun k hk => by cases hk; exact h.1.block.1)⟩
theorem Two.second {W w w' : World} {gr gm : Nat} {l : List UInt8} {a : Nat} {e : Int} {l' l2 : List UInt8} {e' e2 : Int} (h : Two W w gr gm l a e l' e') (hr : Rr w' W.heap.size gm l2 e2) (hg : w.grownBy w' (some gm)) : Two W w' gr gm l a e l2 e2 :=
  ⟨h.1.other hg h.2.2.1, hr, h.2.2.1, h.2.2.2.grown hg h.2.2.2.size (fun k hk => by cases hk; exact h.2.1.block.1)⟩

/-- Both at the same place. -/
def Same2 (W w : World) (gr gm : Nat) (l : List UInt8) (a : Nat) (e : Int) : Prop := Two W w gr gm l a e (l.drop a) e ∧ a ≤ l.length ∧ l.length ≤ 2000

theorem strOut_at (l : List UInt8) (a : Nat) (e m : Int) (h : a ≤ l.length) : (strOut l a e m).2.1 ≤ l.length := by
  have h2 := numOut_at l a 0 m h
  unfold strOut
  split
  · exact h
  · split
    · assumption
    · split
      · exact h
      · simp; omega
theorem flagOut_at (l : List UInt8) (a : Nat) (e : Int) (h : a ≤ l.length) : (flagOut l a e).2.1 ≤ l.length := by
  have h2 := numOut_at l a 0 1099511627776 h
  unfold flagOut
  split
  · exact h
  · split
    · exact h
    · assumption
end Go.Proofs.YticdpfjajkfheaaDoor
