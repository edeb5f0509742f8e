/- What each frame of this seat asks once: the tables' world, and that the library's MaxLen holds a number. -/
import Derived.Test.YticdpfjajkfheaaDoorCards
import Derived.Test.YticdpfjajkfheaaDoorTie
import Derived.Test.YticdpfjajkfheaaDoorWords
import Derived.ProofKit
import Derived.OpenShut
import Derived.LaidMore
import Derived.Deep.DeepHandedRow
import Derived.Lib.LaidTab
import Derived.Shelf.Vars
namespace Go.Proofs.YticdpfjajkfheaaDoor
set_option linter.unusedVariables false
open Go.ChangeShapes Go.WideShapes Go.ChangeAt Go.RowKit

theorem own : ownKnob Tryd.prog.godebug = none := by kernel_rfl
theorem laidOut : laidOutB Tryd.prog = true := by kernel_rfl
theorem boolT : Tryd.prog.underlying 4 = some .bool := Tryd.underlying4
theorem max_int {W : World} (h : W.ShapedOpen Tryd.prog) : ∃ m, W.cell? ⟨0, 0, none⟩ = some (.int .i64 m) :=
  Go.Proofs.cell_of_shapedOpen_int (zero := #[.int .i64 0]) (t := 3) h (of_decide_eq_true (by kernel_rfl)) (by kernel_rfl) rfl (by kernel_rfl) (by kernel_rfl) Tryd.underlying3
theorem max_block {W : World} {m : Int} (h : W.cell? ⟨0, 0, none⟩ = some (.int .i64 m)) : 0 < W.heap.size := by
  rcases Nat.eq_zero_or_pos W.heap.size with e | e
  · exfalso
    have : W.heap[0]? = none := Array.getElem?_eq_none (by omega)
    simp [World.cell?, this] at h
  · exact e
theorem max_later {B : Nat} {W W' : World} {m : Int} (h : W.cell? ⟨0, 0, none⟩ = some (.int .i64 m)) (hb : Below W.heap.size W W') : W'.cell? ⟨0, 0, none⟩ = some (.int .i64 m) :=
  (hb.cell (p := ⟨0, 0, none⟩) (max_block h)).trans h
theorem no_stand (fn : Func) (h : (fn.params.toList.all fun t => !Tryd.pinned.checked.prog.wantsStandIn t) = true) : ∀ (j : Nat) t, fn.params[j]? = some t → Tryd.pinned.checked.prog.wantsStandIn t = false := fun j t ht => by
  have := List.all_eq_true.1 h t (by
    rw [Array.mem_toList_iff]
    exact Array.mem_of_getElem? ht)
  simpa using this
theorem looks_off : false = Tryd.pinned.checked.prog.looks [] := by kernel_rfl
/-- The tables' world: what the initialisers lay, and Go's own table of first bytes. -/
def firstCells : Array Value := match Go.Pinned.utf8First with
  | .agg l => (l.map fun d => match d with
    | .lit (.int k n) => Value.int k n
    | _ => undef).toArray
  | _ => #[]
noncomputable def tabWorld (os : Os) : World :=
  let w0 := World.doorLaid Tryd.prog 34 os
  { w0 with heap := w0.heap.modify 1 fun o => match o with
      | .cells _ t frozen => .cells firstCells t frozen
      | o => o }
theorem five_met (os : Os) (args : Array Value) : laidMet Tryd.prog Rows.tokenReadsRow.laid ((tabWorld os).forCall (fun _ _ => 0) ⟨#[], args, []⟩).memory :=
  laidMet_of_run' 8 (by kernel_rfl) (by kernel_rfl)
end Go.Proofs.YticdpfjajkfheaaDoor
