/-
  No cell of these rows narrows 'for every input' (looked for: loops, veiled, ifaces, maps, wideKeys, modest, calm, conditions, laid).
  DERIVED. THE GIVEN ROWS OF THIS SEAT. 3 by the template 'for every input the law returns true; each argument reads behind the call as it read before'; 0 by the template 'total and deterministic' (their statements: YtcdmbidggikmfaaTotals.lean).
  GIVEN WITH THE SEED: the statements are not yours to turn. If you find one false, say at which input.
  Laid BY PROGRAM, IN A SANDBOX (cutbox-rows.mjs): the forced cells as the released guide's own fill.sh prints them over the translation fcea2bb3a4f950b6… (all of the seat's roots in one cut). By AI agents, Wed Nov 11 2026. No macro, syntax, notation, axiom, sorry.
-/
import Derived.Test.YtcdmbidggikmfaaChecked
import GoSem.Claim
import GoSem.ClaimJoined
import GoSem.ClaimMapViews
import Derived.JoinedTies
import Derived.KernelRfl
namespace Go.Proofs.Ytcdmbidggikmfaa
/- THE CELL 'sum', in the pinned program and in every row, IS THE sha256 OF THE DUMP (.gsa) THAT YtcdmbidggikmfaaProg.lean LOADS. Nothing in Lean hashes anything: it is a label: what it is worth is what the hold of that sum in a sandbox is worth. -/
noncomputable def Try.pinned : Pinned := { name := "ytcdmbidggikmfaa", sum := "fcea2bb3a4f950b65311f05aef41f0bccabe9344cd1cbf8013a6188e810363b5", checked := Try.checked }
namespace Rows
def none {H : Type} : Left H := { results := [], args := [] }

/-- 'offprintlaw24.DeltaCuts': WHATEVER THE INPUT: true; the input reads as it did. -/
def deltaCutsSpec : ChangeSpec := { name := "deltaCuts", fn := fun _ => fun
  | [d1, d2] => { results := [.lit (.bool true)], args := [d1, d2] }
  | _ => none }
def deltaCutsRow : OpenClaim := { program := "ytcdmbidggikmfaa", sum := "fcea2bb3a4f950b65311f05aef41f0bccabe9344cd1cbf8013a6188e810363b5", func := "offprint/offprintlaw24.DeltaCuts", spec := "deltaCuts", unfollowed := true, recurses := true, apart := false }
def DeltaCutsSaid : Prop := deltaCutsRow.holds Try.pinned (OpenSpec.ofChange deltaCutsSpec)

/-- ITS FALSE NEIGHBOUR: 'it returns false'. Refute it at one input. -/
def deltaCutsWrong : ChangeSpec := { name := "deltaCuts", fn := fun _ => fun
  | [d1, d2] => { results := [.lit (.bool false)], args := [d1, d2] }
  | _ => none }
def DeltaCutsWrongFalsely : Prop := deltaCutsRow.holds Try.pinned (OpenSpec.ofChange deltaCutsWrong)

/-- 'offprintlaw24.DeltaMost': WHATEVER THE INPUT: true; the input reads as it did. -/
def deltaMostSpec : ChangeSpec := { name := "deltaMost", fn := fun _ => fun
  | [d1, d2, d3] => { results := [.lit (.bool true)], args := [d1, d2, d3] }
  | _ => none }
def deltaMostRow : OpenClaim := { program := "ytcdmbidggikmfaa", sum := "fcea2bb3a4f950b65311f05aef41f0bccabe9344cd1cbf8013a6188e810363b5", func := "offprint/offprintlaw24.DeltaMost", spec := "deltaMost", unfollowed := true, recurses := true, apart := false }
def DeltaMostSaid : Prop := deltaMostRow.holds Try.pinned (OpenSpec.ofChange deltaMostSpec)

/-- ITS FALSE NEIGHBOUR: 'it returns false'. Refute it at one input. -/
def deltaMostWrong : ChangeSpec := { name := "deltaMost", fn := fun _ => fun
  | [d1, d2, d3] => { results := [.lit (.bool false)], args := [d1, d2, d3] }
  | _ => none }
def DeltaMostWrongFalsely : Prop := deltaMostRow.holds Try.pinned (OpenSpec.ofChange deltaMostWrong)

/-- 'offprintlaw24.DeltaComes': WHATEVER THE INPUT: true; the input reads as it did. -/
def deltaComesSpec : ChangeSpec := { name := "deltaComes", fn := fun _ => fun
  | [d1, d2, d3] => { results := [.lit (.bool true)], args := [d1, d2, d3] }
  | _ => none }
def deltaComesRow : OpenClaim := { program := "ytcdmbidggikmfaa", sum := "fcea2bb3a4f950b65311f05aef41f0bccabe9344cd1cbf8013a6188e810363b5", func := "offprint/offprintlaw24.DeltaComes", spec := "deltaComes", unfollowed := true, recurses := true, apart := false }
def DeltaComesSaid : Prop := deltaComesRow.holds Try.pinned (OpenSpec.ofChange deltaComesSpec)

/-- ITS FALSE NEIGHBOUR: 'it returns false'. Refute it at one input. -/
def deltaComesWrong : ChangeSpec := { name := "deltaComes", fn := fun _ => fun
  | [d1, d2, d3] => { results := [.lit (.bool false)], args := [d1, d2, d3] }
  | _ => none }
def DeltaComesWrongFalsely : Prop := deltaComesRow.holds Try.pinned (OpenSpec.ofChange deltaComesWrong)

/- THE SECOND FORM. 'bulk': how many values and letters a reading holds, each counted each time it is reached (what is shared counts as often as it is met; a slice's spare places count too). A statement '..UptoSaid' is the law's where the arguments, and the package variables that the reading takes, are together of bulk at most 1048576: NARROWER than '..Said'. Prove '..Said' where nothing that the law and all that it calls make is longer than what came in: it says more and counts as full. Else prove '..UptoSaid'. A law counts once. -/
mutual
def uptoBulk {H : Type} : DataW H → Nat
  | .lit (.string bytes) => bytes.length + 1
  | .lit _ => 1
  | .nil => 1
  | .ptr d => uptoBulk d + 1
  | .slice elems spare => uptoBulkAll elems + uptoBulkAll spare + 1
  | .agg parts => uptoBulkAll parts + 1
  | .iface _ d => uptoBulk d + 1
  | .map entries => uptoBulkEntries entries + 1
  | .held _ => 1
def uptoBulkAll {H : Type} : List (DataW H) → Nat
  | [] => 0
  | d :: r => uptoBulk d + uptoBulkAll r
def uptoBulkEntries {H : Type} : List (Lit × DataW H) → Nat
  | [] => 0
  | x :: r => uptoBulkEntry x + uptoBulkEntries r
def uptoBulkEntry {H : Type} : Lit × DataW H → Nat
  | (.string bytes, d) => bytes.length + uptoBulk d + 1
  | (_, d) => uptoBulk d + 1
 end
def uptoSmall : (H : Type) → List (DataW H) → Bool := fun _ ds => decide (uptoBulkAll ds ≤ 1048576)
def OpenSpec.upto (s : _root_.Go.ChangeSpec) : _root_.Go.OpenSpec := { _root_.Go.OpenSpec.ofChange s with cond := some uptoSmall }

/-- 'offprintlaw24.DeltaCuts', WHERE WHAT IT READS IS OF BULK AT MOST 1048576: true; the input reads as it did. -/
def deltaCutsUptoRow : OpenClaim := { program := "ytcdmbidggikmfaa", sum := "fcea2bb3a4f950b65311f05aef41f0bccabe9344cd1cbf8013a6188e810363b5", func := "offprint/offprintlaw24.DeltaCuts", spec := "deltaCuts", unfollowed := true, recurses := true, apart := false, narrowed := true }
def DeltaCutsUptoSaid : Prop := deltaCutsUptoRow.holds Try.pinned (OpenSpec.upto deltaCutsSpec)

/-- 'offprintlaw24.DeltaMost', WHERE WHAT IT READS IS OF BULK AT MOST 1048576: true; the input reads as it did. -/
def deltaMostUptoRow : OpenClaim := { program := "ytcdmbidggikmfaa", sum := "fcea2bb3a4f950b65311f05aef41f0bccabe9344cd1cbf8013a6188e810363b5", func := "offprint/offprintlaw24.DeltaMost", spec := "deltaMost", unfollowed := true, recurses := true, apart := false, narrowed := true }
def DeltaMostUptoSaid : Prop := deltaMostUptoRow.holds Try.pinned (OpenSpec.upto deltaMostSpec)

/-- 'offprintlaw24.DeltaComes', WHERE WHAT IT READS IS OF BULK AT MOST 1048576: true; the input reads as it did. -/
def deltaComesUptoRow : OpenClaim := { program := "ytcdmbidggikmfaa", sum := "fcea2bb3a4f950b65311f05aef41f0bccabe9344cd1cbf8013a6188e810363b5", func := "offprint/offprintlaw24.DeltaComes", spec := "deltaComes", unfollowed := true, recurses := true, apart := false, narrowed := true }
def DeltaComesUptoSaid : Prop := deltaComesUptoRow.holds Try.pinned (OpenSpec.upto deltaComesSpec)

end Rows
end Go.Proofs.Ytcdmbidggikmfaa
