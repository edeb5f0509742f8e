/-
  No cell of these rows narrows 'for every input' (looked for: loops, veiled, ifaces, maps, wideKeys, modest, calm, conditions, laid).
  DERIVED. THE GIVEN ROWS OF THIS SEAT. 4 by the template 'for every input the law returns true; each argument reads behind the call as it read before'; 0 by the template 'total and deterministic' (their statements: YtepefocpeeihdaaTotals.lean).
  GIVEN WITH THE SEED: the statements are not yours to turn. If you find one false, say at which input.
  Laid BY PROGRAM, IN A SANDBOX (cutbox-rows.mjs): the forced cells as the released guide's own fill.sh prints them over the translation 64f47caa6166d00c… (all of the seat's roots in one cut). By AI agents, Wed Nov 11 2026. No macro, syntax, notation, axiom, sorry.
-/
import Derived.Test.YtepefocpeeihdaaChecked
import GoSem.Claim
import GoSem.ClaimJoined
import GoSem.ClaimMapViews
import Derived.JoinedTies
import Derived.KernelRfl
namespace Go.Proofs.Ytepefocpeeihdaa
/- THE CELL 'sum', in the pinned program and in every row, IS THE sha256 OF THE DUMP (.gsa) THAT YtepefocpeeihdaaProg.lean LOADS. Nothing in Lean hashes anything: it is a label: what it is worth is what the hold of that sum in a sandbox is worth. -/
noncomputable def Try.pinned : Pinned := { name := "ytepefocpeeihdaa", sum := "64f47caa6166d00c71b15bdd55e37e49105bda64c18757f4fbe68638a43d255b", checked := Try.checked }
namespace Rows
def none {H : Type} : Left H := { results := [], args := [] }

/-- 'offprintlaw23.TransNets': WHATEVER THE INPUT: true; the input reads as it did. -/
def transNetsSpec : ChangeSpec := { name := "transNets", fn := fun _ => fun
  | [d] => { results := [.lit (.bool true)], args := [d] }
  | _ => none }
def transNetsRow : OpenClaim := { program := "ytepefocpeeihdaa", sum := "64f47caa6166d00c71b15bdd55e37e49105bda64c18757f4fbe68638a43d255b", func := "offprint/offprintlaw23.TransNets", spec := "transNets", unfollowed := true, recurses := true, apart := false }
def TransNetsSaid : Prop := transNetsRow.holds Try.pinned (OpenSpec.ofChange transNetsSpec)

/-- ITS FALSE NEIGHBOUR: 'it returns false'. Refute it at one input. -/
def transNetsWrong : ChangeSpec := { name := "transNets", fn := fun _ => fun
  | [d] => { results := [.lit (.bool false)], args := [d] }
  | _ => none }
def TransNetsWrongFalsely : Prop := transNetsRow.holds Try.pinned (OpenSpec.ofChange transNetsWrong)

/-- 'offprintlaw23.TransApplies': WHATEVER THE INPUT: true; the input reads as it did. -/
def transAppliesSpec : ChangeSpec := { name := "transApplies", fn := fun _ => fun
  | [d1, d2, d3] => { results := [.lit (.bool true)], args := [d1, d2, d3] }
  | _ => none }
def transAppliesRow : OpenClaim := { program := "ytepefocpeeihdaa", sum := "64f47caa6166d00c71b15bdd55e37e49105bda64c18757f4fbe68638a43d255b", func := "offprint/offprintlaw23.TransApplies", spec := "transApplies", unfollowed := true, recurses := true, apart := false }
def TransAppliesSaid : Prop := transAppliesRow.holds Try.pinned (OpenSpec.ofChange transAppliesSpec)

/-- ITS FALSE NEIGHBOUR: 'it returns false'. Refute it at one input. -/
def transAppliesWrong : ChangeSpec := { name := "transApplies", fn := fun _ => fun
  | [d1, d2, d3] => { results := [.lit (.bool false)], args := [d1, d2, d3] }
  | _ => none }
def TransAppliesWrongFalsely : Prop := transAppliesRow.holds Try.pinned (OpenSpec.ofChange transAppliesWrong)

/-- 'offprintlaw23.TransTwice': WHATEVER THE INPUT: true; the input reads as it did. -/
def transTwiceSpec : ChangeSpec := { name := "transTwice", fn := fun _ => fun
  | [d1, d2, d3] => { results := [.lit (.bool true)], args := [d1, d2, d3] }
  | _ => none }
def transTwiceRow : OpenClaim := { program := "ytepefocpeeihdaa", sum := "64f47caa6166d00c71b15bdd55e37e49105bda64c18757f4fbe68638a43d255b", func := "offprint/offprintlaw23.TransTwice", spec := "transTwice", unfollowed := true, recurses := true, apart := false }
def TransTwiceSaid : Prop := transTwiceRow.holds Try.pinned (OpenSpec.ofChange transTwiceSpec)

/-- ITS FALSE NEIGHBOUR: 'it returns false'. Refute it at one input. -/
def transTwiceWrong : ChangeSpec := { name := "transTwice", fn := fun _ => fun
  | [d1, d2, d3] => { results := [.lit (.bool false)], args := [d1, d2, d3] }
  | _ => none }
def TransTwiceWrongFalsely : Prop := transTwiceRow.holds Try.pinned (OpenSpec.ofChange transTwiceWrong)

/-- 'offprintlaw23.TransOnce': WHATEVER THE INPUT: true; the input reads as it did. -/
def transOnceSpec : ChangeSpec := { name := "transOnce", fn := fun _ => fun
  | [d] => { results := [.lit (.bool true)], args := [d] }
  | _ => none }
def transOnceRow : OpenClaim := { program := "ytepefocpeeihdaa", sum := "64f47caa6166d00c71b15bdd55e37e49105bda64c18757f4fbe68638a43d255b", func := "offprint/offprintlaw23.TransOnce", spec := "transOnce", unfollowed := true, recurses := true, apart := false }
def TransOnceSaid : Prop := transOnceRow.holds Try.pinned (OpenSpec.ofChange transOnceSpec)

/-- ITS FALSE NEIGHBOUR: 'it returns false'. Refute it at one input. -/
def transOnceWrong : ChangeSpec := { name := "transOnce", fn := fun _ => fun
  | [d] => { results := [.lit (.bool false)], args := [d] }
  | _ => none }
def TransOnceWrongFalsely : Prop := transOnceRow.holds Try.pinned (OpenSpec.ofChange transOnceWrong)

/- THE SECOND FORM. 'bulk': how many values and letters a reading holds, each counted each time it is reached (what is shared counts as often as it is met; a slice's spare places count too). A statement '..UptoSaid' is the law's where the arguments, and the package variables that the reading takes, are together of bulk at most 1048576: NARROWER than '..Said'. Prove '..Said' where nothing that the law and all that it calls make is longer than what came in: it says more and counts as full. Else prove '..UptoSaid'. A law counts once. -/
mutual
def uptoBulk {H : Type} : DataW H → Nat
  | .lit (.string bytes) => bytes.length + 1
  | .lit _ => 1
  | .nil => 1
  | .ptr d => uptoBulk d + 1
  | .slice elems spare => uptoBulkAll elems + uptoBulkAll spare + 1
  | .agg parts => uptoBulkAll parts + 1
  | .iface _ d => uptoBulk d + 1
  | .map entries => uptoBulkEntries entries + 1
  | .held _ => 1
def uptoBulkAll {H : Type} : List (DataW H) → Nat
  | [] => 0
  | d :: r => uptoBulk d + uptoBulkAll r
def uptoBulkEntries {H : Type} : List (Lit × DataW H) → Nat
  | [] => 0
  | x :: r => uptoBulkEntry x + uptoBulkEntries r
def uptoBulkEntry {H : Type} : Lit × DataW H → Nat
  | (.string bytes, d) => bytes.length + uptoBulk d + 1
  | (_, d) => uptoBulk d + 1
 end
def uptoSmall : (H : Type) → List (DataW H) → Bool := fun _ ds => decide (uptoBulkAll ds ≤ 1048576)
def OpenSpec.upto (s : _root_.Go.ChangeSpec) : _root_.Go.OpenSpec := { _root_.Go.OpenSpec.ofChange s with cond := some uptoSmall }

/-- 'offprintlaw23.TransNets', WHERE WHAT IT READS IS OF BULK AT MOST 1048576: true; the input reads as it did. -/
def transNetsUptoRow : OpenClaim := { program := "ytepefocpeeihdaa", sum := "64f47caa6166d00c71b15bdd55e37e49105bda64c18757f4fbe68638a43d255b", func := "offprint/offprintlaw23.TransNets", spec := "transNets", unfollowed := true, recurses := true, apart := false, narrowed := true }
def TransNetsUptoSaid : Prop := transNetsUptoRow.holds Try.pinned (OpenSpec.upto transNetsSpec)

/-- 'offprintlaw23.TransApplies', WHERE WHAT IT READS IS OF BULK AT MOST 1048576: true; the input reads as it did. -/
def transAppliesUptoRow : OpenClaim := { program := "ytepefocpeeihdaa", sum := "64f47caa6166d00c71b15bdd55e37e49105bda64c18757f4fbe68638a43d255b", func := "offprint/offprintlaw23.TransApplies", spec := "transApplies", unfollowed := true, recurses := true, apart := false, narrowed := true }
def TransAppliesUptoSaid : Prop := transAppliesUptoRow.holds Try.pinned (OpenSpec.upto transAppliesSpec)

/-- 'offprintlaw23.TransTwice', WHERE WHAT IT READS IS OF BULK AT MOST 1048576: true; the input reads as it did. -/
def transTwiceUptoRow : OpenClaim := { program := "ytepefocpeeihdaa", sum := "64f47caa6166d00c71b15bdd55e37e49105bda64c18757f4fbe68638a43d255b", func := "offprint/offprintlaw23.TransTwice", spec := "transTwice", unfollowed := true, recurses := true, apart := false, narrowed := true }
def TransTwiceUptoSaid : Prop := transTwiceUptoRow.holds Try.pinned (OpenSpec.upto transTwiceSpec)

/-- 'offprintlaw23.TransOnce', WHERE WHAT IT READS IS OF BULK AT MOST 1048576: true; the input reads as it did. -/
def transOnceUptoRow : OpenClaim := { program := "ytepefocpeeihdaa", sum := "64f47caa6166d00c71b15bdd55e37e49105bda64c18757f4fbe68638a43d255b", func := "offprint/offprintlaw23.TransOnce", spec := "transOnce", unfollowed := true, recurses := true, apart := false, narrowed := true }
def TransOnceUptoSaid : Prop := transOnceUptoRow.holds Try.pinned (OpenSpec.upto transOnceSpec)

end Rows
end Go.Proofs.Ytepefocpeeihdaa
