/-
  No cell of these rows narrows 'for every input' (looked for: loops, veiled, ifaces, maps, wideKeys, modest, calm, conditions, laid).
  DERIVED. THE GIVEN ROWS OF THIS SEAT. 3 by the template 'for every input the law returns true; each argument reads behind the call as it read before'; 0 by the template 'total and deterministic' (their statements: YtglhgdkghddcaaaTotals.lean).
  GIVEN WITH THE SEED: the statements are not yours to turn. If you find one false, say at which input.
  Laid BY PROGRAM, IN A SANDBOX (cutbox-rows.mjs): the forced cells as the released guide's own fill.sh prints them over the translation 0d734775c4030485… (all of the seat's roots in one cut). By AI agents, Wed Nov 11 2026. No macro, syntax, notation, axiom, sorry.
-/
import Derived.Test.YtglhgdkghddcaaaChecked
import GoSem.Claim
import GoSem.ClaimJoined
import GoSem.ClaimMapViews
import Derived.JoinedTies
import Derived.KernelRfl
namespace Go.Proofs.Ytglhgdkghddcaaa
/- THE CELL 'sum', in the pinned program and in every row, IS THE sha256 OF THE DUMP (.gsa) THAT YtglhgdkghddcaaaProg.lean LOADS. Nothing in Lean hashes anything: it is a label: what it is worth is what the hold of that sum in a sandbox is worth. -/
noncomputable def Try.pinned : Pinned := { name := "ytglhgdkghddcaaa", sum := "0d734775c40304854f33804cfb8e5dd969c14d2a6a5ae3926f5adf5a41508ceb", checked := Try.checked }
namespace Rows
def none {H : Type} : Left H := { results := [], args := [] }

/-- 'offprintlaw17.GroupDoes': WHATEVER THE INPUT: true; the input reads as it did. -/
def groupDoesSpec : ChangeSpec := { name := "groupDoes", fn := fun _ => fun
  | [d1, d2, d3] => { results := [.lit (.bool true)], args := [d1, d2, d3] }
  | _ => none }
def groupDoesRow : OpenClaim := { program := "ytglhgdkghddcaaa", sum := "0d734775c40304854f33804cfb8e5dd969c14d2a6a5ae3926f5adf5a41508ceb", func := "offprint/offprintlaw17.GroupDoes", spec := "groupDoes", inPlace := ["slices.overlaps[offprint/api.Group]"], unfollowed := true, recurses := true, apart := false }
def GroupDoesSaid : Prop := groupDoesRow.holds Try.pinned (OpenSpec.ofChange groupDoesSpec)

/-- ITS FALSE NEIGHBOUR: 'it returns false'. Refute it at one input. -/
def groupDoesWrong : ChangeSpec := { name := "groupDoes", fn := fun _ => fun
  | [d1, d2, d3] => { results := [.lit (.bool false)], args := [d1, d2, d3] }
  | _ => none }
def GroupDoesWrongFalsely : Prop := groupDoesRow.holds Try.pinned (OpenSpec.ofChange groupDoesWrong)

/-- 'offprintlaw17.GroupTells': WHATEVER THE INPUT: true; the input reads as it did. -/
def groupTellsSpec : ChangeSpec := { name := "groupTells", fn := fun _ => fun
  | [d1, d2, d3] => { results := [.lit (.bool true)], args := [d1, d2, d3] }
  | _ => none }
def groupTellsRow : OpenClaim := { program := "ytglhgdkghddcaaa", sum := "0d734775c40304854f33804cfb8e5dd969c14d2a6a5ae3926f5adf5a41508ceb", func := "offprint/offprintlaw17.GroupTells", spec := "groupTells", inPlace := ["slices.overlaps[offprint/api.Group]"], unfollowed := true, recurses := true, apart := false }
def GroupTellsSaid : Prop := groupTellsRow.holds Try.pinned (OpenSpec.ofChange groupTellsSpec)

/-- ITS FALSE NEIGHBOUR: 'it returns false'. Refute it at one input. -/
def groupTellsWrong : ChangeSpec := { name := "groupTells", fn := fun _ => fun
  | [d1, d2, d3] => { results := [.lit (.bool false)], args := [d1, d2, d3] }
  | _ => none }
def GroupTellsWrongFalsely : Prop := groupTellsRow.holds Try.pinned (OpenSpec.ofChange groupTellsWrong)

/-- 'offprintlaw17.GroupOthers': WHATEVER THE INPUT: true; the input reads as it did. -/
def groupOthersSpec : ChangeSpec := { name := "groupOthers", fn := fun _ => fun
  | [d1, d2, d3] => { results := [.lit (.bool true)], args := [d1, d2, d3] }
  | _ => none }
def groupOthersRow : OpenClaim := { program := "ytglhgdkghddcaaa", sum := "0d734775c40304854f33804cfb8e5dd969c14d2a6a5ae3926f5adf5a41508ceb", func := "offprint/offprintlaw17.GroupOthers", spec := "groupOthers", inPlace := ["slices.overlaps[offprint/api.Group]"], unfollowed := true, recurses := true, apart := false }
def GroupOthersSaid : Prop := groupOthersRow.holds Try.pinned (OpenSpec.ofChange groupOthersSpec)

/-- ITS FALSE NEIGHBOUR: 'it returns false'. Refute it at one input. -/
def groupOthersWrong : ChangeSpec := { name := "groupOthers", fn := fun _ => fun
  | [d1, d2, d3] => { results := [.lit (.bool false)], args := [d1, d2, d3] }
  | _ => none }
def GroupOthersWrongFalsely : Prop := groupOthersRow.holds Try.pinned (OpenSpec.ofChange groupOthersWrong)

/- THE SECOND FORM. 'bulk': how many values and letters a reading holds, each counted each time it is reached (what is shared counts as often as it is met; a slice's spare places count too). A statement '..UptoSaid' is the law's where the arguments, and the package variables that the reading takes, are together of bulk at most 1048576: NARROWER than '..Said'. Prove '..Said' where nothing that the law and all that it calls make is longer than what came in: it says more and counts as full. Else prove '..UptoSaid'. A law counts once. -/
mutual
def uptoBulk {H : Type} : DataW H → Nat
  | .lit (.string bytes) => bytes.length + 1
  | .lit _ => 1
  | .nil => 1
  | .ptr d => uptoBulk d + 1
  | .slice elems spare => uptoBulkAll elems + uptoBulkAll spare + 1
  | .agg parts => uptoBulkAll parts + 1
  | .iface _ d => uptoBulk d + 1
  | .map entries => uptoBulkEntries entries + 1
  | .held _ => 1
def uptoBulkAll {H : Type} : List (DataW H) → Nat
  | [] => 0
  | d :: r => uptoBulk d + uptoBulkAll r
def uptoBulkEntries {H : Type} : List (Lit × DataW H) → Nat
  | [] => 0
  | x :: r => uptoBulkEntry x + uptoBulkEntries r
def uptoBulkEntry {H : Type} : Lit × DataW H → Nat
  | (.string bytes, d) => bytes.length + uptoBulk d + 1
  | (_, d) => uptoBulk d + 1
 end
def uptoSmall : (H : Type) → List (DataW H) → Bool := fun _ ds => decide (uptoBulkAll ds ≤ 1048576)
def OpenSpec.upto (s : _root_.Go.ChangeSpec) : _root_.Go.OpenSpec := { _root_.Go.OpenSpec.ofChange s with cond := some uptoSmall }

/-- 'offprintlaw17.GroupDoes', WHERE WHAT IT READS IS OF BULK AT MOST 1048576: true; the input reads as it did. -/
def groupDoesUptoRow : OpenClaim := { program := "ytglhgdkghddcaaa", sum := "0d734775c40304854f33804cfb8e5dd969c14d2a6a5ae3926f5adf5a41508ceb", func := "offprint/offprintlaw17.GroupDoes", spec := "groupDoes", inPlace := ["slices.overlaps[offprint/api.Group]"], unfollowed := true, recurses := true, apart := false, narrowed := true }
def GroupDoesUptoSaid : Prop := groupDoesUptoRow.holds Try.pinned (OpenSpec.upto groupDoesSpec)

/-- 'offprintlaw17.GroupTells', WHERE WHAT IT READS IS OF BULK AT MOST 1048576: true; the input reads as it did. -/
def groupTellsUptoRow : OpenClaim := { program := "ytglhgdkghddcaaa", sum := "0d734775c40304854f33804cfb8e5dd969c14d2a6a5ae3926f5adf5a41508ceb", func := "offprint/offprintlaw17.GroupTells", spec := "groupTells", inPlace := ["slices.overlaps[offprint/api.Group]"], unfollowed := true, recurses := true, apart := false, narrowed := true }
def GroupTellsUptoSaid : Prop := groupTellsUptoRow.holds Try.pinned (OpenSpec.upto groupTellsSpec)

/-- 'offprintlaw17.GroupOthers', WHERE WHAT IT READS IS OF BULK AT MOST 1048576: true; the input reads as it did. -/
def groupOthersUptoRow : OpenClaim := { program := "ytglhgdkghddcaaa", sum := "0d734775c40304854f33804cfb8e5dd969c14d2a6a5ae3926f5adf5a41508ceb", func := "offprint/offprintlaw17.GroupOthers", spec := "groupOthers", inPlace := ["slices.overlaps[offprint/api.Group]"], unfollowed := true, recurses := true, apart := false, narrowed := true }
def GroupOthersUptoSaid : Prop := groupOthersUptoRow.holds Try.pinned (OpenSpec.upto groupOthersSpec)

end Rows
end Go.Proofs.Ytglhgdkghddcaaa
