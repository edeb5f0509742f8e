/-
  No cell of these rows narrows 'for every input' (looked for: loops, veiled, ifaces, maps, wideKeys, modest, calm, conditions, laid).
  DERIVED. THE GIVEN ROWS OF THIS SEAT. 9 by the template 'for every input the law returns true; each argument reads behind the call as it read before'; 0 by the template 'total and deterministic' (their statements: YtgpbglmlakildaaTotals.lean).
  GIVEN WITH THE SEED: the statements are not yours to turn. If you find one false, say at which input.
  Laid BY PROGRAM, IN A SANDBOX (cutbox-rows.mjs): the forced cells as the released guide's own fill.sh prints them over the translation b3ed3b066a93cd88… (all of the seat's roots in one cut). By AI agents, Wed Nov 11 2026. No macro, syntax, notation, axiom, sorry.
-/
import Derived.Test.YtgpbglmlakildaaChecked
import GoSem.Claim
import GoSem.ClaimJoined
import GoSem.ClaimMapViews
import Derived.JoinedTies
import Derived.KernelRfl
namespace Go.Proofs.Ytgpbglmlakildaa
/- THE CELL 'sum', in the pinned program and in every row, IS THE sha256 OF THE DUMP (.gsa) THAT YtgpbglmlakildaaProg.lean LOADS. Nothing in Lean hashes anything: it is a label: what it is worth is what the hold of that sum in a sandbox is worth. -/
noncomputable def Try.pinned : Pinned := { name := "ytgpbglmlakildaa", sum := "b3ed3b066a93cd885bc4b227579f8b7dc776c702ef054844df01e4b16de9cf9d", checked := Try.checked }
namespace Rows
def none {H : Type} : Left H := { results := [], args := [] }

/-- 'offprintlaw10.PredChecks': WHATEVER THE INPUT: true; the input reads as it did. -/
def predChecksSpec : ChangeSpec := { name := "predChecks", fn := fun _ => fun
  | [d1, d2] => { results := [.lit (.bool true)], args := [d1, d2] }
  | _ => none }
def predChecksRow : OpenClaim := { program := "ytgpbglmlakildaa", sum := "b3ed3b066a93cd885bc4b227579f8b7dc776c702ef054844df01e4b16de9cf9d", func := "offprint/offprintlaw10.PredChecks", spec := "predChecks", unfollowed := true, recurses := true, apart := false }
def PredChecksSaid : Prop := predChecksRow.holds Try.pinned (OpenSpec.ofChange predChecksSpec)

/-- ITS FALSE NEIGHBOUR: 'it returns false'. Refute it at one input. -/
def predChecksWrong : ChangeSpec := { name := "predChecks", fn := fun _ => fun
  | [d1, d2] => { results := [.lit (.bool false)], args := [d1, d2] }
  | _ => none }
def PredChecksWrongFalsely : Prop := predChecksRow.holds Try.pinned (OpenSpec.ofChange predChecksWrong)

/-- 'offprintlaw10.PredParts': WHATEVER THE INPUT: true; the input reads as it did. -/
def predPartsSpec : ChangeSpec := { name := "predParts", fn := fun _ => fun
  | [d1, d2, d3] => { results := [.lit (.bool true)], args := [d1, d2, d3] }
  | _ => none }
def predPartsRow : OpenClaim := { program := "ytgpbglmlakildaa", sum := "b3ed3b066a93cd885bc4b227579f8b7dc776c702ef054844df01e4b16de9cf9d", func := "offprint/offprintlaw10.PredParts", spec := "predParts", unfollowed := true, recurses := true, apart := false }
def PredPartsSaid : Prop := predPartsRow.holds Try.pinned (OpenSpec.ofChange predPartsSpec)

/-- ITS FALSE NEIGHBOUR: 'it returns false'. Refute it at one input. -/
def predPartsWrong : ChangeSpec := { name := "predParts", fn := fun _ => fun
  | [d1, d2, d3] => { results := [.lit (.bool false)], args := [d1, d2, d3] }
  | _ => none }
def PredPartsWrongFalsely : Prop := predPartsRow.holds Try.pinned (OpenSpec.ofChange predPartsWrong)

/-- 'offprintlaw10.PredJoins': WHATEVER THE INPUT: true; the input reads as it did. -/
def predJoinsSpec : ChangeSpec := { name := "predJoins", fn := fun _ => fun
  | [d1, d2] => { results := [.lit (.bool true)], args := [d1, d2] }
  | _ => none }
def predJoinsRow : OpenClaim := { program := "ytgpbglmlakildaa", sum := "b3ed3b066a93cd885bc4b227579f8b7dc776c702ef054844df01e4b16de9cf9d", func := "offprint/offprintlaw10.PredJoins", spec := "predJoins", unfollowed := true, recurses := true, apart := false }
def PredJoinsSaid : Prop := predJoinsRow.holds Try.pinned (OpenSpec.ofChange predJoinsSpec)

/-- ITS FALSE NEIGHBOUR: 'it returns false'. Refute it at one input. -/
def predJoinsWrong : ChangeSpec := { name := "predJoins", fn := fun _ => fun
  | [d1, d2] => { results := [.lit (.bool false)], args := [d1, d2] }
  | _ => none }
def PredJoinsWrongFalsely : Prop := predJoinsRow.holds Try.pinned (OpenSpec.ofChange predJoinsWrong)

/-- 'offprintlaw16.PredwirePuts': WHATEVER THE INPUT: true; the input reads as it did. -/
def predwirePutsSpec : ChangeSpec := { name := "predwirePuts", fn := fun _ => fun
  | [d1, d2] => { results := [.lit (.bool true)], args := [d1, d2] }
  | _ => none }
def predwirePutsRow : OpenClaim := { program := "ytgpbglmlakildaa", sum := "b3ed3b066a93cd885bc4b227579f8b7dc776c702ef054844df01e4b16de9cf9d", func := "offprint/offprintlaw16.PredwirePuts", spec := "predwirePuts", unfollowed := true, recurses := true, apart := false }
def PredwirePutsSaid : Prop := predwirePutsRow.holds Try.pinned (OpenSpec.ofChange predwirePutsSpec)

/-- ITS FALSE NEIGHBOUR: 'it returns false'. Refute it at one input. -/
def predwirePutsWrong : ChangeSpec := { name := "predwirePuts", fn := fun _ => fun
  | [d1, d2] => { results := [.lit (.bool false)], args := [d1, d2] }
  | _ => none }
def PredwirePutsWrongFalsely : Prop := predwirePutsRow.holds Try.pinned (OpenSpec.ofChange predwirePutsWrong)

/-- 'offprintlaw16.PredwireReads': WHATEVER THE INPUT: true; the input reads as it did. -/
def predwireReadsSpec : ChangeSpec := { name := "predwireReads", fn := fun _ => fun
  | [d] => { results := [.lit (.bool true)], args := [d] }
  | _ => none }
def predwireReadsRow : OpenClaim := { program := "ytgpbglmlakildaa", sum := "b3ed3b066a93cd885bc4b227579f8b7dc776c702ef054844df01e4b16de9cf9d", func := "offprint/offprintlaw16.PredwireReads", spec := "predwireReads", unfollowed := true, recurses := true, apart := false }
def PredwireReadsSaid : Prop := predwireReadsRow.holds Try.pinned (OpenSpec.ofChange predwireReadsSpec)

/-- ITS FALSE NEIGHBOUR: 'it returns false'. Refute it at one input. -/
def predwireReadsWrong : ChangeSpec := { name := "predwireReads", fn := fun _ => fun
  | [d] => { results := [.lit (.bool false)], args := [d] }
  | _ => none }
def PredwireReadsWrongFalsely : Prop := predwireReadsRow.holds Try.pinned (OpenSpec.ofChange predwireReadsWrong)

/-- 'offprintlaw16.PredwireBack': WHATEVER THE INPUT: true; the input reads as it did. -/
def predwireBackSpec : ChangeSpec := { name := "predwireBack", fn := fun _ => fun
  | [d1, d2] => { results := [.lit (.bool true)], args := [d1, d2] }
  | _ => none }
def predwireBackRow : OpenClaim := { program := "ytgpbglmlakildaa", sum := "b3ed3b066a93cd885bc4b227579f8b7dc776c702ef054844df01e4b16de9cf9d", func := "offprint/offprintlaw16.PredwireBack", spec := "predwireBack", unfollowed := true, recurses := true, apart := false }
def PredwireBackSaid : Prop := predwireBackRow.holds Try.pinned (OpenSpec.ofChange predwireBackSpec)

/-- ITS FALSE NEIGHBOUR: 'it returns false'. Refute it at one input. -/
def predwireBackWrong : ChangeSpec := { name := "predwireBack", fn := fun _ => fun
  | [d1, d2] => { results := [.lit (.bool false)], args := [d1, d2] }
  | _ => none }
def PredwireBackWrongFalsely : Prop := predwireBackRow.holds Try.pinned (OpenSpec.ofChange predwireBackWrong)

/-- 'offprintlaw19.EditTells': WHATEVER THE INPUT: true; the input reads as it did. -/
def editTellsSpec : ChangeSpec := { name := "editTells", fn := fun _ => fun
  | [d1, d2] => { results := [.lit (.bool true)], args := [d1, d2] }
  | _ => none }
def editTellsRow : OpenClaim := { program := "ytgpbglmlakildaa", sum := "b3ed3b066a93cd885bc4b227579f8b7dc776c702ef054844df01e4b16de9cf9d", func := "offprint/offprintlaw19.EditTells", spec := "editTells", unfollowed := true, recurses := true, apart := false }
def EditTellsSaid : Prop := editTellsRow.holds Try.pinned (OpenSpec.ofChange editTellsSpec)

/-- ITS FALSE NEIGHBOUR: 'it returns false'. Refute it at one input. -/
def editTellsWrong : ChangeSpec := { name := "editTells", fn := fun _ => fun
  | [d1, d2] => { results := [.lit (.bool false)], args := [d1, d2] }
  | _ => none }
def EditTellsWrongFalsely : Prop := editTellsRow.holds Try.pinned (OpenSpec.ofChange editTellsWrong)

/-- 'offprintlaw19.EditReads': WHATEVER THE INPUT: true; the input reads as it did. -/
def editReadsSpec : ChangeSpec := { name := "editReads", fn := fun _ => fun
  | [d] => { results := [.lit (.bool true)], args := [d] }
  | _ => none }
def editReadsRow : OpenClaim := { program := "ytgpbglmlakildaa", sum := "b3ed3b066a93cd885bc4b227579f8b7dc776c702ef054844df01e4b16de9cf9d", func := "offprint/offprintlaw19.EditReads", spec := "editReads", unfollowed := true, recurses := true, apart := false }
def EditReadsSaid : Prop := editReadsRow.holds Try.pinned (OpenSpec.ofChange editReadsSpec)

/-- ITS FALSE NEIGHBOUR: 'it returns false'. Refute it at one input. -/
def editReadsWrong : ChangeSpec := { name := "editReads", fn := fun _ => fun
  | [d] => { results := [.lit (.bool false)], args := [d] }
  | _ => none }
def EditReadsWrongFalsely : Prop := editReadsRow.holds Try.pinned (OpenSpec.ofChange editReadsWrong)

/-- 'offprintlaw19.EditBack': WHATEVER THE INPUT: true; the input reads as it did. -/
def editBackSpec : ChangeSpec := { name := "editBack", fn := fun _ => fun
  | [d1, d2] => { results := [.lit (.bool true)], args := [d1, d2] }
  | _ => none }
def editBackRow : OpenClaim := { program := "ytgpbglmlakildaa", sum := "b3ed3b066a93cd885bc4b227579f8b7dc776c702ef054844df01e4b16de9cf9d", func := "offprint/offprintlaw19.EditBack", spec := "editBack", unfollowed := true, recurses := true, apart := false }
def EditBackSaid : Prop := editBackRow.holds Try.pinned (OpenSpec.ofChange editBackSpec)

/-- ITS FALSE NEIGHBOUR: 'it returns false'. Refute it at one input. -/
def editBackWrong : ChangeSpec := { name := "editBack", fn := fun _ => fun
  | [d1, d2] => { results := [.lit (.bool false)], args := [d1, d2] }
  | _ => none }
def EditBackWrongFalsely : Prop := editBackRow.holds Try.pinned (OpenSpec.ofChange editBackWrong)

/- THE SECOND FORM. 'bulk': how many values and letters a reading holds, each counted each time it is reached (what is shared counts as often as it is met; a slice's spare places count too). A statement '..UptoSaid' is the law's where the arguments, and the package variables that the reading takes, are together of bulk at most 1048576: NARROWER than '..Said'. Prove '..Said' where nothing that the law and all that it calls make is longer than what came in: it says more and counts as full. Else prove '..UptoSaid'. A law counts once. -/
mutual
def uptoBulk {H : Type} : DataW H → Nat
  | .lit (.string bytes) => bytes.length + 1
  | .lit _ => 1
  | .nil => 1
  | .ptr d => uptoBulk d + 1
  | .slice elems spare => uptoBulkAll elems + uptoBulkAll spare + 1
  | .agg parts => uptoBulkAll parts + 1
  | .iface _ d => uptoBulk d + 1
  | .map entries => uptoBulkEntries entries + 1
  | .held _ => 1
def uptoBulkAll {H : Type} : List (DataW H) → Nat
  | [] => 0
  | d :: r => uptoBulk d + uptoBulkAll r
def uptoBulkEntries {H : Type} : List (Lit × DataW H) → Nat
  | [] => 0
  | x :: r => uptoBulkEntry x + uptoBulkEntries r
def uptoBulkEntry {H : Type} : Lit × DataW H → Nat
  | (.string bytes, d) => bytes.length + uptoBulk d + 1
  | (_, d) => uptoBulk d + 1
 end
def uptoSmall : (H : Type) → List (DataW H) → Bool := fun _ ds => decide (uptoBulkAll ds ≤ 1048576)
def OpenSpec.upto (s : _root_.Go.ChangeSpec) : _root_.Go.OpenSpec := { _root_.Go.OpenSpec.ofChange s with cond := some uptoSmall }

/-- 'offprintlaw10.PredChecks', WHERE WHAT IT READS IS OF BULK AT MOST 1048576: true; the input reads as it did. -/
def predChecksUptoRow : OpenClaim := { program := "ytgpbglmlakildaa", sum := "b3ed3b066a93cd885bc4b227579f8b7dc776c702ef054844df01e4b16de9cf9d", func := "offprint/offprintlaw10.PredChecks", spec := "predChecks", unfollowed := true, recurses := true, apart := false, narrowed := true }
def PredChecksUptoSaid : Prop := predChecksUptoRow.holds Try.pinned (OpenSpec.upto predChecksSpec)

/-- 'offprintlaw10.PredParts', WHERE WHAT IT READS IS OF BULK AT MOST 1048576: true; the input reads as it did. -/
def predPartsUptoRow : OpenClaim := { program := "ytgpbglmlakildaa", sum := "b3ed3b066a93cd885bc4b227579f8b7dc776c702ef054844df01e4b16de9cf9d", func := "offprint/offprintlaw10.PredParts", spec := "predParts", unfollowed := true, recurses := true, apart := false, narrowed := true }
def PredPartsUptoSaid : Prop := predPartsUptoRow.holds Try.pinned (OpenSpec.upto predPartsSpec)

/-- 'offprintlaw10.PredJoins', WHERE WHAT IT READS IS OF BULK AT MOST 1048576: true; the input reads as it did. -/
def predJoinsUptoRow : OpenClaim := { program := "ytgpbglmlakildaa", sum := "b3ed3b066a93cd885bc4b227579f8b7dc776c702ef054844df01e4b16de9cf9d", func := "offprint/offprintlaw10.PredJoins", spec := "predJoins", unfollowed := true, recurses := true, apart := false, narrowed := true }
def PredJoinsUptoSaid : Prop := predJoinsUptoRow.holds Try.pinned (OpenSpec.upto predJoinsSpec)

/-- 'offprintlaw16.PredwirePuts', WHERE WHAT IT READS IS OF BULK AT MOST 1048576: true; the input reads as it did. -/
def predwirePutsUptoRow : OpenClaim := { program := "ytgpbglmlakildaa", sum := "b3ed3b066a93cd885bc4b227579f8b7dc776c702ef054844df01e4b16de9cf9d", func := "offprint/offprintlaw16.PredwirePuts", spec := "predwirePuts", unfollowed := true, recurses := true, apart := false, narrowed := true }
def PredwirePutsUptoSaid : Prop := predwirePutsUptoRow.holds Try.pinned (OpenSpec.upto predwirePutsSpec)

/-- 'offprintlaw16.PredwireReads', WHERE WHAT IT READS IS OF BULK AT MOST 1048576: true; the input reads as it did. -/
def predwireReadsUptoRow : OpenClaim := { program := "ytgpbglmlakildaa", sum := "b3ed3b066a93cd885bc4b227579f8b7dc776c702ef054844df01e4b16de9cf9d", func := "offprint/offprintlaw16.PredwireReads", spec := "predwireReads", unfollowed := true, recurses := true, apart := false, narrowed := true }
def PredwireReadsUptoSaid : Prop := predwireReadsUptoRow.holds Try.pinned (OpenSpec.upto predwireReadsSpec)

/-- 'offprintlaw16.PredwireBack', WHERE WHAT IT READS IS OF BULK AT MOST 1048576: true; the input reads as it did. -/
def predwireBackUptoRow : OpenClaim := { program := "ytgpbglmlakildaa", sum := "b3ed3b066a93cd885bc4b227579f8b7dc776c702ef054844df01e4b16de9cf9d", func := "offprint/offprintlaw16.PredwireBack", spec := "predwireBack", unfollowed := true, recurses := true, apart := false, narrowed := true }
def PredwireBackUptoSaid : Prop := predwireBackUptoRow.holds Try.pinned (OpenSpec.upto predwireBackSpec)

/-- 'offprintlaw19.EditTells', WHERE WHAT IT READS IS OF BULK AT MOST 1048576: true; the input reads as it did. -/
def editTellsUptoRow : OpenClaim := { program := "ytgpbglmlakildaa", sum := "b3ed3b066a93cd885bc4b227579f8b7dc776c702ef054844df01e4b16de9cf9d", func := "offprint/offprintlaw19.EditTells", spec := "editTells", unfollowed := true, recurses := true, apart := false, narrowed := true }
def EditTellsUptoSaid : Prop := editTellsUptoRow.holds Try.pinned (OpenSpec.upto editTellsSpec)

/-- 'offprintlaw19.EditReads', WHERE WHAT IT READS IS OF BULK AT MOST 1048576: true; the input reads as it did. -/
def editReadsUptoRow : OpenClaim := { program := "ytgpbglmlakildaa", sum := "b3ed3b066a93cd885bc4b227579f8b7dc776c702ef054844df01e4b16de9cf9d", func := "offprint/offprintlaw19.EditReads", spec := "editReads", unfollowed := true, recurses := true, apart := false, narrowed := true }
def EditReadsUptoSaid : Prop := editReadsUptoRow.holds Try.pinned (OpenSpec.upto editReadsSpec)

/-- 'offprintlaw19.EditBack', WHERE WHAT IT READS IS OF BULK AT MOST 1048576: true; the input reads as it did. -/
def editBackUptoRow : OpenClaim := { program := "ytgpbglmlakildaa", sum := "b3ed3b066a93cd885bc4b227579f8b7dc776c702ef054844df01e4b16de9cf9d", func := "offprint/offprintlaw19.EditBack", spec := "editBack", unfollowed := true, recurses := true, apart := false, narrowed := true }
def EditBackUptoSaid : Prop := editBackUptoRow.holds Try.pinned (OpenSpec.upto editBackSpec)

end Rows
end Go.Proofs.Ytgpbglmlakildaa
