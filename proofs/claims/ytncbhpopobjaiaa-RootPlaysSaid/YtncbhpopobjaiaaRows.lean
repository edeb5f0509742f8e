/-
  No cell of these rows narrows 'for every input' (looked for: loops, veiled, ifaces, maps, wideKeys, modest, calm, conditions, laid).
  DERIVED. THE GIVEN ROWS OF THIS SEAT. 3 by the template 'for every input the law returns true; each argument reads behind the call as it read before'; 0 by the template 'total and deterministic' (their statements: YtncbhpopobjaiaaTotals.lean).
  GIVEN WITH THE SEED: the statements are not yours to turn. If you find one false, say at which input.
  Laid BY PROGRAM, IN A SANDBOX (cutbox-rows.mjs): the forced cells as the released guide's own fill.sh prints them over the translation b9da4eec45491935… (all of the seat's roots in one cut). By AI agents, Wed Nov 11 2026. No macro, syntax, notation, axiom, sorry.
-/
import Derived.Test.YtncbhpopobjaiaaChecked
import GoSem.Claim
import GoSem.ClaimJoined
import GoSem.ClaimMapViews
import Derived.JoinedTies
import Derived.KernelRfl
namespace Go.Proofs.Ytncbhpopobjaiaa
/- THE CELL 'sum', in the pinned program and in every row, IS THE sha256 OF THE DUMP (.gsa) THAT YtncbhpopobjaiaaProg.lean LOADS. Nothing in Lean hashes anything: it is a label: what it is worth is what the hold of that sum in a sandbox is worth. -/
noncomputable def Try.pinned : Pinned := { name := "ytncbhpopobjaiaa", sum := "b9da4eec4549193570ae18da800accaf58c58ce7a57e7e15347c1b8865b17767", checked := Try.checked }
namespace Rows
def none {H : Type} : Left H := { results := [], args := [] }

/-- 'offprintlaw38.RootSectors': WHATEVER THE INPUT: true; the input reads as it did. -/
def rootSectorsSpec : ChangeSpec := { name := "rootSectors", fn := fun _ => fun
  | [d1, d2] => { results := [.lit (.bool true)], args := [d1, d2] }
  | _ => none }
def rootSectorsRow : OpenClaim := { program := "ytncbhpopobjaiaa", sum := "b9da4eec4549193570ae18da800accaf58c58ce7a57e7e15347c1b8865b17767", func := "offprint/offprintlaw38.RootSectors", spec := "rootSectors", apart := false }
def RootSectorsSaid : Prop := rootSectorsRow.holds Try.pinned (OpenSpec.ofChange rootSectorsSpec)

/-- ITS FALSE NEIGHBOUR: 'it returns false'. Refute it at one input. -/
def rootSectorsWrong : ChangeSpec := { name := "rootSectors", fn := fun _ => fun
  | [d1, d2] => { results := [.lit (.bool false)], args := [d1, d2] }
  | _ => none }
def RootSectorsWrongFalsely : Prop := rootSectorsRow.holds Try.pinned (OpenSpec.ofChange rootSectorsWrong)

/-- 'offprintlaw38.RootPlays': WHATEVER THE INPUT: true; the input reads as it did. -/
def rootPlaysSpec : ChangeSpec := { name := "rootPlays", fn := fun _ => fun
  | [d1, d2] => { results := [.lit (.bool true)], args := [d1, d2] }
  | _ => none }
def rootPlaysRow : OpenClaim := { program := "ytncbhpopobjaiaa", sum := "b9da4eec4549193570ae18da800accaf58c58ce7a57e7e15347c1b8865b17767", func := "offprint/offprintlaw38.RootPlays", spec := "rootPlays", apart := false }
def RootPlaysSaid : Prop := rootPlaysRow.holds Try.pinned (OpenSpec.ofChange rootPlaysSpec)

/-- ITS FALSE NEIGHBOUR: 'it returns false'. Refute it at one input. -/
def rootPlaysWrong : ChangeSpec := { name := "rootPlays", fn := fun _ => fun
  | [d1, d2] => { results := [.lit (.bool false)], args := [d1, d2] }
  | _ => none }
def RootPlaysWrongFalsely : Prop := rootPlaysRow.holds Try.pinned (OpenSpec.ofChange rootPlaysWrong)

/-- 'offprintlaw38.RootFalls': WHATEVER THE INPUT: true; the input reads as it did. -/
def rootFallsSpec : ChangeSpec := { name := "rootFalls", fn := fun _ => fun
  | [d1, d2] => { results := [.lit (.bool true)], args := [d1, d2] }
  | _ => none }
def rootFallsRow : OpenClaim := { program := "ytncbhpopobjaiaa", sum := "b9da4eec4549193570ae18da800accaf58c58ce7a57e7e15347c1b8865b17767", func := "offprint/offprintlaw38.RootFalls", spec := "rootFalls", apart := false }
def RootFallsSaid : Prop := rootFallsRow.holds Try.pinned (OpenSpec.ofChange rootFallsSpec)

/-- ITS FALSE NEIGHBOUR: 'it returns false'. Refute it at one input. -/
def rootFallsWrong : ChangeSpec := { name := "rootFalls", fn := fun _ => fun
  | [d1, d2] => { results := [.lit (.bool false)], args := [d1, d2] }
  | _ => none }
def RootFallsWrongFalsely : Prop := rootFallsRow.holds Try.pinned (OpenSpec.ofChange rootFallsWrong)

/- THE SECOND FORM. 'bulk': how many values and letters a reading holds, each counted each time it is reached (what is shared counts as often as it is met; a slice's spare places count too). A statement '..UptoSaid' is the law's where the arguments, and the package variables that the reading takes, are together of bulk at most 1048576: NARROWER than '..Said'. Prove '..Said' where nothing that the law and all that it calls make is longer than what came in: it says more and counts as full. Else prove '..UptoSaid'. A law counts once. -/
mutual
def uptoBulk {H : Type} : DataW H → Nat
  | .lit (.string bytes) => bytes.length + 1
  | .lit _ => 1
  | .nil => 1
  | .ptr d => uptoBulk d + 1
  | .slice elems spare => uptoBulkAll elems + uptoBulkAll spare + 1
  | .agg parts => uptoBulkAll parts + 1
  | .iface _ d => uptoBulk d + 1
  | .map entries => uptoBulkEntries entries + 1
  | .held _ => 1
def uptoBulkAll {H : Type} : List (DataW H) → Nat
  | [] => 0
  | d :: r => uptoBulk d + uptoBulkAll r
def uptoBulkEntries {H : Type} : List (Lit × DataW H) → Nat
  | [] => 0
  | x :: r => uptoBulkEntry x + uptoBulkEntries r
def uptoBulkEntry {H : Type} : Lit × DataW H → Nat
  | (.string bytes, d) => bytes.length + uptoBulk d + 1
  | (_, d) => uptoBulk d + 1
 end
def uptoSmall : (H : Type) → List (DataW H) → Bool := fun _ ds => decide (uptoBulkAll ds ≤ 1048576)
def OpenSpec.upto (s : _root_.Go.ChangeSpec) : _root_.Go.OpenSpec := { _root_.Go.OpenSpec.ofChange s with cond := some uptoSmall }

/-- 'offprintlaw38.RootSectors', WHERE WHAT IT READS IS OF BULK AT MOST 1048576: true; the input reads as it did. -/
def rootSectorsUptoRow : OpenClaim := { program := "ytncbhpopobjaiaa", sum := "b9da4eec4549193570ae18da800accaf58c58ce7a57e7e15347c1b8865b17767", func := "offprint/offprintlaw38.RootSectors", spec := "rootSectors", apart := false, narrowed := true }
def RootSectorsUptoSaid : Prop := rootSectorsUptoRow.holds Try.pinned (OpenSpec.upto rootSectorsSpec)

/-- 'offprintlaw38.RootPlays', WHERE WHAT IT READS IS OF BULK AT MOST 1048576: true; the input reads as it did. -/
def rootPlaysUptoRow : OpenClaim := { program := "ytncbhpopobjaiaa", sum := "b9da4eec4549193570ae18da800accaf58c58ce7a57e7e15347c1b8865b17767", func := "offprint/offprintlaw38.RootPlays", spec := "rootPlays", apart := false, narrowed := true }
def RootPlaysUptoSaid : Prop := rootPlaysUptoRow.holds Try.pinned (OpenSpec.upto rootPlaysSpec)

/-- 'offprintlaw38.RootFalls', WHERE WHAT IT READS IS OF BULK AT MOST 1048576: true; the input reads as it did. -/
def rootFallsUptoRow : OpenClaim := { program := "ytncbhpopobjaiaa", sum := "b9da4eec4549193570ae18da800accaf58c58ce7a57e7e15347c1b8865b17767", func := "offprint/offprintlaw38.RootFalls", spec := "rootFalls", apart := false, narrowed := true }
def RootFallsUptoSaid : Prop := rootFallsUptoRow.holds Try.pinned (OpenSpec.upto rootFallsSpec)

end Rows
end Go.Proofs.Ytncbhpopobjaiaa
