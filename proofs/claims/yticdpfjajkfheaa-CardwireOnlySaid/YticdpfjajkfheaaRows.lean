/-
  No cell of these rows narrows 'for every input' (looked for: loops, veiled, ifaces, maps, wideKeys, modest, calm, conditions, laid).
  DERIVED. THE GIVEN ROWS OF THIS SEAT. 4 by the template 'for every input the law returns true; each argument reads behind the call as it read before'; 0 by the template 'total and deterministic' (their statements: YticdpfjajkfheaaTotals.lean).
  GIVEN WITH THE SEED: the statements are not yours to turn. If you find one false, say at which input.
  Laid BY PROGRAM, IN A SANDBOX (cutbox-rows.mjs): the forced cells as the released guide's own fill.sh prints them over the translation c0c1c51125a6afae… (all of the seat's roots in one cut). By AI agents, Wed Nov 11 2026. No macro, syntax, notation, axiom, sorry.
-/
import Derived.Test.YticdpfjajkfheaaChecked
import GoSem.Claim
import GoSem.ClaimJoined
import GoSem.ClaimMapViews
import Derived.JoinedTies
import Derived.KernelRfl
namespace Go.Proofs.Yticdpfjajkfheaa
/- THE CELL 'sum', in the pinned program and in every row, IS THE sha256 OF THE DUMP (.gsa) THAT YticdpfjajkfheaaProg.lean LOADS. Nothing in Lean hashes anything: it is a label: what it is worth is what the hold of that sum in a sandbox is worth. -/
noncomputable def Try.pinned : Pinned := { name := "yticdpfjajkfheaa", sum := "c0c1c51125a6afae4b28ff1be69de5aad3b126c35285d1b64a583d61f94199f5", checked := Try.checked }
namespace Rows
def none {H : Type} : Left H := { results := [], args := [] }

/-- 'offprintlaw08.CardwirePuts': WHATEVER THE INPUT: true; the input reads as it did. -/
def cardwirePutsSpec : ChangeSpec := { name := "cardwirePuts", fn := fun _ => fun
  | [d1, d2, d3] => { results := [.lit (.bool true)], args := [d1, d2, d3] }
  | _ => none }
def cardwirePutsRow : OpenClaim := { program := "yticdpfjajkfheaa", sum := "c0c1c51125a6afae4b28ff1be69de5aad3b126c35285d1b64a583d61f94199f5", func := "offprint/offprintlaw08.CardwirePuts", spec := "cardwirePuts", unfollowed := true, recurses := true, apart := false }
def CardwirePutsSaid : Prop := cardwirePutsRow.holds Try.pinned (OpenSpec.ofChange cardwirePutsSpec)

/-- ITS FALSE NEIGHBOUR: 'it returns false'. Refute it at one input. -/
def cardwirePutsWrong : ChangeSpec := { name := "cardwirePuts", fn := fun _ => fun
  | [d1, d2, d3] => { results := [.lit (.bool false)], args := [d1, d2, d3] }
  | _ => none }
def CardwirePutsWrongFalsely : Prop := cardwirePutsRow.holds Try.pinned (OpenSpec.ofChange cardwirePutsWrong)

/-- 'offprintlaw08.CardwireReads': WHATEVER THE INPUT: true; the input reads as it did. -/
def cardwireReadsSpec : ChangeSpec := { name := "cardwireReads", fn := fun _ => fun
  | [d1, d2] => { results := [.lit (.bool true)], args := [d1, d2] }
  | _ => none }
def cardwireReadsRow : OpenClaim := { program := "yticdpfjajkfheaa", sum := "c0c1c51125a6afae4b28ff1be69de5aad3b126c35285d1b64a583d61f94199f5", func := "offprint/offprintlaw08.CardwireReads", spec := "cardwireReads", unfollowed := true, recurses := true, apart := false }
def CardwireReadsSaid : Prop := cardwireReadsRow.holds Try.pinned (OpenSpec.ofChange cardwireReadsSpec)

/-- ITS FALSE NEIGHBOUR: 'it returns false'. Refute it at one input. -/
def cardwireReadsWrong : ChangeSpec := { name := "cardwireReads", fn := fun _ => fun
  | [d1, d2] => { results := [.lit (.bool false)], args := [d1, d2] }
  | _ => none }
def CardwireReadsWrongFalsely : Prop := cardwireReadsRow.holds Try.pinned (OpenSpec.ofChange cardwireReadsWrong)

/-- 'offprintlaw08.CardwireBack': WHATEVER THE INPUT: true; the input reads as it did. -/
def cardwireBackSpec : ChangeSpec := { name := "cardwireBack", fn := fun _ => fun
  | [d1, d2, d3] => { results := [.lit (.bool true)], args := [d1, d2, d3] }
  | _ => none }
def cardwireBackRow : OpenClaim := { program := "yticdpfjajkfheaa", sum := "c0c1c51125a6afae4b28ff1be69de5aad3b126c35285d1b64a583d61f94199f5", func := "offprint/offprintlaw08.CardwireBack", spec := "cardwireBack", unfollowed := true, recurses := true, apart := false }
def CardwireBackSaid : Prop := cardwireBackRow.holds Try.pinned (OpenSpec.ofChange cardwireBackSpec)

/-- ITS FALSE NEIGHBOUR: 'it returns false'. Refute it at one input. -/
def cardwireBackWrong : ChangeSpec := { name := "cardwireBack", fn := fun _ => fun
  | [d1, d2, d3] => { results := [.lit (.bool false)], args := [d1, d2, d3] }
  | _ => none }
def CardwireBackWrongFalsely : Prop := cardwireBackRow.holds Try.pinned (OpenSpec.ofChange cardwireBackWrong)

/-- 'offprintlaw08.CardwireOnly': WHATEVER THE INPUT: true; the input reads as it did. -/
def cardwireOnlySpec : ChangeSpec := { name := "cardwireOnly", fn := fun _ => fun
  | [d] => { results := [.lit (.bool true)], args := [d] }
  | _ => none }
def cardwireOnlyRow : OpenClaim := { program := "yticdpfjajkfheaa", sum := "c0c1c51125a6afae4b28ff1be69de5aad3b126c35285d1b64a583d61f94199f5", func := "offprint/offprintlaw08.CardwireOnly", spec := "cardwireOnly", unfollowed := true, recurses := true, apart := false }
def CardwireOnlySaid : Prop := cardwireOnlyRow.holds Try.pinned (OpenSpec.ofChange cardwireOnlySpec)

/-- ITS FALSE NEIGHBOUR: 'it returns false'. Refute it at one input. -/
def cardwireOnlyWrong : ChangeSpec := { name := "cardwireOnly", fn := fun _ => fun
  | [d] => { results := [.lit (.bool false)], args := [d] }
  | _ => none }
def CardwireOnlyWrongFalsely : Prop := cardwireOnlyRow.holds Try.pinned (OpenSpec.ofChange cardwireOnlyWrong)

/- THE SECOND FORM. 'bulk': how many values and letters a reading holds, each counted each time it is reached (what is shared counts as often as it is met; a slice's spare places count too). A statement '..UptoSaid' is the law's where the arguments, and the package variables that the reading takes, are together of bulk at most 1048576: NARROWER than '..Said'. Prove '..Said' where nothing that the law and all that it calls make is longer than what came in: it says more and counts as full. Else prove '..UptoSaid'. A law counts once. -/
mutual
def uptoBulk {H : Type} : DataW H → Nat
  | .lit (.string bytes) => bytes.length + 1
  | .lit _ => 1
  | .nil => 1
  | .ptr d => uptoBulk d + 1
  | .slice elems spare => uptoBulkAll elems + uptoBulkAll spare + 1
  | .agg parts => uptoBulkAll parts + 1
  | .iface _ d => uptoBulk d + 1
  | .map entries => uptoBulkEntries entries + 1
  | .held _ => 1
def uptoBulkAll {H : Type} : List (DataW H) → Nat
  | [] => 0
  | d :: r => uptoBulk d + uptoBulkAll r
def uptoBulkEntries {H : Type} : List (Lit × DataW H) → Nat
  | [] => 0
  | x :: r => uptoBulkEntry x + uptoBulkEntries r
def uptoBulkEntry {H : Type} : Lit × DataW H → Nat
  | (.string bytes, d) => bytes.length + uptoBulk d + 1
  | (_, d) => uptoBulk d + 1
 end
def uptoSmall : (H : Type) → List (DataW H) → Bool := fun _ ds => decide (uptoBulkAll ds ≤ 1048576)
def OpenSpec.upto (s : _root_.Go.ChangeSpec) : _root_.Go.OpenSpec := { _root_.Go.OpenSpec.ofChange s with cond := some uptoSmall }

/-- 'offprintlaw08.CardwirePuts', WHERE WHAT IT READS IS OF BULK AT MOST 1048576: true; the input reads as it did. -/
def cardwirePutsUptoRow : OpenClaim := { program := "yticdpfjajkfheaa", sum := "c0c1c51125a6afae4b28ff1be69de5aad3b126c35285d1b64a583d61f94199f5", func := "offprint/offprintlaw08.CardwirePuts", spec := "cardwirePuts", unfollowed := true, recurses := true, apart := false, narrowed := true }
def CardwirePutsUptoSaid : Prop := cardwirePutsUptoRow.holds Try.pinned (OpenSpec.upto cardwirePutsSpec)

/-- 'offprintlaw08.CardwireReads', WHERE WHAT IT READS IS OF BULK AT MOST 1048576: true; the input reads as it did. -/
def cardwireReadsUptoRow : OpenClaim := { program := "yticdpfjajkfheaa", sum := "c0c1c51125a6afae4b28ff1be69de5aad3b126c35285d1b64a583d61f94199f5", func := "offprint/offprintlaw08.CardwireReads", spec := "cardwireReads", unfollowed := true, recurses := true, apart := false, narrowed := true }
def CardwireReadsUptoSaid : Prop := cardwireReadsUptoRow.holds Try.pinned (OpenSpec.upto cardwireReadsSpec)

/-- 'offprintlaw08.CardwireBack', WHERE WHAT IT READS IS OF BULK AT MOST 1048576: true; the input reads as it did. -/
def cardwireBackUptoRow : OpenClaim := { program := "yticdpfjajkfheaa", sum := "c0c1c51125a6afae4b28ff1be69de5aad3b126c35285d1b64a583d61f94199f5", func := "offprint/offprintlaw08.CardwireBack", spec := "cardwireBack", unfollowed := true, recurses := true, apart := false, narrowed := true }
def CardwireBackUptoSaid : Prop := cardwireBackUptoRow.holds Try.pinned (OpenSpec.upto cardwireBackSpec)

/-- 'offprintlaw08.CardwireOnly', WHERE WHAT IT READS IS OF BULK AT MOST 1048576: true; the input reads as it did. -/
def cardwireOnlyUptoRow : OpenClaim := { program := "yticdpfjajkfheaa", sum := "c0c1c51125a6afae4b28ff1be69de5aad3b126c35285d1b64a583d61f94199f5", func := "offprint/offprintlaw08.CardwireOnly", spec := "cardwireOnly", unfollowed := true, recurses := true, apart := false, narrowed := true }
def CardwireOnlyUptoSaid : Prop := cardwireOnlyUptoRow.holds Try.pinned (OpenSpec.upto cardwireOnlySpec)

end Rows
end Go.Proofs.Yticdpfjajkfheaa
