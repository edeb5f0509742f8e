/-
  No cell of these rows narrows 'for every input' (looked for: loops, veiled, ifaces, maps, wideKeys, modest, calm, conditions, laid).
  DERIVED. THE GIVEN ROWS OF THIS SEAT. 7 by the template 'for every input the law returns true; each argument reads behind the call as it read before'; 0 by the template 'total and deterministic' (their statements: YtgdidamjgaegkaaTotals.lean).
  GIVEN WITH THE SEED: the statements are not yours to turn. If you find one false, say at which input.
  Laid BY PROGRAM, IN A SANDBOX (cutbox-rows.mjs): the forced cells as the released guide's own fill.sh prints them over the translation a084f5575049ab3b… (all of the seat's roots in one cut). By AI agents, Wed Nov 11 2026. No macro, syntax, notation, axiom, sorry.
-/
import Derived.Test.YtgdidamjgaegkaaChecked
import GoSem.Claim
import GoSem.ClaimJoined
import GoSem.ClaimMapViews
import Derived.JoinedTies
import Derived.KernelRfl
namespace Go.Proofs.Ytgdidamjgaegkaa
/- THE CELL 'sum', in the pinned program and in every row, IS THE sha256 OF THE DUMP (.gsa) THAT YtgdidamjgaegkaaProg.lean LOADS. Nothing in Lean hashes anything: it is a label: what it is worth is what the hold of that sum in a sandbox is worth. -/
noncomputable def Try.pinned : Pinned := { name := "ytgdidamjgaegkaa", sum := "a084f5575049ab3b0829a570f37e7aa5aa0cb584b533c7b3febd066aae361c38", checked := Try.checked }
namespace Rows
def none {H : Type} : Left H := { results := [], args := [] }

/-- 'offprintlaw06.CardTells': WHATEVER THE INPUT: true; the input reads as it did. -/
def cardTellsSpec : ChangeSpec := { name := "cardTells", fn := fun _ => fun
  | [d1, d2, d3] => { results := [.lit (.bool true)], args := [d1, d2, d3] }
  | _ => none }
def cardTellsRow : OpenClaim := { program := "ytgdidamjgaegkaa", sum := "a084f5575049ab3b0829a570f37e7aa5aa0cb584b533c7b3febd066aae361c38", func := "offprint/offprintlaw06.CardTells", spec := "cardTells", unfollowed := true, recurses := true, apart := false }
def CardTellsSaid : Prop := cardTellsRow.holds Try.pinned (OpenSpec.ofChange cardTellsSpec)

/-- ITS FALSE NEIGHBOUR: 'it returns false'. Refute it at one input. -/
def cardTellsWrong : ChangeSpec := { name := "cardTells", fn := fun _ => fun
  | [d1, d2, d3] => { results := [.lit (.bool false)], args := [d1, d2, d3] }
  | _ => none }
def CardTellsWrongFalsely : Prop := cardTellsRow.holds Try.pinned (OpenSpec.ofChange cardTellsWrong)

/-- 'offprintlaw06.CardShows': WHATEVER THE INPUT: true; the input reads as it did. -/
def cardShowsSpec : ChangeSpec := { name := "cardShows", fn := fun _ => fun
  | [d1, d2, d3] => { results := [.lit (.bool true)], args := [d1, d2, d3] }
  | _ => none }
def cardShowsRow : OpenClaim := { program := "ytgdidamjgaegkaa", sum := "a084f5575049ab3b0829a570f37e7aa5aa0cb584b533c7b3febd066aae361c38", func := "offprint/offprintlaw06.CardShows", spec := "cardShows", unfollowed := true, recurses := true, apart := false }
def CardShowsSaid : Prop := cardShowsRow.holds Try.pinned (OpenSpec.ofChange cardShowsSpec)

/-- ITS FALSE NEIGHBOUR: 'it returns false'. Refute it at one input. -/
def cardShowsWrong : ChangeSpec := { name := "cardShows", fn := fun _ => fun
  | [d1, d2, d3] => { results := [.lit (.bool false)], args := [d1, d2, d3] }
  | _ => none }
def CardShowsWrongFalsely : Prop := cardShowsRow.holds Try.pinned (OpenSpec.ofChange cardShowsWrong)

/-- 'offprintlaw06.CardMerges': WHATEVER THE INPUT: true; the input reads as it did. -/
def cardMergesSpec : ChangeSpec := { name := "cardMerges", fn := fun _ => fun
  | [d1, d2] => { results := [.lit (.bool true)], args := [d1, d2] }
  | _ => none }
def cardMergesRow : OpenClaim := { program := "ytgdidamjgaegkaa", sum := "a084f5575049ab3b0829a570f37e7aa5aa0cb584b533c7b3febd066aae361c38", func := "offprint/offprintlaw06.CardMerges", spec := "cardMerges", unfollowed := true, recurses := true, apart := false }
def CardMergesSaid : Prop := cardMergesRow.holds Try.pinned (OpenSpec.ofChange cardMergesSpec)

/-- ITS FALSE NEIGHBOUR: 'it returns false'. Refute it at one input. -/
def cardMergesWrong : ChangeSpec := { name := "cardMerges", fn := fun _ => fun
  | [d1, d2] => { results := [.lit (.bool false)], args := [d1, d2] }
  | _ => none }
def CardMergesWrongFalsely : Prop := cardMergesRow.holds Try.pinned (OpenSpec.ofChange cardMergesWrong)

/-- 'offprintlaw06.CardTwice': WHATEVER THE INPUT: true; the input reads as it did. -/
def cardTwiceSpec : ChangeSpec := { name := "cardTwice", fn := fun _ => fun
  | [d1, d2, d3] => { results := [.lit (.bool true)], args := [d1, d2, d3] }
  | _ => none }
def cardTwiceRow : OpenClaim := { program := "ytgdidamjgaegkaa", sum := "a084f5575049ab3b0829a570f37e7aa5aa0cb584b533c7b3febd066aae361c38", func := "offprint/offprintlaw06.CardTwice", spec := "cardTwice", unfollowed := true, recurses := true, apart := false }
def CardTwiceSaid : Prop := cardTwiceRow.holds Try.pinned (OpenSpec.ofChange cardTwiceSpec)

/-- ITS FALSE NEIGHBOUR: 'it returns false'. Refute it at one input. -/
def cardTwiceWrong : ChangeSpec := { name := "cardTwice", fn := fun _ => fun
  | [d1, d2, d3] => { results := [.lit (.bool false)], args := [d1, d2, d3] }
  | _ => none }
def CardTwiceWrongFalsely : Prop := cardTwiceRow.holds Try.pinned (OpenSpec.ofChange cardTwiceWrong)

/-- 'offprintlaw10.PredChecks': WHATEVER THE INPUT: true; the input reads as it did. -/
def predChecksSpec : ChangeSpec := { name := "predChecks", fn := fun _ => fun
  | [d1, d2] => { results := [.lit (.bool true)], args := [d1, d2] }
  | _ => none }
def predChecksRow : OpenClaim := { program := "ytgdidamjgaegkaa", sum := "a084f5575049ab3b0829a570f37e7aa5aa0cb584b533c7b3febd066aae361c38", func := "offprint/offprintlaw10.PredChecks", spec := "predChecks", unfollowed := true, recurses := true, apart := false }
def PredChecksSaid : Prop := predChecksRow.holds Try.pinned (OpenSpec.ofChange predChecksSpec)

/-- ITS FALSE NEIGHBOUR: 'it returns false'. Refute it at one input. -/
def predChecksWrong : ChangeSpec := { name := "predChecks", fn := fun _ => fun
  | [d1, d2] => { results := [.lit (.bool false)], args := [d1, d2] }
  | _ => none }
def PredChecksWrongFalsely : Prop := predChecksRow.holds Try.pinned (OpenSpec.ofChange predChecksWrong)

/-- 'offprintlaw10.PredParts': WHATEVER THE INPUT: true; the input reads as it did. -/
def predPartsSpec : ChangeSpec := { name := "predParts", fn := fun _ => fun
  | [d1, d2, d3] => { results := [.lit (.bool true)], args := [d1, d2, d3] }
  | _ => none }
def predPartsRow : OpenClaim := { program := "ytgdidamjgaegkaa", sum := "a084f5575049ab3b0829a570f37e7aa5aa0cb584b533c7b3febd066aae361c38", func := "offprint/offprintlaw10.PredParts", spec := "predParts", unfollowed := true, recurses := true, apart := false }
def PredPartsSaid : Prop := predPartsRow.holds Try.pinned (OpenSpec.ofChange predPartsSpec)

/-- ITS FALSE NEIGHBOUR: 'it returns false'. Refute it at one input. -/
def predPartsWrong : ChangeSpec := { name := "predParts", fn := fun _ => fun
  | [d1, d2, d3] => { results := [.lit (.bool false)], args := [d1, d2, d3] }
  | _ => none }
def PredPartsWrongFalsely : Prop := predPartsRow.holds Try.pinned (OpenSpec.ofChange predPartsWrong)

/-- 'offprintlaw10.PredJoins': WHATEVER THE INPUT: true; the input reads as it did. -/
def predJoinsSpec : ChangeSpec := { name := "predJoins", fn := fun _ => fun
  | [d1, d2] => { results := [.lit (.bool true)], args := [d1, d2] }
  | _ => none }
def predJoinsRow : OpenClaim := { program := "ytgdidamjgaegkaa", sum := "a084f5575049ab3b0829a570f37e7aa5aa0cb584b533c7b3febd066aae361c38", func := "offprint/offprintlaw10.PredJoins", spec := "predJoins", unfollowed := true, recurses := true, apart := false }
def PredJoinsSaid : Prop := predJoinsRow.holds Try.pinned (OpenSpec.ofChange predJoinsSpec)

/-- ITS FALSE NEIGHBOUR: 'it returns false'. Refute it at one input. -/
def predJoinsWrong : ChangeSpec := { name := "predJoins", fn := fun _ => fun
  | [d1, d2] => { results := [.lit (.bool false)], args := [d1, d2] }
  | _ => none }
def PredJoinsWrongFalsely : Prop := predJoinsRow.holds Try.pinned (OpenSpec.ofChange predJoinsWrong)

/- THE SECOND FORM. 'bulk': how many values and letters a reading holds, each counted each time it is reached (what is shared counts as often as it is met; a slice's spare places count too). A statement '..UptoSaid' is the law's where the arguments, and the package variables that the reading takes, are together of bulk at most 1048576: NARROWER than '..Said'. Prove '..Said' where nothing that the law and all that it calls make is longer than what came in: it says more and counts as full. Else prove '..UptoSaid'. A law counts once. -/
mutual
def uptoBulk {H : Type} : DataW H → Nat
  | .lit (.string bytes) => bytes.length + 1
  | .lit _ => 1
  | .nil => 1
  | .ptr d => uptoBulk d + 1
  | .slice elems spare => uptoBulkAll elems + uptoBulkAll spare + 1
  | .agg parts => uptoBulkAll parts + 1
  | .iface _ d => uptoBulk d + 1
  | .map entries => uptoBulkEntries entries + 1
  | .held _ => 1
def uptoBulkAll {H : Type} : List (DataW H) → Nat
  | [] => 0
  | d :: r => uptoBulk d + uptoBulkAll r
def uptoBulkEntries {H : Type} : List (Lit × DataW H) → Nat
  | [] => 0
  | x :: r => uptoBulkEntry x + uptoBulkEntries r
def uptoBulkEntry {H : Type} : Lit × DataW H → Nat
  | (.string bytes, d) => bytes.length + uptoBulk d + 1
  | (_, d) => uptoBulk d + 1
 end
def uptoSmall : (H : Type) → List (DataW H) → Bool := fun _ ds => decide (uptoBulkAll ds ≤ 1048576)
def OpenSpec.upto (s : _root_.Go.ChangeSpec) : _root_.Go.OpenSpec := { _root_.Go.OpenSpec.ofChange s with cond := some uptoSmall }

/-- 'offprintlaw06.CardTells', WHERE WHAT IT READS IS OF BULK AT MOST 1048576: true; the input reads as it did. -/
def cardTellsUptoRow : OpenClaim := { program := "ytgdidamjgaegkaa", sum := "a084f5575049ab3b0829a570f37e7aa5aa0cb584b533c7b3febd066aae361c38", func := "offprint/offprintlaw06.CardTells", spec := "cardTells", unfollowed := true, recurses := true, apart := false, narrowed := true }
def CardTellsUptoSaid : Prop := cardTellsUptoRow.holds Try.pinned (OpenSpec.upto cardTellsSpec)

/-- 'offprintlaw06.CardShows', WHERE WHAT IT READS IS OF BULK AT MOST 1048576: true; the input reads as it did. -/
def cardShowsUptoRow : OpenClaim := { program := "ytgdidamjgaegkaa", sum := "a084f5575049ab3b0829a570f37e7aa5aa0cb584b533c7b3febd066aae361c38", func := "offprint/offprintlaw06.CardShows", spec := "cardShows", unfollowed := true, recurses := true, apart := false, narrowed := true }
def CardShowsUptoSaid : Prop := cardShowsUptoRow.holds Try.pinned (OpenSpec.upto cardShowsSpec)

/-- 'offprintlaw06.CardMerges', WHERE WHAT IT READS IS OF BULK AT MOST 1048576: true; the input reads as it did. -/
def cardMergesUptoRow : OpenClaim := { program := "ytgdidamjgaegkaa", sum := "a084f5575049ab3b0829a570f37e7aa5aa0cb584b533c7b3febd066aae361c38", func := "offprint/offprintlaw06.CardMerges", spec := "cardMerges", unfollowed := true, recurses := true, apart := false, narrowed := true }
def CardMergesUptoSaid : Prop := cardMergesUptoRow.holds Try.pinned (OpenSpec.upto cardMergesSpec)

/-- 'offprintlaw06.CardTwice', WHERE WHAT IT READS IS OF BULK AT MOST 1048576: true; the input reads as it did. -/
def cardTwiceUptoRow : OpenClaim := { program := "ytgdidamjgaegkaa", sum := "a084f5575049ab3b0829a570f37e7aa5aa0cb584b533c7b3febd066aae361c38", func := "offprint/offprintlaw06.CardTwice", spec := "cardTwice", unfollowed := true, recurses := true, apart := false, narrowed := true }
def CardTwiceUptoSaid : Prop := cardTwiceUptoRow.holds Try.pinned (OpenSpec.upto cardTwiceSpec)

/-- 'offprintlaw10.PredChecks', WHERE WHAT IT READS IS OF BULK AT MOST 1048576: true; the input reads as it did. -/
def predChecksUptoRow : OpenClaim := { program := "ytgdidamjgaegkaa", sum := "a084f5575049ab3b0829a570f37e7aa5aa0cb584b533c7b3febd066aae361c38", func := "offprint/offprintlaw10.PredChecks", spec := "predChecks", unfollowed := true, recurses := true, apart := false, narrowed := true }
def PredChecksUptoSaid : Prop := predChecksUptoRow.holds Try.pinned (OpenSpec.upto predChecksSpec)

/-- 'offprintlaw10.PredParts', WHERE WHAT IT READS IS OF BULK AT MOST 1048576: true; the input reads as it did. -/
def predPartsUptoRow : OpenClaim := { program := "ytgdidamjgaegkaa", sum := "a084f5575049ab3b0829a570f37e7aa5aa0cb584b533c7b3febd066aae361c38", func := "offprint/offprintlaw10.PredParts", spec := "predParts", unfollowed := true, recurses := true, apart := false, narrowed := true }
def PredPartsUptoSaid : Prop := predPartsUptoRow.holds Try.pinned (OpenSpec.upto predPartsSpec)

/-- 'offprintlaw10.PredJoins', WHERE WHAT IT READS IS OF BULK AT MOST 1048576: true; the input reads as it did. -/
def predJoinsUptoRow : OpenClaim := { program := "ytgdidamjgaegkaa", sum := "a084f5575049ab3b0829a570f37e7aa5aa0cb584b533c7b3febd066aae361c38", func := "offprint/offprintlaw10.PredJoins", spec := "predJoins", unfollowed := true, recurses := true, apart := false, narrowed := true }
def PredJoinsUptoSaid : Prop := predJoinsUptoRow.holds Try.pinned (OpenSpec.upto predJoinsSpec)

end Rows
end Go.Proofs.Ytgdidamjgaegkaa
