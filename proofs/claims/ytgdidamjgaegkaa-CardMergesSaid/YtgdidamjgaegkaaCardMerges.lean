/- CardMerges: a patch writes what its mask has and nothing else: for every input. No condition. -/
import Derived.Test.YtgdidamjgaegkaaCardMergesA
import Derived.Test.YtgdidamjgaegkaaCardW
import Derived.Test.YtgdidamjgaegkaaBase
namespace Go.Proofs.Ytgdidamjgaegkaa
set_option linter.unusedVariables false
open Go.ChangeShapes Go.WideShapes Go.ChangeAt Go.RowKit

set_option maxRecDepth 100000 in
theorem cardMerges_lifted (os : Os) (started : os.Started) (H : Type) (enc : TypeId × Value → H) :
    ReturnsInHanded {} Try.checked os 5 .any (Rows.cardMergesSpec.pre6 enc Try.prog Try.f5 Rows.cardMergesRow.domain false)
      (Rows.cardMergesSpec.post enc Try.prog Try.f5 false true false false) := by
  refine returnsInHanded_of_change (C := Try.checked) own started (by kernel_rfl) Try.func5
    (ChangeSpec.witness6 (enc := enc) (C := Try.checked) false ⟨#[], #[(.agg (ccells 0 0 0 zeros).toArray), (.agg (pcells 0 0 zeros).toArray)], []⟩ 8 (by kernel_rfl) (by kernel_rfl) (by kernel_rfl) (by kernel_rfl)) ?_
  intro W base args ds gs before hval hW _ _
  have hW' := hW
  obtain ⟨p, q, hA, hV, rfl, hfz, hnd⟩ := hW
  rw [Try.params5] at hA hval
  obtain ⟨v0, vs0, d0, ds0, p0, q0, hargs, rfl, rfl, h0, r0⟩ := trodAll_cons hA
  obtain ⟨v1, vs1, d1, ds1, p1, q1, rfl, rfl, rfl, h1, r1⟩ := trodAll_cons r0
  obtain ⟨rfl, rfl, rfl⟩ := trodAll_nil r1
  obtain rfl : args = #[v0, v1] := by cases args; simp_all
  obtain ⟨id0, ver0, lab0, f0, rfl, hf0, ok0, wi0, wv0⟩ := open_card (hval 0 27 v0 rfl rfl) h0
  obtain ⟨m1, lab1, f1, rfl, hf1, ok1⟩ := open_patch (hval 1 29 v1 rfl rfl) h1
  refine (walk_merges id0 ver0 (lab0.toNat : Int) (lab1.toNat : Int) m1 f0 f1 W hf0 hf1 wv0.1 wv0.2).mono fun e W' ⟨he, hb⟩ => ?_
  subst he
  exact ⟨_, rfl, law_post laidOut (by intro t ht; revert t ht; decide +kernel) rfl rfl boolT rfl hW' hb⟩

theorem CardMerges_holds : Rows.CardMergesSaid :=
  OpenClaim.holds_of_wide 5 Try.f5 rfl rfl rfl rfl rfl rfl rfl ⟨rfl, rfl, rfl, rfl, rfl⟩ rfl rfl rfl rfl rfl (by kernel_rfl) Try.func5 (by kernel_rfl)
    (of_decide_eq_true (by kernel_rfl)) (by unfold Func.isWrapper; first | (rw [if_pos (by decide +kernel)]; kernel_rfl) | (rw [if_neg (by decide +kernel)]; exact ⟨rfl, rfl⟩))
    (fun os started H enc _ => cardMerges_lifted os started H enc)
end Go.Proofs.Ytgdidamjgaegkaa
