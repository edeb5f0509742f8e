/- CardTwice: what is shown of what is shown is what both masks show, and a card comes of its own patch: for every input. No condition. -/
import Derived.Test.YtgdidamjgaegkaaCardTwiceA
import Derived.Test.YtgdidamjgaegkaaCardW
import Derived.Test.YtgdidamjgaegkaaBase
namespace Go.Proofs.Ytgdidamjgaegkaa
set_option linter.unusedVariables false
open Go.ChangeShapes Go.WideShapes Go.ChangeAt Go.RowKit

theorem two_of {zs : List Int} (h : zs.length = 2) : ∃ z0 z1, zs = [z0, z1] := by
  match zs, h with
  | [z0, z1], _ => exact ⟨z0, z1, rfl⟩

set_option maxRecDepth 100000 in
theorem cardTwice_lifted (os : Os) (started : os.Started) (H : Type) (enc : TypeId × Value → H) :
    ReturnsInHanded {} Try.checked os 6 .any (Rows.cardTwiceSpec.pre6 enc Try.prog Try.f6 Rows.cardTwiceRow.domain false)
      (Rows.cardTwiceSpec.post enc Try.prog Try.f6 false true false false) := by
  refine returnsInHanded_of_change (C := Try.checked) own started (by kernel_rfl) Try.func6
    (ChangeSpec.witness6 (enc := enc) (C := Try.checked) false ⟨#[], #[(.agg (ccells 0 0 0 zeros).toArray), (.agg (ccells 0 0 0 zeros).toArray), .agg #[.int .u32 0, .int .u32 0]], []⟩ 8 (by kernel_rfl) (by kernel_rfl) (by kernel_rfl) (by kernel_rfl)) ?_
  intro W base args ds gs before hval hW _ _
  have hW' := hW
  obtain ⟨p, q, hA, hV, rfl, hfz, hnd⟩ := hW
  rw [Try.params6] at hA hval
  obtain ⟨v0, vs0, d0, ds0, p0, q0, hargs, rfl, rfl, h0, r0⟩ := trodAll_cons hA
  obtain ⟨v1, vs1, d1, ds1, p1, q1, rfl, rfl, rfl, h1, r1⟩ := trodAll_cons r0
  obtain ⟨v2, vs2, d2, ds2, p2, q2, rfl, rfl, rfl, h2, r2⟩ := trodAll_cons r1
  obtain ⟨rfl, rfl, rfl⟩ := trodAll_nil r2
  obtain rfl : args = #[v0, v1, v2] := by cases args; simp_all
  obtain ⟨id0, ver0, lab0, f0, rfl, hf0, ok0, wi0, wv0⟩ := open_card (hval 0 27 v0 rfl rfl) h0
  obtain ⟨id1, ver1, lab1, f1, rfl, hf1, ok1, wi1, wv1⟩ := open_card (hval 1 27 v1 rfl rfl) h1
  obtain ⟨zs2, rfl, hzl2, hzw2⟩ := open_array Try.underlying48 Try.underlying22 (by kernel_rfl) (by kernel_rfl) (hval 2 48 v2 rfl rfl) h2
  obtain ⟨z0, z1, rfl⟩ := two_of hzl2
  obtain ⟨x0, rfl⟩ := u32_wf (hzw2 z0 (by simp))
  obtain ⟨x1, rfl⟩ := u32_wf (hzw2 z1 (by simp))
  refine (walk_twice id0 ver0 (lab0.toNat : Int) id1 ver1 (lab1.toNat : Int) x0 x1 f0 f1 W hf0 hf1).mono fun e W' ⟨he, hb⟩ => ?_
  subst he
  exact ⟨_, rfl, law_post laidOut (by intro t ht; revert t ht; decide +kernel) rfl rfl boolT rfl hW' hb⟩

theorem CardTwice_holds : Rows.CardTwiceSaid :=
  OpenClaim.holds_of_wide 6 Try.f6 rfl rfl rfl rfl rfl rfl rfl ⟨rfl, rfl, rfl, rfl, rfl⟩ rfl rfl rfl rfl rfl (by kernel_rfl) Try.func6 (by kernel_rfl)
    (of_decide_eq_true (by kernel_rfl)) (by unfold Func.isWrapper; first | (rw [if_pos (by decide +kernel)]; kernel_rfl) | (rw [if_neg (by decide +kernel)]; exact ⟨rfl, rfl⟩))
    (fun os started H enc _ => cardTwice_lifted os started H enc)
end Go.Proofs.Ytgdidamjgaegkaa
