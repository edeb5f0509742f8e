/- Ledger: when two answers are the same. -/
import Derived.Test.YtadmaalhhigbeaaW8
namespace Go.Proofs.Ytadmaalhhigbeaa
set_option linter.unusedVariables false
set_option linter.unusedSimpArgs false
open Go Go.RowKit ValM

set_option maxRecDepth 100000 in
set_option maxHeartbeats 3200000 in
theorem rlsame_any (r r' : Rp) (w : World) (h : okRp w r) (h' : okRp w r') (hz : r.n ≤ 65536) :
    Calls Try.prog 14 #[.agg (rpc r).toArray, .agg (rpc r').toArray] w fun e w' => e = .returned (.bool (decide (rab r = rab r'))) ∧ Below w.heap.size w w' := by
  have hc8 := fun W (hW : Below w.heap.size w W) => rsame_any r.A r.n r.c r.f r'.A r'.n r'.c r'.f W h.len h'.len (h.later hW).see (h'.later hW).see hz
  obtain ⟨R, hR⟩ : ∃ R, R = decide (rab r = rab r') := ⟨_, rfl⟩
  rw [← hR]
  clear h h'
  obtain ⟨a0, a1, a2, a3, a4, a5, a6, a7, A, n, c, f, ms⟩ := r
  obtain ⟨b0, b1, b2, b3, b4, b5, b6, b7, B, n', c', f', ms'⟩ := r'
  dsimp only [rpc] at *
  obtain ⟨z8, hz8⟩ : ∃ z8 : Int, f = f' ↔ z8 = 0 := by
    by_cases e : f = f'
    · exact ⟨0, by simp [e]⟩
    · exact ⟨1, by simp [e]⟩
  have hd8 : decide (f = f') = decide (z8 = 0) := decide_eq_decide.2 hz8
  rw [hd8] at hc8
  clear hd8
  have hR : R = decide (a0 = b0 ∧ a1 = b1 ∧ a2 = b2 ∧ a3 = b3 ∧ a4 = b4 ∧ a5 = b5 ∧ a6 = b6 ∧ a7 = b7 ∧ z8 = 0 ∧ ms.toNat = ms'.toNat) := by
    rw [hR]
    refine decide_eq_decide.2 ((rab_iff _ _).trans ?_)
    dsimp only
    rw [hz8]
  have HR := Lib.hid hR
  have HCMP := Lib.hid hc8
  clear hR hz8 hc8 
  go_enter Try.func14, Try.ntmps14
  go_wp2_with fail
  all_goals (try (
    refine (HCMP.out _ (below_a2 _ _ _)).mono ?_
    rintro e w3 ⟨rfl, hb3⟩
    have kx := (two_cells hb3).1 9 _ rfl
    have ky := (two_cells hb3).2 9 _ rfl
    have HB3 := Lib.hid ((below_a2 _ _ _).trans (hb3.mono (below_a2 _ _ _).size))
    clear hb3
    go_wp2_with fail))
  all_goals
    go_ret
    refine ⟨?_, by first | exact HB3.out | exact below_a2 _ _ _⟩
    show Ending.returned (Value.bool _) = _
    rw [HR.out]
    refine congrArg (fun b => Ending.returned (Value.bool b)) (Bool.eq_iff_iff.2 ?_)
    simp only [decide_eq_true_eq, Bool.and_eq_true, Bool.or_eq_true, Bool.not_eq_true', decide_eq_false_iff_not, Bool.false_eq_true, beq_iff_eq, false_iff, true_iff]
    omega
end Go.Proofs.Ytadmaalhhigbeaa
