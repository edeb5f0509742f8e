/- Ledger: what the frame gives of an answer. -/
import Derived.Test.YtadmaalhhigbeaaW39
namespace Go.Proofs.Ytadmaalhhigbeaa
set_option linter.unusedVariables false
open Go Go.RowKit Go.Deep Go.ChangeShapes Go.WideShapes Go.ChangeAt

section
variable {H : Type} {enc : TypeId × Value → H} {W : World}
set_option maxRecDepth 100000 in
theorem open_rp30 {r : Reach} {base : Nat} {v : Value} {d : DataW H} {ps : List MemPlace}
    (hv : Value.okWide Try.prog W r base 26 v) (h : DataW.Trod enc Try.prog W 0 (fun _ => true) true 26 v d ps) :
    ∃ a : Rp, v = .agg (rpc a).toArray ∧ okRp W a := by
  simp only [Value.okWide, Try.underlying26] at hv
  obtain ⟨cs, rfl, hrest⟩ := hv
  obtain ⟨fuel, hf⟩ := h
  obtain ⟨a, e, ok⟩ := trod_rp (cs := cs.toList) (by simpa [Value.cells] using hf)
  exact ⟨a, by rw [← e], ok⟩
end
end Go.Proofs.Ytadmaalhhigbeaa
