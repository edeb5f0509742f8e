/- Cards: the patch of what a card has, by the document: what it returns. -/
import Derived.Test.YtjlpccdlpgkgoaaCardP
import Derived.Test.YtjlpccdlpgkgoaaCardI
namespace Go.Proofs.Ytjlpccdlpgkgoaa
set_option linter.unusedVariables false
open Go Go.RowKit BitM

theorem eight {f : List V3} (h : f.length = 8) : ∃ v0 v1 v2 v3 v4 v5 v6 v7 : V3, f = [v0, v1, v2, v3, v4, v5, v6, v7] := by
  match f, h with
  | [v0, v1, v2, v3, v4, v5, v6, v7], _ => exact ⟨v0, v1, v2, v3, v4, v5, v6, v7, rfl⟩

end Go.Proofs.Ytjlpccdlpgkgoaa
