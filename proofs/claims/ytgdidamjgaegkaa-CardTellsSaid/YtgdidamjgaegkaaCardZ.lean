/- A slice of two cards, made at once. -/
import Derived.Test.YtgdidamjgaegkaaCardY
import Derived.Test.YtgdidamjgaegkaaCardQ
namespace Go.Proofs.Ytgdidamjgaegkaa
set_option linter.unusedVariables false
open Go Go.RowKit BitM

set_option maxRecDepth 100000 in
theorem run_two (u v : C4) (hu : u.2.2.2.length = 8) (hv : v.2.2.2.length = 8) (w : World) :
    (Instr.buildSlice 32 2 #[(0, .agg (cc4 u).toArray), (1, .agg (cc4 v).toArray)]).run Try.prog w = .ok (.slice (some ⟨w.heap.size, 0, none⟩) 2 2) (w.alloc (.cells (cc4 u ++ cc4 v).toArray 27)) := by
  obtain ⟨a, b, c, f⟩ := u
  obtain ⟨a', b', c', f'⟩ := v
  obtain ⟨v0, v1, v2, v3, v4, v5, v6, v7, rfl⟩ := eight hu
  obtain ⟨u0, u1, u2, u3, u4, u5, u6, u7, rfl⟩ := eight hv
  kernel_rfl
theorem rows_two (u v : C4) (hu : u.2.2.2.length = 8) (hv : v.2.2.2.length = 8) (w : World) : Rows (w.alloc (.cells (cc4 u ++ cc4 v).toArray 27)) w.heap.size 0 [u, v] := by
  refine ⟨by intro c hc; simp at hc; rcases hc with rfl | rfl; exact hu; exact hv, _, Blk.new w (cc4 u ++ cc4 v) 27, ?_⟩
  intro k hk
  have h1 := cc4_len u hu
  have h2 := cc4_len v hv
  match k, hk with
  | 0, _ => simp only [Nat.zero_mul, Nat.add_zero, List.drop_zero, List.getElem_cons_zero]; rw [← h1, List.take_left']; rfl
  | 1, _ => simp only [Nat.one_mul, Nat.zero_add, List.getElem_cons_succ, List.getElem_cons_zero]; rw [← h1, List.drop_left', h1, ← h2, List.take_length]; rfl
  | k + 2, h => simp at h; omega
end Go.Proofs.Ytgdidamjgaegkaa
