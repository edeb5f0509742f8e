/- Rows as open slots of a drawn region: a new slice without room, what was appended onto it. -/
import Derived.Test.YtadmaalhhigbeaaRowM
import Derived.Test.YtadmaalhhigbeaaTail
namespace Go.Proofs.Ytadmaalhhigbeaa
set_option linter.unusedVariables false
open Go Go.RowKit

def relRow0 (B : Nat) (e : TypeId) (size : Nat) : Rel where
  rel x w := B ≤ w.heap.size ∧ ∃ b, x = .slice (some ⟨b, 0, none⟩) 0 0 ∧ w.ownsRow B e size x 0 []
  mono := fun x w w' h ⟨hB, b, e, hr⟩ => ⟨Nat.le_trans hB h.size, b, e, row_later hr h⟩
  real := fun w ⟨_, b, e, _⟩ => by cases e
def relRowN (B : Nat) (e : TypeId) (size n : Nat) (xs : List Value) : Rel where
  rel x w := w.ownsRow B e size x n xs
  mono := fun x w w' h hr => row_later hr h
  real := fun w h => by
    obtain ⟨A, c, e⟩ := row_form h
    cases e

theorem row0_gives {P : Program} {a : Act} {op : Oper} (t e : TypeId) (size B : Nat) (ho : op.op = .buildSlice t 0 #[]) (hrun : ∀ w, (Instr.buildSlice t 0 #[]).run P w = .ok (.slice (some ⟨w.heap.size, 0, none⟩) 0 0) (w.alloc (.cells #[] e))) (w : World) (hB : B ≤ w.heap.size) : gives P op a (relRow0 B e size).rel w := by
  unfold gives execOp
  simp only [ho, List.map_toArray, List.map_nil, Sem.run_bind, hrun, Result.andThen_ok, Sem.run_pure]
  exact ⟨(Below.refl _ _).alloc (Nat.le_refl _) _, by simp; omega, _, rfl, row_lit w B e size 0 #[] hB (by simp [maxLen]) (by simp)⟩
theorem app_gives {P : Program} {a : Act} {op : Oper} (s x : Operand) (B : Nat) (t e : TypeId) (i : TypeInfo) (z : Value) (size bytes : Nat) (ho : op.op = .call { callee := .builtin .append, args := #[s, x], argTypes := #[t, t] })
    (ht : P.underlying t = some (.slice e)) (hi : P.info? e = some i) (hz : i.zero = some z) (hsize : i.size = size) (hby : i.bytes = bytes) (hzs : z.cells.size = size) (hpos : 0 < size)
    (w : World) (hv : (relRow0 B e size).rel (a.eval s) w) (ad : Addr) (m c : Nat) (news : List Value) (hx : a.eval x = .slice (some ad) m c) (hl : news.length = m * size) (hs : Sees w w.heap.size (some ad) news) (h1 : ∀ u ∈ news, u.oneCell' = true)
    (h63 : m ≤ maxLen) (hbytes : m * bytes ≤ 140737488355328) : gives P op a (relRowN B e size m news).rel w := by
  obtain ⟨hB, b, e0, hr⟩ := hv
  rw [e0] at hr
  obtain ⟨v', w', hrun, hle, hrow⟩ := app_fresh (P := P) w B t op.type e i z size bytes ht hi hz hsize hby hzs hpos b hr ad m c news hl hs h1 h63 hbytes hB
  unfold gives execOp
  simp only [ho, resolve, invoke, builtin, Sem.run_bind, Sem.run_pure, Result.andThen_ok, List.map_toArray, List.map_cons, List.map_nil, e0, hx, hrun]
  exact ⟨hle, hrow⟩
end Go.Proofs.Ytadmaalhhigbeaa
