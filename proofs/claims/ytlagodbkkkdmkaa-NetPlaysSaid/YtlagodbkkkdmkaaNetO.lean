/- NetOnce: what the law's loop keeps: what was sent and not taken yet is what is under way. -/
import Derived.Test.YtlagodbkkkdmkaaNetP
import Derived.Test.YtlagodbkkkdmkaaNetW
namespace Go.Proofs.Ytlagodbkkkdmkaa
set_option linter.unusedVariables false
set_option linter.unusedSimpArgs false
open Go Go.RowKit Go.MuLone

/-- The net at g has nl under way; s, which the law has noted, is the same, in any order; it lies in a row of the law's own. -/
structure NI (w0 wr : World) (g : Nat) (s nl : List V3) (A : Option Addr) (c : Nat) : Prop where
  net : ∃ r, NetAt wr g 0 r nl ∧ ((Value.slice A s.length c).ownBlock = none ∨ (Value.slice A s.length c).ownBlock ≠ r) ∧ ∀ k, r = some k → w0.heap.size ≤ k
  row : wr.ownsRow (g + 1) 59 3 (.slice A s.length c) s.length (fcells s)
  at_ : w0.heap.size ≤ g
  below : Below w0.heap.size w0 wr
theorem NI.own {w0 wr : World} {g : Nat} {s nl : List V3} {A : Option Addr} {c : Nat} (h : NI w0 wr g s nl A c) : (Value.slice A s.length c).ownBlock ≠ some g := fun e => by
  have := h.row.lt g e
  omega
theorem NI.later {w0 wr wx : World} {g : Nat} {s nl : List V3} {A : Option Addr} {c : Nat} (h : NI w0 wr g s nl A c) (hb : Below wr.heap.size wr wx) : NI w0 wx g s nl A c := by
  obtain ⟨⟨r, N, hr, hr0⟩, row, a, b⟩ := h
  exact ⟨⟨r, N.later hb, hr, hr0⟩, row_later row hb, a, b.trans (hb.mono b.size)⟩
/-- A call of the net. -/
theorem NI.turn {w0 wr wx : World} {g : Nat} {s nl nl' : List V3} {A : Option Addr} {c : Nat} {r r' : Option Nat} (h : NI w0 wr g s nl A c) (N : NetAt wr g 0 r nl) (hr : (Value.slice A s.length c).ownBlock = none ∨ (Value.slice A s.length c).ownBlock ≠ r) (hr0 : ∀ k, r = some k → w0.heap.size ≤ k)
    (N' : NetAt wx g 0 r' nl') (T : Turn2 wr wx g r) (h' : r' = r ∨ ∀ k, r' = some k → wr.heap.size ≤ k) :
    NI w0 wx g s nl' A c ∧ NetAt wx g 0 r' nl' ∧ ((Value.slice A s.length c).ownBlock = none ∨ (Value.slice A s.length c).ownBlock ≠ r') ∧ ∀ k, r' = some k → w0.heap.size ≤ k := by
  have ho := h.own
  obtain ⟨_, row, a, b⟩ := h
  have H1 : (Value.slice A s.length c).ownBlock = none ∨ (Value.slice A s.length c).ownBlock ≠ r' := by
    rcases h' with rfl | h'
    · exact hr
    · cases hA : (Value.slice A s.length c).ownBlock with
      | none => exact .inl rfl
      | some k =>
        refine .inr fun e => ?_
        have h1 := row.lt k hA
        have h2 := h' k e.symm
        omega
  have H2 : ∀ k, r' = some k → w0.heap.size ≤ k := by
    intro k hk
    rcases h' with rfl | h'
    · exact hr0 k hk
    · exact Nat.le_trans b.size (h' k hk)
  exact ⟨⟨⟨r', N', H1, H2⟩, row_turn row T ho hr, a, b.trans (T.below a hr0 b.size)⟩, N', H1, H2⟩
/-- What grows is the row. -/
theorem NI.grow {w0 wr wx : World} {g : Nat} {s nl s' : List V3} {A A' : Option Addr} {c c' : Nat} (h : NI w0 wr g s nl A c) (G : wr.grownBy wx (Value.slice A s.length c).ownBlock)
    (row : wx.ownsRow (g + 1) 59 3 (.slice A' s'.length c') s'.length (fcells s')) (hA : (Value.slice A' s'.length c').ownBlock = (Value.slice A s.length c).ownBlock ∨ ∀ k, (Value.slice A' s'.length c').ownBlock = some k → wr.heap.size ≤ k)
    (hb : Below w0.heap.size w0 wx) : NI w0 wx g s' nl A' c' := by
  have ho := h.own
  obtain ⟨⟨r, N, hr, hr0⟩, _, a, b⟩ := h
  refine ⟨⟨r, N.grown G ho hr, ?_, hr0⟩, row, a, hb⟩
  rcases hA with e | hA
  · rw [e]; exact hr
  · cases hk : (Value.slice A' s'.length c').ownBlock with
    | none => exact .inl rfl
    | some k =>
      refine .inr fun e => ?_
      have h1 := hA k hk
      have h2 := (N.row k e.symm).2
      omega
/-- The row is a new one. -/
theorem NI.fresh {w0 wr wx : World} {g : Nat} {s nl s' : List V3} {A A' : Option Addr} {c c' : Nat} (h : NI w0 wr g s nl A c) (hb : Below wr.heap.size wr wx)
    (row : wx.ownsRow wr.heap.size 59 3 (.slice A' s'.length c') s'.length (fcells s')) : NI w0 wx g s' nl A' c' := by
  obtain ⟨⟨r, N, hr, hr0⟩, _, a, b⟩ := h
  have hlt : g < wr.heap.size := by obtain ⟨_, _, B, _⟩ := N; exact B.lt
  refine ⟨⟨r, N.later hb, ?_, hr0⟩, row_lower row (by omega), a, b.trans (hb.mono b.size)⟩
  cases hk : (Value.slice A' s'.length c').ownBlock with
  | none => exact .inl rfl
  | some k =>
    refine .inr fun e => ?_
    have h1 := row.lt k hk
    have h2 := (N.row k e.symm).2
    omega
end Go.Proofs.Ytlagodbkkkdmkaa
