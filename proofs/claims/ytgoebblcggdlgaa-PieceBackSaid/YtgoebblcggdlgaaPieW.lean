/- What the frame gives of a piece, of a list of pieces. -/
import Derived.Test.YtgoebblcggdlgaaRws
import Derived.Test.YtgoebblcggdlgaaPieM
import Derived.Test.YtgoebblcggdlgaaCardW
namespace Go.Proofs.Ytgoebblcggdlgaa
set_option linter.unusedVariables false
open Go Go.RowKit Go.Deep Go.ChangeShapes Go.WideShapes Go.ChangeAt

/-- What a piece in an input is. -/
def okPc (p : Pc) : Prop := (-9223372036854775808 ≤ p.1 ∧ p.1 ≤ 9223372036854775807) ∧ (-9223372036854775808 ≤ p.2.1 ∧ p.2.1 ≤ 9223372036854775807) ∧ p.2.2.2.2.length ≤ maxLen
section
variable {H : Type} {enc : TypeId × Value → H} {W : World}
set_option maxRecDepth 100000 in
theorem trod_pie {sp : Nat → Bool} {held : Bool} {n : Nat} {cs : List Value} {x : DataW H × List MemPlace} (h : DataW.trod enc Try.prog W 0 sp held n 23 cs = some x) : ∃ p : Pc, cs = pcel p ∧ okPc p := by
  obtain ⟨y0, y1, y2, y3, y4, m, _, hl, h0, h1, h2, h3, h4⟩ := trod_struct5 Try.underlying23 h
  have c1 : Try.prog.cellsOf 3 = 1 := by kernel_rfl
  have c2 : Try.prog.cellsOf 4 = 1 := by kernel_rfl
  have c3 : Try.prog.cellsOf 9 = 1 := by kernel_rfl
  have c5 : Try.prog.cellsOf 23 = 5 := by kernel_rfl
  rw [c5] at hl
  simp only [c1] at h0 h1
  simp only [c2] at h2 h3
  simp only [c3] at h4
  obtain ⟨a, e0, _, w0⟩ := DataW.trod_int Try.underlying3 h0
  obtain ⟨b, e1, _, w1⟩ := DataW.trod_int Try.underlying3 h1
  obtain ⟨f, e2, _⟩ := DataW.trod_bool Try.underlying4 h2
  obtain ⟨g, e3, _⟩ := DataW.trod_bool Try.underlying4 h3
  obtain ⟨s, e4, _, w4⟩ := DataW.trod_string Try.underlying9 h4
  refine ⟨(a, b, f, g, s.data.toList), ?_, i64_wf w0, i64_wf w1, by simpa using w4⟩
  unfold pcel
  dsimp only
  rw [str_eta]
  exact list5 hl e0 e1 e2 e3 e4
set_option maxRecDepth 100000 in
theorem open_piece {r : Reach} {base : Nat} {v : Value} {d : DataW H} {ps : List MemPlace}
    (hv : Value.okWide Try.prog W r base 23 v) (h : DataW.Trod enc Try.prog W 0 (fun _ => true) true 23 v d ps) :
    ∃ p : Pc, v = .agg (pcel p).toArray ∧ okPc p := by
  simp only [Value.okWide, Try.underlying23] at hv
  obtain ⟨cs, rfl, hrest⟩ := hv
  obtain ⟨fuel, hf⟩ := h
  obtain ⟨p, e, ok⟩ := trod_pie hf
  simp only [Value.cells] at e
  exact ⟨p, by rw [← e], ok⟩
theorem open_pieces {r : Reach} {base : Nat} {v : Value} {d : DataW H} {ps : List MemPlace}
    (hv : Value.okWide Try.prog W r base 39 v) (h : DataW.Trod enc Try.prog W 0 (fun _ => true) true 39 v d ps) :
    ∃ A n c, ∃ l : List Pc, v = .slice A n c ∧ n ≤ c ∧ c ≤ maxLen ∧ l.length = n ∧ (∀ z ∈ l, okPc z) ∧ Sees W W.heap.size A (rws pcel l) :=
  open_rows (f := pcel) (sz := 5) (ok := okPc) Try.underlying39 (by kernel_rfl) (by decide) (fun _ _ => rfl) (fun n cs x h => trod_pie h) hv h
end
end Go.Proofs.Ytgoebblcggdlgaa
