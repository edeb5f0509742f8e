/- What the frame gives of an act on a disk, of a list of acts. -/
import Derived.Test.YtjnfdhjnfginpaaRws
import Derived.Test.YtjnfdhjnfginpaaDkL
namespace Go.Proofs.Ytjnfdhjnfginpaa
set_option linter.unusedVariables false
open Go Go.RowKit Go.Deep Go.ChangeShapes Go.WideShapes Go.ChangeAt

/-- What an act in an input is. -/
def okAx (x : Ax) : Prop := (-9223372036854775808 ≤ x.1 ∧ x.1 ≤ 9223372036854775807) ∧ (-9223372036854775808 ≤ x.2.1 ∧ x.2.1 ≤ 9223372036854775807) ∧ (-9223372036854775808 ≤ x.2.2.1 ∧ x.2.2.1 ≤ 9223372036854775807)
theorem u8_wf3 {z : Int} (h : (Lit.int .u8 z).wf = true) : ∃ x : UInt8, z = (x.toNat : Int) := by
  have h2 : 0 ≤ z ∧ z ≤ 255 := by simpa [Lit.wf, IntKind.min, IntKind.max, IntKind.signed, IntKind.bits] using h
  refine ⟨UInt8.ofNat z.toNat, ?_⟩
  rw [UInt8.toNat_ofNat', Nat.mod_eq_of_lt (by omega)]
  omega
theorem one_last {l : List Value} (h : l.length = 5) : ∃ v, (l.drop 4).take 1 = [v] := by
  match l, h with
  | [_, _, _, _, v], _ => exact ⟨v, rfl⟩
section
variable {H : Type} {enc : TypeId × Value → H} {W : World}
set_option maxRecDepth 100000 in
theorem trod_ax {sp : Nat → Bool} {held : Bool} {n : Nat} {cs : List Value} {x : DataW H × List MemPlace} (h : DataW.trod enc Try.prog W 0 sp held n 35 cs = some x) : ∃ p : Ax, cs = axc p ∧ okAx p := by
  obtain ⟨y0, y1, y2, y3, y4, m, _, hl, h0, h1, h2, h3, h4⟩ := trod_struct5 Try.underlying35 h
  have c1 : Try.prog.cellsOf 3 = 1 := by kernel_rfl
  have c2 : Try.prog.cellsOf 5 = 1 := by kernel_rfl
  have c5 : Try.prog.cellsOf 35 = 5 := by kernel_rfl
  rw [c5] at hl
  simp only [c1] at h0 h1 h2
  simp only [c2] at h3
  obtain ⟨a, e0, _, w0⟩ := DataW.trod_int Try.underlying3 h0
  obtain ⟨b, e1, _, w1⟩ := DataW.trod_int Try.underlying3 h1
  obtain ⟨c, e2, _, w2⟩ := DataW.trod_int Try.underlying3 h2
  obtain ⟨d, e3, _, w3⟩ := DataW.trod_int Try.underlying5 h3
  obtain ⟨d8, rfl⟩ := u8_wf3 w3
  obtain ⟨v, e4⟩ := one_last hl
  exact ⟨(a, b, c, d8, v), list5 hl e0 e1 e2 e3 e4, i64_wf w0, i64_wf w1, i64_wf w2⟩
theorem open_dacts {r : Reach} {base : Nat} {v : Value} {d : DataW H} {ps : List MemPlace}
    (hv : Value.okWide Try.prog W r base 22 v) (h : DataW.Trod enc Try.prog W 0 (fun _ => true) true 22 v d ps) :
    ∃ A n c, ∃ l : List Ax, v = .slice A n c ∧ n ≤ c ∧ c ≤ maxLen ∧ l.length = n ∧ (∀ z ∈ l, okAx z) ∧ Sees W W.heap.size A (rws axc l) :=
  open_rows (f := axc) (sz := 5) (ok := okAx) Try.underlying22 (by kernel_rfl) (by decide) (fun _ _ => rfl) (fun n cs x h => trod_ax h) hv h
end
end Go.Proofs.Ytjnfdhjnfginpaa
