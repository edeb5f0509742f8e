/- What the frame gives of a slice of ints that lies in a cell; acts on a disk, with what stays. -/
import Derived.Test.YtjnfdhjnfginpaaDkW
namespace Go.Proofs.Ytjnfdhjnfginpaa
set_option linter.unusedVariables false
open Go Go.RowKit Go.Deep Go.ChangeShapes Go.WideShapes Go.ChangeAt

section
variable {H : Type} {enc : TypeId × Value → H} {W : World}
/-- A slice of ints, seen. -/
def SeenI (W : World) (v : Value) (l : List Int) : Prop := ∃ A n c, v = .slice A n c ∧ n ≤ c ∧ c ≤ maxLen ∧ l.length = n ∧ Sees W W.heap.size A (ivs l)
theorem open_intcell {P : Program} {t e : TypeId} {n0 : Nat} {cs : List Value} {x : DataW H × List MemPlace}
    (ht : P.underlying t = some (.slice e)) (he : P.underlying e = some (.int .i64)) (hc : P.cellsOf e = 1) (hf : DataW.trod enc P W 0 (fun _ => true) true n0 t cs = some x) :
    ∃ v l, cs = [v] ∧ SeenI W v l ∧ (∀ z ∈ l, -9223372036854775808 ≤ z ∧ z ≤ 9223372036854775807) := by
  have hlt := DataW.trod_lt n0 _ _ _ hf
  rcases open_ints ht he hc hf with ⟨hcs, hx⟩ | ⟨x, n, c, zs, hcs, hb, hl, hm, hz, hx, hcell, hwz⟩
  · exact ⟨_, [], hcs, ⟨none, 0, 0, rfl, Nat.le_refl _, by simp [maxLen], rfl, Sees.nil_⟩, by simp⟩
  · have hzl : zs.length = c := by simpa using hz
    refine ⟨_, zs.take n, hcs, ⟨some x, n, c, rfl, hl, hm, by simp; omega, fun hpos => ?_⟩, fun z hz' => i64_wf (hwz z (List.mem_of_mem_take hz'))⟩
    simp [ivs] at hpos
    have h0 := hcell 0 (by omega)
    obtain ⟨b, off, spot⟩ := x
    have hspot : spot = none := by simpa [Addr.add] using World.cell?_spot h0
    subst hspot
    refine ⟨b, off, rfl, ?_, fun j hj => ?_⟩
    · rw [hx] at hlt
      have := hlt (.cell b off) (by simp [MemPlace.row]; omega)
      simpa [MemPlace.block] using this
    · simp [ivs] at hj
      have hcj := hcell j (by omega)
      have hjl : j < zs.length := by omega
      have hg : zs.getD j 0 = zs[j] := by simp [hjl]
      rw [add_at, hg] at hcj
      rw [hcj]
      simp [ivs]
def okAk (W : World) (x : Ax) : Prop := okAx x ∧ ∃ l, SeenI W x.2.2.2.2 l
set_option maxRecDepth 100000 in
theorem trod_ak {n : Nat} {cs : List Value} {x : DataW H × List MemPlace} (h : DataW.trod enc Try.prog W 0 (fun _ => true) true n 35 cs = some x) : ∃ p : Ax, cs = axc p ∧ okAk W p := by
  obtain ⟨y0, y1, y2, y3, y4, m, _, hl, h0, h1, h2, h3, h4⟩ := trod_struct5 Try.underlying35 h
  have c1 : Try.prog.cellsOf 3 = 1 := by kernel_rfl
  have c2 : Try.prog.cellsOf 5 = 1 := by kernel_rfl
  have c3 : Try.prog.cellsOf 33 = 1 := by kernel_rfl
  have c5 : Try.prog.cellsOf 35 = 5 := by kernel_rfl
  rw [c5] at hl
  simp only [c1] at h0 h1 h2
  simp only [c2] at h3
  simp only [c3] at h4
  obtain ⟨a, e0, _, w0⟩ := DataW.trod_int Try.underlying3 h0
  obtain ⟨b, e1, _, w1⟩ := DataW.trod_int Try.underlying3 h1
  obtain ⟨c, e2, _, w2⟩ := DataW.trod_int Try.underlying3 h2
  obtain ⟨d, e3, _, w3⟩ := DataW.trod_int Try.underlying5 h3
  obtain ⟨d8, rfl⟩ := u8_wf3 w3
  obtain ⟨v, l, e4, hv, _⟩ := open_intcell Try.underlying33 Try.underlying3 c1 h4
  exact ⟨(a, b, c, d8, v), list5 hl e0 e1 e2 e3 e4, ⟨i64_wf w0, i64_wf w1, i64_wf w2⟩, l, hv⟩
theorem open_dacts2 {r : Reach} {base : Nat} {v : Value} {d : DataW H} {ps : List MemPlace}
    (hv : Value.okWide Try.prog W r base 22 v) (h : DataW.Trod enc Try.prog W 0 (fun _ => true) true 22 v d ps) :
    ∃ A n c, ∃ l : List Ax, v = .slice A n c ∧ n ≤ c ∧ c ≤ maxLen ∧ l.length = n ∧ (∀ z ∈ l, okAk W z) ∧ Sees W W.heap.size A (rws axc l) :=
  open_rows (f := axc) (sz := 5) (ok := okAk W) Try.underlying22 (by kernel_rfl) (by decide) (fun _ _ => rfl) (fun n cs x h => trod_ak h) hv h
end
end Go.Proofs.Ytjnfdhjnfginpaa
