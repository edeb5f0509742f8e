/- Groups: what the frame gives of a group, of a list of groups. -/
import Derived.Test.YtglhgdkghddcaaaGrM
import Derived.ChangeSame
namespace Go.Proofs.Ytglhgdkghddcaaa
set_option linter.unusedVariables false
open Go Go.RowKit Go.Deep Go.ChangeShapes Go.WideShapes Go.ChangeAt

instance : Inhabited Gp := ⟨⟨0, none, 0, 0, []⟩⟩
section
variable {H : Type} {enc : TypeId × Value → H} {W : World}
theorem open_gints {P : Program} {t e : TypeId} {n0 : Nat} {cs : List Value} {x : DataW H × List MemPlace}
    (ht : P.underlying t = some (.slice e)) (he : P.underlying e = some (.int .i64)) (hc : P.cellsOf e = 1) (hf : DataW.trod enc P W 0 (fun _ => true) true n0 t cs = some x) :
    ∃ A n c l, cs = [.slice A n c] ∧ n ≤ c ∧ c ≤ maxLen ∧ l.length = n ∧ Sees W W.heap.size A (ivs l) := by
  have hlt := DataW.trod_lt n0 _ _ _ hf
  rcases open_ints ht he hc hf with ⟨hcs, hx⟩ | ⟨x, n, c, zs, hcs, hb, hl, hm, hz, hx, hcell, hwz⟩
  · exact ⟨none, 0, 0, [], hcs, Nat.le_refl _, by simp [maxLen], rfl, Sees.nil_⟩
  · have hzl : zs.length = c := by simpa using hz
    refine ⟨some x, n, c, zs.take n, hcs, hl, hm, by simp; omega, fun hpos => ?_⟩
    simp [ivs] at hpos
    have h0 := hcell 0 (by omega)
    obtain ⟨b, off, spot⟩ := x
    have hspot : spot = none := by simpa [Addr.add] using World.cell?_spot h0
    subst hspot
    refine ⟨b, off, rfl, ?_, fun j hj => ?_⟩
    · rw [hx] at hlt
      have := hlt (.cell b off) (by simp [MemPlace.row]; omega)
      simpa [MemPlace.block] using this
    · simp [ivs] at hj
      have hcj := hcell j (by omega)
      have hjl : j < zs.length := by omega
      have hg : zs.getD j 0 = zs[j] := by simp [hjl]
      rw [add_at, hg] at hcj
      rw [hcj]
      simp [ivs]
theorem glist2 {α : Type} {l : List α} {a b : α} (hl : l.length = 2) (h0 : (l.drop 0).take 1 = [a]) (h1 : (l.drop 1).take 1 = [b]) : l = [a, b] := by
  match l, hl with
  | [x, y], _ => simp at h0 h1; rw [h0, h1]
set_option maxRecDepth 100000 in
theorem trod_gp {n : Nat} {cs : List Value} {x : DataW H × List MemPlace} (h : DataW.trod enc Try.prog W 0 (fun _ => true) true n 41 cs = some x) : ∃ p : Gp, cs = gpc p ∧ okGp W p := by
  obtain ⟨y0, y1, m, _, hl, h0, h1⟩ := trod_struct2 Try.underlying41 h
  have c1 : Try.prog.cellsOf 3 = 1 := by kernel_rfl
  have c3 : Try.prog.cellsOf 32 = 1 := by kernel_rfl
  have c5 : Try.prog.cellsOf 41 = 2 := by kernel_rfl
  rw [c5] at hl
  simp only [c1] at h0
  simp only [c3] at h1
  obtain ⟨a, e0, _, w0⟩ := DataW.trod_int Try.underlying3 h0
  obtain ⟨A, n, c, l, e1, hnc, hcm, hln, hs⟩ := open_gints Try.underlying32 Try.underlying3 c1 h1
  exact ⟨⟨a, A, n, c, l⟩, glist2 hl e0 e1, ⟨hln, hnc, hcm, hs⟩⟩
theorem open_gps {r : Reach} {base : Nat} {v : Value} {d : DataW H} {ps : List MemPlace}
    (hv : Value.okWide Try.prog W r base 22 v) (h : DataW.Trod enc Try.prog W 0 (fun _ => true) true 22 v d ps) :
    ∃ A n c, ∃ l : List Gp, v = .slice A n c ∧ SeesG W A n c l := by
  obtain ⟨A, n, c, l, e, hnc, hcm, hln, hok, hs⟩ := open_rows (f := gpc) (sz := 2) (ok := okGp W) Try.underlying22 (by kernel_rfl) (by decide) (fun _ _ => rfl) (fun n cs x h => trod_gp h) hv h
  exact ⟨A, n, c, l, e, hln, hnc, hcm, hs, hok⟩
end
end Go.Proofs.Ytglhgdkghddcaaa
