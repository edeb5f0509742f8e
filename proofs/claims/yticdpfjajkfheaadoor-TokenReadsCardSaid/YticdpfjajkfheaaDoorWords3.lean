/- A list of pairs of integers that comes in: what the frame gives of it. -/
import Derived.Test.YticdpfjajkfheaaDoorWords2
namespace Go.Proofs.YticdpfjajkfheaaDoor
set_option linter.unusedVariables false
open Go.ChangeShapes Go.WideShapes Go.ChangeAt Go.RowKit

/-- A slice of pairs, seen as a list. -/
def SeesP (w : World) (B : Nat) (A : Option Addr) (l : List (Int × Int)) : Prop :=
  0 < l.length → ∃ b o, A = some ⟨b, o, none⟩ ∧ b < B ∧ ∀ j (hj : j < l.length), w.cell? ⟨b, o + j * 2, none⟩ = some (.int .i64 l[j].1) ∧ w.cell? ⟨b, o + j * 2 + 1, none⟩ = some (.int .i64 l[j].2)
theorem SeesP.below {w w' : World} {B : Nat} {A : Option Addr} {l : List (Int × Int)} (h : SeesP w B A l) (hb : Below B w w') : SeesP w' B A l := fun h0 => by
  obtain ⟨b, o, e, hlt, hc⟩ := h h0
  exact ⟨b, o, e, hlt, fun j hj => ⟨(hb.cell (p := ⟨b, o + j * 2, none⟩) hlt).trans (hc j hj).1, (hb.cell (p := ⟨b, o + j * 2 + 1, none⟩) hlt).trans (hc j hj).2⟩⟩

/-- The pair that a datum is. -/
def pairOf {H : Type} : DataW H → Int × Int
  | .agg [.lit (.int _ a), .lit (.int _ b)] => (a, b)
  | _ => (0, 0)
theorem open_pairs {H : Type} {enc : TypeId × Value → H} {P : Program} {t e : TypeId} {f0 f1 : Field} {W : World} {v : Value} {d : DataW H} {ps : List MemPlace}
    (ht : P.underlying t = some (.slice e)) (hs : P.underlying e = some (.struct #[f0, f1])) (hC : P.cellsOf e = 2)
    (h0 : P.underlying f0.type = some (.int .i64)) (o0 : f0.offset = 0) (c0 : P.cellsOf f0.type = 1) (h1 : P.underlying f1.type = some (.int .i64)) (o1 : f1.offset = 1) (c1 : P.cellsOf f1.type = 1)
    {r : Reach} {base : Nat} (hv : Value.okWide P W r base t v) (h : DataW.Trod enc P W 0 (fun _ => true) true t v d ps) :
    ∃ A n c, ∃ l : List (Int × Int), v = .slice A n c ∧ n ≤ c ∧ c ≤ maxLen ∧ l.length = n ∧ SeesP W W.heap.size A l := by
  obtain ⟨A, n, c, rfl⟩ := okWide_slice ht hv
  obtain ⟨fuel, hf⟩ := h
  have hlt := DataW.trod_lt fuel _ _ _ hf
  rcases DataW.trod_slice ht hf with ⟨hcs, hx⟩ | ⟨x, len, cap, elems, rest, m, _, hcs, hx, hb, hl, hm, hlen, hel, _⟩
  · simp [Value.cells] at hcs
    obtain ⟨rfl, rfl, rfl⟩ := hcs
    exact ⟨none, 0, 0, [], rfl, Nat.le_refl _, by simp [maxLen], rfl, fun h => absurd h (by simp)⟩
  · simp [Value.cells] at hcs
    obtain ⟨rfl, rfl, rfl⟩ := hcs
    refine ⟨some x, n, c, elems.map (fun y => pairOf y.1), rfl, hl, hm, by simp [hlen], fun hpos => ?_⟩
    have each : ∀ j (hj : j < n), ∃ a b, elems[j]? = some (.agg [.lit (.int .i64 a), .lit (.int .i64 b)], []) ∧ W.cell? ((x.add (j * 2)).add 0) = some (.int .i64 a) ∧ W.cell? ((x.add (j * 2)).add 1) = some (.int .i64 b) := by
      intro j hj
      have hE := hel j hj
      have hg : elems[j]? = some (elems[j]'(by omega)) := List.getElem?_eq_getElem (by omega)
      rw [hg, hC, Option.bind_eq_some_iff] at hE
      obtain ⟨cs', hcs', hy⟩ := hE
      obtain ⟨y0, y1, k, hxx, hcl, t0, t1⟩ := trod_struct2 hs hy
      rw [o0, c0] at t0
      rw [o1, c1] at t1
      obtain ⟨a, e0, ex0, _⟩ := DataW.trod_int h0 t0
      obtain ⟨b, e1, ex1, _⟩ := DataW.trod_int h1 t1
      rw [hC] at hcl
      match cs', hcl with
      | [u0, u1], _ =>
        simp at e0 e1
        subst e0 e1
        have hc := World.cells?_some hcs'
        exact ⟨a, b, by rw [hg, hxx, ex0, ex1]; rfl, hc.2.2 0 (by omega), hc.2.2 1 (by omega)⟩
    have hpn : 0 < n := by simpa [hlen] using hpos
    obtain ⟨a0, b0, _, hz0, _⟩ := each 0 hpn
    obtain ⟨bk, off, spot⟩ := x
    have hspot : spot = none := by simpa [Addr.add] using World.cell?_spot hz0
    subst hspot
    refine ⟨bk, off, rfl, ?_, fun j hj => ?_⟩
    · simp only [Prod.mk.injEq] at hx
      obtain ⟨_, rfl⟩ := hx
      have := hlt (.cell bk off) (by simp [MemPlace.row, hC]; omega)
      simpa [MemPlace.block] using this
    · simp [hlen] at hj
      obtain ⟨a, b, he, ha, hb'⟩ := each j hj
      rw [add_at, add_at, Nat.add_zero] at ha
      rw [add_at, add_at] at hb'
      have hg : elems[j]? = some (elems[j]'(by omega)) := List.getElem?_eq_getElem (by omega)
      rw [hg, Option.some.injEq] at he
      rw [ha, hb']
      simp [he, pairOf]
end Go.Proofs.YticdpfjajkfheaaDoor
