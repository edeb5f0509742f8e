/- What the frame gives of acts. -/
import Derived.Test.YtjlpccdlpgkgoaaQeH
import Derived.Test.YtjlpccdlpgkgoaaCardW
import Derived.Test.YtjlpccdlpgkgoaaBase
import Derived.Deep.Slices
namespace Go.Proofs.Ytjlpccdlpgkgoaa
set_option linter.unusedVariables false
open Go Go.RowKit Go.Deep Go.ChangeShapes Go.WideShapes Go.ChangeAt BitM
section
variable {H : Type} {enc : TypeId × Value → H} {W : World}
set_option maxRecDepth 100000 in
theorem trod_card {sp : Nat → Bool} {held : Bool} {n : Nat} {cs : List Value} {x : DataW H × List MemPlace} (h : DataW.trod enc Try.prog W 0 sp held n 32 cs = some x) :
    ∃ (id ver : Int) (lab : BitVec 32) (f : List V3), cs = ccells id ver (lab.toNat : Int) f ∧ f.length = 8 := by
  obtain ⟨y0, y1, y2, y3, m, _, hl, h0, h1, h2, h3⟩ := Go.Joins.trod_struct4 Try.underlying32 h
  have c1 : Try.prog.cellsOf 3 = 1 := by kernel_rfl
  have c2 : Try.prog.cellsOf 27 = 1 := by kernel_rfl
  have c8 : Try.prog.cellsOf 30 = 24 := by kernel_rfl
  have c27 : Try.prog.cellsOf 32 = 27 := by kernel_rfl
  rw [c27] at hl
  simp only [c1] at h0 h1
  simp only [c2] at h2
  simp only [c8] at h3
  obtain ⟨a, e0, _, w0⟩ := DataW.trod_int Try.underlying3 h0
  obtain ⟨b, e1, _, w1⟩ := DataW.trod_int Try.underlying3 h1
  obtain ⟨c, e2, _, w2⟩ := DataW.trod_int Try.underlying27 h2
  obtain ⟨f, e3, hf8, hok⟩ := trod_fields h3
  obtain ⟨x, rfl⟩ := u32_wf w2
  refine ⟨a, b, x, f, ?_, hf8⟩
  have e4 : cs.take 3 = [.int .i64 a, .int .i64 b, .int .u32 (x.toNat : Int)] := list3 (by rw [List.length_take, hl]; rfl) (by simpa [List.take_take, List.drop_take] using e0) (by simpa [List.take_take, List.drop_take] using e1) (by simpa [List.take_take, List.drop_take] using e2)
  rw [← List.take_append_drop 3 cs, e4]
  unfold ccells
  rw [← e3, List.take_of_length_le (by rw [List.length_drop, hl]; omega)]
set_option maxRecDepth 100000 in
theorem trod_patch {sp : Nat → Bool} {held : Bool} {n : Nat} {cs : List Value} {x : DataW H × List MemPlace} (h : DataW.trod enc Try.prog W 0 sp held n 34 cs = some x) :
    ∃ (m lab : BitVec 32) (f : List V3), cs = pcells (m.toNat : Int) (lab.toNat : Int) f ∧ f.length = 8 := by
  obtain ⟨y0, y1, y2, m, _, hl, h0, h1, h2⟩ := Go.Deep.trod_struct3 Try.underlying34 h
  have c2 : Try.prog.cellsOf 27 = 1 := by kernel_rfl
  have c8 : Try.prog.cellsOf 30 = 24 := by kernel_rfl
  have c26 : Try.prog.cellsOf 34 = 26 := by kernel_rfl
  rw [c26] at hl
  simp only [c2] at h0 h1
  simp only [c8] at h2
  obtain ⟨a, e0, _, w0⟩ := DataW.trod_int Try.underlying27 h0
  obtain ⟨b, e1, _, w1⟩ := DataW.trod_int Try.underlying27 h1
  obtain ⟨f, e3, hf8, hok⟩ := trod_fields h2
  obtain ⟨x, rfl⟩ := u32_wf w0
  obtain ⟨y, rfl⟩ := u32_wf w1
  refine ⟨x, y, f, ?_, hf8⟩
  have e4 : cs.take 2 = [.int .u32 (x.toNat : Int), .int .u32 (y.toNat : Int)] := list2 (by rw [List.length_take, hl]; rfl) (by simpa [List.take_take, List.drop_take] using e0) (by simpa [List.take_take, List.drop_take] using e1)
  rw [← List.take_append_drop 2 cs, e4]
  unfold pcells
  rw [← e3, List.take_of_length_le (by rw [List.length_drop, hl]; omega)]
set_option maxRecDepth 100000 in
theorem trod_act {sp : Nat → Bool} {held : Bool} {n : Nat} {cs : List Value} {x : DataW H × List MemPlace} (h : DataW.trod enc Try.prog W 0 sp held n 36 cs = some x) : ∃ v : Ac, cs = acc v ∧ (v.2.2.2.2.1.length = 8 ∧ v.2.2.2.2.2.2.2.length = 8) := by
  obtain ⟨y0, y1, y2, m, _, hl, h0, h1, h2⟩ := Go.Deep.trod_struct3 Try.underlying36 h
  have c1 : Try.prog.cellsOf 3 = 1 := by kernel_rfl
  have c27 : Try.prog.cellsOf 32 = 27 := by kernel_rfl
  have c26 : Try.prog.cellsOf 34 = 26 := by kernel_rfl
  have c54 : Try.prog.cellsOf 36 = 54 := by kernel_rfl
  rw [c54] at hl
  simp only [c1] at h0
  simp only [c27] at h1
  simp only [c26] at h2
  obtain ⟨a, e0, _, w0⟩ := DataW.trod_int Try.underlying3 h0
  obtain ⟨id, ver, lab, cf, e1, hc8⟩ := trod_card h1
  obtain ⟨pm, pl, f, e2, hp8⟩ := trod_patch h2
  refine ⟨(a, id, ver, lab, cf, pm, pl, f), ?_, hc8, hp8⟩
  have e4 : cs = cs.take 1 ++ ((cs.drop 1).take 27 ++ (cs.drop 28).take 26) := by
    rw [List.take_of_length_le (i := 26) (l := cs.drop 28) (by rw [List.length_drop, hl]; decide), show cs.drop 28 = (cs.drop 1).drop 27 by rw [List.drop_drop], List.take_append_drop, List.take_append_drop]
  rw [List.drop_zero] at e0
  rw [e4, e0, e1, e2]
  rfl
set_option maxRecDepth 100000 in
theorem open_acts {r : Reach} {base : Nat} {v : Value} {d : DataW H} {ps : List MemPlace}
    (hv : Value.okWide Try.prog W r base 22 v) (h : DataW.Trod enc Try.prog W 0 (fun _ => true) true 22 v d ps) :
    ∃ A n c, ∃ l : List Ac, v = .slice A n c ∧ n ≤ c ∧ c ≤ maxLen ∧ l.length = n ∧ WholeA l ∧ Sees W W.heap.size A (acs l) := by
  obtain ⟨A, n, c, rfl⟩ := okWide_slice Try.underlying22 hv
  obtain ⟨fuel, hf⟩ := h
  have hlt := DataW.trod_lt fuel _ _ _ hf
  have c54 : Try.prog.cellsOf 36 = 54 := by kernel_rfl
  rcases open_slice Try.underlying22 hf with ⟨hcs, hx⟩ | ⟨x, n, c, m, fu, D, Pl, hcs, hb, hl, hm, hmm, hx, hcell⟩
  · simp [Value.cells] at hcs
    obtain ⟨rfl, rfl, rfl⟩ := hcs
    exact ⟨none, 0, 0, [], rfl, Nat.le_refl _, by simp [maxLen], rfl, (fun _ h => by cases h), Sees.nil_⟩
  · simp [Value.cells] at hcs
    obtain ⟨rfl, rfl, rfl⟩ := hcs
    simp only [if_true] at hmm
    subst hmm
    have each : ∀ i, i < n → ∃ z : Ac, (∀ j u, (acc z)[j]? = some u → W.cell? (x.add (i * 54 + j)) = some u) ∧ (z.2.2.2.2.1.length = 8 ∧ z.2.2.2.2.2.2.2.length = 8) := fun i hi => by
      obtain ⟨cs', h1, h2⟩ := hcell i (by omega)
      obtain ⟨z, rfl, ok⟩ := trod_act h2
      refine ⟨z, fun j u hj => ?_, ok⟩
      rw [c54] at h1
      obtain ⟨_, hlen, hc⟩ := World.cells?_some h1
      have hj5 : j < 54 := by
        have := (List.getElem?_eq_some_iff.1 hj).1
        rwa [acc_len ok] at this
      have e1 := hc j hj5
      rw [add_add] at e1
      rw [e1, hj]
    obtain ⟨f, hf2⟩ := choose_lt (α := Ac) each
    have hlen : ((List.range n).map f).length = n := by simp
    have hwh : WholeA ((List.range n).map f) := fun z hz => by
      obtain ⟨i, hi, rfl⟩ := List.mem_map.1 hz
      exact (hf2 i (List.mem_range.1 hi)).2
    refine ⟨some x, n, m, (List.range n).map f, rfl, hl, hm, hlen, hwh, fun hpos => ?_⟩
    rw [acs_len hwh, hlen] at hpos
    have h0 := (hf2 0 (by omega)).1 0 _ rfl
    obtain ⟨b, off, spot⟩ := x
    have hspot : spot = none := by simpa [Addr.add] using World.cell?_spot h0
    subst hspot
    refine ⟨b, off, rfl, ?_, fun j hj => ?_⟩
    · simp only [Prod.mk.injEq] at hx
      obtain ⟨_, rfl⟩ := hx
      have := hlt (.cell b off) (by simp [MemPlace.row, c54]; omega)
      simpa [MemPlace.block] using this
    · have hj2 := hj
      rw [acs_len hwh, hlen] at hj2
      have hk : j / 54 < ((List.range n).map f).length := by rw [hlen]; omega
      have h3 : (acc ((List.range n).map f)[j / 54])[j % 54]? = some (acs ((List.range n).map f))[j] := by
        have h4 := fm_get (c := acc) (n := 54) ((List.range n).map f) (j / 54) hk (fun a ha => acc_len (hwh a ha))
        rw [← h4, List.getElem?_take, if_pos (by omega), List.getElem?_drop, show j / 54 * 54 + j % 54 = j by omega]
        exact List.getElem?_eq_getElem hj
      have h5 := (hf2 (j / 54) (by omega)).1 (j % 54) _ (by simpa using h3)
      rw [show j / 54 * 54 + j % 54 = j by omega, add_at] at h5
      exact h5
theorem open_bool1 {r : Reach} {base : Nat} {v : Value} {d : DataW H} {ps : List MemPlace}
    (hv : Value.okWide Try.prog W r base 4 v) (h : DataW.Trod enc Try.prog W 0 (fun _ => true) true 4 v d ps) : ∃ b, v = .bool b := okWide_bool Try.underlying4 hv
end
end Go.Proofs.Ytjlpccdlpgkgoaa
