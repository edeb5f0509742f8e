/- What the frame gives of an edit. -/
import Derived.Test.YtnhcjadkbogioaaJ31
import Derived.Test.YtnhcjadkbogioaaJ15
import Derived.Test.YtnhcjadkbogioaaJ23
import Derived.Test.YtnhcjadkbogioaaJ32
import Derived.ChangeSame
set_option maxRecDepth 100000
set_option linter.unusedVariables false
namespace Go.Proofs.Ytnhcjadkbogioaa
open Go Go.RowKit BitM
section
variable {H : Type} {enc : TypeId × Value → H} {W : World}
theorem trod_patch {sp : Nat → Bool} {held : Bool} {n : Nat} {cs : List Value} {x : DataW H × List MemPlace} (h : DataW.trod enc Try.prog W 0 sp held n 27 cs = some x) : ∃ (m lab : BitVec 32) (f : List V3), cs = pcells (m.toNat : Int) (lab.toNat : Int) f ∧ f.length = 8 ∧ (∀ v ∈ f, okV v) := by
  obtain ⟨y0, y1, y2, m, _, hl, h0, h1, h2⟩ := Go.Deep.trod_struct3 Try.underlying27 h
  have c2 : Try.prog.cellsOf 22 = 1 := by kernel_rfl
  have c8 : Try.prog.cellsOf 25 = 24 := by kernel_rfl
  have c26 : Try.prog.cellsOf 27 = 26 := by kernel_rfl
  rw [c26] at hl
  simp only [c2] at h0 h1
  simp only [c8] at h2
  obtain ⟨a, e0, _, w0⟩ := DataW.trod_int Try.underlying22 h0
  obtain ⟨b, e1, _, w1⟩ := DataW.trod_int Try.underlying22 h1
  obtain ⟨f, e3, hf8, hok⟩ := trod_fields h2
  obtain ⟨x, rfl⟩ := u32_wf w0
  obtain ⟨y, rfl⟩ := u32_wf w1
  refine ⟨x, y, f, ?_, hf8, hok⟩
  have e4 : cs.take 2 = [.int .u32 (x.toNat : Int), .int .u32 (y.toNat : Int)] := list2 (by rw [List.length_take, hl]; rfl) (by simpa [List.take_take, List.drop_take] using e0) (by simpa [List.take_take, List.drop_take] using e1)
  rw [← List.take_append_drop 2 cs, e4]
  unfold pcells
  rw [← e3, List.take_of_length_le (by rw [List.length_drop, hl]; omega)]
end
end Go.Proofs.Ytnhcjadkbogioaa
namespace Go.Proofs.Ytnhcjadkbogioaa
set_option linter.unusedSimpArgs false
open Go Go.RowKit Go.Deep Go.ChangeShapes Go.WideShapes Go.ChangeAt BitM
section
variable {H : Type} {enc : TypeId × Value → H} {W : World}
theorem trod_nodes {fuel : Nat} {cs : List Value} {x : DataW H × List MemPlace} (hf : DataW.trod enc Try.prog W 0 (fun _ => true) true fuel 30 cs = some x) :
    ∃ A n c, ∃ l : List Nd, cs = [.slice A n c] ∧ n ≤ c ∧ c ≤ maxLen ∧ l.length = n ∧ (∀ z ∈ l, okNd z) ∧ Sees W W.heap.size A (ncs l) := by
  have hlt := DataW.trod_lt fuel _ _ _ hf
  have c5 : Try.prog.cellsOf 76 = 5 := by kernel_rfl
  rcases open_slice Try.underlying30 hf with ⟨hcs, hx⟩ | ⟨x, n, c, m, fu, D, Pl, hcs, hb, hl, hm, hmm, hx, hcell⟩
  · exact ⟨none, 0, 0, [], hcs, Nat.le_refl _, by simp [maxLen], rfl, by simp, Sees.nil_⟩
  · simp only [if_true] at hmm
    subst hmm
    have each : ∀ i, i < n → ∃ z : Nd, (∀ j u, (ncells z)[j]? = some u → W.cell? (x.add (i * 5 + j)) = some u) ∧ okNd z := fun i hi => by
      obtain ⟨cs', h1, h2⟩ := hcell i (by omega)
      obtain ⟨z, rfl, ok⟩ := trod_node h2
      refine ⟨z, fun j u hj => ?_, ok⟩
      rw [c5] at h1
      obtain ⟨_, hlen, hc⟩ := World.cells?_some h1
      have hj5 : j < 5 := by
        have := (List.getElem?_eq_some_iff.1 hj).1
        rwa [ncells_len] at this
      have e1 := hc j hj5
      rw [add_add] at e1
      rw [e1, hj]
    obtain ⟨f, hf2⟩ := choose_lt (α := Nd) each
    have hlen : ((List.range n).map f).length = n := by simp
    refine ⟨some x, n, m, (List.range n).map f, hcs, hl, hm, hlen, fun z hz => ?_, fun hpos => ?_⟩
    · obtain ⟨i, hi, rfl⟩ := List.mem_map.1 hz
      exact (hf2 i (List.mem_range.1 hi)).2
    · rw [ncs_len, hlen] at hpos
      have h0 := (hf2 0 (by omega)).1 0 _ rfl
      obtain ⟨b, off, spot⟩ := x
      have hspot : spot = none := by simpa [Addr.add] using World.cell?_spot h0
      subst hspot
      refine ⟨b, off, rfl, ?_, fun j hj => ?_⟩
      · rw [hx] at hlt
        have := hlt (.cell b off) (by simp [MemPlace.row, c5]; omega)
        simpa [MemPlace.block] using this
      · have hj2 := hj
        rw [ncs_len, hlen] at hj2
        have hk : j / 5 < ((List.range n).map f).length := by rw [hlen]; omega
        have h3 : (ncells ((List.range n).map f)[j / 5])[j % 5]? = some (ncs ((List.range n).map f))[j] := by
          have h4 := ncs_get _ (j / 5) hk
          rw [← h4, List.getElem?_take, if_pos (by omega), List.getElem?_drop, show 5 * (j / 5) + j % 5 = j by omega, List.getElem?_eq_getElem hj]
        have h5 := (hf2 (j / 5) (by omega)).1 (j % 5) _ (by simpa using h3)
        rw [show j / 5 * 5 + j % 5 = j by omega, add_at] at h5
        exact h5
theorem trod_struct10 {P : Program} {w : World} {base : Nat} {spare : Nat → Bool} {held : Bool} {t : TypeId} {f0 f1 f2 f3 f4 f5 f6 f7 f8 f9 : Field} {fuel : Nat} {cs : List Value} {x : DataW H × List MemPlace} (ht : P.underlying t = some (.struct #[f0, f1, f2, f3, f4, f5, f6, f7, f8, f9])) (h : DataW.trod enc P w base spare held fuel t cs = some x) :
    ∃ y0 y1 y2 y3 y4 y5 y6 y7 y8 y9 n, cs.length = P.cellsOf t ∧ DataW.trod enc P w base spare held n f0.type ((cs.drop f0.offset).take (P.cellsOf f0.type)) = some y0 ∧ DataW.trod enc P w base spare held n f1.type ((cs.drop f1.offset).take (P.cellsOf f1.type)) = some y1 ∧ DataW.trod enc P w base spare held n f2.type ((cs.drop f2.offset).take (P.cellsOf f2.type)) = some y2 ∧ DataW.trod enc P w base spare held n f3.type ((cs.drop f3.offset).take (P.cellsOf f3.type)) = some y3 ∧ DataW.trod enc P w base spare held n f4.type ((cs.drop f4.offset).take (P.cellsOf f4.type)) = some y4 ∧ DataW.trod enc P w base spare held n f5.type ((cs.drop f5.offset).take (P.cellsOf f5.type)) = some y5 ∧ DataW.trod enc P w base spare held n f6.type ((cs.drop f6.offset).take (P.cellsOf f6.type)) = some y6 ∧ DataW.trod enc P w base spare held n f7.type ((cs.drop f7.offset).take (P.cellsOf f7.type)) = some y7 ∧ DataW.trod enc P w base spare held n f8.type ((cs.drop f8.offset).take (P.cellsOf f8.type)) = some y8 ∧ DataW.trod enc P w base spare held n f9.type ((cs.drop f9.offset).take (P.cellsOf f9.type)) = some y9 := by
  obtain ⟨xs, n, _, rfl, hl, hlen, hf⟩ := DataW.trod_struct ht h
  match xs, hlen with
  | [y0, y1, y2, y3, y4, y5, y6, y7, y8, y9], _ => exact ⟨y0, y1, y2, y3, y4, y5, y6, y7, y8, y9, n, hl, by simpa using hf 0 f0 rfl, by simpa using hf 1 f1 rfl, by simpa using hf 2 f2 rfl, by simpa using hf 3 f3 rfl, by simpa using hf 4 f4 rfl, by simpa using hf 5 f5 rfl, by simpa using hf 6 f6 rfl, by simpa using hf 7 f7 rfl, by simpa using hf 8 f8 rfl, by simpa using hf 9 f9 rfl⟩
theorem trod_edit {sp : Nat → Bool} {held : Bool} {n : Nat} {cs : List Value} {x : DataW H × List MemPlace} (h : DataW.trod enc Try.prog W 0 sp held n 29 cs = some x) : ∃ (k id gr : Int) (m lab : BitVec 32) (f : List V3), cs = ecells k id gr (m.toNat : Int) (lab.toNat : Int) f ∧ f.length = 8 := by
  obtain ⟨y0, y1, y2, y3, m, _, hl, h0, h1, h2, h3⟩ := Go.Joins.trod_struct4 Try.underlying29 h
  have c1 : Try.prog.cellsOf 3 = 1 := by kernel_rfl
  have c26 : Try.prog.cellsOf 27 = 26 := by kernel_rfl
  have c29 : Try.prog.cellsOf 29 = 29 := by kernel_rfl
  rw [c29] at hl
  simp only [c1] at h0 h1 h2
  simp only [c26] at h3
  obtain ⟨a, e0, _, w0⟩ := DataW.trod_int Try.underlying3 h0
  obtain ⟨b, e1, _, w1⟩ := DataW.trod_int Try.underlying3 h1
  obtain ⟨c, e2, _, w2⟩ := DataW.trod_int Try.underlying3 h2
  obtain ⟨x, y, f, e3, hf8, hok⟩ := trod_patch h3
  refine ⟨a, b, c, x, y, f, ?_, hf8⟩
  have e4 : cs.take 3 = [.int .i64 a, .int .i64 b, .int .i64 c] := list3 (by rw [List.length_take, hl]; rfl) (by simpa [List.take_take, List.drop_take] using e0) (by simpa [List.take_take, List.drop_take] using e1) (by simpa [List.take_take, List.drop_take] using e2)
  rw [← List.take_append_drop 3 cs, e4]
  unfold ecells
  rw [← e3, List.take_of_length_le (by rw [List.length_drop, hl]; omega)]
theorem piece_at {l p : List Value} {a b n : Nat} (h : (l.drop a).take b = p) (hn : n = a + b) : l.drop a = p ++ l.drop n := by
  subst h hn
  rw [← List.drop_drop, List.take_append_drop]
theorem trod_cm {fuel : Nat} {cs : List Value} {x : DataW H × List MemPlace} (h : DataW.trod enc Try.prog W 0 (fun _ => true) true fuel 32 cs = some x) : ∃ r : Cm, cs = cmc r ∧ okCm W r := by
  obtain ⟨y0, y1, y2, y3, y4, y5, y6, y7, y8, y9, n, hl, g0, g1, g2, g3, g4, g5, g6, g7, g8, g9⟩ := trod_struct10 Try.underlying32 h
  have c1 : Try.prog.cellsOf 3 = 1 := by kernel_rfl
  have c2 : Try.prog.cellsOf 29 = 29 := by kernel_rfl
  have c5 : Try.prog.cellsOf 27 = 26 := by kernel_rfl
  have c3 : Try.prog.cellsOf 30 = 1 := by kernel_rfl
  have c4 : Try.prog.cellsOf 22 = 1 := by kernel_rfl
  have c10 : Try.prog.cellsOf 32 = 63 := by kernel_rfl
  rw [c10] at hl
  simp only [c1] at g0 g2 g3 g4 g5 g6
  simp only [c2] at g1
  simp only [c5] at g7
  simp only [c3] at g8
  simp only [c4] at g9
  obtain ⟨a0, e0, _, _⟩ := DataW.trod_int Try.underlying3 g0
  obtain ⟨ek, eid, eg, em, el, ef, e1, hef⟩ := trod_edit g1
  obtain ⟨a2, e2, _, _⟩ := DataW.trod_int Try.underlying3 g2
  obtain ⟨a3, e3, _, _⟩ := DataW.trod_int Try.underlying3 g3
  obtain ⟨a4, e4, _, _⟩ := DataW.trod_int Try.underlying3 g4
  obtain ⟨a5, e5, _, _⟩ := DataW.trod_int Try.underlying3 g5
  obtain ⟨a6, e6, _, _⟩ := DataW.trod_int Try.underlying3 g6
  obtain ⟨pm, pl, pf, e7, hpf, _⟩ := trod_patch g7
  obtain ⟨A, nn, c, l, e8, hnc, hcm, hln, _, hs⟩ := trod_nodes g8
  obtain ⟨a9, e9, _, w9⟩ := DataW.trod_int Try.underlying22 g9
  obtain ⟨m, rfl⟩ := u32_wf w9
  refine ⟨⟨a0, ek, eid, eg, em, el, ef, a2, a3, a4, a5, a6, pm, pl, pf, A, nn, c, l, m⟩, ?_, ⟨hef, hpf, hln, hnc, hcm, hs⟩⟩
  have q0 := piece_at (n := 1) e0 rfl
  have q1 := piece_at (n := 30) e1 rfl
  have q2 := piece_at (n := 31) e2 rfl
  have q3 := piece_at (n := 32) e3 rfl
  have q4 := piece_at (n := 33) e4 rfl
  have q5 := piece_at (n := 34) e5 rfl
  have q6 := piece_at (n := 35) e6 rfl
  have q7 := piece_at (n := 61) e7 rfl
  have q8 := piece_at (n := 62) e8 rfl
  have q9 := piece_at (n := 63) e9 rfl
  have q10 : cs.drop 63 = [] := List.drop_of_length_le (by rw [hl]; exact Nat.le_refl _)
  rw [q1, q2, q3, q4, q5, q6, q7, q8, q9, q10, List.drop_zero] at q0
  rw [q0]
  rfl
theorem open_cmd {r : Reach} {base : Nat} {v : Value} {d : DataW H} {ps : List MemPlace}
    (hv : Value.okWide Try.prog W r base 32 v) (h : DataW.Trod enc Try.prog W 0 (fun _ => true) true 32 v d ps) :
    ∃ x : Cm, v = .agg (cmc x).toArray ∧ okCm W x := by
  simp only [Value.okWide, Try.underlying32] at hv
  obtain ⟨cs, rfl, hrest⟩ := hv
  obtain ⟨fuel, hf⟩ := h
  obtain ⟨x, e, ok⟩ := trod_cm hf
  refine ⟨x, ?_, ok⟩
  congr 1
  apply Array.toList_inj.1
  simpa [Value.cells] using e
end
end Go.Proofs.Ytnhcjadkbogioaa
