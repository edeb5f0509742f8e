/- EvalJoins: what is joined of filters, evaluated, is what is asked of its parts; for every input. No condition. -/
import Derived.Test.YtfoppjgjljellaaCardG
import Derived.Test.YtfoppjgjljellaaCardI
import Derived.Lib.SmallJoins
import Derived.Deep.Strs
import Derived.Test.YtfoppjgjljellaaPrdM
import Derived.Deep.Slices
import Derived.Test.YtfoppjgjljellaaWords
import Derived.Test.YtfoppjgjljellaaEvJ
import Derived.ProofKit
import Derived.OpenShut
import Derived.Shelf.Vars
import Derived.Deep.DeepHandedRow
import Derived.Stop.Joined
/- Cards: a new card: what it returns. -/
namespace Go.Proofs.Ytfoppjgjljellaa
set_option linter.unusedVariables false
open Go Go.RowKit BitM

theorem zcid (id : Int) : (ccells id 0 0 zeros).toArray = #[Value.int .i64 id, .int .i64 0, .int .u32 0, .int .i64 0, .int .i64 0, .string { data := #[] }, .int .i64 0, .int .i64 0, .string { data := #[] }, .int .i64 0, .int .i64 0, .string { data := #[] }, .int .i64 0, .int .i64 0, .string { data := #[] }, .int .i64 0, .int .i64 0, .string { data := #[] }, .int .i64 0, .int .i64 0, .string { data := #[] }, .int .i64 0, .int .i64 0, .string { data := #[] }, .int .i64 0, .int .i64 0, .string { data := #[] }] := rfl

end Go.Proofs.Ytfoppjgjljellaa

/- CardMerges: whether the layer is awake. -/
namespace Go.Proofs.Ytfoppjgjljellaa
set_option linter.unusedVariables false
open Go Go.RowKit BitM

/-- The patch that awake writes. -/
def awf : List V3 := (1, 7, ⟨#[]⟩) :: List.replicate 7 zv
theorem aw_p : #[Value.int .u32 1, .int .u32 0, .int .i64 1, .int .i64 7, .string { data := #[] }, .int .i64 0, .int .i64 0, .string { data := #[] }, .int .i64 0, .int .i64 0, .string { data := #[] }, .int .i64 0, .int .i64 0, .string { data := #[] }, .int .i64 0, .int .i64 0, .string { data := #[] }, .int .i64 0, .int .i64 0, .string { data := #[] }, .int .i64 0, .int .i64 0, .string { data := #[] }, .int .i64 0, .int .i64 0, .string { data := #[] }] = (pcells (((1#32 : BitVec 32).toNat : Nat) : Int) 0 awf).toArray := rfl
theorem aw_mix : mix (fun i => has 1#32 (i : Int)) awf zeros = awf := by decide
theorem aw_mix2 : mix (fun i => has 2#32 (i : Int)) awf zeros = zeros := by decide
theorem aw_zc : (ccells 1 1 0 zeros).toArray = #[Value.int .i64 1, .int .i64 1, .int .u32 0, .int .i64 0, .int .i64 0, .string { data := #[] }, .int .i64 0, .int .i64 0, .string { data := #[] }, .int .i64 0, .int .i64 0, .string { data := #[] }, .int .i64 0, .int .i64 0, .string { data := #[] }, .int .i64 0, .int .i64 0, .string { data := #[] }, .int .i64 0, .int .i64 0, .string { data := #[] }, .int .i64 0, .int .i64 0, .string { data := #[] }, .int .i64 0, .int .i64 0, .string { data := #[] }] := rfl

end Go.Proofs.Ytfoppjgjljellaa

/- What the frame gives of a value, of fields, of a card, of a patch. -/
namespace Go.Proofs.Ytfoppjgjljellaa
set_option linter.unusedVariables false
open Go Go.RowKit BitM

section
variable {H : Type} {enc : TypeId × Value → H} {W : World}

theorem list3 {α : Type} {l : List α} {a b c : α} (hl : l.length = 3) (h0 : (l.drop 0).take 1 = [a]) (h1 : (l.drop 1).take 1 = [b]) (h2 : (l.drop 2).take 1 = [c]) : l = [a, b, c] := by
  match l, hl with
  | [x, y, z], _ => simp at h0 h1 h2; rw [h0, h1, h2]
/-- What a number, a text in an input is. -/
def okV (v : V3) : Prop := (-9223372036854775808 ≤ v.1 ∧ v.1 ≤ 9223372036854775807) ∧ (-9223372036854775808 ≤ v.2.1 ∧ v.2.1 ≤ 9223372036854775807) ∧ v.2.2.size ≤ maxLen
theorem trod_val {sp : Nat → Bool} {held : Bool} {n : Nat} {cs : List Value} {x : DataW H × List MemPlace} (h : DataW.trod enc Try.prog W 0 sp held n 25 cs = some x) : ∃ v : V3, cs = vcells v ∧ okV v := by
  obtain ⟨y0, y1, y2, m, _, hl, h0, h1, h2⟩ := Go.Deep.trod_struct3 Try.underlying25 h
  have c1 : Try.prog.cellsOf 3 = 1 := by kernel_rfl
  have c2 : Try.prog.cellsOf 9 = 1 := by kernel_rfl
  have c3 : Try.prog.cellsOf 25 = 3 := by kernel_rfl
  rw [c3] at hl
  simp only [c1] at h0 h1
  simp only [c2] at h2
  obtain ⟨a, e0, _, w0⟩ := DataW.trod_int Try.underlying3 h0
  obtain ⟨b, e1, _, w1⟩ := DataW.trod_int Try.underlying3 h1
  obtain ⟨s, e2, _, w2⟩ := DataW.trod_string Try.underlying9 h2
  exact ⟨(a, b, s), list3 hl e0 e1 e2, i64_wf w0, i64_wf w1, w2⟩
theorem cut3 : ∀ (l : List Value) (n : Nat), l.length = n * 3 → (∀ i, i < n → ∃ v : V3, (l.drop (i * 3)).take 3 = vcells v ∧ okV v) → ∃ f : List V3, l = fcells f ∧ f.length = n ∧ ∀ v ∈ f, okV v
  | l, 0, hl, _ => ⟨[], List.length_eq_zero_iff.1 (by rw [hl]), rfl, by simp⟩
  | l, n + 1, hl, h => by
    obtain ⟨v, hv, ok⟩ := h 0 (by omega)
    obtain ⟨f, hf, hn, hok⟩ := cut3 (l.drop 3) n (by rw [List.length_drop, hl]; omega) (fun i hi => by
      have := h (i + 1) (by omega)
      rw [List.drop_drop, show 3 + i * 3 = (i + 1) * 3 by omega]
      exact this)
    refine ⟨v :: f, ?_, by simp [hn], ?_⟩
    · rw [fcells_cons, ← hf, ← hv]
      simp
    · intro u hu
      rcases List.mem_cons.1 hu with rfl | hu
      · exact ok
      · exact hok u hu
theorem trod_fields {sp : Nat → Bool} {held : Bool} {n : Nat} {cs : List Value} {x : DataW H × List MemPlace} (h : DataW.trod enc Try.prog W 0 sp held n 26 cs = some x) : ∃ f : List V3, cs = fcells f ∧ f.length = 8 ∧ ∀ v ∈ f, okV v := by
  obtain ⟨xs, m, _, _, hl, hxl, heach⟩ := DataW.trod_array Try.underlying26 h
  have c3 : Try.prog.cellsOf 25 = 3 := by kernel_rfl
  have c8 : Try.prog.cellsOf 26 = 24 := by kernel_rfl
  rw [c8] at hl
  simp only [c3] at heach
  refine cut3 cs 8 hl fun i hi => ?_
  have h1 := heach i hi
  rw [List.getElem?_eq_getElem (by rw [hxl]; exact hi)] at h1
  exact trod_val h1
set_option maxRecDepth 100000 in
theorem open_card {r : Reach} {base : Nat} {v : Value} {d : DataW H} {ps : List MemPlace}
    (hv : Value.okWide Try.prog W r base 28 v) (h : DataW.Trod enc Try.prog W 0 (fun _ => true) true 28 v d ps) :
    ∃ (id ver : Int) (lab : BitVec 32) (f : List V3), v = .agg (ccells id ver (lab.toNat : Int) f).toArray ∧ f.length = 8 ∧ (∀ v ∈ f, okV v) ∧ (-9223372036854775808 ≤ id ∧ id ≤ 9223372036854775807) ∧ (-9223372036854775808 ≤ ver ∧ ver ≤ 9223372036854775807) := by
  simp only [Value.okWide, Try.underlying28] at hv
  obtain ⟨cs, rfl, hrest⟩ := hv
  obtain ⟨fuel, hf⟩ := h
  obtain ⟨y0, y1, y2, y3, m, _, hl, h0, h1, h2, h3⟩ := Go.Joins.trod_struct4 Try.underlying28 hf
  have c1 : Try.prog.cellsOf 3 = 1 := by kernel_rfl
  have c2 : Try.prog.cellsOf 23 = 1 := by kernel_rfl
  have c8 : Try.prog.cellsOf 26 = 24 := by kernel_rfl
  have c27 : Try.prog.cellsOf 28 = 27 := by kernel_rfl
  rw [c27] at hl
  simp only [c1, Value.cells] at h0 h1
  simp only [c2, Value.cells] at h2
  simp only [c8, Value.cells] at h3
  simp only [Value.cells] at hl
  obtain ⟨a, e0, _, w0⟩ := DataW.trod_int Try.underlying3 h0
  obtain ⟨b, e1, _, w1⟩ := DataW.trod_int Try.underlying3 h1
  obtain ⟨c, e2, _, w2⟩ := DataW.trod_int Try.underlying23 h2
  obtain ⟨f, e3, hf8, hok⟩ := trod_fields h3
  obtain ⟨x, rfl⟩ := u32_wf w2
  refine ⟨a, b, x, f, ?_, hf8, hok, i64_wf w0, i64_wf w1⟩
  congr 1
  apply Array.toList_inj.1
  have e4 : cs.toList.take 3 = [.int .i64 a, .int .i64 b, .int .u32 (x.toNat : Int)] := list3 (by rw [List.length_take, hl]; rfl) (by simpa [List.take_take, List.drop_take] using e0) (by simpa [List.take_take, List.drop_take] using e1) (by simpa [List.take_take, List.drop_take] using e2)
  rw [← List.take_append_drop 3 cs.toList, e4]
  unfold ccells
  rw [← e3, List.take_of_length_le (by rw [List.length_drop, hl]; omega)]
theorem list2 {α : Type} {l : List α} {a b : α} (hl : l.length = 2) (h0 : (l.drop 0).take 1 = [a]) (h1 : (l.drop 1).take 1 = [b]) : l = [a, b] := by
  match l, hl with
  | [x, y], _ => simp at h0 h1; rw [h0, h1]
set_option maxRecDepth 100000 in
theorem open_patch {r : Reach} {base : Nat} {v : Value} {d : DataW H} {ps : List MemPlace}
    (hv : Value.okWide Try.prog W r base 46 v) (h : DataW.Trod enc Try.prog W 0 (fun _ => true) true 46 v d ps) :
    ∃ (m lab : BitVec 32) (f : List V3), v = .agg (pcells (m.toNat : Int) (lab.toNat : Int) f).toArray ∧ f.length = 8 ∧ (∀ v ∈ f, okV v) := by
  simp only [Value.okWide, Try.underlying46] at hv
  obtain ⟨cs, rfl, hrest⟩ := hv
  obtain ⟨fuel, hf⟩ := h
  obtain ⟨y0, y1, y2, m, _, hl, h0, h1, h2⟩ := Go.Deep.trod_struct3 Try.underlying46 hf
  have c2 : Try.prog.cellsOf 23 = 1 := by kernel_rfl
  have c8 : Try.prog.cellsOf 26 = 24 := by kernel_rfl
  have c26 : Try.prog.cellsOf 46 = 26 := by kernel_rfl
  rw [c26] at hl
  simp only [c2, Value.cells] at h0 h1
  simp only [c8, Value.cells] at h2
  simp only [Value.cells] at hl
  obtain ⟨a, e0, _, w0⟩ := DataW.trod_int Try.underlying23 h0
  obtain ⟨b, e1, _, w1⟩ := DataW.trod_int Try.underlying23 h1
  obtain ⟨f, e3, hf8, hok⟩ := trod_fields h2
  obtain ⟨x, rfl⟩ := u32_wf w0
  obtain ⟨y, rfl⟩ := u32_wf w1
  refine ⟨x, y, f, ?_, hf8, hok⟩
  congr 1
  apply Array.toList_inj.1
  have e4 : cs.toList.take 2 = [.int .u32 (x.toNat : Int), .int .u32 (y.toNat : Int)] := list2 (by rw [List.length_take, hl]; rfl) (by simpa [List.take_take, List.drop_take] using e0) (by simpa [List.take_take, List.drop_take] using e1)
  rw [← List.take_append_drop 2 cs.toList, e4]
  unfold pcells
  rw [← e3, List.take_of_length_le (by rw [List.length_drop, hl]; omega)]
end
end Go.Proofs.Ytfoppjgjljellaa

/- What the frame gives of a list of nodes. -/
namespace Go.Proofs.Ytfoppjgjljellaa
set_option linter.unusedVariables false
open Go Go.RowKit Go.Deep Go.ChangeShapes Go.WideShapes Go.ChangeAt

def okNd (n : Nd) : Prop := (-9223372036854775808 ≤ n.1 ∧ n.1 ≤ 9223372036854775807) ∧ (-9223372036854775808 ≤ n.2.1 ∧ n.2.1 ≤ 9223372036854775807) ∧ okV n.2.2
section
variable {H : Type} {enc : TypeId × Value → H} {W : World}
set_option maxRecDepth 100000 in
theorem trod_node {sp : Nat → Bool} {held : Bool} {n : Nat} {cs : List Value} {x : DataW H × List MemPlace} (h : DataW.trod enc Try.prog W 0 sp held n 57 cs = some x) : ∃ v : Nd, cs = ncells v ∧ okNd v := by
  obtain ⟨y0, y1, y2, m, _, hl, h0, h1, h2⟩ := Go.Deep.trod_struct3 Try.underlying57 h
  have c1 : Try.prog.cellsOf 3 = 1 := by kernel_rfl
  have c3 : Try.prog.cellsOf 25 = 3 := by kernel_rfl
  have c5 : Try.prog.cellsOf 57 = 5 := by kernel_rfl
  rw [c5] at hl
  simp only [c1] at h0 h1
  simp only [c3] at h2
  obtain ⟨a, e0, _, w0⟩ := DataW.trod_int Try.underlying3 h0
  obtain ⟨b, e1, _, w1⟩ := DataW.trod_int Try.underlying3 h1
  obtain ⟨v, e2, ok⟩ := trod_val h2
  refine ⟨(a, b, v), ?_, i64_wf w0, i64_wf w1, ok⟩
  have e4 : cs.take 2 = [.int .i64 a, .int .i64 b] := list2 (by rw [List.length_take, hl]; rfl) (by simpa [List.take_take, List.drop_take] using e0) (by simpa [List.take_take, List.drop_take] using e1)
  have e5 : cs.drop 2 = vcells v := by rw [← e2, List.take_of_length_le (by rw [List.length_drop, hl]; omega)]
  rw [ncells_of, ← List.take_append_drop 2 cs, e4, e5]
set_option maxRecDepth 100000 in
theorem open_nodes {r : Reach} {base : Nat} {v : Value} {d : DataW H} {ps : List MemPlace}
    (hv : Value.okWide Try.prog W r base 22 v) (h : DataW.Trod enc Try.prog W 0 (fun _ => true) true 22 v d ps) :
    ∃ A n c, ∃ l : List Nd, v = .slice A n c ∧ n ≤ c ∧ c ≤ maxLen ∧ l.length = n ∧ (∀ z ∈ l, okNd z) ∧ Sees W W.heap.size A (ncs l) := by
  obtain ⟨A, n, c, rfl⟩ := okWide_slice Try.underlying22 hv
  obtain ⟨fuel, hf⟩ := h
  have hlt := DataW.trod_lt fuel _ _ _ hf
  have c5 : Try.prog.cellsOf 57 = 5 := by kernel_rfl
  rcases open_slice Try.underlying22 hf with ⟨hcs, hx⟩ | ⟨x, n, c, m, fu, D, Pl, hcs, hb, hl, hm, hmm, hx, hcell⟩
  · simp [Value.cells] at hcs
    obtain ⟨rfl, rfl, rfl⟩ := hcs
    exact ⟨none, 0, 0, [], rfl, Nat.le_refl _, by simp [maxLen], rfl, by simp, Sees.nil_⟩
  · simp [Value.cells] at hcs
    obtain ⟨rfl, rfl, rfl⟩ := hcs
    simp only [if_true] at hmm
    subst hmm
    have each : ∀ i, i < n → ∃ z : Nd, (∀ j u, (ncells z)[j]? = some u → W.cell? (x.add (i * 5 + j)) = some u) ∧ okNd z := fun i hi => by
      obtain ⟨cs', h1, h2⟩ := hcell i (by omega)
      obtain ⟨z, rfl, ok⟩ := trod_node h2
      refine ⟨z, fun j u hj => ?_, ok⟩
      rw [c5] at h1
      obtain ⟨_, hlen, hc⟩ := World.cells?_some h1
      have hj5 : j < 5 := by
        have := (List.getElem?_eq_some_iff.1 hj).1
        rwa [ncells_len] at this
      have e1 := hc j hj5
      rw [add_add] at e1
      rw [e1, hj]
    obtain ⟨f, hf2⟩ := choose_lt (α := Nd) each
    have hlen : ((List.range n).map f).length = n := by simp
    refine ⟨some x, n, m, (List.range n).map f, rfl, hl, hm, hlen, fun z hz => ?_, fun hpos => ?_⟩
    · obtain ⟨i, hi, rfl⟩ := List.mem_map.1 hz
      exact (hf2 i (List.mem_range.1 hi)).2
    · rw [ncs_len, hlen] at hpos
      have h0 := (hf2 0 (by omega)).1 0 _ rfl
      obtain ⟨b, off, spot⟩ := x
      have hspot : spot = none := by simpa [Addr.add] using World.cell?_spot h0
      subst hspot
      refine ⟨b, off, rfl, ?_, fun j hj => ?_⟩
      · simp only [Prod.mk.injEq] at hx
        obtain ⟨_, rfl⟩ := hx
        have := hlt (.cell b off) (by simp [MemPlace.row, c5]; omega)
        simpa [MemPlace.block] using this
      · have hj2 := hj
        rw [ncs_len, hlen] at hj2
        have hk : j / 5 < ((List.range n).map f).length := by rw [hlen]; omega
        have h3 : (ncells ((List.range n).map f)[j / 5])[j % 5]? = some (ncs ((List.range n).map f))[j] := by
          have h4 := ncs_get _ (j / 5) hk
          rw [← h4, List.getElem?_take, if_pos (by omega), List.getElem?_drop, show 5 * (j / 5) + j % 5 = j by omega, List.getElem?_eq_getElem hj]
        have h5 := (hf2 (j / 5) (by omega)).1 (j % 5) _ (by simpa using h3)
        rw [show j / 5 * 5 + j % 5 = j by omega, add_at] at h5
        exact h5
end
end Go.Proofs.Ytfoppjgjljellaa

/- What each frame of this seat asks once. -/
namespace Go.Proofs.Ytfoppjgjljellaa
theorem own : ownKnob Try.prog.godebug = none := by kernel_rfl
theorem laidOut : laidOutB Try.prog = true := by kernel_rfl
theorem boolT : Try.prog.underlying 4 = some .bool := Try.underlying4
end Go.Proofs.Ytfoppjgjljellaa

/- What the frame gives of what is asked: a card and groups; and of the library's MaxLen. -/
namespace Go.Proofs.Ytfoppjgjljellaa
set_option linter.unusedVariables false
open Go Go.RowKit BitM Go.ChangeShapes Go.WideShapes Go.ChangeAt

theorem max_int {W : World} (h : W.ShapedOpen Try.prog) : ∃ m, W.cell? ⟨0, 0, none⟩ = some (.int .i64 m) :=
  Go.Proofs.cell_of_shapedOpen_int (zero := #[.int .i64 0]) (t := 3) h (of_decide_eq_true (by kernel_rfl)) (by kernel_rfl) rfl (by kernel_rfl) (by kernel_rfl) Try.underlying3
section
variable {H : Type} {enc : TypeId × Value → H} {W : World}
set_option maxRecDepth 100000 in
theorem trod_card {sp : Nat → Bool} {held : Bool} {n : Nat} {cs : List Value} {x : DataW H × List MemPlace} (h : DataW.trod enc Try.prog W 0 sp held n 28 cs = some x) :
    ∃ (id ver : Int) (lab : BitVec 32) (f : List V3), cs = ccells id ver (lab.toNat : Int) f ∧ f.length = 8 ∧ (∀ v ∈ f, okV v) ∧ (-9223372036854775808 ≤ id ∧ id ≤ 9223372036854775807) ∧ (-9223372036854775808 ≤ ver ∧ ver ≤ 9223372036854775807) := by
  obtain ⟨y0, y1, y2, y3, m, _, hl, h0, h1, h2, h3⟩ := Go.Joins.trod_struct4 Try.underlying28 h
  have c1 : Try.prog.cellsOf 3 = 1 := by kernel_rfl
  have c2 : Try.prog.cellsOf 23 = 1 := by kernel_rfl
  have c8 : Try.prog.cellsOf 26 = 24 := by kernel_rfl
  have c27 : Try.prog.cellsOf 28 = 27 := by kernel_rfl
  rw [c27] at hl
  simp only [c1] at h0 h1
  simp only [c2] at h2
  simp only [c8] at h3
  obtain ⟨a, e0, _, w0⟩ := DataW.trod_int Try.underlying3 h0
  obtain ⟨b, e1, _, w1⟩ := DataW.trod_int Try.underlying3 h1
  obtain ⟨c, e2, _, w2⟩ := DataW.trod_int Try.underlying23 h2
  obtain ⟨f, e3, hf8, hok⟩ := trod_fields h3
  obtain ⟨x, rfl⟩ := u32_wf w2
  refine ⟨a, b, x, f, ?_, hf8, hok, i64_wf w0, i64_wf w1⟩
  have e4 : cs.take 3 = [.int .i64 a, .int .i64 b, .int .u32 (x.toNat : Int)] := list3 (by rw [List.length_take, hl]; rfl) (by simpa [List.take_take, List.drop_take] using e0) (by simpa [List.take_take, List.drop_take] using e1) (by simpa [List.take_take, List.drop_take] using e2)
  rw [← List.take_append_drop 3 cs, e4]
  unfold ccells
  rw [← e3, List.take_of_length_le (by rw [List.length_drop, hl]; omega)]
set_option maxRecDepth 100000 in
theorem open_asked {r : Reach} {base : Nat} {v : Value} {d : DataW H} {ps : List MemPlace}
    (hv : Value.okWide Try.prog W r base 52 v) (h : DataW.Trod enc Try.prog W 0 (fun _ => true) true 52 v d ps) :
    ∃ (id ver : Int) (lab g : BitVec 32) (f : List V3), v = .agg (acells id ver lab g f).toArray ∧ f.length = 8 ∧ (∀ v ∈ f, okV v) ∧ (-9223372036854775808 ≤ id ∧ id ≤ 9223372036854775807) ∧ (-9223372036854775808 ≤ ver ∧ ver ≤ 9223372036854775807) := by
  simp only [Value.okWide, Try.underlying52] at hv
  obtain ⟨cs, rfl, hrest⟩ := hv
  obtain ⟨fuel, hf⟩ := h
  obtain ⟨y0, y1, m, _, hl, h0, h1⟩ := trod_struct2 Try.underlying52 hf
  have c2 : Try.prog.cellsOf 23 = 1 := by kernel_rfl
  have c27 : Try.prog.cellsOf 28 = 27 := by kernel_rfl
  have c28 : Try.prog.cellsOf 52 = 28 := by kernel_rfl
  rw [c28] at hl
  simp only [c27, Value.cells] at h0
  simp only [c2, Value.cells] at h1
  simp only [Value.cells] at hl
  obtain ⟨id, ver, lab, f, e0, hf8, hok, wi, wv⟩ := trod_card h0
  obtain ⟨c, e1, _, w1⟩ := DataW.trod_int Try.underlying23 h1
  obtain ⟨g, rfl⟩ := u32_wf w1
  refine ⟨id, ver, lab, g, f, ?_, hf8, hok, wi, wv⟩
  congr 1
  apply Array.toList_inj.1
  unfold acells
  rw [← List.take_append_drop 27 cs.toList, ← e0, ← e1]
  simp only [List.drop_zero]
  rw [List.take_of_length_le (i := 1) (by rw [List.length_drop, hl]; omega)]
end
end Go.Proofs.Ytfoppjgjljellaa

/- EvalJoins: what is joined of filters, evaluated, is what is asked of its parts; for every input. No condition. -/

namespace Go.Proofs.Ytfoppjgjljellaa
set_option linter.unusedVariables false
open Go.ChangeShapes Go.WideShapes Go.ChangeAt Go.RowKit


set_option maxRecDepth 100000 in
theorem evalJoins_lifted (os : Os) (started : os.Started) (H : Type) (enc : TypeId × Value → H) (F : Stop.Interp) :
    ReturnsInHanded {} Try.checked os 5 .any ((OpenSpec.ofChange Rows.evalJoinsSpec).preRow enc Try.prog Try.f5 Rows.evalJoinsRow.domain false Rows.evalJoinsRow.laid) (((OpenSpec.ofChange Rows.evalJoinsSpec).at F).post enc Try.prog Try.f5 false true false false) := by
  refine returnsInHanded_of_row (C := Try.checked) (s := (OpenSpec.ofChange Rows.evalJoinsSpec)) own started (by kernel_rfl) Try.func5
    (by
      obtain ⟨w, tape, i, h1, h2, h3, h4, h5, h6, _⟩ := OpenSpec.witness_stopped (enc := enc) (C := Try.checked) (os := os) (f := 5) (fn := Try.f5) (s := (OpenSpec.ofChange Rows.evalJoinsSpec)) (conds := Rows.evalJoinsRow.domain) (apart := false) false ⟨#[], #[.slice none 0 0, .slice none 0 0, (.agg (acells 0 0 0 0 zeros).toArray)], []⟩ 8 (by kernel_rfl) (by kernel_rfl) (by kernel_rfl) (by kernel_rfl) (by kernel_rfl) rfl (fun _ _ _ => 0)
      exact ⟨w, tape, i, h1, h2, h3, h4, h5, h6⟩) ?_
  intro W base args ds gs before hval hW _ hcond _ _ hsh _
  have hW' := hW
  obtain ⟨p, q, hA0, hV, rfl, hfz, hnd⟩ := hW
  have hA : DataW.TrodAll enc Try.prog W 0 (fun _ => true) true Try.f5.params.toList args.toList ds p := hA0
  rw [Try.params5] at hA hval
  obtain ⟨v0, vs0, d0, ds0, p0, q0, hargs, rfl, rfl, h0, r0⟩ := trodAll_cons hA
  obtain ⟨v1, vs1, d1, ds1, p1, q1, rfl, rfl, rfl, h1, r1⟩ := trodAll_cons r0
  obtain ⟨v2, vs2, d2, ds2, p2, q2, rfl, rfl, rfl, h2, r2⟩ := trodAll_cons r1
  obtain ⟨rfl, rfl, rfl⟩ := trodAll_nil r2
  obtain rfl : args = #[v0, v1, v2] := by cases args; simp_all
  obtain ⟨A0, n0, c0, l0, rfl, hnc0, hcm0, rfl, ok0, hs0⟩ := open_nodes (hval 0 22 v0 rfl rfl) h0
  obtain ⟨A1, n1, c1, l1, rfl, hnc1, hcm1, rfl, ok1, hs1⟩ := open_nodes (hval 1 22 v1 rfl rfl) h1
  obtain ⟨id2, ver2, lab2, g2, f2, rfl, hf2, ok2, wi2, wv2⟩ := open_asked (hval 2 52 v2 rfl rfl) h2
  obtain ⟨mm, hmm⟩ := max_int hsh
  clear hA0
  refine (walk_joins mm A0 A1 l0.length c0 l1.length c1 l0 l1 id2 ver2 lab2 g2 f2 W hf2 rfl rfl hs0 hs1 hnc0 hnc1 hmm).mono fun e W' ⟨he, hb⟩ => ?_
  subst he
  exact ⟨_, rfl, law_post laidOut (by intro t ht; revert t ht; decide +kernel) rfl rfl boolT rfl hW' hb⟩
theorem EvalJoins_holds : Rows.EvalJoinsSaid :=
  OpenClaim.holds_of_cond 5 Try.f5 rfl rfl rfl rfl rfl rfl rfl ⟨rfl, rfl, rfl, rfl, rfl⟩ rfl rfl rfl rfl rfl (by kernel_rfl) Try.func5 (by kernel_rfl)
    (of_decide_eq_true (by kernel_rfl)) (by unfold Func.isWrapper; first | (rw [if_pos (by decide +kernel)]; kernel_rfl) | (rw [if_neg (by decide +kernel)]; exact ⟨rfl, rfl⟩))
    (fun os started H enc _ F => by rw [OpenClaim.pre_eq_preRow]; exact evalJoins_lifted os started H enc F)
end Go.Proofs.Ytfoppjgjljellaa
