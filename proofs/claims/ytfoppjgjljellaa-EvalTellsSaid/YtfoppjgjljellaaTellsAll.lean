/- EvalTells: which cards a filter takes, and what it asks for, is the document's; for every input. No condition. -/
import Derived.Test.YtfoppjgjljellaaCardG
import Derived.Test.YtfoppjgjljellaaCardI
import Derived.Lib.SmallJoins
import Derived.Deep.Strs
import Derived.Test.YtfoppjgjljellaaPrdM
import Derived.Deep.Slices
import Derived.Test.YtfoppjgjljellaaWords
import Derived.Test.YtfoppjgjljellaaEvJ
import Derived.ProofKit
import Derived.OpenShut
import Derived.Shelf.Vars
import Derived.Deep.DeepHandedRow
import Derived.Stop.Joined
import Derived.Test.YtfoppjgjljellaaEvD
import Derived.Test.YtfoppjgjljellaaEvG
import Derived.Test.YtfoppjgjljellaaEvH
/- Cards: a new card: what it returns. -/
namespace Go.Proofs.Ytfoppjgjljellaa
set_option linter.unusedVariables false
open Go Go.RowKit BitM

theorem zcid (id : Int) : (ccells id 0 0 zeros).toArray = #[Value.int .i64 id, .int .i64 0, .int .u32 0, .int .i64 0, .int .i64 0, .string { data := #[] }, .int .i64 0, .int .i64 0, .string { data := #[] }, .int .i64 0, .int .i64 0, .string { data := #[] }, .int .i64 0, .int .i64 0, .string { data := #[] }, .int .i64 0, .int .i64 0, .string { data := #[] }, .int .i64 0, .int .i64 0, .string { data := #[] }, .int .i64 0, .int .i64 0, .string { data := #[] }, .int .i64 0, .int .i64 0, .string { data := #[] }] := rfl

end Go.Proofs.Ytfoppjgjljellaa

/- CardMerges: whether the layer is awake. -/
namespace Go.Proofs.Ytfoppjgjljellaa
set_option linter.unusedVariables false
open Go Go.RowKit BitM

/-- The patch that awake writes. -/
def awf : List V3 := (1, 7, ⟨#[]⟩) :: List.replicate 7 zv
theorem aw_p : #[Value.int .u32 1, .int .u32 0, .int .i64 1, .int .i64 7, .string { data := #[] }, .int .i64 0, .int .i64 0, .string { data := #[] }, .int .i64 0, .int .i64 0, .string { data := #[] }, .int .i64 0, .int .i64 0, .string { data := #[] }, .int .i64 0, .int .i64 0, .string { data := #[] }, .int .i64 0, .int .i64 0, .string { data := #[] }, .int .i64 0, .int .i64 0, .string { data := #[] }, .int .i64 0, .int .i64 0, .string { data := #[] }] = (pcells (((1#32 : BitVec 32).toNat : Nat) : Int) 0 awf).toArray := rfl
theorem aw_mix : mix (fun i => has 1#32 (i : Int)) awf zeros = awf := by decide
theorem aw_mix2 : mix (fun i => has 2#32 (i : Int)) awf zeros = zeros := by decide
theorem aw_zc : (ccells 1 1 0 zeros).toArray = #[Value.int .i64 1, .int .i64 1, .int .u32 0, .int .i64 0, .int .i64 0, .string { data := #[] }, .int .i64 0, .int .i64 0, .string { data := #[] }, .int .i64 0, .int .i64 0, .string { data := #[] }, .int .i64 0, .int .i64 0, .string { data := #[] }, .int .i64 0, .int .i64 0, .string { data := #[] }, .int .i64 0, .int .i64 0, .string { data := #[] }, .int .i64 0, .int .i64 0, .string { data := #[] }, .int .i64 0, .int .i64 0, .string { data := #[] }] := rfl

end Go.Proofs.Ytfoppjgjljellaa

/- What the frame gives of a value, of fields, of a card, of a patch. -/
namespace Go.Proofs.Ytfoppjgjljellaa
set_option linter.unusedVariables false
open Go Go.RowKit BitM

section
variable {H : Type} {enc : TypeId × Value → H} {W : World}

theorem list3 {α : Type} {l : List α} {a b c : α} (hl : l.length = 3) (h0 : (l.drop 0).take 1 = [a]) (h1 : (l.drop 1).take 1 = [b]) (h2 : (l.drop 2).take 1 = [c]) : l = [a, b, c] := by
  match l, hl with
  | [x, y, z], _ => simp at h0 h1 h2; rw [h0, h1, h2]
/-- What a number, a text in an input is. -/
def okV (v : V3) : Prop := (-9223372036854775808 ≤ v.1 ∧ v.1 ≤ 9223372036854775807) ∧ (-9223372036854775808 ≤ v.2.1 ∧ v.2.1 ≤ 9223372036854775807) ∧ v.2.2.size ≤ maxLen
theorem trod_val {sp : Nat → Bool} {held : Bool} {n : Nat} {cs : List Value} {x : DataW H × List MemPlace} (h : DataW.trod enc Try.prog W 0 sp held n 25 cs = some x) : ∃ v : V3, cs = vcells v ∧ okV v := by
  obtain ⟨y0, y1, y2, m, _, hl, h0, h1, h2⟩ := Go.Deep.trod_struct3 Try.underlying25 h
  have c1 : Try.prog.cellsOf 3 = 1 := by kernel_rfl
  have c2 : Try.prog.cellsOf 9 = 1 := by kernel_rfl
  have c3 : Try.prog.cellsOf 25 = 3 := by kernel_rfl
  rw [c3] at hl
  simp only [c1] at h0 h1
  simp only [c2] at h2
  obtain ⟨a, e0, _, w0⟩ := DataW.trod_int Try.underlying3 h0
  obtain ⟨b, e1, _, w1⟩ := DataW.trod_int Try.underlying3 h1
  obtain ⟨s, e2, _, w2⟩ := DataW.trod_string Try.underlying9 h2
  exact ⟨(a, b, s), list3 hl e0 e1 e2, i64_wf w0, i64_wf w1, w2⟩
theorem cut3 : ∀ (l : List Value) (n : Nat), l.length = n * 3 → (∀ i, i < n → ∃ v : V3, (l.drop (i * 3)).take 3 = vcells v ∧ okV v) → ∃ f : List V3, l = fcells f ∧ f.length = n ∧ ∀ v ∈ f, okV v
  | l, 0, hl, _ => ⟨[], List.length_eq_zero_iff.1 (by rw [hl]), rfl, by simp⟩
  | l, n + 1, hl, h => by
    obtain ⟨v, hv, ok⟩ := h 0 (by omega)
    obtain ⟨f, hf, hn, hok⟩ := cut3 (l.drop 3) n (by rw [List.length_drop, hl]; omega) (fun i hi => by
      have := h (i + 1) (by omega)
      rw [List.drop_drop, show 3 + i * 3 = (i + 1) * 3 by omega]
      exact this)
    refine ⟨v :: f, ?_, by simp [hn], ?_⟩
    · rw [fcells_cons, ← hf, ← hv]
      simp
    · intro u hu
      rcases List.mem_cons.1 hu with rfl | hu
      · exact ok
      · exact hok u hu
theorem trod_fields {sp : Nat → Bool} {held : Bool} {n : Nat} {cs : List Value} {x : DataW H × List MemPlace} (h : DataW.trod enc Try.prog W 0 sp held n 26 cs = some x) : ∃ f : List V3, cs = fcells f ∧ f.length = 8 ∧ ∀ v ∈ f, okV v := by
  obtain ⟨xs, m, _, _, hl, hxl, heach⟩ := DataW.trod_array Try.underlying26 h
  have c3 : Try.prog.cellsOf 25 = 3 := by kernel_rfl
  have c8 : Try.prog.cellsOf 26 = 24 := by kernel_rfl
  rw [c8] at hl
  simp only [c3] at heach
  refine cut3 cs 8 hl fun i hi => ?_
  have h1 := heach i hi
  rw [List.getElem?_eq_getElem (by rw [hxl]; exact hi)] at h1
  exact trod_val h1
set_option maxRecDepth 100000 in
theorem open_card {r : Reach} {base : Nat} {v : Value} {d : DataW H} {ps : List MemPlace}
    (hv : Value.okWide Try.prog W r base 28 v) (h : DataW.Trod enc Try.prog W 0 (fun _ => true) true 28 v d ps) :
    ∃ (id ver : Int) (lab : BitVec 32) (f : List V3), v = .agg (ccells id ver (lab.toNat : Int) f).toArray ∧ f.length = 8 ∧ (∀ v ∈ f, okV v) ∧ (-9223372036854775808 ≤ id ∧ id ≤ 9223372036854775807) ∧ (-9223372036854775808 ≤ ver ∧ ver ≤ 9223372036854775807) := by
  simp only [Value.okWide, Try.underlying28] at hv
  obtain ⟨cs, rfl, hrest⟩ := hv
  obtain ⟨fuel, hf⟩ := h
  obtain ⟨y0, y1, y2, y3, m, _, hl, h0, h1, h2, h3⟩ := Go.Joins.trod_struct4 Try.underlying28 hf
  have c1 : Try.prog.cellsOf 3 = 1 := by kernel_rfl
  have c2 : Try.prog.cellsOf 23 = 1 := by kernel_rfl
  have c8 : Try.prog.cellsOf 26 = 24 := by kernel_rfl
  have c27 : Try.prog.cellsOf 28 = 27 := by kernel_rfl
  rw [c27] at hl
  simp only [c1, Value.cells] at h0 h1
  simp only [c2, Value.cells] at h2
  simp only [c8, Value.cells] at h3
  simp only [Value.cells] at hl
  obtain ⟨a, e0, _, w0⟩ := DataW.trod_int Try.underlying3 h0
  obtain ⟨b, e1, _, w1⟩ := DataW.trod_int Try.underlying3 h1
  obtain ⟨c, e2, _, w2⟩ := DataW.trod_int Try.underlying23 h2
  obtain ⟨f, e3, hf8, hok⟩ := trod_fields h3
  obtain ⟨x, rfl⟩ := u32_wf w2
  refine ⟨a, b, x, f, ?_, hf8, hok, i64_wf w0, i64_wf w1⟩
  congr 1
  apply Array.toList_inj.1
  have e4 : cs.toList.take 3 = [.int .i64 a, .int .i64 b, .int .u32 (x.toNat : Int)] := list3 (by rw [List.length_take, hl]; rfl) (by simpa [List.take_take, List.drop_take] using e0) (by simpa [List.take_take, List.drop_take] using e1) (by simpa [List.take_take, List.drop_take] using e2)
  rw [← List.take_append_drop 3 cs.toList, e4]
  unfold ccells
  rw [← e3, List.take_of_length_le (by rw [List.length_drop, hl]; omega)]
theorem list2 {α : Type} {l : List α} {a b : α} (hl : l.length = 2) (h0 : (l.drop 0).take 1 = [a]) (h1 : (l.drop 1).take 1 = [b]) : l = [a, b] := by
  match l, hl with
  | [x, y], _ => simp at h0 h1; rw [h0, h1]
set_option maxRecDepth 100000 in
theorem open_patch {r : Reach} {base : Nat} {v : Value} {d : DataW H} {ps : List MemPlace}
    (hv : Value.okWide Try.prog W r base 46 v) (h : DataW.Trod enc Try.prog W 0 (fun _ => true) true 46 v d ps) :
    ∃ (m lab : BitVec 32) (f : List V3), v = .agg (pcells (m.toNat : Int) (lab.toNat : Int) f).toArray ∧ f.length = 8 ∧ (∀ v ∈ f, okV v) := by
  simp only [Value.okWide, Try.underlying46] at hv
  obtain ⟨cs, rfl, hrest⟩ := hv
  obtain ⟨fuel, hf⟩ := h
  obtain ⟨y0, y1, y2, m, _, hl, h0, h1, h2⟩ := Go.Deep.trod_struct3 Try.underlying46 hf
  have c2 : Try.prog.cellsOf 23 = 1 := by kernel_rfl
  have c8 : Try.prog.cellsOf 26 = 24 := by kernel_rfl
  have c26 : Try.prog.cellsOf 46 = 26 := by kernel_rfl
  rw [c26] at hl
  simp only [c2, Value.cells] at h0 h1
  simp only [c8, Value.cells] at h2
  simp only [Value.cells] at hl
  obtain ⟨a, e0, _, w0⟩ := DataW.trod_int Try.underlying23 h0
  obtain ⟨b, e1, _, w1⟩ := DataW.trod_int Try.underlying23 h1
  obtain ⟨f, e3, hf8, hok⟩ := trod_fields h2
  obtain ⟨x, rfl⟩ := u32_wf w0
  obtain ⟨y, rfl⟩ := u32_wf w1
  refine ⟨x, y, f, ?_, hf8, hok⟩
  congr 1
  apply Array.toList_inj.1
  have e4 : cs.toList.take 2 = [.int .u32 (x.toNat : Int), .int .u32 (y.toNat : Int)] := list2 (by rw [List.length_take, hl]; rfl) (by simpa [List.take_take, List.drop_take] using e0) (by simpa [List.take_take, List.drop_take] using e1)
  rw [← List.take_append_drop 2 cs.toList, e4]
  unfold pcells
  rw [← e3, List.take_of_length_le (by rw [List.length_drop, hl]; omega)]
end
end Go.Proofs.Ytfoppjgjljellaa

/- What the frame gives of a list of nodes. -/
namespace Go.Proofs.Ytfoppjgjljellaa
set_option linter.unusedVariables false
open Go Go.RowKit Go.Deep Go.ChangeShapes Go.WideShapes Go.ChangeAt

def okNd (n : Nd) : Prop := (-9223372036854775808 ≤ n.1 ∧ n.1 ≤ 9223372036854775807) ∧ (-9223372036854775808 ≤ n.2.1 ∧ n.2.1 ≤ 9223372036854775807) ∧ okV n.2.2
section
variable {H : Type} {enc : TypeId × Value → H} {W : World}
set_option maxRecDepth 100000 in
theorem trod_node {sp : Nat → Bool} {held : Bool} {n : Nat} {cs : List Value} {x : DataW H × List MemPlace} (h : DataW.trod enc Try.prog W 0 sp held n 57 cs = some x) : ∃ v : Nd, cs = ncells v ∧ okNd v := by
  obtain ⟨y0, y1, y2, m, _, hl, h0, h1, h2⟩ := Go.Deep.trod_struct3 Try.underlying57 h
  have c1 : Try.prog.cellsOf 3 = 1 := by kernel_rfl
  have c3 : Try.prog.cellsOf 25 = 3 := by kernel_rfl
  have c5 : Try.prog.cellsOf 57 = 5 := by kernel_rfl
  rw [c5] at hl
  simp only [c1] at h0 h1
  simp only [c3] at h2
  obtain ⟨a, e0, _, w0⟩ := DataW.trod_int Try.underlying3 h0
  obtain ⟨b, e1, _, w1⟩ := DataW.trod_int Try.underlying3 h1
  obtain ⟨v, e2, ok⟩ := trod_val h2
  refine ⟨(a, b, v), ?_, i64_wf w0, i64_wf w1, ok⟩
  have e4 : cs.take 2 = [.int .i64 a, .int .i64 b] := list2 (by rw [List.length_take, hl]; rfl) (by simpa [List.take_take, List.drop_take] using e0) (by simpa [List.take_take, List.drop_take] using e1)
  have e5 : cs.drop 2 = vcells v := by rw [← e2, List.take_of_length_le (by rw [List.length_drop, hl]; omega)]
  rw [ncells_of, ← List.take_append_drop 2 cs, e4, e5]
set_option maxRecDepth 100000 in
theorem open_nodes {r : Reach} {base : Nat} {v : Value} {d : DataW H} {ps : List MemPlace}
    (hv : Value.okWide Try.prog W r base 22 v) (h : DataW.Trod enc Try.prog W 0 (fun _ => true) true 22 v d ps) :
    ∃ A n c, ∃ l : List Nd, v = .slice A n c ∧ n ≤ c ∧ c ≤ maxLen ∧ l.length = n ∧ (∀ z ∈ l, okNd z) ∧ Sees W W.heap.size A (ncs l) := by
  obtain ⟨A, n, c, rfl⟩ := okWide_slice Try.underlying22 hv
  obtain ⟨fuel, hf⟩ := h
  have hlt := DataW.trod_lt fuel _ _ _ hf
  have c5 : Try.prog.cellsOf 57 = 5 := by kernel_rfl
  rcases open_slice Try.underlying22 hf with ⟨hcs, hx⟩ | ⟨x, n, c, m, fu, D, Pl, hcs, hb, hl, hm, hmm, hx, hcell⟩
  · simp [Value.cells] at hcs
    obtain ⟨rfl, rfl, rfl⟩ := hcs
    exact ⟨none, 0, 0, [], rfl, Nat.le_refl _, by simp [maxLen], rfl, by simp, Sees.nil_⟩
  · simp [Value.cells] at hcs
    obtain ⟨rfl, rfl, rfl⟩ := hcs
    simp only [if_true] at hmm
    subst hmm
    have each : ∀ i, i < n → ∃ z : Nd, (∀ j u, (ncells z)[j]? = some u → W.cell? (x.add (i * 5 + j)) = some u) ∧ okNd z := fun i hi => by
      obtain ⟨cs', h1, h2⟩ := hcell i (by omega)
      obtain ⟨z, rfl, ok⟩ := trod_node h2
      refine ⟨z, fun j u hj => ?_, ok⟩
      rw [c5] at h1
      obtain ⟨_, hlen, hc⟩ := World.cells?_some h1
      have hj5 : j < 5 := by
        have := (List.getElem?_eq_some_iff.1 hj).1
        rwa [ncells_len] at this
      have e1 := hc j hj5
      rw [add_add] at e1
      rw [e1, hj]
    obtain ⟨f, hf2⟩ := choose_lt (α := Nd) each
    have hlen : ((List.range n).map f).length = n := by simp
    refine ⟨some x, n, m, (List.range n).map f, rfl, hl, hm, hlen, fun z hz => ?_, fun hpos => ?_⟩
    · obtain ⟨i, hi, rfl⟩ := List.mem_map.1 hz
      exact (hf2 i (List.mem_range.1 hi)).2
    · rw [ncs_len, hlen] at hpos
      have h0 := (hf2 0 (by omega)).1 0 _ rfl
      obtain ⟨b, off, spot⟩ := x
      have hspot : spot = none := by simpa [Addr.add] using World.cell?_spot h0
      subst hspot
      refine ⟨b, off, rfl, ?_, fun j hj => ?_⟩
      · simp only [Prod.mk.injEq] at hx
        obtain ⟨_, rfl⟩ := hx
        have := hlt (.cell b off) (by simp [MemPlace.row, c5]; omega)
        simpa [MemPlace.block] using this
      · have hj2 := hj
        rw [ncs_len, hlen] at hj2
        have hk : j / 5 < ((List.range n).map f).length := by rw [hlen]; omega
        have h3 : (ncells ((List.range n).map f)[j / 5])[j % 5]? = some (ncs ((List.range n).map f))[j] := by
          have h4 := ncs_get _ (j / 5) hk
          rw [← h4, List.getElem?_take, if_pos (by omega), List.getElem?_drop, show 5 * (j / 5) + j % 5 = j by omega, List.getElem?_eq_getElem hj]
        have h5 := (hf2 (j / 5) (by omega)).1 (j % 5) _ (by simpa using h3)
        rw [show j / 5 * 5 + j % 5 = j by omega, add_at] at h5
        exact h5
end
end Go.Proofs.Ytfoppjgjljellaa

/- What each frame of this seat asks once. -/
namespace Go.Proofs.Ytfoppjgjljellaa
theorem own : ownKnob Try.prog.godebug = none := by kernel_rfl
theorem laidOut : laidOutB Try.prog = true := by kernel_rfl
theorem boolT : Try.prog.underlying 4 = some .bool := Try.underlying4
end Go.Proofs.Ytfoppjgjljellaa

/- What the frame gives of what is asked: a card and groups; and of the library's MaxLen. -/
namespace Go.Proofs.Ytfoppjgjljellaa
set_option linter.unusedVariables false
open Go Go.RowKit BitM Go.ChangeShapes Go.WideShapes Go.ChangeAt

theorem max_int {W : World} (h : W.ShapedOpen Try.prog) : ∃ m, W.cell? ⟨0, 0, none⟩ = some (.int .i64 m) :=
  Go.Proofs.cell_of_shapedOpen_int (zero := #[.int .i64 0]) (t := 3) h (of_decide_eq_true (by kernel_rfl)) (by kernel_rfl) rfl (by kernel_rfl) (by kernel_rfl) Try.underlying3
section
variable {H : Type} {enc : TypeId × Value → H} {W : World}
set_option maxRecDepth 100000 in
theorem trod_card {sp : Nat → Bool} {held : Bool} {n : Nat} {cs : List Value} {x : DataW H × List MemPlace} (h : DataW.trod enc Try.prog W 0 sp held n 28 cs = some x) :
    ∃ (id ver : Int) (lab : BitVec 32) (f : List V3), cs = ccells id ver (lab.toNat : Int) f ∧ f.length = 8 ∧ (∀ v ∈ f, okV v) ∧ (-9223372036854775808 ≤ id ∧ id ≤ 9223372036854775807) ∧ (-9223372036854775808 ≤ ver ∧ ver ≤ 9223372036854775807) := by
  obtain ⟨y0, y1, y2, y3, m, _, hl, h0, h1, h2, h3⟩ := Go.Joins.trod_struct4 Try.underlying28 h
  have c1 : Try.prog.cellsOf 3 = 1 := by kernel_rfl
  have c2 : Try.prog.cellsOf 23 = 1 := by kernel_rfl
  have c8 : Try.prog.cellsOf 26 = 24 := by kernel_rfl
  have c27 : Try.prog.cellsOf 28 = 27 := by kernel_rfl
  rw [c27] at hl
  simp only [c1] at h0 h1
  simp only [c2] at h2
  simp only [c8] at h3
  obtain ⟨a, e0, _, w0⟩ := DataW.trod_int Try.underlying3 h0
  obtain ⟨b, e1, _, w1⟩ := DataW.trod_int Try.underlying3 h1
  obtain ⟨c, e2, _, w2⟩ := DataW.trod_int Try.underlying23 h2
  obtain ⟨f, e3, hf8, hok⟩ := trod_fields h3
  obtain ⟨x, rfl⟩ := u32_wf w2
  refine ⟨a, b, x, f, ?_, hf8, hok, i64_wf w0, i64_wf w1⟩
  have e4 : cs.take 3 = [.int .i64 a, .int .i64 b, .int .u32 (x.toNat : Int)] := list3 (by rw [List.length_take, hl]; rfl) (by simpa [List.take_take, List.drop_take] using e0) (by simpa [List.take_take, List.drop_take] using e1) (by simpa [List.take_take, List.drop_take] using e2)
  rw [← List.take_append_drop 3 cs, e4]
  unfold ccells
  rw [← e3, List.take_of_length_le (by rw [List.length_drop, hl]; omega)]
set_option maxRecDepth 100000 in
theorem open_asked {r : Reach} {base : Nat} {v : Value} {d : DataW H} {ps : List MemPlace}
    (hv : Value.okWide Try.prog W r base 52 v) (h : DataW.Trod enc Try.prog W 0 (fun _ => true) true 52 v d ps) :
    ∃ (id ver : Int) (lab g : BitVec 32) (f : List V3), v = .agg (acells id ver lab g f).toArray ∧ f.length = 8 ∧ (∀ v ∈ f, okV v) ∧ (-9223372036854775808 ≤ id ∧ id ≤ 9223372036854775807) ∧ (-9223372036854775808 ≤ ver ∧ ver ≤ 9223372036854775807) := by
  simp only [Value.okWide, Try.underlying52] at hv
  obtain ⟨cs, rfl, hrest⟩ := hv
  obtain ⟨fuel, hf⟩ := h
  obtain ⟨y0, y1, m, _, hl, h0, h1⟩ := trod_struct2 Try.underlying52 hf
  have c2 : Try.prog.cellsOf 23 = 1 := by kernel_rfl
  have c27 : Try.prog.cellsOf 28 = 27 := by kernel_rfl
  have c28 : Try.prog.cellsOf 52 = 28 := by kernel_rfl
  rw [c28] at hl
  simp only [c27, Value.cells] at h0
  simp only [c2, Value.cells] at h1
  simp only [Value.cells] at hl
  obtain ⟨id, ver, lab, f, e0, hf8, hok, wi, wv⟩ := trod_card h0
  obtain ⟨c, e1, _, w1⟩ := DataW.trod_int Try.underlying23 h1
  obtain ⟨g, rfl⟩ := u32_wf w1
  refine ⟨id, ver, lab, g, f, ?_, hf8, hok, wi, wv⟩
  congr 1
  apply Array.toList_inj.1
  unfold acells
  rw [← List.take_append_drop 27 cs.toList, ← e0, ← e1]
  simp only [List.drop_zero]
  rw [List.take_of_length_le (i := 1) (by rw [List.length_drop, hl]; omega)]
end
end Go.Proofs.Ytfoppjgjljellaa

/- The document's leaf: what a node without parts says of a card, and of its groups. -/
namespace Go.Proofs.Ytfoppjgjljellaa
set_option linter.unusedVariables false
set_option linter.unusedSimpArgs false
open Go Go.RowKit Go.Shelf BitM ValM

set_option maxRecDepth 100000 in
set_option maxHeartbeats 3200000 in
theorem rleaf_all (id ver : Int) (lab g : BitVec 32) (fs : List V3) (w : World) (hf : fs.length = 8) (hsz : ∀ u ∈ fs, u.2.2.size ≤ 1000) (nn : Int) (v : V3) :
    Calls Try.prog 32 #[.agg (ncells (1, nn, v)).toArray, .agg (ccells id ver (lab.toNat : Int) fs).toArray, .int .u32 (g.toNat : Int)] w fun e w' => e = .returned (.bool (true)) ∧ Below w.heap.size w w' := by
  have hu := Try.underlying25
  have B0 := (Blk.new w (ncells (1, nn, v)) 57).alloc (.cells (ccells id ver (lab.toNat : Int) fs).toArray 28)
  have B1 := Blk.new (w.alloc (.cells (ncells (1, nn, v)).toArray 57)) (ccells id ver (lab.toNat : Int) fs) 28
  have hz1 : (w.alloc (.cells (ncells (1, nn, v)).toArray 57)).heap.size = w.heap.size + 1 := by simp
  rw [hz1] at B1
  have hb : Below w.heap.size w ((w.alloc (.cells (ncells (1, nn, v)).toArray 57)).alloc (.cells (ccells id ver (lab.toNat : Int) fs).toArray 28)) := ((Below.refl _ w).alloc (Nat.le_refl _) _).alloc (by simp) _
  have c0 := B0.cell (j := 0) rfl
  have n1 := B0.cell (j := 1) rfl
  have l2 := B1.cell (j := 2) rfl
  obtain ⟨na, hna⟩ : ∃ na, na = (ncells (1, nn, v)).toArray := ⟨_, rfl⟩
  obtain ⟨cs, hcs⟩ : ∃ cs, cs = (ccells id ver (lab.toNat : Int) fs).toArray := ⟨_, rfl⟩
  rw [← hna, ← hcs] at c0 n1 l2 B0 hb ⊢
  rw [← hna, ← hcs] at B1
  clear hna hcs hz1 B0 B1 hf hsz
  go_enter Try.func32, Try.ntmps32
  go_wp2_with fail
  go_ret
  exact ⟨rfl, hb⟩
set_option maxRecDepth 100000 in
set_option maxHeartbeats 3200000 in
theorem rleaf_never (id ver : Int) (lab g : BitVec 32) (fs : List V3) (w : World) (hf : fs.length = 8) (hsz : ∀ u ∈ fs, u.2.2.size ≤ 1000) (nn : Int) (v : V3) :
    Calls Try.prog 32 #[.agg (ncells (2, nn, v)).toArray, .agg (ccells id ver (lab.toNat : Int) fs).toArray, .int .u32 (g.toNat : Int)] w fun e w' => e = .returned (.bool (false)) ∧ Below w.heap.size w w' := by
  have hu := Try.underlying25
  have B0 := (Blk.new w (ncells (2, nn, v)) 57).alloc (.cells (ccells id ver (lab.toNat : Int) fs).toArray 28)
  have B1 := Blk.new (w.alloc (.cells (ncells (2, nn, v)).toArray 57)) (ccells id ver (lab.toNat : Int) fs) 28
  have hz1 : (w.alloc (.cells (ncells (2, nn, v)).toArray 57)).heap.size = w.heap.size + 1 := by simp
  rw [hz1] at B1
  have hb : Below w.heap.size w ((w.alloc (.cells (ncells (2, nn, v)).toArray 57)).alloc (.cells (ccells id ver (lab.toNat : Int) fs).toArray 28)) := ((Below.refl _ w).alloc (Nat.le_refl _) _).alloc (by simp) _
  have c0 := B0.cell (j := 0) rfl
  have n1 := B0.cell (j := 1) rfl
  have l2 := B1.cell (j := 2) rfl
  obtain ⟨na, hna⟩ : ∃ na, na = (ncells (2, nn, v)).toArray := ⟨_, rfl⟩
  obtain ⟨cs, hcs⟩ : ∃ cs, cs = (ccells id ver (lab.toNat : Int) fs).toArray := ⟨_, rfl⟩
  rw [← hna, ← hcs] at c0 n1 l2 B0 hb ⊢
  rw [← hna, ← hcs] at B1
  clear hna hcs hz1 B0 B1 hf hsz
  go_enter Try.func32, Try.ntmps32
  go_wp2_with fail
  go_ret
  exact ⟨rfl, hb⟩
set_option maxRecDepth 100000 in
set_option maxHeartbeats 3200000 in
theorem rleaf_lab (id ver : Int) (lab g : BitVec 32) (fs : List V3) (w : World) (hf : fs.length = 8) (hsz : ∀ u ∈ fs, u.2.2.size ≤ 1000) (nn : Int) (v : V3) :
    Calls Try.prog 32 #[.agg (ncells (3, nn, v)).toArray, .agg (ccells id ver (lab.toNat : Int) fs).toArray, .int .u32 (g.toNat : Int)] w fun e w' => e = .returned (.bool (has lab nn)) ∧ Below w.heap.size w w' := by
  have hu := Try.underlying25
  have B0 := (Blk.new w (ncells (3, nn, v)) 57).alloc (.cells (ccells id ver (lab.toNat : Int) fs).toArray 28)
  have B1 := Blk.new (w.alloc (.cells (ncells (3, nn, v)).toArray 57)) (ccells id ver (lab.toNat : Int) fs) 28
  have hz1 : (w.alloc (.cells (ncells (3, nn, v)).toArray 57)).heap.size = w.heap.size + 1 := by simp
  rw [hz1] at B1
  have hb : Below w.heap.size w ((w.alloc (.cells (ncells (3, nn, v)).toArray 57)).alloc (.cells (ccells id ver (lab.toNat : Int) fs).toArray 28)) := ((Below.refl _ w).alloc (Nat.le_refl _) _).alloc (by simp) _
  have c0 := B0.cell (j := 0) rfl
  have n1 := B0.cell (j := 1) rfl
  have l2 := B1.cell (j := 2) rfl
  obtain ⟨na, hna⟩ : ∃ na, na = (ncells (3, nn, v)).toArray := ⟨_, rfl⟩
  obtain ⟨cs, hcs⟩ : ∃ cs, cs = (ccells id ver (lab.toNat : Int) fs).toArray := ⟨_, rfl⟩
  rw [← hna, ← hcs] at c0 n1 l2 B0 hb ⊢
  rw [← hna, ← hcs] at B1
  clear hna hcs hz1 B0 B1 hf hsz
  go_enter Try.func32, Try.ntmps32
  go_wp2_with fail
  refine (rhas_any lab nn _).mono ?_
  rintro e w1 ⟨rfl, rfl⟩
  go_wp2_with fail
  go_ret
  exact ⟨rfl, hb⟩
set_option maxRecDepth 100000 in
set_option maxHeartbeats 3200000 in
theorem rleaf_grp (id ver : Int) (lab g : BitVec 32) (fs : List V3) (w : World) (hf : fs.length = 8) (hsz : ∀ u ∈ fs, u.2.2.size ≤ 1000) (nn : Int) (v : V3) :
    Calls Try.prog 32 #[.agg (ncells (4, nn, v)).toArray, .agg (ccells id ver (lab.toNat : Int) fs).toArray, .int .u32 (g.toNat : Int)] w fun e w' => e = .returned (.bool (has g nn)) ∧ Below w.heap.size w w' := by
  have hu := Try.underlying25
  have B0 := (Blk.new w (ncells (4, nn, v)) 57).alloc (.cells (ccells id ver (lab.toNat : Int) fs).toArray 28)
  have B1 := Blk.new (w.alloc (.cells (ncells (4, nn, v)).toArray 57)) (ccells id ver (lab.toNat : Int) fs) 28
  have hz1 : (w.alloc (.cells (ncells (4, nn, v)).toArray 57)).heap.size = w.heap.size + 1 := by simp
  rw [hz1] at B1
  have hb : Below w.heap.size w ((w.alloc (.cells (ncells (4, nn, v)).toArray 57)).alloc (.cells (ccells id ver (lab.toNat : Int) fs).toArray 28)) := ((Below.refl _ w).alloc (Nat.le_refl _) _).alloc (by simp) _
  have c0 := B0.cell (j := 0) rfl
  have n1 := B0.cell (j := 1) rfl
  have l2 := B1.cell (j := 2) rfl
  obtain ⟨na, hna⟩ : ∃ na, na = (ncells (4, nn, v)).toArray := ⟨_, rfl⟩
  obtain ⟨cs, hcs⟩ : ∃ cs, cs = (ccells id ver (lab.toNat : Int) fs).toArray := ⟨_, rfl⟩
  rw [← hna, ← hcs] at c0 n1 l2 B0 hb ⊢
  rw [← hna, ← hcs] at B1
  clear hna hcs hz1 B0 B1 hf hsz
  go_enter Try.func32, Try.ntmps32
  go_wp2_with fail
  refine (rhas_any g nn _).mono ?_
  rintro e w1 ⟨rfl, rfl⟩
  go_wp2_with fail
  go_ret
  exact ⟨rfl, hb⟩
set_option maxRecDepth 100000 in
set_option maxHeartbeats 3200000 in
theorem rleaf_has (id ver : Int) (lab g : BitVec 32) (fs : List V3) (w : World) (hf : fs.length = 8) (hsz : ∀ u ∈ fs, u.2.2.size ≤ 1000) (k : Nat) (hk8 : k < 8) (v : V3) (hv : v.2.2.size ≤ 1000) :
    Calls Try.prog 32 #[.agg (ncells (5, (k : Int), v)).toArray, .agg (ccells id ver (lab.toNat : Int) fs).toArray, .int .u32 (g.toNat : Int)] w fun e w' => e = .returned (.bool ((fs.getD k zv).1 != 0)) ∧ Below w.heap.size w w' := by
  have hu := Try.underlying25
  have B0 := (Blk.new w (ncells (5, (k : Int), v)) 57).alloc (.cells (ccells id ver (lab.toNat : Int) fs).toArray 28)
  have B1 := Blk.new (w.alloc (.cells (ncells (5, (k : Int), v)).toArray 57)) (ccells id ver (lab.toNat : Int) fs) 28
  have hz1 : (w.alloc (.cells (ncells (5, (k : Int), v)).toArray 57)).heap.size = w.heap.size + 1 := by simp
  rw [hz1] at B1
  have hb : Below w.heap.size w ((w.alloc (.cells (ncells (5, (k : Int), v)).toArray 57)).alloc (.cells (ccells id ver (lab.toNat : Int) fs).toArray 28)) := ((Below.refl _ w).alloc (Nat.le_refl _) _).alloc (by simp) _
  have c0 := B0.cell (j := 0) rfl
  have n1 := B0.cell (j := 1) rfl
  have l2 := B1.cell (j := 2) rfl
  have hkf : k < fs.length := by omega
  have ek : fs.getD k zv = fs[k] := by rw [List.getD_eq_getElem?_getD, List.getElem?_eq_getElem hkf]; rfl
  rw [ek]
  have hus := hsz _ (List.getElem_mem hkf)
  obtain ⟨u, hU⟩ : ∃ u, u = fs[k] := ⟨_, rfl⟩
  have BR : ∀ wy, Blk wy (w.heap.size + 1) (ccells id ver (lab.toNat : Int) fs) → wy.rangeAt (w.heap.size + 1) (3 + k * 3) (vcells u) := fun wy h => by rw [hU]; exact h.fieldR k hkf
  rw [← hU] at hus ⊢
  have d8 : (k : Int) < 8 := by omega
  obtain ⟨na, hna⟩ : ∃ na, na = (ncells (5, (k : Int), v)).toArray := ⟨_, rfl⟩
  obtain ⟨cs, hcs⟩ : ∃ cs, cs = (ccells id ver (lab.toNat : Int) fs).toArray := ⟨_, rfl⟩
  rw [← hna, ← hcs] at c0 n1 l2 B0 hb ⊢
  rw [← hna, ← hcs] at B1
  have kf := (BR _ B1) 0 _ rfl
  have kg : cs[3 + k * 3]? = some (Value.int .i64 u.1) := by simpa [go_sem] using kf
  clear hna hcs hz1 B0 B1 BR hf hsz ek hkf hus hU
  go_enter Try.func32, Try.ntmps32
  go_wp2_with fail
  go_ret
  exact ⟨rfl, hb⟩
set_option maxRecDepth 100000 in
set_option maxHeartbeats 3200000 in
theorem rleaf_eql (id ver : Int) (lab g : BitVec 32) (fs : List V3) (w : World) (hf : fs.length = 8) (hsz : ∀ u ∈ fs, u.2.2.size ≤ 1000) (k : Nat) (hk8 : k < 8) (v : V3) (hv : v.2.2.size ≤ 1000) :
    Calls Try.prog 32 #[.agg (ncells (6, (k : Int), v)).toArray, .agg (ccells id ver (lab.toNat : Int) fs).toArray, .int .u32 (g.toNat : Int)] w fun e w' => e = .returned (.bool (decide ((fs.getD k zv) = v))) ∧ Below w.heap.size w w' := by
  have hu := Try.underlying25
  have B0 := (Blk.new w (ncells (6, (k : Int), v)) 57).alloc (.cells (ccells id ver (lab.toNat : Int) fs).toArray 28)
  have B1 := Blk.new (w.alloc (.cells (ncells (6, (k : Int), v)).toArray 57)) (ccells id ver (lab.toNat : Int) fs) 28
  have hz1 : (w.alloc (.cells (ncells (6, (k : Int), v)).toArray 57)).heap.size = w.heap.size + 1 := by simp
  rw [hz1] at B1
  have hb : Below w.heap.size w ((w.alloc (.cells (ncells (6, (k : Int), v)).toArray 57)).alloc (.cells (ccells id ver (lab.toNat : Int) fs).toArray 28)) := ((Below.refl _ w).alloc (Nat.le_refl _) _).alloc (by simp) _
  have c0 := B0.cell (j := 0) rfl
  have n1 := B0.cell (j := 1) rfl
  have l2 := B1.cell (j := 2) rfl
  have hkf : k < fs.length := by omega
  have ek : fs.getD k zv = fs[k] := by rw [List.getD_eq_getElem?_getD, List.getElem?_eq_getElem hkf]; rfl
  rw [ek]
  have hus := hsz _ (List.getElem_mem hkf)
  obtain ⟨u, hU⟩ : ∃ u, u = fs[k] := ⟨_, rfl⟩
  have BR : ∀ wy, Blk wy (w.heap.size + 1) (ccells id ver (lab.toNat : Int) fs) → wy.rangeAt (w.heap.size + 1) (3 + k * 3) (vcells u) := fun wy h => by rw [hU]; exact h.fieldR k hkf
  rw [← hU] at hus ⊢
  have d8 : (k : Int) < 8 := by omega
  obtain ⟨na, hna⟩ : ∃ na, na = (ncells (6, (k : Int), v)).toArray := ⟨_, rfl⟩
  obtain ⟨cs, hcs⟩ : ∃ cs, cs = (ccells id ver (lab.toNat : Int) fs).toArray := ⟨_, rfl⟩
  rw [← hna, ← hcs] at c0 n1 l2 B0 hb ⊢
  rw [← hna, ← hcs] at B1
  have HB0 := Lib.hid B0
  have HB1 := Lib.hid B1
  have HBR := Lib.hid BR
  have HBB := Lib.hid hb
  clear hna hcs hz1 B0 B1 BR hf hsz ek hkf hU n1 l2 hb
  go_enter Try.func32, Try.ntmps32
  go_wp2_with fail
  refine wp_region_steady [] 73 (by kernel_rfl) (by kernel_rfl) (by kernel_rfl) (by rfl) ?_
  repeat (refine wpG_quiet (by rfl) (by rfl) (by rfl) (fun K hK => ?_); go_big_quiet_op; refine hK _ ?_; clear hK K)
  refine wpG_run (by rfl) (by rfl) (.int .i64 (k : Int)) (fun w1 hl => ?_) ?_
  · have n1 := (HB0.out.later hl.1).cell (j := 1) rfl
    simp [go_sem, n1]
  simp only [Act.put, List.setIfInBounds_toArray, List.set_cons_zero, List.set_cons_succ]
  repeat (refine wpG_quiet (by rfl) (by rfl) (by rfl) (fun K hK => ?_); go_big_quiet_op; refine hK _ ?_; clear hK K)
  refine wpG_run (by rfl) (by rfl) (.agg (vcells u).toArray) (fun w1 hl => exec_load 25 (.tmp 38) rfl (w.heap.size + 1) (3 + k * 3) rfl (vcells u) _ (HBR.out w1 (HB1.out.later hl.1)) hu rfl info_val) ?_
  simp only [Act.put, List.setIfInBounds_toArray, List.set_cons_zero, List.set_cons_succ]
  repeat (refine wpG_quiet (by rfl) (by rfl) (by rfl) (fun K hK => ?_); go_big_quiet_op; refine hK _ ?_; clear hK K)
  refine wpG_run (by rfl) (by rfl) (.agg (vcells v).toArray) (fun w1 hl => exec_load 25 (.tmp 40) rfl w.heap.size 2 rfl (vcells v) _ ((HB0.out.later hl.1).range 2 (vcells v) rfl) hu rfl info_val) ?_
  simp only [Act.put, List.setIfInBounds_toArray, List.set_cons_zero, List.set_cons_succ]
  refine wpG_run (by rfl) (by rfl) (.bool (decide (u = v))) (fun w1 hl => exec_eql 25 _ (.tmp 39) (.tmp 41) rfl _ _ rfl rfl guard_val (decide (u = v)) (eq_val 9998 u v _)) ?_
  simp only [Act.put, List.setIfInBounds_toArray, List.set_cons_zero, List.set_cons_succ]
  repeat (refine wpG_quiet (by rfl) (by rfl) (by rfl) (fun K hK => ?_); go_big_quiet_op; refine hK _ ?_; clear hK K)
  refine wpG_nil fun w1 hl hs => ?_
  go_wp2_with fail
  go_ret
  exact ⟨rfl, HBB.out.trans (hl.mono HBB.out.size)⟩
set_option maxRecDepth 100000 in
set_option maxHeartbeats 3200000 in
theorem rleaf_less (id ver : Int) (lab g : BitVec 32) (fs : List V3) (w : World) (hf : fs.length = 8) (hsz : ∀ u ∈ fs, u.2.2.size ≤ 1000) (k : Nat) (hk8 : k < 8) (v : V3) (hv : v.2.2.size ≤ 1000) :
    Calls Try.prog 32 #[.agg (ncells (7, (k : Int), v)).toArray, .agg (ccells id ver (lab.toNat : Int) fs).toArray, .int .u32 (g.toNat : Int)] w fun e w' => e = .returned (.bool (vless (fs.getD k zv) v)) ∧ Below w.heap.size w w' := by
  have hu := Try.underlying25
  have B0 := (Blk.new w (ncells (7, (k : Int), v)) 57).alloc (.cells (ccells id ver (lab.toNat : Int) fs).toArray 28)
  have B1 := Blk.new (w.alloc (.cells (ncells (7, (k : Int), v)).toArray 57)) (ccells id ver (lab.toNat : Int) fs) 28
  have hz1 : (w.alloc (.cells (ncells (7, (k : Int), v)).toArray 57)).heap.size = w.heap.size + 1 := by simp
  rw [hz1] at B1
  have hb : Below w.heap.size w ((w.alloc (.cells (ncells (7, (k : Int), v)).toArray 57)).alloc (.cells (ccells id ver (lab.toNat : Int) fs).toArray 28)) := ((Below.refl _ w).alloc (Nat.le_refl _) _).alloc (by simp) _
  have c0 := B0.cell (j := 0) rfl
  have n1 := B0.cell (j := 1) rfl
  have l2 := B1.cell (j := 2) rfl
  have hkf : k < fs.length := by omega
  have ek : fs.getD k zv = fs[k] := by rw [List.getD_eq_getElem?_getD, List.getElem?_eq_getElem hkf]; rfl
  rw [ek]
  have hus := hsz _ (List.getElem_mem hkf)
  obtain ⟨u, hU⟩ : ∃ u, u = fs[k] := ⟨_, rfl⟩
  have BR : ∀ wy, Blk wy (w.heap.size + 1) (ccells id ver (lab.toNat : Int) fs) → wy.rangeAt (w.heap.size + 1) (3 + k * 3) (vcells u) := fun wy h => by rw [hU]; exact h.fieldR k hkf
  rw [← hU] at hus ⊢
  have d8 : (k : Int) < 8 := by omega
  obtain ⟨na, hna⟩ : ∃ na, na = (ncells (7, (k : Int), v)).toArray := ⟨_, rfl⟩
  obtain ⟨cs, hcs⟩ : ∃ cs, cs = (ccells id ver (lab.toNat : Int) fs).toArray := ⟨_, rfl⟩
  rw [← hna, ← hcs] at c0 n1 l2 B0 hb ⊢
  rw [← hna, ← hcs] at B1
  have HB0 := Lib.hid B0
  have HB1 := Lib.hid B1
  have HBR := Lib.hid BR
  have HBB := Lib.hid hb
  clear hna hcs hz1 B0 B1 BR hf hsz ek hkf hU n1 l2 hb
  go_enter Try.func32, Try.ntmps32
  go_wp2_with fail
  refine wp_region_steady [] 73 (by kernel_rfl) (by kernel_rfl) (by kernel_rfl) (by rfl) ?_
  repeat (refine wpG_quiet (by rfl) (by rfl) (by rfl) (fun K hK => ?_); go_big_quiet_op; refine hK _ ?_; clear hK K)
  refine wpG_run (by rfl) (by rfl) (.int .i64 (k : Int)) (fun w1 hl => ?_) ?_
  · have n1 := (HB0.out.later hl.1).cell (j := 1) rfl
    simp [go_sem, n1]
  simp only [Act.put, List.setIfInBounds_toArray, List.set_cons_zero, List.set_cons_succ]
  repeat (refine wpG_quiet (by rfl) (by rfl) (by rfl) (fun K hK => ?_); go_big_quiet_op; refine hK _ ?_; clear hK K)
  refine wpG_run (by rfl) (by rfl) (.agg (vcells u).toArray) (fun w1 hl => exec_load 25 (.tmp 48) rfl (w.heap.size + 1) (3 + k * 3) rfl (vcells u) _ (HBR.out w1 (HB1.out.later hl.1)) hu rfl info_val) ?_
  simp only [Act.put, List.setIfInBounds_toArray, List.set_cons_zero, List.set_cons_succ]
  repeat (refine wpG_quiet (by rfl) (by rfl) (by rfl) (fun K hK => ?_); go_big_quiet_op; refine hK _ ?_; clear hK K)
  refine wpG_run (by rfl) (by rfl) (.agg (vcells v).toArray) (fun w1 hl => exec_load 25 (.tmp 50) rfl w.heap.size 2 rfl (vcells v) _ ((HB0.out.later hl.1).range 2 (vcells v) rfl) hu rfl info_val) ?_
  simp only [Act.put, List.setIfInBounds_toArray, List.set_cons_zero, List.set_cons_succ]
  refine wpG_call (by rfl) (by rfl) 45 #[.agg (vcells u).toArray, .agg (vcells v).toArray] (.bool (vless u v)) (by intro _; simp [go_sem]) (by kernel_rfl) (fun w1 hl => rless_any u v w1 hus hv) ?_
  simp only [Act.put, List.setIfInBounds_toArray, List.set_cons_zero, List.set_cons_succ]
  repeat (refine wpG_quiet (by rfl) (by rfl) (by rfl) (fun K hK => ?_); go_big_quiet_op; refine hK _ ?_; clear hK K)
  refine wpG_nil fun w1 hl hs => ?_
  go_wp2_with fail
  go_ret
  exact ⟨rfl, HBB.out.trans (hl.mono HBB.out.size)⟩
set_option maxRecDepth 100000 in
set_option maxHeartbeats 3200000 in
theorem rleaf_more (id ver : Int) (lab g : BitVec 32) (fs : List V3) (w : World) (hf : fs.length = 8) (hsz : ∀ u ∈ fs, u.2.2.size ≤ 1000) (k : Nat) (hk8 : k < 8) (v : V3) (hv : v.2.2.size ≤ 1000) :
    Calls Try.prog 32 #[.agg (ncells (8, (k : Int), v)).toArray, .agg (ccells id ver (lab.toNat : Int) fs).toArray, .int .u32 (g.toNat : Int)] w fun e w' => e = .returned (.bool (vless v (fs.getD k zv))) ∧ Below w.heap.size w w' := by
  have hu := Try.underlying25
  have B0 := (Blk.new w (ncells (8, (k : Int), v)) 57).alloc (.cells (ccells id ver (lab.toNat : Int) fs).toArray 28)
  have B1 := Blk.new (w.alloc (.cells (ncells (8, (k : Int), v)).toArray 57)) (ccells id ver (lab.toNat : Int) fs) 28
  have hz1 : (w.alloc (.cells (ncells (8, (k : Int), v)).toArray 57)).heap.size = w.heap.size + 1 := by simp
  rw [hz1] at B1
  have hb : Below w.heap.size w ((w.alloc (.cells (ncells (8, (k : Int), v)).toArray 57)).alloc (.cells (ccells id ver (lab.toNat : Int) fs).toArray 28)) := ((Below.refl _ w).alloc (Nat.le_refl _) _).alloc (by simp) _
  have c0 := B0.cell (j := 0) rfl
  have n1 := B0.cell (j := 1) rfl
  have l2 := B1.cell (j := 2) rfl
  have hkf : k < fs.length := by omega
  have ek : fs.getD k zv = fs[k] := by rw [List.getD_eq_getElem?_getD, List.getElem?_eq_getElem hkf]; rfl
  rw [ek]
  have hus := hsz _ (List.getElem_mem hkf)
  obtain ⟨u, hU⟩ : ∃ u, u = fs[k] := ⟨_, rfl⟩
  have BR : ∀ wy, Blk wy (w.heap.size + 1) (ccells id ver (lab.toNat : Int) fs) → wy.rangeAt (w.heap.size + 1) (3 + k * 3) (vcells u) := fun wy h => by rw [hU]; exact h.fieldR k hkf
  rw [← hU] at hus ⊢
  have d8 : (k : Int) < 8 := by omega
  obtain ⟨na, hna⟩ : ∃ na, na = (ncells (8, (k : Int), v)).toArray := ⟨_, rfl⟩
  obtain ⟨cs, hcs⟩ : ∃ cs, cs = (ccells id ver (lab.toNat : Int) fs).toArray := ⟨_, rfl⟩
  rw [← hna, ← hcs] at c0 n1 l2 B0 hb ⊢
  rw [← hna, ← hcs] at B1
  have HB0 := Lib.hid B0
  have HB1 := Lib.hid B1
  have HBR := Lib.hid BR
  have HBB := Lib.hid hb
  clear hna hcs hz1 B0 B1 BR hf hsz ek hkf hU n1 l2 hb
  go_enter Try.func32, Try.ntmps32
  go_wp2_with fail
  refine wp_region_steady [] 73 (by kernel_rfl) (by kernel_rfl) (by kernel_rfl) (by rfl) ?_
  repeat (refine wpG_quiet (by rfl) (by rfl) (by rfl) (fun K hK => ?_); go_big_quiet_op; refine hK _ ?_; clear hK K)
  refine wpG_run (by rfl) (by rfl) (.agg (vcells v).toArray) (fun w1 hl => exec_load 25 (.tmp 55) rfl w.heap.size 2 rfl (vcells v) _ ((HB0.out.later hl.1).range 2 (vcells v) rfl) hu rfl info_val) ?_
  simp only [Act.put, List.setIfInBounds_toArray, List.set_cons_zero, List.set_cons_succ]
  repeat (refine wpG_quiet (by rfl) (by rfl) (by rfl) (fun K hK => ?_); go_big_quiet_op; refine hK _ ?_; clear hK K)
  refine wpG_run (by rfl) (by rfl) (.int .i64 (k : Int)) (fun w1 hl => ?_) ?_
  · have n1 := (HB0.out.later hl.1).cell (j := 1) rfl
    simp [go_sem, n1]
  simp only [Act.put, List.setIfInBounds_toArray, List.set_cons_zero, List.set_cons_succ]
  repeat (refine wpG_quiet (by rfl) (by rfl) (by rfl) (fun K hK => ?_); go_big_quiet_op; refine hK _ ?_; clear hK K)
  refine wpG_run (by rfl) (by rfl) (.agg (vcells u).toArray) (fun w1 hl => exec_load 25 (.tmp 60) rfl (w.heap.size + 1) (3 + k * 3) rfl (vcells u) _ (HBR.out w1 (HB1.out.later hl.1)) hu rfl info_val) ?_
  simp only [Act.put, List.setIfInBounds_toArray, List.set_cons_zero, List.set_cons_succ]
  refine wpG_call (by rfl) (by rfl) 45 #[.agg (vcells v).toArray, .agg (vcells u).toArray] (.bool (vless v u)) (by intro _; simp [go_sem]) (by kernel_rfl) (fun w1 hl => rless_any v u w1 hv hus) ?_
  simp only [Act.put, List.setIfInBounds_toArray, List.set_cons_zero, List.set_cons_succ]
  repeat (refine wpG_quiet (by rfl) (by rfl) (by rfl) (fun K hK => ?_); go_big_quiet_op; refine hK _ ?_; clear hK K)
  refine wpG_nil fun w1 hl hs => ?_
  go_wp2_with fail
  go_ret
  exact ⟨rfl, HBB.out.trans (hl.mono HBB.out.size)⟩
set_option maxRecDepth 100000 in
set_option maxHeartbeats 3200000 in
theorem rleaf_holds (id ver : Int) (lab g : BitVec 32) (fs : List V3) (w : World) (hf : fs.length = 8) (hsz : ∀ u ∈ fs, u.2.2.size ≤ 1000) (k : Nat) (hk8 : k < 8) (v : V3) (hv : v.2.2.size ≤ 1000) :
    Calls Try.prog 32 #[.agg (ncells (9, (k : Int), v)).toArray, .agg (ccells id ver (lab.toNat : Int) fs).toArray, .int .u32 (g.toNat : Int)] w fun e w' => e = .returned (.bool (vholds (fs.getD k zv) v)) ∧ Below w.heap.size w w' := by
  have hu := Try.underlying25
  have B0 := (Blk.new w (ncells (9, (k : Int), v)) 57).alloc (.cells (ccells id ver (lab.toNat : Int) fs).toArray 28)
  have B1 := Blk.new (w.alloc (.cells (ncells (9, (k : Int), v)).toArray 57)) (ccells id ver (lab.toNat : Int) fs) 28
  have hz1 : (w.alloc (.cells (ncells (9, (k : Int), v)).toArray 57)).heap.size = w.heap.size + 1 := by simp
  rw [hz1] at B1
  have hb : Below w.heap.size w ((w.alloc (.cells (ncells (9, (k : Int), v)).toArray 57)).alloc (.cells (ccells id ver (lab.toNat : Int) fs).toArray 28)) := ((Below.refl _ w).alloc (Nat.le_refl _) _).alloc (by simp) _
  have c0 := B0.cell (j := 0) rfl
  have n1 := B0.cell (j := 1) rfl
  have l2 := B1.cell (j := 2) rfl
  have hkf : k < fs.length := by omega
  have ek : fs.getD k zv = fs[k] := by rw [List.getD_eq_getElem?_getD, List.getElem?_eq_getElem hkf]; rfl
  rw [ek]
  have hus := hsz _ (List.getElem_mem hkf)
  obtain ⟨u, hU⟩ : ∃ u, u = fs[k] := ⟨_, rfl⟩
  have BR : ∀ wy, Blk wy (w.heap.size + 1) (ccells id ver (lab.toNat : Int) fs) → wy.rangeAt (w.heap.size + 1) (3 + k * 3) (vcells u) := fun wy h => by rw [hU]; exact h.fieldR k hkf
  rw [← hU] at hus ⊢
  have d8 : (k : Int) < 8 := by omega
  obtain ⟨na, hna⟩ : ∃ na, na = (ncells (9, (k : Int), v)).toArray := ⟨_, rfl⟩
  obtain ⟨cs, hcs⟩ : ∃ cs, cs = (ccells id ver (lab.toNat : Int) fs).toArray := ⟨_, rfl⟩
  rw [← hna, ← hcs] at c0 n1 l2 B0 hb ⊢
  rw [← hna, ← hcs] at B1
  have HB0 := Lib.hid B0
  have HB1 := Lib.hid B1
  have HBR := Lib.hid BR
  have HBB := Lib.hid hb
  clear hna hcs hz1 B0 B1 BR hf hsz ek hkf hU n1 l2 hb
  go_enter Try.func32, Try.ntmps32
  go_wp2_with fail
  refine wp_region_steady [] 73 (by kernel_rfl) (by kernel_rfl) (by kernel_rfl) (by rfl) ?_
  repeat (refine wpG_quiet (by rfl) (by rfl) (by rfl) (fun K hK => ?_); go_big_quiet_op; refine hK _ ?_; clear hK K)
  refine wpG_run (by rfl) (by rfl) (.int .i64 (k : Int)) (fun w1 hl => ?_) ?_
  · have n1 := (HB0.out.later hl.1).cell (j := 1) rfl
    simp [go_sem, n1]
  simp only [Act.put, List.setIfInBounds_toArray, List.set_cons_zero, List.set_cons_succ]
  repeat (refine wpG_quiet (by rfl) (by rfl) (by rfl) (fun K hK => ?_); go_big_quiet_op; refine hK _ ?_; clear hK K)
  refine wpG_run (by rfl) (by rfl) (.agg (vcells u).toArray) (fun w1 hl => exec_load 25 (.tmp 68) rfl (w.heap.size + 1) (3 + k * 3) rfl (vcells u) _ (HBR.out w1 (HB1.out.later hl.1)) hu rfl info_val) ?_
  simp only [Act.put, List.setIfInBounds_toArray, List.set_cons_zero, List.set_cons_succ]
  repeat (refine wpG_quiet (by rfl) (by rfl) (by rfl) (fun K hK => ?_); go_big_quiet_op; refine hK _ ?_; clear hK K)
  refine wpG_run (by rfl) (by rfl) (.agg (vcells v).toArray) (fun w1 hl => exec_load 25 (.tmp 70) rfl w.heap.size 2 rfl (vcells v) _ ((HB0.out.later hl.1).range 2 (vcells v) rfl) hu rfl info_val) ?_
  simp only [Act.put, List.setIfInBounds_toArray, List.set_cons_zero, List.set_cons_succ]
  refine wpG_call (by rfl) (by rfl) 46 #[.agg (vcells u).toArray, .agg (vcells v).toArray] (.bool (vholds u v)) (by intro _; simp [go_sem]) (by kernel_rfl) (fun w1 hl => rholds_any u v w1 hus hv) ?_
  simp only [Act.put, List.setIfInBounds_toArray, List.set_cons_zero, List.set_cons_succ]
  repeat (refine wpG_quiet (by rfl) (by rfl) (by rfl) (fun K hK => ?_); go_big_quiet_op; refine hK _ ?_; clear hK K)
  refine wpG_nil fun w1 hl hs => ?_
  go_wp2_with fail
  go_ret
  exact ⟨rfl, HBB.out.trans (hl.mono HBB.out.size)⟩
theorem rleaf_any (x : Nd) (id ver : Int) (lab g : BitVec 32) (fs : List V3) (w : World) (hok : nok x = true) (h9 : x.1 ≤ 9) (hf : fs.length = 8) (hsz : ∀ u ∈ fs, u.2.2.size ≤ 1000) :
    Calls Try.prog 32 #[.agg (ncells x).toArray, .agg (ccells id ver (lab.toNat : Int) fs).toArray, .int .u32 (g.toNat : Int)] w fun e w' => e = .returned (.bool (leafv lab g fs x)) ∧ Below w.heap.size w w' := by
  have hop := nok_op hok
  have hstr := nok_str hok
  have hn := nok_n hok
  obtain ⟨op, nn, v⟩ := x
  unfold leafv
  dsimp only at *
  by_cases h5 : 5 ≤ op
  · obtain ⟨h0, h8⟩ := hn h5 h9
    obtain ⟨k, rfl⟩ : ∃ k : Nat, nn = (k : Int) := ⟨nn.toNat, by omega⟩
    have hk : k < 8 := by omega
    rw [Int.toNat_natCast]
    have : op = 5 ∨ op = 6 ∨ op = 7 ∨ op = 8 ∨ op = 9 := by omega
    rcases this with rfl | rfl | rfl | rfl | rfl
    · exact rleaf_has id ver lab g fs w hf hsz k hk v hstr
    · exact rleaf_eql id ver lab g fs w hf hsz k hk v hstr
    · exact rleaf_less id ver lab g fs w hf hsz k hk v hstr
    · exact rleaf_more id ver lab g fs w hf hsz k hk v hstr
    · exact rleaf_holds id ver lab g fs w hf hsz k hk v hstr
  · have : op = 1 ∨ op = 2 ∨ op = 3 ∨ op = 4 := by omega
    rcases this with rfl | rfl | rfl | rfl
    · exact rleaf_all id ver lab g fs w hf hsz nn v
    · exact rleaf_never id ver lab g fs w hf hsz nn v
    · exact rleaf_lab id ver lab g fs w hf hsz nn v
    · exact rleaf_grp id ver lab g fs w hf hsz nn v
end Go.Proofs.Ytfoppjgjljellaa

/- The document's Match: what a filter says of a card, and of its groups. -/
namespace Go.Proofs.Ytfoppjgjljellaa
set_option linter.unusedVariables false
set_option linter.unusedSimpArgs false
open Go Go.RowKit Go.Shelf BitM ValM

theorem rkids_tree (A : Option Addr) (n c : Nat) (x : Nd) (l' : List Nd) (w : World) (hn : (x :: l').length = n) (hs : Sees w w.heap.size A (ncs (x :: l'))) (hc : n ≤ c) (hm : n ≤ 65536) (hw : Wood (x :: l') 1) :
    Calls Try.prog 31 #[.slice A n c, .int .i64 0] w fun e w' => ∃ A c, e = .returned (.slice A (kidsOf l' (par x.1)).length c) ∧ Hid (KidsAt w' A (kidsOf l' (par x.1))) ∧ Below w.heap.size w w' := by
  obtain ⟨j, hj, h1⟩ := wood_cons hw
  obtain rfl : j = 0 := by omega
  rw [Nat.zero_add] at h1
  have h := rkids_any A n c (x :: l') 0 w hn hs hc hm (by simp) l'.length (by have h2 : endOf l' (par x.1) = some l'.length := h1; simpa using h2)
  have hK : kidsOf ((x :: l').drop (0 + 1)) (par (x :: l')[0].1) = kidsOf l' (par x.1) := by simp
  rw [hK] at h
  refine h.mono ?_
  rintro e w' ⟨A', c', vs, rfl, hr, hk, hb⟩
  refine ⟨A', c', rfl, Lib.hid (fun hp => ?_), hb⟩
  have hs := row_sees hr
  obtain ⟨b, o, e, hb, hc⟩ := hs (by rw [hk.1]; exact hp)
  refine ⟨b, o, e, hb, fun k hk2 => ?_⟩
  obtain ⟨A', c', h1, h2⟩ := hk.2 k hk2
  have hkv : k < vs.length := by rw [hk.1]; exact hk2
  refine ⟨A', c', ?_, row_sees h2, row_cap h2⟩
  rw [hc k hkv]
  rw [List.getElem?_eq_getElem hkv] at h1
  exact h1
def GivesB (w : World) (x : Bool) : Ending → World → Prop := fun e w' => e = .returned (.bool x) ∧ Below w.heap.size w w'
set_option maxRecDepth 100000 in
set_option maxHeartbeats 3200000 in
theorem rmatch_leaf (mm : Int) (A : Option Addr) (n c : Nat) (x : Nd) (l' : List Nd) (w : World) (id ver : Int) (lab g : BitVec 32) (fs : List V3) (hf : fs.length = 8) (hsz : ∀ u ∈ fs, u.2.2.size ≤ 1000) (hin : TreeIn mm A n c (x :: l') w) (hx : x.1 ≤ 9) :
    Calls Try.prog 16 #[.slice A n c, .agg (ccells id ver (lab.toNat : Int) fs).toArray, .int .u32 (g.toNat : Int)] w (GivesB w (ev lab g fs (x :: l'))) := by
  have hu := Try.underlying57
  have huc := Try.underlying28
  have hok := hin.ok x (by simp)
  have hop := nok_op hok
  obtain ⟨b, o, rfl, hb, _, _, hrg⟩ := sees_node hin.sees 0 (by simp)
  have hnx : (x :: l')[0] = x := rfl
  rw [hnx] at hrg
  have hn1 : (0 : Int) < (n : Int) := by have := hin.len; simp at this; omega
  have hl0 := (Below.refl w.heap.size w).alloc (Nat.le_refl _) (.cells (ccells id ver (lab.toNat : Int) fs).toArray 28)
  have BC := Blk.new w (ccells id ver (lab.toNat : Int) fs) 28
  have HK := Lib.hid (fun wx (h : Le w wx) => rkids_tree (some ⟨b, o, none⟩) n c x l' wx hin.len (hin.later h).sees hin.cap hin.max hin.wood)
  have HI := Lib.hid hin
  have hrg' : ∀ wx, Below w.heap.size w wx → wx.rangeAt b (o + 0 * 5) (ncells x) := fun wx h j v hj => (h.cell (p := ⟨b, o + 0 * 5 + j, none⟩) hb).trans (hrg j v hj)
  have HRG := Lib.hid hrg'
  have hop0 : ∀ wx, Below w.heap.size w wx → wx.cell? ⟨b, o, none⟩ = some (.int .i64 x.1) := fun wx h => (hrg' wx h) 0 _ rfl
  have HC := Lib.hid (ccells_len id ver (lab.toNat : Int) hf)
  have HF := Lib.hid hf
  have HSZ := Lib.hid hsz
  have HOK := Lib.hid hok
  obtain ⟨cs, hcs⟩ : ∃ cs, cs = (ccells id ver (lab.toNat : Int) fs) := ⟨_, rfl⟩
  have HCS := Lib.hid hcs
  rw [← hcs] at BC hl0 HC ⊢
  obtain ⟨ca, hca⟩ : ∃ ca, ca = cs.toArray := ⟨_, rfl⟩
  have HCA := Lib.hid hca
  rw [← hca] at hl0 BC ⊢
  have HBC := Lib.hid BC
  have HL0 := Lib.hid hl0
  have HLS := Lib.hid hl0.size
  obtain ⟨op, hop1⟩ : ∃ op, op = x.1 := ⟨_, rfl⟩
  rw [← hop1] at hop0
  obtain ⟨R, hR⟩ : ∃ R, R = ev lab g fs (x :: l') := ⟨_, rfl⟩
  rw [← hR]
  have HR := Lib.hid hR
  have HOP := Lib.hid hop0
  clear hrg' hrg hnx hop0 hcs hca BC hl0 hf hsz hin hR hok hb
  go_enter Try.func16, Try.ntmps16
  go_wp2_with fail
  refine (HK.out _ HL0.out).mono ?_
  rintro e w1 ⟨Ak, ck, rfl, hk, hb1⟩
  have HB1 := Lib.hid (HL0.out.trans (hb1.mono HLS.out))
  have HCB := Lib.hid (HBC.out.later hb1)
  have op0 := HOP.out w1 HB1.out
  clear hb1
  have b10 : (op == 10) = false := by rw [hop1]; simp; omega
  have b11 : (op == 11) = false := by rw [hop1]; simp; omega
  have b12 : (op == 12) = false := by rw [hop1]; simp; omega
  go_wp2_with fail
  clear hk
  refine wp_region_steady [] 61 (by kernel_rfl) (by kernel_rfl) (by kernel_rfl) (by rfl) ?_
  repeat (refine wpG_quiet (by rfl) (by rfl) (by rfl) (fun K hK => ?_); go_big_quiet_op; refine hK _ ?_; clear hK K)
  refine wpG_run (by rfl) (by rfl) (.agg (ncells x).toArray) (fun wx hl => exec_load 57 (.tmp 56) rfl b (o + 0 * 5) rfl (ncells x) _ (HRG.out wx (HB1.out.trans (hl.1.mono HB1.out.size))) hu rfl info_node) ?_
  simp only [Act.put, List.setIfInBounds_toArray, List.set_cons_zero, List.set_cons_succ]
  refine wpG_run (by rfl) (by rfl) (.agg ca) (fun wx hl => by rw [HCA.out]; exact exec_load 28 (.tmp 4) rfl w.heap.size 0 rfl cs _ ((HCB.out.later hl.1).range 0 cs (by rw [List.drop_zero, List.take_length])) huc rfl (by rw [HC.out]; exact info_crd)) ?_
  simp only [Act.put, List.setIfInBounds_toArray, List.set_cons_zero, List.set_cons_succ]
  repeat (refine wpG_quiet (by rfl) (by rfl) (by rfl) (fun K hK => ?_); go_big_quiet_op; refine hK _ ?_; clear hK K)
  refine wpG_call (by rfl) (by rfl) 32 #[.agg (ncells x).toArray, .agg ca, .int .u32 (g.toNat : Int)] (.bool (leafv lab g fs x)) (by intro _; simp [go_sem]) (by kernel_rfl) (fun wx hl => by rw [HCA.out, HCS.out]; exact rleaf_any x id ver lab g fs wx HOK.out hx HF.out HSZ.out) ?_
  simp only [Act.put, List.setIfInBounds_toArray, List.set_cons_zero, List.set_cons_succ]
  repeat (refine wpG_quiet (by rfl) (by rfl) (by rfl) (fun K hK => ?_); go_big_quiet_op; refine hK _ ?_; clear hK K)
  refine wpG_nil fun wz hl hs => ?_
  go_wp2_with fail
  go_ret
  exact ⟨by rw [HR.out, ev_leaf (by omega) (by omega) (by omega)]; rfl, HB1.out.trans (hl.mono HB1.out.size)⟩
set_option maxRecDepth 100000 in
set_option maxHeartbeats 3200000 in
theorem rmatch_one (mm : Int) (A : Option Addr) (n c : Nat) (x : Nd) (l' : List Nd) (w : World) (id ver : Int) (lab g : BitVec 32) (fs : List V3) (hf : fs.length = 8) (hsz : ∀ u ∈ fs, u.2.2.size ≤ 1000) (hin : TreeIn mm A n c (x :: l') w) (hx : x.1 = 10) (IH : ∀ A n c w, TreeIn mm A n c l' w → Calls Try.prog 16 #[.slice A n c, .agg (ccells id ver (lab.toNat : Int) fs).toArray, .int .u32 (g.toNat : Int)] w (GivesB w (ev lab g fs l'))) :
    Calls Try.prog 16 #[.slice A n c, .agg (ccells id ver (lab.toNat : Int) fs).toArray, .int .u32 (g.toNat : Int)] w (GivesB w (ev lab g fs (x :: l'))) := by
  have hu := Try.underlying57
  have huc := Try.underlying28
  have hok := hin.ok x (by simp)
  have hop := nok_op hok
  obtain ⟨b, o, rfl, hb, _, _, hrg⟩ := sees_node hin.sees 0 (by simp)
  have hnx : (x :: l')[0] = x := rfl
  rw [hnx] at hrg
  have hn1 : (0 : Int) < (n : Int) := by have := hin.len; simp at this; omega
  have hl0 := (Below.refl w.heap.size w).alloc (Nat.le_refl _) (.cells (ccells id ver (lab.toNat : Int) fs).toArray 28)
  have BC := Blk.new w (ccells id ver (lab.toNat : Int) fs) 28
  have HK := Lib.hid (fun wx (h : Le w wx) => rkids_tree (some ⟨b, o, none⟩) n c x l' wx hin.len (hin.later h).sees hin.cap hin.max hin.wood)
  have HI := Lib.hid hin
  have hrg' : ∀ wx, Below w.heap.size w wx → wx.rangeAt b (o + 0 * 5) (ncells x) := fun wx h j v hj => (h.cell (p := ⟨b, o + 0 * 5 + j, none⟩) hb).trans (hrg j v hj)
  have HRG := Lib.hid hrg'
  have hop0 : ∀ wx, Below w.heap.size w wx → wx.cell? ⟨b, o, none⟩ = some (.int .i64 x.1) := fun wx h => (hrg' wx h) 0 _ rfl
  have HC := Lib.hid (ccells_len id ver (lab.toNat : Int) hf)
  have HF := Lib.hid hf
  have HSZ := Lib.hid hsz
  have HOK := Lib.hid hok
  have hwl : Wood l' 1 := by
    obtain ⟨j, hj, h1⟩ := wood_cons hin.wood
    obtain rfl : j = 0 := by omega
    rwa [Nat.zero_add, show par x.1 = 1 from by rw [hx]; rfl] at h1
  have hpk : kidsOf l' (par x.1) = [l'] := by rw [show par x.1 = 1 from by rw [hx]; rfl]; exact kids_one hwl
  rw [hpk, show ([l'] : List (List Nd)).length = 1 from rfl] at HK
  have HIH := Lib.hid IH
  have HWL := Lib.hid hwl
  clear IH hwl hpk
  obtain ⟨cs, hcs⟩ : ∃ cs, cs = (ccells id ver (lab.toNat : Int) fs) := ⟨_, rfl⟩
  have HCS := Lib.hid hcs
  rw [← hcs] at BC hl0 HC HIH ⊢
  obtain ⟨ca, hca⟩ : ∃ ca, ca = cs.toArray := ⟨_, rfl⟩
  have HCA := Lib.hid hca
  rw [← hca] at hl0 BC HIH ⊢
  have HBC := Lib.hid BC
  have HL0 := Lib.hid hl0
  have HLS := Lib.hid hl0.size
  obtain ⟨op, hop1⟩ : ∃ op, op = x.1 := ⟨_, rfl⟩
  rw [← hop1] at hop0
  obtain ⟨R, hR⟩ : ∃ R, R = ev lab g fs (x :: l') := ⟨_, rfl⟩
  rw [← hR]
  have HR := Lib.hid hR
  have HOP := Lib.hid hop0
  clear hrg' hrg hnx hop0 hcs hca BC hl0 hf hsz hin hR hok hb
  go_enter Try.func16, Try.ntmps16
  go_wp2_with fail
  refine (HK.out _ HL0.out).mono ?_
  rintro e w1 ⟨Ak, ck, rfl, hk, hb1⟩
  have HB1 := Lib.hid (HL0.out.trans (hb1.mono HLS.out))
  have HCB := Lib.hid (HBC.out.later hb1)
  have op0 := HOP.out w1 HB1.out
  clear hb1
  have hkk := hk.out
  obtain ⟨bk, ok, rfl, hbk, hkk⟩ := hkk (by simp)
  obtain ⟨A0, c0', hc0, hs0, hcap⟩ := hkk 0 (by simp)
  have hl0 : ([l'] : List (List Nd))[0] = l' := rfl
  rw [hl0] at hc0 hs0 hcap
  have HKC := Lib.hid (fun wx (h : Below w1.heap.size w1 wx) => (h.cell (p := ⟨bk, ok, none⟩) hbk).trans hc0)
  have HIN := Lib.hid (fun wx (h : Below w1.heap.size w1 wx) => (show TreeIn mm A0 l'.length c0' l' wx from ⟨rfl, (hs0.below h).more h.size, hcap, by have h1 := HI.out.len; have h2 := HI.out.max; simp at h1; omega, HWL.out, fun y hy => HI.out.ok y (List.mem_cons_of_mem _ hy), HI.out.mem.later (HB1.out.trans (h.mono HB1.out.size))⟩))
  clear hkk hk hs0 hcap hc0 hbk hl0
  have b10 : (op == 10) = true := by rw [hop1, hx]; rfl
  go_wp2_with fail
  obtain ⟨R1, hR1⟩ : ∃ R1, R1 = ev lab g fs l' := ⟨_, rfl⟩
  rw [← hR1] at HIH
  refine wp_region_steady [] 61 (by kernel_rfl) (by kernel_rfl) (by kernel_rfl) (by rfl) ?_
  repeat (refine wpG_quiet (by rfl) (by rfl) (by rfl) (fun K hK => ?_); go_big_quiet_op; refine hK _ ?_; clear hK K)
  refine wpG_run (by rfl) (by rfl) (.slice A0 l'.length c0') (fun wx hl => ?_) ?_
  · have kc := HKC.out wx hl.1
    simp [go_sem, kc]
  simp only [Act.put, List.setIfInBounds_toArray, List.set_cons_zero, List.set_cons_succ]
  refine wpG_run (by rfl) (by rfl) (.agg ca) (fun wx hl => by rw [HCA.out]; exact exec_load 28 (.tmp 4) rfl w.heap.size 0 rfl cs _ ((HCB.out.later hl.1).range 0 cs (by rw [List.drop_zero, List.take_length])) huc rfl (by rw [HC.out]; exact info_crd)) ?_
  simp only [Act.put, List.setIfInBounds_toArray, List.set_cons_zero, List.set_cons_succ]
  repeat (refine wpG_quiet (by rfl) (by rfl) (by rfl) (fun K hK => ?_); go_big_quiet_op; refine hK _ ?_; clear hK K)
  refine wpG_call (by rfl) (by rfl) 16 #[.slice A0 l'.length c0', .agg ca, .int .u32 (g.toNat : Int)] (.bool R1) (by intro _; simp [go_sem]) (by kernel_rfl) (fun wx hl => HIH.out _ _ _ _ (HIN.out wx hl.1)) ?_
  simp only [Act.put, List.setIfInBounds_toArray, List.set_cons_zero, List.set_cons_succ]
  repeat (refine wpG_quiet (by rfl) (by rfl) (by rfl) (fun K hK => ?_); go_big_quiet_op; refine hK _ ?_; clear hK K)
  refine wpG_nil fun wz hl hs => ?_
  go_wp2_with fail
  go_ret
  exact ⟨by rw [HR.out, ev_not hx, ← hR1]; rfl, HB1.out.trans (hl.mono HB1.out.size)⟩
set_option maxRecDepth 100000 in
set_option maxHeartbeats 3200000 in
theorem rmatch_and (mm : Int) (A : Option Addr) (n c : Nat) (x : Nd) (l' : List Nd) (w : World) (id ver : Int) (lab g : BitVec 32) (fs : List V3) (hf : fs.length = 8) (hsz : ∀ u ∈ fs, u.2.2.size ≤ 1000) (hin : TreeIn mm A n c (x :: l') w) (hx : x.1 = 11) (IH : ∀ l2, l2.length < (x :: l').length → ∀ A n c w, TreeIn mm A n c l2 w → Calls Try.prog 16 #[.slice A n c, .agg (ccells id ver (lab.toNat : Int) fs).toArray, .int .u32 (g.toNat : Int)] w (GivesB w (ev lab g fs l2))) :
    Calls Try.prog 16 #[.slice A n c, .agg (ccells id ver (lab.toNat : Int) fs).toArray, .int .u32 (g.toNat : Int)] w (GivesB w (ev lab g fs (x :: l'))) := by
  have hu := Try.underlying57
  have huc := Try.underlying28
  have hok := hin.ok x (by simp)
  have hop := nok_op hok
  obtain ⟨b, o, rfl, hb, _, _, hrg⟩ := sees_node hin.sees 0 (by simp)
  have hnx : (x :: l')[0] = x := rfl
  rw [hnx] at hrg
  have hn1 : (0 : Int) < (n : Int) := by have := hin.len; simp at this; omega
  have hl0 := (Below.refl w.heap.size w).alloc (Nat.le_refl _) (.cells (ccells id ver (lab.toNat : Int) fs).toArray 28)
  have BC := Blk.new w (ccells id ver (lab.toNat : Int) fs) 28
  have HK := Lib.hid (fun wx (h : Le w wx) => rkids_tree (some ⟨b, o, none⟩) n c x l' wx hin.len (hin.later h).sees hin.cap hin.max hin.wood)
  have HI := Lib.hid hin
  have hrg' : ∀ wx, Below w.heap.size w wx → wx.rangeAt b (o + 0 * 5) (ncells x) := fun wx h j v hj => (h.cell (p := ⟨b, o + 0 * 5 + j, none⟩) hb).trans (hrg j v hj)
  have HRG := Lib.hid hrg'
  have hop0 : ∀ wx, Below w.heap.size w wx → wx.cell? ⟨b, o, none⟩ = some (.int .i64 x.1) := fun wx h => (hrg' wx h) 0 _ rfl
  have HC := Lib.hid (ccells_len id ver (lab.toNat : Int) hf)
  have HF := Lib.hid hf
  have HSZ := Lib.hid hsz
  have HOK := Lib.hid hok
  have hwl : Wood l' 2 := by
    obtain ⟨j, hj, h1⟩ := wood_cons hin.wood
    obtain rfl : j = 0 := by omega
    rwa [Nat.zero_add, show par x.1 = 2 from by rw [hx]; rfl] at h1
  obtain ⟨p, q, hpq, hwp, hwq, hpk⟩ := kids_two hwl
  rw [show par x.1 = 2 from by rw [hx]; rfl, hpk, show ([p, q] : List (List Nd)).length = 2 from rfl] at HK
  subst hpq
  have HP := Lib.hid (fun A n c w h => IH p (by simp; omega) A n c w h)
  have HQ := Lib.hid (fun A n c w h => IH q (by simp; omega) A n c w h)
  have HWP := Lib.hid hwp
  have HWQ := Lib.hid hwq
  clear IH hwl hpk hwp hwq
  obtain ⟨cs, hcs⟩ : ∃ cs, cs = (ccells id ver (lab.toNat : Int) fs) := ⟨_, rfl⟩
  have HCS := Lib.hid hcs
  rw [← hcs] at BC hl0 HC HP HQ ⊢
  obtain ⟨ca, hca⟩ : ∃ ca, ca = cs.toArray := ⟨_, rfl⟩
  have HCA := Lib.hid hca
  rw [← hca] at hl0 BC HP HQ ⊢
  have HBC := Lib.hid BC
  have HL0 := Lib.hid hl0
  have HLS := Lib.hid hl0.size
  obtain ⟨op, hop1⟩ : ∃ op, op = x.1 := ⟨_, rfl⟩
  rw [← hop1] at hop0
  obtain ⟨R, hR⟩ : ∃ R, R = ev lab g fs (x :: (p ++ q)) := ⟨_, rfl⟩
  rw [← hR]
  have HR := Lib.hid hR
  have HOP := Lib.hid hop0
  clear hrg' hrg hnx hop0 hcs hca BC hl0 hf hsz hin hR hok hb
  go_enter Try.func16, Try.ntmps16
  go_wp2_with fail
  refine (HK.out _ HL0.out).mono ?_
  rintro e w1 ⟨Ak, ck, rfl, hk, hb1⟩
  have HB1 := Lib.hid (HL0.out.trans (hb1.mono HLS.out))
  have HCB := Lib.hid (HBC.out.later hb1)
  have op0 := HOP.out w1 HB1.out
  clear hb1
  have hkk := hk.out
  obtain ⟨bk, ok, rfl, hbk, hkk⟩ := hkk (by simp)
  obtain ⟨A0, c0', hc0, hs0, hcap0⟩ := hkk 0 (by simp)
  obtain ⟨A1, c1', hc1, hs1, hcap1⟩ := hkk 1 (by simp)
  have hl0 : ([p, q] : List (List Nd))[0] = p := rfl
  have hl1 : ([p, q] : List (List Nd))[1] = q := rfl
  rw [hl0] at hc0 hs0 hcap0
  rw [hl1] at hc1 hs1 hcap1
  have KC0 := Lib.hid (fun wx (h : Below w1.heap.size w1 wx) => (h.cell (p := ⟨bk, ok, none⟩) hbk).trans hc0)
  have KC1 := Lib.hid (fun wx (h : Below w1.heap.size w1 wx) => (h.cell (p := ⟨bk, ok + 1, none⟩) hbk).trans hc1)
  have IN0 := Lib.hid (fun wx (h : Below w1.heap.size w1 wx) => (show TreeIn mm A0 p.length c0' p wx from ⟨rfl, (hs0.below h).more h.size, hcap0, by have h1 := HI.out.len; have h2 := HI.out.max; simp at h1; omega, HWP.out, fun y hy => HI.out.ok y (by simp [hy]), HI.out.mem.later (HB1.out.trans (h.mono HB1.out.size))⟩))
  have IN1 := Lib.hid (fun wx (h : Below w1.heap.size w1 wx) => (show TreeIn mm A1 q.length c1' q wx from ⟨rfl, (hs1.below h).more h.size, hcap1, by have h1 := HI.out.len; have h2 := HI.out.max; simp at h1; omega, HWQ.out, fun y hy => HI.out.ok y (by simp [hy]), HI.out.mem.later (HB1.out.trans (h.mono HB1.out.size))⟩))
  clear hkk hk hs0 hcap0 hs1 hcap1 hc0 hc1 hl0 hl1 hbk
  have b10 : (op == 10) = false := by rw [hop1, hx]; rfl
  have b11 : (op == 11) = true := by rw [hop1, hx]; rfl
  go_wp2_with fail
  obtain ⟨R1, hR1⟩ : ∃ R1, R1 = ev lab g fs p := ⟨_, rfl⟩
  obtain ⟨R2, hR2⟩ : ∃ R2, R2 = ev lab g fs q := ⟨_, rfl⟩
  rw [← hR1] at HP
  rw [← hR2] at HQ
  have HE1 := Lib.hid hR1
  have HE2 := Lib.hid hR2
  clear hR1 hR2
  refine wp_region_steady [] 61 (by kernel_rfl) (by kernel_rfl) (by kernel_rfl) (by rfl) ?_
  repeat (refine wpG_quiet (by rfl) (by rfl) (by rfl) (fun K hK => ?_); go_big_quiet_op; refine hK _ ?_; clear hK K)
  refine wpG_run (by rfl) (by rfl) (.slice A0 p.length c0') (fun wx hl => ?_) ?_
  · have kc := KC0.out wx hl.1
    simp [go_sem, kc]
  simp only [Act.put, List.setIfInBounds_toArray, List.set_cons_zero, List.set_cons_succ]
  refine wpG_run (by rfl) (by rfl) (.agg ca) (fun wx hl => by rw [HCA.out]; exact exec_load 28 (.tmp 4) rfl w.heap.size 0 rfl cs _ ((HCB.out.later hl.1).range 0 cs (by rw [List.drop_zero, List.take_length])) huc rfl (by rw [HC.out]; exact info_crd)) ?_
  simp only [Act.put, List.setIfInBounds_toArray, List.set_cons_zero, List.set_cons_succ]
  repeat (refine wpG_quiet (by rfl) (by rfl) (by rfl) (fun K hK => ?_); go_big_quiet_op; refine hK _ ?_; clear hK K)
  refine wpG_call (by rfl) (by rfl) 16 #[.slice A0 p.length c0', .agg ca, .int .u32 (g.toNat : Int)] (.bool R1) (by intro _; simp [go_sem]) (by kernel_rfl) (fun wx hl => HP.out _ _ _ _ (IN0.out wx hl.1)) ?_
  simp only [Act.put, List.setIfInBounds_toArray, List.set_cons_zero, List.set_cons_succ]
  cases R1
  · refine wpG_quiet (by rfl) (by rfl) (by rfl) (fun K hK => ?_); go_big_quiet_op; refine hK _ ?_; clear hK K
    iterate 6 (refine wpG_skip (by rfl) ?_; simp only [Act.put, List.setIfInBounds_toArray, List.set_cons_zero, List.set_cons_succ])
    repeat (refine wpG_quiet (by rfl) (by rfl) (by rfl) (fun K hK => ?_); go_big_quiet_op; refine hK _ ?_; clear hK K)
    refine wpG_nil fun wz hl hs => ?_
    go_wp2_with fail
    go_ret
    exact ⟨by rw [HR.out, ev_and hx HWP.out, ← HE1.out]; rfl, HB1.out.trans (hl.mono HB1.out.size)⟩
  · refine wpG_quiet (by rfl) (by rfl) (by rfl) (fun K hK => ?_); go_big_quiet_op; refine hK _ ?_; clear hK K
    repeat (refine wpG_quiet (by rfl) (by rfl) (by rfl) (fun K hK => ?_); go_big_quiet_op; refine hK _ ?_; clear hK K)
    refine wpG_run (by rfl) (by rfl) (.slice A1 q.length c1') (fun wx hl => ?_) ?_
    · have kc := KC1.out wx hl.1
      simp [go_sem, kc]
    simp only [Act.put, List.setIfInBounds_toArray, List.set_cons_zero, List.set_cons_succ]
    refine wpG_run (by rfl) (by rfl) (.agg ca) (fun wx hl => by rw [HCA.out]; exact exec_load 28 (.tmp 4) rfl w.heap.size 0 rfl cs _ ((HCB.out.later hl.1).range 0 cs (by rw [List.drop_zero, List.take_length])) huc rfl (by rw [HC.out]; exact info_crd)) ?_
    simp only [Act.put, List.setIfInBounds_toArray, List.set_cons_zero, List.set_cons_succ]
    repeat (refine wpG_quiet (by rfl) (by rfl) (by rfl) (fun K hK => ?_); go_big_quiet_op; refine hK _ ?_; clear hK K)
    refine wpG_call (by rfl) (by rfl) 16 #[.slice A1 q.length c1', .agg ca, .int .u32 (g.toNat : Int)] (.bool R2) (by intro _; simp [go_sem]) (by kernel_rfl) (fun wx hl => HQ.out _ _ _ _ (IN1.out wx hl.1)) ?_
    simp only [Act.put, List.setIfInBounds_toArray, List.set_cons_zero, List.set_cons_succ]
    repeat (refine wpG_quiet (by rfl) (by rfl) (by rfl) (fun K hK => ?_); go_big_quiet_op; refine hK _ ?_; clear hK K)
    refine wpG_nil fun wz hl hs => ?_
    go_wp2_with fail
    go_ret
    exact ⟨by rw [HR.out, ev_and hx HWP.out, ← HE1.out, ← HE2.out]; rfl, HB1.out.trans (hl.mono HB1.out.size)⟩
set_option maxRecDepth 100000 in
set_option maxHeartbeats 3200000 in
theorem rmatch_or (mm : Int) (A : Option Addr) (n c : Nat) (x : Nd) (l' : List Nd) (w : World) (id ver : Int) (lab g : BitVec 32) (fs : List V3) (hf : fs.length = 8) (hsz : ∀ u ∈ fs, u.2.2.size ≤ 1000) (hin : TreeIn mm A n c (x :: l') w) (hx : x.1 = 12) (IH : ∀ l2, l2.length < (x :: l').length → ∀ A n c w, TreeIn mm A n c l2 w → Calls Try.prog 16 #[.slice A n c, .agg (ccells id ver (lab.toNat : Int) fs).toArray, .int .u32 (g.toNat : Int)] w (GivesB w (ev lab g fs l2))) :
    Calls Try.prog 16 #[.slice A n c, .agg (ccells id ver (lab.toNat : Int) fs).toArray, .int .u32 (g.toNat : Int)] w (GivesB w (ev lab g fs (x :: l'))) := by
  have hu := Try.underlying57
  have huc := Try.underlying28
  have hok := hin.ok x (by simp)
  have hop := nok_op hok
  obtain ⟨b, o, rfl, hb, _, _, hrg⟩ := sees_node hin.sees 0 (by simp)
  have hnx : (x :: l')[0] = x := rfl
  rw [hnx] at hrg
  have hn1 : (0 : Int) < (n : Int) := by have := hin.len; simp at this; omega
  have hl0 := (Below.refl w.heap.size w).alloc (Nat.le_refl _) (.cells (ccells id ver (lab.toNat : Int) fs).toArray 28)
  have BC := Blk.new w (ccells id ver (lab.toNat : Int) fs) 28
  have HK := Lib.hid (fun wx (h : Le w wx) => rkids_tree (some ⟨b, o, none⟩) n c x l' wx hin.len (hin.later h).sees hin.cap hin.max hin.wood)
  have HI := Lib.hid hin
  have hrg' : ∀ wx, Below w.heap.size w wx → wx.rangeAt b (o + 0 * 5) (ncells x) := fun wx h j v hj => (h.cell (p := ⟨b, o + 0 * 5 + j, none⟩) hb).trans (hrg j v hj)
  have HRG := Lib.hid hrg'
  have hop0 : ∀ wx, Below w.heap.size w wx → wx.cell? ⟨b, o, none⟩ = some (.int .i64 x.1) := fun wx h => (hrg' wx h) 0 _ rfl
  have HC := Lib.hid (ccells_len id ver (lab.toNat : Int) hf)
  have HF := Lib.hid hf
  have HSZ := Lib.hid hsz
  have HOK := Lib.hid hok
  have hwl : Wood l' 2 := by
    obtain ⟨j, hj, h1⟩ := wood_cons hin.wood
    obtain rfl : j = 0 := by omega
    rwa [Nat.zero_add, show par x.1 = 2 from by rw [hx]; rfl] at h1
  obtain ⟨p, q, hpq, hwp, hwq, hpk⟩ := kids_two hwl
  rw [show par x.1 = 2 from by rw [hx]; rfl, hpk, show ([p, q] : List (List Nd)).length = 2 from rfl] at HK
  subst hpq
  have HP := Lib.hid (fun A n c w h => IH p (by simp; omega) A n c w h)
  have HQ := Lib.hid (fun A n c w h => IH q (by simp; omega) A n c w h)
  have HWP := Lib.hid hwp
  have HWQ := Lib.hid hwq
  clear IH hwl hpk hwp hwq
  obtain ⟨cs, hcs⟩ : ∃ cs, cs = (ccells id ver (lab.toNat : Int) fs) := ⟨_, rfl⟩
  have HCS := Lib.hid hcs
  rw [← hcs] at BC hl0 HC HP HQ ⊢
  obtain ⟨ca, hca⟩ : ∃ ca, ca = cs.toArray := ⟨_, rfl⟩
  have HCA := Lib.hid hca
  rw [← hca] at hl0 BC HP HQ ⊢
  have HBC := Lib.hid BC
  have HL0 := Lib.hid hl0
  have HLS := Lib.hid hl0.size
  obtain ⟨op, hop1⟩ : ∃ op, op = x.1 := ⟨_, rfl⟩
  rw [← hop1] at hop0
  obtain ⟨R, hR⟩ : ∃ R, R = ev lab g fs (x :: (p ++ q)) := ⟨_, rfl⟩
  rw [← hR]
  have HR := Lib.hid hR
  have HOP := Lib.hid hop0
  clear hrg' hrg hnx hop0 hcs hca BC hl0 hf hsz hin hR hok hb
  go_enter Try.func16, Try.ntmps16
  go_wp2_with fail
  refine (HK.out _ HL0.out).mono ?_
  rintro e w1 ⟨Ak, ck, rfl, hk, hb1⟩
  have HB1 := Lib.hid (HL0.out.trans (hb1.mono HLS.out))
  have HCB := Lib.hid (HBC.out.later hb1)
  have op0 := HOP.out w1 HB1.out
  clear hb1
  have hkk := hk.out
  obtain ⟨bk, ok, rfl, hbk, hkk⟩ := hkk (by simp)
  obtain ⟨A0, c0', hc0, hs0, hcap0⟩ := hkk 0 (by simp)
  obtain ⟨A1, c1', hc1, hs1, hcap1⟩ := hkk 1 (by simp)
  have hl0 : ([p, q] : List (List Nd))[0] = p := rfl
  have hl1 : ([p, q] : List (List Nd))[1] = q := rfl
  rw [hl0] at hc0 hs0 hcap0
  rw [hl1] at hc1 hs1 hcap1
  have KC0 := Lib.hid (fun wx (h : Below w1.heap.size w1 wx) => (h.cell (p := ⟨bk, ok, none⟩) hbk).trans hc0)
  have KC1 := Lib.hid (fun wx (h : Below w1.heap.size w1 wx) => (h.cell (p := ⟨bk, ok + 1, none⟩) hbk).trans hc1)
  have IN0 := Lib.hid (fun wx (h : Below w1.heap.size w1 wx) => (show TreeIn mm A0 p.length c0' p wx from ⟨rfl, (hs0.below h).more h.size, hcap0, by have h1 := HI.out.len; have h2 := HI.out.max; simp at h1; omega, HWP.out, fun y hy => HI.out.ok y (by simp [hy]), HI.out.mem.later (HB1.out.trans (h.mono HB1.out.size))⟩))
  have IN1 := Lib.hid (fun wx (h : Below w1.heap.size w1 wx) => (show TreeIn mm A1 q.length c1' q wx from ⟨rfl, (hs1.below h).more h.size, hcap1, by have h1 := HI.out.len; have h2 := HI.out.max; simp at h1; omega, HWQ.out, fun y hy => HI.out.ok y (by simp [hy]), HI.out.mem.later (HB1.out.trans (h.mono HB1.out.size))⟩))
  clear hkk hk hs0 hcap0 hs1 hcap1 hc0 hc1 hl0 hl1 hbk
  have b10 : (op == 10) = false := by rw [hop1, hx]; rfl
  have b11 : (op == 11) = false := by rw [hop1, hx]; rfl
  have b12 : (op == 12) = true := by rw [hop1, hx]; rfl
  go_wp2_with fail
  obtain ⟨R1, hR1⟩ : ∃ R1, R1 = ev lab g fs p := ⟨_, rfl⟩
  obtain ⟨R2, hR2⟩ : ∃ R2, R2 = ev lab g fs q := ⟨_, rfl⟩
  rw [← hR1] at HP
  rw [← hR2] at HQ
  have HE1 := Lib.hid hR1
  have HE2 := Lib.hid hR2
  clear hR1 hR2
  refine wp_region_steady [] 61 (by kernel_rfl) (by kernel_rfl) (by kernel_rfl) (by rfl) ?_
  repeat (refine wpG_quiet (by rfl) (by rfl) (by rfl) (fun K hK => ?_); go_big_quiet_op; refine hK _ ?_; clear hK K)
  refine wpG_run (by rfl) (by rfl) (.slice A0 p.length c0') (fun wx hl => ?_) ?_
  · have kc := KC0.out wx hl.1
    simp [go_sem, kc]
  simp only [Act.put, List.setIfInBounds_toArray, List.set_cons_zero, List.set_cons_succ]
  refine wpG_run (by rfl) (by rfl) (.agg ca) (fun wx hl => by rw [HCA.out]; exact exec_load 28 (.tmp 4) rfl w.heap.size 0 rfl cs _ ((HCB.out.later hl.1).range 0 cs (by rw [List.drop_zero, List.take_length])) huc rfl (by rw [HC.out]; exact info_crd)) ?_
  simp only [Act.put, List.setIfInBounds_toArray, List.set_cons_zero, List.set_cons_succ]
  repeat (refine wpG_quiet (by rfl) (by rfl) (by rfl) (fun K hK => ?_); go_big_quiet_op; refine hK _ ?_; clear hK K)
  refine wpG_call (by rfl) (by rfl) 16 #[.slice A0 p.length c0', .agg ca, .int .u32 (g.toNat : Int)] (.bool R1) (by intro _; simp [go_sem]) (by kernel_rfl) (fun wx hl => HP.out _ _ _ _ (IN0.out wx hl.1)) ?_
  simp only [Act.put, List.setIfInBounds_toArray, List.set_cons_zero, List.set_cons_succ]
  cases R1
  · refine wpG_quiet (by rfl) (by rfl) (by rfl) (fun K hK => ?_); go_big_quiet_op; refine hK _ ?_; clear hK K
    repeat (refine wpG_quiet (by rfl) (by rfl) (by rfl) (fun K hK => ?_); go_big_quiet_op; refine hK _ ?_; clear hK K)
    refine wpG_run (by rfl) (by rfl) (.slice A1 q.length c1') (fun wx hl => ?_) ?_
    · have kc := KC1.out wx hl.1
      simp [go_sem, kc]
    simp only [Act.put, List.setIfInBounds_toArray, List.set_cons_zero, List.set_cons_succ]
    refine wpG_run (by rfl) (by rfl) (.agg ca) (fun wx hl => by rw [HCA.out]; exact exec_load 28 (.tmp 4) rfl w.heap.size 0 rfl cs _ ((HCB.out.later hl.1).range 0 cs (by rw [List.drop_zero, List.take_length])) huc rfl (by rw [HC.out]; exact info_crd)) ?_
    simp only [Act.put, List.setIfInBounds_toArray, List.set_cons_zero, List.set_cons_succ]
    repeat (refine wpG_quiet (by rfl) (by rfl) (by rfl) (fun K hK => ?_); go_big_quiet_op; refine hK _ ?_; clear hK K)
    refine wpG_call (by rfl) (by rfl) 16 #[.slice A1 q.length c1', .agg ca, .int .u32 (g.toNat : Int)] (.bool R2) (by intro _; simp [go_sem]) (by kernel_rfl) (fun wx hl => HQ.out _ _ _ _ (IN1.out wx hl.1)) ?_
    simp only [Act.put, List.setIfInBounds_toArray, List.set_cons_zero, List.set_cons_succ]
    repeat (refine wpG_quiet (by rfl) (by rfl) (by rfl) (fun K hK => ?_); go_big_quiet_op; refine hK _ ?_; clear hK K)
    refine wpG_nil fun wz hl hs => ?_
    go_wp2_with fail
    go_ret
    exact ⟨by rw [HR.out, ev_or hx HWP.out, ← HE1.out, ← HE2.out]; rfl, HB1.out.trans (hl.mono HB1.out.size)⟩
  · refine wpG_quiet (by rfl) (by rfl) (by rfl) (fun K hK => ?_); go_big_quiet_op; refine hK _ ?_; clear hK K
    iterate 6 (refine wpG_skip (by rfl) ?_; simp only [Act.put, List.setIfInBounds_toArray, List.set_cons_zero, List.set_cons_succ])
    repeat (refine wpG_quiet (by rfl) (by rfl) (by rfl) (fun K hK => ?_); go_big_quiet_op; refine hK _ ?_; clear hK K)
    refine wpG_nil fun wz hl hs => ?_
    go_wp2_with fail
    go_ret
    exact ⟨by rw [HR.out, ev_or hx HWP.out, ← HE1.out]; rfl, HB1.out.trans (hl.mono HB1.out.size)⟩

theorem rmatch_all (mm : Int) (id ver : Int) (lab g : BitVec 32) (fs : List V3) (hf : fs.length = 8) (hsz : ∀ u ∈ fs, u.2.2.size ≤ 1000) : ∀ (N : Nat) (l : List Nd), l.length ≤ N → ∀ A n c w, TreeIn mm A n c l w → Calls Try.prog 16 #[.slice A n c, .agg (ccells id ver (lab.toNat : Int) fs).toArray, .int .u32 (g.toNat : Int)] w (GivesB w (ev lab g fs l)) := by
  intro N
  induction N with
  | zero =>
    intro l hl A n c w hin
    have h0 : l = [] := List.length_eq_zero_iff.1 (by omega)
    subst h0
    have := wood_uniq hin.wood wood_nil
    omega
  | succ N ih =>
    intro l hl A n c w hin
    cases l with
    | nil =>
      have := wood_uniq hin.wood wood_nil
      omega
    | cons x l' =>
      have hop := nok_op (hin.ok x (by simp))
      have hl' : l'.length ≤ N := by simp at hl; omega
      by_cases h9 : x.1 ≤ 9
      · exact rmatch_leaf mm A n c x l' w id ver lab g fs hf hsz hin h9
      · by_cases h10 : x.1 = 10
        · exact rmatch_one mm A n c x l' w id ver lab g fs hf hsz hin h10 (fun A n c w h => ih l' hl' A n c w h)
        · by_cases h11 : x.1 = 11
          · exact rmatch_and mm A n c x l' w id ver lab g fs hf hsz hin h11 (fun l2 h2 A n c w h => ih l2 (by simp at h2; omega) A n c w h)
          · exact rmatch_or mm A n c x l' w id ver lab g fs hf hsz hin (by omega) (fun l2 h2 A n c w h => ih l2 (by simp at h2; omega) A n c w h)
end Go.Proofs.Ytfoppjgjljellaa

/- The document's Fields and Groups of a filter. -/
namespace Go.Proofs.Ytfoppjgjljellaa
set_option linter.unusedVariables false
set_option linter.unusedSimpArgs false
open Go Go.RowKit Go.Shelf BitM ValM

theorem nok_small {x : Nd} (h : nok x = true) (h3 : 3 ≤ x.1) (h9 : x.1 ≤ 9) : 0 ≤ x.2.1 ∧ x.2.1 < 16 := by
  unfold nok at h
  repeat' split at h
  all_goals first
    | (cases h; done)
    | (simp only [decide_eq_true_eq] at h; omega)
    | omega
theorem put_8 (s : BitVec 32) : put s 8 = s ||| 256#32 := by
  unfold put
  rw [show one 8 = 256#32 from by decide]
set_option maxRecDepth 100000 in
set_option maxHeartbeats 3200000 in
theorem rfields_any (A : Option Addr) (n c : Nat) (l : List Nd) (w : World) (hn : l.length = n) (hs : Sees w w.heap.size A (ncs l)) (hm : n ≤ 65536) (hok : ∀ x ∈ l, nok x = true) :
    Calls Try.prog 17 #[.slice A n c] w fun e w' => e = .returned (.int .u32 ((fls l).toNat : Int)) ∧ w = w' := by
  have HL := Lib.hid hn
  have HOK := Lib.hid hok
  have HS := Lib.hid hs
  have e0 : (((0#32 : BitVec 32).toNat : Nat) : Int) = 0 := rfl
  clear hn hok hs
  go_enter Try.func17, Try.ntmps17
  go_wp2_with fail
  go_loopw [3, 4] (fun m i wr => ∃ k : Nat, k ≤ n ∧ i = .int .i64 k ∧ m = .int .u32 (((fls (l.take k)).toNat : Nat) : Int) ∧ wr = w) (fun _ i _ => n - (intOf i).toNat)
  case atStart => exact ⟨0, Nat.zero_le _, rfl, rfl, rfl⟩
  case round =>
    obtain ⟨k, hk, rfl, rfl, rfl⟩ := hrel
    by_cases hlt : k < n
    · have hkl : k < l.length := by rw [HL.out]; exact hlt
      obtain ⟨b, o, rfl, hb, h0, h1, _⟩ := sees_node HS.out k hkl
      have d1 : decide ((k : Int) < (n : Int)) = true := by simp; omega
      have d0 : (k : Int) < (n : Int) := by omega
      have FS := Lib.hid (fls_succ l k hkl)
      have HN := Lib.hid (fun (h3 : 3 ≤ l[k].1) (h9 : l[k].1 ≤ 9) => nok_small (HOK.out l[k] (List.getElem_mem hkl)) h3 h9)
      obtain ⟨x, hx⟩ : ∃ x, x = l[k] := ⟨_, rfl⟩
      rw [← hx] at h0 h1 FS HN
      obtain ⟨fs, hfs⟩ : ∃ f, f = fls (l.take k) := ⟨_, rfl⟩
      rw [← hfs] at FS ⊢
      obtain ⟨op, hop0⟩ : ∃ op, op = x.1 := ⟨_, rfl⟩
      obtain ⟨nv, hnv⟩ : ∃ nv, nv = x.2.1 := ⟨_, rfl⟩
      rw [← hop0] at h0 HN
      rw [← hnv] at h1 HN
      clear hx hfs
      by_cases h3 : op = 3
      · subst h3
        have HFS : Hid (fls (l.take (k + 1)) = put fs 8) := Lib.hid (by rw [FS.out, fstep, if_pos hop0.symm, put_8])
        clear HN hop0 hnv h1 FS
        go_wp2_with fail
        refine (rwith_any fs 8 (by decide) _).mono ?_
        rintro e w1 ⟨rfl, rfl⟩
        go_wp2_with fail
        go_roundw
        case rel => exact ⟨k + 1, by omega, by go_num, by rw [HFS.out], trivial⟩
        case measure => simp [intOf]; omega
      · have b3 : (op == 3) = false := by simpa using h3
        by_cases h59 : 5 ≤ op ∧ op ≤ 9
        · have b5 : decide (5 ≤ op) = true := by simpa using h59.1
          have b9 : decide (op ≤ 9) = true := by simpa using h59.2
          obtain ⟨g0, g16⟩ := HN.out (by omega) h59.2
          obtain ⟨j, rfl⟩ : ∃ j : Nat, nv = (j : Int) := ⟨nv.toNat, by omega⟩
          have hj : j < 32 := by omega
          have HFS : Hid (fls (l.take (k + 1)) = put fs j) := Lib.hid (by rw [FS.out, fstep, if_neg (by rw [← hop0]; exact h3), if_pos (by rw [← hop0]; exact h59), ← hnv])
          clear HN hop0 hnv FS h59 h3 g0 g16
          go_wp2_with fail
          refine (rwith_any fs j hj _).mono ?_
          rintro e w1 ⟨rfl, rfl⟩
          go_wp2_with fail
          go_roundw
          case rel => exact ⟨k + 1, by omega, by go_num, by rw [HFS.out], trivial⟩
          case measure => simp [intOf]; omega
        · have HFS : Hid (fls (l.take (k + 1)) = fs) := Lib.hid (by rw [FS.out, fstep, if_neg (by rw [← hop0]; exact h3), if_neg (by rw [← hop0]; exact h59)])
          clear HN hop0 hnv FS h3
          by_cases h5 : 5 ≤ op
          · have b5 : decide (5 ≤ op) = true := by simpa using h5
            have b9 : decide (op ≤ 9) = false := by simp; omega
            clear h59 h5
            go_wp2_with fail
            go_roundw
            case rel => exact ⟨k + 1, by omega, by go_num, by rw [HFS.out], trivial⟩
            case measure => simp [intOf]; omega
          · have b5 : decide (5 ≤ op) = false := by simpa using h5
            clear h59 h5
            go_wp2_with fail
            go_roundw
            case rel => exact ⟨k + 1, by omega, by go_num, by rw [HFS.out], trivial⟩
            case measure => simp [intOf]; omega
    · obtain rfl : k = n := by omega
      have d1 : decide ((k : Int) < (k : Int)) = false := by simp
      have HE : Hid (fls (l.take k) = fls l) := Lib.hid (by rw [List.take_of_length_le (by rw [HL.out]; exact Nat.le_refl _)])
      rw [HE.out]
      go_wp2_with fail
      go_ret
      exact ⟨rfl, rfl⟩
set_option maxRecDepth 100000 in
set_option maxHeartbeats 3200000 in
theorem rgroups_any (A : Option Addr) (n c : Nat) (l : List Nd) (w : World) (hn : l.length = n) (hs : Sees w w.heap.size A (ncs l)) (hm : n ≤ 65536) (hok : ∀ x ∈ l, nok x = true) :
    Calls Try.prog 18 #[.slice A n c] w fun e w' => e = .returned (.int .u32 ((grs l).toNat : Int)) ∧ w = w' := by
  have HL := Lib.hid hn
  have HOK := Lib.hid hok
  have HS := Lib.hid hs
  have e0 : (((0#32 : BitVec 32).toNat : Nat) : Int) = 0 := rfl
  clear hn hok hs
  go_enter Try.func18, Try.ntmps18
  go_wp2_with fail
  go_loopw [3, 4] (fun m i wr => ∃ k : Nat, k ≤ n ∧ i = .int .i64 k ∧ m = .int .u32 (((grs (l.take k)).toNat : Nat) : Int) ∧ wr = w) (fun _ i _ => n - (intOf i).toNat)
  case atStart => exact ⟨0, Nat.zero_le _, rfl, rfl, rfl⟩
  case round =>
    obtain ⟨k, hk, rfl, rfl, rfl⟩ := hrel
    by_cases hlt : k < n
    · have hkl : k < l.length := by rw [HL.out]; exact hlt
      obtain ⟨b, o, rfl, hb, h0, h1, _⟩ := sees_node HS.out k hkl
      have d1 : decide ((k : Int) < (n : Int)) = true := by simp; omega
      have d0 : (k : Int) < (n : Int) := by omega
      have FS := Lib.hid (grs_succ l k hkl)
      have HN := Lib.hid (fun (h3 : 3 ≤ l[k].1) (h9 : l[k].1 ≤ 9) => nok_small (HOK.out l[k] (List.getElem_mem hkl)) h3 h9)
      obtain ⟨x, hx⟩ : ∃ x, x = l[k] := ⟨_, rfl⟩
      rw [← hx] at h0 h1 FS HN
      obtain ⟨fs, hfs⟩ : ∃ f, f = grs (l.take k) := ⟨_, rfl⟩
      rw [← hfs] at FS ⊢
      obtain ⟨op, hop0⟩ : ∃ op, op = x.1 := ⟨_, rfl⟩
      obtain ⟨nv, hnv⟩ : ∃ nv, nv = x.2.1 := ⟨_, rfl⟩
      rw [← hop0] at h0 HN
      rw [← hnv] at h1 HN
      clear hx hfs
      by_cases h4 : op = 4
      · subst h4
        obtain ⟨g0, g16⟩ := HN.out (by omega) (by omega)
        obtain ⟨j, rfl⟩ : ∃ j : Nat, nv = (j : Int) := ⟨nv.toNat, by omega⟩
        have hj : j < 32 := by omega
        have HFS : Hid (grs (l.take (k + 1)) = put fs j) := Lib.hid (by rw [FS.out, gstep, if_pos hop0.symm, ← hnv])
        clear HN hop0 hnv FS g0 g16
        go_wp2_with fail
        refine (rwith_any fs j hj _).mono ?_
        rintro e w1 ⟨rfl, rfl⟩
        go_wp2_with fail
        go_roundw
        case rel => exact ⟨k + 1, by omega, by go_num, by rw [HFS.out], trivial⟩
        case measure => simp [intOf]; omega
      · have b4 : (op == 4) = false := by simpa using h4
        have HFS : Hid (grs (l.take (k + 1)) = fs) := Lib.hid (by rw [FS.out, gstep, if_neg (by rw [← hop0]; exact h4)])
        clear HN hop0 hnv FS h4
        go_wp2_with fail
        go_roundw
        case rel => exact ⟨k + 1, by omega, by go_num, by rw [HFS.out], trivial⟩
        case measure => simp [intOf]; omega
    · obtain rfl : k = n := by omega
      have d1 : decide ((k : Int) < (k : Int)) = false := by simp
      have HE : Hid (grs (l.take k) = grs l) := Lib.hid (by rw [List.take_of_length_le (by rw [HL.out]; exact Nat.le_refl _)])
      rw [HE.out]
      go_wp2_with fail
      go_ret
      exact ⟨rfl, rfl⟩
end Go.Proofs.Ytfoppjgjljellaa

/- The program's Fields, Groups and Nodes of a filter; what no filter answers. -/
namespace Go.Proofs.Ytfoppjgjljellaa
set_option linter.unusedVariables false
set_option linter.unusedSimpArgs false
open Go Go.RowKit Go.Shelf BitM ValM

set_option maxRecDepth 100000 in
set_option maxHeartbeats 3200000 in
theorem ready_nil (w : World) : Calls Try.prog 27 #[.pointer none] w (GivesB w false) := by
  have hl0 := (Below.refl w.heap.size w).alloc (Nat.le_refl _) (.cells #[.pointer none] 32)
  go_enter Try.func27, Try.ntmps27
  go_wp2_with fail
  go_ret
  exact ⟨rfl, hl0⟩
set_option maxRecDepth 100000 in
set_option maxHeartbeats 3200000 in
theorem match_nil (cs : Array Value) (g : Int) (w : World) : Calls Try.prog 10 #[.pointer none, .agg cs, .int .u32 g] w (GivesB w false) := by
  have hl0 := (Below.refl w.heap.size w).alloc (Nat.le_refl _) (.cells cs 28)
  obtain ⟨w0, hw0⟩ : ∃ w0, w0 = w.alloc (.cells cs 28) := ⟨_, rfl⟩
  rw [← hw0] at hl0
  have HW0 := Lib.hid hw0
  have HL0 := Lib.hid hl0
  clear hw0 hl0
  go_enter Try.func10, Try.ntmps10
  go_wp2_with fail
  rw [← HW0.out]
  refine wp_region_steady [] 18 (by kernel_rfl) (by kernel_rfl) (by kernel_rfl) (by rfl) ?_
  repeat (refine wpG_quiet (by rfl) (by rfl) (by rfl) (fun K hK => ?_); go_big_quiet_op; refine hK _ ?_; clear hK K)
  refine wpG_call (by rfl) (by rfl) 27 #[.pointer none] (.bool false) (by intro _; simp [go_sem]) (by kernel_rfl) (fun wx hl => ready_nil wx) ?_
  simp only [Act.put, List.setIfInBounds_toArray, List.set_cons_zero, List.set_cons_succ]
  refine wpG_quiet (by rfl) (by rfl) (by rfl) (fun K hK => ?_); go_big_quiet_op; refine hK _ ?_; clear hK K
  iterate 7 (refine wpG_skip (by rfl) ?_; simp only [Act.put, List.setIfInBounds_toArray, List.set_cons_zero, List.set_cons_succ])
  repeat (refine wpG_quiet (by rfl) (by rfl) (by rfl) (fun K hK => ?_); go_big_quiet_op; refine hK _ ?_; clear hK K)
  refine wpG_nil fun wz hl hs => ?_
  go_wp2_with fail
  go_ret
  exact ⟨rfl, HL0.out.trans (hl.mono HL0.out.size)⟩
set_option maxRecDepth 100000 in
set_option maxHeartbeats 3200000 in
theorem fields_nil (w : World) : Calls Try.prog 11 #[.pointer none] w fun e w' => e = .returned (.int .u32 0) ∧ Below w.heap.size w w' := by
  go_enter Try.func11, Try.ntmps11
  go_wp2_with fail
  refine (ready_nil _).mono ?_
  rintro e w1 ⟨rfl, hb⟩
  go_wp2_with fail
  go_ret
  exact ⟨rfl, hb⟩
set_option maxRecDepth 100000 in
set_option maxHeartbeats 3200000 in
theorem groups_nil (w : World) : Calls Try.prog 12 #[.pointer none] w fun e w' => e = .returned (.int .u32 0) ∧ Below w.heap.size w w' := by
  go_enter Try.func12, Try.ntmps12
  go_wp2_with fail
  refine (ready_nil _).mono ?_
  rintro e w1 ⟨rfl, hb⟩
  go_wp2_with fail
  go_ret
  exact ⟨rfl, hb⟩
set_option maxRecDepth 100000 in
set_option maxHeartbeats 3200000 in
theorem nodes_nil (w : World) : Calls Try.prog 13 #[.pointer none] w fun e w' => e = .returned (.slice none 0 0) ∧ Below w.heap.size w w' := by
  go_enter Try.func13, Try.ntmps13
  go_wp2_with fail
  go_ret
  exact ⟨rfl, Below.refl _ _⟩
def GivesV (mm : Int) (w : World) (F : Nat) (l : List Nd) (x : Int) : Ending → World → Prop := fun e w' => e = .returned (.int .u32 x) ∧ Ready mm w' F l ∧ w.grownBy w' (some F)
set_option maxRecDepth 100000 in
set_option maxHeartbeats 3200000 in
theorem fields_any (mm : Int) (F : Nat) (l : List Nd) (w : World) (h : Fresh mm w F l ∨ Ready mm w F l) :
    Calls Try.prog 11 #[.pointer (some ⟨F, 0, none⟩)] w (GivesV mm w F l ((fls l).toNat : Int)) := by
  have HRD := Lib.hid (ready_any mm F l w h)
  clear h
  go_enter Try.func11, Try.ntmps11
  go_wp2_with fail
  refine HRD.out.mono ?_
  rintro e w1 ⟨rfl, hr, hg⟩
  have HR := Lib.hid hr
  have HG := Lib.hid hg
  obtain ⟨A, n, c, v, hF, _, _⟩ := hr
  have kc := hF.cell (j := 5) rfl
  clear HRD hg hF
  go_wp2_with fail
  go_ret
  exact ⟨rfl, HR.out, HG.out⟩
set_option maxRecDepth 100000 in
set_option maxHeartbeats 3200000 in
theorem groups_any (mm : Int) (F : Nat) (l : List Nd) (w : World) (h : Fresh mm w F l ∨ Ready mm w F l) :
    Calls Try.prog 12 #[.pointer (some ⟨F, 0, none⟩)] w (GivesV mm w F l ((grs l).toNat : Int)) := by
  have HRD := Lib.hid (ready_any mm F l w h)
  clear h
  go_enter Try.func12, Try.ntmps12
  go_wp2_with fail
  refine HRD.out.mono ?_
  rintro e w1 ⟨rfl, hr, hg⟩
  have HR := Lib.hid hr
  have HG := Lib.hid hg
  obtain ⟨A, n, c, v, hF, _, _⟩ := hr
  have kc := hF.cell (j := 6) rfl
  clear HRD hg hF
  go_wp2_with fail
  go_ret
  exact ⟨rfl, HR.out, HG.out⟩
set_option maxRecDepth 100000 in
set_option maxHeartbeats 3200000 in
theorem nodes_any (mm : Int) (F : Nat) (l : List Nd) (w : World) (h : Fresh mm w F l ∨ Ready mm w F l) :
    Calls Try.prog 13 #[.pointer (some ⟨F, 0, none⟩)] w (GivesNodes w l) := by
  obtain ⟨A, n, c, k0, hin⟩ : ∃ A n c, w.cell? ⟨F, 0, none⟩ = some (.slice A n c) ∧ TreeIn mm A n c l w := by
    rcases h with ⟨A, n, c, h1, h2⟩ | ⟨A, n, c, v, h1, _, h2⟩
    · exact ⟨A, n, c, h1.cell (j := 0) rfl, h2⟩
    · exact ⟨A, n, c, h1.cell (j := 0) rfl, h2⟩
  have HCL := Lib.hid (clone_nodes A n c l w hin.len hin.sees hin.max)
  clear h hin
  go_enter Try.func13, Try.ntmps13
  go_wp2_with fail
  refine HCL.out.mono ?_
  rintro e w1 ⟨A', c', rfl, ho, hb⟩
  have HO := Lib.hid ho
  have HB := Lib.hid hb
  clear ho hb HCL
  go_wp2_with fail
  go_ret
  exact ⟨A', c', rfl, HO.out, HB.out⟩
end Go.Proofs.Ytfoppjgjljellaa

/- EvalTells: the walk. -/
namespace Go.Proofs.Ytfoppjgjljellaa
set_option linter.unusedVariables false
set_option linter.unusedSimpArgs false
open Go Go.RowKit Go.Shelf BitM ValM

theorem rsame_self (A A' : Option Addr) (c n' c' : Nat) (l : List Nd) (w : World) (hn' : l.length = n') (hs : Sees w w.heap.size A (ncs l)) (hs' : Sees w w.heap.size A' (ncs l)) (hm : l.length ≤ 65536) :
    Calls Try.prog 15 #[.slice A l.length c, .slice A' n' c'] w fun e w' => e = .returned (.bool true) ∧ Below w.heap.size w w' :=
  (rsame_any A l.length c l A' n' c' l w rfl hn' hs hs' hm).mono fun e w' h => ⟨h.1.trans (by rw [decide_eq_true rfl]), h.2⟩
set_option maxRecDepth 100000 in
set_option maxHeartbeats 6400000 in
theorem walk_tells (mm : Int) (A0 : Option Addr) (n0 c0 : Nat) (l : List Nd) (id ver : Int) (lab g : BitVec 32) (fs : List V3) (w : World) (hf : fs.length = 8) (h0 : l.length = n0)
    (s0 : Sees w w.heap.size A0 (ncs l)) (hc0 : n0 ≤ c0) (hm : MaxV mm w) :
    Calls Try.prog 3 #[.slice A0 n0 c0, .agg (ccells id ver (lab.toNat : Int) fs).toArray, .int .u32 (g.toNat : Int)] w fun e w' => e = .returned (.bool true) ∧ Below w.heap.size w w' := by
  have hu := Try.underlying26
  have huc := Try.underlying28
  have hl0 := (Below.refl w.heap.size w).alloc (Nat.le_refl _) (.cells (ccells id ver (lab.toNat : Int) fs).toArray 28)
  have BP := Blk.new w (ccells id ver (lab.toNat : Int) fs) 28
  have HAW := Lib.hid (fun wx (h : Below w.heap.size w wx) => awake_any mm wx (hm.later h))
  have HLB := Lib.hid (fun wx (h : Below w.heap.size w wx) => nlarge_any A0 n0 c0 l wx wx.heap.size h0 ((s0.below h).more h.size))
  have HCK := Lib.hid (fun wx (h : Below w.heap.size w wx) => rlcheck_any A0 n0 c0 l wx h0 ((s0.below h).more h.size) hc0)
  have HLG := Lib.hid (fun wx => large_any fs wx hf)
  have HNA := Lib.hid (fun wx (h : Below w.heap.size w wx) => new_any mm A0 n0 c0 l wx h0 ((s0.below h).more h.size) (hm.later h))
  have HF := Lib.hid hf
  have H0 := Lib.hid h0
  have HS0 := Lib.hid (fun wx (h : Below w.heap.size w wx) => (s0.below h).more h.size)
  have HTI := Lib.hid (fun (hk : lchk l = 0) wx (h : Below w.heap.size w wx) => (show TreeIn mm A0 n0 c0 l wx from ⟨h0, (s0.below h).more h.size, hc0, by have := (lchk_ok hk).1; omega, (lchk_ok hk).2.2.1, (lchk_ok hk).2.1, hm.later h⟩))
  have RF : ∀ wx, Blk wx w.heap.size (ccells id ver (lab.toNat : Int) fs) → wx.rangeAt w.heap.size 3 (fcells fs) := fun wx h => h.range 3 (fcells fs) (by
    unfold ccells
    rw [List.drop_left' (by rfl), List.take_length])
  have RC : ∀ wx, Blk wx w.heap.size (ccells id ver (lab.toNat : Int) fs) → wx.rangeAt w.heap.size 0 (ccells id ver (lab.toNat : Int) fs) := fun wx h => h.range 0 _ (by rw [List.drop_zero, List.take_length])
  have HFL : Hid ((fcells fs).length = 24) := Lib.hid (by rw [fcells_len, hf])
  have HCL := Lib.hid (ccells_len id ver (lab.toNat : Int) hf)
  have HRC := Lib.hid RC
  have HRF := Lib.hid RF
  have HBP := Lib.hid BP
  have HL0 := Lib.hid hl0
  obtain ⟨pa, hpa⟩ : ∃ pa, pa = (ccells id ver (lab.toNat : Int) fs).toArray := ⟨_, rfl⟩
  have HPA := Lib.hid hpa
  rw [← hpa] at HBP HL0 ⊢
  clear hf h0 s0 hc0 hm hl0 BP RF RC hpa
  go_enter Try.func3, Try.ntmps3
  go_wp2_with fail
  refine (HLB.out _ HL0.out).mono ?_
  rintro e w1 ⟨rfl, rfl⟩
  cases hlb : lbig l
  · have hrf := HRF.out _ HBP.out
    go_wp2_with (first
      | (refine wpList_load_g (by rfl) 26 (.tmp 12) rfl w.heap.size 3 rfl (fcells fs) _ hrf hu rfl (by rw [HFL.out]; exact info_fls) ?_
         clear hrf)
      | fail)
    refine (HLG.out _).mono ?_
    rintro e w3 ⟨rfl, hb3⟩
    have HB3 := Lib.hid (HL0.out.trans (hb3.mono HL0.out.size))
    have HP3 := Lib.hid (HBP.out.later hb3)
    clear hb3
    cases hbig : tooLong fs
    · have HSM := Lib.hid (small_fields hbig)
      go_wp2_with fail
      refine (HNA.out _ HB3.out).mono ?_
      rintro e w4 ⟨hb4, ⟨hne, rfl⟩ | ⟨hk0, F, rfl, hF, hfr⟩⟩
      · have HB4 := Lib.hid (HB3.out.trans (hb4.mono HB3.out.size))
        have HP4 := Lib.hid (HP3.out.later hb4)
        have bk : (lchk l == 0) = false := by simpa using hne
        clear hb4 hne
        have hrc := HRC.out _ HP4.out
        go_wp2_with (first
          | (refine wpList_load_g (by rfl) 28 (.tmp 4) rfl w.heap.size 0 rfl (ccells id ver (lab.toNat : Int) fs) _ hrc huc rfl (by rw [HCL.out]; exact info_crd) ?_
             clear hrc)
          | fail)
        refine (match_nil _ _ _).mono ?_
        rintro e w5 ⟨rfl, hb⟩
        have HB5 := Lib.hid (HB4.out.trans (hb.mono HB4.out.size))
        clear hb
        go_wp2_with fail
        refine (fields_nil _).mono ?_
        rintro e w6 ⟨rfl, hb⟩
        have HB6 := Lib.hid (HB5.out.trans (hb.mono HB5.out.size))
        clear hb
        go_wp2_with fail
        refine (groups_nil _).mono ?_
        rintro e w7 ⟨rfl, hb⟩
        have HB7 := Lib.hid (HB6.out.trans (hb.mono HB6.out.size))
        clear hb
        go_wp2_with fail
        refine (nodes_nil _).mono ?_
        rintro e w8 ⟨rfl, hb⟩
        have HB8 := Lib.hid (HB7.out.trans (hb.mono HB7.out.size))
        clear hb
        go_wp2_with fail
        refine (HCK.out _ HB8.out).mono ?_
        rintro e w9 ⟨rfl, hb⟩
        have HB9 := Lib.hid (HB8.out.trans (hb.mono HB8.out.size))
        clear hb
        go_wp2_with fail
        refine (HAW.out _ HB9.out).mono ?_
        rintro e w10 ⟨rfl, hb⟩
        go_wp2_with fail
        go_ret
        exact ⟨rfl, HB9.out.trans (hb.mono HB9.out.size)⟩
      · have HB4 := Lib.hid (HB3.out.trans (hb4.mono HB3.out.size))
        have HP4 := Lib.hid (HP3.out.later hb4)
        have HK0 := Lib.hid hk0
        have HFR := Lib.hid hfr
        have HFw : Hid (w.heap.size + 1 ≤ F) := Lib.hid (by have h1 := HP3.out.lt; omega)
        clear hb4 hfr
        rw [hk0] at HCK
        clear hk0 hF
        have hrc := HRC.out _ HP4.out
        go_wp2_with (first
          | (refine wpList_load_g (by rfl) 28 (.tmp 4) rfl w.heap.size 0 rfl (ccells id ver (lab.toNat : Int) fs) _ hrc huc rfl (by rw [HCL.out]; exact info_crd) ?_
             clear hrc)
          | fail)
        refine (match_nil _ _ _).mono ?_
        rintro e w5 ⟨rfl, hb⟩
        have HB5 := Lib.hid (HB4.out.trans (hb.mono HB4.out.size))
        have HP5 := Lib.hid (HP4.out.later hb)
        replace HFR := Lib.hid (HFR.out.later hb)
        clear hb
        go_wp2_with fail
        refine (fields_nil _).mono ?_
        rintro e w6 ⟨rfl, hb⟩
        have HB6 := Lib.hid (HB5.out.trans (hb.mono HB5.out.size))
        have HP6 := Lib.hid (HP5.out.later hb)
        replace HFR := Lib.hid (HFR.out.later hb)
        clear hb
        go_wp2_with fail
        refine (groups_nil _).mono ?_
        rintro e w7 ⟨rfl, hb⟩
        have HB7 := Lib.hid (HB6.out.trans (hb.mono HB6.out.size))
        have HP7 := Lib.hid (HP6.out.later hb)
        replace HFR := Lib.hid (HFR.out.later hb)
        clear hb
        go_wp2_with fail
        refine (nodes_nil _).mono ?_
        rintro e w8 ⟨rfl, hb⟩
        have HB8 := Lib.hid (HB7.out.trans (hb.mono HB7.out.size))
        have HP8 := Lib.hid (HP7.out.later hb)
        replace HFR := Lib.hid (HFR.out.later hb)
        clear hb
        go_wp2_with fail
        refine (HCK.out _ HB8.out).mono ?_
        rintro e w9 ⟨rfl, hb⟩
        have HB9 := Lib.hid (HB8.out.trans (hb.mono HB8.out.size))
        have HP9 := Lib.hid (HP8.out.later hb)
        replace HFR := Lib.hid (HFR.out.later hb)
        clear hb
        go_wp2_with fail
        have hbd := (Below.refl w9.heap.size w9).drew
        have HBd := Lib.hid (HB9.out.trans (hbd.mono HB9.out.size))
        have hPd := HP9.out.later hbd
        have hS := HRC.out _ hPd
        have hfd := HFR.out.later hbd
        obtain ⟨E, hE⟩ : ∃ E, E = ev lab g fs l := ⟨_, rfl⟩
        obtain ⟨V, hV⟩ : ∃ V, V = ((fls l).toNat : Int) := ⟨_, rfl⟩
        obtain ⟨U, hU⟩ : ∃ U, U = ((grs l).toNat : Int) := ⟨_, rfl⟩
        have HMT := Lib.hid (fun wx h => match_any mm F l wx id ver lab g fs h HF.out HSM.out)
        have HRM := Lib.hid (fun wx h => rmatch_all mm id ver lab g fs HF.out HSM.out l.length l (Nat.le_refl _) A0 n0 c0 wx (HTI.out HK0.out wx h))
        have HFA := Lib.hid (fun wx h => fields_any mm F l wx h)
        have HGA := Lib.hid (fun wx h => groups_any mm F l wx h)
        have HRFA := Lib.hid (fun wx h => rfields_any A0 n0 c0 l wx H0.out (HS0.out wx h) (by have := (lchk_ok HK0.out).1; have := H0.out; omega) (lchk_ok HK0.out).2.1)
        have HRGA := Lib.hid (fun wx h => rgroups_any A0 n0 c0 l wx H0.out (HS0.out wx h) (by have := (lchk_ok HK0.out).1; have := H0.out; omega) (lchk_ok HK0.out).2.1)
        rw [← hE] at HMT HRM
        rw [← hV] at HFA HRFA
        rw [← hU] at HGA HRGA
        clear hbd hE hV hU HNA HLB HLG HRF HCK HTI
        refine wp_region_held (S := fun wx => wx.rangeAt w.heap.size 0 (ccells id ver (lab.toNat : Int) fs)) (by kernel_rfl) ?_
        refine takeD (i := 0) (oi := _) (v := (.pointer (some ⟨F, 0, none⟩))) (fuel := 32) (some 50) rfl rfl (by kernel_rfl) (by kernel_rfl) (by kernel_rfl) (fun _ _ _ h => h) (.inl ⟨by rfl, fun wx hS => by simp [go_sem]⟩) hS ?_
        simp only [Act.put, List.setIfInBounds_toArray, List.set_cons_zero, List.set_cons_succ]
        refine takeD (i := 2) (oi := _) (v := (.slice A0 n0 c0)) (fuel := 31) (some 52) rfl rfl (by kernel_rfl) (by kernel_rfl) (by kernel_rfl) (fun _ _ _ h => h) (.inl ⟨by rfl, fun wx hS => by simp [go_sem]⟩) hS ?_
        simp only [Act.put, List.setIfInBounds_toArray, List.set_cons_zero, List.set_cons_succ]
        refine wpAnyH_all (fuel := 30) (rs := [1]) (by kernel_rfl) (by simp) (fun i hi => ?_)
        simp only [List.mem_cons, List.not_mem_nil, or_false] at hi
        subst hi
        refine callD (some 51) _ rfl rfl 13 #[(.pointer (some ⟨F, 0, none⟩))] (by simp [go_sem]) (by rfl) ((nodes_any mm F l _ (.inl hfd)).mono ?_)
        rintro e wa ⟨AN, cN, rfl, ho, hb⟩
        replace hPd := hPd.later hb
        replace hS := HRC.out _ hPd
        have HBa := Lib.hid (HBd.out.trans (hb.mono HBd.out.size))
        replace hfd := hfd.later hb
        have HO := Lib.hid (row_sees ho)
        clear ho hb
        refine ⟨_, rfl, hS, ?_⟩
        simp only [Act.put, List.setIfInBounds_toArray, List.set_cons_zero, List.set_cons_succ]
        refine wpAnyH_all (fuel := 29) (rs := [3]) (by kernel_rfl) (by simp) (fun i hi => ?_)
        simp only [List.mem_cons, List.not_mem_nil, or_false] at hi
        subst hi
        refine callD (some 53) _ rfl rfl 15 #[.slice AN l.length cN, (.slice A0 n0 c0)] (by simp [go_sem]) (by rfl) ((rsame_self AN A0 cN n0 c0 l wa H0.out HO.out (HS0.out wa HBa.out) (by have := (lchk_ok HK0.out).1; omega)).mono ?_)
        rintro e wb ⟨rfl, hb⟩
        replace hPd := hPd.later hb
        replace hS := HRC.out _ hPd
        have HBb := Lib.hid (HBa.out.trans (hb.mono HBa.out.size))
        replace hfd := hfd.later hb
        clear hb HO
        refine ⟨_, rfl, hS, ?_⟩
        simp only [Act.put, List.setIfInBounds_toArray, List.set_cons_zero, List.set_cons_succ]
        refine takeD (i := 4) (oi := _) (v := (.bool true)) (fuel := 28) (some 54) rfl rfl (by kernel_rfl) (by kernel_rfl) (by kernel_rfl) (fun _ _ _ h => h) (.inl ⟨by rfl, fun wx hS => by simp [go_sem]⟩) hS ?_
        simp only [Act.put, List.setIfInBounds_toArray, List.set_cons_zero, List.set_cons_succ]
        refine takeD (i := 5) (oi := _) (v := (.pointer (some ⟨F, 0, none⟩))) (fuel := 27) (some 55) rfl rfl (by kernel_rfl) (by kernel_rfl) (by kernel_rfl) (fun _ _ _ h => h) (.inl ⟨by rfl, fun wx hS => by simp [go_sem]⟩) hS ?_
        simp only [Act.put, List.setIfInBounds_toArray, List.set_cons_zero, List.set_cons_succ]
        refine takeD (i := 6) (oi := _) (v := (.agg (ccells id ver (lab.toNat : Int) fs).toArray)) (fuel := 26) (some 56) rfl rfl (by kernel_rfl) (by kernel_rfl) (by kernel_rfl) (fun _ _ _ h => h) (yieldsIf_load_mid (by rfl) 28 (.tmp 4) rfl w.heap.size 0 rfl (ccells id ver (lab.toNat : Int) fs) _ (fun wx hS => hS) huc rfl (by rw [HCL.out]; exact info_crd)) hS ?_
        simp only [Act.put, List.setIfInBounds_toArray, List.set_cons_zero, List.set_cons_succ]
        refine takeD (i := 7) (oi := _) (v := (.int .u32 (g.toNat : Int))) (fuel := 25) (some 57) rfl rfl (by kernel_rfl) (by kernel_rfl) (by kernel_rfl) (fun _ _ _ h => h) (.inl ⟨by rfl, fun wx hS => by simp [go_sem]⟩) hS ?_
        simp only [Act.put, List.setIfInBounds_toArray, List.set_cons_zero, List.set_cons_succ]
        refine takeD (i := 9) (oi := _) (v := (.slice A0 n0 c0)) (fuel := 24) (some 59) rfl rfl (by kernel_rfl) (by kernel_rfl) (by kernel_rfl) (fun _ _ _ h => h) (.inl ⟨by rfl, fun wx hS => by simp [go_sem]⟩) hS ?_
        simp only [Act.put, List.setIfInBounds_toArray, List.set_cons_zero, List.set_cons_succ]
        refine takeD (i := 10) (oi := _) (v := (.agg (ccells id ver (lab.toNat : Int) fs).toArray)) (fuel := 23) (some 60) rfl rfl (by kernel_rfl) (by kernel_rfl) (by kernel_rfl) (fun _ _ _ h => h) (yieldsIf_load_mid (by rfl) 28 (.tmp 4) rfl w.heap.size 0 rfl (ccells id ver (lab.toNat : Int) fs) _ (fun wx hS => hS) huc rfl (by rw [HCL.out]; exact info_crd)) hS ?_
        simp only [Act.put, List.setIfInBounds_toArray, List.set_cons_zero, List.set_cons_succ]
        refine takeD (i := 11) (oi := _) (v := (.int .u32 (g.toNat : Int))) (fuel := 22) (some 61) rfl rfl (by kernel_rfl) (by kernel_rfl) (by kernel_rfl) (fun _ _ _ h => h) (.inl ⟨by rfl, fun wx hS => by simp [go_sem]⟩) hS ?_
        simp only [Act.put, List.setIfInBounds_toArray, List.set_cons_zero, List.set_cons_succ]
        refine wpAnyH_all (fuel := 21) (rs := [8]) (by kernel_rfl) (by simp) (fun i hi => ?_)
        simp only [List.mem_cons, List.not_mem_nil, or_false] at hi
        subst hi
        refine callD (some 58) _ rfl rfl 10 #[(.pointer (some ⟨F, 0, none⟩)), (.agg (ccells id ver (lab.toNat : Int) fs).toArray), (.int .u32 (g.toNat : Int))] (by simp [go_sem]) (by rfl) ((HMT.out wb (.inl hfd)).mono ?_)
        rintro e wc ⟨rfl, hr, hg⟩
        replace hPd := hPd.kept hg (by intro e; injection e with e; have := HFw.out; omega)
        replace hS := HRC.out _ hPd
        have HBc := Lib.hid (HBb.out.grown hg HBb.out.size (fun k e => by injection e with e; have := HFw.out; omega))
        clear hfd hg
        refine ⟨_, rfl, hS, ?_⟩
        simp only [Act.put, List.setIfInBounds_toArray, List.set_cons_zero, List.set_cons_succ]
        refine wpAnyH_all (fuel := 20) (rs := [12]) (by kernel_rfl) (by simp) (fun i hi => ?_)
        simp only [List.mem_cons, List.not_mem_nil, or_false] at hi
        subst hi
        refine callD (some 62) _ rfl rfl 16 #[(.slice A0 n0 c0), (.agg (ccells id ver (lab.toNat : Int) fs).toArray), (.int .u32 (g.toNat : Int))] (by simp [go_sem]) (by rfl) ((HRM.out wc HBc.out).mono ?_)
        rintro e wd ⟨rfl, hb⟩
        replace hPd := hPd.later hb
        replace hS := HRC.out _ hPd
        have HBd2 := Lib.hid (HBc.out.trans (hb.mono HBc.out.size))
        replace hr := hr.later hb
        clear hb
        refine ⟨_, rfl, hS, ?_⟩
        simp only [Act.put, List.setIfInBounds_toArray, List.set_cons_zero, List.set_cons_succ]
        refine takeD (i := 13) (oi := _) (v := (.bool true)) (fuel := 19) (some 63) rfl rfl (by kernel_rfl) (by kernel_rfl) (by kernel_rfl) (fun _ _ _ h => h) (.inl ⟨by rfl, fun wx hS => by simp [go_sem]⟩) hS ?_
        simp only [Act.put, List.setIfInBounds_toArray, List.set_cons_zero, List.set_cons_succ]
        refine takeD (i := 14) (oi := _) (v := (.bool true)) (fuel := 18) (some 64) rfl rfl (by kernel_rfl) (by kernel_rfl) (by kernel_rfl) (fun _ _ _ h => h) (.inl ⟨by rfl, fun wx hS => by simp [go_sem]⟩) hS ?_
        simp only [Act.put, List.setIfInBounds_toArray, List.set_cons_zero, List.set_cons_succ]
        refine takeD (i := 15) (oi := _) (v := (.bool true)) (fuel := 17) (some 65) rfl rfl (by kernel_rfl) (by kernel_rfl) (by kernel_rfl) (fun _ _ _ h => h) (.inl ⟨by rfl, fun wx hS => by simp [go_sem]⟩) hS ?_
        simp only [Act.put, List.setIfInBounds_toArray, List.set_cons_zero, List.set_cons_succ]
        refine takeD (i := 16) (oi := _) (v := (.pointer (some ⟨F, 0, none⟩))) (fuel := 16) (some 66) rfl rfl (by kernel_rfl) (by kernel_rfl) (by kernel_rfl) (fun _ _ _ h => h) (.inl ⟨by rfl, fun wx hS => by simp [go_sem]⟩) hS ?_
        simp only [Act.put, List.setIfInBounds_toArray, List.set_cons_zero, List.set_cons_succ]
        refine takeD (i := 18) (oi := _) (v := (.slice A0 n0 c0)) (fuel := 15) (some 68) rfl rfl (by kernel_rfl) (by kernel_rfl) (by kernel_rfl) (fun _ _ _ h => h) (.inl ⟨by rfl, fun wx hS => by simp [go_sem]⟩) hS ?_
        simp only [Act.put, List.setIfInBounds_toArray, List.set_cons_zero, List.set_cons_succ]
        refine wpAnyH_all (fuel := 14) (rs := [17]) (by kernel_rfl) (by simp) (fun i hi => ?_)
        simp only [List.mem_cons, List.not_mem_nil, or_false] at hi
        subst hi
        refine callD (some 67) _ rfl rfl 11 #[(.pointer (some ⟨F, 0, none⟩))] (by simp [go_sem]) (by rfl) ((HFA.out wd (.inr hr)).mono ?_)
        rintro e we ⟨rfl, hr2, hg⟩
        replace hPd := hPd.kept hg (by intro e; injection e with e; have := HFw.out; omega)
        replace hS := HRC.out _ hPd
        have HBe := Lib.hid (HBd2.out.grown hg HBd2.out.size (fun k e => by injection e with e; have := HFw.out; omega))
        clear hg
        refine ⟨_, rfl, hS, ?_⟩
        simp only [Act.put, List.setIfInBounds_toArray, List.set_cons_zero, List.set_cons_succ]
        refine wpAnyH_all (fuel := 13) (rs := [19]) (by kernel_rfl) (by simp) (fun i hi => ?_)
        simp only [List.mem_cons, List.not_mem_nil, or_false] at hi
        subst hi
        refine callD (some 69) _ rfl rfl 17 #[(.slice A0 n0 c0)] (by simp [go_sem]) (by rfl) ((HRFA.out we HBe.out).mono ?_)
        rintro e wf ⟨rfl, rfl⟩
        refine ⟨_, rfl, hS, ?_⟩
        simp only [Act.put, List.setIfInBounds_toArray, List.set_cons_zero, List.set_cons_succ]
        refine takeD (i := 20) (oi := _) (v := (.bool true)) (fuel := 12) (some 70) rfl rfl (by kernel_rfl) (by kernel_rfl) (by kernel_rfl) (fun _ _ _ h => h) (.inl ⟨by rfl, fun wx hS => by simp [go_sem]⟩) hS ?_
        simp only [Act.put, List.setIfInBounds_toArray, List.set_cons_zero, List.set_cons_succ]
        refine takeD (i := 21) (oi := _) (v := (.bool true)) (fuel := 11) (some 71) rfl rfl (by kernel_rfl) (by kernel_rfl) (by kernel_rfl) (fun _ _ _ h => h) (.inl ⟨by rfl, fun wx hS => by simp [go_sem]⟩) hS ?_
        simp only [Act.put, List.setIfInBounds_toArray, List.set_cons_zero, List.set_cons_succ]
        refine takeD (i := 22) (oi := _) (v := (.bool true)) (fuel := 10) (some 72) rfl rfl (by kernel_rfl) (by kernel_rfl) (by kernel_rfl) (fun _ _ _ h => h) (.inl ⟨by rfl, fun wx hS => by simp [go_sem]⟩) hS ?_
        simp only [Act.put, List.setIfInBounds_toArray, List.set_cons_zero, List.set_cons_succ]
        refine takeD (i := 23) (oi := _) (v := (.pointer (some ⟨F, 0, none⟩))) (fuel := 9) (some 73) rfl rfl (by kernel_rfl) (by kernel_rfl) (by kernel_rfl) (fun _ _ _ h => h) (.inl ⟨by rfl, fun wx hS => by simp [go_sem]⟩) hS ?_
        simp only [Act.put, List.setIfInBounds_toArray, List.set_cons_zero, List.set_cons_succ]
        refine takeD (i := 25) (oi := _) (v := (.slice A0 n0 c0)) (fuel := 8) (some 75) rfl rfl (by kernel_rfl) (by kernel_rfl) (by kernel_rfl) (fun _ _ _ h => h) (.inl ⟨by rfl, fun wx hS => by simp [go_sem]⟩) hS ?_
        simp only [Act.put, List.setIfInBounds_toArray, List.set_cons_zero, List.set_cons_succ]
        refine wpAnyH_all (fuel := 7) (rs := [24]) (by kernel_rfl) (by simp) (fun i hi => ?_)
        simp only [List.mem_cons, List.not_mem_nil, or_false] at hi
        subst hi
        refine callD (some 74) _ rfl rfl 12 #[(.pointer (some ⟨F, 0, none⟩))] (by simp [go_sem]) (by rfl) ((HGA.out we (.inr hr2)).mono ?_)
        rintro e wg ⟨rfl, hr3, hg⟩
        replace hPd := hPd.kept hg (by intro e; injection e with e; have := HFw.out; omega)
        replace hS := HRC.out _ hPd
        have HBg := Lib.hid (HBe.out.grown hg HBe.out.size (fun k e => by injection e with e; have := HFw.out; omega))
        clear hg
        refine ⟨_, rfl, hS, ?_⟩
        simp only [Act.put, List.setIfInBounds_toArray, List.set_cons_zero, List.set_cons_succ]
        refine wpAnyH_all (fuel := 6) (rs := [26]) (by kernel_rfl) (by simp) (fun i hi => ?_)
        simp only [List.mem_cons, List.not_mem_nil, or_false] at hi
        subst hi
        refine callD (some 76) _ rfl rfl 18 #[(.slice A0 n0 c0)] (by simp [go_sem]) (by rfl) ((HRGA.out wg HBg.out).mono ?_)
        rintro e wh ⟨rfl, rfl⟩
        refine ⟨_, rfl, hS, ?_⟩
        simp only [Act.put, List.setIfInBounds_toArray, List.set_cons_zero, List.set_cons_succ]
        refine takeD (i := 27) (oi := _) (v := (.bool true)) (fuel := 5) (some 77) rfl rfl (by kernel_rfl) (by kernel_rfl) (by kernel_rfl) (fun _ _ _ h => h) (.inl ⟨by rfl, fun wx hS => by simp [go_sem]⟩) hS ?_
        simp only [Act.put, List.setIfInBounds_toArray, List.set_cons_zero, List.set_cons_succ]
        refine takeD (i := 28) (oi := _) (v := (.bool true)) (fuel := 4) (some 78) rfl rfl (by kernel_rfl) (by kernel_rfl) (by kernel_rfl) (fun _ _ _ h => h) (.inl ⟨by rfl, fun wx hS => by simp [go_sem]⟩) hS ?_
        simp only [Act.put, List.setIfInBounds_toArray, List.set_cons_zero, List.set_cons_succ]
        refine takeD (i := 29) (oi := _) (v := (.bool true)) (fuel := 3) (some 79) rfl rfl (by kernel_rfl) (by kernel_rfl) (by kernel_rfl) (fun _ _ _ h => h) (.inl ⟨by rfl, fun wx hS => by simp [go_sem]⟩) hS ?_
        simp only [Act.put, List.setIfInBounds_toArray, List.set_cons_zero, List.set_cons_succ]
        refine wpAnyH_all (fuel := 2) (rs := [30]) (by kernel_rfl) (by simp) (fun i hi => ?_)
        simp only [List.mem_cons, List.not_mem_nil, or_false] at hi
        subst hi
        refine callD (some 80) _ rfl rfl 8 #[] (by simp [go_sem]) (by rfl) ((HAW.out wg HBg.out).mono ?_)
        rintro e wi ⟨rfl, hb⟩
        replace hPd := hPd.later hb
        replace hS := HRC.out _ hPd
        have HBi := Lib.hid (HBg.out.trans (hb.mono HBg.out.size))
        refine ⟨_, rfl, hS, ?_⟩
        simp only [Act.put, List.setIfInBounds_toArray, List.set_cons_zero, List.set_cons_succ]
        refine takeD (i := 31) (oi := _) (v := (.bool true)) (fuel := 1) (some 81) rfl rfl (by kernel_rfl) (by kernel_rfl) (by kernel_rfl) (fun _ _ _ h => h) (.inl ⟨by rfl, fun wx hS => by simp [go_sem]⟩) hS ?_
        simp only [Act.put, List.setIfInBounds_toArray, List.set_cons_zero, List.set_cons_succ]
        refine takeD (i := 32) (oi := _) (v := (.bool true)) (fuel := 0) (some 6) rfl rfl (by kernel_rfl) (by kernel_rfl) (by kernel_rfl) (fun _ _ _ h => h) (.inl ⟨by rfl, fun wx hS => by simp [go_sem]⟩) hS ?_
        simp only [Act.put, List.setIfInBounds_toArray, List.set_cons_zero, List.set_cons_succ]
        refine wpAnyH_done (by kernel_rfl) ?_ _
        go_wp2_with fail
        go_ret
        exact ⟨rfl, HBi.out⟩
    · go_wp2_with fail
      refine (HAW.out _ HB3.out).mono ?_
      rintro e w4 ⟨rfl, hb4⟩
      go_wp2_with fail
      go_ret
      exact ⟨rfl, HB3.out.trans (hb4.mono HB3.out.size)⟩
  · go_wp2_with fail
    refine (HAW.out _ HL0.out).mono ?_
    rintro e w4 ⟨rfl, hb4⟩
    go_wp2_with fail
    go_ret
    exact ⟨rfl, HL0.out.trans (hb4.mono HL0.out.size)⟩
end Go.Proofs.Ytfoppjgjljellaa

/- EvalTells: which cards a filter takes, and what it asks for, is the document's; for every input. No condition. -/
namespace Go.Proofs.Ytfoppjgjljellaa
set_option linter.unusedVariables false
open Go.ChangeShapes Go.WideShapes Go.ChangeAt Go.RowKit

set_option maxRecDepth 100000 in
theorem evalTells_lifted (os : Os) (started : os.Started) (H : Type) (enc : TypeId × Value → H) (F : Stop.Interp) :
    ReturnsInHanded {} Try.checked os 3 .any ((OpenSpec.ofChange Rows.evalTellsSpec).preRow enc Try.prog Try.f3 Rows.evalTellsRow.domain false Rows.evalTellsRow.laid) (((OpenSpec.ofChange Rows.evalTellsSpec).at F).post enc Try.prog Try.f3 false true false false) := by
  refine returnsInHanded_of_row (C := Try.checked) (s := (OpenSpec.ofChange Rows.evalTellsSpec)) own started (by kernel_rfl) Try.func3
    (by
      obtain ⟨w, tape, i, h1, h2, h3, h4, h5, h6, _⟩ := OpenSpec.witness_stopped (enc := enc) (C := Try.checked) (os := os) (f := 3) (fn := Try.f3) (s := (OpenSpec.ofChange Rows.evalTellsSpec)) (conds := Rows.evalTellsRow.domain) (apart := false) false ⟨#[], #[.slice none 0 0, (.agg (ccells 0 0 0 zeros).toArray), .int .u32 0], []⟩ 8 (by kernel_rfl) (by kernel_rfl) (by kernel_rfl) (by kernel_rfl) (by kernel_rfl) rfl (fun _ _ _ => 0)
      exact ⟨w, tape, i, h1, h2, h3, h4, h5, h6⟩) ?_
  intro W base args ds gs before hval hW _ hcond _ _ hsh _
  have hW' := hW
  obtain ⟨p, q, hA0, hV, rfl, hfz, hnd⟩ := hW
  have hA : DataW.TrodAll enc Try.prog W 0 (fun _ => true) true Try.f3.params.toList args.toList ds p := hA0
  rw [Try.params3] at hA hval
  obtain ⟨v0, vs0, d0, ds0, p0, q0, hargs, rfl, rfl, h0, r0⟩ := trodAll_cons hA
  obtain ⟨v1, vs1, d1, ds1, p1, q1, rfl, rfl, rfl, h1, r1⟩ := trodAll_cons r0
  obtain ⟨v2, vs2, d2, ds2, p2, q2, rfl, rfl, rfl, h2, r2⟩ := trodAll_cons r1
  obtain ⟨rfl, rfl, rfl⟩ := trodAll_nil r2
  obtain rfl : args = #[v0, v1, v2] := by cases args; simp_all
  obtain ⟨A0, n0, c0, l0, rfl, hnc0, hcm0, rfl, ok0, hs0⟩ := open_nodes (hval 0 22 v0 rfl rfl) h0
  obtain ⟨id1, ver1, lab1, f1, rfl, hf1, ok1, wi1, wv1⟩ := open_card (hval 1 28 v1 rfl rfl) h1
  obtain ⟨a2, rfl, rfl, rfl, wf2⟩ := open_int Try.underlying23 (hval 2 23 v2 rfl rfl) h2
  obtain ⟨mm, hmm⟩ := max_int hsh
  clear hA0
  obtain ⟨x2, rfl⟩ := u32_wf wf2
  refine (walk_tells mm A0 l0.length c0 l0 id1 ver1 lab1 x2 f1 W hf1 rfl hs0 hnc0 hmm).mono fun e W' ⟨he, hb⟩ => ?_
  subst he
  exact ⟨_, rfl, law_post laidOut (by intro t ht; revert t ht; decide +kernel) rfl rfl boolT rfl hW' hb⟩
theorem EvalTells_holds : Rows.EvalTellsSaid :=
  OpenClaim.holds_of_cond 3 Try.f3 rfl rfl rfl rfl rfl rfl rfl ⟨rfl, rfl, rfl, rfl, rfl⟩ rfl rfl rfl rfl rfl (by kernel_rfl) Try.func3 (by kernel_rfl)
    (of_decide_eq_true (by kernel_rfl)) (by unfold Func.isWrapper; first | (rw [if_pos (by decide +kernel)]; kernel_rfl) | (rw [if_neg (by decide +kernel)]; exact ⟨rfl, rfl⟩))
    (fun os started H enc _ F => by rw [OpenClaim.pre_eq_preRow]; exact evalTells_lifted os started H enc F)
end Go.Proofs.Ytfoppjgjljellaa
