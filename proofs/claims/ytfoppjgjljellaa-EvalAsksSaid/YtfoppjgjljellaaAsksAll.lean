/- EvalAsks: of cards and groups that are alike in what a filter asks for it says the same; for every input. No condition. -/
import Derived.Test.YtfoppjgjljellaaAsksJB
import Derived.Test.YtfoppjgjljellaaCardI
import Derived.Lib.SmallJoins
import Derived.Deep.Strs
import Derived.Test.YtfoppjgjljellaaPrdM
import Derived.Deep.Slices
import Derived.Test.YtfoppjgjljellaaWords
import Derived.ProofKit
import Derived.OpenShut
import Derived.Shelf.Vars
import Derived.Deep.DeepHandedRow
import Derived.Stop.Joined
import Derived.Test.YtfoppjgjljellaaEvG
import Derived.Test.YtfoppjgjljellaaEvD
import Derived.OrdersHeld
/- CardMerges: whether the layer is awake. -/
namespace Go.Proofs.Ytfoppjgjljellaa
set_option linter.unusedVariables false
open Go Go.RowKit BitM

/-- The patch that awake writes. -/
def awf : List V3 := (1, 7, ⟨#[]⟩) :: List.replicate 7 zv
theorem aw_p : #[Value.int .u32 1, .int .u32 0, .int .i64 1, .int .i64 7, .string { data := #[] }, .int .i64 0, .int .i64 0, .string { data := #[] }, .int .i64 0, .int .i64 0, .string { data := #[] }, .int .i64 0, .int .i64 0, .string { data := #[] }, .int .i64 0, .int .i64 0, .string { data := #[] }, .int .i64 0, .int .i64 0, .string { data := #[] }, .int .i64 0, .int .i64 0, .string { data := #[] }, .int .i64 0, .int .i64 0, .string { data := #[] }] = (pcells (((1#32 : BitVec 32).toNat : Nat) : Int) 0 awf).toArray := rfl
theorem aw_mix : mix (fun i => has 1#32 (i : Int)) awf zeros = awf := by decide
theorem aw_mix2 : mix (fun i => has 2#32 (i : Int)) awf zeros = zeros := by decide
theorem aw_zc : (ccells 1 1 0 zeros).toArray = #[Value.int .i64 1, .int .i64 1, .int .u32 0, .int .i64 0, .int .i64 0, .string { data := #[] }, .int .i64 0, .int .i64 0, .string { data := #[] }, .int .i64 0, .int .i64 0, .string { data := #[] }, .int .i64 0, .int .i64 0, .string { data := #[] }, .int .i64 0, .int .i64 0, .string { data := #[] }, .int .i64 0, .int .i64 0, .string { data := #[] }, .int .i64 0, .int .i64 0, .string { data := #[] }, .int .i64 0, .int .i64 0, .string { data := #[] }] := rfl

end Go.Proofs.Ytfoppjgjljellaa

/- What the frame gives of a value, of fields, of a card, of a patch. -/
namespace Go.Proofs.Ytfoppjgjljellaa
set_option linter.unusedVariables false
open Go Go.RowKit BitM

section
variable {H : Type} {enc : TypeId × Value → H} {W : World}

theorem list3 {α : Type} {l : List α} {a b c : α} (hl : l.length = 3) (h0 : (l.drop 0).take 1 = [a]) (h1 : (l.drop 1).take 1 = [b]) (h2 : (l.drop 2).take 1 = [c]) : l = [a, b, c] := by
  match l, hl with
  | [x, y, z], _ => simp at h0 h1 h2; rw [h0, h1, h2]
/-- What a number, a text in an input is. -/
def okV (v : V3) : Prop := (-9223372036854775808 ≤ v.1 ∧ v.1 ≤ 9223372036854775807) ∧ (-9223372036854775808 ≤ v.2.1 ∧ v.2.1 ≤ 9223372036854775807) ∧ v.2.2.size ≤ maxLen
theorem trod_val {sp : Nat → Bool} {held : Bool} {n : Nat} {cs : List Value} {x : DataW H × List MemPlace} (h : DataW.trod enc Try.prog W 0 sp held n 25 cs = some x) : ∃ v : V3, cs = vcells v ∧ okV v := by
  obtain ⟨y0, y1, y2, m, _, hl, h0, h1, h2⟩ := Go.Deep.trod_struct3 Try.underlying25 h
  have c1 : Try.prog.cellsOf 3 = 1 := by kernel_rfl
  have c2 : Try.prog.cellsOf 9 = 1 := by kernel_rfl
  have c3 : Try.prog.cellsOf 25 = 3 := by kernel_rfl
  rw [c3] at hl
  simp only [c1] at h0 h1
  simp only [c2] at h2
  obtain ⟨a, e0, _, w0⟩ := DataW.trod_int Try.underlying3 h0
  obtain ⟨b, e1, _, w1⟩ := DataW.trod_int Try.underlying3 h1
  obtain ⟨s, e2, _, w2⟩ := DataW.trod_string Try.underlying9 h2
  exact ⟨(a, b, s), list3 hl e0 e1 e2, i64_wf w0, i64_wf w1, w2⟩
theorem cut3 : ∀ (l : List Value) (n : Nat), l.length = n * 3 → (∀ i, i < n → ∃ v : V3, (l.drop (i * 3)).take 3 = vcells v ∧ okV v) → ∃ f : List V3, l = fcells f ∧ f.length = n ∧ ∀ v ∈ f, okV v
  | l, 0, hl, _ => ⟨[], List.length_eq_zero_iff.1 (by rw [hl]), rfl, by simp⟩
  | l, n + 1, hl, h => by
    obtain ⟨v, hv, ok⟩ := h 0 (by omega)
    obtain ⟨f, hf, hn, hok⟩ := cut3 (l.drop 3) n (by rw [List.length_drop, hl]; omega) (fun i hi => by
      have := h (i + 1) (by omega)
      rw [List.drop_drop, show 3 + i * 3 = (i + 1) * 3 by omega]
      exact this)
    refine ⟨v :: f, ?_, by simp [hn], ?_⟩
    · rw [fcells_cons, ← hf, ← hv]
      simp
    · intro u hu
      rcases List.mem_cons.1 hu with rfl | hu
      · exact ok
      · exact hok u hu
theorem trod_fields {sp : Nat → Bool} {held : Bool} {n : Nat} {cs : List Value} {x : DataW H × List MemPlace} (h : DataW.trod enc Try.prog W 0 sp held n 26 cs = some x) : ∃ f : List V3, cs = fcells f ∧ f.length = 8 ∧ ∀ v ∈ f, okV v := by
  obtain ⟨xs, m, _, _, hl, hxl, heach⟩ := DataW.trod_array Try.underlying26 h
  have c3 : Try.prog.cellsOf 25 = 3 := by kernel_rfl
  have c8 : Try.prog.cellsOf 26 = 24 := by kernel_rfl
  rw [c8] at hl
  simp only [c3] at heach
  refine cut3 cs 8 hl fun i hi => ?_
  have h1 := heach i hi
  rw [List.getElem?_eq_getElem (by rw [hxl]; exact hi)] at h1
  exact trod_val h1
set_option maxRecDepth 100000 in
theorem open_card {r : Reach} {base : Nat} {v : Value} {d : DataW H} {ps : List MemPlace}
    (hv : Value.okWide Try.prog W r base 28 v) (h : DataW.Trod enc Try.prog W 0 (fun _ => true) true 28 v d ps) :
    ∃ (id ver : Int) (lab : BitVec 32) (f : List V3), v = .agg (ccells id ver (lab.toNat : Int) f).toArray ∧ f.length = 8 ∧ (∀ v ∈ f, okV v) ∧ (-9223372036854775808 ≤ id ∧ id ≤ 9223372036854775807) ∧ (-9223372036854775808 ≤ ver ∧ ver ≤ 9223372036854775807) := by
  simp only [Value.okWide, Try.underlying28] at hv
  obtain ⟨cs, rfl, hrest⟩ := hv
  obtain ⟨fuel, hf⟩ := h
  obtain ⟨y0, y1, y2, y3, m, _, hl, h0, h1, h2, h3⟩ := Go.Joins.trod_struct4 Try.underlying28 hf
  have c1 : Try.prog.cellsOf 3 = 1 := by kernel_rfl
  have c2 : Try.prog.cellsOf 23 = 1 := by kernel_rfl
  have c8 : Try.prog.cellsOf 26 = 24 := by kernel_rfl
  have c27 : Try.prog.cellsOf 28 = 27 := by kernel_rfl
  rw [c27] at hl
  simp only [c1, Value.cells] at h0 h1
  simp only [c2, Value.cells] at h2
  simp only [c8, Value.cells] at h3
  simp only [Value.cells] at hl
  obtain ⟨a, e0, _, w0⟩ := DataW.trod_int Try.underlying3 h0
  obtain ⟨b, e1, _, w1⟩ := DataW.trod_int Try.underlying3 h1
  obtain ⟨c, e2, _, w2⟩ := DataW.trod_int Try.underlying23 h2
  obtain ⟨f, e3, hf8, hok⟩ := trod_fields h3
  obtain ⟨x, rfl⟩ := u32_wf w2
  refine ⟨a, b, x, f, ?_, hf8, hok, i64_wf w0, i64_wf w1⟩
  congr 1
  apply Array.toList_inj.1
  have e4 : cs.toList.take 3 = [.int .i64 a, .int .i64 b, .int .u32 (x.toNat : Int)] := list3 (by rw [List.length_take, hl]; rfl) (by simpa [List.take_take, List.drop_take] using e0) (by simpa [List.take_take, List.drop_take] using e1) (by simpa [List.take_take, List.drop_take] using e2)
  rw [← List.take_append_drop 3 cs.toList, e4]
  unfold ccells
  rw [← e3, List.take_of_length_le (by rw [List.length_drop, hl]; omega)]
theorem list2 {α : Type} {l : List α} {a b : α} (hl : l.length = 2) (h0 : (l.drop 0).take 1 = [a]) (h1 : (l.drop 1).take 1 = [b]) : l = [a, b] := by
  match l, hl with
  | [x, y], _ => simp at h0 h1; rw [h0, h1]
set_option maxRecDepth 100000 in
theorem open_patch {r : Reach} {base : Nat} {v : Value} {d : DataW H} {ps : List MemPlace}
    (hv : Value.okWide Try.prog W r base 46 v) (h : DataW.Trod enc Try.prog W 0 (fun _ => true) true 46 v d ps) :
    ∃ (m lab : BitVec 32) (f : List V3), v = .agg (pcells (m.toNat : Int) (lab.toNat : Int) f).toArray ∧ f.length = 8 ∧ (∀ v ∈ f, okV v) := by
  simp only [Value.okWide, Try.underlying46] at hv
  obtain ⟨cs, rfl, hrest⟩ := hv
  obtain ⟨fuel, hf⟩ := h
  obtain ⟨y0, y1, y2, m, _, hl, h0, h1, h2⟩ := Go.Deep.trod_struct3 Try.underlying46 hf
  have c2 : Try.prog.cellsOf 23 = 1 := by kernel_rfl
  have c8 : Try.prog.cellsOf 26 = 24 := by kernel_rfl
  have c26 : Try.prog.cellsOf 46 = 26 := by kernel_rfl
  rw [c26] at hl
  simp only [c2, Value.cells] at h0 h1
  simp only [c8, Value.cells] at h2
  simp only [Value.cells] at hl
  obtain ⟨a, e0, _, w0⟩ := DataW.trod_int Try.underlying23 h0
  obtain ⟨b, e1, _, w1⟩ := DataW.trod_int Try.underlying23 h1
  obtain ⟨f, e3, hf8, hok⟩ := trod_fields h2
  obtain ⟨x, rfl⟩ := u32_wf w0
  obtain ⟨y, rfl⟩ := u32_wf w1
  refine ⟨x, y, f, ?_, hf8, hok⟩
  congr 1
  apply Array.toList_inj.1
  have e4 : cs.toList.take 2 = [.int .u32 (x.toNat : Int), .int .u32 (y.toNat : Int)] := list2 (by rw [List.length_take, hl]; rfl) (by simpa [List.take_take, List.drop_take] using e0) (by simpa [List.take_take, List.drop_take] using e1)
  rw [← List.take_append_drop 2 cs.toList, e4]
  unfold pcells
  rw [← e3, List.take_of_length_le (by rw [List.length_drop, hl]; omega)]
end
end Go.Proofs.Ytfoppjgjljellaa

/- What the frame gives of a list of nodes. -/
namespace Go.Proofs.Ytfoppjgjljellaa
set_option linter.unusedVariables false
open Go Go.RowKit Go.Deep Go.ChangeShapes Go.WideShapes Go.ChangeAt

def okNd (n : Nd) : Prop := (-9223372036854775808 ≤ n.1 ∧ n.1 ≤ 9223372036854775807) ∧ (-9223372036854775808 ≤ n.2.1 ∧ n.2.1 ≤ 9223372036854775807) ∧ okV n.2.2
section
variable {H : Type} {enc : TypeId × Value → H} {W : World}
set_option maxRecDepth 100000 in
theorem trod_node {sp : Nat → Bool} {held : Bool} {n : Nat} {cs : List Value} {x : DataW H × List MemPlace} (h : DataW.trod enc Try.prog W 0 sp held n 57 cs = some x) : ∃ v : Nd, cs = ncells v ∧ okNd v := by
  obtain ⟨y0, y1, y2, m, _, hl, h0, h1, h2⟩ := Go.Deep.trod_struct3 Try.underlying57 h
  have c1 : Try.prog.cellsOf 3 = 1 := by kernel_rfl
  have c3 : Try.prog.cellsOf 25 = 3 := by kernel_rfl
  have c5 : Try.prog.cellsOf 57 = 5 := by kernel_rfl
  rw [c5] at hl
  simp only [c1] at h0 h1
  simp only [c3] at h2
  obtain ⟨a, e0, _, w0⟩ := DataW.trod_int Try.underlying3 h0
  obtain ⟨b, e1, _, w1⟩ := DataW.trod_int Try.underlying3 h1
  obtain ⟨v, e2, ok⟩ := trod_val h2
  refine ⟨(a, b, v), ?_, i64_wf w0, i64_wf w1, ok⟩
  have e4 : cs.take 2 = [.int .i64 a, .int .i64 b] := list2 (by rw [List.length_take, hl]; rfl) (by simpa [List.take_take, List.drop_take] using e0) (by simpa [List.take_take, List.drop_take] using e1)
  have e5 : cs.drop 2 = vcells v := by rw [← e2, List.take_of_length_le (by rw [List.length_drop, hl]; omega)]
  rw [ncells_of, ← List.take_append_drop 2 cs, e4, e5]
set_option maxRecDepth 100000 in
theorem open_nodes {r : Reach} {base : Nat} {v : Value} {d : DataW H} {ps : List MemPlace}
    (hv : Value.okWide Try.prog W r base 22 v) (h : DataW.Trod enc Try.prog W 0 (fun _ => true) true 22 v d ps) :
    ∃ A n c, ∃ l : List Nd, v = .slice A n c ∧ n ≤ c ∧ c ≤ maxLen ∧ l.length = n ∧ (∀ z ∈ l, okNd z) ∧ Sees W W.heap.size A (ncs l) := by
  obtain ⟨A, n, c, rfl⟩ := okWide_slice Try.underlying22 hv
  obtain ⟨fuel, hf⟩ := h
  have hlt := DataW.trod_lt fuel _ _ _ hf
  have c5 : Try.prog.cellsOf 57 = 5 := by kernel_rfl
  rcases open_slice Try.underlying22 hf with ⟨hcs, hx⟩ | ⟨x, n, c, m, fu, D, Pl, hcs, hb, hl, hm, hmm, hx, hcell⟩
  · simp [Value.cells] at hcs
    obtain ⟨rfl, rfl, rfl⟩ := hcs
    exact ⟨none, 0, 0, [], rfl, Nat.le_refl _, by simp [maxLen], rfl, by simp, Sees.nil_⟩
  · simp [Value.cells] at hcs
    obtain ⟨rfl, rfl, rfl⟩ := hcs
    simp only [if_true] at hmm
    subst hmm
    have each : ∀ i, i < n → ∃ z : Nd, (∀ j u, (ncells z)[j]? = some u → W.cell? (x.add (i * 5 + j)) = some u) ∧ okNd z := fun i hi => by
      obtain ⟨cs', h1, h2⟩ := hcell i (by omega)
      obtain ⟨z, rfl, ok⟩ := trod_node h2
      refine ⟨z, fun j u hj => ?_, ok⟩
      rw [c5] at h1
      obtain ⟨_, hlen, hc⟩ := World.cells?_some h1
      have hj5 : j < 5 := by
        have := (List.getElem?_eq_some_iff.1 hj).1
        rwa [ncells_len] at this
      have e1 := hc j hj5
      rw [add_add] at e1
      rw [e1, hj]
    obtain ⟨f, hf2⟩ := choose_lt (α := Nd) each
    have hlen : ((List.range n).map f).length = n := by simp
    refine ⟨some x, n, m, (List.range n).map f, rfl, hl, hm, hlen, fun z hz => ?_, fun hpos => ?_⟩
    · obtain ⟨i, hi, rfl⟩ := List.mem_map.1 hz
      exact (hf2 i (List.mem_range.1 hi)).2
    · rw [ncs_len, hlen] at hpos
      have h0 := (hf2 0 (by omega)).1 0 _ rfl
      obtain ⟨b, off, spot⟩ := x
      have hspot : spot = none := by simpa [Addr.add] using World.cell?_spot h0
      subst hspot
      refine ⟨b, off, rfl, ?_, fun j hj => ?_⟩
      · simp only [Prod.mk.injEq] at hx
        obtain ⟨_, rfl⟩ := hx
        have := hlt (.cell b off) (by simp [MemPlace.row, c5]; omega)
        simpa [MemPlace.block] using this
      · have hj2 := hj
        rw [ncs_len, hlen] at hj2
        have hk : j / 5 < ((List.range n).map f).length := by rw [hlen]; omega
        have h3 : (ncells ((List.range n).map f)[j / 5])[j % 5]? = some (ncs ((List.range n).map f))[j] := by
          have h4 := ncs_get _ (j / 5) hk
          rw [← h4, List.getElem?_take, if_pos (by omega), List.getElem?_drop, show 5 * (j / 5) + j % 5 = j by omega, List.getElem?_eq_getElem hj]
        have h5 := (hf2 (j / 5) (by omega)).1 (j % 5) _ (by simpa using h3)
        rw [show j / 5 * 5 + j % 5 = j by omega, add_at] at h5
        exact h5
end
end Go.Proofs.Ytfoppjgjljellaa

/- What each frame of this seat asks once. -/
namespace Go.Proofs.Ytfoppjgjljellaa
theorem own : ownKnob Try.prog.godebug = none := by kernel_rfl
theorem laidOut : laidOutB Try.prog = true := by kernel_rfl
theorem boolT : Try.prog.underlying 4 = some .bool := Try.underlying4
end Go.Proofs.Ytfoppjgjljellaa

/- What the frame gives of two cards; and of the library's MaxLen. -/
namespace Go.Proofs.Ytfoppjgjljellaa
set_option linter.unusedVariables false
open Go Go.RowKit BitM Go.ChangeShapes Go.WideShapes Go.ChangeAt

theorem max_int {W : World} (h : W.ShapedOpen Try.prog) : ∃ m, W.cell? ⟨0, 0, none⟩ = some (.int .i64 m) :=
  Go.Proofs.cell_of_shapedOpen_int (zero := #[.int .i64 0]) (t := 3) h (of_decide_eq_true (by kernel_rfl)) (by kernel_rfl) rfl (by kernel_rfl) (by kernel_rfl) Try.underlying3
section
variable {H : Type} {enc : TypeId × Value → H} {W : World}
set_option maxRecDepth 100000 in
theorem trod_card {sp : Nat → Bool} {held : Bool} {n : Nat} {cs : List Value} {x : DataW H × List MemPlace} (h : DataW.trod enc Try.prog W 0 sp held n 28 cs = some x) :
    ∃ (id ver : Int) (lab : BitVec 32) (f : List V3), cs = ccells id ver (lab.toNat : Int) f ∧ f.length = 8 ∧ (∀ v ∈ f, okV v) ∧ (-9223372036854775808 ≤ id ∧ id ≤ 9223372036854775807) ∧ (-9223372036854775808 ≤ ver ∧ ver ≤ 9223372036854775807) := by
  obtain ⟨y0, y1, y2, y3, m, _, hl, h0, h1, h2, h3⟩ := Go.Joins.trod_struct4 Try.underlying28 h
  have c1 : Try.prog.cellsOf 3 = 1 := by kernel_rfl
  have c2 : Try.prog.cellsOf 23 = 1 := by kernel_rfl
  have c8 : Try.prog.cellsOf 26 = 24 := by kernel_rfl
  have c27 : Try.prog.cellsOf 28 = 27 := by kernel_rfl
  rw [c27] at hl
  simp only [c1] at h0 h1
  simp only [c2] at h2
  simp only [c8] at h3
  obtain ⟨a, e0, _, w0⟩ := DataW.trod_int Try.underlying3 h0
  obtain ⟨b, e1, _, w1⟩ := DataW.trod_int Try.underlying3 h1
  obtain ⟨c, e2, _, w2⟩ := DataW.trod_int Try.underlying23 h2
  obtain ⟨f, e3, hf8, hok⟩ := trod_fields h3
  obtain ⟨x, rfl⟩ := u32_wf w2
  refine ⟨a, b, x, f, ?_, hf8, hok, i64_wf w0, i64_wf w1⟩
  have e4 : cs.take 3 = [.int .i64 a, .int .i64 b, .int .u32 (x.toNat : Int)] := list3 (by rw [List.length_take, hl]; rfl) (by simpa [List.take_take, List.drop_take] using e0) (by simpa [List.take_take, List.drop_take] using e1) (by simpa [List.take_take, List.drop_take] using e2)
  rw [← List.take_append_drop 3 cs, e4]
  unfold ccells
  rw [← e3, List.take_of_length_le (by rw [List.length_drop, hl]; omega)]
set_option maxRecDepth 100000 in
theorem open_cards {r : Reach} {base : Nat} {v : Value} {d : DataW H} {ps : List MemPlace}
    (hv : Value.okWide Try.prog W r base 42 v) (h : DataW.Trod enc Try.prog W 0 (fun _ => true) true 42 v d ps) :
    ∃ (id0 ver0 id1 ver1 : Int) (lab0 lab1 : BitVec 32) (f0 f1 : List V3), v = .agg (ccells id0 ver0 (lab0.toNat : Int) f0 ++ ccells id1 ver1 (lab1.toNat : Int) f1).toArray ∧ f0.length = 8 ∧ f1.length = 8 ∧
      (-9223372036854775808 ≤ ver1 ∧ ver1 ≤ 9223372036854775807) := by
  simp only [Value.okWide, Try.underlying42] at hv
  obtain ⟨cs, rfl, hrest⟩ := hv
  obtain ⟨fuel, hf⟩ := h
  obtain ⟨xs, m, _, _, hl, hxl, heach⟩ := DataW.trod_array Try.underlying42 hf
  have c27 : Try.prog.cellsOf 28 = 27 := by kernel_rfl
  have c54 : Try.prog.cellsOf 42 = 54 := by kernel_rfl
  rw [c54] at hl
  simp only [c27, Value.cells] at heach
  simp only [Value.cells] at hl
  have h0 := heach 0 (by decide)
  have h1 := heach 1 (by decide)
  rw [List.getElem?_eq_getElem (by rw [hxl]; decide)] at h0 h1
  obtain ⟨id0, ver0, lab0, f0, e0, hf0, _, _, _⟩ := trod_card h0
  obtain ⟨id1, ver1, lab1, f1, e1, hf1, _, _, wv1⟩ := trod_card h1
  refine ⟨id0, ver0, id1, ver1, lab0, lab1, f0, f1, ?_, hf0, hf1, wv1⟩
  congr 1
  apply Array.toList_inj.1
  have e4 : cs.toList = cs.toList.take 27 ++ (cs.toList.drop 27).take 27 := by
    rw [List.take_of_length_le (i := 27) (l := cs.toList.drop 27) (by rw [List.length_drop, hl]; decide), List.take_append_drop]
  simp only [Nat.zero_mul, List.drop_zero] at e0
  simp only [Nat.one_mul] at e1
  rw [e4, e0, e1]
set_option maxRecDepth 100000 in
theorem open_two {r : Reach} {base : Nat} {v : Value} {d : DataW H} {ps : List MemPlace}
    (hv : Value.okWide Try.prog W r base 43 v) (h : DataW.Trod enc Try.prog W 0 (fun _ => true) true 43 v d ps) :
    ∃ g0 g1 : BitVec 32, v = .agg #[.int .u32 (g0.toNat : Int), .int .u32 (g1.toNat : Int)] := by
  obtain ⟨zs, rfl, hzl, hzw⟩ := open_array Try.underlying43 Try.underlying23 (by kernel_rfl) (by kernel_rfl) hv h
  match zs, hzl with
  | [a, b], _ =>
    obtain ⟨x, rfl⟩ := u32_wf (hzw a (by simp))
    obtain ⟨y, rfl⟩ := u32_wf (hzw b (by simp))
    exact ⟨x, y, rfl⟩
end
end Go.Proofs.Ytfoppjgjljellaa

/- The document's Fields and Groups of a filter. -/
namespace Go.Proofs.Ytfoppjgjljellaa
set_option linter.unusedVariables false
set_option linter.unusedSimpArgs false
open Go Go.RowKit Go.Shelf BitM ValM

theorem nok_small {x : Nd} (h : nok x = true) (h3 : 3 ≤ x.1) (h9 : x.1 ≤ 9) : 0 ≤ x.2.1 ∧ x.2.1 < 16 := by
  unfold nok at h
  repeat' split at h
  all_goals first
    | (cases h; done)
    | (simp only [decide_eq_true_eq] at h; omega)
    | omega
theorem put_8 (s : BitVec 32) : put s 8 = s ||| 256#32 := by
  unfold put
  rw [show one 8 = 256#32 from by decide]
set_option maxRecDepth 100000 in
set_option maxHeartbeats 3200000 in
theorem rfields_any (A : Option Addr) (n c : Nat) (l : List Nd) (w : World) (hn : l.length = n) (hs : Sees w w.heap.size A (ncs l)) (hm : n ≤ 65536) (hok : ∀ x ∈ l, nok x = true) :
    Calls Try.prog 17 #[.slice A n c] w fun e w' => e = .returned (.int .u32 ((fls l).toNat : Int)) ∧ w = w' := by
  have HL := Lib.hid hn
  have HOK := Lib.hid hok
  have HS := Lib.hid hs
  have e0 : (((0#32 : BitVec 32).toNat : Nat) : Int) = 0 := rfl
  clear hn hok hs
  go_enter Try.func17, Try.ntmps17
  go_wp2_with fail
  go_loopw [3, 4] (fun m i wr => ∃ k : Nat, k ≤ n ∧ i = .int .i64 k ∧ m = .int .u32 (((fls (l.take k)).toNat : Nat) : Int) ∧ wr = w) (fun _ i _ => n - (intOf i).toNat)
  case atStart => exact ⟨0, Nat.zero_le _, rfl, rfl, rfl⟩
  case round =>
    obtain ⟨k, hk, rfl, rfl, rfl⟩ := hrel
    by_cases hlt : k < n
    · have hkl : k < l.length := by rw [HL.out]; exact hlt
      obtain ⟨b, o, rfl, hb, h0, h1, _⟩ := sees_node HS.out k hkl
      have d1 : decide ((k : Int) < (n : Int)) = true := by simp; omega
      have d0 : (k : Int) < (n : Int) := by omega
      have FS := Lib.hid (fls_succ l k hkl)
      have HN := Lib.hid (fun (h3 : 3 ≤ l[k].1) (h9 : l[k].1 ≤ 9) => nok_small (HOK.out l[k] (List.getElem_mem hkl)) h3 h9)
      obtain ⟨x, hx⟩ : ∃ x, x = l[k] := ⟨_, rfl⟩
      rw [← hx] at h0 h1 FS HN
      obtain ⟨fs, hfs⟩ : ∃ f, f = fls (l.take k) := ⟨_, rfl⟩
      rw [← hfs] at FS ⊢
      obtain ⟨op, hop0⟩ : ∃ op, op = x.1 := ⟨_, rfl⟩
      obtain ⟨nv, hnv⟩ : ∃ nv, nv = x.2.1 := ⟨_, rfl⟩
      rw [← hop0] at h0 HN
      rw [← hnv] at h1 HN
      clear hx hfs
      by_cases h3 : op = 3
      · subst h3
        have HFS : Hid (fls (l.take (k + 1)) = put fs 8) := Lib.hid (by rw [FS.out, fstep, if_pos hop0.symm, put_8])
        clear HN hop0 hnv h1 FS
        go_wp2_with fail
        refine (rwith_any fs 8 (by decide) _).mono ?_
        rintro e w1 ⟨rfl, rfl⟩
        go_wp2_with fail
        go_roundw
        case rel => exact ⟨k + 1, by omega, by go_num, by rw [HFS.out], trivial⟩
        case measure => simp [intOf]; omega
      · have b3 : (op == 3) = false := by simpa using h3
        by_cases h59 : 5 ≤ op ∧ op ≤ 9
        · have b5 : decide (5 ≤ op) = true := by simpa using h59.1
          have b9 : decide (op ≤ 9) = true := by simpa using h59.2
          obtain ⟨g0, g16⟩ := HN.out (by omega) h59.2
          obtain ⟨j, rfl⟩ : ∃ j : Nat, nv = (j : Int) := ⟨nv.toNat, by omega⟩
          have hj : j < 32 := by omega
          have HFS : Hid (fls (l.take (k + 1)) = put fs j) := Lib.hid (by rw [FS.out, fstep, if_neg (by rw [← hop0]; exact h3), if_pos (by rw [← hop0]; exact h59), ← hnv])
          clear HN hop0 hnv FS h59 h3 g0 g16
          go_wp2_with fail
          refine (rwith_any fs j hj _).mono ?_
          rintro e w1 ⟨rfl, rfl⟩
          go_wp2_with fail
          go_roundw
          case rel => exact ⟨k + 1, by omega, by go_num, by rw [HFS.out], trivial⟩
          case measure => simp [intOf]; omega
        · have HFS : Hid (fls (l.take (k + 1)) = fs) := Lib.hid (by rw [FS.out, fstep, if_neg (by rw [← hop0]; exact h3), if_neg (by rw [← hop0]; exact h59)])
          clear HN hop0 hnv FS h3
          by_cases h5 : 5 ≤ op
          · have b5 : decide (5 ≤ op) = true := by simpa using h5
            have b9 : decide (op ≤ 9) = false := by simp; omega
            clear h59 h5
            go_wp2_with fail
            go_roundw
            case rel => exact ⟨k + 1, by omega, by go_num, by rw [HFS.out], trivial⟩
            case measure => simp [intOf]; omega
          · have b5 : decide (5 ≤ op) = false := by simpa using h5
            clear h59 h5
            go_wp2_with fail
            go_roundw
            case rel => exact ⟨k + 1, by omega, by go_num, by rw [HFS.out], trivial⟩
            case measure => simp [intOf]; omega
    · obtain rfl : k = n := by omega
      have d1 : decide ((k : Int) < (k : Int)) = false := by simp
      have HE : Hid (fls (l.take k) = fls l) := Lib.hid (by rw [List.take_of_length_le (by rw [HL.out]; exact Nat.le_refl _)])
      rw [HE.out]
      go_wp2_with fail
      go_ret
      exact ⟨rfl, rfl⟩
set_option maxRecDepth 100000 in
set_option maxHeartbeats 3200000 in
theorem rgroups_any (A : Option Addr) (n c : Nat) (l : List Nd) (w : World) (hn : l.length = n) (hs : Sees w w.heap.size A (ncs l)) (hm : n ≤ 65536) (hok : ∀ x ∈ l, nok x = true) :
    Calls Try.prog 18 #[.slice A n c] w fun e w' => e = .returned (.int .u32 ((grs l).toNat : Int)) ∧ w = w' := by
  have HL := Lib.hid hn
  have HOK := Lib.hid hok
  have HS := Lib.hid hs
  have e0 : (((0#32 : BitVec 32).toNat : Nat) : Int) = 0 := rfl
  clear hn hok hs
  go_enter Try.func18, Try.ntmps18
  go_wp2_with fail
  go_loopw [3, 4] (fun m i wr => ∃ k : Nat, k ≤ n ∧ i = .int .i64 k ∧ m = .int .u32 (((grs (l.take k)).toNat : Nat) : Int) ∧ wr = w) (fun _ i _ => n - (intOf i).toNat)
  case atStart => exact ⟨0, Nat.zero_le _, rfl, rfl, rfl⟩
  case round =>
    obtain ⟨k, hk, rfl, rfl, rfl⟩ := hrel
    by_cases hlt : k < n
    · have hkl : k < l.length := by rw [HL.out]; exact hlt
      obtain ⟨b, o, rfl, hb, h0, h1, _⟩ := sees_node HS.out k hkl
      have d1 : decide ((k : Int) < (n : Int)) = true := by simp; omega
      have d0 : (k : Int) < (n : Int) := by omega
      have FS := Lib.hid (grs_succ l k hkl)
      have HN := Lib.hid (fun (h3 : 3 ≤ l[k].1) (h9 : l[k].1 ≤ 9) => nok_small (HOK.out l[k] (List.getElem_mem hkl)) h3 h9)
      obtain ⟨x, hx⟩ : ∃ x, x = l[k] := ⟨_, rfl⟩
      rw [← hx] at h0 h1 FS HN
      obtain ⟨fs, hfs⟩ : ∃ f, f = grs (l.take k) := ⟨_, rfl⟩
      rw [← hfs] at FS ⊢
      obtain ⟨op, hop0⟩ : ∃ op, op = x.1 := ⟨_, rfl⟩
      obtain ⟨nv, hnv⟩ : ∃ nv, nv = x.2.1 := ⟨_, rfl⟩
      rw [← hop0] at h0 HN
      rw [← hnv] at h1 HN
      clear hx hfs
      by_cases h4 : op = 4
      · subst h4
        obtain ⟨g0, g16⟩ := HN.out (by omega) (by omega)
        obtain ⟨j, rfl⟩ : ∃ j : Nat, nv = (j : Int) := ⟨nv.toNat, by omega⟩
        have hj : j < 32 := by omega
        have HFS : Hid (grs (l.take (k + 1)) = put fs j) := Lib.hid (by rw [FS.out, gstep, if_pos hop0.symm, ← hnv])
        clear HN hop0 hnv FS g0 g16
        go_wp2_with fail
        refine (rwith_any fs j hj _).mono ?_
        rintro e w1 ⟨rfl, rfl⟩
        go_wp2_with fail
        go_roundw
        case rel => exact ⟨k + 1, by omega, by go_num, by rw [HFS.out], trivial⟩
        case measure => simp [intOf]; omega
      · have b4 : (op == 4) = false := by simpa using h4
        have HFS : Hid (grs (l.take (k + 1)) = fs) := Lib.hid (by rw [FS.out, gstep, if_neg (by rw [← hop0]; exact h4)])
        clear HN hop0 hnv FS h4
        go_wp2_with fail
        go_roundw
        case rel => exact ⟨k + 1, by omega, by go_num, by rw [HFS.out], trivial⟩
        case measure => simp [intOf]; omega
    · obtain rfl : k = n := by omega
      have d1 : decide ((k : Int) < (k : Int)) = false := by simp
      have HE : Hid (grs (l.take k) = grs l) := Lib.hid (by rw [List.take_of_length_le (by rw [HL.out]; exact Nat.le_refl _)])
      rw [HE.out]
      go_wp2_with fail
      go_ret
      exact ⟨rfl, rfl⟩
end Go.Proofs.Ytfoppjgjljellaa

/- What a filter asks, it asks: cards and groups that agree in what it asks are told alike; sets put together number by number. -/
namespace Go.Proofs.Ytfoppjgjljellaa
set_option linter.unusedVariables false
set_option linter.unusedSimpArgs false
open Go Go.RowKit Go.Shelf BitM ValM

/-- A set without a number. -/
def del (x : BitVec 32) (n : Int) : BitVec 32 := x &&& ~~~ one n
theorem del_out {x : BitVec 32} {n : Int} (h : has x n = false) : del x n = x := by
  unfold del
  apply BitVec.eq_of_getLsbD_eq
  intro i hi
  simp only [BitVec.getLsbD_and, BitVec.getLsbD_not, hi, decide_true, Bool.true_and]
  by_cases hn : 0 ≤ n ∧ n < 32
  · obtain ⟨k, rfl⟩ := Int.eq_ofNat_of_zero_le hn.1
    have hk : k < 32 := by omega
    rw [has_in x hk] at h
    rw [one_in hk, BitVec.getLsbD_twoPow]
    by_cases e : k = i
    · subst e; simp [h]
    · simp [e]
  · rw [one_out hn]; simp
theorem del_in {x : BitVec 32} {k : Nat} (hk : k < 32) (h : has x (k : Int) = true) : (del x k).toNat + 2 ^ k = x.toNat := by
  have hb : (del x k).getLsbD k = false := by
    unfold del
    rw [one_in hk]
    simp [hk]
  have h2 := (put_add_nat hk hb).1
  rw [h2]
  congr 1
  apply BitVec.eq_of_getLsbD_eq
  intro i hi
  rw [has_in x hk] at h
  unfold del
  rw [one_in hk]
  simp only [BitVec.getLsbD_or, BitVec.getLsbD_and, BitVec.getLsbD_not, hi, decide_true, Bool.true_and, BitVec.getLsbD_twoPow]
  by_cases e : k = i
  · subst e; simp [h]
  · simp [e]
theorem rwithout_any (x : BitVec 32) (n : Int) (w : World) : Calls Try.prog 21 #[.int .u32 (x.toNat : Int), .int .i64 n] w fun e w' => e = .returned (.int .u32 ((del x n).toNat : Int)) ∧ w = w' := by
  have HH := Lib.hid (rhas_any x n w)
  cases hb : has x n with
  | false =>
    rw [hb] at HH
    rw [del_out hb]
    clear hb
    go_enter Try.func21, Try.ntmps21
    go_wp2_with fail
    refine HH.out.mono ?_
    rintro e w' ⟨rfl, rfl⟩
    go_wp2_with fail
    go_ret
    exact ⟨rfl, rfl⟩
  | true =>
    rw [hb] at HH
    have hn : 0 ≤ n ∧ n < 32 := by
      by_cases h : 0 ≤ n ∧ n < 32
      · exact h
      · rw [has_out x h] at hb; cases hb
    obtain ⟨k, rfl⟩ := Int.eq_ofNat_of_zero_le hn.1
    have hk : k < 32 := by omega
    have HO := Lib.hid (rone_any k hk w)
    have h2 := del_in hk hb
    have hX := x.isLt
    obtain ⟨m, hm⟩ : ∃ m, m = 2 ^ k := ⟨_, rfl⟩
    obtain ⟨r, hr⟩ : ∃ r, r = (del x k).toNat := ⟨_, rfl⟩
    obtain ⟨X, hX2⟩ : ∃ X, X = x.toNat := ⟨_, rfl⟩
    rw [← hm] at HO h2
    rw [← hr] at h2 ⊢
    rw [← hX2] at HH hX h2 ⊢
    have HR : Hid ((r : Int) = (X : Int) - (m : Int)) := Lib.hid (by omega)
    have h3 : m ≤ X := by omega
    clear hb h2 hm hr hX2
    go_enter Try.func21, Try.ntmps21
    go_wp2_with fail
    refine HH.out.mono ?_
    rintro e w' ⟨rfl, rfl⟩
    go_wp2_with fail
    refine HO.out.mono ?_
    rintro e w' ⟨rfl, rfl⟩
    go_wp2_with fail
    go_ret
    rw [HR.out]
    exact ⟨by go_num, rfl⟩

/-- Trees whose leaves say the same say the same. -/
theorem evs_congr {lab g lab' g' : BitVec 32} {f f' : List V3} : ∀ {l : List Nd}, (∀ x ∈ l, leafv lab g f x = leafv lab' g' f' x) → evs lab g f l = evs lab' g' f' l
  | [], _ => rfl
  | x :: l, h => by
    rw [evs_cons, evs_cons, evs_congr (fun y hy => h y (List.mem_cons_of_mem _ hy)), h x (by simp)]
theorem ev_congr {lab g lab' g' : BitVec 32} {f f' : List V3} {l : List Nd} (h : ∀ x ∈ l, leafv lab g f x = leafv lab' g' f' x) : ev lab g f l = ev lab' g' f' l := by
  unfold ev
  rw [evs_congr h]
theorem has_put (s : BitVec 32) (i : Nat) (hi : i < 32) (n : Int) : has (put s n) (i : Int) = (has s (i : Int) || decide (n = (i : Int))) := by
  rw [has_in _ hi, has_in _ hi]
  unfold put
  rw [BitVec.getLsbD_or]
  congr 1
  by_cases hn : 0 ≤ n ∧ n < 32
  · obtain ⟨k, rfl⟩ := Int.eq_ofNat_of_zero_le hn.1
    have hk : k < 32 := by omega
    rw [one_in hk, BitVec.getLsbD_twoPow]
    by_cases e : k = i
    · subst e; simp [hi]
    · have e2 : decide ((k : Int) = (i : Int)) = false := by simp; omega
      rw [e2]
      simp [e]
  · have e2 : decide (n = (i : Int)) = false := by simp; omega
    rw [one_out hn, e2]
    simp
theorem has_256 (s : BitVec 32) (i : Nat) (hi : i < 32) : has (s ||| 256#32) (i : Int) = (has s (i : Int) || decide (i = 8)) := by
  rw [← put_8, has_put s i hi 8]
  congr 1
  by_cases e : i = 8
  · subst e; rfl
  · simp [e]; omega
theorem fstep_has (s : BitVec 32) (x : Nd) (i : Nat) (hi : i < 32) : has (fstep s x) (i : Int) = (has s (i : Int) || (decide (x.1 = 3 ∧ i = 8) || decide (¬ x.1 = 3 ∧ 5 ≤ x.1 ∧ x.1 ≤ 9 ∧ x.2.1 = (i : Int)))) := by
  unfold fstep
  by_cases h3 : x.1 = 3
  · rw [if_pos h3, has_256 s i hi]; simp [h3]
  · rw [if_neg h3]
    by_cases h5 : 5 ≤ x.1 ∧ x.1 ≤ 9
    · rw [if_pos h5, has_put s i hi]; simp [h3, h5]
    · rw [if_neg h5]
      have : ¬ (5 ≤ x.1 ∧ x.1 ≤ 9 ∧ x.2.1 = (i : Int)) := fun h => h5 ⟨h.1, h.2.1⟩
      simp [h3, this]
theorem gstep_has (s : BitVec 32) (x : Nd) (i : Nat) (hi : i < 32) : has (gstep s x) (i : Int) = (has s (i : Int) || decide (x.1 = 4 ∧ x.2.1 = (i : Int))) := by
  unfold gstep
  by_cases h4 : x.1 = 4
  · rw [if_pos h4, has_put s i hi]; simp [h4]
  · rw [if_neg h4]; simp [h4]
theorem fold_has {st : BitVec 32 → Nd → BitVec 32} {c : Nd → Bool} {i : Nat} (h : ∀ s x, has (st s x) (i : Int) = (has s (i : Int) || c x)) : ∀ (l : List Nd) (s : BitVec 32), has (l.foldl st s) (i : Int) = (has s (i : Int) || l.any c)
  | [], s => by simp
  | x :: l, s => by
    rw [List.foldl_cons, fold_has h l (st s x), h, List.any_cons, Bool.or_assoc]
theorem fls_lab {l : List Nd} {x : Nd} (hx : x ∈ l) (h3 : x.1 = 3) : has (fls l) 8 = true := by
  have h := fold_has (i := 8) (fun s x => fstep_has s x 8 (by decide)) l 0#32
  have e : ((8 : Nat) : Int) = 8 := rfl
  rw [e] at h
  unfold fls
  rw [h, Bool.or_eq_true]
  right
  rw [List.any_eq_true]
  exact ⟨x, hx, by simp [h3]⟩
theorem fls_fld {l : List Nd} {x : Nd} (hx : x ∈ l) (h5 : 5 ≤ x.1) (h9 : x.1 ≤ 9) (k : Nat) (hk : x.2.1 = (k : Int)) (hk8 : k < 32) : has (fls l) (k : Int) = true := by
  have h := fold_has (i := k) (fun s x => fstep_has s x k hk8) l 0#32
  unfold fls
  rw [h, Bool.or_eq_true]
  right
  rw [List.any_eq_true]
  have h3 : ¬ x.1 = 3 := by omega
  exact ⟨x, hx, by simp [h3, h5, h9, hk]⟩
theorem grs_grp {l : List Nd} {x : Nd} (hx : x ∈ l) (h4 : x.1 = 4) (k : Nat) (hk : x.2.1 = (k : Int)) (hk8 : k < 32) : has (grs l) (k : Int) = true := by
  have h := fold_has (i := k) (fun s x => gstep_has s x k hk8) l 0#32
  unfold grs
  rw [h, Bool.or_eq_true]
  right
  rw [List.any_eq_true]
  exact ⟨x, hx, by simp [h4, hk]⟩
theorem has_511 (x : BitVec 32) (i : Nat) (hi : i ≤ 8) : has (x &&& 511#32) (i : Int) = has x (i : Int) := by
  rw [has_in _ (by omega), has_in _ (by omega), BitVec.getLsbD_and]
  have : (511#32 : BitVec 32).getLsbD i = true := by
    have : i = 0 ∨ i = 1 ∨ i = 2 ∨ i = 3 ∨ i = 4 ∨ i = 5 ∨ i = 6 ∨ i = 7 ∨ i = 8 := by omega
    rcases this with rfl | rfl | rfl | rfl | rfl | rfl | rfl | rfl | rfl <;> decide
  rw [this, Bool.and_true]
/-- What is told of one card is told of another that agrees with it in what is asked. -/
theorem ev_asks {lab g lab' g' : BitVec 32} {f f' : List V3} {l : List Nd} (hok : ∀ x ∈ l, nok x = true) (hl : has (fls l) 8 = true → lab = lab') (hf : ∀ k : Nat, k < 8 → has (fls l) (k : Int) = true → f.getD k zv = f'.getD k zv)
    (hg : ∀ k : Nat, k < 32 → has (grs l) (k : Int) = true → has g (k : Int) = has g' (k : Int)) : ev lab g f l = ev lab' g' f' l := by
  refine ev_congr fun x hx => ?_
  have hok := hok x hx
  have hop := nok_op hok
  have hn := nok_n hok
  have hs := nok_small hok
  unfold leafv
  by_cases h1 : x.1 = 1
  · rw [if_pos h1, if_pos h1]
  · rw [if_neg h1, if_neg h1]
    by_cases h3 : x.1 = 3
    · rw [if_pos h3, if_pos h3, hl (fls_lab hx h3)]
    · rw [if_neg h3, if_neg h3]
      by_cases h4 : x.1 = 4
      · obtain ⟨a, b⟩ := hs (by omega) (by omega)
        obtain ⟨k, hk⟩ : ∃ k : Nat, x.2.1 = (k : Int) := ⟨x.2.1.toNat, by omega⟩
        rw [if_pos h4, if_pos h4, hk]
        exact hg k (by omega) (grs_grp hx h4 k hk (by omega))
      · rw [if_neg h4, if_neg h4]
        by_cases h59 : 5 ≤ x.1 ∧ x.1 ≤ 9
        · obtain ⟨a, b⟩ := hn h59.1 h59.2
          obtain ⟨k, hk⟩ : ∃ k : Nat, x.2.1 = (k : Int) := ⟨x.2.1.toNat, by omega⟩
          have e := hf k (by omega) (fls_fld hx h59.1 h59.2 k hk (by omega))
          rw [hk, Int.toNat_natCast, e]
        · rw [if_neg (by omega), if_neg (by omega), if_neg (by omega), if_neg (by omega), if_neg (by omega), if_neg (by omega), if_neg (by omega), if_neg (by omega), if_neg (by omega), if_neg (by omega)]
/-- A set that has, below k, of the asked numbers what one has, and else what another has. -/
def Mixg (G g0 g1 : BitVec 32) (k : Nat) (x : BitVec 32) : Prop := ∀ i : Nat, i < 32 → has x (i : Int) = if i < k ∧ has G (i : Int) = true then has g0 (i : Int) else has g1 (i : Int)
theorem mixg_zero (G g0 g1 : BitVec 32) : Mixg G g0 g1 0 g1 := fun i hi => by rw [if_neg (by omega)]
theorem has_del (s : BitVec 32) (i k : Nat) (hi : i < 32) (hk : k < 32) : has (del s (k : Int)) (i : Int) = (has s (i : Int) && decide (k ≠ i)) := by
  rw [has_in _ hi, has_in _ hi]
  unfold del
  rw [one_in hk, BitVec.getLsbD_and, BitVec.getLsbD_not, BitVec.getLsbD_twoPow]
  by_cases e : k = i
  · subst e; simp [hi]
  · simp [hi, e]
theorem mixg_put {G g0 g1 x : BitVec 32} {k : Nat} (h : Mixg G g0 g1 k x) (hk : k < 32) (hc : (if has G (k : Int) = true then has g0 (k : Int) else has g1 (k : Int)) = true) : Mixg G g0 g1 (k + 1) (put (del x (k : Int)) (k : Int)) := fun i hi => by
  rw [has_put _ i hi, has_del x i k hi hk, h i hi]
  by_cases e : k = i
  · subst e
    have e1 : k < k + 1 := by omega
    simp only [e1, true_and]
    rw [hc]; simp
  · have : (i < k + 1 ∧ has G (i : Int) = true) = (i < k ∧ has G (i : Int) = true) := by
      apply propext; constructor <;> rintro ⟨a, b⟩ <;> exact ⟨by omega, b⟩
    simp only [this]
    have e2 : decide ((k : Int) = (i : Int)) = false := by simp; omega
    rw [e2]; simp [e]
theorem mixg_del {G g0 g1 x : BitVec 32} {k : Nat} (h : Mixg G g0 g1 k x) (hk : k < 32) (hc : (if has G (k : Int) = true then has g0 (k : Int) else has g1 (k : Int)) = false) : Mixg G g0 g1 (k + 1) (del x (k : Int)) := fun i hi => by
  rw [has_del x i k hi hk, h i hi]
  by_cases e : k = i
  · subst e
    have e1 : k < k + 1 := by omega
    simp only [e1, true_and]
    rw [hc]; simp
  · have : (i < k + 1 ∧ has G (i : Int) = true) = (i < k ∧ has G (i : Int) = true) := by
      apply propext; constructor <;> rintro ⟨a, b⟩ <;> exact ⟨by omega, b⟩
    simp only [this]
    simp [e]
theorem mixg_end {G g0 g1 x : BitVec 32} (h : Mixg G g0 g1 32 x) (k : Nat) (hk : k < 32) (hG : has G (k : Int) = true) : has x (k : Int) = has g0 (k : Int) := by
  rw [h k hk, if_pos ⟨hk, hG⟩]
end Go.Proofs.Ytfoppjgjljellaa

/- The document's leaf: what a node without parts says of a card, and of its groups. -/
namespace Go.Proofs.Ytfoppjgjljellaa
set_option linter.unusedVariables false
set_option linter.unusedSimpArgs false
open Go Go.RowKit Go.Shelf BitM ValM

set_option maxRecDepth 100000 in
set_option maxHeartbeats 3200000 in
theorem rleaf_all (id ver : Int) (lab g : BitVec 32) (fs : List V3) (w : World) (hf : fs.length = 8) (hsz : ∀ u ∈ fs, u.2.2.size ≤ 1000) (nn : Int) (v : V3) :
    Calls Try.prog 32 #[.agg (ncells (1, nn, v)).toArray, .agg (ccells id ver (lab.toNat : Int) fs).toArray, .int .u32 (g.toNat : Int)] w fun e w' => e = .returned (.bool (true)) ∧ Below w.heap.size w w' := by
  have hu := Try.underlying25
  have B0 := (Blk.new w (ncells (1, nn, v)) 57).alloc (.cells (ccells id ver (lab.toNat : Int) fs).toArray 28)
  have B1 := Blk.new (w.alloc (.cells (ncells (1, nn, v)).toArray 57)) (ccells id ver (lab.toNat : Int) fs) 28
  have hz1 : (w.alloc (.cells (ncells (1, nn, v)).toArray 57)).heap.size = w.heap.size + 1 := by simp
  rw [hz1] at B1
  have hb : Below w.heap.size w ((w.alloc (.cells (ncells (1, nn, v)).toArray 57)).alloc (.cells (ccells id ver (lab.toNat : Int) fs).toArray 28)) := ((Below.refl _ w).alloc (Nat.le_refl _) _).alloc (by simp) _
  have c0 := B0.cell (j := 0) rfl
  have n1 := B0.cell (j := 1) rfl
  have l2 := B1.cell (j := 2) rfl
  obtain ⟨na, hna⟩ : ∃ na, na = (ncells (1, nn, v)).toArray := ⟨_, rfl⟩
  obtain ⟨cs, hcs⟩ : ∃ cs, cs = (ccells id ver (lab.toNat : Int) fs).toArray := ⟨_, rfl⟩
  rw [← hna, ← hcs] at c0 n1 l2 B0 hb ⊢
  rw [← hna, ← hcs] at B1
  clear hna hcs hz1 B0 B1 hf hsz
  go_enter Try.func32, Try.ntmps32
  go_wp2_with fail
  go_ret
  exact ⟨rfl, hb⟩
set_option maxRecDepth 100000 in
set_option maxHeartbeats 3200000 in
theorem rleaf_never (id ver : Int) (lab g : BitVec 32) (fs : List V3) (w : World) (hf : fs.length = 8) (hsz : ∀ u ∈ fs, u.2.2.size ≤ 1000) (nn : Int) (v : V3) :
    Calls Try.prog 32 #[.agg (ncells (2, nn, v)).toArray, .agg (ccells id ver (lab.toNat : Int) fs).toArray, .int .u32 (g.toNat : Int)] w fun e w' => e = .returned (.bool (false)) ∧ Below w.heap.size w w' := by
  have hu := Try.underlying25
  have B0 := (Blk.new w (ncells (2, nn, v)) 57).alloc (.cells (ccells id ver (lab.toNat : Int) fs).toArray 28)
  have B1 := Blk.new (w.alloc (.cells (ncells (2, nn, v)).toArray 57)) (ccells id ver (lab.toNat : Int) fs) 28
  have hz1 : (w.alloc (.cells (ncells (2, nn, v)).toArray 57)).heap.size = w.heap.size + 1 := by simp
  rw [hz1] at B1
  have hb : Below w.heap.size w ((w.alloc (.cells (ncells (2, nn, v)).toArray 57)).alloc (.cells (ccells id ver (lab.toNat : Int) fs).toArray 28)) := ((Below.refl _ w).alloc (Nat.le_refl _) _).alloc (by simp) _
  have c0 := B0.cell (j := 0) rfl
  have n1 := B0.cell (j := 1) rfl
  have l2 := B1.cell (j := 2) rfl
  obtain ⟨na, hna⟩ : ∃ na, na = (ncells (2, nn, v)).toArray := ⟨_, rfl⟩
  obtain ⟨cs, hcs⟩ : ∃ cs, cs = (ccells id ver (lab.toNat : Int) fs).toArray := ⟨_, rfl⟩
  rw [← hna, ← hcs] at c0 n1 l2 B0 hb ⊢
  rw [← hna, ← hcs] at B1
  clear hna hcs hz1 B0 B1 hf hsz
  go_enter Try.func32, Try.ntmps32
  go_wp2_with fail
  go_ret
  exact ⟨rfl, hb⟩
set_option maxRecDepth 100000 in
set_option maxHeartbeats 3200000 in
theorem rleaf_lab (id ver : Int) (lab g : BitVec 32) (fs : List V3) (w : World) (hf : fs.length = 8) (hsz : ∀ u ∈ fs, u.2.2.size ≤ 1000) (nn : Int) (v : V3) :
    Calls Try.prog 32 #[.agg (ncells (3, nn, v)).toArray, .agg (ccells id ver (lab.toNat : Int) fs).toArray, .int .u32 (g.toNat : Int)] w fun e w' => e = .returned (.bool (has lab nn)) ∧ Below w.heap.size w w' := by
  have hu := Try.underlying25
  have B0 := (Blk.new w (ncells (3, nn, v)) 57).alloc (.cells (ccells id ver (lab.toNat : Int) fs).toArray 28)
  have B1 := Blk.new (w.alloc (.cells (ncells (3, nn, v)).toArray 57)) (ccells id ver (lab.toNat : Int) fs) 28
  have hz1 : (w.alloc (.cells (ncells (3, nn, v)).toArray 57)).heap.size = w.heap.size + 1 := by simp
  rw [hz1] at B1
  have hb : Below w.heap.size w ((w.alloc (.cells (ncells (3, nn, v)).toArray 57)).alloc (.cells (ccells id ver (lab.toNat : Int) fs).toArray 28)) := ((Below.refl _ w).alloc (Nat.le_refl _) _).alloc (by simp) _
  have c0 := B0.cell (j := 0) rfl
  have n1 := B0.cell (j := 1) rfl
  have l2 := B1.cell (j := 2) rfl
  obtain ⟨na, hna⟩ : ∃ na, na = (ncells (3, nn, v)).toArray := ⟨_, rfl⟩
  obtain ⟨cs, hcs⟩ : ∃ cs, cs = (ccells id ver (lab.toNat : Int) fs).toArray := ⟨_, rfl⟩
  rw [← hna, ← hcs] at c0 n1 l2 B0 hb ⊢
  rw [← hna, ← hcs] at B1
  clear hna hcs hz1 B0 B1 hf hsz
  go_enter Try.func32, Try.ntmps32
  go_wp2_with fail
  refine (rhas_any lab nn _).mono ?_
  rintro e w1 ⟨rfl, rfl⟩
  go_wp2_with fail
  go_ret
  exact ⟨rfl, hb⟩
set_option maxRecDepth 100000 in
set_option maxHeartbeats 3200000 in
theorem rleaf_grp (id ver : Int) (lab g : BitVec 32) (fs : List V3) (w : World) (hf : fs.length = 8) (hsz : ∀ u ∈ fs, u.2.2.size ≤ 1000) (nn : Int) (v : V3) :
    Calls Try.prog 32 #[.agg (ncells (4, nn, v)).toArray, .agg (ccells id ver (lab.toNat : Int) fs).toArray, .int .u32 (g.toNat : Int)] w fun e w' => e = .returned (.bool (has g nn)) ∧ Below w.heap.size w w' := by
  have hu := Try.underlying25
  have B0 := (Blk.new w (ncells (4, nn, v)) 57).alloc (.cells (ccells id ver (lab.toNat : Int) fs).toArray 28)
  have B1 := Blk.new (w.alloc (.cells (ncells (4, nn, v)).toArray 57)) (ccells id ver (lab.toNat : Int) fs) 28
  have hz1 : (w.alloc (.cells (ncells (4, nn, v)).toArray 57)).heap.size = w.heap.size + 1 := by simp
  rw [hz1] at B1
  have hb : Below w.heap.size w ((w.alloc (.cells (ncells (4, nn, v)).toArray 57)).alloc (.cells (ccells id ver (lab.toNat : Int) fs).toArray 28)) := ((Below.refl _ w).alloc (Nat.le_refl _) _).alloc (by simp) _
  have c0 := B0.cell (j := 0) rfl
  have n1 := B0.cell (j := 1) rfl
  have l2 := B1.cell (j := 2) rfl
  obtain ⟨na, hna⟩ : ∃ na, na = (ncells (4, nn, v)).toArray := ⟨_, rfl⟩
  obtain ⟨cs, hcs⟩ : ∃ cs, cs = (ccells id ver (lab.toNat : Int) fs).toArray := ⟨_, rfl⟩
  rw [← hna, ← hcs] at c0 n1 l2 B0 hb ⊢
  rw [← hna, ← hcs] at B1
  clear hna hcs hz1 B0 B1 hf hsz
  go_enter Try.func32, Try.ntmps32
  go_wp2_with fail
  refine (rhas_any g nn _).mono ?_
  rintro e w1 ⟨rfl, rfl⟩
  go_wp2_with fail
  go_ret
  exact ⟨rfl, hb⟩
set_option maxRecDepth 100000 in
set_option maxHeartbeats 3200000 in
theorem rleaf_has (id ver : Int) (lab g : BitVec 32) (fs : List V3) (w : World) (hf : fs.length = 8) (hsz : ∀ u ∈ fs, u.2.2.size ≤ 1000) (k : Nat) (hk8 : k < 8) (v : V3) (hv : v.2.2.size ≤ 1000) :
    Calls Try.prog 32 #[.agg (ncells (5, (k : Int), v)).toArray, .agg (ccells id ver (lab.toNat : Int) fs).toArray, .int .u32 (g.toNat : Int)] w fun e w' => e = .returned (.bool ((fs.getD k zv).1 != 0)) ∧ Below w.heap.size w w' := by
  have hu := Try.underlying25
  have B0 := (Blk.new w (ncells (5, (k : Int), v)) 57).alloc (.cells (ccells id ver (lab.toNat : Int) fs).toArray 28)
  have B1 := Blk.new (w.alloc (.cells (ncells (5, (k : Int), v)).toArray 57)) (ccells id ver (lab.toNat : Int) fs) 28
  have hz1 : (w.alloc (.cells (ncells (5, (k : Int), v)).toArray 57)).heap.size = w.heap.size + 1 := by simp
  rw [hz1] at B1
  have hb : Below w.heap.size w ((w.alloc (.cells (ncells (5, (k : Int), v)).toArray 57)).alloc (.cells (ccells id ver (lab.toNat : Int) fs).toArray 28)) := ((Below.refl _ w).alloc (Nat.le_refl _) _).alloc (by simp) _
  have c0 := B0.cell (j := 0) rfl
  have n1 := B0.cell (j := 1) rfl
  have l2 := B1.cell (j := 2) rfl
  have hkf : k < fs.length := by omega
  have ek : fs.getD k zv = fs[k] := by rw [List.getD_eq_getElem?_getD, List.getElem?_eq_getElem hkf]; rfl
  rw [ek]
  have hus := hsz _ (List.getElem_mem hkf)
  obtain ⟨u, hU⟩ : ∃ u, u = fs[k] := ⟨_, rfl⟩
  have BR : ∀ wy, Blk wy (w.heap.size + 1) (ccells id ver (lab.toNat : Int) fs) → wy.rangeAt (w.heap.size + 1) (3 + k * 3) (vcells u) := fun wy h => by rw [hU]; exact h.fieldR k hkf
  rw [← hU] at hus ⊢
  have d8 : (k : Int) < 8 := by omega
  obtain ⟨na, hna⟩ : ∃ na, na = (ncells (5, (k : Int), v)).toArray := ⟨_, rfl⟩
  obtain ⟨cs, hcs⟩ : ∃ cs, cs = (ccells id ver (lab.toNat : Int) fs).toArray := ⟨_, rfl⟩
  rw [← hna, ← hcs] at c0 n1 l2 B0 hb ⊢
  rw [← hna, ← hcs] at B1
  have kf := (BR _ B1) 0 _ rfl
  have kg : cs[3 + k * 3]? = some (Value.int .i64 u.1) := by simpa [go_sem] using kf
  clear hna hcs hz1 B0 B1 BR hf hsz ek hkf hus hU
  go_enter Try.func32, Try.ntmps32
  go_wp2_with fail
  go_ret
  exact ⟨rfl, hb⟩
set_option maxRecDepth 100000 in
set_option maxHeartbeats 3200000 in
theorem rleaf_eql (id ver : Int) (lab g : BitVec 32) (fs : List V3) (w : World) (hf : fs.length = 8) (hsz : ∀ u ∈ fs, u.2.2.size ≤ 1000) (k : Nat) (hk8 : k < 8) (v : V3) (hv : v.2.2.size ≤ 1000) :
    Calls Try.prog 32 #[.agg (ncells (6, (k : Int), v)).toArray, .agg (ccells id ver (lab.toNat : Int) fs).toArray, .int .u32 (g.toNat : Int)] w fun e w' => e = .returned (.bool (decide ((fs.getD k zv) = v))) ∧ Below w.heap.size w w' := by
  have hu := Try.underlying25
  have B0 := (Blk.new w (ncells (6, (k : Int), v)) 57).alloc (.cells (ccells id ver (lab.toNat : Int) fs).toArray 28)
  have B1 := Blk.new (w.alloc (.cells (ncells (6, (k : Int), v)).toArray 57)) (ccells id ver (lab.toNat : Int) fs) 28
  have hz1 : (w.alloc (.cells (ncells (6, (k : Int), v)).toArray 57)).heap.size = w.heap.size + 1 := by simp
  rw [hz1] at B1
  have hb : Below w.heap.size w ((w.alloc (.cells (ncells (6, (k : Int), v)).toArray 57)).alloc (.cells (ccells id ver (lab.toNat : Int) fs).toArray 28)) := ((Below.refl _ w).alloc (Nat.le_refl _) _).alloc (by simp) _
  have c0 := B0.cell (j := 0) rfl
  have n1 := B0.cell (j := 1) rfl
  have l2 := B1.cell (j := 2) rfl
  have hkf : k < fs.length := by omega
  have ek : fs.getD k zv = fs[k] := by rw [List.getD_eq_getElem?_getD, List.getElem?_eq_getElem hkf]; rfl
  rw [ek]
  have hus := hsz _ (List.getElem_mem hkf)
  obtain ⟨u, hU⟩ : ∃ u, u = fs[k] := ⟨_, rfl⟩
  have BR : ∀ wy, Blk wy (w.heap.size + 1) (ccells id ver (lab.toNat : Int) fs) → wy.rangeAt (w.heap.size + 1) (3 + k * 3) (vcells u) := fun wy h => by rw [hU]; exact h.fieldR k hkf
  rw [← hU] at hus ⊢
  have d8 : (k : Int) < 8 := by omega
  obtain ⟨na, hna⟩ : ∃ na, na = (ncells (6, (k : Int), v)).toArray := ⟨_, rfl⟩
  obtain ⟨cs, hcs⟩ : ∃ cs, cs = (ccells id ver (lab.toNat : Int) fs).toArray := ⟨_, rfl⟩
  rw [← hna, ← hcs] at c0 n1 l2 B0 hb ⊢
  rw [← hna, ← hcs] at B1
  have HB0 := Lib.hid B0
  have HB1 := Lib.hid B1
  have HBR := Lib.hid BR
  have HBB := Lib.hid hb
  clear hna hcs hz1 B0 B1 BR hf hsz ek hkf hU n1 l2 hb
  go_enter Try.func32, Try.ntmps32
  go_wp2_with fail
  refine wp_region_steady [] 73 (by kernel_rfl) (by kernel_rfl) (by kernel_rfl) (by rfl) ?_
  repeat (refine wpG_quiet (by rfl) (by rfl) (by rfl) (fun K hK => ?_); go_big_quiet_op; refine hK _ ?_; clear hK K)
  refine wpG_run (by rfl) (by rfl) (.int .i64 (k : Int)) (fun w1 hl => ?_) ?_
  · have n1 := (HB0.out.later hl.1).cell (j := 1) rfl
    simp [go_sem, n1]
  simp only [Act.put, List.setIfInBounds_toArray, List.set_cons_zero, List.set_cons_succ]
  repeat (refine wpG_quiet (by rfl) (by rfl) (by rfl) (fun K hK => ?_); go_big_quiet_op; refine hK _ ?_; clear hK K)
  refine wpG_run (by rfl) (by rfl) (.agg (vcells u).toArray) (fun w1 hl => exec_load 25 (.tmp 38) rfl (w.heap.size + 1) (3 + k * 3) rfl (vcells u) _ (HBR.out w1 (HB1.out.later hl.1)) hu rfl info_val) ?_
  simp only [Act.put, List.setIfInBounds_toArray, List.set_cons_zero, List.set_cons_succ]
  repeat (refine wpG_quiet (by rfl) (by rfl) (by rfl) (fun K hK => ?_); go_big_quiet_op; refine hK _ ?_; clear hK K)
  refine wpG_run (by rfl) (by rfl) (.agg (vcells v).toArray) (fun w1 hl => exec_load 25 (.tmp 40) rfl w.heap.size 2 rfl (vcells v) _ ((HB0.out.later hl.1).range 2 (vcells v) rfl) hu rfl info_val) ?_
  simp only [Act.put, List.setIfInBounds_toArray, List.set_cons_zero, List.set_cons_succ]
  refine wpG_run (by rfl) (by rfl) (.bool (decide (u = v))) (fun w1 hl => exec_eql 25 _ (.tmp 39) (.tmp 41) rfl _ _ rfl rfl guard_val (decide (u = v)) (eq_val 9998 u v _)) ?_
  simp only [Act.put, List.setIfInBounds_toArray, List.set_cons_zero, List.set_cons_succ]
  repeat (refine wpG_quiet (by rfl) (by rfl) (by rfl) (fun K hK => ?_); go_big_quiet_op; refine hK _ ?_; clear hK K)
  refine wpG_nil fun w1 hl hs => ?_
  go_wp2_with fail
  go_ret
  exact ⟨rfl, HBB.out.trans (hl.mono HBB.out.size)⟩
set_option maxRecDepth 100000 in
set_option maxHeartbeats 3200000 in
theorem rleaf_less (id ver : Int) (lab g : BitVec 32) (fs : List V3) (w : World) (hf : fs.length = 8) (hsz : ∀ u ∈ fs, u.2.2.size ≤ 1000) (k : Nat) (hk8 : k < 8) (v : V3) (hv : v.2.2.size ≤ 1000) :
    Calls Try.prog 32 #[.agg (ncells (7, (k : Int), v)).toArray, .agg (ccells id ver (lab.toNat : Int) fs).toArray, .int .u32 (g.toNat : Int)] w fun e w' => e = .returned (.bool (vless (fs.getD k zv) v)) ∧ Below w.heap.size w w' := by
  have hu := Try.underlying25
  have B0 := (Blk.new w (ncells (7, (k : Int), v)) 57).alloc (.cells (ccells id ver (lab.toNat : Int) fs).toArray 28)
  have B1 := Blk.new (w.alloc (.cells (ncells (7, (k : Int), v)).toArray 57)) (ccells id ver (lab.toNat : Int) fs) 28
  have hz1 : (w.alloc (.cells (ncells (7, (k : Int), v)).toArray 57)).heap.size = w.heap.size + 1 := by simp
  rw [hz1] at B1
  have hb : Below w.heap.size w ((w.alloc (.cells (ncells (7, (k : Int), v)).toArray 57)).alloc (.cells (ccells id ver (lab.toNat : Int) fs).toArray 28)) := ((Below.refl _ w).alloc (Nat.le_refl _) _).alloc (by simp) _
  have c0 := B0.cell (j := 0) rfl
  have n1 := B0.cell (j := 1) rfl
  have l2 := B1.cell (j := 2) rfl
  have hkf : k < fs.length := by omega
  have ek : fs.getD k zv = fs[k] := by rw [List.getD_eq_getElem?_getD, List.getElem?_eq_getElem hkf]; rfl
  rw [ek]
  have hus := hsz _ (List.getElem_mem hkf)
  obtain ⟨u, hU⟩ : ∃ u, u = fs[k] := ⟨_, rfl⟩
  have BR : ∀ wy, Blk wy (w.heap.size + 1) (ccells id ver (lab.toNat : Int) fs) → wy.rangeAt (w.heap.size + 1) (3 + k * 3) (vcells u) := fun wy h => by rw [hU]; exact h.fieldR k hkf
  rw [← hU] at hus ⊢
  have d8 : (k : Int) < 8 := by omega
  obtain ⟨na, hna⟩ : ∃ na, na = (ncells (7, (k : Int), v)).toArray := ⟨_, rfl⟩
  obtain ⟨cs, hcs⟩ : ∃ cs, cs = (ccells id ver (lab.toNat : Int) fs).toArray := ⟨_, rfl⟩
  rw [← hna, ← hcs] at c0 n1 l2 B0 hb ⊢
  rw [← hna, ← hcs] at B1
  have HB0 := Lib.hid B0
  have HB1 := Lib.hid B1
  have HBR := Lib.hid BR
  have HBB := Lib.hid hb
  clear hna hcs hz1 B0 B1 BR hf hsz ek hkf hU n1 l2 hb
  go_enter Try.func32, Try.ntmps32
  go_wp2_with fail
  refine wp_region_steady [] 73 (by kernel_rfl) (by kernel_rfl) (by kernel_rfl) (by rfl) ?_
  repeat (refine wpG_quiet (by rfl) (by rfl) (by rfl) (fun K hK => ?_); go_big_quiet_op; refine hK _ ?_; clear hK K)
  refine wpG_run (by rfl) (by rfl) (.int .i64 (k : Int)) (fun w1 hl => ?_) ?_
  · have n1 := (HB0.out.later hl.1).cell (j := 1) rfl
    simp [go_sem, n1]
  simp only [Act.put, List.setIfInBounds_toArray, List.set_cons_zero, List.set_cons_succ]
  repeat (refine wpG_quiet (by rfl) (by rfl) (by rfl) (fun K hK => ?_); go_big_quiet_op; refine hK _ ?_; clear hK K)
  refine wpG_run (by rfl) (by rfl) (.agg (vcells u).toArray) (fun w1 hl => exec_load 25 (.tmp 48) rfl (w.heap.size + 1) (3 + k * 3) rfl (vcells u) _ (HBR.out w1 (HB1.out.later hl.1)) hu rfl info_val) ?_
  simp only [Act.put, List.setIfInBounds_toArray, List.set_cons_zero, List.set_cons_succ]
  repeat (refine wpG_quiet (by rfl) (by rfl) (by rfl) (fun K hK => ?_); go_big_quiet_op; refine hK _ ?_; clear hK K)
  refine wpG_run (by rfl) (by rfl) (.agg (vcells v).toArray) (fun w1 hl => exec_load 25 (.tmp 50) rfl w.heap.size 2 rfl (vcells v) _ ((HB0.out.later hl.1).range 2 (vcells v) rfl) hu rfl info_val) ?_
  simp only [Act.put, List.setIfInBounds_toArray, List.set_cons_zero, List.set_cons_succ]
  refine wpG_call (by rfl) (by rfl) 45 #[.agg (vcells u).toArray, .agg (vcells v).toArray] (.bool (vless u v)) (by intro _; simp [go_sem]) (by kernel_rfl) (fun w1 hl => rless_any u v w1 hus hv) ?_
  simp only [Act.put, List.setIfInBounds_toArray, List.set_cons_zero, List.set_cons_succ]
  repeat (refine wpG_quiet (by rfl) (by rfl) (by rfl) (fun K hK => ?_); go_big_quiet_op; refine hK _ ?_; clear hK K)
  refine wpG_nil fun w1 hl hs => ?_
  go_wp2_with fail
  go_ret
  exact ⟨rfl, HBB.out.trans (hl.mono HBB.out.size)⟩
set_option maxRecDepth 100000 in
set_option maxHeartbeats 3200000 in
theorem rleaf_more (id ver : Int) (lab g : BitVec 32) (fs : List V3) (w : World) (hf : fs.length = 8) (hsz : ∀ u ∈ fs, u.2.2.size ≤ 1000) (k : Nat) (hk8 : k < 8) (v : V3) (hv : v.2.2.size ≤ 1000) :
    Calls Try.prog 32 #[.agg (ncells (8, (k : Int), v)).toArray, .agg (ccells id ver (lab.toNat : Int) fs).toArray, .int .u32 (g.toNat : Int)] w fun e w' => e = .returned (.bool (vless v (fs.getD k zv))) ∧ Below w.heap.size w w' := by
  have hu := Try.underlying25
  have B0 := (Blk.new w (ncells (8, (k : Int), v)) 57).alloc (.cells (ccells id ver (lab.toNat : Int) fs).toArray 28)
  have B1 := Blk.new (w.alloc (.cells (ncells (8, (k : Int), v)).toArray 57)) (ccells id ver (lab.toNat : Int) fs) 28
  have hz1 : (w.alloc (.cells (ncells (8, (k : Int), v)).toArray 57)).heap.size = w.heap.size + 1 := by simp
  rw [hz1] at B1
  have hb : Below w.heap.size w ((w.alloc (.cells (ncells (8, (k : Int), v)).toArray 57)).alloc (.cells (ccells id ver (lab.toNat : Int) fs).toArray 28)) := ((Below.refl _ w).alloc (Nat.le_refl _) _).alloc (by simp) _
  have c0 := B0.cell (j := 0) rfl
  have n1 := B0.cell (j := 1) rfl
  have l2 := B1.cell (j := 2) rfl
  have hkf : k < fs.length := by omega
  have ek : fs.getD k zv = fs[k] := by rw [List.getD_eq_getElem?_getD, List.getElem?_eq_getElem hkf]; rfl
  rw [ek]
  have hus := hsz _ (List.getElem_mem hkf)
  obtain ⟨u, hU⟩ : ∃ u, u = fs[k] := ⟨_, rfl⟩
  have BR : ∀ wy, Blk wy (w.heap.size + 1) (ccells id ver (lab.toNat : Int) fs) → wy.rangeAt (w.heap.size + 1) (3 + k * 3) (vcells u) := fun wy h => by rw [hU]; exact h.fieldR k hkf
  rw [← hU] at hus ⊢
  have d8 : (k : Int) < 8 := by omega
  obtain ⟨na, hna⟩ : ∃ na, na = (ncells (8, (k : Int), v)).toArray := ⟨_, rfl⟩
  obtain ⟨cs, hcs⟩ : ∃ cs, cs = (ccells id ver (lab.toNat : Int) fs).toArray := ⟨_, rfl⟩
  rw [← hna, ← hcs] at c0 n1 l2 B0 hb ⊢
  rw [← hna, ← hcs] at B1
  have HB0 := Lib.hid B0
  have HB1 := Lib.hid B1
  have HBR := Lib.hid BR
  have HBB := Lib.hid hb
  clear hna hcs hz1 B0 B1 BR hf hsz ek hkf hU n1 l2 hb
  go_enter Try.func32, Try.ntmps32
  go_wp2_with fail
  refine wp_region_steady [] 73 (by kernel_rfl) (by kernel_rfl) (by kernel_rfl) (by rfl) ?_
  repeat (refine wpG_quiet (by rfl) (by rfl) (by rfl) (fun K hK => ?_); go_big_quiet_op; refine hK _ ?_; clear hK K)
  refine wpG_run (by rfl) (by rfl) (.agg (vcells v).toArray) (fun w1 hl => exec_load 25 (.tmp 55) rfl w.heap.size 2 rfl (vcells v) _ ((HB0.out.later hl.1).range 2 (vcells v) rfl) hu rfl info_val) ?_
  simp only [Act.put, List.setIfInBounds_toArray, List.set_cons_zero, List.set_cons_succ]
  repeat (refine wpG_quiet (by rfl) (by rfl) (by rfl) (fun K hK => ?_); go_big_quiet_op; refine hK _ ?_; clear hK K)
  refine wpG_run (by rfl) (by rfl) (.int .i64 (k : Int)) (fun w1 hl => ?_) ?_
  · have n1 := (HB0.out.later hl.1).cell (j := 1) rfl
    simp [go_sem, n1]
  simp only [Act.put, List.setIfInBounds_toArray, List.set_cons_zero, List.set_cons_succ]
  repeat (refine wpG_quiet (by rfl) (by rfl) (by rfl) (fun K hK => ?_); go_big_quiet_op; refine hK _ ?_; clear hK K)
  refine wpG_run (by rfl) (by rfl) (.agg (vcells u).toArray) (fun w1 hl => exec_load 25 (.tmp 60) rfl (w.heap.size + 1) (3 + k * 3) rfl (vcells u) _ (HBR.out w1 (HB1.out.later hl.1)) hu rfl info_val) ?_
  simp only [Act.put, List.setIfInBounds_toArray, List.set_cons_zero, List.set_cons_succ]
  refine wpG_call (by rfl) (by rfl) 45 #[.agg (vcells v).toArray, .agg (vcells u).toArray] (.bool (vless v u)) (by intro _; simp [go_sem]) (by kernel_rfl) (fun w1 hl => rless_any v u w1 hv hus) ?_
  simp only [Act.put, List.setIfInBounds_toArray, List.set_cons_zero, List.set_cons_succ]
  repeat (refine wpG_quiet (by rfl) (by rfl) (by rfl) (fun K hK => ?_); go_big_quiet_op; refine hK _ ?_; clear hK K)
  refine wpG_nil fun w1 hl hs => ?_
  go_wp2_with fail
  go_ret
  exact ⟨rfl, HBB.out.trans (hl.mono HBB.out.size)⟩
set_option maxRecDepth 100000 in
set_option maxHeartbeats 3200000 in
theorem rleaf_holds (id ver : Int) (lab g : BitVec 32) (fs : List V3) (w : World) (hf : fs.length = 8) (hsz : ∀ u ∈ fs, u.2.2.size ≤ 1000) (k : Nat) (hk8 : k < 8) (v : V3) (hv : v.2.2.size ≤ 1000) :
    Calls Try.prog 32 #[.agg (ncells (9, (k : Int), v)).toArray, .agg (ccells id ver (lab.toNat : Int) fs).toArray, .int .u32 (g.toNat : Int)] w fun e w' => e = .returned (.bool (vholds (fs.getD k zv) v)) ∧ Below w.heap.size w w' := by
  have hu := Try.underlying25
  have B0 := (Blk.new w (ncells (9, (k : Int), v)) 57).alloc (.cells (ccells id ver (lab.toNat : Int) fs).toArray 28)
  have B1 := Blk.new (w.alloc (.cells (ncells (9, (k : Int), v)).toArray 57)) (ccells id ver (lab.toNat : Int) fs) 28
  have hz1 : (w.alloc (.cells (ncells (9, (k : Int), v)).toArray 57)).heap.size = w.heap.size + 1 := by simp
  rw [hz1] at B1
  have hb : Below w.heap.size w ((w.alloc (.cells (ncells (9, (k : Int), v)).toArray 57)).alloc (.cells (ccells id ver (lab.toNat : Int) fs).toArray 28)) := ((Below.refl _ w).alloc (Nat.le_refl _) _).alloc (by simp) _
  have c0 := B0.cell (j := 0) rfl
  have n1 := B0.cell (j := 1) rfl
  have l2 := B1.cell (j := 2) rfl
  have hkf : k < fs.length := by omega
  have ek : fs.getD k zv = fs[k] := by rw [List.getD_eq_getElem?_getD, List.getElem?_eq_getElem hkf]; rfl
  rw [ek]
  have hus := hsz _ (List.getElem_mem hkf)
  obtain ⟨u, hU⟩ : ∃ u, u = fs[k] := ⟨_, rfl⟩
  have BR : ∀ wy, Blk wy (w.heap.size + 1) (ccells id ver (lab.toNat : Int) fs) → wy.rangeAt (w.heap.size + 1) (3 + k * 3) (vcells u) := fun wy h => by rw [hU]; exact h.fieldR k hkf
  rw [← hU] at hus ⊢
  have d8 : (k : Int) < 8 := by omega
  obtain ⟨na, hna⟩ : ∃ na, na = (ncells (9, (k : Int), v)).toArray := ⟨_, rfl⟩
  obtain ⟨cs, hcs⟩ : ∃ cs, cs = (ccells id ver (lab.toNat : Int) fs).toArray := ⟨_, rfl⟩
  rw [← hna, ← hcs] at c0 n1 l2 B0 hb ⊢
  rw [← hna, ← hcs] at B1
  have HB0 := Lib.hid B0
  have HB1 := Lib.hid B1
  have HBR := Lib.hid BR
  have HBB := Lib.hid hb
  clear hna hcs hz1 B0 B1 BR hf hsz ek hkf hU n1 l2 hb
  go_enter Try.func32, Try.ntmps32
  go_wp2_with fail
  refine wp_region_steady [] 73 (by kernel_rfl) (by kernel_rfl) (by kernel_rfl) (by rfl) ?_
  repeat (refine wpG_quiet (by rfl) (by rfl) (by rfl) (fun K hK => ?_); go_big_quiet_op; refine hK _ ?_; clear hK K)
  refine wpG_run (by rfl) (by rfl) (.int .i64 (k : Int)) (fun w1 hl => ?_) ?_
  · have n1 := (HB0.out.later hl.1).cell (j := 1) rfl
    simp [go_sem, n1]
  simp only [Act.put, List.setIfInBounds_toArray, List.set_cons_zero, List.set_cons_succ]
  repeat (refine wpG_quiet (by rfl) (by rfl) (by rfl) (fun K hK => ?_); go_big_quiet_op; refine hK _ ?_; clear hK K)
  refine wpG_run (by rfl) (by rfl) (.agg (vcells u).toArray) (fun w1 hl => exec_load 25 (.tmp 68) rfl (w.heap.size + 1) (3 + k * 3) rfl (vcells u) _ (HBR.out w1 (HB1.out.later hl.1)) hu rfl info_val) ?_
  simp only [Act.put, List.setIfInBounds_toArray, List.set_cons_zero, List.set_cons_succ]
  repeat (refine wpG_quiet (by rfl) (by rfl) (by rfl) (fun K hK => ?_); go_big_quiet_op; refine hK _ ?_; clear hK K)
  refine wpG_run (by rfl) (by rfl) (.agg (vcells v).toArray) (fun w1 hl => exec_load 25 (.tmp 70) rfl w.heap.size 2 rfl (vcells v) _ ((HB0.out.later hl.1).range 2 (vcells v) rfl) hu rfl info_val) ?_
  simp only [Act.put, List.setIfInBounds_toArray, List.set_cons_zero, List.set_cons_succ]
  refine wpG_call (by rfl) (by rfl) 46 #[.agg (vcells u).toArray, .agg (vcells v).toArray] (.bool (vholds u v)) (by intro _; simp [go_sem]) (by kernel_rfl) (fun w1 hl => rholds_any u v w1 hus hv) ?_
  simp only [Act.put, List.setIfInBounds_toArray, List.set_cons_zero, List.set_cons_succ]
  repeat (refine wpG_quiet (by rfl) (by rfl) (by rfl) (fun K hK => ?_); go_big_quiet_op; refine hK _ ?_; clear hK K)
  refine wpG_nil fun w1 hl hs => ?_
  go_wp2_with fail
  go_ret
  exact ⟨rfl, HBB.out.trans (hl.mono HBB.out.size)⟩
theorem rleaf_any (x : Nd) (id ver : Int) (lab g : BitVec 32) (fs : List V3) (w : World) (hok : nok x = true) (h9 : x.1 ≤ 9) (hf : fs.length = 8) (hsz : ∀ u ∈ fs, u.2.2.size ≤ 1000) :
    Calls Try.prog 32 #[.agg (ncells x).toArray, .agg (ccells id ver (lab.toNat : Int) fs).toArray, .int .u32 (g.toNat : Int)] w fun e w' => e = .returned (.bool (leafv lab g fs x)) ∧ Below w.heap.size w w' := by
  have hop := nok_op hok
  have hstr := nok_str hok
  have hn := nok_n hok
  obtain ⟨op, nn, v⟩ := x
  unfold leafv
  dsimp only at *
  by_cases h5 : 5 ≤ op
  · obtain ⟨h0, h8⟩ := hn h5 h9
    obtain ⟨k, rfl⟩ : ∃ k : Nat, nn = (k : Int) := ⟨nn.toNat, by omega⟩
    have hk : k < 8 := by omega
    rw [Int.toNat_natCast]
    have : op = 5 ∨ op = 6 ∨ op = 7 ∨ op = 8 ∨ op = 9 := by omega
    rcases this with rfl | rfl | rfl | rfl | rfl
    · exact rleaf_has id ver lab g fs w hf hsz k hk v hstr
    · exact rleaf_eql id ver lab g fs w hf hsz k hk v hstr
    · exact rleaf_less id ver lab g fs w hf hsz k hk v hstr
    · exact rleaf_more id ver lab g fs w hf hsz k hk v hstr
    · exact rleaf_holds id ver lab g fs w hf hsz k hk v hstr
  · have : op = 1 ∨ op = 2 ∨ op = 3 ∨ op = 4 := by omega
    rcases this with rfl | rfl | rfl | rfl
    · exact rleaf_all id ver lab g fs w hf hsz nn v
    · exact rleaf_never id ver lab g fs w hf hsz nn v
    · exact rleaf_lab id ver lab g fs w hf hsz nn v
    · exact rleaf_grp id ver lab g fs w hf hsz nn v
end Go.Proofs.Ytfoppjgjljellaa

/- The document's Match: what a filter says of a card, and of its groups. -/
namespace Go.Proofs.Ytfoppjgjljellaa
set_option linter.unusedVariables false
set_option linter.unusedSimpArgs false
open Go Go.RowKit Go.Shelf BitM ValM

theorem rkids_tree (A : Option Addr) (n c : Nat) (x : Nd) (l' : List Nd) (w : World) (hn : (x :: l').length = n) (hs : Sees w w.heap.size A (ncs (x :: l'))) (hc : n ≤ c) (hm : n ≤ 65536) (hw : Wood (x :: l') 1) :
    Calls Try.prog 31 #[.slice A n c, .int .i64 0] w fun e w' => ∃ A c, e = .returned (.slice A (kidsOf l' (par x.1)).length c) ∧ Hid (KidsAt w' A (kidsOf l' (par x.1))) ∧ Below w.heap.size w w' := by
  obtain ⟨j, hj, h1⟩ := wood_cons hw
  obtain rfl : j = 0 := by omega
  rw [Nat.zero_add] at h1
  have h := rkids_any A n c (x :: l') 0 w hn hs hc hm (by simp) l'.length (by have h2 : endOf l' (par x.1) = some l'.length := h1; simpa using h2)
  have hK : kidsOf ((x :: l').drop (0 + 1)) (par (x :: l')[0].1) = kidsOf l' (par x.1) := by simp
  rw [hK] at h
  refine h.mono ?_
  rintro e w' ⟨A', c', vs, rfl, hr, hk, hb⟩
  refine ⟨A', c', rfl, Lib.hid (fun hp => ?_), hb⟩
  have hs := row_sees hr
  obtain ⟨b, o, e, hb, hc⟩ := hs (by rw [hk.1]; exact hp)
  refine ⟨b, o, e, hb, fun k hk2 => ?_⟩
  obtain ⟨A', c', h1, h2⟩ := hk.2 k hk2
  have hkv : k < vs.length := by rw [hk.1]; exact hk2
  refine ⟨A', c', ?_, row_sees h2, row_cap h2⟩
  rw [hc k hkv]
  rw [List.getElem?_eq_getElem hkv] at h1
  exact h1
def GivesB (w : World) (x : Bool) : Ending → World → Prop := fun e w' => e = .returned (.bool x) ∧ Below w.heap.size w w'
set_option maxRecDepth 100000 in
set_option maxHeartbeats 3200000 in
theorem rmatch_leaf (mm : Int) (A : Option Addr) (n c : Nat) (x : Nd) (l' : List Nd) (w : World) (id ver : Int) (lab g : BitVec 32) (fs : List V3) (hf : fs.length = 8) (hsz : ∀ u ∈ fs, u.2.2.size ≤ 1000) (hin : TreeIn mm A n c (x :: l') w) (hx : x.1 ≤ 9) :
    Calls Try.prog 16 #[.slice A n c, .agg (ccells id ver (lab.toNat : Int) fs).toArray, .int .u32 (g.toNat : Int)] w (GivesB w (ev lab g fs (x :: l'))) := by
  have hu := Try.underlying57
  have huc := Try.underlying28
  have hok := hin.ok x (by simp)
  have hop := nok_op hok
  obtain ⟨b, o, rfl, hb, _, _, hrg⟩ := sees_node hin.sees 0 (by simp)
  have hnx : (x :: l')[0] = x := rfl
  rw [hnx] at hrg
  have hn1 : (0 : Int) < (n : Int) := by have := hin.len; simp at this; omega
  have hl0 := (Below.refl w.heap.size w).alloc (Nat.le_refl _) (.cells (ccells id ver (lab.toNat : Int) fs).toArray 28)
  have BC := Blk.new w (ccells id ver (lab.toNat : Int) fs) 28
  have HK := Lib.hid (fun wx (h : Le w wx) => rkids_tree (some ⟨b, o, none⟩) n c x l' wx hin.len (hin.later h).sees hin.cap hin.max hin.wood)
  have HI := Lib.hid hin
  have hrg' : ∀ wx, Below w.heap.size w wx → wx.rangeAt b (o + 0 * 5) (ncells x) := fun wx h j v hj => (h.cell (p := ⟨b, o + 0 * 5 + j, none⟩) hb).trans (hrg j v hj)
  have HRG := Lib.hid hrg'
  have hop0 : ∀ wx, Below w.heap.size w wx → wx.cell? ⟨b, o, none⟩ = some (.int .i64 x.1) := fun wx h => (hrg' wx h) 0 _ rfl
  have HC := Lib.hid (ccells_len id ver (lab.toNat : Int) hf)
  have HF := Lib.hid hf
  have HSZ := Lib.hid hsz
  have HOK := Lib.hid hok
  obtain ⟨cs, hcs⟩ : ∃ cs, cs = (ccells id ver (lab.toNat : Int) fs) := ⟨_, rfl⟩
  have HCS := Lib.hid hcs
  rw [← hcs] at BC hl0 HC ⊢
  obtain ⟨ca, hca⟩ : ∃ ca, ca = cs.toArray := ⟨_, rfl⟩
  have HCA := Lib.hid hca
  rw [← hca] at hl0 BC ⊢
  have HBC := Lib.hid BC
  have HL0 := Lib.hid hl0
  have HLS := Lib.hid hl0.size
  obtain ⟨op, hop1⟩ : ∃ op, op = x.1 := ⟨_, rfl⟩
  rw [← hop1] at hop0
  obtain ⟨R, hR⟩ : ∃ R, R = ev lab g fs (x :: l') := ⟨_, rfl⟩
  rw [← hR]
  have HR := Lib.hid hR
  have HOP := Lib.hid hop0
  clear hrg' hrg hnx hop0 hcs hca BC hl0 hf hsz hin hR hok hb
  go_enter Try.func16, Try.ntmps16
  go_wp2_with fail
  refine (HK.out _ HL0.out).mono ?_
  rintro e w1 ⟨Ak, ck, rfl, hk, hb1⟩
  have HB1 := Lib.hid (HL0.out.trans (hb1.mono HLS.out))
  have HCB := Lib.hid (HBC.out.later hb1)
  have op0 := HOP.out w1 HB1.out
  clear hb1
  have b10 : (op == 10) = false := by rw [hop1]; simp; omega
  have b11 : (op == 11) = false := by rw [hop1]; simp; omega
  have b12 : (op == 12) = false := by rw [hop1]; simp; omega
  go_wp2_with fail
  clear hk
  refine wp_region_steady [] 61 (by kernel_rfl) (by kernel_rfl) (by kernel_rfl) (by rfl) ?_
  repeat (refine wpG_quiet (by rfl) (by rfl) (by rfl) (fun K hK => ?_); go_big_quiet_op; refine hK _ ?_; clear hK K)
  refine wpG_run (by rfl) (by rfl) (.agg (ncells x).toArray) (fun wx hl => exec_load 57 (.tmp 56) rfl b (o + 0 * 5) rfl (ncells x) _ (HRG.out wx (HB1.out.trans (hl.1.mono HB1.out.size))) hu rfl info_node) ?_
  simp only [Act.put, List.setIfInBounds_toArray, List.set_cons_zero, List.set_cons_succ]
  refine wpG_run (by rfl) (by rfl) (.agg ca) (fun wx hl => by rw [HCA.out]; exact exec_load 28 (.tmp 4) rfl w.heap.size 0 rfl cs _ ((HCB.out.later hl.1).range 0 cs (by rw [List.drop_zero, List.take_length])) huc rfl (by rw [HC.out]; exact info_crd)) ?_
  simp only [Act.put, List.setIfInBounds_toArray, List.set_cons_zero, List.set_cons_succ]
  repeat (refine wpG_quiet (by rfl) (by rfl) (by rfl) (fun K hK => ?_); go_big_quiet_op; refine hK _ ?_; clear hK K)
  refine wpG_call (by rfl) (by rfl) 32 #[.agg (ncells x).toArray, .agg ca, .int .u32 (g.toNat : Int)] (.bool (leafv lab g fs x)) (by intro _; simp [go_sem]) (by kernel_rfl) (fun wx hl => by rw [HCA.out, HCS.out]; exact rleaf_any x id ver lab g fs wx HOK.out hx HF.out HSZ.out) ?_
  simp only [Act.put, List.setIfInBounds_toArray, List.set_cons_zero, List.set_cons_succ]
  repeat (refine wpG_quiet (by rfl) (by rfl) (by rfl) (fun K hK => ?_); go_big_quiet_op; refine hK _ ?_; clear hK K)
  refine wpG_nil fun wz hl hs => ?_
  go_wp2_with fail
  go_ret
  exact ⟨by rw [HR.out, ev_leaf (by omega) (by omega) (by omega)]; rfl, HB1.out.trans (hl.mono HB1.out.size)⟩
set_option maxRecDepth 100000 in
set_option maxHeartbeats 3200000 in
theorem rmatch_one (mm : Int) (A : Option Addr) (n c : Nat) (x : Nd) (l' : List Nd) (w : World) (id ver : Int) (lab g : BitVec 32) (fs : List V3) (hf : fs.length = 8) (hsz : ∀ u ∈ fs, u.2.2.size ≤ 1000) (hin : TreeIn mm A n c (x :: l') w) (hx : x.1 = 10) (IH : ∀ A n c w, TreeIn mm A n c l' w → Calls Try.prog 16 #[.slice A n c, .agg (ccells id ver (lab.toNat : Int) fs).toArray, .int .u32 (g.toNat : Int)] w (GivesB w (ev lab g fs l'))) :
    Calls Try.prog 16 #[.slice A n c, .agg (ccells id ver (lab.toNat : Int) fs).toArray, .int .u32 (g.toNat : Int)] w (GivesB w (ev lab g fs (x :: l'))) := by
  have hu := Try.underlying57
  have huc := Try.underlying28
  have hok := hin.ok x (by simp)
  have hop := nok_op hok
  obtain ⟨b, o, rfl, hb, _, _, hrg⟩ := sees_node hin.sees 0 (by simp)
  have hnx : (x :: l')[0] = x := rfl
  rw [hnx] at hrg
  have hn1 : (0 : Int) < (n : Int) := by have := hin.len; simp at this; omega
  have hl0 := (Below.refl w.heap.size w).alloc (Nat.le_refl _) (.cells (ccells id ver (lab.toNat : Int) fs).toArray 28)
  have BC := Blk.new w (ccells id ver (lab.toNat : Int) fs) 28
  have HK := Lib.hid (fun wx (h : Le w wx) => rkids_tree (some ⟨b, o, none⟩) n c x l' wx hin.len (hin.later h).sees hin.cap hin.max hin.wood)
  have HI := Lib.hid hin
  have hrg' : ∀ wx, Below w.heap.size w wx → wx.rangeAt b (o + 0 * 5) (ncells x) := fun wx h j v hj => (h.cell (p := ⟨b, o + 0 * 5 + j, none⟩) hb).trans (hrg j v hj)
  have HRG := Lib.hid hrg'
  have hop0 : ∀ wx, Below w.heap.size w wx → wx.cell? ⟨b, o, none⟩ = some (.int .i64 x.1) := fun wx h => (hrg' wx h) 0 _ rfl
  have HC := Lib.hid (ccells_len id ver (lab.toNat : Int) hf)
  have HF := Lib.hid hf
  have HSZ := Lib.hid hsz
  have HOK := Lib.hid hok
  have hwl : Wood l' 1 := by
    obtain ⟨j, hj, h1⟩ := wood_cons hin.wood
    obtain rfl : j = 0 := by omega
    rwa [Nat.zero_add, show par x.1 = 1 from by rw [hx]; rfl] at h1
  have hpk : kidsOf l' (par x.1) = [l'] := by rw [show par x.1 = 1 from by rw [hx]; rfl]; exact kids_one hwl
  rw [hpk, show ([l'] : List (List Nd)).length = 1 from rfl] at HK
  have HIH := Lib.hid IH
  have HWL := Lib.hid hwl
  clear IH hwl hpk
  obtain ⟨cs, hcs⟩ : ∃ cs, cs = (ccells id ver (lab.toNat : Int) fs) := ⟨_, rfl⟩
  have HCS := Lib.hid hcs
  rw [← hcs] at BC hl0 HC HIH ⊢
  obtain ⟨ca, hca⟩ : ∃ ca, ca = cs.toArray := ⟨_, rfl⟩
  have HCA := Lib.hid hca
  rw [← hca] at hl0 BC HIH ⊢
  have HBC := Lib.hid BC
  have HL0 := Lib.hid hl0
  have HLS := Lib.hid hl0.size
  obtain ⟨op, hop1⟩ : ∃ op, op = x.1 := ⟨_, rfl⟩
  rw [← hop1] at hop0
  obtain ⟨R, hR⟩ : ∃ R, R = ev lab g fs (x :: l') := ⟨_, rfl⟩
  rw [← hR]
  have HR := Lib.hid hR
  have HOP := Lib.hid hop0
  clear hrg' hrg hnx hop0 hcs hca BC hl0 hf hsz hin hR hok hb
  go_enter Try.func16, Try.ntmps16
  go_wp2_with fail
  refine (HK.out _ HL0.out).mono ?_
  rintro e w1 ⟨Ak, ck, rfl, hk, hb1⟩
  have HB1 := Lib.hid (HL0.out.trans (hb1.mono HLS.out))
  have HCB := Lib.hid (HBC.out.later hb1)
  have op0 := HOP.out w1 HB1.out
  clear hb1
  have hkk := hk.out
  obtain ⟨bk, ok, rfl, hbk, hkk⟩ := hkk (by simp)
  obtain ⟨A0, c0', hc0, hs0, hcap⟩ := hkk 0 (by simp)
  have hl0 : ([l'] : List (List Nd))[0] = l' := rfl
  rw [hl0] at hc0 hs0 hcap
  have HKC := Lib.hid (fun wx (h : Below w1.heap.size w1 wx) => (h.cell (p := ⟨bk, ok, none⟩) hbk).trans hc0)
  have HIN := Lib.hid (fun wx (h : Below w1.heap.size w1 wx) => (show TreeIn mm A0 l'.length c0' l' wx from ⟨rfl, (hs0.below h).more h.size, hcap, by have h1 := HI.out.len; have h2 := HI.out.max; simp at h1; omega, HWL.out, fun y hy => HI.out.ok y (List.mem_cons_of_mem _ hy), HI.out.mem.later (HB1.out.trans (h.mono HB1.out.size))⟩))
  clear hkk hk hs0 hcap hc0 hbk hl0
  have b10 : (op == 10) = true := by rw [hop1, hx]; rfl
  go_wp2_with fail
  obtain ⟨R1, hR1⟩ : ∃ R1, R1 = ev lab g fs l' := ⟨_, rfl⟩
  rw [← hR1] at HIH
  refine wp_region_steady [] 61 (by kernel_rfl) (by kernel_rfl) (by kernel_rfl) (by rfl) ?_
  repeat (refine wpG_quiet (by rfl) (by rfl) (by rfl) (fun K hK => ?_); go_big_quiet_op; refine hK _ ?_; clear hK K)
  refine wpG_run (by rfl) (by rfl) (.slice A0 l'.length c0') (fun wx hl => ?_) ?_
  · have kc := HKC.out wx hl.1
    simp [go_sem, kc]
  simp only [Act.put, List.setIfInBounds_toArray, List.set_cons_zero, List.set_cons_succ]
  refine wpG_run (by rfl) (by rfl) (.agg ca) (fun wx hl => by rw [HCA.out]; exact exec_load 28 (.tmp 4) rfl w.heap.size 0 rfl cs _ ((HCB.out.later hl.1).range 0 cs (by rw [List.drop_zero, List.take_length])) huc rfl (by rw [HC.out]; exact info_crd)) ?_
  simp only [Act.put, List.setIfInBounds_toArray, List.set_cons_zero, List.set_cons_succ]
  repeat (refine wpG_quiet (by rfl) (by rfl) (by rfl) (fun K hK => ?_); go_big_quiet_op; refine hK _ ?_; clear hK K)
  refine wpG_call (by rfl) (by rfl) 16 #[.slice A0 l'.length c0', .agg ca, .int .u32 (g.toNat : Int)] (.bool R1) (by intro _; simp [go_sem]) (by kernel_rfl) (fun wx hl => HIH.out _ _ _ _ (HIN.out wx hl.1)) ?_
  simp only [Act.put, List.setIfInBounds_toArray, List.set_cons_zero, List.set_cons_succ]
  repeat (refine wpG_quiet (by rfl) (by rfl) (by rfl) (fun K hK => ?_); go_big_quiet_op; refine hK _ ?_; clear hK K)
  refine wpG_nil fun wz hl hs => ?_
  go_wp2_with fail
  go_ret
  exact ⟨by rw [HR.out, ev_not hx, ← hR1]; rfl, HB1.out.trans (hl.mono HB1.out.size)⟩
set_option maxRecDepth 100000 in
set_option maxHeartbeats 3200000 in
theorem rmatch_and (mm : Int) (A : Option Addr) (n c : Nat) (x : Nd) (l' : List Nd) (w : World) (id ver : Int) (lab g : BitVec 32) (fs : List V3) (hf : fs.length = 8) (hsz : ∀ u ∈ fs, u.2.2.size ≤ 1000) (hin : TreeIn mm A n c (x :: l') w) (hx : x.1 = 11) (IH : ∀ l2, l2.length < (x :: l').length → ∀ A n c w, TreeIn mm A n c l2 w → Calls Try.prog 16 #[.slice A n c, .agg (ccells id ver (lab.toNat : Int) fs).toArray, .int .u32 (g.toNat : Int)] w (GivesB w (ev lab g fs l2))) :
    Calls Try.prog 16 #[.slice A n c, .agg (ccells id ver (lab.toNat : Int) fs).toArray, .int .u32 (g.toNat : Int)] w (GivesB w (ev lab g fs (x :: l'))) := by
  have hu := Try.underlying57
  have huc := Try.underlying28
  have hok := hin.ok x (by simp)
  have hop := nok_op hok
  obtain ⟨b, o, rfl, hb, _, _, hrg⟩ := sees_node hin.sees 0 (by simp)
  have hnx : (x :: l')[0] = x := rfl
  rw [hnx] at hrg
  have hn1 : (0 : Int) < (n : Int) := by have := hin.len; simp at this; omega
  have hl0 := (Below.refl w.heap.size w).alloc (Nat.le_refl _) (.cells (ccells id ver (lab.toNat : Int) fs).toArray 28)
  have BC := Blk.new w (ccells id ver (lab.toNat : Int) fs) 28
  have HK := Lib.hid (fun wx (h : Le w wx) => rkids_tree (some ⟨b, o, none⟩) n c x l' wx hin.len (hin.later h).sees hin.cap hin.max hin.wood)
  have HI := Lib.hid hin
  have hrg' : ∀ wx, Below w.heap.size w wx → wx.rangeAt b (o + 0 * 5) (ncells x) := fun wx h j v hj => (h.cell (p := ⟨b, o + 0 * 5 + j, none⟩) hb).trans (hrg j v hj)
  have HRG := Lib.hid hrg'
  have hop0 : ∀ wx, Below w.heap.size w wx → wx.cell? ⟨b, o, none⟩ = some (.int .i64 x.1) := fun wx h => (hrg' wx h) 0 _ rfl
  have HC := Lib.hid (ccells_len id ver (lab.toNat : Int) hf)
  have HF := Lib.hid hf
  have HSZ := Lib.hid hsz
  have HOK := Lib.hid hok
  have hwl : Wood l' 2 := by
    obtain ⟨j, hj, h1⟩ := wood_cons hin.wood
    obtain rfl : j = 0 := by omega
    rwa [Nat.zero_add, show par x.1 = 2 from by rw [hx]; rfl] at h1
  obtain ⟨p, q, hpq, hwp, hwq, hpk⟩ := kids_two hwl
  rw [show par x.1 = 2 from by rw [hx]; rfl, hpk, show ([p, q] : List (List Nd)).length = 2 from rfl] at HK
  subst hpq
  have HP := Lib.hid (fun A n c w h => IH p (by simp; omega) A n c w h)
  have HQ := Lib.hid (fun A n c w h => IH q (by simp; omega) A n c w h)
  have HWP := Lib.hid hwp
  have HWQ := Lib.hid hwq
  clear IH hwl hpk hwp hwq
  obtain ⟨cs, hcs⟩ : ∃ cs, cs = (ccells id ver (lab.toNat : Int) fs) := ⟨_, rfl⟩
  have HCS := Lib.hid hcs
  rw [← hcs] at BC hl0 HC HP HQ ⊢
  obtain ⟨ca, hca⟩ : ∃ ca, ca = cs.toArray := ⟨_, rfl⟩
  have HCA := Lib.hid hca
  rw [← hca] at hl0 BC HP HQ ⊢
  have HBC := Lib.hid BC
  have HL0 := Lib.hid hl0
  have HLS := Lib.hid hl0.size
  obtain ⟨op, hop1⟩ : ∃ op, op = x.1 := ⟨_, rfl⟩
  rw [← hop1] at hop0
  obtain ⟨R, hR⟩ : ∃ R, R = ev lab g fs (x :: (p ++ q)) := ⟨_, rfl⟩
  rw [← hR]
  have HR := Lib.hid hR
  have HOP := Lib.hid hop0
  clear hrg' hrg hnx hop0 hcs hca BC hl0 hf hsz hin hR hok hb
  go_enter Try.func16, Try.ntmps16
  go_wp2_with fail
  refine (HK.out _ HL0.out).mono ?_
  rintro e w1 ⟨Ak, ck, rfl, hk, hb1⟩
  have HB1 := Lib.hid (HL0.out.trans (hb1.mono HLS.out))
  have HCB := Lib.hid (HBC.out.later hb1)
  have op0 := HOP.out w1 HB1.out
  clear hb1
  have hkk := hk.out
  obtain ⟨bk, ok, rfl, hbk, hkk⟩ := hkk (by simp)
  obtain ⟨A0, c0', hc0, hs0, hcap0⟩ := hkk 0 (by simp)
  obtain ⟨A1, c1', hc1, hs1, hcap1⟩ := hkk 1 (by simp)
  have hl0 : ([p, q] : List (List Nd))[0] = p := rfl
  have hl1 : ([p, q] : List (List Nd))[1] = q := rfl
  rw [hl0] at hc0 hs0 hcap0
  rw [hl1] at hc1 hs1 hcap1
  have KC0 := Lib.hid (fun wx (h : Below w1.heap.size w1 wx) => (h.cell (p := ⟨bk, ok, none⟩) hbk).trans hc0)
  have KC1 := Lib.hid (fun wx (h : Below w1.heap.size w1 wx) => (h.cell (p := ⟨bk, ok + 1, none⟩) hbk).trans hc1)
  have IN0 := Lib.hid (fun wx (h : Below w1.heap.size w1 wx) => (show TreeIn mm A0 p.length c0' p wx from ⟨rfl, (hs0.below h).more h.size, hcap0, by have h1 := HI.out.len; have h2 := HI.out.max; simp at h1; omega, HWP.out, fun y hy => HI.out.ok y (by simp [hy]), HI.out.mem.later (HB1.out.trans (h.mono HB1.out.size))⟩))
  have IN1 := Lib.hid (fun wx (h : Below w1.heap.size w1 wx) => (show TreeIn mm A1 q.length c1' q wx from ⟨rfl, (hs1.below h).more h.size, hcap1, by have h1 := HI.out.len; have h2 := HI.out.max; simp at h1; omega, HWQ.out, fun y hy => HI.out.ok y (by simp [hy]), HI.out.mem.later (HB1.out.trans (h.mono HB1.out.size))⟩))
  clear hkk hk hs0 hcap0 hs1 hcap1 hc0 hc1 hl0 hl1 hbk
  have b10 : (op == 10) = false := by rw [hop1, hx]; rfl
  have b11 : (op == 11) = true := by rw [hop1, hx]; rfl
  go_wp2_with fail
  obtain ⟨R1, hR1⟩ : ∃ R1, R1 = ev lab g fs p := ⟨_, rfl⟩
  obtain ⟨R2, hR2⟩ : ∃ R2, R2 = ev lab g fs q := ⟨_, rfl⟩
  rw [← hR1] at HP
  rw [← hR2] at HQ
  have HE1 := Lib.hid hR1
  have HE2 := Lib.hid hR2
  clear hR1 hR2
  refine wp_region_steady [] 61 (by kernel_rfl) (by kernel_rfl) (by kernel_rfl) (by rfl) ?_
  repeat (refine wpG_quiet (by rfl) (by rfl) (by rfl) (fun K hK => ?_); go_big_quiet_op; refine hK _ ?_; clear hK K)
  refine wpG_run (by rfl) (by rfl) (.slice A0 p.length c0') (fun wx hl => ?_) ?_
  · have kc := KC0.out wx hl.1
    simp [go_sem, kc]
  simp only [Act.put, List.setIfInBounds_toArray, List.set_cons_zero, List.set_cons_succ]
  refine wpG_run (by rfl) (by rfl) (.agg ca) (fun wx hl => by rw [HCA.out]; exact exec_load 28 (.tmp 4) rfl w.heap.size 0 rfl cs _ ((HCB.out.later hl.1).range 0 cs (by rw [List.drop_zero, List.take_length])) huc rfl (by rw [HC.out]; exact info_crd)) ?_
  simp only [Act.put, List.setIfInBounds_toArray, List.set_cons_zero, List.set_cons_succ]
  repeat (refine wpG_quiet (by rfl) (by rfl) (by rfl) (fun K hK => ?_); go_big_quiet_op; refine hK _ ?_; clear hK K)
  refine wpG_call (by rfl) (by rfl) 16 #[.slice A0 p.length c0', .agg ca, .int .u32 (g.toNat : Int)] (.bool R1) (by intro _; simp [go_sem]) (by kernel_rfl) (fun wx hl => HP.out _ _ _ _ (IN0.out wx hl.1)) ?_
  simp only [Act.put, List.setIfInBounds_toArray, List.set_cons_zero, List.set_cons_succ]
  cases R1
  · refine wpG_quiet (by rfl) (by rfl) (by rfl) (fun K hK => ?_); go_big_quiet_op; refine hK _ ?_; clear hK K
    iterate 6 (refine wpG_skip (by rfl) ?_; simp only [Act.put, List.setIfInBounds_toArray, List.set_cons_zero, List.set_cons_succ])
    repeat (refine wpG_quiet (by rfl) (by rfl) (by rfl) (fun K hK => ?_); go_big_quiet_op; refine hK _ ?_; clear hK K)
    refine wpG_nil fun wz hl hs => ?_
    go_wp2_with fail
    go_ret
    exact ⟨by rw [HR.out, ev_and hx HWP.out, ← HE1.out]; rfl, HB1.out.trans (hl.mono HB1.out.size)⟩
  · refine wpG_quiet (by rfl) (by rfl) (by rfl) (fun K hK => ?_); go_big_quiet_op; refine hK _ ?_; clear hK K
    repeat (refine wpG_quiet (by rfl) (by rfl) (by rfl) (fun K hK => ?_); go_big_quiet_op; refine hK _ ?_; clear hK K)
    refine wpG_run (by rfl) (by rfl) (.slice A1 q.length c1') (fun wx hl => ?_) ?_
    · have kc := KC1.out wx hl.1
      simp [go_sem, kc]
    simp only [Act.put, List.setIfInBounds_toArray, List.set_cons_zero, List.set_cons_succ]
    refine wpG_run (by rfl) (by rfl) (.agg ca) (fun wx hl => by rw [HCA.out]; exact exec_load 28 (.tmp 4) rfl w.heap.size 0 rfl cs _ ((HCB.out.later hl.1).range 0 cs (by rw [List.drop_zero, List.take_length])) huc rfl (by rw [HC.out]; exact info_crd)) ?_
    simp only [Act.put, List.setIfInBounds_toArray, List.set_cons_zero, List.set_cons_succ]
    repeat (refine wpG_quiet (by rfl) (by rfl) (by rfl) (fun K hK => ?_); go_big_quiet_op; refine hK _ ?_; clear hK K)
    refine wpG_call (by rfl) (by rfl) 16 #[.slice A1 q.length c1', .agg ca, .int .u32 (g.toNat : Int)] (.bool R2) (by intro _; simp [go_sem]) (by kernel_rfl) (fun wx hl => HQ.out _ _ _ _ (IN1.out wx hl.1)) ?_
    simp only [Act.put, List.setIfInBounds_toArray, List.set_cons_zero, List.set_cons_succ]
    repeat (refine wpG_quiet (by rfl) (by rfl) (by rfl) (fun K hK => ?_); go_big_quiet_op; refine hK _ ?_; clear hK K)
    refine wpG_nil fun wz hl hs => ?_
    go_wp2_with fail
    go_ret
    exact ⟨by rw [HR.out, ev_and hx HWP.out, ← HE1.out, ← HE2.out]; rfl, HB1.out.trans (hl.mono HB1.out.size)⟩
set_option maxRecDepth 100000 in
set_option maxHeartbeats 3200000 in
theorem rmatch_or (mm : Int) (A : Option Addr) (n c : Nat) (x : Nd) (l' : List Nd) (w : World) (id ver : Int) (lab g : BitVec 32) (fs : List V3) (hf : fs.length = 8) (hsz : ∀ u ∈ fs, u.2.2.size ≤ 1000) (hin : TreeIn mm A n c (x :: l') w) (hx : x.1 = 12) (IH : ∀ l2, l2.length < (x :: l').length → ∀ A n c w, TreeIn mm A n c l2 w → Calls Try.prog 16 #[.slice A n c, .agg (ccells id ver (lab.toNat : Int) fs).toArray, .int .u32 (g.toNat : Int)] w (GivesB w (ev lab g fs l2))) :
    Calls Try.prog 16 #[.slice A n c, .agg (ccells id ver (lab.toNat : Int) fs).toArray, .int .u32 (g.toNat : Int)] w (GivesB w (ev lab g fs (x :: l'))) := by
  have hu := Try.underlying57
  have huc := Try.underlying28
  have hok := hin.ok x (by simp)
  have hop := nok_op hok
  obtain ⟨b, o, rfl, hb, _, _, hrg⟩ := sees_node hin.sees 0 (by simp)
  have hnx : (x :: l')[0] = x := rfl
  rw [hnx] at hrg
  have hn1 : (0 : Int) < (n : Int) := by have := hin.len; simp at this; omega
  have hl0 := (Below.refl w.heap.size w).alloc (Nat.le_refl _) (.cells (ccells id ver (lab.toNat : Int) fs).toArray 28)
  have BC := Blk.new w (ccells id ver (lab.toNat : Int) fs) 28
  have HK := Lib.hid (fun wx (h : Le w wx) => rkids_tree (some ⟨b, o, none⟩) n c x l' wx hin.len (hin.later h).sees hin.cap hin.max hin.wood)
  have HI := Lib.hid hin
  have hrg' : ∀ wx, Below w.heap.size w wx → wx.rangeAt b (o + 0 * 5) (ncells x) := fun wx h j v hj => (h.cell (p := ⟨b, o + 0 * 5 + j, none⟩) hb).trans (hrg j v hj)
  have HRG := Lib.hid hrg'
  have hop0 : ∀ wx, Below w.heap.size w wx → wx.cell? ⟨b, o, none⟩ = some (.int .i64 x.1) := fun wx h => (hrg' wx h) 0 _ rfl
  have HC := Lib.hid (ccells_len id ver (lab.toNat : Int) hf)
  have HF := Lib.hid hf
  have HSZ := Lib.hid hsz
  have HOK := Lib.hid hok
  have hwl : Wood l' 2 := by
    obtain ⟨j, hj, h1⟩ := wood_cons hin.wood
    obtain rfl : j = 0 := by omega
    rwa [Nat.zero_add, show par x.1 = 2 from by rw [hx]; rfl] at h1
  obtain ⟨p, q, hpq, hwp, hwq, hpk⟩ := kids_two hwl
  rw [show par x.1 = 2 from by rw [hx]; rfl, hpk, show ([p, q] : List (List Nd)).length = 2 from rfl] at HK
  subst hpq
  have HP := Lib.hid (fun A n c w h => IH p (by simp; omega) A n c w h)
  have HQ := Lib.hid (fun A n c w h => IH q (by simp; omega) A n c w h)
  have HWP := Lib.hid hwp
  have HWQ := Lib.hid hwq
  clear IH hwl hpk hwp hwq
  obtain ⟨cs, hcs⟩ : ∃ cs, cs = (ccells id ver (lab.toNat : Int) fs) := ⟨_, rfl⟩
  have HCS := Lib.hid hcs
  rw [← hcs] at BC hl0 HC HP HQ ⊢
  obtain ⟨ca, hca⟩ : ∃ ca, ca = cs.toArray := ⟨_, rfl⟩
  have HCA := Lib.hid hca
  rw [← hca] at hl0 BC HP HQ ⊢
  have HBC := Lib.hid BC
  have HL0 := Lib.hid hl0
  have HLS := Lib.hid hl0.size
  obtain ⟨op, hop1⟩ : ∃ op, op = x.1 := ⟨_, rfl⟩
  rw [← hop1] at hop0
  obtain ⟨R, hR⟩ : ∃ R, R = ev lab g fs (x :: (p ++ q)) := ⟨_, rfl⟩
  rw [← hR]
  have HR := Lib.hid hR
  have HOP := Lib.hid hop0
  clear hrg' hrg hnx hop0 hcs hca BC hl0 hf hsz hin hR hok hb
  go_enter Try.func16, Try.ntmps16
  go_wp2_with fail
  refine (HK.out _ HL0.out).mono ?_
  rintro e w1 ⟨Ak, ck, rfl, hk, hb1⟩
  have HB1 := Lib.hid (HL0.out.trans (hb1.mono HLS.out))
  have HCB := Lib.hid (HBC.out.later hb1)
  have op0 := HOP.out w1 HB1.out
  clear hb1
  have hkk := hk.out
  obtain ⟨bk, ok, rfl, hbk, hkk⟩ := hkk (by simp)
  obtain ⟨A0, c0', hc0, hs0, hcap0⟩ := hkk 0 (by simp)
  obtain ⟨A1, c1', hc1, hs1, hcap1⟩ := hkk 1 (by simp)
  have hl0 : ([p, q] : List (List Nd))[0] = p := rfl
  have hl1 : ([p, q] : List (List Nd))[1] = q := rfl
  rw [hl0] at hc0 hs0 hcap0
  rw [hl1] at hc1 hs1 hcap1
  have KC0 := Lib.hid (fun wx (h : Below w1.heap.size w1 wx) => (h.cell (p := ⟨bk, ok, none⟩) hbk).trans hc0)
  have KC1 := Lib.hid (fun wx (h : Below w1.heap.size w1 wx) => (h.cell (p := ⟨bk, ok + 1, none⟩) hbk).trans hc1)
  have IN0 := Lib.hid (fun wx (h : Below w1.heap.size w1 wx) => (show TreeIn mm A0 p.length c0' p wx from ⟨rfl, (hs0.below h).more h.size, hcap0, by have h1 := HI.out.len; have h2 := HI.out.max; simp at h1; omega, HWP.out, fun y hy => HI.out.ok y (by simp [hy]), HI.out.mem.later (HB1.out.trans (h.mono HB1.out.size))⟩))
  have IN1 := Lib.hid (fun wx (h : Below w1.heap.size w1 wx) => (show TreeIn mm A1 q.length c1' q wx from ⟨rfl, (hs1.below h).more h.size, hcap1, by have h1 := HI.out.len; have h2 := HI.out.max; simp at h1; omega, HWQ.out, fun y hy => HI.out.ok y (by simp [hy]), HI.out.mem.later (HB1.out.trans (h.mono HB1.out.size))⟩))
  clear hkk hk hs0 hcap0 hs1 hcap1 hc0 hc1 hl0 hl1 hbk
  have b10 : (op == 10) = false := by rw [hop1, hx]; rfl
  have b11 : (op == 11) = false := by rw [hop1, hx]; rfl
  have b12 : (op == 12) = true := by rw [hop1, hx]; rfl
  go_wp2_with fail
  obtain ⟨R1, hR1⟩ : ∃ R1, R1 = ev lab g fs p := ⟨_, rfl⟩
  obtain ⟨R2, hR2⟩ : ∃ R2, R2 = ev lab g fs q := ⟨_, rfl⟩
  rw [← hR1] at HP
  rw [← hR2] at HQ
  have HE1 := Lib.hid hR1
  have HE2 := Lib.hid hR2
  clear hR1 hR2
  refine wp_region_steady [] 61 (by kernel_rfl) (by kernel_rfl) (by kernel_rfl) (by rfl) ?_
  repeat (refine wpG_quiet (by rfl) (by rfl) (by rfl) (fun K hK => ?_); go_big_quiet_op; refine hK _ ?_; clear hK K)
  refine wpG_run (by rfl) (by rfl) (.slice A0 p.length c0') (fun wx hl => ?_) ?_
  · have kc := KC0.out wx hl.1
    simp [go_sem, kc]
  simp only [Act.put, List.setIfInBounds_toArray, List.set_cons_zero, List.set_cons_succ]
  refine wpG_run (by rfl) (by rfl) (.agg ca) (fun wx hl => by rw [HCA.out]; exact exec_load 28 (.tmp 4) rfl w.heap.size 0 rfl cs _ ((HCB.out.later hl.1).range 0 cs (by rw [List.drop_zero, List.take_length])) huc rfl (by rw [HC.out]; exact info_crd)) ?_
  simp only [Act.put, List.setIfInBounds_toArray, List.set_cons_zero, List.set_cons_succ]
  repeat (refine wpG_quiet (by rfl) (by rfl) (by rfl) (fun K hK => ?_); go_big_quiet_op; refine hK _ ?_; clear hK K)
  refine wpG_call (by rfl) (by rfl) 16 #[.slice A0 p.length c0', .agg ca, .int .u32 (g.toNat : Int)] (.bool R1) (by intro _; simp [go_sem]) (by kernel_rfl) (fun wx hl => HP.out _ _ _ _ (IN0.out wx hl.1)) ?_
  simp only [Act.put, List.setIfInBounds_toArray, List.set_cons_zero, List.set_cons_succ]
  cases R1
  · refine wpG_quiet (by rfl) (by rfl) (by rfl) (fun K hK => ?_); go_big_quiet_op; refine hK _ ?_; clear hK K
    repeat (refine wpG_quiet (by rfl) (by rfl) (by rfl) (fun K hK => ?_); go_big_quiet_op; refine hK _ ?_; clear hK K)
    refine wpG_run (by rfl) (by rfl) (.slice A1 q.length c1') (fun wx hl => ?_) ?_
    · have kc := KC1.out wx hl.1
      simp [go_sem, kc]
    simp only [Act.put, List.setIfInBounds_toArray, List.set_cons_zero, List.set_cons_succ]
    refine wpG_run (by rfl) (by rfl) (.agg ca) (fun wx hl => by rw [HCA.out]; exact exec_load 28 (.tmp 4) rfl w.heap.size 0 rfl cs _ ((HCB.out.later hl.1).range 0 cs (by rw [List.drop_zero, List.take_length])) huc rfl (by rw [HC.out]; exact info_crd)) ?_
    simp only [Act.put, List.setIfInBounds_toArray, List.set_cons_zero, List.set_cons_succ]
    repeat (refine wpG_quiet (by rfl) (by rfl) (by rfl) (fun K hK => ?_); go_big_quiet_op; refine hK _ ?_; clear hK K)
    refine wpG_call (by rfl) (by rfl) 16 #[.slice A1 q.length c1', .agg ca, .int .u32 (g.toNat : Int)] (.bool R2) (by intro _; simp [go_sem]) (by kernel_rfl) (fun wx hl => HQ.out _ _ _ _ (IN1.out wx hl.1)) ?_
    simp only [Act.put, List.setIfInBounds_toArray, List.set_cons_zero, List.set_cons_succ]
    repeat (refine wpG_quiet (by rfl) (by rfl) (by rfl) (fun K hK => ?_); go_big_quiet_op; refine hK _ ?_; clear hK K)
    refine wpG_nil fun wz hl hs => ?_
    go_wp2_with fail
    go_ret
    exact ⟨by rw [HR.out, ev_or hx HWP.out, ← HE1.out, ← HE2.out]; rfl, HB1.out.trans (hl.mono HB1.out.size)⟩
  · refine wpG_quiet (by rfl) (by rfl) (by rfl) (fun K hK => ?_); go_big_quiet_op; refine hK _ ?_; clear hK K
    iterate 6 (refine wpG_skip (by rfl) ?_; simp only [Act.put, List.setIfInBounds_toArray, List.set_cons_zero, List.set_cons_succ])
    repeat (refine wpG_quiet (by rfl) (by rfl) (by rfl) (fun K hK => ?_); go_big_quiet_op; refine hK _ ?_; clear hK K)
    refine wpG_nil fun wz hl hs => ?_
    go_wp2_with fail
    go_ret
    exact ⟨by rw [HR.out, ev_or hx HWP.out, ← HE1.out]; rfl, HB1.out.trans (hl.mono HB1.out.size)⟩

theorem rmatch_all (mm : Int) (id ver : Int) (lab g : BitVec 32) (fs : List V3) (hf : fs.length = 8) (hsz : ∀ u ∈ fs, u.2.2.size ≤ 1000) : ∀ (N : Nat) (l : List Nd), l.length ≤ N → ∀ A n c w, TreeIn mm A n c l w → Calls Try.prog 16 #[.slice A n c, .agg (ccells id ver (lab.toNat : Int) fs).toArray, .int .u32 (g.toNat : Int)] w (GivesB w (ev lab g fs l)) := by
  intro N
  induction N with
  | zero =>
    intro l hl A n c w hin
    have h0 : l = [] := List.length_eq_zero_iff.1 (by omega)
    subst h0
    have := wood_uniq hin.wood wood_nil
    omega
  | succ N ih =>
    intro l hl A n c w hin
    cases l with
    | nil =>
      have := wood_uniq hin.wood wood_nil
      omega
    | cons x l' =>
      have hop := nok_op (hin.ok x (by simp))
      have hl' : l'.length ≤ N := by simp at hl; omega
      by_cases h9 : x.1 ≤ 9
      · exact rmatch_leaf mm A n c x l' w id ver lab g fs hf hsz hin h9
      · by_cases h10 : x.1 = 10
        · exact rmatch_one mm A n c x l' w id ver lab g fs hf hsz hin h10 (fun A n c w h => ih l' hl' A n c w h)
        · by_cases h11 : x.1 = 11
          · exact rmatch_and mm A n c x l' w id ver lab g fs hf hsz hin h11 (fun l2 h2 A n c w h => ih l2 (by simp at h2; omega) A n c w h)
          · exact rmatch_or mm A n c x l' w id ver lab g fs hf hsz hin (by omega) (fun l2 h2 A n c w h => ih l2 (by simp at h2; omega) A n c w h)
end Go.Proofs.Ytfoppjgjljellaa

/- A filter asked of a card. -/
namespace Go.Proofs.Ytfoppjgjljellaa
set_option linter.unusedVariables false
set_option linter.unusedSimpArgs false
open Go Go.RowKit Go.Shelf BitM ValM

set_option maxRecDepth 100000 in
set_option maxHeartbeats 3200000 in
theorem match_any (mm : Int) (F : Nat) (l : List Nd) (w : World) (id ver : Int) (lab g : BitVec 32) (fs : List V3) (h : Fresh mm w F l ∨ Ready mm w F l) (hf : fs.length = 8) (hsz : ∀ u ∈ fs, u.2.2.size ≤ 1000) :
    Calls Try.prog 10 #[.pointer (some ⟨F, 0, none⟩), .agg (ccells id ver (lab.toNat : Int) fs).toArray, .int .u32 (g.toNat : Int)] w (GivesR mm w F l (ev lab g fs l)) := by
  have hu := Try.underlying28
  have hl0 := (Below.refl w.heap.size w).alloc (Nat.le_refl _) (.cells (ccells id ver (lab.toNat : Int) fs).toArray 28)
  have BC := Blk.new w (ccells id ver (lab.toNat : Int) fs) 28
  have hFl : F < w.heap.size := by
    rcases h with ⟨A, n, c, h1, _⟩ | ⟨A, n, c, v, h1, _⟩
    · exact h1.lt
    · exact h1.lt
  have h0 : Fresh mm (w.alloc (.cells (ccells id ver (lab.toNat : Int) fs).toArray 28)) F l ∨ Ready mm (w.alloc (.cells (ccells id ver (lab.toNat : Int) fs).toArray 28)) F l := h.elim (fun h => .inl (h.later hl0)) (fun h => .inr (h.later hl0))
  have HRD := Lib.hid (fun wx (h : Le (w.alloc (.cells (ccells id ver (lab.toNat : Int) fs).toArray 28)) wx) => ready_any mm F l wx (h0.elim (fun h' => .inl (h'.later h)) (fun h' => .inr (h'.later h))))
  have HL := Lib.hid (ccells_len id ver (lab.toNat : Int) hf)
  have HSZ := Lib.hid hsz
  have HF := Lib.hid hf
  have HFL := Lib.hid hFl
  have HL0 := Lib.hid hl0
  obtain ⟨cs, hcs⟩ : ∃ cs, cs = ccells id ver (lab.toNat : Int) fs := ⟨_, rfl⟩
  have HCS := Lib.hid hcs
  rw [← hcs] at BC HRD HL HL0 ⊢
  have HBC := Lib.hid BC
  obtain ⟨w0, hw0⟩ : ∃ w0, w0 = w.alloc (.cells cs.toArray 28) := ⟨_, rfl⟩
  obtain ⟨ca, hca⟩ : ∃ ca, ca = cs.toArray := ⟨_, rfl⟩
  have HCA := Lib.hid hca
  rw [← hw0] at HRD HL0 HBC
  have HW0 := Lib.hid hw0
  rw [← hca] at HW0 ⊢
  clear h hf hsz hFl hl0 hcs BC hw0 hca h0
  go_enter Try.func10, Try.ntmps10
  go_wp2_with fail
  rw [← HW0.out]
  refine wp_region_head 3 18 #[true, true, true, false, false, false, false, false, false, false, false, false] [.pointer (some ⟨F, 0, none⟩), .bool true, .bool true] (fun w' => Ready mm w' F l ∧ w0.grownBy w' (some F)) (by kernel_rfl) (by kernel_rfl) (by kernel_rfl) (by kernel_rfl) (by rfl) ?_ ?_
  · intro TAIL
    refine wpAny_step (fuel := 11) [0] (by kernel_rfl) rfl (fun i hi => ?_)
    simp only [List.mem_cons, List.not_mem_nil, or_false] at hi
    subst hi
    refine wpOp_move _ rfl (.tmp 0) rfl (by rfl) ?_
    simp only [Act.put, List.setIfInBounds_toArray, List.set_cons_zero, List.set_cons_succ]
    refine wpAny_step (fuel := 10) [1] (by kernel_rfl) rfl (fun i hi => ?_)
    simp only [List.mem_cons, List.not_mem_nil, or_false] at hi
    subst hi
    refine wpOp_call _ rfl 27 #[.pointer (some ⟨F, 0, none⟩)] (by simp [go_sem]) (by rfl) ((HRD.out _ ((Below.refl _ _).drew)).mono ?_)
    rintro e' w1 ⟨rfl, hr, hg⟩
    refine ⟨_, rfl, ?_⟩
    simp only [Act.put, List.setIfInBounds_toArray, List.set_cons_zero, List.set_cons_succ]
    refine wpAny_step (fuel := 9) [2] (by kernel_rfl) rfl (fun i hi => ?_)
    simp only [List.mem_cons, List.not_mem_nil, or_false] at hi
    subst hi
    refine wpOp_move _ rfl (.tmp 8) rfl (by rfl) ?_
    simp only [Act.put, List.setIfInBounds_toArray, List.set_cons_zero, List.set_cons_succ]
    exact TAIL _ ⟨hr, (grown_le ((Below.refl _ _).drew) _).trans hg⟩
  · rintro w1 ⟨hr, hg⟩
    have HR := Lib.hid hr
    have HG := Lib.hid (hg.trans (grown_le (Le.refl _) _))
    have hB1 : Hid (Blk w1 w.heap.size cs) := Lib.hid (HBC.out.kept hg (by intro e; injection e with e; have := HFL.out; omega))
    obtain ⟨A, n, c, v, hF1, hs, hin⟩ := hr
    obtain ⟨f1, caps1, FF, rfl, hen, hini, hft, hcall⟩ := hs
    have HF1 := Lib.hid hF1
    have HC := Lib.hid (fun wx (hl : Le w1 wx) => hcall wx id ver lab g fs (fun k hk => hl.block k (by obtain ⟨u, hu, _⟩ := hft k hk; exact World.block_lt_of_cell? _ ⟨k, 0, none⟩ hu)) HF.out HSZ.out)
    rw [← HCS.out, ← HCA.out] at HC
    obtain ⟨R, hR⟩ : ∃ R, R = ev lab g fs l := ⟨_, rfl⟩
    rw [← hR] at HC
    have HRR := Lib.hid hR
    obtain ⟨args, hargs⟩ : ∃ args : Array Value, args = #[Value.agg ca, Value.int .u32 (g.toNat : Int)] ++ caps1 := ⟨_, rfl⟩
    rw [← hargs] at HC
    clear hcall hft hF1 hin hg hR
    simp only [putsAll, List.drop_succ_cons, List.drop_zero]
    simp only [Act.put, List.setIfInBounds_toArray, List.set_cons_zero, List.set_cons_succ]
    repeat (refine wpG_quiet (by rfl) (by rfl) (by rfl) (fun K hK => ?_); go_big_quiet_op; refine hK _ ?_; clear hK K)
    refine wpG_run (by rfl) (by rfl) (.func (.func f1) #[] caps1) (fun wx hl => ?_) ?_
    · have kc := (HF1.out.later hl.1).cell (j := 4) rfl
      simp [go_sem, kc]
    simp only [Act.put, List.setIfInBounds_toArray, List.set_cons_zero, List.set_cons_succ]
    refine wpG_run (by rfl) (by rfl) (.agg ca) (fun wx hl => by rw [HCA.out]; exact exec_load 28 (.tmp 4) rfl w.heap.size 0 rfl cs _ ((hB1.out.later hl.1).range 0 cs (by rw [List.drop_zero, List.take_length])) hu rfl (by rw [HL.out]; exact info_crd)) ?_
    simp only [Act.put, List.setIfInBounds_toArray, List.set_cons_zero, List.set_cons_succ]
    repeat (refine wpG_quiet (by rfl) (by rfl) (by rfl) (fun K hK => ?_); go_big_quiet_op; refine hK _ ?_; clear hK K)
    refine wpG_call (by rfl) (by rfl) f1 args (.bool R) (by intro _; rw [hargs]; simp [go_sem, hen]) hini (fun wx hl => HC.out wx hl.1) ?_
    simp only [Act.put, List.setIfInBounds_toArray, List.set_cons_zero, List.set_cons_succ]
    repeat (refine wpG_quiet (by rfl) (by rfl) (by rfl) (fun K hK => ?_); go_big_quiet_op; refine hK _ ?_; clear hK K)
    refine wpG_nil fun wz hl hs => ?_
    go_wp2_with fail
    go_ret
    exact ⟨by rw [← HRR.out]; rfl, HR.out.later hl, ((grown_le HL0.out _).trans HG.out).trans (grown_le hl _)⟩
end Go.Proofs.Ytfoppjgjljellaa

/- The program's Fields, Groups and Nodes of a filter; what no filter answers. -/
namespace Go.Proofs.Ytfoppjgjljellaa
set_option linter.unusedVariables false
set_option linter.unusedSimpArgs false
open Go Go.RowKit Go.Shelf BitM ValM

set_option maxRecDepth 100000 in
set_option maxHeartbeats 3200000 in
theorem ready_nil (w : World) : Calls Try.prog 27 #[.pointer none] w (GivesB w false) := by
  have hl0 := (Below.refl w.heap.size w).alloc (Nat.le_refl _) (.cells #[.pointer none] 32)
  go_enter Try.func27, Try.ntmps27
  go_wp2_with fail
  go_ret
  exact ⟨rfl, hl0⟩
set_option maxRecDepth 100000 in
set_option maxHeartbeats 3200000 in
theorem match_nil (cs : Array Value) (g : Int) (w : World) : Calls Try.prog 10 #[.pointer none, .agg cs, .int .u32 g] w (GivesB w false) := by
  have hl0 := (Below.refl w.heap.size w).alloc (Nat.le_refl _) (.cells cs 28)
  obtain ⟨w0, hw0⟩ : ∃ w0, w0 = w.alloc (.cells cs 28) := ⟨_, rfl⟩
  rw [← hw0] at hl0
  have HW0 := Lib.hid hw0
  have HL0 := Lib.hid hl0
  clear hw0 hl0
  go_enter Try.func10, Try.ntmps10
  go_wp2_with fail
  rw [← HW0.out]
  refine wp_region_steady [] 18 (by kernel_rfl) (by kernel_rfl) (by kernel_rfl) (by rfl) ?_
  repeat (refine wpG_quiet (by rfl) (by rfl) (by rfl) (fun K hK => ?_); go_big_quiet_op; refine hK _ ?_; clear hK K)
  refine wpG_call (by rfl) (by rfl) 27 #[.pointer none] (.bool false) (by intro _; simp [go_sem]) (by kernel_rfl) (fun wx hl => ready_nil wx) ?_
  simp only [Act.put, List.setIfInBounds_toArray, List.set_cons_zero, List.set_cons_succ]
  refine wpG_quiet (by rfl) (by rfl) (by rfl) (fun K hK => ?_); go_big_quiet_op; refine hK _ ?_; clear hK K
  iterate 7 (refine wpG_skip (by rfl) ?_; simp only [Act.put, List.setIfInBounds_toArray, List.set_cons_zero, List.set_cons_succ])
  repeat (refine wpG_quiet (by rfl) (by rfl) (by rfl) (fun K hK => ?_); go_big_quiet_op; refine hK _ ?_; clear hK K)
  refine wpG_nil fun wz hl hs => ?_
  go_wp2_with fail
  go_ret
  exact ⟨rfl, HL0.out.trans (hl.mono HL0.out.size)⟩
set_option maxRecDepth 100000 in
set_option maxHeartbeats 3200000 in
theorem fields_nil (w : World) : Calls Try.prog 11 #[.pointer none] w fun e w' => e = .returned (.int .u32 0) ∧ Below w.heap.size w w' := by
  go_enter Try.func11, Try.ntmps11
  go_wp2_with fail
  refine (ready_nil _).mono ?_
  rintro e w1 ⟨rfl, hb⟩
  go_wp2_with fail
  go_ret
  exact ⟨rfl, hb⟩
set_option maxRecDepth 100000 in
set_option maxHeartbeats 3200000 in
theorem groups_nil (w : World) : Calls Try.prog 12 #[.pointer none] w fun e w' => e = .returned (.int .u32 0) ∧ Below w.heap.size w w' := by
  go_enter Try.func12, Try.ntmps12
  go_wp2_with fail
  refine (ready_nil _).mono ?_
  rintro e w1 ⟨rfl, hb⟩
  go_wp2_with fail
  go_ret
  exact ⟨rfl, hb⟩
set_option maxRecDepth 100000 in
set_option maxHeartbeats 3200000 in
theorem nodes_nil (w : World) : Calls Try.prog 13 #[.pointer none] w fun e w' => e = .returned (.slice none 0 0) ∧ Below w.heap.size w w' := by
  go_enter Try.func13, Try.ntmps13
  go_wp2_with fail
  go_ret
  exact ⟨rfl, Below.refl _ _⟩
def GivesV (mm : Int) (w : World) (F : Nat) (l : List Nd) (x : Int) : Ending → World → Prop := fun e w' => e = .returned (.int .u32 x) ∧ Ready mm w' F l ∧ w.grownBy w' (some F)
set_option maxRecDepth 100000 in
set_option maxHeartbeats 3200000 in
theorem fields_any (mm : Int) (F : Nat) (l : List Nd) (w : World) (h : Fresh mm w F l ∨ Ready mm w F l) :
    Calls Try.prog 11 #[.pointer (some ⟨F, 0, none⟩)] w (GivesV mm w F l ((fls l).toNat : Int)) := by
  have HRD := Lib.hid (ready_any mm F l w h)
  clear h
  go_enter Try.func11, Try.ntmps11
  go_wp2_with fail
  refine HRD.out.mono ?_
  rintro e w1 ⟨rfl, hr, hg⟩
  have HR := Lib.hid hr
  have HG := Lib.hid hg
  obtain ⟨A, n, c, v, hF, _, _⟩ := hr
  have kc := hF.cell (j := 5) rfl
  clear HRD hg hF
  go_wp2_with fail
  go_ret
  exact ⟨rfl, HR.out, HG.out⟩
set_option maxRecDepth 100000 in
set_option maxHeartbeats 3200000 in
theorem groups_any (mm : Int) (F : Nat) (l : List Nd) (w : World) (h : Fresh mm w F l ∨ Ready mm w F l) :
    Calls Try.prog 12 #[.pointer (some ⟨F, 0, none⟩)] w (GivesV mm w F l ((grs l).toNat : Int)) := by
  have HRD := Lib.hid (ready_any mm F l w h)
  clear h
  go_enter Try.func12, Try.ntmps12
  go_wp2_with fail
  refine HRD.out.mono ?_
  rintro e w1 ⟨rfl, hr, hg⟩
  have HR := Lib.hid hr
  have HG := Lib.hid hg
  obtain ⟨A, n, c, v, hF, _, _⟩ := hr
  have kc := hF.cell (j := 6) rfl
  clear HRD hg hF
  go_wp2_with fail
  go_ret
  exact ⟨rfl, HR.out, HG.out⟩
set_option maxRecDepth 100000 in
set_option maxHeartbeats 3200000 in
theorem nodes_any (mm : Int) (F : Nat) (l : List Nd) (w : World) (h : Fresh mm w F l ∨ Ready mm w F l) :
    Calls Try.prog 13 #[.pointer (some ⟨F, 0, none⟩)] w (GivesNodes w l) := by
  obtain ⟨A, n, c, k0, hin⟩ : ∃ A n c, w.cell? ⟨F, 0, none⟩ = some (.slice A n c) ∧ TreeIn mm A n c l w := by
    rcases h with ⟨A, n, c, h1, h2⟩ | ⟨A, n, c, v, h1, _, h2⟩
    · exact ⟨A, n, c, h1.cell (j := 0) rfl, h2⟩
    · exact ⟨A, n, c, h1.cell (j := 0) rfl, h2⟩
  have HCL := Lib.hid (clone_nodes A n c l w hin.len hin.sees hin.max)
  clear h hin
  go_enter Try.func13, Try.ntmps13
  go_wp2_with fail
  refine HCL.out.mono ?_
  rintro e w1 ⟨A', c', rfl, ho, hb⟩
  have HO := Lib.hid ho
  have HB := Lib.hid hb
  clear ho hb HCL
  go_wp2_with fail
  go_ret
  exact ⟨A', c', rfl, HO.out, HB.out⟩
end Go.Proofs.Ytfoppjgjljellaa

/- Steps of a drawn region: a value taken ahead, a call, a store, a new card; a filter that has been asked stays where a new card is written. -/
namespace Go.Proofs.Ytfoppjgjljellaa
set_option linter.unusedVariables false
set_option linter.unusedSimpArgs false
open Go Go.RowKit Go.Shelf BitM ValM

theorem info_fls : (Try.prog.info? 26).map (·.size) = some 24 := by kernel_rfl
theorem small_fields {fs : List V3} (h : tooLong fs = false) : ∀ u ∈ fs, u.2.2.size ≤ 1000 := fun u hu => by
  have := List.any_eq_false.1 h u hu
  simp at this
  omega
section
variable {P : Program} {md : Region.Mode} {ops : Array Oper} {Q : Exit → Act → World → Prop} {S : World → Prop} {i : Nat} {oi : Oper} {v : Value} {fuel : Nat} {listed : Array Bool} {a : Act} {w : World}
theorem takeD (d : Option Tmp) (hi : ops[i]? = some oi) (hd : oi.dst = d) (hs : Region.noSelect ops = true) (hf : Region.free md ops listed i = true) (hr : (Region.ready md ops listed).contains i = true)
    (hQ : ∀ c a w, Q (.panic c) (a.put oi.dst v) w → Q (.panic c) a w) (hy : YieldsIf P ops S oi v a) (hS : S w)
    (h : Go.wpAnyH P md ops Q S fuel (listed.setIfInBounds i true) (a.put d v) w) : Go.wpAnyH P md ops Q S (fuel + 1) listed a w := by
  subst hd
  exact wpAnyH_take hi hs hf hr hQ hy hS h
theorem callD {K : Act → World → Prop} (d : Option Tmp) (o : Oper) (ho : ops[i]? = some o) (hd : o.dst = d) (f : FuncId) (args : Array Value) (hx : (execOp a.eval o).run P w = .ok (.enter f args) w) (hw : Region.wanted o (yielded ops a.tmps) = true)
    (h : Calls P f args w fun e w' => ∃ v, e = .returned v ∧ K (a.put d v) w') : wpOp P ops Q i K a w := by
  subst hd
  exact wpOp_call o ho f args hx hw h
theorem storeD {K : Act → World → Prop} (o : Oper) (ho : ops[i]? = some o) (hd : o.dst = none) (hw : Region.wanted o (yielded ops a.tmps) = true) (ty : TypeId) (x y : Operand) (hop : o.op = .store ty x y)
    (b off : Nat) (cells : Array Value) (hx : a.eval x = .pointer (some ⟨b, off, none⟩)) (hy : a.eval y = .agg cells)
    (ht : w.there b off cells.size) (hi : (P.info? ty).map (·.size) = some cells.size) (h1 : cells.all (·.oneCell') = true)
    (h : K a (w.setCells b off cells.toList)) : wpOp P ops Q i K a w := by
  unfold wpOp
  simp only [ho, hw, if_true]
  left
  refine wp_store_mid ty x y hop b off cells hx hy ht hi h1 ?_
  rw [hd]
  exact h
theorem via {α β : Type} {F T : α → β → Prop} {goal : Prop} (h1 : (∀ a b, F a b → T a b) → goal) (h2 : ∀ a b, F a b → T a b) : goal := h1 h2
end
theorem run_newcard (w : World) : (Instr.alloc 28 true (.tuple #[])).run Try.prog w = .ok (.pointer (some ⟨w.heap.size, 0, none⟩)) (w.alloc (.cells (ccells 0 0 0 zeros).toArray 28)) := by kernel_rfl
theorem allocD {ops : Array Oper} {Q : Exit → Act → World → Prop} {i : Nat} {a : Act} {w : World} {K : Act → World → Prop} (d : Option Tmp) (o : Oper) (ho : ops[i]? = some o) (hd : o.dst = d) (hop : o.op = .alloc 28) (hw : Region.wanted o (yielded ops a.tmps) = true)
    (h : K (a.put d (.pointer (some ⟨w.heap.size, 0, none⟩))) (w.alloc (.cells (ccells 0 0 0 zeros).toArray 28))) : wpOp Try.prog ops Q i K a w := by
  subst hd
  unfold wpOp
  simp only [ho, hw, if_true]
  left
  unfold Oper.wp execOp
  simp only [hop, Sem.run_bind, run_newcard, Result.andThen_ok, Sem.run_pure, Oper.upon]
  exact h
theorem zero_card {w : World} {G j : Nat} {op : Int} (hG : Blk w G (ccells 0 0 0 zeros)) (h : w.cell? ⟨G, j, none⟩ = some (.int .i64 op)) : op = 0 := by
  obtain ⟨t, ht⟩ := hG
  have h1 : (ccells 0 0 0 zeros)[j]? = some (.int .i64 op) := by
    have := h
    simp [World.cell?, ht] at this
    simpa using this
  have hj : j < 27 := by
    have := (List.getElem?_eq_some_iff.1 h1).1
    rw [ccells_len 0 0 0 zeros_len] at this
    exact this
  have key : ∀ j : Fin 27, ∀ x, (ccells 0 0 0 zeros)[j.val]? = some (Value.int .i64 x) → x = 0 := by
    intro j
    have : j.val = 0 ∨ j.val = 1 ∨ j.val = 2 ∨ j.val = 3 ∨ j.val = 4 ∨ j.val = 5 ∨ j.val = 6 ∨ j.val = 7 ∨ j.val = 8 ∨ j.val = 9 ∨ j.val = 10 ∨ j.val = 11 ∨ j.val = 12 ∨ j.val = 13 ∨ j.val = 14 ∨ j.val = 15 ∨ j.val = 16 ∨ j.val = 17 ∨ j.val = 18 ∨ j.val = 19 ∨ j.val = 20 ∨ j.val = 21 ∨ j.val = 22 ∨ j.val = 23 ∨ j.val = 24 ∨ j.val = 25 ∨ j.val = 26 := by omega
    rcases this with h | h | h | h | h | h | h | h | h | h | h | h | h | h | h | h | h | h | h | h | h | h | h | h | h | h | h <;> rw [h] <;> intro x e <;> cases e <;> rfl
  exact key ⟨j, hj⟩ op h1
theorem Fresh.lt {mm : Int} {w : World} {F : Nat} {l : List Nd} (h : Fresh mm w F l) : F < w.heap.size := by
  obtain ⟨A, n, c, h1, _⟩ := h
  exact h1.lt
theorem Ready.lt {mm : Int} {w : World} {F : Nat} {l : List Nd} (h : Ready mm w F l) : F < w.heap.size := by
  obtain ⟨A, n, c, v, h1, _⟩ := h
  exact h1.lt
/-- A filter that has been asked stays where a new card is written. -/
theorem Ready.far {mm : Int} {w w' : World} {F G : Nat} {l : List Nd} (h : Ready mm w F l) (hG : Blk w G (ccells 0 0 0 zeros)) (h0 : 0 < G) (hne : G ≠ F) (hg : w.grownBy w' (some G)) : Ready mm w' F l := by
  obtain ⟨A, n, c, v, hF, hs, hin⟩ := h
  have blk : ∀ k, k < w.heap.size → k ≠ G → w'.heap[k]? = w.heap[k]? := fun k hk hkG => hg.block k hk (fun e => by injection e with e; exact hkG e)
  refine ⟨A, n, c, v, hF.kept hg (by intro e; injection e with e; exact hne e), ?_, ?_⟩
  · refine hs.keep5 fun k u hu hf h5 => blk k (World.block_lt_of_cell? _ ⟨k, 0, none⟩ hu) (fun e => ?_)
    subst e
    rcases h5 with h5 | h5
    · omega
    · rw [hG.cell (j := 5) rfl] at h5; cases h5
  · refine ⟨hin.len, fun hp => ?_, hin.cap, hin.max, hin.wood, hin.ok, ?_⟩
    · have hl : 0 < l.length := by rw [ncs_len] at hp; omega
      obtain ⟨b, o, e, hb, hc1, _, _⟩ := sees_node hin.sees 0 hl
      obtain ⟨b', o', e', hb', hc⟩ := hin.sees hp
      rw [e] at e'
      injection e' with e'
      injection e' with e1 e2
      subst e1
      subst e2
      have hbG : b ≠ G := fun h => by
        subst h
        have := zero_card hG hc1
        have := (nok_op (hin.ok l[0] (List.getElem_mem hl))).1
        omega
      exact ⟨b, o, e, Nat.lt_of_lt_of_le hb hg.size, fun j hj => (World.cell?_of_block (a := ⟨b, o + j, none⟩) (blk b hb hbG)).trans (hc j hj)⟩
    · have h2 : w.cell? ⟨0, 0, none⟩ = some (.int .i64 mm) := hin.mem
      exact (World.cell?_of_block (a := ⟨0, 0, none⟩) (blk 0 (World.block_lt_of_cell? _ ⟨0, 0, none⟩ h2) (by omega))).trans h2
end Go.Proofs.Ytfoppjgjljellaa

/- The law's own filter is awake. -/
namespace Go.Proofs.Ytfoppjgjljellaa
set_option linter.unusedVariables false
set_option linter.unusedSimpArgs false
open Go Go.RowKit Go.Shelf BitM ValM

def awl : List Nd := [(12, 0, zv), (3, 1, zv), (4, 2, zv)]
theorem awl_chk : lchk awl = 0 := by decide
theorem awl_4 : ev 0#32 4#32 zeros awl = true := by decide
theorem awl_2 : ev 0#32 2#32 zeros awl = false := by decide
theorem zeros_small : ∀ u ∈ zeros, u.2.2.size ≤ 1000 := by decide
set_option maxRecDepth 100000 in
set_option maxHeartbeats 3200000 in
theorem awake_any (mm : Int) (w : World) (hm : MaxV mm w) : Calls Try.prog 8 #[] w fun e w' => e = .returned (.bool true) ∧ Below w.heap.size w w' := by
  have HN := Lib.hid (fun T : TypeId => new_any mm (some ⟨w.heap.size, 0, none⟩) 3 3 awl (w.alloc (.cells #[Value.int .i64 12, .int .i64 0, .int .i64 0, .int .i64 0, .string { data := #[] }, Value.int .i64 3, .int .i64 1, .int .i64 0, .int .i64 0, .string { data := #[] }, Value.int .i64 4, .int .i64 2, .int .i64 0, .int .i64 0, .string { data := #[] }] T)) rfl (fun _ => ⟨w.heap.size, 0, rfl, by simp, fun j hj => by rw [Nat.zero_add]; exact (Blk.new w (ncs awl) T).cell (List.getElem?_eq_getElem hj)⟩) (hm.later ((Below.refl w.heap.size w).alloc (Nat.le_refl _) _)))
  have HM1 := Lib.hid (fun F wx (h : Fresh mm wx F awl) => match_any mm F awl wx 1 0 0#32 4#32 zeros (.inl h) zeros_len zeros_small)
  have HM2 := Lib.hid (fun F wx (h : Ready mm wx F awl) => match_any mm F awl wx 1 0 0#32 2#32 zeros (.inr h) zeros_len zeros_small)
  rw [awl_4] at HM1
  rw [awl_2] at HM2
  have HC := Lib.hid awl_chk
  have HB0 := Lib.hid (fun T : TypeId => (Below.refl w.heap.size w).alloc (Nat.le_refl _) (.cells #[Value.int .i64 12, .int .i64 0, .int .i64 0, .int .i64 0, .string { data := #[] }, Value.int .i64 3, .int .i64 1, .int .i64 0, .int .i64 0, .string { data := #[] }, Value.int .i64 4, .int .i64 2, .int .i64 0, .int .i64 0, .string { data := #[] }] T))
  clear hm
  go_enter Try.func8, Try.ntmps8
  go_wp2_with fail
  refine (HN.out _).mono ?_
  rintro e w1 ⟨hb1, ⟨h0, _⟩ | ⟨_, F, rfl, hF, hfr⟩⟩
  · exact absurd HC.out h0
  have hb2 := (HB0.out _).trans (hb1.mono (HB0.out _).size)
  have hF2 : w.heap.size ≤ F := Nat.le_trans (HB0.out _).size hF
  have HB2 := Lib.hid hb2
  have HF := Lib.hid hF2
  have HFR := Lib.hid hfr
  clear hb1 hb2 hF hF2 hfr HB0 HN
  go_wp2_with fail
  refine (HM1.out F _ HFR.out).mono ?_
  rintro e w2 ⟨rfl, hr2, hg2⟩
  have HB3 := Lib.hid (HB2.out.grown hg2 HB2.out.size (fun k e => by injection e with e; have := HF.out; omega))
  have HR2 := Lib.hid hr2
  clear hg2 hr2
  go_wp2_with fail
  refine (HM2.out F _ HR2.out).mono ?_
  rintro e w3 ⟨rfl, hr3, hg3⟩
  have HB4 := Lib.hid (HB3.out.grown hg3 HB3.out.size (fun k e => by injection e with e; have := HF.out; omega))
  clear hg3 hr3
  go_wp2_with fail
  go_ret
  exact ⟨rfl, HB4.out⟩
end Go.Proofs.Ytfoppjgjljellaa

/- EvalAsks: the walk. -/
namespace Go.Proofs.Ytfoppjgjljellaa
set_option linter.unusedVariables false
set_option linter.unusedSimpArgs false
open Go Go.RowKit Go.Shelf BitM ValM

theorem small_mix (p : Nat → Bool) (a c : List V3) (ha : ∀ u ∈ a, u.2.2.size ≤ 1000) (hc : ∀ u ∈ c, u.2.2.size ≤ 1000) : ∀ u ∈ mix p a c, u.2.2.size ≤ 1000 := fun u hu => by
  obtain ⟨i, hi, rfl⟩ := List.mem_iff_getElem.1 hu
  have key : ∀ (l : List V3) (h : ∀ u ∈ l, u.2.2.size ≤ 1000) (i : Nat), (l.getD i zv).2.2.size ≤ 1000 := fun l h i => by
    rw [List.getD_eq_getElem?_getD]
    cases hl : l[i]? with
    | none => exact Nat.zero_le _
    | some v => exact h v (List.mem_of_getElem? hl)
  rw [mix_get]
  split
  · exact key a ha i
  · exact key c hc i
theorem small_zeros : ∀ u ∈ zeros, u.2.2.size ≤ 1000 := by decide
theorem mix_at (p : Nat → Bool) (a c : List V3) (k : Nat) (hk : k < 8) (hp : p k = true) : (mix p a c).getD k zv = a.getD k zv := by
  have h : k < (mix p a c).length := by rw [mix_len]; exact hk
  rw [List.getD_eq_getElem?_getD, List.getElem?_eq_getElem h, mix_get, if_pos hp]
  rfl
/-- What stands behind the card that is put together. -/
structure AfterD (mm : Int) (w : World) (F G : Nat) (l : List Nd) (cc gg dc : List Value) (wz : World) : Prop where
  gb : Blk wz G dc
  hr : Ready mm wz F l
  pc : Blk wz w.heap.size cc
  pg : Blk wz (w.heap.size + 1) gg
  be : Below w.heap.size w wz
  ne : G ≠ F
  hF : w.heap.size + 2 ≤ F
theorem AfterD.grow {mm : Int} {w : World} {F G : Nat} {l : List Nd} {cc gg dc : List Value} {wz wy : World} (h : AfterD mm w F G l cc gg dc wz) (hr : Ready mm wy F l) (hg : wz.grownBy wy (some F)) : AfterD mm w F G l cc gg dc wy :=
  ⟨h.gb.kept hg (by intro e; injection e with e; exact h.ne e.symm), hr, h.pc.kept hg (by intro e; injection e with e; have := h.hF; omega), h.pg.kept hg (by intro e; injection e with e; have := h.hF; omega), h.be.grown hg h.be.size (fun k e => by injection e with e; have := h.hF; omega), h.ne, h.hF⟩
theorem AfterD.later {mm : Int} {w : World} {F G : Nat} {l : List Nd} {cc gg dc : List Value} {wz wy : World} (h : AfterD mm w F G l cc gg dc wz) (hb : Le wz wy) : AfterD mm w F G l cc gg dc wy :=
  ⟨h.gb.later hb, h.hr.later hb, h.pc.later hb, h.pg.later hb, h.be.trans (Below.mono hb h.be.size), h.ne, h.hF⟩
set_option maxRecDepth 100000 in
set_option maxHeartbeats 6400000 in
theorem walk_asks (mm : Int) (A0 : Option Addr) (n0 c0 : Nat) (l : List Nd) (id0 ver0 id1 ver1 : Int) (lab0 lab1 g0 g1 : BitVec 32) (f0 f1 : List V3) (w : World) (hf0 : f0.length = 8) (hf1 : f1.length = 8)
    (hv0 : -9223372036854775808 ≤ ver1) (hv1 : ver1 ≤ 9223372036854775807) (h0 : l.length = n0) (s0 : Sees w w.heap.size A0 (ncs l)) (hc0 : n0 ≤ c0) (hm : MaxV mm w) :
    Calls Try.prog 4 #[.slice A0 n0 c0, .agg ((ccells id0 ver0 (lab0.toNat : Int) f0) ++ (ccells id1 ver1 (lab1.toNat : Int) f1)).toArray, .agg #[.int .u32 (g0.toNat : Int), .int .u32 (g1.toNat : Int)]] w fun e w' => e = .returned (.bool true) ∧ Below w.heap.size w w' := by
  have hu := Try.underlying26
  have huc := Try.underlying28
  have hl0 := ((Below.refl w.heap.size w).alloc (Nat.le_refl _) (.cells ((ccells id0 ver0 (lab0.toNat : Int) f0) ++ (ccells id1 ver1 (lab1.toNat : Int) f1)).toArray 42)).alloc (by simp) (.cells #[.int .u32 (g0.toNat : Int), .int .u32 (g1.toNat : Int)] 43)
  have BP := (Blk.new w ((ccells id0 ver0 (lab0.toNat : Int) f0) ++ (ccells id1 ver1 (lab1.toNat : Int) f1)) 42).alloc (.cells #[.int .u32 (g0.toNat : Int), .int .u32 (g1.toNat : Int)] 43)
  have BG := Blk.new (w.alloc (.cells ((ccells id0 ver0 (lab0.toNat : Int) f0) ++ (ccells id1 ver1 (lab1.toNat : Int) f1)).toArray 42)) [Value.int .u32 (g0.toNat : Int), Value.int .u32 (g1.toNat : Int)] 43
  have hz1 : (w.alloc (.cells ((ccells id0 ver0 (lab0.toNat : Int) f0) ++ (ccells id1 ver1 (lab1.toNat : Int) f1)).toArray 42)).heap.size = w.heap.size + 1 := by simp
  rw [hz1] at BG
  have HAW := Lib.hid (fun wx (h : Below w.heap.size w wx) => awake_any mm wx (hm.later h))
  have HCK := Lib.hid (fun wx (h : Below w.heap.size w wx) => rlcheck_any A0 n0 c0 l wx h0 ((s0.below h).more h.size) hc0)
  have HLG0 := Lib.hid (fun wx => large_any f0 wx hf0)
  have HLG1 := Lib.hid (fun wx => large_any f1 wx hf1)
  have HNA := Lib.hid (fun wx (h : Below w.heap.size w wx) => new_any mm A0 n0 c0 l wx h0 ((s0.below h).more h.size) (hm.later h))
  have HF0 := Lib.hid hf0
  have HF1 := Lib.hid hf1
  have hl27 : (ccells id0 ver0 (lab0.toNat : Int) f0).length = 27 := ccells_len id0 ver0 (lab0.toNat : Int) hf0
  have RF0 : ∀ wx, Blk wx w.heap.size ((ccells id0 ver0 (lab0.toNat : Int) f0) ++ (ccells id1 ver1 (lab1.toNat : Int) f1)) → wx.rangeAt w.heap.size 3 (fcells f0) := fun wx h => h.range 3 (fcells f0) (by
    unfold ccells
    rw [List.append_assoc, List.drop_left' (by rfl), List.take_left' rfl])
  have RF1 : ∀ wx, Blk wx w.heap.size ((ccells id0 ver0 (lab0.toNat : Int) f0) ++ (ccells id1 ver1 (lab1.toNat : Int) f1)) → wx.rangeAt w.heap.size 30 (fcells f1) := fun wx h => h.range 30 (fcells f1) (by
    rw [show (ccells id1 ver1 (lab1.toNat : Int) f1) = [.int .i64 id1, .int .i64 ver1, .int .u32 (lab1.toNat : Int)] ++ fcells f1 from rfl, ← List.append_assoc, List.drop_left' (by rw [List.length_append, hl27]; rfl), List.take_length])
  have RC0 : ∀ wx, Blk wx w.heap.size ((ccells id0 ver0 (lab0.toNat : Int) f0) ++ (ccells id1 ver1 (lab1.toNat : Int) f1)) → wx.rangeAt w.heap.size 0 (ccells id0 ver0 (lab0.toNat : Int) f0) := fun wx h => h.range 0 _ (by rw [List.drop_zero, List.take_left' rfl])
  have RC1 : ∀ wx, Blk wx w.heap.size ((ccells id0 ver0 (lab0.toNat : Int) f0) ++ (ccells id1 ver1 (lab1.toNat : Int) f1)) → wx.rangeAt w.heap.size 27 (ccells id1 ver1 (lab1.toNat : Int) f1) := fun wx h => h.range 27 _ (by rw [List.drop_left' hl27, List.take_length])
  have HFL0 : Hid ((fcells f0).length = 24) := Lib.hid (by rw [fcells_len, hf0])
  have HFL1 : Hid ((fcells f1).length = 24) := Lib.hid (by rw [fcells_len, hf1])
  have HCL0 := Lib.hid hl27
  have HCL1 := Lib.hid (ccells_len id1 ver1 (lab1.toNat : Int) hf1)
  have HRC0 := Lib.hid RC0
  have HRC1 := Lib.hid RC1
  have HRF0 := Lib.hid RF0
  have HRF1 := Lib.hid RF1
  have HBP := Lib.hid BP
  have HBG := Lib.hid BG
  have HL0 := Lib.hid hl0
  have HV0 := Lib.hid hv0
  have HV1 := Lib.hid hv1
  obtain ⟨pa, hpa⟩ : ∃ pa, pa = ((ccells id0 ver0 (lab0.toNat : Int) f0) ++ (ccells id1 ver1 (lab1.toNat : Int) f1)).toArray := ⟨_, rfl⟩
  rw [← hpa] at HBP HL0 HBG ⊢
  have HPA := Lib.hid hpa
  clear hf0 hf1 h0 s0 hc0 hm hl0 BP BG RF0 RF1 RC0 RC1 hpa hl27 hz1 hv0 hv1
  go_enter Try.func4, Try.ntmps4
  go_wp2_with fail
  refine (HCK.out _ HL0.out).mono ?_
  rintro e w1 ⟨rfl, hb1⟩
  have HB1 := Lib.hid (HL0.out.trans (hb1.mono HL0.out.size))
  have HP1 := Lib.hid (HBP.out.later hb1)
  have HG1 := Lib.hid (HBG.out.later hb1)
  clear hb1
  by_cases k0 : lchk l = 0
  · have HK0 := Lib.hid k0
    rw [k0]
    clear k0
    have hrf := HRF0.out _ HP1.out
    go_wp2_with (first
      | (refine wpList_load_g (by rfl) 26 (.tmp 16) rfl w.heap.size 3 rfl (fcells f0) _ hrf hu rfl (by rw [HFL0.out]; exact info_fls) ?_
         clear hrf)
      | fail)
    refine (HLG0.out _).mono ?_
    rintro e w2 ⟨rfl, hb2⟩
    have HB2 := Lib.hid (HB1.out.trans (hb2.mono HB1.out.size))
    have HP2 := Lib.hid (HP1.out.later hb2)
    have HG2 := Lib.hid (HG1.out.later hb2)
    clear hb2
    cases hbig0 : tooLong f0
    · have HSM0 := Lib.hid (small_fields hbig0)
      have hrf := HRF1.out _ HP2.out
      go_wp2_with (first
        | (refine wpList_load_g (by rfl) 26 (.tmp 22) rfl w.heap.size 30 rfl (fcells f1) _ hrf hu rfl (by rw [HFL1.out]; exact info_fls) ?_
           clear hrf)
        | fail)
      refine (HLG1.out _).mono ?_
      rintro e w3 ⟨rfl, hb3⟩
      have HB3 := Lib.hid (HB2.out.trans (hb3.mono HB2.out.size))
      have HP3 := Lib.hid (HP2.out.later hb3)
      have HG3 := Lib.hid (HG2.out.later hb3)
      clear hb3
      cases hbig1 : tooLong f1
      · have HSM1 := Lib.hid (small_fields hbig1)
        go_wp2_with fail
        refine (HNA.out _ HB3.out).mono ?_
        rintro e w4 ⟨hb4, ⟨hne, _⟩ | ⟨_, F, rfl, hF, hfr⟩⟩
        · exact absurd HK0.out hne
        have HB4 := Lib.hid (HB3.out.trans (hb4.mono HB3.out.size))
        have HP4 := Lib.hid (HP3.out.later hb4)
        have HG4 := Lib.hid (HG3.out.later hb4)
        have HFw : Hid (w.heap.size + 2 ≤ F) := Lib.hid (by have h1 := HG3.out.lt; omega)
        have HFR := Lib.hid hfr
        clear hb4 hfr hF
        go_wp2_with fail
        have hbd := (Below.refl w4.heap.size w4).drew
        have HBd := Lib.hid (HB4.out.trans (hbd.mono HB4.out.size))
        have hP := HP4.out.later hbd
        have hG := HG4.out.later hbd
        have hfd := HFR.out.later hbd
        obtain ⟨X, hX⟩ : ∃ X, X = fls l := ⟨_, rfl⟩
        have HX := Lib.hid hX
        have HFA := Lib.hid (fun wx h => fields_any mm F l wx h)
        rw [← hX] at HFA
        obtain ⟨m, hm⟩ : ∃ m, m = X &&& 511#32 := ⟨_, rfl⟩
        have HM := Lib.hid hm
        have HAN := Lib.hid (BitM.u32_and X 511#32)
        rw [show (((511#32 : BitVec 32).toNat : Nat) : Int) = 511 from rfl, ← hm] at HAN
        have HOF := Lib.hid (fun wx => rof_any id0 ver0 (lab0.toNat : Int) f0 m wx HF0.out)
        have HMG := Lib.hid (fun wx => rmerge_all id1 ver1 (lab1.toNat : Int) (if has m 8 then (lab0.toNat : Int) else 0) m f1 (mix (fun i => has m (i : Int)) f0 zeros) wx HF1.out (mix_len _ _ _) HV0.out HV1.out)
        obtain ⟨pv, hpv⟩ : ∃ pv, pv = (pcells (m.toNat : Int) (if has m 8 then (lab0.toNat : Int) else 0) (mix (fun i => has m (i : Int)) f0 zeros)).toArray := ⟨_, rfl⟩
        rw [← hpv] at HOF HMG
        obtain ⟨vd, hvd⟩ : ∃ vd, vd = (if 1099511627775 < ver1 then 1099511627776 else ver1 + 1) := ⟨_, rfl⟩
        rw [← hvd] at HMG
        obtain ⟨labd, hlabd⟩ : ∃ labd, labd = (if has m 8 then lab0 else lab1) := ⟨_, rfl⟩
        have hld : (if has m 8 then (if has m 8 then (lab0.toNat : Int) else 0) else (lab1.toNat : Int)) = (labd.toNat : Int) := by
          rw [hlabd]
          cases has m 8 <;> rfl
        rw [hld] at HMG
        obtain ⟨fd, hfd2⟩ : ∃ fd, fd = mix (fun i => has m (i : Int)) (mix (fun i => has m (i : Int)) f0 zeros) f1 := ⟨_, rfl⟩
        rw [← hfd2] at HMG
        have hfdl : fd.length = 8 := by rw [hfd2]; exact mix_len _ _ _
        have HSD : Hid (∀ u ∈ fd, u.2.2.size ≤ 1000) := Lib.hid (by rw [hfd2]; exact small_mix _ _ _ (small_mix _ _ _ HSM0.out small_zeros) HSM1.out)
        have HDL := Lib.hid hfdl
        have HEQ : Hid (∀ x, Mixg (grs l) g0 g1 32 x → ev labd x fd l = ev lab0 g0 f0 l) := Lib.hid (fun x hx => (ev_asks (lchk_ok HK0.out).2.1 (fun h8 => by
            have h8' : has m 8 = true := by rw [hm, hX]; exact (has_511 (fls l) 8 (Nat.le_refl _)).trans h8
            rw [hlabd, if_pos h8']) (fun k hk h => by
            have hk' : has m (k : Int) = true := by rw [hm, hX, has_511 (fls l) k (by omega)]; exact h
            rw [hfd2, mix_at _ _ _ k hk hk', mix_at _ _ _ k hk hk']) (fun k hk h => (mixg_end hx k hk h).symm)).symm)
        obtain ⟨dc, hdc⟩ : ∃ dc, dc = ccells id1 vd (labd.toNat : Int) fd := ⟨_, rfl⟩
        have hdl : dc.length = 27 := by rw [hdc]; exact ccells_len _ _ _ hfdl
        have hd1 : ∀ u ∈ dc, u.oneCell' = true := by rw [hdc]; exact ccells_one _ _ _ _
        rw [← hdc] at HMG
        have HDC := Lib.hid hdc
        have HDCL := Lib.hid hdl
        have HD1 := Lib.hid hd1
        obtain ⟨da, hda⟩ : ∃ da, da = dc.toArray := ⟨_, rfl⟩
        rw [← hda] at HMG
        have HDA := Lib.hid hda
        have HPd := Lib.hid hP
        have HGd := Lib.hid hG
        have HFd := Lib.hid hfd
        clear hP hG hfd hbd hX hm hpv hvd hlabd hld hfd2 hfdl hdc hdl hd1 hda HNA HLG0 HLG1 HRF0 HRF1 HCK
        apply via (F := fun (G : Nat) (wz : World) => AfterD mm w F G l ((ccells id0 ver0 (lab0.toNat : Int) f0) ++ (ccells id1 ver1 (lab1.toNat : Int) f1)) [Value.int .u32 (g0.toNat : Int), Value.int .u32 (g1.toNat : Int)] dc wz)
        · intro REST
          have hP := HPd.out
          have hG := HGd.out
          have hfl := HFd.out
          have hbe := HBd.out
          have hS : w4.drew.rangeAt w.heap.size 0 (ccells id0 ver0 (lab0.toNat : Int) f0) ∧ w4.drew.rangeAt w.heap.size 27 (ccells id1 ver1 (lab1.toNat : Int) f1) := ⟨HRC0.out _ hP, HRC1.out _ hP⟩
          refine wp_region_held (S := fun wx => wx.rangeAt w.heap.size 0 (ccells id0 ver0 (lab0.toNat : Int) f0) ∧ wx.rangeAt w.heap.size 27 (ccells id1 ver1 (lab1.toNat : Int) f1)) (by kernel_rfl) ?_
          show Go.wpAnyH Try.prog Region.Mode.any _ _ _ _ _ _ w4.drew
          generalize w4.drew = wd at hP hG hfl hbe hS ⊢
          refine takeD (i := 0) (oi := _) (v := (.pointer (some ⟨w.heap.size, 27, none⟩))) (fuel := 10) (some 29) rfl rfl (by kernel_rfl) (by kernel_rfl) (by kernel_rfl) (fun _ _ _ h => h) (.inl ⟨by rfl, fun wx hS => by simp [go_sem]⟩) hS ?_
          simp only [Act.put, List.setIfInBounds_toArray, List.set_cons_zero, List.set_cons_succ]
          refine takeD (i := 1) (oi := _) (v := (.agg (ccells id1 ver1 (lab1.toNat : Int) f1).toArray)) (fuel := 9) (some 30) rfl rfl (by kernel_rfl) (by kernel_rfl) (by kernel_rfl) (fun _ _ _ h => h) (yieldsIf_load_mid (by rfl) 28 (.tmp 29) rfl w.heap.size 27 rfl (ccells id1 ver1 (lab1.toNat : Int) f1) _ (fun wx hS => hS.2) huc rfl (by rw [HCL1.out]; exact info_crd)) hS ?_
          simp only [Act.put, List.setIfInBounds_toArray, List.set_cons_zero, List.set_cons_succ]
          refine takeD (i := 2) (oi := _) (v := (.pointer (some ⟨w.heap.size, 0, none⟩))) (fuel := 8) (some 31) rfl rfl (by kernel_rfl) (by kernel_rfl) (by kernel_rfl) (fun _ _ _ h => h) (.inl ⟨by rfl, fun wx hS => by simp [go_sem]⟩) hS ?_
          simp only [Act.put, List.setIfInBounds_toArray, List.set_cons_zero, List.set_cons_succ]
          refine takeD (i := 3) (oi := _) (v := (.agg (ccells id0 ver0 (lab0.toNat : Int) f0).toArray)) (fuel := 7) (some 32) rfl rfl (by kernel_rfl) (by kernel_rfl) (by kernel_rfl) (fun _ _ _ h => h) (yieldsIf_load_mid (by rfl) 28 (.tmp 31) rfl w.heap.size 0 rfl (ccells id0 ver0 (lab0.toNat : Int) f0) _ (fun wx hS => hS.1) huc rfl (by rw [HCL0.out]; exact info_crd)) hS ?_
          simp only [Act.put, List.setIfInBounds_toArray, List.set_cons_zero, List.set_cons_succ]
          refine takeD (i := 4) (oi := _) (v := (.pointer (some ⟨F, 0, none⟩))) (fuel := 6) (some 33) rfl rfl (by kernel_rfl) (by kernel_rfl) (by kernel_rfl) (fun _ _ _ h => h) (.inl ⟨by rfl, fun wx hS => by simp [go_sem]⟩) hS ?_
          simp only [Act.put, List.setIfInBounds_toArray, List.set_cons_zero, List.set_cons_succ]
          refine wpAnyH_all (fuel := 5) (rs := [5, 9]) (by kernel_rfl) (by simp) (fun i hi => ?_)
          simp only [List.mem_cons, List.not_mem_nil, or_false] at hi
          rcases hi with rfl | rfl
          · refine callD (some 34) _ rfl rfl 11 #[(.pointer (some ⟨F, 0, none⟩))] (by simp [go_sem]) (by rfl) ((HFA.out wd (.inl hfl)).mono ?_)
            rintro e w5 ⟨rfl, hr, hg⟩
            replace hP := hP.kept hg (by intro e; injection e with e; have := HFw.out; omega)
            replace hG := hG.kept hg (by intro e; injection e with e; have := HFw.out; omega)
            replace hS : _ ∧ _ := ⟨HRC0.out _ hP, HRC1.out _ hP⟩
            replace hbe := hbe.grown hg hbe.size (fun k e => by injection e with e; have := HFw.out; omega)
            clear hg hfl
            have hfl := hr
            clear hr
            refine ⟨_, rfl, hS, ?_⟩
            simp only [Act.put, List.setIfInBounds_toArray, List.set_cons_zero, List.set_cons_succ]
            refine takeD (i := 6) (oi := _) (v := (.int .u32 (m.toNat : Int))) (fuel := 4) (some 35) rfl rfl (by kernel_rfl) (by kernel_rfl) (by kernel_rfl) (fun _ _ _ h => h) (.inl ⟨by rfl, fun wx hS => by simp [go_sem, HAN.out]⟩) hS ?_
            simp only [Act.put, List.setIfInBounds_toArray, List.set_cons_zero, List.set_cons_succ]
            refine wpAnyH_all (fuel := 3) (rs := [7, 9]) (by kernel_rfl) (by simp) (fun i hi => ?_)
            simp only [List.mem_cons, List.not_mem_nil, or_false] at hi
            rcases hi with rfl | rfl
            · refine callD (some 36) _ rfl rfl 20 #[(.agg (ccells id0 ver0 (lab0.toNat : Int) f0).toArray), .int .u32 (m.toNat : Int)] (by simp [go_sem]) (by rfl) ((HOF.out w5).mono ?_)
              rintro e w7 ⟨rfl, hb⟩
              replace hP := hP.later hb
              replace hG := hG.later hb
              replace hS : _ ∧ _ := ⟨HRC0.out _ hP, HRC1.out _ hP⟩
              replace hbe := hbe.trans (hb.mono hbe.size)
              replace hfl := hfl.later hb
              clear hb
              refine ⟨_, rfl, hS, ?_⟩
              simp only [Act.put, List.setIfInBounds_toArray, List.set_cons_zero, List.set_cons_succ]
              refine wpAnyH_all (fuel := 2) (rs := [8, 9]) (by kernel_rfl) (by simp) (fun i hi => ?_)
              simp only [List.mem_cons, List.not_mem_nil, or_false] at hi
              rcases hi with rfl | rfl
              · refine callD (some 37) _ rfl rfl 19 #[(.agg (ccells id1 ver1 (lab1.toNat : Int) f1).toArray), .agg pv] (by simp [go_sem]) (by rfl) ((HMG.out w7).mono ?_)
                rintro e w8 ⟨rfl, hb⟩
                replace hP := hP.later hb
                replace hG := hG.later hb
                replace hS : _ ∧ _ := ⟨HRC0.out _ hP, HRC1.out _ hP⟩
                replace hbe := hbe.trans (hb.mono hbe.size)
                replace hfl := hfl.later hb
                clear hb
                refine ⟨_, rfl, hS, ?_⟩
                simp only [Act.put, List.setIfInBounds_toArray, List.set_cons_zero, List.set_cons_succ]
                refine wpAnyH_all (fuel := 1) (rs := [9]) (by kernel_rfl) (by simp) (fun i hi => ?_)
                simp only [List.mem_cons, List.not_mem_nil, or_false] at hi
                subst hi
                refine allocD (some 8) _ rfl rfl rfl (by rfl) ?_
                have hb := (Below.refl w8.heap.size w8).alloc (Nat.le_refl _) (.cells (ccells 0 0 0 zeros).toArray 28)
                have hz := Blk.new w8 (ccells 0 0 0 zeros) 28
                have hne : w8.heap.size ≠ F := by have := hfl.lt; omega
                have hGw : w.heap.size + 2 ≤ w8.heap.size := by have := hfl.lt; have := HFw.out; omega
                replace hP := hP.later hb
                replace hG := hG.later hb
                replace hS : _ ∧ _ := ⟨HRC0.out _ hP, HRC1.out _ hP⟩
                replace hbe := hbe.trans (hb.mono hbe.size)
                replace hfl := hfl.later hb
                clear hb
                refine ⟨hS, ?_⟩
                simp only [Act.put, List.setIfInBounds_toArray, List.set_cons_zero, List.set_cons_succ]
                generalize hWz : w8.alloc (.cells (ccells 0 0 0 zeros).toArray 28) = w10z at hz hP hG hS hbe hfl ⊢
                generalize w8.heap.size = G at hz hne hGw ⊢
                clear hWz
                refine wpAnyH_all (fuel := 0) (rs := [10]) (by kernel_rfl) (by simp) (fun i hi => ?_)
                simp only [List.mem_cons, List.not_mem_nil, or_false] at hi
                subst hi
                have TH := hz.there 0 27 (by rw [ccells_len 0 0 0 zeros_len]; omega)
                have h27 : da.size = 27 := by rw [HDA.out, List.size_toArray]; exact HDCL.out
                have hgs := grown_sets G dc 0 w10z
                have hzd := hz.whole (ds := dc) (by rw [HDCL.out, ccells_len 0 0 0 zeros_len])
                refine storeD _ rfl rfl (by rfl) 28 (.tmp 8) (.tmp 37) rfl G 0 da rfl rfl (by rw [h27]; exact TH) (by rw [h27]; exact info_card) (by rw [HDA.out]; exact all_oneCell_toArray HD1.out) ?_
                rw [show da.toList = dc from by rw [HDA.out]]
                have hPz := hP.kept hgs (by intro e; injection e with e; have := hGw; omega)
                have hGz := hG.kept hgs (by intro e; injection e with e; have := hGw; omega)
                refine ⟨⟨HRC0.out _ hPz, HRC1.out _ hPz⟩, ?_⟩
                refine wpAnyH_done (by kernel_rfl) ?_ _
                have hbz := hbe.grown hgs hbe.size (fun k e => by injection e with e; have := hGw; omega)
                have hrz := hfl.far hz (by have := hGw; omega) hne hgs
                generalize w10z.setCells G 0 dc = wz at hzd hPz hGz hbz hrz ⊢
                exact REST G wz ⟨hzd, hrz, hPz, hGz, hbz, hne, HFw.out⟩
              · refine allocD (some 8) _ rfl rfl rfl (by rfl) ?_
                have hb := (Below.refl w7.heap.size w7).alloc (Nat.le_refl _) (.cells (ccells 0 0 0 zeros).toArray 28)
                have hz := Blk.new w7 (ccells 0 0 0 zeros) 28
                have hne : w7.heap.size ≠ F := by have := hfl.lt; omega
                have hGw : w.heap.size + 2 ≤ w7.heap.size := by have := hfl.lt; have := HFw.out; omega
                replace hP := hP.later hb
                replace hG := hG.later hb
                replace hS : _ ∧ _ := ⟨HRC0.out _ hP, HRC1.out _ hP⟩
                replace hbe := hbe.trans (hb.mono hbe.size)
                replace hfl := hfl.later hb
                clear hb
                refine ⟨hS, ?_⟩
                simp only [Act.put, List.setIfInBounds_toArray, List.set_cons_zero, List.set_cons_succ]
                generalize hWz : w7.alloc (.cells (ccells 0 0 0 zeros).toArray 28) = w8z at hz hP hG hS hbe hfl ⊢
                generalize w7.heap.size = G at hz hne hGw ⊢
                clear hWz
                refine wpAnyH_all (fuel := 1) (rs := [8]) (by kernel_rfl) (by simp) (fun i hi => ?_)
                simp only [List.mem_cons, List.not_mem_nil, or_false] at hi
                subst hi
                refine callD (some 37) _ rfl rfl 19 #[(.agg (ccells id1 ver1 (lab1.toNat : Int) f1).toArray), .agg pv] (by simp [go_sem]) (by rfl) ((HMG.out w8z).mono ?_)
                rintro e w8a ⟨rfl, hb⟩
                replace hP := hP.later hb
                replace hG := hG.later hb
                replace hS : _ ∧ _ := ⟨HRC0.out _ hP, HRC1.out _ hP⟩
                replace hbe := hbe.trans (hb.mono hbe.size)
                replace hz := hz.later hb
                replace hfl := hfl.later hb
                clear hb
                refine ⟨_, rfl, hS, ?_⟩
                simp only [Act.put, List.setIfInBounds_toArray, List.set_cons_zero, List.set_cons_succ]
                refine wpAnyH_all (fuel := 0) (rs := [10]) (by kernel_rfl) (by simp) (fun i hi => ?_)
                simp only [List.mem_cons, List.not_mem_nil, or_false] at hi
                subst hi
                have TH := hz.there 0 27 (by rw [ccells_len 0 0 0 zeros_len]; omega)
                have h27 : da.size = 27 := by rw [HDA.out, List.size_toArray]; exact HDCL.out
                have hgs := grown_sets G dc 0 w8a
                have hzd := hz.whole (ds := dc) (by rw [HDCL.out, ccells_len 0 0 0 zeros_len])
                refine storeD _ rfl rfl (by rfl) 28 (.tmp 8) (.tmp 37) rfl G 0 da rfl rfl (by rw [h27]; exact TH) (by rw [h27]; exact info_card) (by rw [HDA.out]; exact all_oneCell_toArray HD1.out) ?_
                rw [show da.toList = dc from by rw [HDA.out]]
                have hPz := hP.kept hgs (by intro e; injection e with e; have := hGw; omega)
                have hGz := hG.kept hgs (by intro e; injection e with e; have := hGw; omega)
                refine ⟨⟨HRC0.out _ hPz, HRC1.out _ hPz⟩, ?_⟩
                refine wpAnyH_done (by kernel_rfl) ?_ _
                have hbz := hbe.grown hgs hbe.size (fun k e => by injection e with e; have := hGw; omega)
                have hrz := hfl.far hz (by have := hGw; omega) hne hgs
                generalize w8a.setCells G 0 dc = wz at hzd hPz hGz hbz hrz ⊢
                exact REST G wz ⟨hzd, hrz, hPz, hGz, hbz, hne, HFw.out⟩
            · refine allocD (some 8) _ rfl rfl rfl (by rfl) ?_
              have hb := (Below.refl w5.heap.size w5).alloc (Nat.le_refl _) (.cells (ccells 0 0 0 zeros).toArray 28)
              have hz := Blk.new w5 (ccells 0 0 0 zeros) 28
              have hne : w5.heap.size ≠ F := by have := hfl.lt; omega
              have hGw : w.heap.size + 2 ≤ w5.heap.size := by have := hfl.lt; have := HFw.out; omega
              replace hP := hP.later hb
              replace hG := hG.later hb
              replace hS : _ ∧ _ := ⟨HRC0.out _ hP, HRC1.out _ hP⟩
              replace hbe := hbe.trans (hb.mono hbe.size)
              replace hfl := hfl.later hb
              clear hb
              refine ⟨hS, ?_⟩
              simp only [Act.put, List.setIfInBounds_toArray, List.set_cons_zero, List.set_cons_succ]
              generalize hWz : w5.alloc (.cells (ccells 0 0 0 zeros).toArray 28) = w7z at hz hP hG hS hbe hfl ⊢
              generalize w5.heap.size = G at hz hne hGw ⊢
              clear hWz
              refine wpAnyH_all (fuel := 2) (rs := [7]) (by kernel_rfl) (by simp) (fun i hi => ?_)
              simp only [List.mem_cons, List.not_mem_nil, or_false] at hi
              subst hi
              refine callD (some 36) _ rfl rfl 20 #[(.agg (ccells id0 ver0 (lab0.toNat : Int) f0).toArray), .int .u32 (m.toNat : Int)] (by simp [go_sem]) (by rfl) ((HOF.out w7z).mono ?_)
              rintro e w7a ⟨rfl, hb⟩
              replace hP := hP.later hb
              replace hG := hG.later hb
              replace hS : _ ∧ _ := ⟨HRC0.out _ hP, HRC1.out _ hP⟩
              replace hbe := hbe.trans (hb.mono hbe.size)
              replace hz := hz.later hb
              replace hfl := hfl.later hb
              clear hb
              refine ⟨_, rfl, hS, ?_⟩
              simp only [Act.put, List.setIfInBounds_toArray, List.set_cons_zero, List.set_cons_succ]
              refine wpAnyH_all (fuel := 1) (rs := [8]) (by kernel_rfl) (by simp) (fun i hi => ?_)
              simp only [List.mem_cons, List.not_mem_nil, or_false] at hi
              subst hi
              refine callD (some 37) _ rfl rfl 19 #[(.agg (ccells id1 ver1 (lab1.toNat : Int) f1).toArray), .agg pv] (by simp [go_sem]) (by rfl) ((HMG.out w7a).mono ?_)
              rintro e w8a ⟨rfl, hb⟩
              replace hP := hP.later hb
              replace hG := hG.later hb
              replace hS : _ ∧ _ := ⟨HRC0.out _ hP, HRC1.out _ hP⟩
              replace hbe := hbe.trans (hb.mono hbe.size)
              replace hz := hz.later hb
              replace hfl := hfl.later hb
              clear hb
              refine ⟨_, rfl, hS, ?_⟩
              simp only [Act.put, List.setIfInBounds_toArray, List.set_cons_zero, List.set_cons_succ]
              refine wpAnyH_all (fuel := 0) (rs := [10]) (by kernel_rfl) (by simp) (fun i hi => ?_)
              simp only [List.mem_cons, List.not_mem_nil, or_false] at hi
              subst hi
              have TH := hz.there 0 27 (by rw [ccells_len 0 0 0 zeros_len]; omega)
              have h27 : da.size = 27 := by rw [HDA.out, List.size_toArray]; exact HDCL.out
              have hgs := grown_sets G dc 0 w8a
              have hzd := hz.whole (ds := dc) (by rw [HDCL.out, ccells_len 0 0 0 zeros_len])
              refine storeD _ rfl rfl (by rfl) 28 (.tmp 8) (.tmp 37) rfl G 0 da rfl rfl (by rw [h27]; exact TH) (by rw [h27]; exact info_card) (by rw [HDA.out]; exact all_oneCell_toArray HD1.out) ?_
              rw [show da.toList = dc from by rw [HDA.out]]
              have hPz := hP.kept hgs (by intro e; injection e with e; have := hGw; omega)
              have hGz := hG.kept hgs (by intro e; injection e with e; have := hGw; omega)
              refine ⟨⟨HRC0.out _ hPz, HRC1.out _ hPz⟩, ?_⟩
              refine wpAnyH_done (by kernel_rfl) ?_ _
              have hbz := hbe.grown hgs hbe.size (fun k e => by injection e with e; have := hGw; omega)
              have hrz := hfl.far hz (by have := hGw; omega) hne hgs
              generalize w8a.setCells G 0 dc = wz at hzd hPz hGz hbz hrz ⊢
              exact REST G wz ⟨hzd, hrz, hPz, hGz, hbz, hne, HFw.out⟩
          · refine allocD (some 8) _ rfl rfl rfl (by rfl) ?_
            have hb := (Below.refl wd.heap.size wd).alloc (Nat.le_refl _) (.cells (ccells 0 0 0 zeros).toArray 28)
            have hz := Blk.new wd (ccells 0 0 0 zeros) 28
            have hne : wd.heap.size ≠ F := by have := hfl.lt; omega
            have hGw : w.heap.size + 2 ≤ wd.heap.size := by have := hfl.lt; have := HFw.out; omega
            replace hP := hP.later hb
            replace hG := hG.later hb
            replace hS : _ ∧ _ := ⟨HRC0.out _ hP, HRC1.out _ hP⟩
            replace hbe := hbe.trans (hb.mono hbe.size)
            replace hfl := hfl.later hb
            clear hb
            refine ⟨hS, ?_⟩
            simp only [Act.put, List.setIfInBounds_toArray, List.set_cons_zero, List.set_cons_succ]
            generalize hWz : wd.alloc (.cells (ccells 0 0 0 zeros).toArray 28) = w5z at hz hP hG hS hbe hfl ⊢
            generalize wd.heap.size = G at hz hne hGw ⊢
            clear hWz
            refine wpAnyH_all (fuel := 4) (rs := [5]) (by kernel_rfl) (by simp) (fun i hi => ?_)
            simp only [List.mem_cons, List.not_mem_nil, or_false] at hi
            subst hi
            refine callD (some 34) _ rfl rfl 11 #[(.pointer (some ⟨F, 0, none⟩))] (by simp [go_sem]) (by rfl) ((HFA.out w5z (.inl hfl)).mono ?_)
            rintro e w5a ⟨rfl, hr, hg⟩
            replace hP := hP.kept hg (by intro e; injection e with e; have := HFw.out; omega)
            replace hG := hG.kept hg (by intro e; injection e with e; have := HFw.out; omega)
            replace hS : _ ∧ _ := ⟨HRC0.out _ hP, HRC1.out _ hP⟩
            replace hbe := hbe.grown hg hbe.size (fun k e => by injection e with e; have := HFw.out; omega)
            replace hz := hz.kept hg (by intro e; injection e with e; exact hne e.symm)
            clear hg hfl
            have hfl := hr
            clear hr
            refine ⟨_, rfl, hS, ?_⟩
            simp only [Act.put, List.setIfInBounds_toArray, List.set_cons_zero, List.set_cons_succ]
            refine takeD (i := 6) (oi := _) (v := (.int .u32 (m.toNat : Int))) (fuel := 3) (some 35) rfl rfl (by kernel_rfl) (by kernel_rfl) (by kernel_rfl) (fun _ _ _ h => h) (.inl ⟨by rfl, fun wx hS => by simp [go_sem, HAN.out]⟩) hS ?_
            simp only [Act.put, List.setIfInBounds_toArray, List.set_cons_zero, List.set_cons_succ]
            refine wpAnyH_all (fuel := 2) (rs := [7]) (by kernel_rfl) (by simp) (fun i hi => ?_)
            simp only [List.mem_cons, List.not_mem_nil, or_false] at hi
            subst hi
            refine callD (some 36) _ rfl rfl 20 #[(.agg (ccells id0 ver0 (lab0.toNat : Int) f0).toArray), .int .u32 (m.toNat : Int)] (by simp [go_sem]) (by rfl) ((HOF.out w5a).mono ?_)
            rintro e w7a ⟨rfl, hb⟩
            replace hP := hP.later hb
            replace hG := hG.later hb
            replace hS : _ ∧ _ := ⟨HRC0.out _ hP, HRC1.out _ hP⟩
            replace hbe := hbe.trans (hb.mono hbe.size)
            replace hz := hz.later hb
            replace hfl := hfl.later hb
            clear hb
            refine ⟨_, rfl, hS, ?_⟩
            simp only [Act.put, List.setIfInBounds_toArray, List.set_cons_zero, List.set_cons_succ]
            refine wpAnyH_all (fuel := 1) (rs := [8]) (by kernel_rfl) (by simp) (fun i hi => ?_)
            simp only [List.mem_cons, List.not_mem_nil, or_false] at hi
            subst hi
            refine callD (some 37) _ rfl rfl 19 #[(.agg (ccells id1 ver1 (lab1.toNat : Int) f1).toArray), .agg pv] (by simp [go_sem]) (by rfl) ((HMG.out w7a).mono ?_)
            rintro e w8a ⟨rfl, hb⟩
            replace hP := hP.later hb
            replace hG := hG.later hb
            replace hS : _ ∧ _ := ⟨HRC0.out _ hP, HRC1.out _ hP⟩
            replace hbe := hbe.trans (hb.mono hbe.size)
            replace hz := hz.later hb
            replace hfl := hfl.later hb
            clear hb
            refine ⟨_, rfl, hS, ?_⟩
            simp only [Act.put, List.setIfInBounds_toArray, List.set_cons_zero, List.set_cons_succ]
            refine wpAnyH_all (fuel := 0) (rs := [10]) (by kernel_rfl) (by simp) (fun i hi => ?_)
            simp only [List.mem_cons, List.not_mem_nil, or_false] at hi
            subst hi
            have TH := hz.there 0 27 (by rw [ccells_len 0 0 0 zeros_len]; omega)
            have h27 : da.size = 27 := by rw [HDA.out, List.size_toArray]; exact HDCL.out
            have hgs := grown_sets G dc 0 w8a
            have hzd := hz.whole (ds := dc) (by rw [HDCL.out, ccells_len 0 0 0 zeros_len])
            refine storeD _ rfl rfl (by rfl) 28 (.tmp 8) (.tmp 37) rfl G 0 da rfl rfl (by rw [h27]; exact TH) (by rw [h27]; exact info_card) (by rw [HDA.out]; exact all_oneCell_toArray HD1.out) ?_
            rw [show da.toList = dc from by rw [HDA.out]]
            have hPz := hP.kept hgs (by intro e; injection e with e; have := hGw; omega)
            have hGz := hG.kept hgs (by intro e; injection e with e; have := hGw; omega)
            refine ⟨⟨HRC0.out _ hPz, HRC1.out _ hPz⟩, ?_⟩
            refine wpAnyH_done (by kernel_rfl) ?_ _
            have hbz := hbe.grown hgs hbe.size (fun k e => by injection e with e; have := hGw; omega)
            have hrz := hfl.far hz (by have := hGw; omega) hne hgs
            generalize w8a.setCells G 0 dc = wz at hzd hPz hGz hbz hrz ⊢
            exact REST G wz ⟨hzd, hrz, hPz, hGz, hbz, hne, HFw.out⟩
        · intro G wz H
          have HH := Lib.hid H
          obtain ⟨U, hU⟩ : ∃ U, U = grs l := ⟨_, rfl⟩
          have HGA := Lib.hid (fun wx h => groups_any mm F l wx h)
          rw [← hU] at HGA HEQ
          clear hU
          have pg1 := H.pg.cell (j := 1) rfl
          clear H
          go_wp2_with fail
          go_loopw [9, 10] (fun gv i wr => ∃ (k : Nat) (x : BitVec 32), k ≤ 32 ∧ i = .int .i64 k ∧ gv = .int .u32 (x.toNat : Int) ∧ Hid (Mixg U g0 g1 k x) ∧ Hid (AfterD mm w F G l ((ccells id0 ver0 (lab0.toNat : Int) f0) ++ (ccells id1 ver1 (lab1.toNat : Int) f1)) [Value.int .u32 (g0.toNat : Int), Value.int .u32 (g1.toNat : Int)] dc wr)) (fun _ i _ => 32 - (intOf i).toNat)
          case atStart => exact ⟨0, g1, Nat.zero_le _, rfl, rfl, Lib.hid (mixg_zero _ _ _), HH⟩
          case round =>
            obtain ⟨k, x, hk, rfl, rfl, HMX, HA⟩ := hrel
            clear HH pg1
            by_cases hlt : k < 32
            · have d1 : decide ((k : Int) < 32) = true := by simp; omega
              have HU := Lib.hid (fun wx => rhas_any U (k : Int) wx)
              have HG0 := Lib.hid (fun wx => rhas_any g0 (k : Int) wx)
              have HG1 := Lib.hid (fun wx => rhas_any g1 (k : Int) wx)
              have HW := Lib.hid (fun wx => rwith_any (del x (k : Int)) k hlt wx)
              have HPT := Lib.hid (fun h => mixg_put HMX.out hlt h)
              have HDT := Lib.hid (fun h => mixg_del HMX.out hlt h)
              have HXD := Lib.hid (fun wx => rwithout_any x (k : Int) wx)
              obtain ⟨y, hy⟩ : ∃ y, y = del x (k : Int) := ⟨_, rfl⟩
              obtain ⟨z, hz⟩ : ∃ z, z = put y (k : Int) := ⟨_, rfl⟩
              rw [← hy] at HW HPT HDT HXD
              rw [← hz] at HW HPT
              clear hy hz HMX
              have p0 := HA.out.pg.cell (j := 0) rfl
              have p1 := HA.out.pg.cell (j := 1) rfl
              cases hu0 : has U (k : Int) with
              | true =>
                rw [hu0] at HU
                cases hg0 : has g0 (k : Int) with
                | true =>
                  rw [hg0] at HG0
                  have HC : Hid ((if has U (k : Int) = true then has g0 (k : Int) else has g1 (k : Int)) = true) := Lib.hid (by rw [hu0, hg0]; rfl)
                  clear hu0 hg0
                  go_wp2_with fail
                  refine (HXD.out _).mono ?_
                  rintro e wx ⟨rfl, rfl⟩
                  go_wp2_with fail
                  refine (HGA.out _ (.inr HA.out.hr)).mono ?_
                  rintro e wa1 ⟨rfl, hr, hg⟩
                  have HA1 := Lib.hid (HA.out.grow hr hg)
                  clear hr hg p0 p1
                  have p0 := HA1.out.pg.cell (j := 0) rfl
                  have p1 := HA1.out.pg.cell (j := 1) rfl
                  go_wp2_with fail
                  refine (HU.out _).mono ?_
                  rintro e wx ⟨rfl, rfl⟩
                  go_wp2_with fail
                  refine (HG0.out _).mono ?_
                  rintro e wx ⟨rfl, rfl⟩
                  go_wp2_with fail
                  refine (HW.out _).mono ?_
                  rintro e wx ⟨rfl, rfl⟩
                  go_wp2_with fail
                  go_roundw
                  case rel => exact ⟨k + 1, z, by omega, by go_num, rfl, Lib.hid (HPT.out HC.out), HA1⟩
                  case measure => simp [intOf]; omega
                | false =>
                  rw [hg0] at HG0
                  have HC : Hid ((if has U (k : Int) = true then has g0 (k : Int) else has g1 (k : Int)) = false) := Lib.hid (by rw [hu0, hg0]; rfl)
                  clear hu0 hg0
                  go_wp2_with fail
                  refine (HXD.out _).mono ?_
                  rintro e wx ⟨rfl, rfl⟩
                  go_wp2_with fail
                  refine (HGA.out _ (.inr HA.out.hr)).mono ?_
                  rintro e wa1 ⟨rfl, hr, hg⟩
                  have HA1 := Lib.hid (HA.out.grow hr hg)
                  clear hr hg p0 p1
                  have p0 := HA1.out.pg.cell (j := 0) rfl
                  have p1 := HA1.out.pg.cell (j := 1) rfl
                  go_wp2_with fail
                  refine (HU.out _).mono ?_
                  rintro e wx ⟨rfl, rfl⟩
                  go_wp2_with fail
                  refine (HG0.out _).mono ?_
                  rintro e wx ⟨rfl, rfl⟩
                  go_wp2_with fail
                  refine (HGA.out _ (.inr HA1.out.hr)).mono ?_
                  rintro e wa2 ⟨rfl, hr, hg⟩
                  have HA2 := Lib.hid (HA1.out.grow hr hg)
                  clear hr hg p0 p1
                  have p0 := HA2.out.pg.cell (j := 0) rfl
                  have p1 := HA2.out.pg.cell (j := 1) rfl
                  go_wp2_with fail
                  refine (HU.out _).mono ?_
                  rintro e wx ⟨rfl, rfl⟩
                  go_wp2_with fail
                  go_roundw
                  case rel => exact ⟨k + 1, y, by omega, by go_num, rfl, Lib.hid (HDT.out HC.out), HA2⟩
                  case measure => simp [intOf]; omega
              | false =>
                rw [hu0] at HU
                cases hg0 : has g1 (k : Int) with
                | true =>
                  rw [hg0] at HG1
                  have HC : Hid ((if has U (k : Int) = true then has g0 (k : Int) else has g1 (k : Int)) = true) := Lib.hid (by rw [hu0, hg0]; rfl)
                  clear hu0 hg0
                  go_wp2_with fail
                  refine (HXD.out _).mono ?_
                  rintro e wx ⟨rfl, rfl⟩
                  go_wp2_with fail
                  refine (HGA.out _ (.inr HA.out.hr)).mono ?_
                  rintro e wa1 ⟨rfl, hr, hg⟩
                  have HA1 := Lib.hid (HA.out.grow hr hg)
                  clear hr hg p0 p1
                  have p0 := HA1.out.pg.cell (j := 0) rfl
                  have p1 := HA1.out.pg.cell (j := 1) rfl
                  go_wp2_with fail
                  refine (HU.out _).mono ?_
                  rintro e wx ⟨rfl, rfl⟩
                  go_wp2_with fail
                  refine (HGA.out _ (.inr HA1.out.hr)).mono ?_
                  rintro e wa2 ⟨rfl, hr, hg⟩
                  have HA2 := Lib.hid (HA1.out.grow hr hg)
                  clear hr hg p0 p1
                  have p0 := HA2.out.pg.cell (j := 0) rfl
                  have p1 := HA2.out.pg.cell (j := 1) rfl
                  go_wp2_with fail
                  refine (HU.out _).mono ?_
                  rintro e wx ⟨rfl, rfl⟩
                  go_wp2_with fail
                  refine (HG1.out _).mono ?_
                  rintro e wx ⟨rfl, rfl⟩
                  go_wp2_with fail
                  refine (HW.out _).mono ?_
                  rintro e wx ⟨rfl, rfl⟩
                  go_wp2_with fail
                  go_roundw
                  case rel => exact ⟨k + 1, z, by omega, by go_num, rfl, Lib.hid (HPT.out HC.out), HA2⟩
                  case measure => simp [intOf]; omega
                | false =>
                  rw [hg0] at HG1
                  have HC : Hid ((if has U (k : Int) = true then has g0 (k : Int) else has g1 (k : Int)) = false) := Lib.hid (by rw [hu0, hg0]; rfl)
                  clear hu0 hg0
                  go_wp2_with fail
                  refine (HXD.out _).mono ?_
                  rintro e wx ⟨rfl, rfl⟩
                  go_wp2_with fail
                  refine (HGA.out _ (.inr HA.out.hr)).mono ?_
                  rintro e wa1 ⟨rfl, hr, hg⟩
                  have HA1 := Lib.hid (HA.out.grow hr hg)
                  clear hr hg p0 p1
                  have p0 := HA1.out.pg.cell (j := 0) rfl
                  have p1 := HA1.out.pg.cell (j := 1) rfl
                  go_wp2_with fail
                  refine (HU.out _).mono ?_
                  rintro e wx ⟨rfl, rfl⟩
                  go_wp2_with fail
                  refine (HGA.out _ (.inr HA1.out.hr)).mono ?_
                  rintro e wa2 ⟨rfl, hr, hg⟩
                  have HA2 := Lib.hid (HA1.out.grow hr hg)
                  clear hr hg p0 p1
                  have p0 := HA2.out.pg.cell (j := 0) rfl
                  have p1 := HA2.out.pg.cell (j := 1) rfl
                  go_wp2_with fail
                  refine (HU.out _).mono ?_
                  rintro e wx ⟨rfl, rfl⟩
                  go_wp2_with fail
                  refine (HG1.out _).mono ?_
                  rintro e wx ⟨rfl, rfl⟩
                  go_wp2_with fail
                  go_roundw
                  case rel => exact ⟨k + 1, y, by omega, by go_num, rfl, Lib.hid (HDT.out HC.out), HA2⟩
                  case measure => simp [intOf]; omega
            · obtain rfl : k = 32 := by omega
              have d1 : decide (((32 : Nat) : Int) < 32) = false := by decide
              clear hlt hk
              go_wp2_with fail
              have hE := HEQ.out x HMX.out
              obtain ⟨E, hE0⟩ : ∃ E, E = ev lab0 g0 f0 l := ⟨_, rfl⟩
              have HM1 := Lib.hid (fun wx h => match_any mm F l wx id0 ver0 lab0 g0 f0 h HF0.out HSM0.out)
              have HM2 := Lib.hid (fun wx h => match_any mm F l wx id1 vd labd x fd h HDL.out HSD.out)
              rw [← HDC.out, ← HDA.out, hE] at HM2
              rw [← hE0] at HM1 HM2
              have HRG := Lib.hid (fun wx (h : AfterD mm w F G l ((ccells id0 ver0 (lab0.toNat : Int) f0) ++ (ccells id1 ver1 (lab1.toNat : Int) f1)) [Value.int .u32 (g0.toNat : Int), Value.int .u32 (g1.toNat : Int)] dc wx) => (show wx.rangeAt w.heap.size 0 (ccells id0 ver0 (lab0.toNat : Int) f0) ∧ wx.cell? ⟨w.heap.size + 1, 0, none⟩ = some (.int .u32 (g0.toNat : Int)) ∧ wx.rangeAt G 0 dc from ⟨HRC0.out _ h.pc, h.pg.cell (j := 0) rfl, h.gb.range 0 dc (by rw [List.drop_zero, List.take_length])⟩))
              clear hE hE0 HMX
              have hA := HA.out.later ((Below.refl wr.heap.size wr).drew)
              have hS := HRG.out _ hA
              clear HA
              refine wp_region_held (S := fun wx => wx.rangeAt w.heap.size 0 (ccells id0 ver0 (lab0.toNat : Int) f0) ∧ wx.cell? ⟨w.heap.size + 1, 0, none⟩ = some (.int .u32 (g0.toNat : Int)) ∧ wx.rangeAt G 0 dc) (by kernel_rfl) ?_
              refine takeD (i := 0) (oi := _) (v := (.pointer (some ⟨F, 0, none⟩))) (fuel := 18) (some 73) rfl rfl (by kernel_rfl) (by kernel_rfl) (by kernel_rfl) (fun _ _ _ h => h) (.inl ⟨by rfl, fun wx hS => by simp [go_sem]⟩) hS ?_
              simp only [Act.put, List.setIfInBounds_toArray, List.set_cons_zero, List.set_cons_succ]
              refine takeD (i := 1) (oi := _) (v := (.bool true)) (fuel := 17) (some 74) rfl rfl (by kernel_rfl) (by kernel_rfl) (by kernel_rfl) (fun _ _ _ h => h) (.inl ⟨by rfl, fun wx hS => by simp [go_sem]⟩) hS ?_
              simp only [Act.put, List.setIfInBounds_toArray, List.set_cons_zero, List.set_cons_succ]
              refine takeD (i := 2) (oi := _) (v := (.bool true)) (fuel := 16) (some 75) rfl rfl (by kernel_rfl) (by kernel_rfl) (by kernel_rfl) (fun _ _ _ h => h) (.inl ⟨by rfl, fun wx hS => by simp [go_sem]⟩) hS ?_
              simp only [Act.put, List.setIfInBounds_toArray, List.set_cons_zero, List.set_cons_succ]
              refine takeD (i := 3) (oi := _) (v := (.pointer (some ⟨F, 0, none⟩))) (fuel := 15) (some 76) rfl rfl (by kernel_rfl) (by kernel_rfl) (by kernel_rfl) (fun _ _ _ h => h) (.inl ⟨by rfl, fun wx hS => by simp [go_sem]⟩) hS ?_
              simp only [Act.put, List.setIfInBounds_toArray, List.set_cons_zero, List.set_cons_succ]
              refine takeD (i := 4) (oi := _) (v := (.pointer (some ⟨w.heap.size, 0, none⟩))) (fuel := 14) (some 77) rfl rfl (by kernel_rfl) (by kernel_rfl) (by kernel_rfl) (fun _ _ _ h => h) (.inl ⟨by rfl, fun wx hS => by simp [go_sem]⟩) hS ?_
              simp only [Act.put, List.setIfInBounds_toArray, List.set_cons_zero, List.set_cons_succ]
              refine takeD (i := 5) (oi := _) (v := (.agg (ccells id0 ver0 (lab0.toNat : Int) f0).toArray)) (fuel := 13) (some 78) rfl rfl (by kernel_rfl) (by kernel_rfl) (by kernel_rfl) (fun _ _ _ h => h) (yieldsIf_load_mid (by rfl) 28 (.tmp 77) rfl w.heap.size 0 rfl (ccells id0 ver0 (lab0.toNat : Int) f0) _ (fun wx hS => hS.1) huc rfl (by rw [HCL0.out]; exact info_crd)) hS ?_
              simp only [Act.put, List.setIfInBounds_toArray, List.set_cons_zero, List.set_cons_succ]
              refine takeD (i := 6) (oi := _) (v := (.pointer (some ⟨w.heap.size + 1, 0, none⟩))) (fuel := 12) (some 79) rfl rfl (by kernel_rfl) (by kernel_rfl) (by kernel_rfl) (fun _ _ _ h => h) (.inl ⟨by rfl, fun wx hS => by simp [go_sem]⟩) hS ?_
              simp only [Act.put, List.setIfInBounds_toArray, List.set_cons_zero, List.set_cons_succ]
              refine takeD (i := 7) (oi := _) (v := (.int .u32 (g0.toNat : Int))) (fuel := 11) (some 80) rfl rfl (by kernel_rfl) (by kernel_rfl) (by kernel_rfl) (fun _ _ _ h => h) (.inl ⟨by rfl, fun wx hS => by simp [go_sem, hS.2.1]⟩) hS ?_
              simp only [Act.put, List.setIfInBounds_toArray, List.set_cons_zero, List.set_cons_succ]
              refine takeD (i := 9) (oi := _) (v := (.pointer (some ⟨F, 0, none⟩))) (fuel := 10) (some 82) rfl rfl (by kernel_rfl) (by kernel_rfl) (by kernel_rfl) (fun _ _ _ h => h) (.inl ⟨by rfl, fun wx hS => by simp [go_sem]⟩) hS ?_
              simp only [Act.put, List.setIfInBounds_toArray, List.set_cons_zero, List.set_cons_succ]
              refine takeD (i := 10) (oi := _) (v := (.agg da)) (fuel := 9) (some 83) rfl rfl (by kernel_rfl) (by kernel_rfl) (by kernel_rfl) (fun _ _ _ h => h) (by rw [HDA.out]; exact yieldsIf_load_mid (by rfl) 28 (.tmp 8) rfl G 0 rfl dc _ (fun wx hS => hS.2.2) huc rfl (by rw [HDCL.out]; exact info_crd)) hS ?_
              simp only [Act.put, List.setIfInBounds_toArray, List.set_cons_zero, List.set_cons_succ]
              refine takeD (i := 11) (oi := _) (v := (.int .u32 (x.toNat : Int))) (fuel := 8) (some 84) rfl rfl (by kernel_rfl) (by kernel_rfl) (by kernel_rfl) (fun _ _ _ h => h) (.inl ⟨by rfl, fun wx hS => by simp [go_sem]⟩) hS ?_
              simp only [Act.put, List.setIfInBounds_toArray, List.set_cons_zero, List.set_cons_succ]
              refine wpAnyH_all (fuel := 7) (rs := [8]) (by kernel_rfl) (by simp) (fun i hi => ?_)
              simp only [List.mem_cons, List.not_mem_nil, or_false] at hi
              subst hi
              refine callD (some 81) _ rfl rfl 10 #[(.pointer (some ⟨F, 0, none⟩)), (.agg (ccells id0 ver0 (lab0.toNat : Int) f0).toArray), .int .u32 (g0.toNat : Int)] (by simp [go_sem]) (by rfl) ((HM1.out _ (.inr hA.hr)).mono ?_)
              rintro e wb ⟨rfl, hr, hg⟩
              replace hA := hA.grow hr hg
              replace hS := HRG.out _ hA
              clear hr hg
              refine ⟨_, rfl, hS, ?_⟩
              simp only [Act.put, List.setIfInBounds_toArray, List.set_cons_zero, List.set_cons_succ]
              refine wpAnyH_all (fuel := 6) (rs := [12]) (by kernel_rfl) (by simp) (fun i hi => ?_)
              simp only [List.mem_cons, List.not_mem_nil, or_false] at hi
              subst hi
              refine callD (some 85) _ rfl rfl 10 #[(.pointer (some ⟨F, 0, none⟩)), .agg da, .int .u32 (x.toNat : Int)] (by simp [go_sem]) (by rfl) ((HM2.out _ (.inr hA.hr)).mono ?_)
              rintro e wc ⟨rfl, hr, hg⟩
              replace hA := hA.grow hr hg
              replace hS := HRG.out _ hA
              clear hr hg
              refine ⟨_, rfl, hS, ?_⟩
              simp only [Act.put, List.setIfInBounds_toArray, List.set_cons_zero, List.set_cons_succ]
              refine takeD (i := 13) (oi := _) (v := (.bool true)) (fuel := 5) (some 86) rfl rfl (by kernel_rfl) (by kernel_rfl) (by kernel_rfl) (fun _ _ _ h => h) (.inl ⟨by rfl, fun wx hS => by simp [go_sem]⟩) hS ?_
              simp only [Act.put, List.setIfInBounds_toArray, List.set_cons_zero, List.set_cons_succ]
              refine takeD (i := 14) (oi := _) (v := (.bool true)) (fuel := 4) (some 87) rfl rfl (by kernel_rfl) (by kernel_rfl) (by kernel_rfl) (fun _ _ _ h => h) (.inl ⟨by rfl, fun wx hS => by simp [go_sem]⟩) hS ?_
              simp only [Act.put, List.setIfInBounds_toArray, List.set_cons_zero, List.set_cons_succ]
              refine takeD (i := 15) (oi := _) (v := (.bool true)) (fuel := 3) (some 88) rfl rfl (by kernel_rfl) (by kernel_rfl) (by kernel_rfl) (fun _ _ _ h => h) (.inl ⟨by rfl, fun wx hS => by simp [go_sem]⟩) hS ?_
              simp only [Act.put, List.setIfInBounds_toArray, List.set_cons_zero, List.set_cons_succ]
              refine wpAnyH_all (fuel := 2) (rs := [16]) (by kernel_rfl) (by simp) (fun i hi => ?_)
              simp only [List.mem_cons, List.not_mem_nil, or_false] at hi
              subst hi
              refine callD (some 89) _ rfl rfl 8 #[] (by simp [go_sem]) (by rfl) ((HAW.out _ hA.be).mono ?_)
              rintro e wd ⟨rfl, hb⟩
              replace hA := hA.later hb
              replace hS := HRG.out _ hA
              clear hb
              refine ⟨_, rfl, hS, ?_⟩
              simp only [Act.put, List.setIfInBounds_toArray, List.set_cons_zero, List.set_cons_succ]
              refine takeD (i := 17) (oi := _) (v := (.bool true)) (fuel := 1) (some 90) rfl rfl (by kernel_rfl) (by kernel_rfl) (by kernel_rfl) (fun _ _ _ h => h) (.inl ⟨by rfl, fun wx hS => by simp [go_sem]⟩) hS ?_
              simp only [Act.put, List.setIfInBounds_toArray, List.set_cons_zero, List.set_cons_succ]
              refine takeD (i := 18) (oi := _) (v := (.bool true)) (fuel := 0) (some 6) rfl rfl (by kernel_rfl) (by kernel_rfl) (by kernel_rfl) (fun _ _ _ h => h) (.inl ⟨by rfl, fun wx hS => by simp [go_sem]⟩) hS ?_
              simp only [Act.put, List.setIfInBounds_toArray, List.set_cons_zero, List.set_cons_succ]
              refine wpAnyH_done (by kernel_rfl) ?_ _
              go_wp2_with fail
              go_ret
              exact ⟨rfl, hA.be⟩
      · go_wp2_with fail
        refine (HAW.out _ HB3.out).mono ?_
        rintro e w4 ⟨rfl, hb4⟩
        go_wp2_with fail
        go_ret
        exact ⟨rfl, HB3.out.trans (hb4.mono HB3.out.size)⟩
    · go_wp2_with fail
      refine (HAW.out _ HB2.out).mono ?_
      rintro e w4 ⟨rfl, hb4⟩
      go_wp2_with fail
      go_ret
      exact ⟨rfl, HB2.out.trans (hb4.mono HB2.out.size)⟩
  · have d1 : (lchk l != 0) = true := by simpa using k0
    go_wp2_with fail
    refine (HAW.out _ HB1.out).mono ?_
    rintro e w4 ⟨rfl, hb4⟩
    go_wp2_with fail
    go_ret
    exact ⟨rfl, HB1.out.trans (hb4.mono HB1.out.size)⟩
end Go.Proofs.Ytfoppjgjljellaa

/- EvalAsks: of cards and groups that are alike in what a filter asks for it says the same; for every input. No condition. -/
namespace Go.Proofs.Ytfoppjgjljellaa
set_option linter.unusedVariables false
open Go.ChangeShapes Go.WideShapes Go.ChangeAt Go.RowKit

set_option maxRecDepth 100000 in
theorem evalAsks_lifted (os : Os) (started : os.Started) (H : Type) (enc : TypeId × Value → H) (F : Stop.Interp) :
    ReturnsInHanded {} Try.checked os 4 .any ((OpenSpec.ofChange Rows.evalAsksSpec).preRow enc Try.prog Try.f4 Rows.evalAsksRow.domain false Rows.evalAsksRow.laid) (((OpenSpec.ofChange Rows.evalAsksSpec).at F).post enc Try.prog Try.f4 false true false false) := by
  refine returnsInHanded_of_row (C := Try.checked) (s := (OpenSpec.ofChange Rows.evalAsksSpec)) own started (by kernel_rfl) Try.func4
    (by
      obtain ⟨w, tape, i, h1, h2, h3, h4, h5, h6, _⟩ := OpenSpec.witness_stopped (enc := enc) (C := Try.checked) (os := os) (f := 4) (fn := Try.f4) (s := (OpenSpec.ofChange Rows.evalAsksSpec)) (conds := Rows.evalAsksRow.domain) (apart := false) false ⟨#[], #[.slice none 0 0, (.agg (ccells 0 0 0 zeros ++ ccells 0 0 0 zeros).toArray), (.agg #[.int .u32 0, .int .u32 0])], []⟩ 8 (by kernel_rfl) (by kernel_rfl) (by kernel_rfl) (by kernel_rfl) (by kernel_rfl) rfl (fun _ _ _ => 0)
      exact ⟨w, tape, i, h1, h2, h3, h4, h5, h6⟩) ?_
  intro W base args ds gs before hval hW _ hcond _ _ hsh _
  have hW' := hW
  obtain ⟨p, q, hA0, hV, rfl, hfz, hnd⟩ := hW
  have hA : DataW.TrodAll enc Try.prog W 0 (fun _ => true) true Try.f4.params.toList args.toList ds p := hA0
  rw [Try.params4] at hA hval
  obtain ⟨v0, vs0, d0, ds0, p0, q0, hargs, rfl, rfl, h0, r0⟩ := trodAll_cons hA
  obtain ⟨v1, vs1, d1, ds1, p1, q1, rfl, rfl, rfl, h1, r1⟩ := trodAll_cons r0
  obtain ⟨v2, vs2, d2, ds2, p2, q2, rfl, rfl, rfl, h2, r2⟩ := trodAll_cons r1
  obtain ⟨rfl, rfl, rfl⟩ := trodAll_nil r2
  obtain rfl : args = #[v0, v1, v2] := by cases args; simp_all
  obtain ⟨A0, n0, c0, l0, rfl, hnc0, hcm0, rfl, ok0, hs0⟩ := open_nodes (hval 0 22 v0 rfl rfl) h0
  obtain ⟨id0, ver0, id1, ver1, lab0, lab1, f0, f1, rfl, hf0, hf1, wv1⟩ := open_cards (hval 1 42 v1 rfl rfl) h1
  obtain ⟨g0, g1, rfl⟩ := open_two (hval 2 43 v2 rfl rfl) h2
  obtain ⟨mm, hmm⟩ := max_int hsh
  clear hA0
  refine (walk_asks mm A0 l0.length c0 l0 id0 ver0 id1 ver1 lab0 lab1 g0 g1 f0 f1 W hf0 hf1 wv1.1 wv1.2 rfl hs0 hnc0 hmm).mono fun e W' ⟨he, hb⟩ => ?_
  subst he
  exact ⟨_, rfl, law_post laidOut (by intro t ht; revert t ht; decide +kernel) rfl rfl boolT rfl hW' hb⟩
theorem EvalAsks_holds : Rows.EvalAsksSaid :=
  OpenClaim.holds_of_cond 4 Try.f4 rfl rfl rfl rfl rfl rfl rfl ⟨rfl, rfl, rfl, rfl, rfl⟩ rfl rfl rfl rfl rfl (by kernel_rfl) Try.func4 (by kernel_rfl)
    (of_decide_eq_true (by kernel_rfl)) (by unfold Func.isWrapper; first | (rw [if_pos (by decide +kernel)]; kernel_rfl) | (rw [if_neg (by decide +kernel)]; exact ⟨rfl, rfl⟩))
    (fun os started H enc _ F => by rw [OpenClaim.pre_eq_preRow]; exact evalAsks_lifted os started H enc F)
end Go.Proofs.Ytfoppjgjljellaa
