/- Rows of structs, whatever a struct's cells are: what lies there, and what the frame gives of such a slice. -/
import Derived.Test.YtadmaalhhigbeaaWords
import Derived.Test.YtadmaalhhigbeaaBlk
import Derived.Deep.Slices
import Derived.Deep.Strs
namespace Go.Proofs.Ytadmaalhhigbeaa
set_option linter.unusedVariables false
open Go Go.RowKit Go.Deep Go.ChangeShapes Go.WideShapes Go.ChangeAt

section
variable {α : Type} {f : α → List Value} {sz : Nat}
/-- The cells of a list of structs, one behind the other. -/
def rws (f : α → List Value) (l : List α) : List Value := l.flatMap f
theorem rws_nil (f : α → List Value) : rws f [] = [] := rfl
theorem rws_cons (f : α → List Value) (x : α) (l : List α) : rws f (x :: l) = f x ++ rws f l := rfl
theorem rws_one (f : α → List Value) (x : α) : rws f [x] = f x := by simp [rws]
theorem rws_append (f : α → List Value) (l m : List α) : rws f (l ++ m) = rws f l ++ rws f m := by simp [rws]
theorem rws_len : ∀ l : List α, (∀ x ∈ l, (f x).length = sz) → (rws f l).length = l.length * sz
  | [], _ => by simp [rws]
  | x :: l, h => by
    rw [rws_cons, List.length_append, rws_len l (fun y hy => h y (List.mem_cons_of_mem _ hy)), h x List.mem_cons_self, List.length_cons, Nat.succ_mul]
    omega
theorem rws_drop : ∀ (l : List α) (k : Nat), (∀ x ∈ l, (f x).length = sz) → (rws f l).drop (k * sz) = rws f (l.drop k)
  | [], k, _ => by simp [rws]
  | x :: l, 0, _ => by simp
  | x :: l, k + 1, h => by
    have hx := h x List.mem_cons_self
    rw [rws_cons, List.drop_succ_cons, ← rws_drop l k (fun y hy => h y (List.mem_cons_of_mem _ hy)), show (k + 1) * sz = (f x).length + k * sz by rw [hx, Nat.succ_mul]; omega, List.drop_length_add_append]
theorem rws_take : ∀ (l : List α) (k : Nat), (∀ x ∈ l, (f x).length = sz) → (rws f l).take (k * sz) = rws f (l.take k)
  | [], k, _ => by simp [rws]
  | x :: l, 0, _ => by simp [rws]
  | x :: l, k + 1, h => by
    have hx := h x List.mem_cons_self
    rw [rws_cons, List.take_succ_cons, rws_cons, ← rws_take l k (fun y hy => h y (List.mem_cons_of_mem _ hy)), show (k + 1) * sz = (f x).length + k * sz by rw [hx, Nat.succ_mul]; omega, List.take_length_add_append]
theorem rws_at (l : List α) (hf : ∀ x ∈ l, (f x).length = sz) (k : Nat) (hk : k < l.length) (j : Nat) (v : Value) (hj : (f l[k])[j]? = some v) : (rws f l)[k * sz + j]? = some v := by
  have h1 : ((rws f l).drop (k * sz))[j]? = some v := by
    rw [rws_drop l k hf, List.drop_eq_getElem_cons hk, rws_cons]
    rw [List.getElem?_append_left (List.getElem?_eq_some_iff.1 hj).1]
    exact hj
  rw [List.getElem?_drop] at h1
  exact h1
theorem rws_get (l : List α) (hf : ∀ x ∈ l, (f x).length = sz) (k : Nat) (hk : k < l.length) : ((rws f l).drop (k * sz)).take sz = f l[k] := by
  have := hf _ (List.getElem_mem hk)
  rw [rws_drop l k hf, List.drop_eq_getElem_cons hk, rws_cons, List.take_append_of_le_length (by omega), List.take_of_length_le (by omega)]
theorem rws_mem {l : List α} {v : Value} (h : v ∈ rws f l) : ∃ x ∈ l, v ∈ f x := by
  simpa [rws] using h
theorem rws_all {l : List α} {P : Value → Prop} (h : ∀ x ∈ l, ∀ u ∈ f x, P u) : ∀ u ∈ rws f l, P u := fun u hu => by
  obtain ⟨x, hx, hu⟩ := rws_mem hu
  exact h x hx u hu
/-- An element of a row that is seen. -/
theorem sees_rw {w : World} {B : Nat} {A : Option Addr} {l : List α} (hf : ∀ x ∈ l, (f x).length = sz) (hs : Sees w B A (rws f l)) (hz : 0 < sz) (k : Nat) (hk : k < l.length) :
    ∃ b o, A = some ⟨b, o, none⟩ ∧ b < B ∧ w.rangeAt b (o + k * sz) (f l[k]) := by
  obtain ⟨b, o, e, hb, hc⟩ := hs (by rw [rws_len l hf]; exact Nat.mul_pos (by omega) hz)
  refine ⟨b, o, e, hb, fun j v hj => ?_⟩
  have h1 := rws_at l hf k hk j v hj
  obtain ⟨h2, h3⟩ := List.getElem?_eq_some_iff.1 h1
  have := hc (k * sz + j) h2
  rw [h3] at this
  rw [Nat.add_assoc]
  exact this
end

section
variable {H : Type} {enc : TypeId × Value → H} {W : World} {P : Program} {α : Type} [Inhabited α]
/-- What the frame gives of a slice of structs. -/
theorem open_rows {f : α → List Value} {sz : Nat} {ok : α → Prop} {t et : TypeId} (ht : P.underlying t = some (.slice et)) (hC : P.cellsOf et = sz) (hz : 0 < sz) (hf : ∀ z, ok z → (f z).length = sz)
    (hel : ∀ (n : Nat) (cs : List Value) (x : DataW H × List MemPlace), DataW.trod enc P W 0 (fun _ => true) true n et cs = some x → ∃ z, cs = f z ∧ ok z)
    {r : Reach} {base : Nat} {v : Value} {d : DataW H} {ps : List MemPlace}
    (hv : Value.okWide P W r base t v) (h : DataW.Trod enc P W 0 (fun _ => true) true t v d ps) :
    ∃ A n c, ∃ l : List α, v = .slice A n c ∧ n ≤ c ∧ c ≤ maxLen ∧ l.length = n ∧ (∀ z ∈ l, ok z) ∧ Sees W W.heap.size A (rws f l) := by
  obtain ⟨A, n, c, rfl⟩ := okWide_slice ht hv
  obtain ⟨fuel, hf0⟩ := h
  have hlt := DataW.trod_lt fuel _ _ _ hf0
  rcases open_slice ht hf0 with ⟨hcs, hx⟩ | ⟨x, n, c, m, fu, D, Pl, hcs, hb, hl, hm, hmm, hx, hcell⟩
  · simp [Value.cells] at hcs
    obtain ⟨rfl, rfl, rfl⟩ := hcs
    exact ⟨none, 0, 0, [], rfl, Nat.le_refl _, by simp [maxLen], rfl, by simp, Sees.nil_⟩
  · simp [Value.cells] at hcs
    obtain ⟨rfl, rfl, rfl⟩ := hcs
    simp only [if_true] at hmm
    subst hmm
    have each : ∀ i, i < n → ∃ z : α, (∀ j u, (f z)[j]? = some u → W.cell? (x.add (i * sz + j)) = some u) ∧ ok z := fun i hi => by
      obtain ⟨cs', h1, h2⟩ := hcell i (by omega)
      obtain ⟨z, rfl, okz⟩ := hel _ _ _ h2
      refine ⟨z, fun j u hj => ?_, okz⟩
      rw [hC] at h1
      obtain ⟨_, hlen, hc⟩ := World.cells?_some h1
      have hj5 : j < sz := by
        have := (List.getElem?_eq_some_iff.1 hj).1
        rwa [hf z okz] at this
      have e1 := hc j hj5
      rw [add_add] at e1
      rw [e1, hj]
    obtain ⟨g, hg⟩ := choose_lt (α := α) each
    have hlen : ((List.range n).map g).length = n := by simp
    have hok : ∀ z ∈ (List.range n).map g, ok z := fun z hz => by
      obtain ⟨i, hi, rfl⟩ := List.mem_map.1 hz
      exact (hg i (List.mem_range.1 hi)).2
    have hsz : ∀ z ∈ (List.range n).map g, (f z).length = sz := fun z hz => hf z (hok z hz)
    have hrl := rws_len _ hsz
    refine ⟨some x, n, m, (List.range n).map g, rfl, hl, hm, hlen, hok, fun hpos => ?_⟩
    rw [hrl, hlen] at hpos
    have hn0 : 0 < n := by
      rcases Nat.eq_zero_or_pos n with h0 | h0
      · rw [h0, Nat.zero_mul] at hpos; omega
      · exact h0
    have hfz : ∀ i (hi : i < n), (f (g i)).length = sz := fun i hi => hf _ (hg i hi).2
    have h0 := (hg 0 hn0).1 0 _ (List.getElem?_eq_getElem (by rw [hfz 0 hn0]; exact hz))
    obtain ⟨b, off, spot⟩ := x
    have hspot : spot = none := by simpa [Addr.add] using World.cell?_spot h0
    subst hspot
    refine ⟨b, off, rfl, ?_, fun j hj => ?_⟩
    · simp only [Prod.mk.injEq] at hx
      obtain ⟨_, rfl⟩ := hx
      have := hlt (.cell b off) (by simp [MemPlace.row, hC]; exact .inl (Nat.mul_pos (Nat.lt_of_lt_of_le hn0 hl) hz))
      simpa [MemPlace.block] using this
    · have hj2 := hj
      rw [hrl, hlen] at hj2
      have hjd : j / sz < n := Nat.div_lt_of_lt_mul (by rw [Nat.mul_comm]; exact hj2)
      have hjm : j % sz < sz := Nat.mod_lt _ hz
      have hjs : j / sz * sz + j % sz = j := by rw [Nat.mul_comm]; exact Nat.div_add_mod j sz
      have hk : j / sz < ((List.range n).map g).length := by rw [hlen]; exact hjd
      have e3 : ((List.range n).map g)[j / sz] = g (j / sz) := by simp
      have hjz : j % sz < (f (g (j / sz))).length := by rw [hfz _ hjd]; exact hjm
      have h3 : (f ((List.range n).map g)[j / sz])[j % sz]? = some ((f (g (j / sz)))[j % sz]'hjz) := by
        rw [e3]
        exact List.getElem?_eq_getElem hjz
      have h4 := rws_at _ hsz (j / sz) hk (j % sz) _ h3
      rw [hjs, List.getElem?_eq_getElem hj] at h4
      have h5 := (hg (j / sz) hjd).1 (j % sz) _ (List.getElem?_eq_getElem hjz)
      rw [hjs, add_at] at h5
      rw [h5]
      exact h4.symm
theorem trod_struct5 {w : World} {base : Nat} {spare : Nat → Bool} {held : Bool} {t : TypeId} {f0 f1 f2 f3 f4 : Field} {fuel : Nat} {cs : List Value} {x : DataW H × List MemPlace} (ht : P.underlying t = some (.struct #[f0, f1, f2, f3, f4])) (h : DataW.trod enc P w base spare held fuel t cs = some x) :
    ∃ y0 y1 y2 y3 y4 n, x = (.agg [y0.1, y1.1, y2.1, y3.1, y4.1], y0.2 ++ (y1.2 ++ (y2.2 ++ (y3.2 ++ y4.2)))) ∧ cs.length = P.cellsOf t ∧ DataW.trod enc P w base spare held n f0.type ((cs.drop f0.offset).take (P.cellsOf f0.type)) = some y0 ∧
      DataW.trod enc P w base spare held n f1.type ((cs.drop f1.offset).take (P.cellsOf f1.type)) = some y1 ∧ DataW.trod enc P w base spare held n f2.type ((cs.drop f2.offset).take (P.cellsOf f2.type)) = some y2 ∧
      DataW.trod enc P w base spare held n f3.type ((cs.drop f3.offset).take (P.cellsOf f3.type)) = some y3 ∧ DataW.trod enc P w base spare held n f4.type ((cs.drop f4.offset).take (P.cellsOf f4.type)) = some y4 := by
  obtain ⟨xs, n, _, rfl, hl, hlen, hf⟩ := DataW.trod_struct ht h
  match xs, hlen with
  | [y0, y1, y2, y3, y4], _ => exact ⟨y0, y1, y2, y3, y4, n, by simp, hl, by simpa using hf 0 f0 rfl, by simpa using hf 1 f1 rfl, by simpa using hf 2 f2 rfl, by simpa using hf 3 f3 rfl, by simpa using hf 4 f4 rfl⟩
/-- A list, of its pieces. -/
theorem list_cut (l : List Value) (a b : Nat) (h : (l.drop a).take b = (l.drop a).take b) : l.drop a = (l.drop a).take b ++ l.drop (a + b) := by
  rw [← List.drop_drop, List.take_append_drop]
theorem list5 {β : Type} {l : List β} {a b c d e : β} (hl : l.length = 5) (h0 : (l.drop 0).take 1 = [a]) (h1 : (l.drop 1).take 1 = [b]) (h2 : (l.drop 2).take 1 = [c]) (h3 : (l.drop 3).take 1 = [d]) (h4 : (l.drop 4).take 1 = [e]) : l = [a, b, c, d, e] := by
  match l, hl with
  | [x, y, z, u, v], _ => simp at h0 h1 h2 h3 h4; rw [h0, h1, h2, h3, h4]
end
end Go.Proofs.Ytadmaalhhigbeaa
