/- Slices and boxes that a drawn region makes, told apart by their types; copy of whole structs: general. -/
import Derived.Test.YtgkpbkedaddekaaO4
import Derived.Laws.IdiomCopy
import Derived.Lib.AppendZerosOnto
import Derived.Test.YtgkpbkedaddekaaO1
import Derived.Deep.Slices
import Derived.Deep.Strs
import Derived.Deep.RegionLaw
import Derived.Test.YtgkpbkedaddekaaO3
import Derived.OrdersHeld
import Derived.OrdersIn
import Derived.TacticsIn
import Derived.RangeFuncCalls
import Derived.OwnWalkIn
namespace Go.Proofs.Ytgkpbkedaddekaa
set_option linter.unusedVariables false
set_option linter.unusedSimpArgs false
open Go Go.RowKit

/-- A block that is known whole, with its type. -/
def BT (w : World) (g : Nat) (cs : List Value) (t : TypeId) : Prop := w.heap[g]? = some (.cells cs.toArray t (0, 0))
theorem BT.blk {w : World} {g : Nat} {cs : List Value} {t : TypeId} (h : BT w g cs t) : Blk w g cs := ⟨t, h⟩
theorem BT.lt {w : World} {g : Nat} {cs : List Value} {t : TypeId} (h : BT w g cs t) : g < w.heap.size := h.blk.lt
theorem BT.later {w w' : World} {g : Nat} {cs : List Value} {t : TypeId} (h : BT w g cs t) (hb : Below w.heap.size w w') : BT w' g cs t := (hb.block g h.lt).trans h
theorem BT.new (w : World) (cs : List Value) (t : TypeId) : BT (w.alloc (.cells cs.toArray t)) w.heap.size cs t := by
  show (w.heap.push _)[w.heap.size]? = _
  simp
theorem BT.set {w : World} {g : Nat} {cs : List Value} {t : TypeId} (h : BT w g cs t) (j : Nat) (v : Value) : BT (w.setCell ⟨g, j, none⟩ v) g (cs.set j v) t := by
  obtain ⟨h1, h2⟩ := Array.getElem?_eq_some_iff.1 h
  show (w.heap.modify g _)[g]? = _
  rw [Array.getElem?_eq_getElem (by rw [Array.size_modify]; exact h1), Array.getElem_modify_self, h2]
  simp
theorem BT.other {w : World} {g b : Nat} {cs : List Value} {t : TypeId} (h : BT w g cs t) (hb : b ≠ g) (vs : List Value) (o : Nat) : BT (w.setCells b o vs) g cs t := by
  induction vs generalizing o w with
  | nil => exact h
  | cons v vs ih => exact ih (w := w.setCell ⟨b, o, none⟩ v) ((Below.heap_setCell w ⟨b, o, none⟩ v g (Ne.symm hb)).trans h) (o + 1)
theorem BT.sets {w : World} {g : Nat} {cs : List Value} {t : TypeId} (h : BT w g cs t) : ∀ (vs : List Value) (o : Nat), o + vs.length ≤ cs.length → BT (w.setCells g o vs) g (cs.take o ++ vs ++ cs.drop (o + vs.length)) t := by
  intro vs
  induction vs generalizing w cs with
  | nil => intro o _; simpa [World.setCells] using h
  | cons v vs ih =>
    intro o ho
    have h1 := h.set o v
    have := ih h1 (o + 1) (by simp at ho ⊢; omega)
    show BT _ g _ t
    rw [World.setCells]
    have e := list_seg_step cs o v vs (by simpa using ho)
    rw [e] at this
    exact this
end Go.Proofs.Ytgkpbkedaddekaa

/- append(s, make([]T, k)...) onto a row of the call's own: general. -/
namespace Go.Proofs.Ytgkpbkedaddekaa
set_option linter.unusedVariables false
set_option linter.unusedSimpArgs false
open Go Go.RowKit

end Go.Proofs.Ytgkpbkedaddekaa

/- Rows of structs, whatever a struct's cells are: what lies there, and what the frame gives of such a slice. -/
namespace Go.Proofs.Ytgkpbkedaddekaa
set_option linter.unusedVariables false
open Go Go.RowKit Go.Deep Go.ChangeShapes Go.WideShapes Go.ChangeAt

section
variable {α : Type} {f : α → List Value} {sz : Nat}
/-- The cells of a list of structs, one behind the other. -/
def rws (f : α → List Value) (l : List α) : List Value := l.flatMap f
theorem rws_cons (f : α → List Value) (x : α) (l : List α) : rws f (x :: l) = f x ++ rws f l := rfl
theorem rws_one (f : α → List Value) (x : α) : rws f [x] = f x := by simp [rws]
theorem rws_append (f : α → List Value) (l m : List α) : rws f (l ++ m) = rws f l ++ rws f m := by simp [rws]
theorem rws_len : ∀ l : List α, (∀ x ∈ l, (f x).length = sz) → (rws f l).length = l.length * sz
  | [], _ => by simp [rws]
  | x :: l, h => by
    rw [rws_cons, List.length_append, rws_len l (fun y hy => h y (List.mem_cons_of_mem _ hy)), h x List.mem_cons_self, List.length_cons, Nat.succ_mul]
    omega
theorem rws_drop : ∀ (l : List α) (k : Nat), (∀ x ∈ l, (f x).length = sz) → (rws f l).drop (k * sz) = rws f (l.drop k)
  | [], k, _ => by simp [rws]
  | x :: l, 0, _ => by simp
  | x :: l, k + 1, h => by
    have hx := h x List.mem_cons_self
    rw [rws_cons, List.drop_succ_cons, ← rws_drop l k (fun y hy => h y (List.mem_cons_of_mem _ hy)), show (k + 1) * sz = (f x).length + k * sz by rw [hx, Nat.succ_mul]; omega, List.drop_length_add_append]
theorem rws_take : ∀ (l : List α) (k : Nat), (∀ x ∈ l, (f x).length = sz) → (rws f l).take (k * sz) = rws f (l.take k)
  | [], k, _ => by simp [rws]
  | x :: l, 0, _ => by simp [rws]
  | x :: l, k + 1, h => by
    have hx := h x List.mem_cons_self
    rw [rws_cons, List.take_succ_cons, rws_cons, ← rws_take l k (fun y hy => h y (List.mem_cons_of_mem _ hy)), show (k + 1) * sz = (f x).length + k * sz by rw [hx, Nat.succ_mul]; omega, List.take_length_add_append]
theorem rws_at (l : List α) (hf : ∀ x ∈ l, (f x).length = sz) (k : Nat) (hk : k < l.length) (j : Nat) (v : Value) (hj : (f l[k])[j]? = some v) : (rws f l)[k * sz + j]? = some v := by
  have h1 : ((rws f l).drop (k * sz))[j]? = some v := by
    rw [rws_drop l k hf, List.drop_eq_getElem_cons hk, rws_cons]
    rw [List.getElem?_append_left (List.getElem?_eq_some_iff.1 hj).1]
    exact hj
  rw [List.getElem?_drop] at h1
  exact h1
theorem rws_mem {l : List α} {v : Value} (h : v ∈ rws f l) : ∃ x ∈ l, v ∈ f x := by
  simpa [rws] using h
theorem rws_all {l : List α} {P : Value → Prop} (h : ∀ x ∈ l, ∀ u ∈ f x, P u) : ∀ u ∈ rws f l, P u := fun u hu => by
  obtain ⟨x, hx, hu⟩ := rws_mem hu
  exact h x hx u hu
/-- An element of a row that is seen. -/
theorem sees_rw {w : World} {B : Nat} {A : Option Addr} {l : List α} (hf : ∀ x ∈ l, (f x).length = sz) (hs : Sees w B A (rws f l)) (hz : 0 < sz) (k : Nat) (hk : k < l.length) :
    ∃ b o, A = some ⟨b, o, none⟩ ∧ b < B ∧ w.rangeAt b (o + k * sz) (f l[k]) := by
  obtain ⟨b, o, e, hb, hc⟩ := hs (by rw [rws_len l hf]; exact Nat.mul_pos (by omega) hz)
  refine ⟨b, o, e, hb, fun j v hj => ?_⟩
  have h1 := rws_at l hf k hk j v hj
  obtain ⟨h2, h3⟩ := List.getElem?_eq_some_iff.1 h1
  have := hc (k * sz + j) h2
  rw [h3] at this
  rw [Nat.add_assoc]
  exact this
end

section
variable {H : Type} {enc : TypeId × Value → H} {W : World} {P : Program} {α : Type} [Inhabited α]
/-- What the frame gives of a slice of structs. -/
theorem open_rows {f : α → List Value} {sz : Nat} {ok : α → Prop} {t et : TypeId} (ht : P.underlying t = some (.slice et)) (hC : P.cellsOf et = sz) (hz : 0 < sz) (hf : ∀ z, ok z → (f z).length = sz)
    (hel : ∀ (n : Nat) (cs : List Value) (x : DataW H × List MemPlace), DataW.trod enc P W 0 (fun _ => true) true n et cs = some x → ∃ z, cs = f z ∧ ok z)
    {r : Reach} {base : Nat} {v : Value} {d : DataW H} {ps : List MemPlace}
    (hv : Value.okWide P W r base t v) (h : DataW.Trod enc P W 0 (fun _ => true) true t v d ps) :
    ∃ A n c, ∃ l : List α, v = .slice A n c ∧ n ≤ c ∧ c ≤ maxLen ∧ l.length = n ∧ (∀ z ∈ l, ok z) ∧ Sees W W.heap.size A (rws f l) := by
  obtain ⟨A, n, c, rfl⟩ := okWide_slice ht hv
  obtain ⟨fuel, hf0⟩ := h
  have hlt := DataW.trod_lt fuel _ _ _ hf0
  rcases open_slice ht hf0 with ⟨hcs, hx⟩ | ⟨x, n, c, m, fu, D, Pl, hcs, hb, hl, hm, hmm, hx, hcell⟩
  · simp [Value.cells] at hcs
    obtain ⟨rfl, rfl, rfl⟩ := hcs
    exact ⟨none, 0, 0, [], rfl, Nat.le_refl _, by simp [maxLen], rfl, by simp, Sees.nil_⟩
  · simp [Value.cells] at hcs
    obtain ⟨rfl, rfl, rfl⟩ := hcs
    simp only [if_true] at hmm
    subst hmm
    have each : ∀ i, i < n → ∃ z : α, (∀ j u, (f z)[j]? = some u → W.cell? (x.add (i * sz + j)) = some u) ∧ ok z := fun i hi => by
      obtain ⟨cs', h1, h2⟩ := hcell i (by omega)
      obtain ⟨z, rfl, okz⟩ := hel _ _ _ h2
      refine ⟨z, fun j u hj => ?_, okz⟩
      rw [hC] at h1
      obtain ⟨_, hlen, hc⟩ := World.cells?_some h1
      have hj5 : j < sz := by
        have := (List.getElem?_eq_some_iff.1 hj).1
        rwa [hf z okz] at this
      have e1 := hc j hj5
      rw [add_add] at e1
      rw [e1, hj]
    obtain ⟨g, hg⟩ := choose_lt (α := α) each
    have hlen : ((List.range n).map g).length = n := by simp
    have hok : ∀ z ∈ (List.range n).map g, ok z := fun z hz => by
      obtain ⟨i, hi, rfl⟩ := List.mem_map.1 hz
      exact (hg i (List.mem_range.1 hi)).2
    have hsz : ∀ z ∈ (List.range n).map g, (f z).length = sz := fun z hz => hf z (hok z hz)
    have hrl := rws_len _ hsz
    refine ⟨some x, n, m, (List.range n).map g, rfl, hl, hm, hlen, hok, fun hpos => ?_⟩
    rw [hrl, hlen] at hpos
    have hn0 : 0 < n := by
      rcases Nat.eq_zero_or_pos n with h0 | h0
      · rw [h0, Nat.zero_mul] at hpos; omega
      · exact h0
    have hfz : ∀ i (hi : i < n), (f (g i)).length = sz := fun i hi => hf _ (hg i hi).2
    have h0 := (hg 0 hn0).1 0 _ (List.getElem?_eq_getElem (by rw [hfz 0 hn0]; exact hz))
    obtain ⟨b, off, spot⟩ := x
    have hspot : spot = none := by simpa [Addr.add] using World.cell?_spot h0
    subst hspot
    refine ⟨b, off, rfl, ?_, fun j hj => ?_⟩
    · simp only [Prod.mk.injEq] at hx
      obtain ⟨_, rfl⟩ := hx
      have := hlt (.cell b off) (by simp [MemPlace.row, hC]; exact .inl (Nat.mul_pos (Nat.lt_of_lt_of_le hn0 hl) hz))
      simpa [MemPlace.block] using this
    · have hj2 := hj
      rw [hrl, hlen] at hj2
      have hjd : j / sz < n := Nat.div_lt_of_lt_mul (by rw [Nat.mul_comm]; exact hj2)
      have hjm : j % sz < sz := Nat.mod_lt _ hz
      have hjs : j / sz * sz + j % sz = j := by rw [Nat.mul_comm]; exact Nat.div_add_mod j sz
      have hk : j / sz < ((List.range n).map g).length := by rw [hlen]; exact hjd
      have e3 : ((List.range n).map g)[j / sz] = g (j / sz) := by simp
      have hjz : j % sz < (f (g (j / sz))).length := by rw [hfz _ hjd]; exact hjm
      have h3 : (f ((List.range n).map g)[j / sz])[j % sz]? = some ((f (g (j / sz)))[j % sz]'hjz) := by
        rw [e3]
        exact List.getElem?_eq_getElem hjz
      have h4 := rws_at _ hsz (j / sz) hk (j % sz) _ h3
      rw [hjs, List.getElem?_eq_getElem hj] at h4
      have h5 := (hg (j / sz) hjd).1 (j % sz) _ (List.getElem?_eq_getElem hjz)
      rw [hjs, add_at] at h5
      rw [h5]
      exact h4.symm
end
end Go.Proofs.Ytgkpbkedaddekaa

/- Rows of structs that a call owns: a store of a whole struct into one. -/
namespace Go.Proofs.Ytgkpbkedaddekaa
set_option linter.unusedVariables false
open Go Go.RowKit

theorem heap_set1 {w : World} {g : Nat} {t : TypeId} {cs : List Value} (h : w.heap[g]? = some (.cells cs.toArray t (0, 0))) (j : Nat) (v : Value) : (w.setCell ⟨g, j, none⟩ v).heap[g]? = some (.cells (cs.set j v).toArray t (0, 0)) := by
  have hlt := (Array.getElem?_eq_some_iff.1 h).1
  obtain ⟨h1, h2⟩ := Array.getElem?_eq_some_iff.1 h
  show (w.heap.modify g _)[g]? = _
  rw [Array.getElem?_eq_getElem (by rw [Array.size_modify]; exact hlt), Array.getElem_modify_self, h2]
  simp
theorem heap_sets {t : TypeId} {g : Nat} : ∀ (vs : List Value) (o : Nat) {w : World} {cs : List Value}, w.heap[g]? = some (.cells cs.toArray t (0, 0)) → o + vs.length ≤ cs.length →
    (w.setCells g o vs).heap[g]? = some (.cells (cs.take o ++ vs ++ cs.drop (o + vs.length)).toArray t (0, 0))
  | [], o, w, cs, h, ho => by
    show w.heap[g]? = _
    rw [h]; simp
  | v :: vs, o, w, cs, h, ho => by
    simp only [List.length_cons] at ho
    have h2 := heap_sets vs (o + 1) (heap_set1 h o v) (by simp; omega)
    have e : (cs.set o v).take (o + 1) ++ vs ++ (cs.set o v).drop (o + 1 + vs.length) = cs.take o ++ (v :: vs) ++ cs.drop (o + (v :: vs).length) := by
      rw [List.take_succ_eq_append_getElem (by simp; omega), List.take_set_of_le (Nat.le_refl o), List.getElem_set_self, List.drop_set_of_lt (by omega)]
      simp [Nat.add_comm, Nat.add_left_comm]
    rw [e] at h2
    exact h2
theorem row_sets {α : Type} {f : α → List Value} {sz : Nat} {w : World} {base g n c : Nat} {e : TypeId} {l : List α} (hf : ∀ x ∈ l, (f x).length = sz) (h : w.ownsRow base e sz (.slice (some ⟨g, 0, none⟩) n c) n (rws f l)) (hn : l.length = n)
    (k : Nat) (hk : k < n) (x : α) (hx : (f x).length = sz) :
    (w.setCells g (k * sz) (f x)).ownsRow base e sz (.slice (some ⟨g, 0, none⟩) n c) n (rws f (l.set k x)) ∧ w.there g (k * sz) sz ∧ base ≤ g := by
  obtain ⟨h1, h2 | ⟨g', cap, cur, e1, e2, e3, e4, e5, e6, e7⟩⟩ := h
  · exact absurd h2.1 (by simp)
  · injection e1 with ea eb ec
    injection ea with ea
    injection ea with ea
    subst ea
    subst ec
    have hks : k * sz + sz ≤ n * sz := by rw [← Nat.succ_mul]; exact Nat.mul_le_mul_right _ hk
    have hncs : n * sz ≤ c * sz := Nat.mul_le_mul_right _ e4
    have hcl : cur.toList.length = c * sz := by rw [Array.length_toList]; exact e6
    have hrl := rws_len l hf
    rw [hn] at hrl
    have h3 : w.heap[g]? = some (.cells cur.toList.toArray e (0, 0)) := by rw [e3]
    have h4 := heap_sets (f x) (k * sz) h3 (by rw [hx, hcl]; omega)
    have hB : Blk w g cur.toList := ⟨e, h3⟩
    refine ⟨?_, hB.there _ _ (by rw [hcl]; omega), e2⟩
    have hfs : ∀ y ∈ l.set k x, (f y).length = sz := fun y hy => by
      rcases List.mem_or_eq_of_mem_set hy with h | h
      · exact hf y h
      · rw [h]; exact hx
    have hset : l.set k x = l.take k ++ x :: l.drop (k + 1) := by rw [List.set_eq_take_append_cons_drop, if_pos (by omega)]
    have hcur : cur.toList = rws f l ++ cur.toList.drop (n * sz) := by
      rw [← e7, List.take_append_drop]
    have t1 : cur.toList.take (k * sz) = rws f (l.take k) := by
      rw [hcur, List.take_append_of_le_length (by rw [hrl]; omega), rws_take l k hf]
    have t2 : cur.toList.drop (k * sz + (f x).length) = rws f (l.drop (k + 1)) ++ cur.toList.drop (n * sz) := by
      rw [hx, show k * sz + sz = (k + 1) * sz by rw [Nat.succ_mul]]
      conv => lhs; rw [hcur]
      rw [List.drop_append_of_le_length (by rw [hrl, Nat.succ_mul]; omega), rws_drop l (k + 1) hf]
    refine ⟨by rw [rws_len _ hfs, List.length_set, hn], .inr ⟨g, c, _, rfl, e2, h4, e4, e5, ?_, ?_⟩⟩
    · rw [List.size_toArray, List.length_append, List.length_append, List.length_take, List.length_drop, hcl, hx]
      omega
    · have e9 : (cur.toList.take (k * sz) ++ f x ++ cur.toList.drop (k * sz + (f x).length)) = rws f (l.set k x) ++ cur.toList.drop (n * sz) := by
        rw [t1, t2, hset, rws_append, rws_cons]
        simp only [List.append_assoc]
      rw [List.toList_toArray, e9, List.take_append_of_le_length (by rw [rws_len _ hfs, List.length_set, hn]; exact Nat.le_refl _), List.take_of_length_le (by rw [rws_len _ hfs, List.length_set, hn]; exact Nat.le_refl _)]
end Go.Proofs.Ytgkpbkedaddekaa

/- General: copy of elements of any size between any places, append of zero elements onto a new row, steps by an operation's run. -/
namespace Go.Proofs.Ytgkpbkedaddekaa
set_option linter.unusedVariables false
set_option linter.unusedSimpArgs false
open Go Go.RowKit

theorem wpList_execx {P : Program} {ops : Array Oper} {rest : List Oper} {op : Oper} {a : Act} {w w' : World} {Q : Exit → Act → World → Prop} (hw : Region.wanted op (yielded ops a.tmps) = true) (v : Value) (he : (execOp a.eval op).run P w = .ok (.value v) w')
    (h : wpList P ops Q rest (a.put op.dst v) w') : wpList P ops Q (op :: rest) a w :=
  wpList_step fun K hK => by
    rw [if_pos hw]
    unfold Oper.wp
    rw [he]
    exact hK _ _ h
end Go.Proofs.Ytgkpbkedaddekaa

/- A region that draws its order, whose first operations turn memory, and whose others wait for them: the first by all their orders, the others walked once. -/
namespace Go.Proofs.Ytgkpbkedaddekaa
set_option linter.unusedVariables false
open Go Go.RowKit

section
variable {P : Program} {ops : Array Oper} {md : Region.Mode} {Q : Exit → Act → World → Prop}
end
end Go.Proofs.Ytgkpbkedaddekaa

/- Steps of a drawn region that writes memory that was there: values taken ahead, an operation by its run, append, a store: general. -/
namespace Go.Proofs.Ytgkpbkedaddekaa
set_option linter.unusedVariables false
set_option linter.unusedSimpArgs false
open Go Go.RowKit

section
variable {P : Program} {md : Region.Mode} {ops : Array Oper} {Q : Exit → Act → World → Prop} {S : World → Prop} {i : Nat} {oi : Oper} {v : Value} {fuel : Nat} {listed : Array Bool} {a : Act} {w : World}
theorem takeH (d : Option Tmp) (hi : ops[i]? = some oi) (hd : oi.dst = d) (hs : Region.noSelect ops = true) (hf : Region.free md ops listed i = true) (hr : (Region.ready md ops listed).contains i = true)
    (hQ : ∀ c a w, Q (.panic c) (a.put oi.dst v) w → Q (.panic c) a w) (hy : YieldsIf P ops S oi v a) (hS : S w)
    (h : Go.wpAnyH P md ops Q S fuel (listed.setIfInBounds i true) (a.put d v) w) : Go.wpAnyH P md ops Q S (fuel + 1) listed a w := by
  subst hd
  exact wpAnyH_take hi hs hf hr hQ hy hS h
theorem allH (rs : List Nat) (k : Nat) (hr : Region.ready md ops listed = [k])
    (h : wpOp P ops Q k (fun a' w' => S w' ∧ Go.wpAnyH P md ops Q S fuel (listed.setIfInBounds k true) a' w') a w) : Go.wpAnyH P md ops Q S (fuel + 1) listed a w :=
  wpAnyH_all hr (by simp) (fun i hi => by
    simp only [List.mem_singleton] at hi
    subst hi
    exact h)
theorem runH {K : Act → World → Prop} {w' : World} (d : Option Tmp) (o : Oper) (ho : ops[i]? = some o) (hd : o.dst = d) (hw : Region.wanted o (yielded ops a.tmps) = true) (v : Value)
    (he : (execOp a.eval o).run P w = .ok (.value v) w') (h : K (a.put d v) w') : wpOp P ops Q i K a w := by
  subst hd
  unfold wpOp
  simp only [ho, hw, if_true]
  left
  unfold Oper.wp
  rw [he]
  exact h
theorem appH {K : Act → World → Prop} (d : Option Tmp) (o : Oper) (hoi : ops[i]? = some o) (hd : o.dst = d) (hw : Region.wanted o (yielded ops a.tmps) = true) (s x : Operand) (t : TypeId)
    (ho : o.op = .call { callee := .builtin .append, args := #[s, x], argTypes := #[t, t] })
    (base : Nat) (e : TypeId) (it : TypeInfo) (z : Value) (size bytes : Nat) (ht : P.underlying t = some (.slice e)) (hi : P.info? e = some it) (hz : it.zero = some z)
    (hsize : it.size = size) (hby : it.bytes = bytes) (hzs : z.cells.size = size) (hpos : 0 < size) (v : Value) (n : Nat) (xs : List Value) (hv : a.eval s = v) (hown : w.ownsRow base e size v n xs)
    (B : Nat) (A : Option Addr) (c : Nat) (news : List Value) (m : Nat) (hx : a.eval x = .slice A m c) (hn : news.length = m * size) (hs : Sees w B A news) (h1 : ∀ u ∈ news, u.oneCell' = true)
    (h63 : n + m ≤ maxLen) (hbytes : (n + m) * bytes ≤ 140737488355328) (hbase : base ≤ w.heap.size)
    (h : ∀ A' c' w', w'.ownsRow base e size (.slice A' (n + m) c') (n + m) (xs ++ news) → Below base w w' → w.grownBy w' v.ownBlock →
      ((Value.slice A' (n + m) c').ownBlock = v.ownBlock ∨ (Value.slice A' (n + m) c').ownBlock = some w.heap.size) →
      K (a.put d (.slice A' (n + m) c')) w') : wpOp P ops Q i K a w := by
  subst hd
  obtain ⟨A', c', w', hrun, h2, h3, h4⟩ := run_appk (P := P) w base t o.type e it z size bytes ht hi hz hsize hby hzs hpos v n xs hown B A m c news hn hs h1 h63 hbytes hbase
  unfold wpOp
  simp only [hoi, hw, if_true]
  left
  unfold Oper.wp execOp
  simp only [ho, resolve, invoke, builtin, Sem.run_bind, Sem.run_pure, Result.andThen_ok, List.map_toArray, List.map_cons, List.map_nil, hv, hx, hrun]
  exact h A' c' w' h2 ((Below.refl _ _).grown h3 hbase (fun k hk => (hown.lt k hk).1)) h3 h4
theorem store1H {K : Act → World → Prop} (o : Oper) (ho : ops[i]? = some o) (hd : o.dst = none) (hw : Region.wanted o (yielded ops a.tmps) = true) (ty : TypeId) (x y : Operand) (hop : o.op = .store ty x y)
    (b off : Nat) (u v : Value) (hx : a.eval x = .pointer (some ⟨b, off, none⟩)) (hy : a.eval y = v) (hag : ∀ w, (sizeOf ty).run P w = .ok 1 w) (hna : ∀ cs, v ≠ .agg cs) (hv : v.oneCell' = true) (cz : w.cell? ⟨b, off, none⟩ = some u) (fz : w.frozen? ⟨b, off, none⟩ = false)
    (h : K a (w.setCell ⟨b, off, none⟩ v)) : wpOp P ops Q i K a w := by
  unfold wpOp
  simp only [ho, hw, if_true]
  left
  unfold Oper.wp execOp
  generalize a.eval = ρ at hx hy
  have hm : (match v with | .agg cs => cs | v => #[v]) = #[v] := by
    cases v <;> first | rfl | exact absurd rfl (hna _)
  simp only [hop, hx, hy]
  simp [go_sem, hag, hm, cz, fz, hv]
  rw [run_store P w _ v .plain hv, cz]
  simp only [fz, Bool.false_eq_true, if_false, Result.andThen_ok]
  simp only [Oper.upon]
  rw [hd]
  exact h
end
end Go.Proofs.Ytgkpbkedaddekaa

/- A drawn region inside a fence (the round of a range over a function): walked once, as Steady and Tail do outside. -/
namespace Go.Proofs.Ytgkpbkedaddekaa
open Go Go.RowKit

section
variable {P : Program} {ops : Array Oper} {md : Region.Mode} {G : Tmp → Option Rel} {w0 : World} {n : Nat} {L : Array Bool → Act → Prop} {Qn : Act → World → Prop} {F : Fence} {m : Nat}

end

end Go.Proofs.Ytgkpbkedaddekaa

/- What each frame of this seat asks once. -/
namespace Go.Proofs.Ytgkpbkedaddekaa
theorem own : ownKnob Try.prog.godebug = none := by kernel_rfl
theorem laidOut : laidOutB Try.prog = true := by kernel_rfl
theorem boolT : Try.prog.underlying 4 = some .bool := Try.underlying4
end Go.Proofs.Ytgkpbkedaddekaa

/- Whole structs loaded and stored inside a fence: the laws of the plain walk, for a round. -/
namespace Go.Proofs.Ytgkpbkedaddekaa
set_option linter.unusedVariables false
open Go Go.RowKit

section
variable {F : Fence} {n : Nat} {P : Program} {ops : Array Oper} {rest : List Oper} {o : Oper} {a : Act} {w : World} {Q : Exit → Act → World → Prop}
end
end Go.Proofs.Ytgkpbkedaddekaa

/- Turns and their nets: mathematics. -/
namespace Go.Proofs.Ytgkpbkedaddekaa
set_option linter.unusedVariables false
set_option linter.unusedSimpArgs false
open Go Go.RowKit

/-- A card apart from where it lies. -/
abbrev Cd := Int × Int × Int × List V3
def zcd : Cd := (0, 0, 0, zeros)
/-- A turn; an item. -/
structure Tn where
  sq : Int
  id : Int
  old : Int
  nw : Int
  cd : Cd
structure Im where
  kd : Int
  cd : Cd
/-- Pairs whose keys rise. -/
abbrev KV (α : Type) := List (Int × α)
section
variable {α : Type}
def kget (m : KV α) (x : Int) : Option α := (m.find? (fun p => decide (p.1 = x))).map (·.2)
def kput : KV α → Int → α → KV α
  | [], x, v => [(x, v)]
  | p :: m, x, v => if x < p.1 then (x, v) :: p :: m else if p.1 = x then (x, v) :: m else p :: kput m x v
abbrev KRise (m : KV α) : Prop := m.Pairwise (fun p q => p.1 < q.1)
theorem kput_mem {m : KV α} {x : Int} {v : α} {q : Int × α} (h : q ∈ kput m x v) : q = (x, v) ∨ q ∈ m := by
  induction m with
  | nil => exact .inl (by simpa [kput] using h)
  | cons p m ih =>
    unfold kput at h
    split at h
    · rcases List.mem_cons.1 h with h | h
      · exact .inl h
      · exact .inr h
    · split at h
      · rcases List.mem_cons.1 h with h | h
        · exact .inl h
        · exact .inr (List.mem_cons_of_mem _ h)
      · rcases List.mem_cons.1 h with h | h
        · exact .inr (by rw [h]; exact List.mem_cons_self)
        · exact (ih h).imp id (List.mem_cons_of_mem _)
theorem KRise.put {m : KV α} (hr : KRise m) (x : Int) (v : α) : KRise (kput m x v) := by
  induction m with
  | nil => simp [kput]
  | cons p m ih =>
    obtain ⟨h1, h2⟩ := List.pairwise_cons.1 hr
    unfold kput
    split
    · rename_i hx
      refine List.pairwise_cons.2 ⟨fun q hq => ?_, hr⟩
      rcases List.mem_cons.1 hq with rfl | hq
      · exact hx
      · exact Int.lt_trans hx (h1 q hq)
    · split
      · rename_i hx he
        refine List.pairwise_cons.2 ⟨fun q hq => ?_, h2⟩
        show x < q.1
        rw [← he]
        exact h1 q hq
      · rename_i hx he
        refine List.pairwise_cons.2 ⟨fun q hq => ?_, ih h2⟩
        rcases kput_mem hq with rfl | hq
        · show p.1 < x
          omega
        · exact h1 q hq
theorem kget_put (m : KV α) (x : Int) (v : α) (y : Int) (hr : KRise m) : kget (kput m x v) y = if y = x then some v else kget m y := by
  induction m with
  | nil =>
    unfold kget kput
    by_cases h : y = x
    · subst h; simp
    · simp [h, show ¬ x = y from fun e => h e.symm]
  | cons p m ih =>
    obtain ⟨h1, h2⟩ := List.pairwise_cons.1 hr
    unfold kput
    split
    · rename_i hx
      by_cases h : y = x
      · subst h; simp [kget]
      · simp [kget, h, show ¬ x = y from fun e => h e.symm]
    · split
      · rename_i hx he
        by_cases h : y = x
        · subst h; simp [kget]
        · have hp : ¬ p.1 = y := fun e => h (by rw [← e, he])
          simp [kget, h, hp, show ¬ x = y from fun e => h e.symm]
      · rename_i hx he
        by_cases hp : p.1 = y
        · have hxy : ¬ y = x := fun e => he (by rw [hp, e])
          simp [kget, hp, hxy]
        · have := ih h2
          unfold kget at this ⊢
          simp only [List.find?_cons]
          rw [show decide (p.1 = y) = false from decide_eq_false hp]
          exact this
theorem kget_mem {m : KV α} {x : Int} {v : α} (h : kget m x = some v) : (x, v) ∈ m := by
  unfold kget at h
  obtain ⟨p, hp, rfl⟩ := Option.map_eq_some_iff.1 h
  have h1 := List.find?_some hp
  have h2 := List.mem_of_find?_eq_some hp
  have h3 : p.1 = x := of_decide_eq_true h1
  rw [← h3]
  exact h2
theorem kget_of_mem {m : KV α} {x : Int} {v : α} (hr : KRise m) (h : (x, v) ∈ m) : kget m x = some v := by
  induction m with
  | nil => cases h
  | cons p m ih =>
    obtain ⟨h1, h2⟩ := List.pairwise_cons.1 hr
    rcases List.mem_cons.1 h with h | h
    · subst h
      simp [kget]
    · have hlt := h1 _ h
      have hne : ¬ p.1 = x := fun e => by rw [e] at hlt; exact Int.lt_irrefl _ hlt
      have := ih h2 h
      unfold kget at this ⊢
      rw [List.find?_cons, show decide (p.1 = x) = false from decide_eq_false hne]
      exact this
end
/-- The first, and the last, turn of a card. -/
def firstT (l : List Tn) (i : Int) : Option Tn := l.find? (fun t => decide (t.id = i))
def lastT : List Tn → Int → Option Tn
  | [], _ => none
  | t :: l, i => match lastT l i with
    | some u => some u
    | none => if t.id = i then some t else none
/-- What turns come to, card by card: the last turn, with the first one's Old. -/
def wstep (m : KV Tn) (t : Tn) : KV Tn := kput m t.id (match kget m t.id with | some f => { t with old := f.old } | none => t)
def wmap (l : List Tn) : KV Tn := l.foldl wstep []
def whole (l : List Tn) (i : Int) : Option Tn := match firstT l i, lastT l i with | some f, some t => some { t with old := f.old } | _, _ => none
/-- The item of a turn; the net of turns, by the program. -/
def itm (t : Tn) : Im := if t.old = 0 then ⟨1, t.cd⟩ else if t.nw = 0 then ⟨2, (t.id, 0, 0, zeros)⟩ else ⟨3, t.cd⟩
def pick (p : Int × Tn) : Option Im := if p.2.old = p.2.nw then none else some (itm p.2)
def net (l : List Tn) : List Im := (wmap l).filterMap pick
end Go.Proofs.Ytgkpbkedaddekaa

/- Turns and their nets, by the document: mathematics. -/
namespace Go.Proofs.Ytgkpbkedaddekaa
set_option linter.unusedVariables false
set_option linter.unusedSimpArgs false
open Go Go.RowKit

/-- A turn's card has its number, where it is shown. -/
def okTn (t : Tn) : Prop := t.nw ≠ 0 → t.cd.1 = t.id
/-- The document's: card by card in the order of the first turns. -/
def firstAt (l : List Tn) (k : Nat) : Prop := ∀ j, j < k → ∀ (hj : j < l.length) (hk : k < l.length), l[j].id ≠ l[k].id
noncomputable instance (l : List Tn) (k : Nat) : Decidable (firstAt l k) := Classical.propDecidable _
end Go.Proofs.Ytgkpbkedaddekaa

/- Items that are applied; nets one behind the other: mathematics. -/
namespace Go.Proofs.Ytgkpbkedaddekaa
set_option linter.unusedVariables false
set_option linter.unusedSimpArgs false
open Go Go.RowKit

section
variable {α : Type}
def kdel (m : KV α) (x : Int) : KV α := m.filter (fun p => !decide (p.1 = x))
theorem KRise.del {m : KV α} (hr : KRise m) (x : Int) : KRise (kdel m x) := hr.filter _
theorem kget_del (m : KV α) (x y : Int) : kget (kdel m x) y = if y = x then none else kget m y := by
  induction m with
  | nil => simp [kget, kdel]
  | cons p m ih =>
    unfold kget kdel at ih ⊢
    rw [List.filter_cons]
    by_cases hp : p.1 = x
    · rw [decide_eq_true hp]
      simp only [Bool.not_true, Bool.false_eq_true, if_false]
      rw [ih]
      by_cases h : y = x
      · rw [if_pos h, if_pos h]
      · rw [if_neg h, if_neg h, List.find?_cons, show decide (p.1 = y) = false from decide_eq_false (fun e => h (by rw [← e, hp]))]
    · rw [decide_eq_false hp]
      simp only [Bool.not_false, if_true]
      rw [List.find?_cons]
      by_cases h2 : p.1 = y
      · rw [decide_eq_true h2]
        simp only
        rw [if_neg (fun e => hp (by rw [h2, e])), List.find?_cons, decide_eq_true h2]
      · rw [decide_eq_false h2]
        simp only
        rw [ih, List.find?_cons, decide_eq_false h2]
end
/-- Turns that may be, and go on; cards that fit them. -/
def okT2 (t : Tn) : Prop := t.nw ≠ 0 → t.cd.1 = t.id ∧ t.cd.2.1 = t.nw
def shown (m : KV Cd) : Prop := ∀ i c, kget m i = some c → c.2.1 ≠ 0
theorem okT2.ok {t : Tn} (h : okT2 t) : okTn t := fun hn => (h hn).1
end Go.Proofs.Ytgkpbkedaddekaa

/- Items that are applied, by the document: mathematics. -/
namespace Go.Proofs.Ytgkpbkedaddekaa
set_option linter.unusedVariables false
set_option linter.unusedSimpArgs false
open Go Go.RowKit

/-- Cards by rising numbers, as pairs. -/
def toKV (cs : List Cd) : KV Cd := cs.map fun c => (c.1, c)
abbrev CRise (cs : List Cd) : Prop := cs.Pairwise (fun c d => c.1 < d.1)
theorem toKV_rise {cs : List Cd} (h : CRise cs) : KRise (toKV cs) := by
  unfold toKV
  exact List.pairwise_map.2 h
theorem kput_end {α : Type} : ∀ {m : KV α} {x : Int} {v : α}, (∀ p ∈ m, p.1 < x) → kput m x v = m ++ [(x, v)]
  | [], x, v, _ => rfl
  | p :: m, x, v, h => by
    have h1 := h p List.mem_cons_self
    unfold kput
    rw [if_neg (by omega), if_neg (by omega), kput_end (fun q hq => h q (List.mem_cons_of_mem _ hq))]
    rfl
def cpos (cs : List Cd) (k : Int) : Nat := (cs.takeWhile (fun c => decide (c.1 < k))).length
def cthere (cs : List Cd) (k : Int) : Bool := match cs[cpos cs k]? with | some c => decide (c.1 = k) | none => false
theorem cpos_cons (c : Cd) (cs : List Cd) (k : Int) : cpos (c :: cs) k = if c.1 < k then cpos cs k + 1 else 0 := by
  unfold cpos
  rw [List.takeWhile_cons]
  by_cases h : c.1 < k
  · rw [decide_eq_true h, if_pos h]; rfl
  · rw [decide_eq_false h, if_neg h]; rfl
theorem kget_low {α : Type} {m : KV α} {k : Int} (h : ∀ p ∈ m, k < p.1) : kget m k = none := by
  unfold kget
  rw [List.find?_eq_none.2 (fun p hp => by have := h p hp; simp; omega)]
  rfl
theorem kput_low {α : Type} {m : KV α} {k : Int} {v : α} (h : ∀ p ∈ m, k < p.1) : kput m k v = (k, v) :: m := by
  cases m with
  | nil => rfl
  | cons p m =>
    unfold kput
    rw [if_pos (h p List.mem_cons_self)]
theorem kdel_low {α : Type} {m : KV α} {k : Int} (h : ∀ p ∈ m, k < p.1) : kdel m k = m := by
  unfold kdel
  rw [List.filter_eq_self]
  intro p hp
  have := h p hp
  simp
  omega
theorem low_toKV {cs : List Cd} {c : Cd} (h : ∀ d ∈ cs, c.1 < d.1) : ∀ p ∈ toKV cs, c.1 < p.1 := fun p hp => by
  obtain ⟨d, hd, rfl⟩ := List.mem_map.1 hp
  exact h d hd
/-- What is there, at its place. -/
theorem cards_at (k : Int) (v : Cd) (hv : v.1 = k) : ∀ {cs : List Cd}, CRise cs →
    (kget (toKV cs) k).isSome = cthere cs k ∧
    (cthere cs k = false → toKV (cs.take (cpos cs k) ++ v :: cs.drop (cpos cs k)) = kput (toKV cs) k v) ∧
    (cthere cs k = true → toKV (cs.take (cpos cs k) ++ v :: cs.drop (cpos cs k + 1)) = kput (toKV cs) k v ∧ toKV (cs.take (cpos cs k) ++ cs.drop (cpos cs k + 1)) = kdel (toKV cs) k)
  | [], _ => by
    refine ⟨rfl, fun _ => ?_, (fun h => by cases h)⟩
    simp [toKV, cpos, kput, hv]
  | c :: cs, h => by
    obtain ⟨h1, h2⟩ := List.pairwise_cons.1 h
    obtain ⟨i1, i2, i3⟩ := cards_at k v hv h2
    have hk : toKV (c :: cs) = (c.1, c) :: toKV cs := rfl
    by_cases hlt : c.1 < k
    · have hp : cpos (c :: cs) k = cpos cs k + 1 := by rw [cpos_cons, if_pos hlt]
      have ht : cthere (c :: cs) k = cthere cs k := by unfold cthere; rw [hp, List.getElem?_cons_succ]
      have hg : kget (toKV (c :: cs)) k = kget (toKV cs) k := by
        unfold kget
        rw [hk, List.find?_cons, show decide (((c.1, c) : Int × Cd).1 = k) = false from decide_eq_false (by show ¬ c.1 = k; omega)]
      have hpt : kput (toKV (c :: cs)) k v = (c.1, c) :: kput (toKV cs) k v := by
        rw [hk]
        show (if k < c.1 then _ else if c.1 = k then _ else _) = _
        rw [if_neg (by omega), if_neg (by omega)]
      have hdl : kdel (toKV (c :: cs)) k = (c.1, c) :: kdel (toKV cs) k := by
        unfold kdel
        rw [hk, List.filter_cons, show decide (((c.1, c) : Int × Cd).1 = k) = false from decide_eq_false (by show ¬ c.1 = k; omega)]
        rfl
      rw [hg, ht, hp, hpt, hdl]
      refine ⟨i1, fun hf => ?_, fun hf => ⟨?_, ?_⟩⟩
      · rw [← i2 hf]; rfl
      · rw [← (i3 hf).1]; rfl
      · rw [← (i3 hf).2]; rfl
    · have hp : cpos (c :: cs) k = 0 := by rw [cpos_cons, if_neg hlt]
      have ht : cthere (c :: cs) k = decide (c.1 = k) := by unfold cthere; rw [hp]; rfl
      rw [ht, hp]
      by_cases he : c.1 = k
      · rw [decide_eq_true he]
        refine ⟨?_, (fun hf => by cases hf), fun _ => ⟨?_, ?_⟩⟩
        · unfold kget
          rw [hk, List.find?_cons, show decide (((c.1, c) : Int × Cd).1 = k) = true from decide_eq_true he]
          rfl
        · rw [hk]
          show toKV (v :: cs) = (if k < c.1 then _ else if c.1 = k then _ else _)
          rw [if_neg (by omega), if_pos he]
          show (v.1, v) :: toKV cs = _
          rw [hv]
        · show toKV cs = kdel (toKV (c :: cs)) k
          unfold kdel
          rw [hk, List.filter_cons, show decide (((c.1, c) : Int × Cd).1 = k) = true from decide_eq_true he]
          have := kdel_low (low_toKV h1)
          unfold kdel at this
          rw [he] at this
          simp only [Bool.not_true, Bool.false_eq_true, if_false]
          exact this.symm
      · rw [decide_eq_false he]
        have hlow : ∀ p ∈ toKV (c :: cs), k < p.1 := fun p hp => by
          rw [hk] at hp
          rcases List.mem_cons.1 hp with rfl | hp
          · show k < c.1
            omega
          · have := low_toKV h1 p hp
            omega
        refine ⟨by rw [kget_low hlow]; rfl, fun _ => ?_, (fun hf => by cases hf)⟩
        rw [kput_low hlow]
        show (v.1, v) :: toKV (c :: cs) = _
        rw [hv]
theorem crise_of {cs : List Cd} (h : KRise (toKV cs)) : CRise cs := by
  unfold toKV KRise at h
  exact (List.pairwise_map (R := fun p q : Int × Cd => p.1 < q.1) (f := fun c : Cd => (c.1, c))).1 h
end Go.Proofs.Ytgkpbkedaddekaa

/- Turns that go on; items that may be: mathematics. -/
namespace Go.Proofs.Ytgkpbkedaddekaa
set_option linter.unusedVariables false
set_option linter.unusedSimpArgs false
open Go Go.RowKit

def ckc (c : Cd) : Bool := ccheck c.1 c.2.1 c.2.2.1 c.2.2.2
/-- May a turn be? -/
def tmay (t : Tn) : Bool :=
  decide (1 ≤ t.sq ∧ t.sq ≤ 1099511627776 ∧ 1 ≤ t.id ∧ t.id < 1073741824 ∧ 0 ≤ t.old ∧ t.old ≤ 1099511627776 ∧ 0 ≤ t.nw ∧ t.nw ≤ 1099511627776 ∧ t.old ≠ t.nw) &&
  (if t.nw = 0 then decide (t.cd = zcd) else ckc t.cd && decide (t.cd.1 = t.id ∧ t.cd.2.1 = t.nw))
/-- Does a turn go on at its place? -/
def sqAt (l : List Tn) (k : Nat) : Int := match k with | 0 => 0 | k + 1 => ((l[k]?).map (·.sq)).getD 0
def goAt (l : List Tn) (k : Nat) : Bool := match l[k]? with
  | none => true
  | some t => tmay t && decide (k = 0 ∨ sqAt l k < t.sq) && (match lastT (l.take k) t.id with | some u => decide (u.nw = t.old) | none => true)
def goTo (l : List Tn) (k : Nat) : Bool := (List.range k).all (goAt l)
def goes (l : List Tn) : Bool := goTo l l.length
end Go.Proofs.Ytgkpbkedaddekaa

/- CardMerges: what a merge leaves alone: the masks. -/
namespace Go.Proofs.Ytgkpbkedaddekaa
set_option linter.unusedVariables false
open Go Go.RowKit BitM

theorem mix_getD (p : Nat → Bool) (a c : List V3) (i : Nat) (h : i < 8) : (mix p a c).getD i zv = if p i then a.getD i zv else c.getD i zv := by
  have hl : i < (mix p a c).length := by rw [mix_len]; exact h
  rw [List.getD_eq_getElem?_getD, List.getElem?_eq_getElem hl, Option.getD_some, mix_get]
end Go.Proofs.Ytgkpbkedaddekaa

/- Cards: what is wrong with a patch: what it returns. -/
namespace Go.Proofs.Ytgkpbkedaddekaa
set_option linter.unusedVariables false
open Go Go.RowKit BitM

theorem vchk_none {v : V3} (h : vchk v = true) (h0 : v.1 = 0) : v = zv := by
  obtain ⟨k, n, s⟩ := v
  simp only at h0
  subst h0
  rw [vchk_0, decide_eq_true_eq] at h
  obtain ⟨rfl, hs⟩ := h
  rw [nil_str_iff] at hs
  subst hs
  rfl
theorem vk_iff (f : List V3) (k : Nat) : vk f k = true ↔ ∀ i, i < k → vchk (f.getD i zv) = true := by
  unfold vk
  simp only [List.all_eq_true, List.mem_range]
theorem fok_iff (x : BitVec 32) (f : List V3) (k : Nat) : fok x f k = true ↔ ∀ i, i < k → vchk (f.getD i zv) = true ∧ ((f.getD i zv).1 = 0 ∨ has x (i : Int) = true) := by
  unfold fok
  simp only [List.all_eq_true, List.mem_range, Bool.and_eq_true, Bool.or_eq_true, decide_eq_true_eq]
theorem zeros_getD (i : Nat) : zeros.getD i zv = zv := by
  unfold zeros
  rw [List.getD_eq_getElem?_getD, List.getElem?_replicate]
  split <;> rfl
theorem mix_same (x : BitVec 32) (f : List V3) (hf : f.length = 8) : mix (fun i => has x (i : Int)) f zeros = f ↔ ∀ i : Nat, i < 8 → has x (i : Int) = true ∨ f.getD i zv = zv := by
  constructor
  · intro h i hi
    have h1 := mix_getD (fun i => has x (i : Int)) f zeros i hi
    rw [h] at h1
    cases hx : has x (i : Int)
    · right
      rw [h1, hx]
      exact zeros_getD i
    · exact .inl rfl
  · intro h
    apply List.ext_getElem
    · rw [mix_len, hf]
    · intro i h1 h2
      have hi : i < 8 := by rw [hf] at h2; exact h2
      have e : f.getD i zv = f[i] := by simp [List.getD, h2]
      rw [mix_get]
      rcases h i hi with hx | hz
      · rw [hx, ← e]; rfl
      · cases hx : has x (i : Int)
        · rw [← e, hz]; exact zeros_getD i
        · rw [← e]; rfl
theorem fok_eq (x : BitVec 32) (f : List V3) (hf : f.length = 8) : fok x f 8 = (decide (mix (fun i => has x (i : Int)) f zeros = f) && vk (mix (fun i => has x (i : Int)) f zeros) 8) := by
  rw [Bool.eq_iff_iff, Bool.and_eq_true, decide_eq_true_eq]
  constructor
  · intro h
    rw [fok_iff] at h
    have hm : mix (fun i => has x (i : Int)) f zeros = f := (mix_same x f hf).2 (fun i hi => by
      rcases (h i hi).2 with h0 | hx
      · exact .inr (vchk_none (h i hi).1 h0)
      · exact .inl hx)
    refine ⟨hm, ?_⟩
    rw [hm, vk_iff]
    exact fun i hi => (h i hi).1
  · rintro ⟨hm, hv⟩
    rw [hm, vk_iff] at hv
    rw [fok_iff]
    intro i hi
    refine ⟨hv i hi, ?_⟩
    rcases (mix_same x f hf).1 hm i hi with hx | hz
    · exact .inr hx
    · exact .inl (by rw [hz]; rfl)
theorem guard_arr : Try.prog.eqGuardType Try.prog.depth 34 = false := by kernel_rfl

set_option maxRecDepth 100000 in
set_option maxHeartbeats 3200000 in
theorem pcheck_any (x : BitVec 32) (lab : Int) (f : List V3) (w : World) (hf : f.length = 8) :
    Calls Try.prog 32 #[.agg (pcells (x.toNat : Int) lab f).toArray] w fun e w' => e = .returned (.int .i64 (pchk x lab f)) ∧ Below w.heap.size w w' := by
  have HS := Lib.hid (fun wx : World => shown_any lab x f wx hf)
  have HM := Lib.hid (fun wx : World => mcheck_any x wx)
  have HFL : Hid ((fcells f).length = 24) := Lib.hid (by rw [fcells_len, hf])
  obtain ⟨l, hl⟩ : ∃ l : Int, l = (if has x 8 then lab else 0) := ⟨_, rfl⟩
  obtain ⟨sf, hsf⟩ : ∃ sf, sf = mix (fun i => has x (i : Int)) f zeros := ⟨_, rfl⟩
  have hs8 : sf.length = 8 := by rw [hsf, mix_len]
  have HSF : Hid ((fcells sf).length = 24) := Lib.hid (by rw [fcells_len, hs8])
  have HV := Lib.hid (fun wx : World => values_any sf wx hs8)
  have HE := Lib.hid (fun wx : World => eq_fields 9997 sf f hs8 hf wx)
  have hfk := fok_eq x f hf
  rw [← hl, ← hsf] at HS
  rw [← hsf] at hfk
  have hone : ∀ v ∈ fcells sf, v.oneCell' = true := fcells_one sf
  obtain ⟨R, hR⟩ : ∃ R, R = pchk x lab f := ⟨_, rfl⟩
  rw [← hR]
  have HR := Lib.hid hR
  have HFK := Lib.hid hfk
  have HLL := Lib.hid hl
  have HZ8 : Hid ((fcells zeros).toArray = #[Value.int .i64 0, .int .i64 0, .string { data := #[] }, .int .i64 0, .int .i64 0, .string { data := #[] }, .int .i64 0, .int .i64 0, .string { data := #[] }, .int .i64 0, .int .i64 0, .string { data := #[] }, .int .i64 0, .int .i64 0, .string { data := #[] }, .int .i64 0, .int .i64 0, .string { data := #[] }, .int .i64 0, .int .i64 0, .string { data := #[] }, .int .i64 0, .int .i64 0, .string { data := #[] }]) := Lib.hid rfl
  have B0 := Blk.new w (pcells (x.toNat : Int) lab f) 36
  obtain ⟨pa, hpa⟩ : ∃ pa, pa = (pcells (x.toNat : Int) lab f).toArray := ⟨_, rfl⟩
  rw [← hpa] at B0 ⊢
  have hw0 := (Below.refl w.heap.size w).alloc (Nat.le_refl _) (.cells pa 36)
  have hsz : (w.alloc (.cells pa 36)).heap.size = w.heap.size + 1 := by simp
  generalize hW : w.alloc (.cells pa 36) = W at *
  have HW := Lib.hid hW
  have HB := Lib.hid hw0
  have HSZ := Lib.hid hsz
  clear hl hsf hs8 hfk hR hpa hw0 hf hsz hW
  obtain ⟨p0, p1⟩ := B0.patch
  have RF := B0.fieldsP
  have hu8 := Try.underlying34
  have HC0 := Lib.hid B0
  have HP1 := Lib.hid p1
  have HRF := Lib.hid RF
  clear B0 p1 RF
  rw [← HW.out] at p0
  by_cases h2 : x.toNat = 0
  · have b2 : ((x.toNat : Int) == 0) = true := by rw [h2]; rfl
    have HRR : Hid (R = 11) := Lib.hid (by rw [HR.out]; unfold pchk; rw [if_pos (.inr h2)])
    clear h2
    go_enter Try.func32, Try.ntmps32
    go_wp2_with fail
    go_ret
    exact ⟨by rw [HRR.out]; rfl, by rw [HW.out]; exact HB.out⟩
  · have b2 : ((x.toNat : Int) == 0) = false := by rw [beq_eq_false_iff_ne]; omega
    by_cases h1 : x.toNat ≤ 511
    · rw [decide_eq_true h1] at HM
      have hn : ¬ (511 < x.toNat ∨ x.toNat = 0) := by omega
      have HRN : Hid (R = if 65536 ≤ lab ∨ (lab ≠ 0 ∧ has x 8 = false) then 1 else if fok x f 8 then 0 else 1) := Lib.hid (by rw [HR.out]; unfold pchk; rw [if_neg hn])
      clear h1 h2 hn
      go_enter Try.func32, Try.ntmps32
      go_wp2_with fail
      rw [HW.out]
      clear p0
      obtain ⟨p0, p1⟩ := HC0.out.patch
      refine (HM.out _).mono ?_
      rintro e w' ⟨rfl, rfl⟩
      have RF := HRF.out
      go_wp2_with (first
        | (refine wpList_load_mid rfl 34 (.tmp 17) rfl w.heap.size 2 rfl (fcells f) _ RF hu8 rfl (by rw [HFL.out]; exact info_fields) ?_))
      clear p0 p1 RF
      refine (HS.out _).mono ?_
      rintro e w1 ⟨rfl, hb⟩
      have hb1 := HB.out.trans (hb.mono HB.out.size)
      have C0 := (HC0.out.later hb).alloc (.cells (fcells zeros).toArray 34)
      have hlt : w.heap.size < w1.heap.size := (HC0.out.later hb).lt
      have A5 := Blk.new w1 (fcells zeros) 34
      have TH := A5.there 0 24 (by rw [fcells_len, zeros_len]; omega)
      have E5 := A5.whole (ds := fcells sf) (by rw [HSF.out, fcells_len, zeros_len])
      have E0 := Blk.setsOther (b := w1.heap.size) (g := w.heap.size) (by omega) (fcells sf) 0 C0
      have EB := below_sets (B := w.heap.size) (b := w1.heap.size) (by omega) (fcells sf) 0 (hb1.alloc (by omega) (.cells (fcells zeros).toArray 34))
      have RS := E5.wholeC
      have RF := E0.fieldsP
      obtain ⟨p0, p1⟩ := E0.patch
      clear p0
      rw [HZ8.out] at TH RS RF p1 EB
      have HEB := Lib.hid EB
      clear hb hb1 C0 A5 E5 E0 EB HM HS HB HC0 HP1 HRF HW HSZ
      cases hll : decide (l = lab) with
      | false =>
        have bl : (l != lab) = true := by simpa using hll
        have HRR : Hid (R = 1) := Lib.hid (by
          rw [HRN.out, if_pos]
          have h : ¬ l = lab := by simpa using hll
          rw [HLL.out] at h
          right
          cases h8 : has x 8
          · rw [h8] at h
            exact ⟨fun e => h (by rw [e]; rfl), rfl⟩
          · rw [h8] at h
            exact absurd rfl h)
        clear hll
        go_wp2_with (first
          | (refine wpList_store_mid rfl 34 (.tmp 4) (.tmp 23) rfl w1.heap.size 0 (fcells sf).toArray rfl rfl (by simpa [HSF.out] using TH) (by simpa [HSF.out] using info_fields) (all_oneCell_toArray hone) ?_))
        go_ret
        exact ⟨by rw [HRR.out]; rfl, HEB.out⟩
      | true =>
        have bl : (l != lab) = false := by simpa using hll
        have hle : l = lab := by simpa using hll
        have HN8 : Hid (¬ (lab ≠ 0 ∧ has x 8 = false)) := Lib.hid (by
          rintro ⟨h1, h2⟩
          rw [HLL.out, h2] at hle
          exact h1 hle.symm)
        have HLE := Lib.hid hle
        clear hll hle
        cases hs : decide (sf = f) with
        | false =>
          have HRR : Hid (R = 1) := Lib.hid (by rw [HRN.out, HFK.out, hs]; simp)
          rw [hs] at HE
          clear hs
          go_wp2_with (first
            | (refine wpList_store_mid rfl 34 (.tmp 4) (.tmp 23) rfl w1.heap.size 0 (fcells sf).toArray rfl rfl (by simpa [HSF.out] using TH) (by simpa [HSF.out] using info_fields) (all_oneCell_toArray hone) ?_)
            | (refine wpList_load_g (by rfl) 34 (.tmp 4) rfl w1.heap.size 0 rfl (fcells sf) _ RS hu8 rfl (by rw [HSF.out]; exact info_fields) ?_)
            | (refine wpList_load_g (by rfl) 34 (.tmp 30) rfl w.heap.size 2 rfl (fcells f) _ RF hu8 rfl (by rw [HFL.out]; exact info_fields) ?_)
            | (refine wpList_exec (by rfl) (.bool true) (exec_neq 34 _ (.tmp 29) (.tmp 31) rfl _ _ rfl rfl guard_arr false (HE.out _)) ?_))
          go_ret
          exact ⟨by rw [HRR.out]; rfl, HEB.out⟩
        | true =>
          rw [hs] at HE
          have HSS := Lib.hid hs
          clear hs
          by_cases hg : 65535 < l
          · have dg : decide (65535 < l) = true := by simpa using hg
            have HRR : Hid (R = 1) := Lib.hid (by rw [HRN.out, if_pos]; left; rw [← HLE.out]; omega)
            clear hg
            go_wp2_with (first
              | (refine wpList_store_mid rfl 34 (.tmp 4) (.tmp 23) rfl w1.heap.size 0 (fcells sf).toArray rfl rfl (by simpa [HSF.out] using TH) (by simpa [HSF.out] using info_fields) (all_oneCell_toArray hone) ?_)
              | (refine wpList_load_g (by rfl) 34 (.tmp 4) rfl w1.heap.size 0 rfl (fcells sf) _ RS hu8 rfl (by rw [HSF.out]; exact info_fields) ?_)
              | (refine wpList_load_g (by rfl) 34 (.tmp 30) rfl w.heap.size 2 rfl (fcells f) _ RF hu8 rfl (by rw [HFL.out]; exact info_fields) ?_)
              | (refine wpList_exec (by rfl) (.bool false) (exec_neq 34 _ (.tmp 29) (.tmp 31) rfl _ _ rfl rfl guard_arr true (HE.out _)) ?_))
            go_ret
            exact ⟨by rw [HRR.out]; rfl, HEB.out⟩
          · have dg : decide (65535 < l) = false := by simpa using hg
            have HRV : Hid (R = if vk sf 8 then 0 else 1) := Lib.hid (by
              rw [HRN.out, if_neg (by rw [← HLE.out]; rintro (h | h); exact hg (by omega); exact HN8.out (by rw [← HLE.out]; exact h)), HFK.out, HSS.out, Bool.true_and])
            clear hg
            cases hv : vk sf 8 with
            | false =>
              rw [hv] at HV HRV
              have HRR : Hid (R = 1) := Lib.hid (by rw [HRV.out]; rfl)
              clear hv
              go_wp2_with (first
                | (refine wpList_store_mid rfl 34 (.tmp 4) (.tmp 23) rfl w1.heap.size 0 (fcells sf).toArray rfl rfl (by simpa [HSF.out] using TH) (by simpa [HSF.out] using info_fields) (all_oneCell_toArray hone) ?_)
                | (refine wpList_load_g (by rfl) 34 (.tmp 4) rfl w1.heap.size 0 rfl (fcells sf) _ RS hu8 rfl (by rw [HSF.out]; exact info_fields) ?_)
                | (refine wpList_load_g (by rfl) 34 (.tmp 30) rfl w.heap.size 2 rfl (fcells f) _ RF hu8 rfl (by rw [HFL.out]; exact info_fields) ?_)
                | (refine wpList_exec (by rfl) (.bool false) (exec_neq 34 _ (.tmp 29) (.tmp 31) rfl _ _ rfl rfl guard_arr true (HE.out _)) ?_))
              refine (HV.out _).mono ?_
              rintro e w2 ⟨rfl, hb⟩
              have hb2 := HEB.out.trans (hb.mono HEB.out.size)
              clear TH RS RF p1 HEB hb
              go_wp2_with fail
              go_ret
              exact ⟨by rw [HRR.out]; rfl, hb2⟩
            | true =>
              rw [hv] at HV HRV
              have HRR : Hid (R = 0) := Lib.hid (by rw [HRV.out]; rfl)
              clear hv
              go_wp2_with (first
                | (refine wpList_store_mid rfl 34 (.tmp 4) (.tmp 23) rfl w1.heap.size 0 (fcells sf).toArray rfl rfl (by simpa [HSF.out] using TH) (by simpa [HSF.out] using info_fields) (all_oneCell_toArray hone) ?_)
                | (refine wpList_load_g (by rfl) 34 (.tmp 4) rfl w1.heap.size 0 rfl (fcells sf) _ RS hu8 rfl (by rw [HSF.out]; exact info_fields) ?_)
                | (refine wpList_load_g (by rfl) 34 (.tmp 30) rfl w.heap.size 2 rfl (fcells f) _ RF hu8 rfl (by rw [HFL.out]; exact info_fields) ?_)
                | (refine wpList_exec (by rfl) (.bool false) (exec_neq 34 _ (.tmp 29) (.tmp 31) rfl _ _ rfl rfl guard_arr true (HE.out _)) ?_))
              refine (HV.out _).mono ?_
              rintro e w2 ⟨rfl, hb⟩
              have hb2 := HEB.out.trans (hb.mono HEB.out.size)
              clear TH RS RF p1 HEB hb
              go_wp2_with fail
              go_ret
              exact ⟨by rw [HRR.out]; rfl, hb2⟩
    · rw [decide_eq_false h1] at HM
      have HRR : Hid (R = 11) := Lib.hid (by rw [HR.out]; unfold pchk; rw [if_pos (.inl (by omega))])
      clear h1 h2
      go_enter Try.func32, Try.ntmps32
      go_wp2_with fail
      rw [HW.out]
      refine (HM.out _).mono ?_
      rintro e w' ⟨rfl, rfl⟩
      clear p0
      go_wp2_with fail
      go_ret
      exact ⟨by rw [HRR.out]; rfl, HB.out⟩
end Go.Proofs.Ytgkpbkedaddekaa

/- Shelves: what each act does: mathematics. -/
namespace Go.Proofs.Ytgkpbkedaddekaa
set_option linter.unusedVariables false
set_option linter.unusedSimpArgs false
open Go Go.RowKit BitM

/-- A patch; a card that was deleted; a shelf. -/
structure Pa where
  ms : BitVec 32
  lb : Int
  fs : List V3
structure Dd where
  id : Int
  vr : Int
  sq : Int
structure Sh where
  nx : Int
  cs : List Cd
  dd : List Dd
def shnew : Sh := ⟨1, [], []⟩
def frs (id : Int) (p : Pa) : Cd := (id, 1, (if has p.ms 8 then p.lb else 0), mix (fun i => has p.ms (i : Int)) p.fs zeros)
def mrg (c : Cd) (p : Pa) : Cd := (c.1, nextVer c.2.1, (if has p.ms 8 then p.lb else c.2.2.1), mix (fun i => has p.ms (i : Int)) p.fs c.2.2.2)
def pbad (p : Pa) : Int := pchk p.ms p.lb p.fs
def sknown (s : Sh) (id : Int) : Bool := s.dd.any fun d => decide (d.id = id)
def safter (s : Sh) (q : Int) : Bool := decide (0 ≤ q ∧ q ≤ 1099511627776) && (match s.dd.getLast? with | some d => decide (d.sq ≤ q) | none => true)
def sgone (s : Sh) (id : Int) : Int := if sknown s id = true then 9 else 6
/-- Get: the card, and what is told. -/
def sget (s : Sh) (id : Int) : Cd × Int := match kget (toKV s.cs) id with | some c => (c, 0) | none => (zcd, sgone s id)
def sadd (s : Sh) (p : Pa) : Sh × Cd × Int :=
  if pbad p ≠ 0 then (s, zcd, pbad p) else if 48 ≤ s.cs.length ∨ 1073741824 ≤ s.nx then (s, zcd, 8)
  else ({ s with nx := s.nx + 1, cs := s.cs ++ [frs s.nx p] }, frs s.nx p, 0)
def swrite (s : Sh) (id : Int) (p : Pa) : Sh × Cd × Int :=
  if pbad p ≠ 0 then (s, zcd, pbad p) else match kget (toKV s.cs) id with
  | none => (s, zcd, sgone s id)
  | some c => if 1099511627776 ≤ c.2.1 then (s, zcd, 8)
    else ({ s with cs := s.cs.take (cpos s.cs id) ++ mrg c p :: s.cs.drop (cpos s.cs id + 1) }, mrg c p, 0)
def slast (l : List Dd) : List Dd := if 40 < l.length then l.drop 1 else l
def sdrop (s : Sh) (id q : Int) : Sh × Int := match kget (toKV s.cs) id with
  | none => (s, sgone s id)
  | some c => if safter s q = false then (s, 1)
    else ({ s with cs := s.cs.take (cpos s.cs id) ++ s.cs.drop (cpos s.cs id + 1), dd := slast (s.dd ++ [⟨id, c.2.1, q⟩]) }, 0)
def strim (s : Sh) (f : Int) : Sh := { s with dd := s.dd.filter fun d => decide (f < d.sq) }

/-- What holds of every shelf that there is. -/
structure ShOk (s : Sh) : Prop where
  lo : 1 ≤ s.nx
  hi : s.nx ≤ 1073741824
  rise : CRise s.cs
  few : s.cs.length ≤ 48
  ids : ∀ c ∈ s.cs, c.1 < s.nx
  may : ∀ c ∈ s.cs, ckc c = true
  len : ∀ c ∈ s.cs, c.2.2.2.length = 8
  dead : s.dd.length ≤ 40
theorem shnew_ok : ShOk shnew := ⟨Int.le_refl _, by decide, List.Pairwise.nil, by decide, (fun _ h => by cases h), (fun _ h => by cases h), (fun _ h => by cases h), by decide⟩

theorem vk_all {f : List V3} {k : Nat} : vk f k = true ↔ ∀ i, i < k → vchk (f.getD i zv) = true := vk_iff f k
theorem pbad_ok {p : Pa} (h : pbad p = 0) : p.lb < 65536 ∧ (p.lb = 0 ∨ has p.ms 8 = true) ∧ fok p.ms p.fs 8 = true := by
  unfold pbad pchk at h
  split at h
  · cases h
  · split at h
    · cases h
    · rename_i h1
      split at h
      · rename_i h2
        refine ⟨by omega, ?_, h2⟩
        by_cases hz : p.lb = 0
        · exact .inl hz
        · refine .inr ?_
          cases hh : has p.ms 8 with
          | true => rfl
          | false => exact absurd (.inr ⟨hz, hh⟩) h1
      · cases h
theorem vk_mix {q : Nat → Bool} {a c : List V3} (ha : ∀ i, i < 8 → vchk (a.getD i zv) = true) (hc : vk c 8 = true) : vk (mix q a c) 8 = true := by
  rw [vk_all] at *
  intro i hi
  rw [mix_getD q a c i hi]
  split
  · exact ha i hi
  · exact hc i hi
theorem vk_zeros : vk zeros 8 = true := by
  rw [vk_all]
  intro i hi
  rw [zeros_getD]
  decide
theorem ckc_frs {id : Int} {p : Pa} (hp : pbad p = 0) (h1 : 1 ≤ id) (h2 : id < 1073741824) : ckc (frs id p) = true := by
  obtain ⟨p1, p2, p3⟩ := pbad_ok hp
  unfold ckc ccheck frs
  rw [Bool.and_eq_true]
  refine ⟨decide_eq_true ⟨h1, h2, (show (1 : Int) ≤ 1 by decide), (show (1 : Int) ≤ 1099511627776 by decide), ?_⟩, vk_mix (q := fun i => has p.ms (i : Int)) (fun i hi => ((fok_iff _ _ _).1 p3 i hi).1) vk_zeros⟩
  show (if has p.ms 8 = true then p.lb else 0) < 65536
  split <;> omega
theorem ckc_mrg {c : Cd} {p : Pa} (hc : ckc c = true) (hp : pbad p = 0) : ckc (mrg c p) = true := by
  obtain ⟨p1, p2, p3⟩ := pbad_ok hp
  unfold ckc ccheck at hc
  rw [Bool.and_eq_true] at hc
  have hd := of_decide_eq_true hc.1
  unfold ckc ccheck mrg
  rw [Bool.and_eq_true]
  refine ⟨decide_eq_true ⟨hd.1, hd.2.1, ?_, ?_, ?_⟩, vk_mix (q := fun i => has p.ms (i : Int)) (fun i hi => ((fok_iff _ _ _).1 p3 i hi).1) hc.2⟩
  · show 1 ≤ nextVer c.2.1
    unfold nextVer
    split <;> omega
  · show nextVer c.2.1 ≤ _
    unfold nextVer
    split <;> omega
  · show (if has p.ms 8 = true then p.lb else c.2.2.1) < 65536
    split <;> omega
theorem ckc_lo {c : Cd} (h : ckc c = true) : 1 ≤ c.1 ∧ c.1 < 1073741824 ∧ 1 ≤ c.2.1 ∧ c.2.1 ≤ 1099511627776 ∧ c.2.2.1 < 65536 := by
  unfold ckc ccheck at h
  rw [Bool.and_eq_true] at h
  exact of_decide_eq_true h.1
theorem mrg_next {c : Cd} {p : Pa} (h : ¬ 1099511627776 ≤ c.2.1) : (mrg c p).2.1 = c.2.1 + 1 := by
  show nextVer c.2.1 = _
  unfold nextVer
  rw [if_pos (by omega)]

/-- The acts, upon the cards as pairs. -/
theorem toKV_app (a b : List Cd) : toKV (a ++ b) = toKV a ++ toKV b := List.map_append
theorem add_put {s : Sh} (h : ShOk s) (p : Pa) : toKV (s.cs ++ [frs s.nx p]) = kput (toKV s.cs) s.nx (frs s.nx p) := by
  rw [kput_end (fun q hq => by
    obtain ⟨c, hc, rfl⟩ := List.mem_map.1 hq
    exact h.ids c hc), toKV_app]
  rfl
theorem get_own {cs : List Cd} {k : Int} {c : Cd} (h : kget (toKV cs) k = some c) : c.1 = k ∧ c ∈ cs := by
  have hm := kget_mem h
  obtain ⟨d, hd, e⟩ := List.mem_map.1 hm
  have e1 : d.1 = k := congrArg (·.1) e
  have e2 : d = c := congrArg (·.2) e
  subst e2
  exact ⟨e1, hd⟩
theorem there_of {cs : List Cd} (hr : CRise cs) {k : Int} {c : Cd} (h : kget (toKV cs) k = some c) : cthere cs k = true := by
  have := (cards_at k c (get_own h).1 hr).1
  rw [h] at this
  exact this.symm
theorem write_put {cs : List Cd} (hr : CRise cs) {k : Int} {c v : Cd} (h : kget (toKV cs) k = some c) (hv : v.1 = k) : toKV (cs.take (cpos cs k) ++ v :: cs.drop (cpos cs k + 1)) = kput (toKV cs) k v :=
  ((cards_at k v hv hr).2.2 (there_of hr h)).1
theorem drop_del {cs : List Cd} (hr : CRise cs) {k : Int} {c : Cd} (h : kget (toKV cs) k = some c) : toKV (cs.take (cpos cs k) ++ cs.drop (cpos cs k + 1)) = kdel (toKV cs) k :=
  ((cards_at k c (get_own h).1 hr).2.2 (there_of hr h)).2
theorem cpos_lt {cs : List Cd} {k : Int} (h : cthere cs k = true) : ∃ c, cs[cpos cs k]? = some c ∧ c.1 = k := by
  unfold cthere at h
  split at h
  · rename_i c hc
    exact ⟨c, hc, of_decide_eq_true h⟩
  · cases h
theorem get_at {cs : List Cd} (hr : CRise cs) {n : Nat} (hn : n < cs.length) : kget (toKV cs) (cs[n]).1 = some cs[n] :=
  kget_of_mem (toKV_rise hr) (List.mem_map.2 ⟨cs[n], List.getElem_mem hn, rfl⟩)
theorem crise_end {cs : List Cd} {c : Cd} (hr : CRise cs) (h : ∀ d ∈ cs, d.1 < c.1) : CRise (cs ++ [c]) :=
  List.pairwise_append.2 ⟨hr, List.pairwise_singleton _ _, fun d hd e he => by
    rw [List.mem_singleton.1 he]
    exact h d hd⟩
theorem slast_len {l : List Dd} (h : l.length ≤ 41) : (slast l).length ≤ 40 := by
  unfold slast
  split
  · rw [List.length_drop]; omega
  · omega
theorem sadd_ok {s : Sh} (h : ShOk s) (p : Pa) : ShOk (sadd s p).1 := by
  unfold sadd
  split
  · exact h
  · rename_i hp
    split
    · exact h
    · rename_i hf
      have hp : pbad p = 0 := by omega
      have hck := ckc_frs (id := s.nx) hp h.lo (by omega)
      refine ⟨?_, ?_, crise_end h.rise h.ids, ?_, ?_, ?_, ?_, h.dead⟩
      · show 1 ≤ s.nx + 1
        have := h.lo; omega
      · show s.nx + 1 ≤ _
        omega
      · show (s.cs ++ [frs s.nx p]).length ≤ 48
        rw [List.length_append]
        show s.cs.length + 1 ≤ 48
        omega
      · intro c hc
        show c.1 < s.nx + 1
        rcases List.mem_append.1 hc with hc | hc
        · have := h.ids c hc; omega
        · rw [List.mem_singleton.1 hc]
          show s.nx < s.nx + 1
          omega
      · intro c hc
        rcases List.mem_append.1 hc with hc | hc
        · exact h.may c hc
        · rw [List.mem_singleton.1 hc]; exact hck
      · intro c hc
        rcases List.mem_append.1 hc with hc | hc
        · exact h.len c hc
        · rw [List.mem_singleton.1 hc]; exact mix_len _ _ _
theorem put_mem {cs : List Cd} {k : Nat} {v c : Cd} (h : c ∈ cs.take k ++ v :: cs.drop (k + 1)) : c = v ∨ c ∈ cs := by
  rcases List.mem_append.1 h with h | h
  · exact .inr (List.mem_of_mem_take h)
  · rcases List.mem_cons.1 h with h | h
    · exact .inl h
    · exact .inr (List.mem_of_mem_drop h)
theorem out_mem {cs : List Cd} {k : Nat} {c : Cd} (h : c ∈ cs.take k ++ cs.drop (k + 1)) : c ∈ cs := by
  rcases List.mem_append.1 h with h | h
  · exact List.mem_of_mem_take h
  · exact List.mem_of_mem_drop h
theorem swrite_ok {s : Sh} (h : ShOk s) (id : Int) (p : Pa) : ShOk (swrite s id p).1 := by
  unfold swrite
  split
  · exact h
  · rename_i hp
    have hp : pbad p = 0 := by omega
    cases hg : kget (toKV s.cs) id with
    | none => exact h
    | some c =>
      simp only
      split
      · exact h
      · obtain ⟨e, hm⟩ := get_own hg
        obtain ⟨x, hx, _⟩ := cpos_lt (there_of h.rise hg)
        have hlt := (List.getElem?_eq_some_iff.1 hx).1
        have hrise : CRise (s.cs.take (cpos s.cs id) ++ mrg c p :: s.cs.drop (cpos s.cs id + 1)) := crise_of (by
          rw [write_put h.rise hg (v := mrg c p) e]
          exact (toKV_rise h.rise).put _ _)
        refine ⟨h.lo, h.hi, hrise, ?_, ?_, ?_, ?_, h.dead⟩
        · show (s.cs.take (cpos s.cs id) ++ mrg c p :: s.cs.drop (cpos s.cs id + 1)).length ≤ 48
          have := h.few
          rw [List.length_append, List.length_cons, List.length_take, List.length_drop]
          omega
        · intro d hd
          rcases put_mem hd with rfl | hd
          · exact h.ids c hm
          · exact h.ids d hd
        · intro d hd
          rcases put_mem hd with rfl | hd
          · exact ckc_mrg (h.may c hm) hp
          · exact h.may d hd
        · intro d hd
          rcases put_mem hd with rfl | hd
          · exact mix_len _ _ _
          · exact h.len d hd
theorem sdrop_ok {s : Sh} (h : ShOk s) (id q : Int) : ShOk (sdrop s id q).1 := by
  unfold sdrop
  cases hg : kget (toKV s.cs) id with
  | none => exact h
  | some c =>
    simp only
    split
    · exact h
    · refine ⟨h.lo, h.hi, crise_of (by rw [drop_del h.rise hg]; exact (toKV_rise h.rise).del _), ?_, fun d hd => h.ids d (out_mem hd), fun d hd => h.may d (out_mem hd), fun d hd => h.len d (out_mem hd), slast_len ?_⟩
      · show (s.cs.take (cpos s.cs id) ++ s.cs.drop (cpos s.cs id + 1)).length ≤ 48
        have := h.few
        rw [List.length_append, List.length_take, List.length_drop]
        omega
      · have := h.dead
        rw [List.length_append]
        show s.dd.length + 1 ≤ 41
        omega
theorem strim_ok {s : Sh} (h : ShOk s) (f : Int) : ShOk (strim s f) :=
  ⟨h.lo, h.hi, h.rise, h.few, h.ids, h.may, h.len, Nat.le_trans (List.length_filter_le _ _) h.dead⟩

/-- No number is given twice: what is next only grows, and a new card's number was next. -/
theorem sadd_new {s : Sh} (h : ShOk s) {p : Pa} (he : (sadd s p).2.2 = 0) : (sadd s p).2.1.1 = s.nx ∧ (sadd s p).2.1.2.1 = 1 ∧ (sadd s p).1.nx = s.nx + 1 := by
  unfold sadd at *
  split at he
  · rename_i hp
    exact absurd he hp
  · split at he
    · cases he
    · rename_i h1 h2
      rw [if_neg h1, if_neg h2]
      exact ⟨rfl, rfl, rfl⟩
theorem sadd_nx (s : Sh) (p : Pa) : s.nx ≤ (sadd s p).1.nx := by
  unfold sadd
  split
  · exact Int.le_refl _
  · split
    · exact Int.le_refl _
    · show s.nx ≤ s.nx + 1
      omega
theorem swrite_nx (s : Sh) (id : Int) (p : Pa) : (swrite s id p).1.nx = s.nx := by
  unfold swrite
  split
  · rfl
  · split
    · rfl
    · split <;> rfl
theorem sdrop_nx (s : Sh) (id q : Int) : (sdrop s id q).1.nx = s.nx := by
  unfold sdrop
  split
  · rfl
  · split <;> rfl
/-- What is written: one version more. -/
theorem swrite_new {s : Sh} {id : Int} {p : Pa} (he : (swrite s id p).2.2 = 0) :
    ∃ c, sget s id = (c, 0) ∧ c.1 = id ∧ (swrite s id p).2.1 = mrg c p ∧ (mrg c p).2.1 = c.2.1 + 1 := by
  unfold swrite at *
  split at he
  · rename_i hp
    exact absurd he hp
  · rename_i hp
    cases hg : kget (toKV s.cs) id with
    | none =>
      rw [hg] at he
      simp only at he
      unfold sgone at he
      split at he <;> cases he
    | some c =>
      rw [hg] at he
      simp only at he
      split at he
      · cases he
      · rename_i hv
        refine ⟨c, ?_, (get_own hg).1, ?_, mrg_next hv⟩
        · unfold sget
          rw [hg]
        · rw [if_neg hp]
          simp only
          rw [if_neg hv]
/-- Nothing else is touched. -/
theorem sadd_get {s : Sh} (h : ShOk s) (p : Pa) {k : Int} {c : Cd} (hg : kget (toKV s.cs) k = some c) : kget (toKV (sadd s p).1.cs) k = some c := by
  unfold sadd
  split
  · exact hg
  · split
    · exact hg
    · show kget (toKV (s.cs ++ [frs s.nx p])) k = _
      rw [add_put h, kget_put _ _ _ _ (toKV_rise h.rise), if_neg ?_]
      · exact hg
      · obtain ⟨e, hm⟩ := get_own hg
        have := h.ids c hm
        omega
theorem swrite_get {s : Sh} (h : ShOk s) (id : Int) (p : Pa) {k : Int} (hk : k ≠ id) : kget (toKV (swrite s id p).1.cs) k = kget (toKV s.cs) k := by
  unfold swrite
  split
  · rfl
  · cases hg : kget (toKV s.cs) id with
    | none => rfl
    | some c =>
      simp only
      split
      · rfl
      · show kget (toKV (s.cs.take (cpos s.cs id) ++ mrg c p :: s.cs.drop (cpos s.cs id + 1))) k = _
        rw [write_put h.rise hg (v := mrg c p) (get_own hg).1, kget_put _ _ _ _ (toKV_rise h.rise), if_neg hk]
theorem sdrop_get {s : Sh} (h : ShOk s) (id q : Int) {k : Int} (hk : k ≠ id) : kget (toKV (sdrop s id q).1.cs) k = kget (toKV s.cs) k := by
  unfold sdrop
  cases hg : kget (toKV s.cs) id with
  | none => rfl
  | some c =>
    simp only
    split
    · rfl
    · show kget (toKV (s.cs.take (cpos s.cs id) ++ s.cs.drop (cpos s.cs id + 1))) k = _
      rw [drop_del h.rise hg, kget_del, if_neg hk]
end Go.Proofs.Ytgkpbkedaddekaa
