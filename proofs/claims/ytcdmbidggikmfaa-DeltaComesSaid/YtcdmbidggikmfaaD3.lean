/- Rows of structs, whatever a struct's cells are: what lies there, and what the frame gives of such a slice. -/
import Derived.Test.YtcdmbidggikmfaaD1
import Derived.Deep.Slices
import Derived.Deep.Strs
import Derived.Test.YtcdmbidggikmfaaD2
import Derived.Lib.AppendZerosOnto
import Derived.Deep.RegionLaw
import Derived.OrdersHeld
import Derived.OrdersIn
import Derived.TacticsIn
import Derived.RangeFuncCalls
import Derived.OwnWalkIn
import Derived.Maps.OwnSet
import Derived.Below
import Derived.Lib.SlKeysI
namespace Go.Proofs.Ytcdmbidggikmfaa
set_option linter.unusedVariables false
open Go Go.RowKit Go.Deep Go.ChangeShapes Go.WideShapes Go.ChangeAt

section
variable {α : Type} {f : α → List Value} {sz : Nat}
/-- The cells of a list of structs, one behind the other. -/
def rws (f : α → List Value) (l : List α) : List Value := l.flatMap f
theorem rws_cons (f : α → List Value) (x : α) (l : List α) : rws f (x :: l) = f x ++ rws f l := rfl
theorem rws_one (f : α → List Value) (x : α) : rws f [x] = f x := by simp [rws]
theorem rws_append (f : α → List Value) (l m : List α) : rws f (l ++ m) = rws f l ++ rws f m := by simp [rws]
theorem rws_len : ∀ l : List α, (∀ x ∈ l, (f x).length = sz) → (rws f l).length = l.length * sz
  | [], _ => by simp [rws]
  | x :: l, h => by
    rw [rws_cons, List.length_append, rws_len l (fun y hy => h y (List.mem_cons_of_mem _ hy)), h x List.mem_cons_self, List.length_cons, Nat.succ_mul]
    omega
theorem rws_drop : ∀ (l : List α) (k : Nat), (∀ x ∈ l, (f x).length = sz) → (rws f l).drop (k * sz) = rws f (l.drop k)
  | [], k, _ => by simp [rws]
  | x :: l, 0, _ => by simp
  | x :: l, k + 1, h => by
    have hx := h x List.mem_cons_self
    rw [rws_cons, List.drop_succ_cons, ← rws_drop l k (fun y hy => h y (List.mem_cons_of_mem _ hy)), show (k + 1) * sz = (f x).length + k * sz by rw [hx, Nat.succ_mul]; omega, List.drop_length_add_append]
theorem rws_take : ∀ (l : List α) (k : Nat), (∀ x ∈ l, (f x).length = sz) → (rws f l).take (k * sz) = rws f (l.take k)
  | [], k, _ => by simp [rws]
  | x :: l, 0, _ => by simp [rws]
  | x :: l, k + 1, h => by
    have hx := h x List.mem_cons_self
    rw [rws_cons, List.take_succ_cons, rws_cons, ← rws_take l k (fun y hy => h y (List.mem_cons_of_mem _ hy)), show (k + 1) * sz = (f x).length + k * sz by rw [hx, Nat.succ_mul]; omega, List.take_length_add_append]
theorem rws_at (l : List α) (hf : ∀ x ∈ l, (f x).length = sz) (k : Nat) (hk : k < l.length) (j : Nat) (v : Value) (hj : (f l[k])[j]? = some v) : (rws f l)[k * sz + j]? = some v := by
  have h1 : ((rws f l).drop (k * sz))[j]? = some v := by
    rw [rws_drop l k hf, List.drop_eq_getElem_cons hk, rws_cons]
    rw [List.getElem?_append_left (List.getElem?_eq_some_iff.1 hj).1]
    exact hj
  rw [List.getElem?_drop] at h1
  exact h1
theorem rws_mem {l : List α} {v : Value} (h : v ∈ rws f l) : ∃ x ∈ l, v ∈ f x := by
  simpa [rws] using h
theorem rws_all {l : List α} {P : Value → Prop} (h : ∀ x ∈ l, ∀ u ∈ f x, P u) : ∀ u ∈ rws f l, P u := fun u hu => by
  obtain ⟨x, hx, hu⟩ := rws_mem hu
  exact h x hx u hu
/-- An element of a row that is seen. -/
theorem sees_rw {w : World} {B : Nat} {A : Option Addr} {l : List α} (hf : ∀ x ∈ l, (f x).length = sz) (hs : Sees w B A (rws f l)) (hz : 0 < sz) (k : Nat) (hk : k < l.length) :
    ∃ b o, A = some ⟨b, o, none⟩ ∧ b < B ∧ w.rangeAt b (o + k * sz) (f l[k]) := by
  obtain ⟨b, o, e, hb, hc⟩ := hs (by rw [rws_len l hf]; exact Nat.mul_pos (by omega) hz)
  refine ⟨b, o, e, hb, fun j v hj => ?_⟩
  have h1 := rws_at l hf k hk j v hj
  obtain ⟨h2, h3⟩ := List.getElem?_eq_some_iff.1 h1
  have := hc (k * sz + j) h2
  rw [h3] at this
  rw [Nat.add_assoc]
  exact this
end

section
variable {H : Type} {enc : TypeId × Value → H} {W : World} {P : Program} {α : Type} [Inhabited α]
/-- What the frame gives of a slice of structs. -/
theorem open_rows {f : α → List Value} {sz : Nat} {ok : α → Prop} {t et : TypeId} (ht : P.underlying t = some (.slice et)) (hC : P.cellsOf et = sz) (hz : 0 < sz) (hf : ∀ z, ok z → (f z).length = sz)
    (hel : ∀ (n : Nat) (cs : List Value) (x : DataW H × List MemPlace), DataW.trod enc P W 0 (fun _ => true) true n et cs = some x → ∃ z, cs = f z ∧ ok z)
    {r : Reach} {base : Nat} {v : Value} {d : DataW H} {ps : List MemPlace}
    (hv : Value.okWide P W r base t v) (h : DataW.Trod enc P W 0 (fun _ => true) true t v d ps) :
    ∃ A n c, ∃ l : List α, v = .slice A n c ∧ n ≤ c ∧ c ≤ maxLen ∧ l.length = n ∧ (∀ z ∈ l, ok z) ∧ Sees W W.heap.size A (rws f l) := by
  obtain ⟨A, n, c, rfl⟩ := okWide_slice ht hv
  obtain ⟨fuel, hf0⟩ := h
  have hlt := DataW.trod_lt fuel _ _ _ hf0
  rcases open_slice ht hf0 with ⟨hcs, hx⟩ | ⟨x, n, c, m, fu, D, Pl, hcs, hb, hl, hm, hmm, hx, hcell⟩
  · simp [Value.cells] at hcs
    obtain ⟨rfl, rfl, rfl⟩ := hcs
    exact ⟨none, 0, 0, [], rfl, Nat.le_refl _, by simp [maxLen], rfl, by simp, Sees.nil_⟩
  · simp [Value.cells] at hcs
    obtain ⟨rfl, rfl, rfl⟩ := hcs
    simp only [if_true] at hmm
    subst hmm
    have each : ∀ i, i < n → ∃ z : α, (∀ j u, (f z)[j]? = some u → W.cell? (x.add (i * sz + j)) = some u) ∧ ok z := fun i hi => by
      obtain ⟨cs', h1, h2⟩ := hcell i (by omega)
      obtain ⟨z, rfl, okz⟩ := hel _ _ _ h2
      refine ⟨z, fun j u hj => ?_, okz⟩
      rw [hC] at h1
      obtain ⟨_, hlen, hc⟩ := World.cells?_some h1
      have hj5 : j < sz := by
        have := (List.getElem?_eq_some_iff.1 hj).1
        rwa [hf z okz] at this
      have e1 := hc j hj5
      rw [add_add] at e1
      rw [e1, hj]
    obtain ⟨g, hg⟩ := choose_lt (α := α) each
    have hlen : ((List.range n).map g).length = n := by simp
    have hok : ∀ z ∈ (List.range n).map g, ok z := fun z hz => by
      obtain ⟨i, hi, rfl⟩ := List.mem_map.1 hz
      exact (hg i (List.mem_range.1 hi)).2
    have hsz : ∀ z ∈ (List.range n).map g, (f z).length = sz := fun z hz => hf z (hok z hz)
    have hrl := rws_len _ hsz
    refine ⟨some x, n, m, (List.range n).map g, rfl, hl, hm, hlen, hok, fun hpos => ?_⟩
    rw [hrl, hlen] at hpos
    have hn0 : 0 < n := by
      rcases Nat.eq_zero_or_pos n with h0 | h0
      · rw [h0, Nat.zero_mul] at hpos; omega
      · exact h0
    have hfz : ∀ i (hi : i < n), (f (g i)).length = sz := fun i hi => hf _ (hg i hi).2
    have h0 := (hg 0 hn0).1 0 _ (List.getElem?_eq_getElem (by rw [hfz 0 hn0]; exact hz))
    obtain ⟨b, off, spot⟩ := x
    have hspot : spot = none := by simpa [Addr.add] using World.cell?_spot h0
    subst hspot
    refine ⟨b, off, rfl, ?_, fun j hj => ?_⟩
    · simp only [Prod.mk.injEq] at hx
      obtain ⟨_, rfl⟩ := hx
      have := hlt (.cell b off) (by simp [MemPlace.row, hC]; exact .inl (Nat.mul_pos (Nat.lt_of_lt_of_le hn0 hl) hz))
      simpa [MemPlace.block] using this
    · have hj2 := hj
      rw [hrl, hlen] at hj2
      have hjd : j / sz < n := Nat.div_lt_of_lt_mul (by rw [Nat.mul_comm]; exact hj2)
      have hjm : j % sz < sz := Nat.mod_lt _ hz
      have hjs : j / sz * sz + j % sz = j := by rw [Nat.mul_comm]; exact Nat.div_add_mod j sz
      have hk : j / sz < ((List.range n).map g).length := by rw [hlen]; exact hjd
      have e3 : ((List.range n).map g)[j / sz] = g (j / sz) := by simp
      have hjz : j % sz < (f (g (j / sz))).length := by rw [hfz _ hjd]; exact hjm
      have h3 : (f ((List.range n).map g)[j / sz])[j % sz]? = some ((f (g (j / sz)))[j % sz]'hjz) := by
        rw [e3]
        exact List.getElem?_eq_getElem hjz
      have h4 := rws_at _ hsz (j / sz) hk (j % sz) _ h3
      rw [hjs, List.getElem?_eq_getElem hj] at h4
      have h5 := (hg (j / sz) hjd).1 (j % sz) _ (List.getElem?_eq_getElem hjz)
      rw [hjs, add_at] at h5
      rw [h5]
      exact h4.symm
theorem trod_struct5 {w : World} {base : Nat} {spare : Nat → Bool} {held : Bool} {t : TypeId} {f0 f1 f2 f3 f4 : Field} {fuel : Nat} {cs : List Value} {x : DataW H × List MemPlace} (ht : P.underlying t = some (.struct #[f0, f1, f2, f3, f4])) (h : DataW.trod enc P w base spare held fuel t cs = some x) :
    ∃ y0 y1 y2 y3 y4 n, x = (.agg [y0.1, y1.1, y2.1, y3.1, y4.1], y0.2 ++ (y1.2 ++ (y2.2 ++ (y3.2 ++ y4.2)))) ∧ cs.length = P.cellsOf t ∧ DataW.trod enc P w base spare held n f0.type ((cs.drop f0.offset).take (P.cellsOf f0.type)) = some y0 ∧
      DataW.trod enc P w base spare held n f1.type ((cs.drop f1.offset).take (P.cellsOf f1.type)) = some y1 ∧ DataW.trod enc P w base spare held n f2.type ((cs.drop f2.offset).take (P.cellsOf f2.type)) = some y2 ∧
      DataW.trod enc P w base spare held n f3.type ((cs.drop f3.offset).take (P.cellsOf f3.type)) = some y3 ∧ DataW.trod enc P w base spare held n f4.type ((cs.drop f4.offset).take (P.cellsOf f4.type)) = some y4 := by
  obtain ⟨xs, n, _, rfl, hl, hlen, hf⟩ := DataW.trod_struct ht h
  match xs, hlen with
  | [y0, y1, y2, y3, y4], _ => exact ⟨y0, y1, y2, y3, y4, n, by simp, hl, by simpa using hf 0 f0 rfl, by simpa using hf 1 f1 rfl, by simpa using hf 2 f2 rfl, by simpa using hf 3 f3 rfl, by simpa using hf 4 f4 rfl⟩
end
end Go.Proofs.Ytcdmbidggikmfaa

/- Rows of structs that a call owns: a store of a whole struct into one. -/
namespace Go.Proofs.Ytcdmbidggikmfaa
set_option linter.unusedVariables false
open Go Go.RowKit

end Go.Proofs.Ytcdmbidggikmfaa

/- General: copy of elements of any size between any places, append of zero elements onto a new row, steps by an operation's run. -/
namespace Go.Proofs.Ytcdmbidggikmfaa
set_option linter.unusedVariables false
set_option linter.unusedSimpArgs false
open Go Go.RowKit

theorem wpList_execx {P : Program} {ops : Array Oper} {rest : List Oper} {op : Oper} {a : Act} {w w' : World} {Q : Exit → Act → World → Prop} (hw : Region.wanted op (yielded ops a.tmps) = true) (v : Value) (he : (execOp a.eval op).run P w = .ok (.value v) w')
    (h : wpList P ops Q rest (a.put op.dst v) w') : wpList P ops Q (op :: rest) a w :=
  wpList_step fun K hK => by
    rw [if_pos hw]
    unfold Oper.wp
    rw [he]
    exact hK _ _ h
end Go.Proofs.Ytcdmbidggikmfaa

/- A region that draws its order, whose first operations turn memory, and whose others wait for them: the first by all their orders, the others walked once. -/
namespace Go.Proofs.Ytcdmbidggikmfaa
set_option linter.unusedVariables false
open Go Go.RowKit

section
variable {P : Program} {ops : Array Oper} {md : Region.Mode} {Q : Exit → Act → World → Prop}
end
end Go.Proofs.Ytcdmbidggikmfaa

/- Steps of a drawn region that writes memory that was there: values taken ahead, an operation by its run, append, a store: general. -/
namespace Go.Proofs.Ytcdmbidggikmfaa
set_option linter.unusedVariables false
set_option linter.unusedSimpArgs false
open Go Go.RowKit

section
variable {P : Program} {md : Region.Mode} {ops : Array Oper} {Q : Exit → Act → World → Prop} {S : World → Prop} {i : Nat} {oi : Oper} {v : Value} {fuel : Nat} {listed : Array Bool} {a : Act} {w : World}
end
end Go.Proofs.Ytcdmbidggikmfaa

/- A drawn region inside a fence (the round of a range over a function): walked once, as Steady and Tail do outside. -/
namespace Go.Proofs.Ytcdmbidggikmfaa
open Go Go.RowKit

section
variable {P : Program} {ops : Array Oper} {md : Region.Mode} {G : Tmp → Option Rel} {w0 : World} {n : Nat} {L : Array Bool → Act → Prop} {Qn : Act → World → Prop} {F : Fence} {m : Nat}

end

end Go.Proofs.Ytcdmbidggikmfaa

/- What each frame of this seat asks once. -/
namespace Go.Proofs.Ytcdmbidggikmfaa
theorem own : ownKnob Try.prog.godebug = none := by kernel_rfl
theorem laidOut : laidOutB Try.prog = true := by kernel_rfl
theorem boolT : Try.prog.underlying 4 = some .bool := Try.underlying4
end Go.Proofs.Ytcdmbidggikmfaa

/- Whole structs loaded and stored inside a fence: the laws of the plain walk, for a round. -/
namespace Go.Proofs.Ytcdmbidggikmfaa
set_option linter.unusedVariables false
open Go Go.RowKit

section
variable {F : Fence} {n : Nat} {P : Program} {ops : Array Oper} {rest : List Oper} {o : Oper} {a : Act} {w : World} {Q : Exit → Act → World → Prop}
end
end Go.Proofs.Ytcdmbidggikmfaa

/- Slices of structs that are seen: what lies at each place, in all later worlds. -/
namespace Go.Proofs.Ytcdmbidggikmfaa
set_option linter.unusedVariables false
set_option linter.unusedSimpArgs false
open Go Go.RowKit BitM

structure SeesR {α : Type} (f : α → List Value) (w : World) (A : Option Addr) (n c : Nat) (l : List α) : Prop where
  len : l.length = n
  cap : n ≤ c
  max : c ≤ maxLen
  see : Sees w w.heap.size A (rws f l)
theorem SeesR.later {α : Type} {f : α → List Value} {w w' : World} {A : Option Addr} {n c : Nat} {l : List α} (h : SeesR f w A n c l) (hb : Below w.heap.size w w') : SeesR f w' A n c l :=
  ⟨h.len, h.cap, h.max, (h.see.below hb).more hb.size⟩
theorem SeesR.gets {α : Type} {f : α → List Value} {w : World} {A : Option Addr} {n c : Nat} {l : List α} (h : SeesR f w A n c l) {sz : Nat} (hf : ∀ x ∈ l, (f x).length = sz) (hz : 0 < sz) (hl : 0 < l.length) :
    ∃ b o, A = some ⟨b, o, none⟩ ∧ b < w.heap.size ∧ ∀ W, Below w.heap.size w W → ∀ k (hk : k < l.length), W.rangeAt b (o + k * sz) (f l[k]) := by
  obtain ⟨b, o, e, hb, _⟩ := sees_rw (f := f) (sz := sz) hf h.see hz 0 hl
  refine ⟨b, o, e, hb, fun W hW k hk => ?_⟩
  obtain ⟨b', o', e', _, hr⟩ := sees_rw (f := f) (sz := sz) hf ((h.later hW).see) hz k hk
  rw [e] at e'
  cases e'
  exact hr
theorem SeesR.of_row {α : Type} {f : α → List Value} {w : World} {B : Nat} {e : TypeId} {sz n c : Nat} {A : Option Addr} {l : List α} (h : w.ownsRow B e sz (.slice A n c) n (rws f l)) (hl : l.length = n) (hc : n ≤ c ∧ c ≤ maxLen) : SeesR f w A n c l :=
  ⟨hl, hc.1, hc.2, row_sees h⟩
end Go.Proofs.Ytcdmbidggikmfaa

/- Turns and their nets: mathematics. -/
namespace Go.Proofs.Ytcdmbidggikmfaa
set_option linter.unusedVariables false
set_option linter.unusedSimpArgs false
open Go Go.RowKit

/-- A card apart from where it lies. -/
abbrev Cd := Int × Int × Int × List V3
def zcd : Cd := (0, 0, 0, zeros)
/-- A turn; an item. -/
structure Tn where
  sq : Int
  id : Int
  old : Int
  nw : Int
  cd : Cd
structure Im where
  kd : Int
  cd : Cd
/-- Pairs whose keys rise. -/
abbrev KV (α : Type) := List (Int × α)
section
variable {α : Type}
def kget (m : KV α) (x : Int) : Option α := (m.find? (fun p => decide (p.1 = x))).map (·.2)
def kput : KV α → Int → α → KV α
  | [], x, v => [(x, v)]
  | p :: m, x, v => if x < p.1 then (x, v) :: p :: m else if p.1 = x then (x, v) :: m else p :: kput m x v
abbrev KRise (m : KV α) : Prop := m.Pairwise (fun p q => p.1 < q.1)
theorem kput_mem {m : KV α} {x : Int} {v : α} {q : Int × α} (h : q ∈ kput m x v) : q = (x, v) ∨ q ∈ m := by
  induction m with
  | nil => exact .inl (by simpa [kput] using h)
  | cons p m ih =>
    unfold kput at h
    split at h
    · rcases List.mem_cons.1 h with h | h
      · exact .inl h
      · exact .inr h
    · split at h
      · rcases List.mem_cons.1 h with h | h
        · exact .inl h
        · exact .inr (List.mem_cons_of_mem _ h)
      · rcases List.mem_cons.1 h with h | h
        · exact .inr (by rw [h]; exact List.mem_cons_self)
        · exact (ih h).imp id (List.mem_cons_of_mem _)
theorem KRise.put {m : KV α} (hr : KRise m) (x : Int) (v : α) : KRise (kput m x v) := by
  induction m with
  | nil => simp [kput]
  | cons p m ih =>
    obtain ⟨h1, h2⟩ := List.pairwise_cons.1 hr
    unfold kput
    split
    · rename_i hx
      refine List.pairwise_cons.2 ⟨fun q hq => ?_, hr⟩
      rcases List.mem_cons.1 hq with rfl | hq
      · exact hx
      · exact Int.lt_trans hx (h1 q hq)
    · split
      · rename_i hx he
        refine List.pairwise_cons.2 ⟨fun q hq => ?_, h2⟩
        show x < q.1
        rw [← he]
        exact h1 q hq
      · rename_i hx he
        refine List.pairwise_cons.2 ⟨fun q hq => ?_, ih h2⟩
        rcases kput_mem hq with rfl | hq
        · show p.1 < x
          omega
        · exact h1 q hq
theorem kget_put (m : KV α) (x : Int) (v : α) (y : Int) (hr : KRise m) : kget (kput m x v) y = if y = x then some v else kget m y := by
  induction m with
  | nil =>
    unfold kget kput
    by_cases h : y = x
    · subst h; simp
    · simp [h, show ¬ x = y from fun e => h e.symm]
  | cons p m ih =>
    obtain ⟨h1, h2⟩ := List.pairwise_cons.1 hr
    unfold kput
    split
    · rename_i hx
      by_cases h : y = x
      · subst h; simp [kget]
      · simp [kget, h, show ¬ x = y from fun e => h e.symm]
    · split
      · rename_i hx he
        by_cases h : y = x
        · subst h; simp [kget]
        · have hp : ¬ p.1 = y := fun e => h (by rw [← e, he])
          simp [kget, h, hp, show ¬ x = y from fun e => h e.symm]
      · rename_i hx he
        by_cases hp : p.1 = y
        · have hxy : ¬ y = x := fun e => he (by rw [hp, e])
          simp [kget, hp, hxy]
        · have := ih h2
          unfold kget at this ⊢
          simp only [List.find?_cons]
          rw [show decide (p.1 = y) = false from decide_eq_false hp]
          exact this
theorem kget_mem {m : KV α} {x : Int} {v : α} (h : kget m x = some v) : (x, v) ∈ m := by
  unfold kget at h
  obtain ⟨p, hp, rfl⟩ := Option.map_eq_some_iff.1 h
  have h1 := List.find?_some hp
  have h2 := List.mem_of_find?_eq_some hp
  have h3 : p.1 = x := of_decide_eq_true h1
  rw [← h3]
  exact h2
theorem kget_of_mem {m : KV α} {x : Int} {v : α} (hr : KRise m) (h : (x, v) ∈ m) : kget m x = some v := by
  induction m with
  | nil => cases h
  | cons p m ih =>
    obtain ⟨h1, h2⟩ := List.pairwise_cons.1 hr
    rcases List.mem_cons.1 h with h | h
    · subst h
      simp [kget]
    · have hlt := h1 _ h
      have hne : ¬ p.1 = x := fun e => by rw [e] at hlt; exact Int.lt_irrefl _ hlt
      have := ih h2 h
      unfold kget at this ⊢
      rw [List.find?_cons, show decide (p.1 = x) = false from decide_eq_false hne]
      exact this
/-- Two rising lists of the same members are one. -/
theorem rise_ext {β : Type} (f : β → Int) : ∀ {a b : List β}, a.Pairwise (fun p q => f p < f q) → b.Pairwise (fun p q => f p < f q) → (∀ x, x ∈ a ↔ x ∈ b) → a = b
  | [], [], _, _, _ => rfl
  | [], y :: b, _, _, h => absurd ((h y).2 List.mem_cons_self) (by simp)
  | x :: a, [], _, _, h => absurd ((h x).1 List.mem_cons_self) (by simp)
  | x :: a, y :: b, ha, hb, h => by
    obtain ⟨a1, a2⟩ := List.pairwise_cons.1 ha
    obtain ⟨b1, b2⟩ := List.pairwise_cons.1 hb
    have hxy : x = y := by
      rcases List.mem_cons.1 ((h x).1 List.mem_cons_self) with e | hx
      · exact e
      · rcases List.mem_cons.1 ((h y).2 List.mem_cons_self) with e | hy
        · exact e.symm
        · have := b1 x hx
          have := a1 y hy
          omega
    subst hxy
    have hab : a = b := rise_ext f a2 b2 (fun z => by
      constructor
      · intro hz
        rcases List.mem_cons.1 ((h z).1 (List.mem_cons_of_mem _ hz)) with e | e
        · rw [e] at hz
          exact absurd (a1 x hz) (Int.lt_irrefl _)
        · exact e
      · intro hz
        rcases List.mem_cons.1 ((h z).2 (List.mem_cons_of_mem _ hz)) with e | e
        · rw [e] at hz
          exact absurd (b1 x hz) (Int.lt_irrefl _)
        · exact e)
    rw [hab]
end
/-- The first, and the last, turn of a card. -/
def firstT (l : List Tn) (i : Int) : Option Tn := l.find? (fun t => decide (t.id = i))
def lastT : List Tn → Int → Option Tn
  | [], _ => none
  | t :: l, i => match lastT l i with
    | some u => some u
    | none => if t.id = i then some t else none
theorem lastT_append (a b : List Tn) (i : Int) : lastT (a ++ b) i = match lastT b i with | some u => some u | none => lastT a i := by
  induction a with
  | nil =>
    show lastT b i = _
    cases lastT b i <;> rfl
  | cons t a ih =>
    show (match lastT (a ++ b) i with | some u => some u | none => if t.id = i then some t else none) = _
    rw [ih]
    cases lastT b i with
    | some u => rfl
    | none => rfl
theorem firstT_append (a b : List Tn) (i : Int) : firstT (a ++ b) i = match firstT a i with | some u => some u | none => firstT b i := by
  unfold firstT
  rw [List.find?_append]
  cases List.find? (fun t => decide (t.id = i)) a <;> rfl
/-- What turns come to, card by card: the last turn, with the first one's Old. -/
def wstep (m : KV Tn) (t : Tn) : KV Tn := kput m t.id (match kget m t.id with | some f => { t with old := f.old } | none => t)
def wmap (l : List Tn) : KV Tn := l.foldl wstep []
def whole (l : List Tn) (i : Int) : Option Tn := match firstT l i, lastT l i with | some f, some t => some { t with old := f.old } | _, _ => none
theorem wmap_append (l : List Tn) (t : Tn) : wmap (l ++ [t]) = wstep (wmap l) t := by simp [wmap]
theorem wmap_rise (l : List Tn) : KRise (wmap l) := by
  have : ∀ (l : List Tn) (m : KV Tn), KRise m → KRise (l.foldl wstep m) := by
    intro l
    induction l with
    | nil => intro m h; exact h
    | cons t l ih => intro m h; exact ih _ (KRise.put h _ _)
  exact this l [] List.Pairwise.nil
theorem first_last (l : List Tn) (i : Int) : firstT l i = none ↔ lastT l i = none := by
  induction l with
  | nil => simp [firstT, lastT]
  | cons t l ih =>
    unfold firstT lastT
    rw [List.find?_cons]
    by_cases h : t.id = i
    · rw [decide_eq_true h]
      simp only [if_pos h]
      constructor
      · intro e; cases e
      · intro e; cases hl : lastT l i <;> rw [hl] at e <;> cases e
    · rw [decide_eq_false h]
      simp only [if_neg h]
      unfold firstT at ih
      rw [ih]
      cases hl : lastT l i <;> simp
theorem last_id : ∀ {l : List Tn} {i : Int} {t : Tn}, lastT l i = some t → t.id = i ∧ t ∈ l
  | [], _, _, h => by cases h
  | u :: l, i, t, h => by
    unfold lastT at h
    cases hl : lastT l i with
    | some v =>
      rw [hl] at h
      cases h
      exact ⟨(last_id hl).1, List.mem_cons_of_mem _ (last_id hl).2⟩
    | none =>
      rw [hl] at h
      simp only at h
      split at h
      · rename_i hu
        cases h
        exact ⟨hu, List.mem_cons_self⟩
      · cases h
theorem wmap_get (l : List Tn) (i : Int) : kget (wmap l) i = whole l i := by
  have key : ∀ (n : Nat) (l : List Tn), l.length = n → kget (wmap l) i = whole l i := by
    intro n
    induction n with
    | zero =>
      intro l hl
      have : l = [] := List.length_eq_zero_iff.1 hl
      subst this
      rfl
    | succ n ih =>
      intro l hl
      obtain ⟨a, t, rfl⟩ : ∃ a t, l = a ++ [t] := by
        have hne : l ≠ [] := by intro e; rw [e] at hl; cases hl
        exact ⟨l.dropLast, l.getLast hne, (List.dropLast_concat_getLast hne).symm⟩
      have ha : a.length = n := by rw [List.length_append] at hl; simpa using hl
      have h0 := ih a ha
      rw [wmap_append]
      unfold wstep
      rw [kget_put _ _ _ _ (wmap_rise a)]
      by_cases h : i = t.id
      · rw [if_pos h, ← h, h0]
        unfold whole
        rw [firstT_append, lastT_append]
        have hl1 : lastT [t] i = some t := by simp [lastT, h]
        have hf1 : firstT [t] i = some t := by simp [firstT, h]
        rw [hl1, hf1]
        cases hf : firstT a i with
        | none =>
          simp only
        | some f =>
          cases hla : lastT a i with
          | none => exact absurd ((first_last a i).2 hla) (by rw [hf]; simp)
          | some u => simp only [h]
      · rw [if_neg h, h0]
        unfold whole
        rw [firstT_append, lastT_append]
        have hl1 : lastT [t] i = none := by simp [lastT, show ¬ t.id = i from fun e => h e.symm]
        have hf1 : firstT [t] i = none := by simp [firstT, show ¬ t.id = i from fun e => h e.symm]
        rw [hl1, hf1]
        cases firstT a i <;> rfl
  exact key l.length l rfl
/-- The item of a turn; the net of turns, by the program. -/
def itm (t : Tn) : Im := if t.old = 0 then ⟨1, t.cd⟩ else if t.nw = 0 then ⟨2, (t.id, 0, 0, zeros)⟩ else ⟨3, t.cd⟩
def pick (p : Int × Tn) : Option Im := if p.2.old = p.2.nw then none else some (itm p.2)
def net (l : List Tn) : List Im := (wmap l).filterMap pick
theorem net_mem {l : List Tn} {x : Im} : x ∈ net l ↔ ∃ i t, whole l i = some t ∧ t.old ≠ t.nw ∧ x = itm t := by
  unfold net
  rw [List.mem_filterMap]
  constructor
  · rintro ⟨⟨i, t⟩, hm, hp⟩
    refine ⟨i, t, ?_, ?_⟩
    · rw [← wmap_get]
      exact kget_of_mem (wmap_rise l) hm
    · unfold pick at hp
      split at hp
      · cases hp
      · rename_i hne
        cases hp
        exact ⟨hne, rfl⟩
  · rintro ⟨i, t, h, hne, rfl⟩
    rw [← wmap_get] at h
    refine ⟨(i, t), kget_mem h, ?_⟩
    unfold pick
    rw [if_neg hne]
end Go.Proofs.Ytcdmbidggikmfaa

/- Turns and their nets, by the document: mathematics. -/
namespace Go.Proofs.Ytcdmbidggikmfaa
set_option linter.unusedVariables false
set_option linter.unusedSimpArgs false
open Go Go.RowKit

def rkey (x : Im) : Int := x.cd.1
abbrev IRise (L : List Im) : Prop := L.Pairwise (fun p q => rkey p < rkey q)
/-- An item at its place. -/
def rpos (L : List Im) (x : Im) : Nat := (L.takeWhile (fun y => decide (rkey y < rkey x))).length
def rput (L : List Im) (x : Im) : List Im := L.take (rpos L x) ++ x :: L.drop (rpos L x)
theorem rput_mem {L : List Im} {x y : Im} : y ∈ rput L x ↔ y = x ∨ y ∈ L := by
  unfold rput
  rw [List.mem_append, List.mem_cons]
  constructor
  · rintro (h | h | h)
    · exact .inr (List.mem_of_mem_take h)
    · exact .inl h
    · exact .inr (List.mem_of_mem_drop h)
  · rintro (h | h)
    · exact .inr (.inl h)
    · rw [← List.take_append_drop (rpos L x) L, List.mem_append] at h
      rcases h with h | h
      · exact .inl h
      · exact .inr (.inr h)
theorem rpos_cons (y : Im) (L : List Im) (x : Im) : rpos (y :: L) x = if rkey y < rkey x then rpos L x + 1 else 0 := by
  unfold rpos
  rw [List.takeWhile_cons]
  by_cases h : rkey y < rkey x
  · rw [decide_eq_true h, if_pos h]; rfl
  · rw [decide_eq_false h, if_neg h]; rfl
theorem rput_cons (y : Im) (L : List Im) (x : Im) : rput (y :: L) x = if rkey y < rkey x then y :: rput L x else x :: y :: L := by
  unfold rput
  rw [rpos_cons]
  by_cases h : rkey y < rkey x
  · rw [if_pos h, if_pos h]; rfl
  · rw [if_neg h, if_neg h]; rfl
theorem rput_rise {L : List Im} {x : Im} (hr : IRise L) (hne : ∀ y ∈ L, rkey y ≠ rkey x) : IRise (rput L x) := by
  induction L with
  | nil => simp [rput, rpos]
  | cons y L ih =>
    obtain ⟨h1, h2⟩ := List.pairwise_cons.1 hr
    rw [rput_cons]
    by_cases h : rkey y < rkey x
    · rw [if_pos h]
      refine List.pairwise_cons.2 ⟨fun z hz => ?_, ih h2 (fun z hz => hne z (List.mem_cons_of_mem _ hz))⟩
      rcases rput_mem.1 hz with rfl | hz
      · exact h
      · exact h1 z hz
    · rw [if_neg h]
      have := hne y List.mem_cons_self
      refine List.pairwise_cons.2 ⟨fun z hz => ?_, hr⟩
      rcases List.mem_cons.1 hz with rfl | hz
      · omega
      · have := h1 z hz
        omega
/-- A turn's card has its number, where it is shown. -/
def okTn (t : Tn) : Prop := t.nw ≠ 0 → t.cd.1 = t.id
theorem itm_key {t : Tn} (h : okTn t) (hne : t.old ≠ t.nw) : rkey (itm t) = t.id := by
  unfold itm
  by_cases h0 : t.old = 0
  · rw [if_pos h0]
    exact h (fun e => hne (by rw [h0, e]))
  · rw [if_neg h0]
    by_cases h1 : t.nw = 0
    · rw [if_pos h1]; rfl
    · rw [if_neg h1]
      exact h h1
theorem whole_ok {l : List Tn} (h : ∀ t ∈ l, okTn t) {i : Int} {t : Tn} (hw : whole l i = some t) : t.id = i ∧ okTn t := by
  unfold whole at hw
  cases hf : firstT l i with
  | none => rw [hf] at hw; cases hw
  | some f =>
    cases hl : lastT l i with
    | none => rw [hf, hl] at hw; cases hw
    | some u =>
      rw [hf, hl] at hw
      cases hw
      obtain ⟨h1, h2⟩ := last_id hl
      exact ⟨h1, fun hn => h u h2 hn⟩
theorem net_rise {l : List Tn} (h : ∀ t ∈ l, okTn t) : IRise (net l) := by
  unfold net
  have hw := wmap_rise l
  have hall : ∀ p ∈ wmap l, p.2.id = p.1 ∧ okTn p.2 := fun p hp => by
    have h1 := kget_of_mem (x := p.1) (v := p.2) hw hp
    rw [wmap_get] at h1
    exact whole_ok h h1
  have : ∀ (m : KV Tn), KRise m → (∀ p ∈ m, p.2.id = p.1 ∧ okTn p.2) → IRise (m.filterMap pick) := by
    intro m
    induction m with
    | nil => intro _ _; exact List.Pairwise.nil
    | cons p m ih =>
      intro hr ha
      obtain ⟨h1, h2⟩ := List.pairwise_cons.1 hr
      have ih := ih h2 (fun q hq => ha q (List.mem_cons_of_mem _ hq))
      rw [List.filterMap_cons]
      cases hp : pick p with
      | none => exact ih
      | some x =>
        refine List.pairwise_cons.2 ⟨fun y hy => ?_, ih⟩
        obtain ⟨q, hq, hpq⟩ := List.mem_filterMap.1 hy
        have kx : ∀ {p : Int × Tn} {x : Im}, pick p = some x → (p.2.id = p.1 ∧ okTn p.2) → rkey x = p.1 := fun {p x} hp ho => by
          unfold pick at hp
          split at hp
          · cases hp
          · rename_i hne
            cases hp
            rw [itm_key ho.2 hne, ho.1]
        rw [kx hp (ha p List.mem_cons_self), kx hpq (ha q (List.mem_cons_of_mem _ hq))]
        exact h1 q hq
  exact this _ hw hall
/-- The document's: card by card in the order of the first turns. -/
def firstAt (l : List Tn) (k : Nat) : Prop := ∀ j, j < k → ∀ (hj : j < l.length) (hk : k < l.length), l[j].id ≠ l[k].id
noncomputable instance (l : List Tn) (k : Nat) : Decidable (firstAt l k) := Classical.propDecidable _
def lastAt (l : List Tn) (k : Nat) (t : Tn) : Tn := (lastT (l.drop k) t.id).getD t
noncomputable def rnetTo (l : List Tn) : Nat → List Im
  | 0 => []
  | k + 1 => match l[k]? with
    | none => rnetTo l k
    | some t => if firstAt l k then (if t.old = (lastAt l k t).nw then rnetTo l k else rput (rnetTo l k) (itm { lastAt l k t with old := t.old })) else rnetTo l k
theorem lastT_none {l : List Tn} {i : Int} (h : ∀ t ∈ l, t.id ≠ i) : lastT l i = none := by
  cases hl : lastT l i with
  | none => rfl
  | some u => exact absurd (last_id hl).1 (h u (last_id hl).2)
theorem first_whole {l : List Tn} {k : Nat} (hk : k < l.length) (hf : firstAt l k) : whole l l[k].id = some { lastAt l k l[k] with old := l[k].old } := by
  have hs : l = l.take k ++ l.drop k := (List.take_append_drop k l).symm
  have hd : l.drop k = l[k] :: l.drop (k + 1) := List.drop_eq_getElem_cons hk
  have hno : ∀ t ∈ l.take k, t.id ≠ l[k].id := fun t ht => by
    obtain ⟨j, hj, rfl⟩ := List.getElem_of_mem ht
    rw [List.length_take] at hj
    rw [List.getElem_take]
    exact hf j (by omega) (by omega) hk
  have hln := lastT_none hno
  have hfn : firstT (l.take k) l[k].id = none := (first_last _ _).2 hln
  have hfd : firstT (l.drop k) l[k].id = some l[k] := by
    have e1 : firstT (l[k] :: l.drop (k + 1)) l[k].id = some l[k] := by
      unfold firstT
      rw [List.find?_cons, decide_eq_true rfl]
    rw [← hd] at e1
    exact e1
  have h1 : firstT l l[k].id = some l[k] := by
    have : firstT (l.take k ++ l.drop k) l[k].id = some l[k] := by
      rw [firstT_append, hfn]
      exact hfd
    rwa [List.take_append_drop] at this
  have h2 : lastT l l[k].id = lastT (l.drop k) l[k].id := by
    have : lastT (l.take k ++ l.drop k) l[k].id = lastT (l.drop k) l[k].id := by
      rw [lastT_append, hln]
      cases lastT (l.drop k) l[k].id <;> rfl
    rwa [List.take_append_drop] at this
  unfold whole
  rw [h1, h2]
  have h3 : lastT (l.drop k) l[k].id ≠ none := fun e => by
    have := (first_last (l.drop k) l[k].id).2 e
    rw [hfd] at this
    cases this
  cases hl : lastT (l.drop k) l[k].id with
  | none => exact absurd hl h3
  | some u => simp [lastAt, hl]
theorem rnet_mem {l : List Tn} : ∀ {k : Nat}, k ≤ l.length → ∀ {x : Im}, x ∈ rnetTo l k ↔ ∃ j, ∃ (hj : j < l.length), j < k ∧ firstAt l j ∧ ∃ u, whole l l[j].id = some u ∧ u.old ≠ u.nw ∧ x = itm u
  | 0, _, x => by simp [rnetTo]
  | k + 1, hk, x => by
    have hk' : k < l.length := by omega
    have ih := rnet_mem (l := l) (k := k) (by omega) (x := x)
    unfold rnetTo
    rw [List.getElem?_eq_getElem hk']
    simp only
    have up : (∃ j, ∃ (hj : j < l.length), j < k ∧ firstAt l j ∧ ∃ u, whole l l[j].id = some u ∧ u.old ≠ u.nw ∧ x = itm u) → (∃ j, ∃ (hj : j < l.length), j < k + 1 ∧ firstAt l j ∧ ∃ u, whole l l[j].id = some u ∧ u.old ≠ u.nw ∧ x = itm u) := fun ⟨j, hj, h1, h2⟩ => ⟨j, hj, by omega, h2⟩
    by_cases hf : firstAt l k
    · rw [if_pos hf]
      have hw := first_whole hk' hf
      by_cases ho : l[k].old = (lastAt l k l[k]).nw
      · rw [if_pos ho, ih]
        refine ⟨up, ?_⟩
        rintro ⟨j, hj, h1, h2, u, h3, h4, h5⟩
        by_cases e : j = k
        · subst e
          rw [hw] at h3
          cases h3
          exact absurd ho h4
        · exact ⟨j, hj, by omega, h2, u, h3, h4, h5⟩
      · rw [if_neg ho, rput_mem, ih]
        constructor
        · rintro (rfl | h)
          · exact ⟨k, hk', by omega, hf, _, hw, ho, rfl⟩
          · exact up h
        · rintro ⟨j, hj, h1, h2, u, h3, h4, h5⟩
          by_cases e : j = k
          · subst e
            rw [hw] at h3
            cases h3
            exact .inl h5
          · exact .inr ⟨j, hj, by omega, h2, u, h3, h4, h5⟩
    · rw [if_neg hf, ih]
      refine ⟨up, ?_⟩
      rintro ⟨j, hj, h1, h2, u, h3⟩
      by_cases e : j = k
      · subst e
        exact absurd h2 hf
      · exact ⟨j, hj, by omega, h2, u, h3⟩
theorem rnet_rise {l : List Tn} (h : ∀ t ∈ l, okTn t) : ∀ {k : Nat}, k ≤ l.length → IRise (rnetTo l k)
  | 0, _ => List.Pairwise.nil
  | k + 1, hk => by
    have hk' : k < l.length := by omega
    have ih := rnet_rise h (k := k) (by omega)
    unfold rnetTo
    rw [List.getElem?_eq_getElem hk']
    simp only
    split
    · rename_i hf
      split
      · exact ih
      · rename_i ho
        have hw := first_whole hk' hf
        have ow := whole_ok h hw
        refine rput_rise ih (fun y hy => ?_)
        obtain ⟨j, hj, h1, h2, u, h3, h4, h5⟩ := (rnet_mem (by omega)).1 hy
        have ou := whole_ok h h3
        rw [h5, itm_key ou.2 h4, ou.1, itm_key ow.2 ho, ow.1]
        exact hf j h1 hj hk'
    · exact ih
/-- Each turn's card has a first turn. -/
theorem has_first {l : List Tn} {i : Int} {t : Tn} (h : whole l i = some t) : ∃ j, ∃ (hj : j < l.length), firstAt l j ∧ l[j].id = i := by
  unfold whole at h
  cases hf : firstT l i with
  | none => rw [hf] at h; cases h
  | some f =>
    have hm : ∃ t ∈ l, t.id = i := ⟨f, List.mem_of_find?_eq_some hf, of_decide_eq_true (List.find?_some (p := fun t : Tn => decide (t.id = i)) hf)⟩
    have : ∀ (n : Nat), (∃ j, ∃ (hj : j < l.length), j < n ∧ l[j].id = i) → ∃ j, ∃ (hj : j < l.length), firstAt l j ∧ l[j].id = i := by
      intro n
      induction n with
      | zero => rintro ⟨j, _, h, _⟩; omega
      | succ n ih =>
        rintro ⟨j, hj, h1, h2⟩
        by_cases hx : ∃ q, ∃ (hq : q < l.length), q < n ∧ l[q].id = i
        · exact ih hx
        · refine ⟨j, hj, fun q hq hql hjl e => hx ⟨q, hql, by omega, by rw [e, h2]⟩, h2⟩
    obtain ⟨t, ht, hid⟩ := hm
    obtain ⟨j, hj, rfl⟩ := List.getElem_of_mem ht
    exact this l.length ⟨j, hj, hj, hid⟩
/-- The document's net is the program's. -/
theorem rnet_net {l : List Tn} (h : ∀ t ∈ l, okTn t) : rnetTo l l.length = net l := by
  refine rise_ext rkey (rnet_rise h (Nat.le_refl _)) (net_rise h) (fun x => ?_)
  rw [rnet_mem (Nat.le_refl _), net_mem]
  constructor
  · rintro ⟨j, hj, _, _, u, h1, h2, h3⟩
    exact ⟨_, u, h1, h2, h3⟩
  · rintro ⟨i, t, h1, h2, h3⟩
    obtain ⟨j, hj, hf, rfl⟩ := has_first h1
    exact ⟨j, hj, hj, hf, t, h1, h2, h3⟩
end Go.Proofs.Ytcdmbidggikmfaa

/- Items that are applied; nets one behind the other: mathematics. -/
namespace Go.Proofs.Ytcdmbidggikmfaa
set_option linter.unusedVariables false
set_option linter.unusedSimpArgs false
open Go Go.RowKit

section
variable {α : Type}
def kdel (m : KV α) (x : Int) : KV α := m.filter (fun p => !decide (p.1 = x))
theorem KRise.del {m : KV α} (hr : KRise m) (x : Int) : KRise (kdel m x) := hr.filter _
theorem kget_del (m : KV α) (x y : Int) : kget (kdel m x) y = if y = x then none else kget m y := by
  induction m with
  | nil => simp [kget, kdel]
  | cons p m ih =>
    unfold kget kdel at ih ⊢
    rw [List.filter_cons]
    by_cases hp : p.1 = x
    · rw [decide_eq_true hp]
      simp only [Bool.not_true, Bool.false_eq_true, if_false]
      rw [ih]
      by_cases h : y = x
      · rw [if_pos h, if_pos h]
      · rw [if_neg h, if_neg h, List.find?_cons, show decide (p.1 = y) = false from decide_eq_false (fun e => h (by rw [← e, hp]))]
    · rw [decide_eq_false hp]
      simp only [Bool.not_false, if_true]
      rw [List.find?_cons]
      by_cases h2 : p.1 = y
      · rw [decide_eq_true h2]
        simp only
        rw [if_neg (fun e => hp (by rw [h2, e])), List.find?_cons, decide_eq_true h2]
      · rw [decide_eq_false h2]
        simp only
        rw [ih, List.find?_cons, decide_eq_false h2]
/-- Two rising lists of pairs that tell the same are one. -/
theorem kv_ext {a b : KV α} (ha : KRise a) (hb : KRise b) (h : ∀ i, kget a i = kget b i) : a = b :=
  rise_ext (·.1) ha hb (fun p => by
    constructor
    · intro hp
      have := kget_of_mem (x := p.1) (v := p.2) ha hp
      rw [h] at this
      exact kget_mem this
    · intro hp
      have := kget_of_mem (x := p.1) (v := p.2) hb hp
      rw [← h] at this
      exact kget_mem this)
theorem kput_len (m : KV α) (x : Int) (v : α) : (kput m x v).length ≤ m.length + 1 := by
  induction m with
  | nil => simp [kput]
  | cons p m ih =>
    unfold kput
    split
    · simp
    · split
      · simp
      · simp only [List.length_cons]; omega
end
/-- An item applied; items applied. -/
def aput (m : KV Cd) (x : Im) : Option (KV Cd) := if (kget m (rkey x)).isSome = decide (x.kd = 1) then none else some (if x.kd = 2 then kdel m (rkey x) else kput m (rkey x) x.cd)
def app : KV Cd → List Im → Option (KV Cd)
  | m, [] => some m
  | m, x :: L => match aput m x with | none => none | some m' => app m' L
theorem app_get : ∀ {L : List Im} {m : KV Cd}, IRise L → KRise m → (∀ x ∈ L, (kget m (rkey x)).isSome ≠ decide (x.kd = 1)) →
    ∃ m', app m L = some m' ∧ KRise m' ∧ ∀ i, kget m' i = match L.find? (fun x => decide (rkey x = i)) with | some x => if x.kd = 2 then none else some x.cd | none => kget m i
  | [], m, _, hm, _ => ⟨m, rfl, hm, fun _ => rfl⟩
  | x :: L, m, hL, hm, hp => by
    obtain ⟨h1, h2⟩ := List.pairwise_cons.1 hL
    have hx := hp x List.mem_cons_self
    obtain ⟨m1, hm1⟩ : ∃ m1, m1 = if x.kd = 2 then kdel m (rkey x) else kput m (rkey x) x.cd := ⟨_, rfl⟩
    have ha : aput m x = some m1 := by unfold aput; rw [if_neg hx, hm1]
    have hr1 : KRise m1 := by
      rw [hm1]
      split
      · exact KRise.del hm _
      · exact KRise.put hm _ _
    have hg : ∀ i, kget m1 i = if i = rkey x then (if x.kd = 2 then none else some x.cd) else kget m i := fun i => by
      rw [hm1]
      split
      · rw [kget_del]
      · rw [kget_put _ _ _ _ hm]
    obtain ⟨m', e1, e2, e3⟩ := app_get h2 hr1 (fun y hy => by
      rw [hg, if_neg (fun e => by have := h1 y hy; omega)]
      exact hp y (List.mem_cons_of_mem _ hy))
    refine ⟨m', by unfold app; rw [ha]; exact e1, e2, fun i => ?_⟩
    rw [e3, List.find?_cons]
    by_cases hi : rkey x = i
    · rw [decide_eq_true hi]
      simp only
      have hn : L.find? (fun y => decide (rkey y = i)) = none := by
        rw [List.find?_eq_none]
        intro y hy hd
        have := h1 y hy
        have := of_decide_eq_true hd
        omega
      rw [hn]
      simp only
      rw [hg, if_pos hi.symm]
    · rw [decide_eq_false hi]
      simp only
      cases hfd : L.find? (fun y => decide (rkey y = i)) with
      | some y => rfl
      | none =>
        simp only
        rw [hg, if_neg (fun e => hi e.symm)]
/-- Which item a net has of a card. -/
theorem net_find {l : List Tn} (h : ∀ t ∈ l, okTn t) (i : Int) : (net l).find? (fun x => decide (rkey x = i)) = match whole l i with | none => none | some u => if u.old = u.nw then none else some (itm u) := by
  cases hw : whole l i with
  | none =>
    rw [List.find?_eq_none]
    intro x hx hd
    obtain ⟨j, u, h1, h2, h3⟩ := net_mem.1 hx
    have ou := whole_ok h h1
    rw [h3, itm_key ou.2 h2, ou.1] at hd
    rw [of_decide_eq_true hd, hw] at h1
    cases h1
  | some u =>
    simp only
    have ou := whole_ok h hw
    by_cases he : u.old = u.nw
    · rw [if_pos he, List.find?_eq_none]
      intro x hx hd
      obtain ⟨j, v, h1, h2, h3⟩ := net_mem.1 hx
      have ov := whole_ok h h1
      rw [h3, itm_key ov.2 h2, ov.1] at hd
      rw [of_decide_eq_true hd, hw] at h1
      cases h1
      exact h2 he
    · rw [if_neg he]
      have hm : itm u ∈ net l := net_mem.2 ⟨i, u, hw, he, rfl⟩
      have hk : rkey (itm u) = i := by rw [itm_key ou.2 he, ou.1]
      have huniq : ∀ y ∈ net l, rkey y = i → y = itm u := fun y hy e => by
        obtain ⟨j, v, h1, h2, h3⟩ := net_mem.1 hy
        have ov := whole_ok h h1
        have : j = i := by rw [h3, itm_key ov.2 h2, ov.1] at e; exact e
        rw [this, hw] at h1
        cases h1
        exact h3
      cases hf : (net l).find? (fun x => decide (rkey x = i)) with
      | none => exact absurd (List.find?_eq_none.1 hf (itm u) hm) (by rw [decide_eq_true hk]; simp)
      | some y => rw [huniq y (List.mem_of_find?_eq_some hf) (of_decide_eq_true (List.find?_some (p := fun x : Im => decide (rkey x = i)) hf))]
def verOf : Option Cd → Int
  | none => 0
  | some c => c.2.1
/-- Turns that may be, and go on; cards that fit them. -/
def okT2 (t : Tn) : Prop := t.nw ≠ 0 → t.cd.1 = t.id ∧ t.cd.2.1 = t.nw
def chainT (l : List Tn) : Prop := ∀ a t b, l = a ++ t :: b → ∀ u, lastT a t.id = some u → u.nw = t.old
structure FitsT (m : KV Cd) (l : List Tn) : Prop where
  one : ∀ a t b, l = a ++ t :: b → lastT a t.id = none → verOf (kget m t.id) = t.old
  two : ∀ t ∈ l, ∀ u ∈ l, t.id = u.id → t.nw = u.nw → t.cd = u.cd
  three : ∀ t ∈ l, ∀ c, kget m t.id = some c → c.2.1 = t.nw → c = t.cd
def shown (m : KV Cd) : Prop := ∀ i c, kget m i = some c → c.2.1 ≠ 0
theorem okT2.ok {t : Tn} (h : okT2 t) : okTn t := fun hn => (h hn).1
theorem first_split {l : List Tn} {i : Int} {f : Tn} (h : firstT l i = some f) : f.id = i ∧ ∃ a b, l = a ++ f :: b ∧ lastT a i = none := by
  unfold firstT at h
  obtain ⟨hd, a, b, e, ha⟩ := List.find?_eq_some_iff_append.1 h
  refine ⟨of_decide_eq_true hd, a, b, e, lastT_none (fun t ht e2 => ?_)⟩
  have := ha t ht
  rw [decide_eq_true e2] at this
  cases this
theorem first_ver {m : KV Cd} {l : List Tn} (hf : FitsT m l) {i : Int} {f : Tn} (h : firstT l i = some f) : verOf (kget m i) = f.old := by
  obtain ⟨hi, a, b, e, hn⟩ := first_split h
  have := hf.one a f b e (by rw [hi]; exact hn)
  rwa [hi] at this
/-- What is there behind a net is what the last turns say. -/
theorem app_net {m : KV Cd} {l : List Tn} (hm : KRise m) (hs : shown m) (hl : ∀ t ∈ l, okT2 t) (hf : FitsT m l) :
    ∃ m', app m (net l) = some m' ∧ KRise m' ∧ ∀ i, kget m' i = match lastT l i with | none => kget m i | some t => if t.nw = 0 then none else some t.cd := by
  have hok : ∀ t ∈ l, okTn t := fun t ht => (hl t ht).ok
  obtain ⟨m', e1, e2, e3⟩ := app_get (net_rise hok) hm (fun x hx => by
    obtain ⟨i, u, h1, h2, h3⟩ := net_mem.1 hx
    have ou := whole_ok hok h1
    rw [h3, itm_key ou.2 h2, ou.1]
    unfold whole at h1
    cases hfi : firstT l i with
    | none => rw [hfi] at h1; cases h1
    | some f =>
      cases hla : lastT l i with
      | none => rw [hfi, hla] at h1; cases h1
      | some t =>
        rw [hfi, hla] at h1
        cases h1
        have hv := first_ver hf hfi
        have hk : (itm { t with old := f.old }).kd = 1 ↔ f.old = 0 := by
          unfold itm
          simp only
          split
          · simp_all
          · split <;> simp_all
        cases hg : kget m i with
        | none =>
          rw [hg] at hv
          have : f.old = 0 := hv.symm
          rw [decide_eq_true (hk.2 this)]
          simp
        | some c =>
          rw [hg] at hv
          have h0 := hs i c hg
          have : ¬ f.old = 0 := fun e => h0 (by rw [← e]; exact hv)
          rw [decide_eq_false (fun e => this (hk.1 e))]
          simp)
  refine ⟨m', e1, e2, fun i => ?_⟩
  rw [e3, net_find hok]
  unfold whole
  cases hla : lastT l i with
  | none =>
    rw [(first_last l i).2 hla]
  | some t =>
    cases hfi : firstT l i with
    | none => exact absurd ((first_last l i).1 hfi) (by rw [hla]; simp)
    | some f =>
      simp only
      have hv := first_ver hf hfi
      obtain ⟨ht1, ht2⟩ := last_id hla
      by_cases he : f.old = t.nw
      · rw [if_pos he]
        simp only
        by_cases hz : t.nw = 0
        · rw [if_pos hz]
          cases hg : kget m i with
          | none => rfl
          | some c =>
            rw [hg] at hv
            exact absurd (show c.2.1 = 0 by rw [← hz, ← he]; exact hv) (hs i c hg)
        · rw [if_neg hz]
          cases hg : kget m i with
          | none =>
            rw [hg] at hv
            exact absurd (show t.nw = 0 by rw [← he]; exact hv.symm) hz
          | some c =>
            rw [hg] at hv
            rw [hf.three t ht2 c (by rw [ht1]; exact hg) (by rw [← he]; exact hv)]
      · rw [if_neg he]
        simp only
        unfold itm
        simp only
        by_cases h0 : f.old = 0
        · rw [if_pos h0]
          simp only
          rw [if_neg (by decide), if_neg (fun e => he (by rw [h0, e]))]
        · rw [if_neg h0]
          by_cases hz : t.nw = 0
          · rw [if_pos hz, if_pos hz]
            simp
          · rw [if_neg hz, if_neg hz]
            simp
/-- THE NETS OF BOTH PARTS, ONE BEHIND THE OTHER, COME TO WHAT THE NET OF ALL COMES TO. -/
theorem net_twice {m : KV Cd} {a b : List Tn} (hm : KRise m) (hs : shown m) (hl : ∀ t ∈ a ++ b, okT2 t) (hc : chainT (a ++ b)) (hf : FitsT m (a ++ b)) :
    ∃ ma mb, app m (net a) = some ma ∧ app ma (net b) = some mb ∧ app m (net (a ++ b)) = some mb := by
  have hla : ∀ t ∈ a, okT2 t := fun t ht => hl t (List.mem_append_left _ ht)
  have hlb : ∀ t ∈ b, okT2 t := fun t ht => hl t (List.mem_append_right _ ht)
  have hfa : FitsT m a := ⟨fun p t q e hn => hf.one p t (q ++ b) (by rw [e]; simp) hn, fun t ht u hu => hf.two t (List.mem_append_left _ ht) u (List.mem_append_left _ hu), fun t ht => hf.three t (List.mem_append_left _ ht)⟩
  obtain ⟨mw, w1, w2, w3⟩ := app_net hm hs hl hf
  obtain ⟨ma, a1, a2, a3⟩ := app_net hm hs hla hfa
  have hsa : shown ma := fun i c hg => by
    rw [a3] at hg
    cases h : lastT a i with
    | none => rw [h] at hg; exact hs i c hg
    | some t =>
      rw [h] at hg
      simp only at hg
      split at hg
      · cases hg
      · rename_i hz
        cases hg
        rw [(hla t (last_id h).2 hz).2]
        exact hz
  have hfb : FitsT ma b := by
    refine ⟨fun p t q e hn => ?_, fun t ht u hu => hf.two t (List.mem_append_right _ ht) u (List.mem_append_right _ hu), fun t ht c hg hv => ?_⟩
    · rw [a3]
      cases h : lastT a t.id with
      | none =>
        exact hf.one (a ++ p) t q (by rw [e]; simp) (by rw [lastT_append, hn]; exact h)
      | some u =>
        have h1 := hc (a ++ p) t q (by rw [e]; simp) u (by rw [lastT_append, hn]; exact h)
        simp only
        by_cases hz : u.nw = 0
        · rw [if_pos hz]
          rw [hz] at h1
          exact h1
        · rw [if_neg hz]
          show u.cd.2.1 = t.old
          rw [(hla u (last_id h).2 hz).2]
          exact h1
    · rw [a3] at hg
      cases h : lastT a t.id with
      | none =>
        rw [h] at hg
        exact hf.three t (List.mem_append_right _ ht) c hg hv
      | some u =>
        rw [h] at hg
        simp only at hg
        split at hg
        · cases hg
        · rename_i hz
          cases hg
          obtain ⟨u1, u2⟩ := last_id h
          exact hf.two u (List.mem_append_left _ u2) t (List.mem_append_right _ ht) u1 (by rw [← hv]; exact ((hla u u2 hz).2).symm)
  obtain ⟨mb, b1, b2, b3⟩ := app_net a2 hsa hlb hfb
  refine ⟨ma, mb, a1, b1, ?_⟩
  rw [w1]
  congr 1
  refine kv_ext w2 b2 (fun i => ?_)
  rw [w3, b3, lastT_append]
  cases lastT b i with
  | some t => rfl
  | none => simp only; rw [a3]
theorem net_len (l : List Tn) : (net l).length ≤ l.length := by
  have : ∀ (l : List Tn) (m : KV Tn), (l.foldl wstep m).length ≤ m.length + l.length := by
    intro l
    induction l with
    | nil => intro m; simp
    | cons t l ih =>
      intro m
      have h1 := ih (wstep m t)
      have h2 : (wstep m t).length ≤ m.length + 1 := kput_len _ _ _
      simp only [List.foldl_cons, List.length_cons]
      omega
  have h1 := this l []
  have h2 : (net l).length ≤ (wmap l).length := List.length_filterMap_le _ _
  unfold wmap at h2
  simp only [List.length_nil, Nat.zero_add] at h1
  omega
end Go.Proofs.Ytcdmbidggikmfaa

/- Maps whose keys are ints: what lies in one, as pairs whose keys rise; look, put, delete, length: general. -/
namespace Go.Proofs.Ytcdmbidggikmfaa
set_option linter.unusedVariables false
set_option linter.unusedSimpArgs false
open Go Go.RowKit Go.Maps

/-- Every value reads as itself. -/
def RV : Value → Option (DataW Value × List MemPlace) := fun v => some (.held v, [])
def mlit (p : Int × Value) : Lit × DataW Value := (.int .i64 p.1, .held p.2)
abbrev IM := List (Int × Value)
def mget (m : IM) (x : Int) : Option Value := (m.find? (fun p => decide (p.1 = x))).map (·.2)
def mput : IM → Int → Value → IM
  | [], x, v => [(x, v)]
  | p :: m, x, v => if x < p.1 then (x, v) :: p :: m else if p.1 = x then (x, v) :: m else p :: mput m x v
def mdel (m : IM) (x : Int) : IM := m.filter (fun p => !decide (p.1 = x))
abbrev RiseM (m : IM) : Prop := m.Pairwise (fun p q => p.1 < q.1)
theorem same_lit (p : Int × Value) (x : Int) : (mlit p).1.sameKey (.int .i64 x) = decide (p.1 = x) := by simp [mlit, Lit.sameKey]
theorem has_lit (m : IM) (x : Int) : Maps.has (.map (m.map mlit)) (.int .i64 x) = (mget m x).isSome := by
  show (m.map mlit).any (fun p => p.1.sameKey (.int .i64 x)) = _
  induction m with
  | nil => rfl
  | cons p m ih =>
    rw [List.map_cons, List.any_cons, ih, same_lit]
    unfold mget
    rw [List.find?_cons]
    by_cases h : p.1 = x
    · simp [h]
    · simp [h]
theorem at_lit (m : IM) (x : Int) (z : Value) : (DataW.map (m.map mlit)).atKey (.int .i64 x) (.held z) = .held ((mget m x).getD z) := by
  unfold DataW.atKey
  dsimp only
  induction m with
  | nil => rfl
  | cons p m ih =>
    rw [List.map_cons, List.find?_cons, same_lit]
    unfold mget
    rw [List.find?_cons]
    by_cases h : p.1 = x
    · simp [h, mlit]
    · have h2 : decide (p.1 = x) = false := by simp [h]
      rw [h2]
      exact ih
theorem filter_lit (m : IM) (x : Int) : (m.map mlit).filter (fun p => !p.1.sameKey (.int .i64 x)) = (mdel m x).map mlit := by
  unfold mdel
  induction m with
  | nil => rfl
  | cons p m ih =>
    rw [List.map_cons, List.filter_cons, List.filter_cons, same_lit]
    by_cases h : p.1 = x
    · simp only [h, decide_true, Bool.not_true]
      exact ih
    · have h2 : decide (p.1 = x) = false := by simp [h]
      rw [h2]
      simp only [Bool.not_false, if_true, List.map_cons]
      rw [ih]
theorem del_lit (m : IM) (x : Int) : (DataW.map (m.map mlit)).del (.int .i64 x) = .map ((mdel m x).map mlit) := congrArg DataW.map (filter_lit m x)
theorem mdel_none {m : IM} {x : Int} (h : ∀ p ∈ m, x < p.1) : mdel m x = m := by
  unfold mdel
  rw [List.filter_eq_self]
  intro p hp
  have := h p hp
  simp
  omega
theorem insert_front {m : IM} {x : Int} (v : Value) (h : ∀ p ∈ m, x < p.1) : DataW.insert (mlit (x, v)) (m.map mlit) = ((x, v) :: m).map mlit := by
  match m, h with
  | [], _ => rfl
  | p :: m, h =>
    have h1 := h p (List.mem_cons_self ..)
    show (if (Lit.int .i64 x).before (Lit.int .i64 p.1) = true then _ else _) = _
    rw [if_pos (by simpa [Lit.before] using h1)]
    rfl
theorem put_list (m : IM) (x : Int) (v : Value) (hr : RiseM m) : DataW.insert (mlit (x, v)) ((mdel m x).map mlit) = (mput m x v).map mlit := by
  induction m with
  | nil => rfl
  | cons p m ih =>
    obtain ⟨h1, h2⟩ := List.pairwise_cons.1 hr
    unfold mput
    by_cases hx : x < p.1
    · rw [if_pos hx, mdel_none (fun q hq => by rcases List.mem_cons.1 hq with rfl | hq; exact hx; have := h1 q hq; omega)]
      exact insert_front v (fun q hq => by rcases List.mem_cons.1 hq with rfl | hq; exact hx; have := h1 q hq; omega)
    · rw [if_neg hx]
      by_cases he : p.1 = x
      · rw [if_pos he]
        have hd : mdel (p :: m) x = m := by
          unfold mdel
          rw [List.filter_cons, if_neg (by simp [he])]
          exact mdel_none (m := m) (x := x) (fun q hq => by have := h1 q hq; omega)
        rw [hd]
        exact insert_front v (fun q hq => by have := h1 q hq; omega)
      · rw [if_neg he]
        have hd : mdel (p :: m) x = p :: mdel m x := by
          unfold mdel
          rw [List.filter_cons, if_pos (by simp [he])]
        rw [hd, List.map_cons, List.map_cons, ← ih h2]
        show (if (Lit.int .i64 x).before (Lit.int .i64 p.1) = true then _ else _) = _
        rw [if_neg (by simp [Lit.before]; omega)]
theorem put_lit (m : IM) (x : Int) (v : Value) (hr : RiseM m) : (DataW.map (m.map mlit)).put (.int .i64 x) (.held v) = .map ((mput m x v).map mlit) := by
  show DataW.map (DataW.insert (mlit (x, v)) ((m.map mlit).filter (fun p => !p.1.sameKey (.int .i64 x)))) = _
  rw [filter_lit, put_list m x v hr]
theorem mput_mem {m : IM} {x : Int} {v : Value} {q : Int × Value} (h : q ∈ mput m x v) : q = (x, v) ∨ q ∈ m := by
  induction m with
  | nil => exact .inl (by simpa [mput] using h)
  | cons p m ih =>
    unfold mput at h
    split at h
    · rcases List.mem_cons.1 h with h | h
      · exact .inl h
      · exact .inr h
    · split at h
      · rcases List.mem_cons.1 h with h | h
        · exact .inl h
        · exact .inr (List.mem_cons_of_mem _ h)
      · rcases List.mem_cons.1 h with h | h
        · exact .inr (by rw [h]; exact List.mem_cons_self ..)
        · rcases ih h with h | h
          · exact .inl h
          · exact .inr (List.mem_cons_of_mem _ h)
theorem RiseM.put {m : IM} (hr : RiseM m) (x : Int) (v : Value) : RiseM (mput m x v) := by
  induction m with
  | nil => exact List.pairwise_singleton _ _
  | cons p m ih =>
    obtain ⟨h1, h2⟩ := List.pairwise_cons.1 hr
    unfold mput
    split
    · rename_i hx
      exact List.pairwise_cons.2 ⟨fun q hq => by rcases List.mem_cons.1 hq with rfl | hq; exact hx; have := h1 q hq; show x < q.1; omega, hr⟩
    · split
      · rename_i hx he
        exact List.pairwise_cons.2 ⟨fun q hq => by have := h1 q hq; show x < q.1; omega, h2⟩
      · rename_i hx he
        exact List.pairwise_cons.2 ⟨fun q hq => by rcases mput_mem hq with rfl | hq; show p.1 < x; omega; exact h1 q hq, ih h2⟩
theorem RiseM.del {m : IM} (hr : RiseM m) (x : Int) : RiseM (mdel m x) := hr.filter _
/-- A map whose keys are ints, as it lies. -/
structure MapI (P : Program) (k : TypeId) (w : World) (b N : Nat) (m : IM) : Prop where
  own : w.ownsMap P k RV b N (.map (m.map mlit))
  rise : RiseM m
section
variable {P : Program} {k t e : TypeId} {w w' : World} {b N : Nat} {m : IM}
theorem MapI.lt (h : MapI P k w b N m) : b < w.heap.size := h.own.lt
theorem MapI.kept {row : Option Nat} (h : MapI P k w b N m) (hg : w.grownBy w' row) (hne : some b ≠ row) : MapI P k w' b N m := ⟨h.own.kept hg hne, h.rise⟩
theorem MapI.later (h : MapI P k w b N m) (hb : Below w.heap.size w w') : MapI P k w' b N m := h.kept (row := none) ⟨hb.os, hb.tape, hb.output, hb.size, fun j hj _ => hb.block j hj⟩ (by intro e; cases e)
theorem MapI.setCell (h : MapI P k w b N m) {a : Addr} (ha : b ≠ a.block) (u : Value) : MapI P k (w.setCell a u) b N m := ⟨h.own.setCell ha u, h.rise⟩
theorem MapI.new (P : Program) (k : TypeId) (w : World) : MapI P k (w.alloc (.map #[] 0)) w.heap.size 0 [] := ⟨World.ownsMap_made w P k RV, List.Pairwise.nil⟩
theorem MapI.size (h : MapI P k w b N m) : m.length ≤ N := by
  have := h.own.size_le
  simpa [Maps.size] using this
theorem MapI.look2 (h : MapI P k w b N m) (hk : P.underlying k = some (.int .i64)) (ht : P.underlying t = some (.map k e)) {z : Value} (hz : (zeroValue e).run P w = .ok z w) {x : Int} (hx : (Lit.int .i64 x).wf = true) :
    (Instr.lookup t (.map (some b)) (.int .i64 x) true).run P w = .ok (.tuple #[(mget m x).getD z, .bool (mget m x).isSome]) w := by
  obtain ⟨v, ps, hr, hv⟩ := h.own.look_ok (int_keyed hk) ht hz (zd := .held z) (zp := []) rfl (key := .int .i64 x) (kl := .int .i64 x) (by simp [keyOf, hk, mapKey, hx])
  rw [has_lit] at hr
  rw [at_lit] at hv
  have : v = (mget m x).getD z := by
    simp only [RV, Option.some.injEq, Prod.mk.injEq, DataW.held.injEq] at hv
    exact hv.1
  rw [hr, this]
theorem MapI.look1 (h : MapI P k w b N m) (hk : P.underlying k = some (.int .i64)) (ht : P.underlying t = some (.map k e)) {z : Value} (hz : (zeroValue e).run P w = .ok z w) {x : Int} (hx : (Lit.int .i64 x).wf = true) :
    (Instr.lookup t (.map (some b)) (.int .i64 x) false).run P w = .ok ((mget m x).getD z) w := by
  obtain ⟨v, ps, hr, hv⟩ := h.own.lookup (int_keyed hk) ht hz (zd := .held z) (zp := []) rfl (key := .int .i64 x) (kl := .int .i64 x) (by simp [keyOf, hk, mapKey, hx])
  rw [at_lit] at hv
  have : v = (mget m x).getD z := by
    simp only [RV, Option.some.injEq, Prod.mk.injEq, DataW.held.injEq] at hv
    exact hv.1
  rw [hr, this]
theorem MapI.store (h : MapI P k w b N m) (hk : P.underlying k = some (.int .i64)) (ht : P.underlying t = some (.map k e)) (hn : N < maxLen) {x : Int} (hx : (Lit.int .i64 x).wf = true) (v : Value) :
    ∃ w', (Instr.mapUpdate t (.map (some b)) (.int .i64 x) v).run P w = .ok () w' ∧ MapI P k w' b (N + 1) (mput m x v) ∧ w.grownBy w' (some b) := by
  obtain ⟨w', hr, ho, hg⟩ := h.own.update (int_keyed hk) ht hn (key := .int .i64 x) (kl := .int .i64 x) (d := .held v) (ps := []) (by simp [keyOf, hk, mapKey, hx]) rfl
  rw [put_lit m x v h.rise] at ho
  exact ⟨w', hr, ⟨ho, h.rise.put x v⟩, hg⟩
theorem MapI.drop (h : MapI P k w b N m) (hk : P.underlying k = some (.int .i64)) (ht : P.underlying t = some (.map k e)) {x : Int} (hx : (Lit.int .i64 x).wf = true) (ty : TypeId) :
    ∃ w', (Builtin.delete_ #[t, k] ty #[.map (some b), .int .i64 x]).run P w = .ok (.tuple #[]) w' ∧ MapI P k w' b N (mdel m x) ∧ w.mapTurned w' b := by
  obtain ⟨w', hr, ho, hg⟩ := h.own.drop (int_keyed hk) ht (key := .int .i64 x) (kl := .int .i64 x) (by simp [keyOf, hk, mapKey, hx]) ty
  rw [del_lit] at ho
  exact ⟨w', hr, ⟨ho, h.rise.del x⟩, hg⟩
theorem MapI.len (h : MapI P k w b N m) (ht : P.underlying t = some (.map k e)) (ty : TypeId) : (Builtin.len_ #[t] ty #[.map (some b)]).run P w = .ok (.int .i64 (m.length : Int)) w := by
  have := h.own.len ht ty
  simpa [Maps.size] using this
end
end Go.Proofs.Ytcdmbidggikmfaa

/- Pairs by rising numbers, as they lie in a map; a map's keys, sorted: mathematics. -/
namespace Go.Proofs.Ytcdmbidggikmfaa
set_option linter.unusedVariables false
set_option linter.unusedSimpArgs false
open Go Go.RowKit Go.Maps

/-- What lies in the map. -/
def vmap {α : Type} (f : α → Value) (m : KV α) : IM := m.map fun p => (p.1, f p.2)
section
variable {α : Type} (f : α → Value)
theorem vmap_len (m : KV α) : (vmap f m).length = m.length := List.length_map ..
theorem vmap_get (m : KV α) (x : Int) : mget (vmap f m) x = (kget m x).map f := by
  unfold mget kget vmap
  induction m with
  | nil => rfl
  | cons p m ih =>
    rw [List.map_cons, List.find?_cons, List.find?_cons]
    by_cases h : p.1 = x
    · simp [h]
    · rw [show decide (((p.1, f p.2) : Int × Value).1 = x) = false from decide_eq_false h]
      exact ih
theorem vmap_put (m : KV α) (x : Int) (v : α) : mput (vmap f m) x (f v) = vmap f (kput m x v) := by
  induction m with
  | nil => rfl
  | cons p m ih =>
    show (if x < p.1 then _ else if p.1 = x then _ else _) = vmap f (if x < p.1 then _ else if p.1 = x then _ else _)
    split
    · rfl
    · split
      · rfl
      · show (p.1, f p.2) :: mput (vmap f m) x (f v) = _
        rw [ih]
        rfl
theorem vmap_keys (m : KV α) : intKeys (DataW.map ((vmap f m).map mlit) : DataW Value) = m.map (·.1) := by
  show ((vmap f m).map mlit).map (fun p => intOf p.1) = _
  unfold vmap
  rw [List.map_map, List.map_map]
  rfl
theorem vmap_size (m : KV α) : Maps.size (DataW.map ((vmap f m).map mlit) : DataW Value) = m.length := by
  show ((vmap f m).map mlit).length = _
  rw [List.length_map, vmap_len]
/-- The keys, sorted, are the rising list. -/
theorem keys_sorted {m : KV α} (h : KRise m) {ss : List Int} (hp : ss.Perm (intKeys (DataW.map ((vmap f m).map mlit) : DataW Value))) : ss.mergeSort (fun x y => decide (x ≤ y)) = m.map (·.1) := by
  rw [vmap_keys] at hp
  rw [mergeSort_of_perm_i hp]
  refine List.mergeSort_of_pairwise ?_
  refine (List.pairwise_map (R := fun a b : Int => leI a b = true) (f := fun p : Int × α => p.1)).2 (h.imp ?_)
  intro p q hpq
  exact decide_eq_true (Int.le_of_lt hpq)
end
/-- A map of turns, step by step: what is picked of it, pair by pair. -/
theorem pick_take {m : KV Tn} {k : Nat} (hk : k < m.length) : (m.take (k + 1)).filterMap pick = (m.take k).filterMap pick ++ (match pick m[k] with | some x => [x] | none => []) := by
  rw [← List.take_append_getElem hk, List.filterMap_append]
  cases h : pick m[k] with
  | some x => simp [h]
  | none => simp [h]
theorem kget_at {α : Type} {m : KV α} (hr : KRise m) {k : Nat} (hk : k < m.length) : kget m m[k].1 = some m[k].2 := kget_of_mem hr (List.getElem_mem hk)
end Go.Proofs.Ytcdmbidggikmfaa

/- Turns and items as they lie; how they are built. -/
namespace Go.Proofs.Ytcdmbidggikmfaa
set_option linter.unusedVariables false
set_option linter.unusedSimpArgs false
open Go Go.RowKit BitM

def ccl (c : Cd) : List Value := ccells c.1 c.2.1 c.2.2.1 c.2.2.2
def tcl (t : Tn) : List Value := [.int .i64 t.sq, .int .i64 t.id, .int .i64 t.old, .int .i64 t.nw] ++ ccl t.cd
def icl (x : Im) : List Value := [.int .i64 x.kd] ++ ccl x.cd
abbrev okCd (c : Cd) : Prop := c.2.2.2.length = 8
theorem ccl_len {c : Cd} (h : okCd c) : (ccl c).length = 27 := ccells_len _ _ _ h
theorem tcl_len {t : Tn} (h : okCd t.cd) : (tcl t).length = 31 := by unfold tcl; rw [List.length_append, ccl_len h]; rfl
theorem icl_len {x : Im} (h : okCd x.cd) : (icl x).length = 28 := by unfold icl; rw [List.length_append, ccl_len h]; rfl
theorem ccl_one (c : Cd) : ∀ u ∈ ccl c, u.oneCell' = true := ccells_one _ _ _ _
theorem tcl_one (t : Tn) : ∀ u ∈ tcl t, u.oneCell' = true := fun u hu => by
  rcases List.mem_append.1 hu with hu | hu
  · simp only [List.mem_cons, List.not_mem_nil, or_false] at hu
    rcases hu with rfl | rfl | rfl | rfl <;> rfl
  · exact ccl_one _ u hu
theorem icl_one (x : Im) : ∀ u ∈ icl x, u.oneCell' = true := fun u hu => by
  rcases List.mem_append.1 hu with hu | hu
  · simp only [List.mem_cons, List.not_mem_nil, or_false] at hu
    subst hu
    rfl
  · exact ccl_one _ u hu
theorem tcl_drop {t : Tn} (h : okCd t.cd) : ((tcl t).drop 4).take (ccl t.cd).length = ccl t.cd := by unfold tcl; simp
theorem icl_drop {x : Im} (h : okCd x.cd) : ((icl x).drop 1).take (ccl x.cd).length = ccl x.cd := by unfold icl; simp
theorem info_turn : (Try.prog.info? 51).map (·.size) = some 31 := by kernel_rfl
theorem info_item : (Try.prog.info? 54).map (·.size) = some 28 := by kernel_rfl
theorem tr_eight {f : List V3} (h : f.length = 8) : ∃ a b c d e g i j, f = [a, b, c, d, e, g, i, j] := by
  match f, h with
  | [a, b, c, d, e, g, i, j], _ => exact ⟨a, b, c, d, e, g, i, j, rfl⟩
/-- An item of a kind, and a card. -/
theorem run_item (k : Int) (c : Cd) (h : okCd c) (w : World) : (Instr.build 54 #[(0, .int .i64 k), (1, .agg (ccl c).toArray)]).run Try.prog w = .ok (.agg (icl ⟨k, c⟩).toArray) w := by
  obtain ⟨id, ver, lab, f⟩ := c
  obtain ⟨⟨_, _, _⟩, ⟨_, _, _⟩, ⟨_, _, _⟩, ⟨_, _, _⟩, ⟨_, _, _⟩, ⟨_, _, _⟩, ⟨_, _, _⟩, ⟨_, _, _⟩, e⟩ := tr_eight (show f.length = 8 from h)
  subst e
  kernel_rfl
theorem exec_item {a : Act} {op : Oper} (y0 y1 : Operand) (ho : op.op = .build 54 #[(0, y0), (1, y1)]) (k : Int) (c : Cd) (h : okCd c) (h0 : a.eval y0 = .int .i64 k) (h1 : a.eval y1 = .agg (ccl c).toArray) (w : World) :
    (execOp a.eval op).run Try.prog w = .ok (.value (.agg (icl ⟨k, c⟩).toArray)) w := by
  unfold execOp
  simp only [ho, List.map_toArray, List.map_cons, List.map_nil, h0, h1, Sem.run_bind, run_item k c h, Result.andThen_ok, Sem.run_pure]
/-- A card that has its number alone; a zero one. -/
theorem run_cid (i : Int) (w : World) : (Instr.build 43 #[(0, .int .i64 i)]).run Try.prog w = .ok (.agg (ccl (i, 0, 0, zeros)).toArray) w := by kernel_rfl
theorem exec_cid {a : Act} {op : Oper} (y : Operand) (ho : op.op = .build 43 #[(0, y)]) (i : Int) (h : a.eval y = .int .i64 i) (w : World) : (execOp a.eval op).run Try.prog w = .ok (.value (.agg (ccl (i, 0, 0, zeros)).toArray)) w := by
  unfold execOp
  simp only [ho, List.map_toArray, List.map_cons, List.map_nil, h, Sem.run_bind, run_cid, Result.andThen_ok, Sem.run_pure]
theorem run_c0 (w : World) : (Instr.build 43 #[]).run Try.prog w = .ok (.agg (ccl zcd).toArray) w := by kernel_rfl
end Go.Proofs.Ytcdmbidggikmfaa
