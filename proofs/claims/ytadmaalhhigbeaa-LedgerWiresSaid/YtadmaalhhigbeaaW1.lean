/- Words that all proofs of this seat use: a slice that is seen as a list, nil let in; what a law's frame owes beside its walk. -/
import Derived.Test.YtadmaalhhigbeaaRows
import Derived.WalkKit
import Derived.ProofKit
import Derived.OpenShut
import Derived.ShutString
import Derived.ChangeOld
import Derived.Below
import Derived.Lib.Hide
import Derived.Outline
import Derived.OwnWalk
import Derived.Maps.AppendAt
import Derived.Laws.AppendOwnNone
import Derived.Laws.CopyOwn
import Derived.Deep.QuietTactic
import Derived.BigQuiet
import Derived.Laws.BytesArg
import Derived.WalkLawsBesides
import Derived.RegionTactic
import Derived.Deep.MidRow
import Derived.Laws.Rows
import Derived.Laws.Tables
import Derived.RangeFuncNested
import Derived.RangeFuncBound
import Derived.RangeFuncCalls
import Derived.RangeFuncLeaves
import Derived.RangeFuncBox
import Derived.Shelf.Abstract
import Derived.Shelf.RegionOpen
import Derived.OwnWalkIn
import Derived.TacticsInMore
import Derived.LoopNIn
import Derived.LoopIn
namespace Go.Proofs.Ytadmaalhhigbeaa
open Go.ChangeShapes Go.WideShapes Go.ChangeAt Go.RowKit
open Go.ChangeMaps (open_string shut_string)

/-- The slice value of address A, seen as xs (one cell each): where there is an element, A is a place below block B, and the cells lie behind one another. -/
def Sees (w : World) (B : Nat) (A : Option Addr) (xs : List Value) : Prop :=
  0 < xs.length → ∃ b o, A = some ⟨b, o, none⟩ ∧ b < B ∧ ∀ j (h : j < xs.length), w.cell? ⟨b, o + j, none⟩ = some xs[j]

theorem add_at (b o j : Nat) : (⟨b, o, none⟩ : Addr).add j = ⟨b, o + j, none⟩ := by
  by_cases h : j = 0 <;> simp [Addr.add, h]

section
variable {w w' : World} {B B' : Nat} {A : Option Addr} {xs : List Value}
theorem Sees.nil_ : Sees w B A [] := fun h => absurd h (by simp)
theorem Sees.keep (h : Sees w B A xs) (hk : ∀ p : Addr, p.block < B → w'.cell? p = w.cell? p) : Sees w' B A xs := fun hx => by
  obtain ⟨b, o, e, hb, hc⟩ := h hx
  exact ⟨b, o, e, hb, fun j hj => (hk ⟨b, o + j, none⟩ hb).trans (hc j hj)⟩
theorem Sees.below (h : Sees w B A xs) (hb : Below B w w') : Sees w' B A xs := h.keep fun _ hp => hb.cell hp
theorem Sees.more (h : Sees w B A xs) (hB : B ≤ B') : Sees w B' A xs := fun hx => by
  obtain ⟨b, o, e, hb, hc⟩ := h hx
  exact ⟨b, o, e, by omega, hc⟩
theorem Sees.alloc (h : Sees w B A xs) (hB : B ≤ w.heap.size) (o : Obj) : Sees (w.alloc o) B A xs := h.keep fun p hp => World.cell?_alloc_lt w o p (by omega)
theorem Sees.drew (h : Sees w B A xs) : Sees w.drew B A xs := h
theorem Sees.drewN (h : Sees w B A xs) (k : Nat) : Sees (w.drewN k) B A xs := h
theorem Sees.setCell (h : Sees w B A xs) {p : Addr} (hB : B ≤ p.block) (u : Value) : Sees (w.setCell p u) B A xs :=
  h.keep fun q hq => World.cell?_setCell_other w p q u (fun e => by subst e; omega)
theorem Sees.grown {row : Option Nat} (h : Sees w B A xs) (hg : w.grownBy w' row) (hB : B ≤ w.heap.size) (hr : ∀ g, row = some g → B ≤ g) : Sees w' B A xs :=
  h.keep fun p hp => World.cell?_of_block (hg.block p.block (by omega) (fun e => by have := hr _ e.symm; omega))
theorem Sees.cut (h : Sees w B A xs) {k cap : Nat} (hc : xs.length ≤ cap) : Sees w B (if cap = k then A else A.map (·.add k)) (xs.drop k) := fun hx => by
  rw [List.length_drop] at hx
  obtain ⟨b, o, rfl, hb, hcell⟩ := h (by omega)
  rw [if_neg (by omega)]
  refine ⟨b, o + k, by simp [Addr.add], hb, fun j hj => ?_⟩
  rw [List.length_drop] at hj
  rw [Nat.add_assoc, hcell (k + j) (by omega)]
  simp
theorem Sees.take (h : Sees w B A xs) (k : Nat) : Sees w B A (xs.take k) := fun hx => by
  rw [List.length_take] at hx
  obtain ⟨b, o, e, hb, hc⟩ := h (by omega)
  exact ⟨b, o, e, hb, fun j hj => by rw [List.length_take] at hj; rw [hc j (by omega)]; simp⟩
theorem Sees.of_own {base : Nat} {e : TypeId} {n c : Nat} (h : w.ownsRow base e 1 (.slice A n c) n xs) : Sees w w.heap.size A xs := fun hx => by
  have hn : xs.length = n := by simpa using h.1
  rcases h.2 with ⟨_, h0, _⟩ | ⟨g, cap, cur, hv, _, hh, _⟩
  · omega
  have hA : A = some ⟨g, 0, none⟩ := by injection hv
  subst hA
  have hlt : g < w.heap.size := by
    rcases Nat.lt_or_ge g w.heap.size with h1 | h1
    · exact h1
    · rw [Array.getElem?_eq_none h1] at hh; cases hh
  exact ⟨g, 0, rfl, hlt, fun j hj => by
    have h1 := h.cells (g := g) rfl j _ (List.getElem?_eq_getElem hj)
    rw [add_at] at h1
    exact h1⟩
end

/-- Bytes as the model's values, and a slice of bytes seen as a list of them. -/
def bv (c : UInt8) : Value := .int .u8 (c.toNat : Int)
def bvs (l : List UInt8) : List Value := l.map bv
theorem bvs_length (l : List UInt8) : (bvs l).length = l.length := by simp [bvs]

/-- The call's own row of one-cell elements. -/
def Own (w : World) (base : Nat) (e : TypeId) (v : Value) (xs : List Value) : Prop := w.ownsRow base e 1 v xs.length xs

section
variable {w w' : World} {base : Nat} {e : TypeId} {v : Value} {xs : List Value}
theorem Own.form (h : Own w base e v xs) : ∃ A c, v = .slice A xs.length c := by
  rcases h.2 with ⟨rfl, h0⟩ | ⟨g, cap, cur, rfl, _⟩
  · exact ⟨none, 0, by rw [h0]⟩
  · exact ⟨_, _, rfl⟩
theorem Own.sees {A : Option Addr} {n c : Nat} (h : Own w base e (.slice A n c) xs) : Sees w w.heap.size A xs := by
  obtain ⟨A', c', hv⟩ := h.form
  injection hv with h1 h2 h3
  subst h1 h2 h3
  exact Sees.of_own h
theorem Own.alloc (h : Own w base e v xs) (o : Obj) : Own (w.alloc o) base e v xs := World.ownsRow.alloc h o
theorem Own.drewN (h : Own w base e v xs) (k : Nat) : Own (w.drewN k) base e v xs := h
theorem Own.drew (h : Own w base e v xs) : Own w.drew base e v xs := h
theorem Own.kept {row : Option Nat} (h : Own w base e v xs) (hg : w.grownBy w' row) (hne : v.ownBlock = none ∨ v.ownBlock ≠ row) : Own w' base e v xs := World.ownsRow.kept h hg hne
theorem Own.lt (h : Own w base e v xs) : ∀ k, v.ownBlock = some k → base ≤ k ∧ k < w.heap.size := World.ownsRow.lt h
theorem Own.stored {g n c : Nat} (h : Own w base e (.slice (some ⟨g, 0, none⟩) n c) xs) (j : Nat) (u : Value) :
    Own (w.setCell ⟨g, j, none⟩ u) base e (.slice (some ⟨g, 0, none⟩) n c) (xs.set j u) ∧ Below base w (w.setCell ⟨g, j, none⟩ u) := by
  obtain ⟨A', c', hv⟩ := h.form
  injection hv with h1 h2 h3
  subst h2
  have := World.ownsRow.stored (h : w.ownsRow _ _ _ _ _ _) j u
  refine ⟨?_, (Below.refl _ _).setCell (h.lt g rfl).1 u⟩
  unfold Own
  rw [List.length_set]
  exact this.1
theorem Own.block {A : Option Addr} {n c : Nat} (h : Own w base e (.slice A n c) xs) (hn : 0 < n) : ∃ g, A = some ⟨g, 0, none⟩ ∧ base ≤ g ∧ g < w.heap.size := by
  rcases h.2 with ⟨hv, _⟩ | ⟨g, cap, cur, hv, _⟩
  · injection hv with h1 h2 h3; omega
  · injection hv with h1 h2 h3
    subst h1
    exact ⟨g, rfl, h.lt g rfl⟩
theorem Own.cell {g n c : Nat} (h : Own w base e (.slice (some ⟨g, 0, none⟩) n c) xs) (j : Nat) (hj : j < xs.length) : w.cell? ⟨g, j, none⟩ = some xs[j] := by
  have := World.ownsRow.cells (h : w.ownsRow _ _ _ _ _ _) (g := g) rfl j _ (List.getElem?_eq_getElem hj)
  rw [add_at, Nat.zero_add] at this
  exact this
theorem Own.frozen {g n c : Nat} (h : Own w base e (.slice (some ⟨g, 0, none⟩) n c) xs) (j : Nat) : w.frozen? ⟨g, j, none⟩ = false := by
  obtain ⟨A', c', hv⟩ := h.form
  injection hv with h1 h2 h3
  subst h2
  exact World.ownsRow.frozenAt (h : w.ownsRow _ _ _ _ _ _) j
theorem Own.cap {A : Option Addr} {n c : Nat} (h : Own w base e (.slice A n c) xs) : n ≤ c ∧ c ≤ maxLen := by
  rcases h.2 with ⟨hv, hz⟩ | ⟨g, cap, cur, hv, _, _, hnc, hcm, _⟩
  · injection hv with h1 h2 h3; subst h2 h3; simp
  · injection hv with h1 h2 h3; subst h3; rw [h2]; exact ⟨hnc, hcm⟩
theorem Own.lower {base' : Nat} (h : Own w base e v xs) (hb : base' ≤ base) : Own w base' e v xs := by
  refine ⟨h.1, ?_⟩
  rcases h.2 with h' | ⟨g, cap, cur, h1, h2, h3⟩
  · exact .inl h'
  · exact .inr ⟨g, cap, cur, h1, Nat.le_trans hb h2, h3⟩
theorem Own.nil_ (w : World) (base : Nat) (e : TypeId) : Own w base e (.slice none 0 0) [] := World.ownsRow_nil _ _ _ _
end

theorem run_app {P : Program} (w : World) (base : Nat) (t ty e : TypeId) (i : TypeInfo) (z : Value) (bytes : Nat) (ht : P.underlying t = some (.slice e)) (hi : P.info? e = some i) (hz : i.zero = some z)
    (hsize : i.size = 1) (hby : i.bytes = bytes) (hzs : z.cells.size = 1) (v : Value) (xs : List Value) (hown : Own w base e v xs)
    (B : Nat) (A : Option Addr) (c : Nat) (news : List Value) (hs : Sees w B A news) (h1 : ∀ u ∈ news, u.oneCell' = true)
    (h63 : xs.length + news.length ≤ maxLen) (hbytes : (xs.length + news.length) * bytes ≤ 140737488355328) (hbase : base ≤ w.heap.size) :
    ∃ A' c' w', (Builtin.append_ #[t, t] ty #[v, .slice A news.length c]).run P w = .ok (.slice A' (xs.length + news.length) c') w' ∧ Own w' base e (.slice A' (xs.length + news.length) c') (xs ++ news) ∧
      w.grownBy w' v.ownBlock ∧ ((Value.slice A' (xs.length + news.length) c').ownBlock = v.ownBlock ∨ (Value.slice A' (xs.length + news.length) c').ownBlock = some w.heap.size) := by
  obtain ⟨A0, c0, hv⟩ := hown.form
  rcases A with _ | ad
  · have hn : news = [] := by
      rcases news with _ | ⟨x, l⟩
      · rfl
      · obtain ⟨b, o, h, _⟩ := hs (by simp)
        cases h
    subst hn
    subst hv
    refine ⟨A0, c0, w, ?_, by simpa using hown, World.grownBy.refl w _, .inl (by simp)⟩
    rcases hown.2 with ⟨hv0, h0⟩ | ⟨g, cap, cur, hv0, _, _, hnc, _⟩
    · injection hv0 with h1' h2' h3'
      subst h1' h3'
      simp [Builtin.append_, run_underlying ht, sizeOf, typeInfo, hi, Builtin.lenOf, Builtin.firstCells, h0]
    · injection hv0 with h1' h2' h3'
      subst h1' h3'
      simp [Builtin.append_, run_underlying ht, sizeOf, typeInfo, hi, Builtin.lenOf, Builtin.firstCells, hnc, storeCells]
  · have hcells : ∀ j u, news[j]? = some u → w.cell? (ad.add j) = some u := by
      intro j u hu
      have hj : j < news.length := by
        rcases Nat.lt_or_ge j news.length with h | h
        · exact h
        · rw [List.getElem?_eq_none h] at hu; cases hu
      obtain ⟨b, o, h, _, hc⟩ := hs (by omega)
      injection h with h
      subst h
      rw [add_at, hc j hj, ← hu, List.getElem?_eq_getElem hj]
    obtain ⟨v', w', hrun, h2, h3, _, h5⟩ := run_append_own_at (P := P) w base t ty e i z 1 bytes ht hi hz hsize hby hzs (by omega) v xs.length xs hown ad news.length c news (by simp) hcells h1 h63 hbytes hbase
    have h2' : Own w' base e v' (xs ++ news) := by
      unfold Own; rw [List.length_append]; exact h2
    obtain ⟨A', c', hv'⟩ := h2'.form
    rw [List.length_append] at hv'
    subst hv'
    exact ⟨A', c', w', hrun, h2', h3, h5⟩

/-- append onto a row of the call's own, whatever the source is. -/
theorem wpList_app {P : Program} (w : World) {ops : Array Oper} {rest : List Oper} {o : Oper} {a : Act} {Q : Exit → Act → World → Prop} (hgd : o.guard = none) (s x : Operand) (t : TypeId)
    (ho : o.op = .call { callee := .builtin .append, args := #[s, x], argTypes := #[t, t] })
    (base : Nat) (e : TypeId) (i : TypeInfo) (z : Value) (bytes : Nat) (ht : P.underlying t = some (.slice e)) (hi : P.info? e = some i) (hz : i.zero = some z)
    (hsize : i.size = 1) (hby : i.bytes = bytes) (hzs : z.cells.size = 1) (v : Value) (xs : List Value) (nx : Nat) (hv : a.eval s = v) (hnx : xs.length = nx) (hown : Own w base e v xs)
    (B : Nat) (A : Option Addr) (c : Nat) (news : List Value) (n : Nat) (hx : a.eval x = .slice A n c) (hn : news.length = n) (hs : Sees w B A news) (h1 : ∀ u ∈ news, u.oneCell' = true)
    (h63 : nx + n ≤ maxLen) (hbytes : (nx + n) * bytes ≤ 140737488355328) (hbase : base ≤ w.heap.size)
    (h : ∀ A' c' w', Own w' base e (.slice A' (nx + n) c') (xs ++ news) → Below base w w' → w.grownBy w' v.ownBlock →
      ((Value.slice A' (nx + n) c').ownBlock = v.ownBlock ∨ (Value.slice A' (nx + n) c').ownBlock = some w.heap.size) →
      wpList P ops Q rest (a.put o.dst (.slice A' (nx + n) c')) w') : wpList P ops Q (o :: rest) a w := by
  subst hn
  subst hnx
  refine wpList_plain hgd fun K hK => ?_
  obtain ⟨A', c', w', hrun, h2, h3, h4⟩ := run_app (P := P) w base t o.type e i z bytes ht hi hz hsize hby hzs v xs hown B A c news hs h1 h63 hbytes hbase
  unfold Oper.wp execOp
  simp only [ho, resolve, invoke, builtin, Sem.run_bind, Sem.run_pure, Result.andThen_ok, List.map_toArray, List.map_cons, List.map_nil, hv, hx, hrun]
  exact hK _ _ (h A' c' w' h2 ((Below.refl _ _).grown h3 hbase (fun k hk => (hown.lt k hk).1)) h3 h4)

/-- s[k:]: what the cut is, under one name. -/
theorem cut_fact {P : Program} (t e : TypeId) (i : TypeInfo) (ht : P.underlying t = some (.slice e)) (hi : P.info? e = some i) (hsz : i.size = 1) {w : World} {B : Nat} {A : Option Addr} {xs : List Value} (h : Sees w B A xs)
    (n m k c : Nat) (K : Int) (kl : IntKind) (hn : xs.length = n) (hnk : n = m + k) (hK : K = (k : Int)) (hc : n ≤ c) :
    ∃ A2, (∀ wx, (Instr.slice t (.slice A n c) (some (.int kl K)) none none).run P wx = .ok (.slice A2 m (c - k)) wx) ∧ Sees w B A2 (xs.drop k) := by
  refine ⟨if c = k then A else A.map (·.add k), fun wx => ?_, h.cut (by omega)⟩
  have he : P.elem t = e := by simp [Program.elem, ht]
  have ht' : P.underlying t = some (.slice (P.elem t)) := by rw [he]; exact ht
  rw [run_slice_l wx t A n c ht' kl K (by omega) (by omega), he]
  have hm : n - k = m := by omega
  simp [sizeOf, typeInfo, hi, hsz, sliced, hK, hm]

/-- A row of cells that was just laid. -/
theorem sees_lit (w : World) (arr : Array Value) (t : TypeId) (fr : Nat × Nat) (xs : List Value) (h : arr.toList = xs) : Sees (w.alloc (.cells arr t fr)) (w.heap.size + 1) (some ⟨w.heap.size, 0, none⟩) xs := fun _ => by
  refine ⟨w.heap.size, 0, rfl, by omega, fun j hj => ?_⟩
  have e1 : (w.alloc (.cells arr t fr)).heap[w.heap.size]? = some (.cells arr t fr) := heap_alloc_new w _
  subst h
  simp only [World.cell?, e1, Nat.zero_add]
  simp at hj
  simp [hj]

theorem drop_of_take {ys xs : List Value} {n k : Nat} (h : ys.take n = xs) : xs.drop k = (ys.drop k).take (n - k) := by subst h; rw [List.drop_take]
theorem madeCells_list (z : Value) (n : Nat) (hz : z.cells = #[z]) : (madeCells z.cells n).toList = List.replicate n z := by
  rw [hz, toList_madeCells_one]

/-- make([]T, n, c): n zero elements of the call's own. -/
theorem wpList_mk {P : Program} (w : World) {ops : Array Oper} {rest : List Oper} {o : Oper} {a : Act} {Q : Exit → Act → World → Prop}
    (hg : o.guard = none) (l c : Operand) (t : TypeId) (hop : o.op = Op.makeSlice t l c)
    (base : Nat) (e : TypeId) (i : TypeInfo) (z : Value) (h1 : P.underlying t = some (.slice e)) (h2 : P.info? e = some i) (h3 : i.zero = some z) (h4 : i.size = 1) (hz1 : z.cells = #[z])
    (kl kc : IntKind) (L C : Int) (n m : Nat) (hl : a.eval l = .int kl L) (hc : a.eval c = .int kc C) (hL : L = (n : Int)) (hC : C = (m : Int)) (hnm : n ≤ m) (b2 : i.bytes * m ≤ 281474976710656) (b3 : m ≤ maxLen) (b4 : base ≤ w.heap.size)
    (hK : ∀ w', Own w' base e (.slice (some ⟨w.heap.size, 0, none⟩) n m) (List.replicate n z) → Below base w w' → w.grownBy w' none → Hid (w'.heap.size = w.heap.size + 1) →
      wpList P ops Q rest (a.put o.dst (.slice (some ⟨w.heap.size, 0, none⟩) n m)) w') :
    wpList P ops Q (o :: rest) a w := by
  refine wpList_plain hg fun K hK' => ?_
  have h63' : (m : Int) ≤ 9223372036854775807 := by
    have h := b3
    simp [maxLen] at h
    omega
  have hb' : (i.bytes : Int) * (m : Int) ≤ 281474976710656 := by
    have h : ((i.bytes * m : Nat) : Int) ≤ 281474976710656 := by omega
    rwa [Int.natCast_mul] at h
  have hrun := run_make (P := P) w t e i z h1 h2 h3 kl kc n m (by omega) (by omega) hb' h63'
  simp only [Int.toNat_natCast, h4, Nat.mul_one] at hrun
  subst hL
  subst hC
  unfold Oper.wp
  simp [execOp, hop, hl, hc, hrun, Result.andThen]
  refine hK' _ _ (hK _ ?_ ((Below.refl _ _).alloc b4 _) (World.grownBy_alloc w _ none) (Lib.hid (by simp)))
  refine ⟨by simp, .inr ⟨w.heap.size, m, _, by simp, b4, heap_alloc_new w _, by simpa using hnm, b3, by simp [size_madeCells], ?_⟩⟩
  rw [madeCells_list z m hz1]
  simp [List.take_replicate, Nat.min_eq_left hnm]

/-- copy into a row of the call's own. -/
theorem wpList_cp {P : Program} (w : World) {ops : Array Oper} {rest : List Oper} {o : Oper} {a : Act} {Q : Exit → Act → World → Prop} (hgd : o.guard = none) (d s : Operand) (t : TypeId)
    (ho : o.op = .call { callee := .builtin .copy, args := #[d, s], argTypes := #[t, t] })
    (base : Nat) (e : TypeId) (hu : P.underlying t = some (.slice e)) (hsz : (P.info? e).map (·.size) = some 1)
    (D : Option Addr) (n dc : Nat) (xs : List Value) (hd : a.eval d = .slice D n dc) (hnx : xs.length = n) (hown : Own w base e (.slice D n dc) xs)
    (B : Nat) (A : Option Addr) (m c : Nat) (news : List Value) (hx : a.eval s = .slice A m c) (hn : news.length = m) (hs : Sees w B A news) (h1 : ∀ u ∈ news, u.oneCell' = true)
    (h : ∀ w', Own w' base e (.slice D n dc) (news.take n ++ xs.drop m) → Below base w w' → w.grownBy w' (Value.slice D n dc).ownBlock → Hid (w'.heap.size = w.heap.size) → wpList P ops Q rest (a.put o.dst (goInt (Nat.min m n))) w') : wpList P ops Q (o :: rest) a w := by
  subst hn
  subst hnx
  by_cases h0 : Nat.min news.length xs.length = 0
  · have e1 : news.take xs.length ++ xs.drop news.length = xs := by
      simp only [Nat.min_def] at h0
      split at h0
      · rw [List.eq_nil_of_length_eq_zero h0]; simp
      · rw [List.eq_nil_of_length_eq_zero h0]; simp
    refine wpList_copy_nothing hgd d s t t ho e hu hsz D A xs.length dc news.length c hd hx h0 ?_
    rw [e1] at h
    have := h w hown (Below.refl _ _) (World.grownBy.refl w _) (Lib.hid rfl)
    rwa [h0] at this
  · have hpn : 0 < news.length := by
      rcases Nat.eq_zero_or_pos news.length with h' | h'
      · exact absurd (by rw [h']; exact Nat.zero_min _) h0
      · exact h'
    have hpx : 0 < xs.length := by
      rcases Nat.eq_zero_or_pos xs.length with h' | h'
      · exact absurd (by rw [h']; exact Nat.min_zero _) h0
      · exact h'
    rcases hown.2 with ⟨_, hz⟩ | ⟨g, cap, cur, hv, hbg, hg, hnc, hcm, hcs, htake⟩
    · omega
    · injection hv with e1 e2 e3
      subst e1 e3
      obtain ⟨b, off, rfl, hbB, hcell⟩ := hs hpn
      have hlen : (news.take xs.length).length = Nat.min news.length xs.length := by
        rw [List.length_take]; exact Nat.min_comm _ _
      have hle : Nat.min news.length xs.length ≤ xs.length := Nat.min_le_right _ _
      refine wpList_copy_own hgd d s t t ho e hu hsz g 0 xs.length dc ⟨b, off, none⟩ news.length c hd hx cur e hg (news.take xs.length) hlen ?_ ?_ ?_ ?_
      · intro j v hj
        have hjl : j < (news.take xs.length).length := by
          rcases Nat.lt_or_ge j (news.take xs.length).length with h' | h'
          · exact h'
          · rw [List.getElem?_eq_none h'] at hj; cases hj
        have hjn : j < news.length := by rw [hlen] at hjl; exact Nat.lt_of_lt_of_le hjl (Nat.min_le_left _ _)
        rw [add_at, hcell j hjn, ← hj, List.getElem?_take]
        rw [if_pos (by rw [hlen] at hjl; exact Nat.lt_of_lt_of_le hjl hle), List.getElem?_eq_getElem hjn]
      · rw [hlen]; omega
      · intro v hv'
        exact h1 v (List.mem_of_mem_take hv')
      · rw [hlen]
        refine h _ ?_ (below_setRow (Below.refl _ _) hbg _) ⟨rfl, rfl, rfl, by simp, fun k _ hk => setRow_other w g k _ (fun e => hk (by simp [Value.ownBlock, e]))⟩ (Lib.hid (by simp))
        have hl2 : (news.take xs.length ++ xs.drop news.length).length = xs.length := by
          simp only [List.length_append, List.length_take, List.length_drop]
          omega
        refine ⟨by simp, .inr ⟨g, dc, _, by rw [hl2], hbg, setRow_heap w g cur _ e _ hg, by rw [hl2]; exact hnc, hcm, ?_, ?_⟩⟩
        · simp only [List.take_zero, List.nil_append, Nat.zero_add, List.size_toArray, List.length_append, List.length_drop, Array.length_toList, hlen]
          omega
        · rw [hl2]
          simp only [List.take_zero, List.nil_append, Nat.zero_add, Nat.mul_one]
          rw [List.take_append, hlen]
          have e2 : (news.take xs.length).take xs.length = news.take xs.length := by rw [List.take_take, Nat.min_self]
          rw [e2]
          congr 1
          rw [Nat.mul_one] at htake
          have e4 : xs.drop news.length = xs.drop (Nat.min news.length xs.length) := by
            simp only [Nat.min_def]
            split
            · rfl
            · rw [List.drop_eq_nil_of_le (by omega), List.drop_eq_nil_of_le (by omega)]
          rw [e4, drop_of_take htake]

/-- The row of a literal is the call's own. -/
theorem own_lit (w : World) (base : Nat) (e : TypeId) (cs : Array Value) (hb : base ≤ w.heap.size) (hm : cs.size ≤ maxLen) :
    Own (w.alloc (.cells cs e)) base e (.slice (some ⟨w.heap.size, 0, none⟩) cs.size cs.size) cs.toList := by
  have h := World.ownsRow_lit (base := base) (size := 1) (e := e) w cs cs.size hb hm (by simp)
  unfold Own
  rw [Array.length_toList]
  exact h

theorem below_drewN {B : Nat} {a w : World} (h : Below B a w) (n : Nat) : Below B a (w.drewN n) := ⟨h.os, h.tape, h.output, h.size, h.block⟩
theorem Sees.byte {w : World} {B b o : Nat} {l : List UInt8} (h : Sees w B (some ⟨b, o, none⟩) (bvs l)) (j : Nat) (hj : j < l.length) : w.cell? ⟨b, o + j, none⟩ = some (.int .u8 (l[j].toNat : Int)) := by
  obtain ⟨b', o', e, _, hc⟩ := h (by rw [bvs_length]; omega)
  injection e with e
  injection e with e1 e2
  subst e1 e2
  rw [hc j (by rw [bvs_length]; exact hj)]
  simp [bvs, bv]
/-- A string by its bytes. -/
def str (l : List UInt8) : ByteArray := ⟨l.toArray⟩
theorem str_list (l : List UInt8) : (str l).toList = l := by rw [ByteArray.toList_eq]; rfl
theorem str_size (l : List UInt8) : (str l).size = l.length := by simp [str, ByteArray.size]
theorem str_get (l : List UInt8) (k : Nat) (h : k < (str l).size) : (str l)[k] = l[k]'(by rw [← str_size]; exact h) := rfl
theorem str_append (a b : List UInt8) : str a ++ str b = str (a ++ b) := by
  apply ByteArray.ext
  simp [str]
theorem str_eta (s : ByteArray) : str s.data.toList = s := by simp [str]

theorem bytes_back (l : List UInt8) : l.map ((fun n : Int => UInt8.ofNat n.toNat) ∘ fun c : UInt8 => (c.toNat : Int)) = l := by
  induction l with
  | nil => rfl
  | cons x l ih => simp only [List.map_cons, ih, Function.comp_apply, Int.toNat_natCast, UInt8.ofNat_toNat]
/-- string(b) of a slice of bytes. -/
theorem run_str {P : Program} (w : World) (B : Nat) (t e ts : TypeId) (ht : P.underlying t = some (.slice e)) (he : P.underlying e = some (.int .u8)) (hts : P.underlying ts = some .string) (A : Option Addr) (n c : Nat) (l : List UInt8)
    (hn : l.length = n) (hs : Sees w B A (bvs l)) : (convert t ts (.slice A n c)).run P w = .ok (.string (str l)) w := by
  rcases A with _ | ad
  · rw [run_convert_bytes_nil w t e ht he n c ts hts]
    have : l = [] := by
      rcases l with _ | ⟨x, l⟩
      · rfl
      · obtain ⟨b, o, h, _⟩ := hs (by simp [bvs])
        cases h
    subst this
    rfl
  · have hl : (loadCells ad n).run P w = .ok ((l.map fun c => (c.toNat : Int)).map (Value.int .u8)).toArray w := by
      have := run_loadCells_list (P := P) w ad (bvs l) (fun j v hj => by
        have hjl : j < (bvs l).length := by
          rcases Nat.lt_or_ge j (bvs l).length with h | h
          · exact h
          · rw [List.getElem?_eq_none h] at hj; cases hj
        obtain ⟨b, o, h, _, hc⟩ := hs (by omega)
        injection h with h
        subst h
        rw [add_at, hc j hjl, ← hj, List.getElem?_eq_getElem hjl])
      rw [bvs_length, hn] at this
      rw [this]
      congr 2
      simp [bvs, bv]
    rw [run_convert_bytes_string w t ts e _ n c ht he hts, run_bytesToString w _ n c _ hl, foldl_push_bytes]
    simp [str, ByteArray.empty, ByteArray.emptyWithCapacity]
    exact congrArg (fun z : List UInt8 => ([] : List UInt8) ++ z) (bytes_back l)

/-- The worlds that leave what lies below block B as it was in w. -/
structure Later (B : Nat) (w : World) where
  val : World
  below : Below B w val
instance {B : Nat} {w : World} : Nonempty (Later B w) := ⟨⟨w, Below.refl _ _⟩⟩
theorem wp_region_later {P : Program} {id : Nat} {Q : Exit → Act → World → Prop} {a : Act} {w : World} {l : List Oper} (B : Nat) (hm : P.follows .mixedOrders = true) (hB : Region.lexB .any l.toArray = true)
    (h : wpQuiet P l.toArray (fun w' => ∃ k : Later B w, w' = k.val) (fun a' => ∀ w', (∃ k : Later B w, w' = k.val) → Q .normal a' w') l a) : (Code.region id l.toArray true).wp P Q a w :=
  wp_region_quiet (C := fun w' => ∃ k : Later B w, w' = k.val) hm hB ⟨⟨w.drew, (Below.refl _ _).drew⟩, rfl⟩ (by simpa using h)
/-- A callee's contract, met in a later world. -/
theorem later_call {P : Program} {f : FuncId} {args : Array Value} {B : Nat} {w : World} {v : Value} (k : Later B w)
    (h : Calls P f args k.val fun e w' => e = .returned v ∧ Below B k.val w') : Calls P f args k.val fun e w' => e = .returned v ∧ ∃ k' : Later B w, w' = k'.val :=
  h.mono fun _ w' ⟨he, hb⟩ => ⟨he, ⟨w', k.below.trans hb⟩, rfl⟩
theorem later_own {P : Program} {f : FuncId} {args : Array Value} {B : Nat} {w : World} {v : Value} (k : Later B w) (hB : B ≤ w.heap.size)
    (h : Calls P f args k.val fun e w' => e = .returned v ∧ Below k.val.heap.size k.val w') : Calls P f args k.val fun e w' => e = .returned v ∧ ∃ k' : Later B w, w' = k'.val :=
  h.mono fun _ w' ⟨he, hb⟩ => ⟨he, ⟨w', k.below.trans (hb.mono (Nat.le_trans hB k.below.size))⟩, rfl⟩
theorem later_same {P : Program} {f : FuncId} {args : Array Value} {B : Nat} {w : World} {v : Value} (k : Later B w)
    (h : Calls P f args k.val fun e w' => e = .returned v ∧ k.val = w') : Calls P f args k.val fun e w' => e = .returned v ∧ ∃ k' : Later B w, w' = k'.val :=
  h.mono fun _ _ ⟨he, hb⟩ => ⟨he, k, hb.symm⟩

theorem bvs_one (l : List UInt8) : ∀ u ∈ bvs l, u.oneCell' = true := by
  intro u hu
  simp [bvs] at hu
  obtain ⟨c, _, rfl⟩ := hu
  rfl
theorem bvs_append (a b : List UInt8) : bvs (a ++ b) = bvs a ++ bvs b := by simp [bvs]

/-- What the frame gives of an argument of type []byte. -/
theorem open_bytes {H : Type} {enc : TypeId × Value → H} {P : Program} {t e : TypeId} {W : World} {v : Value} {d : DataW H} {ps : List MemPlace}
    (ht : P.underlying t = some (.slice e)) (he : P.underlying e = some (.int .u8)) (hc : P.cellsOf e = 1)
    {r : Reach} {base : Nat} (hv : Value.okWide P W r base t v) (h : DataW.Trod enc P W 0 (fun _ => true) true t v d ps) :
    ∃ A n c, ∃ l : List UInt8, v = .slice A n c ∧ n ≤ c ∧ c ≤ maxLen ∧ l.length = n ∧ Sees W W.heap.size A (bvs l) := by
  obtain ⟨A, n, c, rfl⟩ := okWide_slice ht hv
  obtain ⟨fuel, hf⟩ := h
  have hlt := DataW.trod_lt fuel _ _ _ hf
  rcases open_ints ht he hc hf with ⟨hcs, hx⟩ | ⟨x, n, c, zs, hcs, hb, hl, hm, hz, hx, hcell, hwz⟩
  · simp [Value.cells] at hcs
    obtain ⟨rfl, rfl, rfl⟩ := hcs
    exact ⟨none, 0, 0, [], rfl, Nat.le_refl _, by simp [maxLen], rfl, Sees.nil_⟩
  · simp [Value.cells] at hcs
    obtain ⟨rfl, rfl, rfl⟩ := hcs
    have hzl : zs.length = c := by simpa using hz
    refine ⟨some x, n, c, (zs.take n).map (fun z => UInt8.ofNat z.toNat), rfl, hl, hm, by simp; omega, fun hpos => ?_⟩
    simp [bvs] at hpos
    have h0 := hcell 0 (by omega)
    obtain ⟨b, off, spot⟩ := x
    have hspot : spot = none := by simpa [Addr.add] using World.cell?_spot h0
    subst hspot
    refine ⟨b, off, rfl, ?_, fun j hj => ?_⟩
    · simp only [Prod.mk.injEq] at hx
      obtain ⟨_, rfl⟩ := hx
      have := hlt (.cell b off) (by simp [MemPlace.row]; omega)
      simpa [MemPlace.block] using this
    · simp [bvs] at hj
      have hcj := hcell j (by omega)
      have hjl : j < zs.length := by omega
      have hg : zs.getD j 0 = zs[j] := by simp [hjl]
      have hw := hwz zs[j] (List.getElem_mem hjl)
      simp only [Lit.wf, IntKind.min, IntKind.max, IntKind.signed, IntKind.bits] at hw
      simp at hw
      rw [add_at, hg] at hcj
      rw [hcj]
      simp [bvs, bv]
      omega

theorem u32_wf {z : Int} (h : (Lit.int .u32 z).wf = true) : ∃ x : BitVec 32, z = (x.toNat : Int) := by
  have h2 : 0 ≤ z ∧ z ≤ 4294967295 := by simpa [Lit.wf, IntKind.min, IntKind.max, IntKind.signed, IntKind.bits] using h
  exact ⟨BitVec.ofNat 32 z.toNat, by rw [BitVec.toNat_ofNat]; omega⟩
theorem i64_wf {z : Int} (h : (Lit.int .i64 z).wf = true) : -9223372036854775808 ≤ z ∧ z ≤ 9223372036854775807 := by
  simpa [Lit.wf, IntKind.min, IntKind.max, IntKind.signed, IntKind.bits] using h

/-- Integers as the model's values, and a slice of them seen as a list. -/
def ivs (l : List Int) : List Value := l.map (Value.int .i64)
theorem ivs_length (l : List Int) : (ivs l).length = l.length := by simp [ivs]
theorem ivs_append (a b : List Int) : ivs (a ++ b) = ivs a ++ ivs b := by simp [ivs]
theorem ivs_one (l : List Int) : ∀ u ∈ ivs l, u.oneCell' = true := by
  intro u hu
  simp [ivs] at hu
  obtain ⟨c, _, rfl⟩ := hu
  rfl
theorem Sees.int {w : World} {B : Nat} {A : Option Addr} {l : List Int} (h : Sees w B A (ivs l)) (j : Nat) (hj : j < l.length) : ∃ b o, A = some ⟨b, o, none⟩ ∧ b < B ∧ w.cell? ⟨b, o + j, none⟩ = some (.int .i64 l[j]) := by
  obtain ⟨b, o, e, hb, hc⟩ := h (by rw [ivs_length]; omega)
  refine ⟨b, o, e, hb, ?_⟩
  rw [hc j (by rw [ivs_length]; exact hj)]
  simp [ivs]
/-- What the frame gives of an argument of type []int. -/
theorem open_intlist {H : Type} {enc : TypeId × Value → H} {P : Program} {t e : TypeId} {W : World} {v : Value} {d : DataW H} {ps : List MemPlace}
    (ht : P.underlying t = some (.slice e)) (he : P.underlying e = some (.int .i64)) (hc : P.cellsOf e = 1)
    {r : Reach} {base : Nat} (hv : Value.okWide P W r base t v) (h : DataW.Trod enc P W 0 (fun _ => true) true t v d ps) :
    ∃ A n c, ∃ l : List Int, v = .slice A n c ∧ n ≤ c ∧ c ≤ maxLen ∧ l.length = n ∧ (∀ z ∈ l, -9223372036854775808 ≤ z ∧ z ≤ 9223372036854775807) ∧ Sees W W.heap.size A (ivs l) := by
  obtain ⟨A, n, c, rfl⟩ := okWide_slice ht hv
  obtain ⟨fuel, hf⟩ := h
  have hlt := DataW.trod_lt fuel _ _ _ hf
  rcases open_ints ht he hc hf with ⟨hcs, hx⟩ | ⟨x, n, c, zs, hcs, hb, hl, hm, hz, hx, hcell, hwz⟩
  · simp [Value.cells] at hcs
    obtain ⟨rfl, rfl, rfl⟩ := hcs
    exact ⟨none, 0, 0, [], rfl, Nat.le_refl _, by simp [maxLen], rfl, by simp, Sees.nil_⟩
  · simp [Value.cells] at hcs
    obtain ⟨rfl, rfl, rfl⟩ := hcs
    have hzl : zs.length = c := by simpa using hz
    refine ⟨some x, n, c, zs.take n, rfl, hl, hm, by simp; omega, fun z hz' => i64_wf (hwz z (List.mem_of_mem_take hz')), fun hpos => ?_⟩
    simp [ivs] at hpos
    have h0 := hcell 0 (by omega)
    obtain ⟨b, off, spot⟩ := x
    have hspot : spot = none := by simpa [Addr.add] using World.cell?_spot h0
    subst hspot
    refine ⟨b, off, rfl, ?_, fun j hj => ?_⟩
    · simp only [Prod.mk.injEq] at hx
      obtain ⟨_, rfl⟩ := hx
      have := hlt (.cell b off) (by simp [MemPlace.row]; omega)
      simpa [MemPlace.block] using this
    · simp [ivs] at hj
      have hcj := hcell j (by omega)
      have hjl : j < zs.length := by omega
      have hg : zs.getD j 0 = zs[j] := by simp [hjl]
      rw [add_at, hg] at hcj
      rw [hcj]
      simp [ivs]

/-- What the frame gives of an array of integers. -/
theorem open_array {H : Type} {enc : TypeId × Value → H} {P : Program} {t e : TypeId} {n : Nat} {k : IntKind} {W : World} {r : Reach} {base : Nat} {v : Value} {d : DataW H} {ps : List MemPlace}
    (ht : P.underlying t = some (.array n e)) (he : P.underlying e = some (.int k)) (hc1 : P.cellsOf e = 1) (hcn : P.cellsOf t = n)
    (hv : Value.okWide P W r base t v) (h : DataW.Trod enc P W 0 (fun _ => true) true t v d ps) :
    ∃ zs : List Int, v = .agg (zs.map (Value.int k)).toArray ∧ zs.length = n ∧ ∀ z ∈ zs, (Lit.int k z).wf = true := by
  have hv' := hv
  simp only [Value.okWide, ht] at hv'
  obtain ⟨cs, rfl, hsz, hrow⟩ := hv'
  obtain ⟨fuel, hf⟩ := h
  obtain ⟨xs, m, rfl, hx, hl, hxl, heach⟩ := DataW.trod_array ht hf
  simp only [hc1, Nat.mul_one] at heach
  have hcl : cs.toList.length = n := by simpa [Value.cells, hcn] using hl
  have one : ∀ i (hi : i < cs.toList.length), ∃ z : Int, cs.toList[i] = .int k z ∧ (Lit.int k z).wf = true := by
    intro i hi
    have h1 := heach i (by omega)
    have e1 : ((Value.agg cs).cells.toList.drop i).take 1 = [cs.toList[i]] := by
      simp only [Value.cells]
      rw [List.drop_eq_getElem_cons hi]; rfl
    rw [e1, List.getElem?_eq_getElem (by rw [hxl]; omega)] at h1
    obtain ⟨z, e2, _, hw⟩ := DataW.trod_int he h1
    simp only [List.cons.injEq, and_true] at e2
    exact ⟨z, e2, hw⟩
  have all : ∀ l : List Value, (∀ i (hi : i < l.length), ∃ z : Int, l[i] = .int k z ∧ (Lit.int k z).wf = true) → ∃ zs : List Int, l = zs.map (Value.int k) ∧ ∀ z ∈ zs, (Lit.int k z).wf = true := by
    intro l
    induction l with
    | nil => intro _; exact ⟨[], rfl, by simp⟩
    | cons x l ih =>
      intro h
      obtain ⟨z, hz, hw⟩ := h 0 (by simp)
      obtain ⟨zs, hzs, hws⟩ := ih (fun i hi => by
        have := h (i + 1) (by simp; omega)
        simpa using this)
      refine ⟨z :: zs, by simp [hzs]; simpa using hz, ?_⟩
      intro y hy
      rcases List.mem_cons.1 hy with rfl | hy
      · exact hw
      · exact hws y hy
  obtain ⟨zs, hzs, hws⟩ := all cs.toList one
  refine ⟨zs, ?_, ?_, hws⟩
  · congr 1
    apply Array.toList_inj.1
    simpa using hzs
  · have := congrArg List.length hzs
    simp at this
    simp at hcl
    omega
/-- All arguments are read behind a call that leaves what was there as it was. -/
theorem keepAll {H : Type} {enc : TypeId × Value → H} {P : Program} (hl : laidOutB P = true) {W W' : World} (hb : Below W.heap.size W W') :
    ∀ {ts : List TypeId} {vs : List Value} {ds : List (DataW H)} {ps : List MemPlace}, (∀ t ∈ ts, P.readableRec t = true ∧ t < P.types.size) →
      DataW.TrodAll enc P W 0 (fun _ => true) true ts vs ds ps → DataW.TrodAll enc P W' 0 (fun b => decide (b < W.heap.size)) true ts vs ds ps
  | [], [], [], ps, _, h => h
  | t :: ts, v :: vs, d :: ds, ps, hr, h => by
    obtain ⟨p, q, hp, hq, e⟩ := h
    refine ⟨p, q, ?_, keepAll hl hb (fun t' ht' => hr t' (List.mem_cons_of_mem _ ht')) hq, e⟩
    have lt : ∀ x ∈ p, x.block < W.heap.size := by obtain ⟨m, hm⟩ := hp; exact DataW.trod_lt m _ _ _ hm
    exact Below.trod hl (hr t (List.mem_cons_self ..)).1 (hr t (List.mem_cons_self ..)).2 hp hb lt
  | [], [], _ :: _, _, _, h => by simp [DataW.TrodAll] at h
  | [], _ :: _, _, _, _, h => by simp [DataW.TrodAll] at h
  | _ :: _, [], _, _, _, h => by simp [DataW.TrodAll] at h
  | _ :: _, _ :: _, [], _, _, h => by simp [DataW.TrodAll] at h

/-- What a law owes behind its walk. -/
theorem law_post {H : Type} {enc : TypeId × Value → H} {P : Program} {fn : Func} {s : ChangeSpec} {W W' : World} {args : Array Value} {ds gs : List (DataW H)} {before : List MemPlace} {tb : TypeId}
    (hl : laidOutB P = true) (hread : ∀ t ∈ fn.params.toList, P.readableRec t = true ∧ t < P.types.size) (hvars : s.vars = []) (hres : fn.resultTypes = #[tb]) (hbool : P.underlying tb = some .bool)
    (hs : s.fn H ds = { results := [.lit (.bool true)], args := ds })
    (hW : DataW.Whole enc P fn.params.toList s.vars false W args.toList ds gs before) (hb : Below W.heap.size W W') :
    s.post enc P fn false true false false W args (.bool true) W' := by
  have hW' := hW
  obtain ⟨p, q, hA, hV, e, hfz, hnd⟩ := hW
  rw [hvars] at hV
  obtain ⟨rfl, rfl⟩ := trodVars_none hV
  refine ⟨ds, [], before, [], p, [], hW', ?_, ?_, ?_, hb.frame _, fun h => by cases h⟩
  · rw [hres, List.append_nil, hs]
    exact trodAll_mk1 (shut_bool hbool _)
  · rw [List.append_nil, hs]
    exact keepAll hl hb hread hA
  · rw [List.append_nil, hs, hvars]
    rfl
end Go.Proofs.Ytadmaalhhigbeaa

/- A block of cells that is known whole: loads and stores of parts of it; fields of cards as a list. -/
namespace Go.Proofs.Ytadmaalhhigbeaa
set_option linter.unusedVariables false
open Go Go.RowKit

/-- Block g holds these cells, and may be written. -/
def Blk (w : World) (g : Nat) (cs : List Value) : Prop := ∃ t, w.heap[g]? = some (.cells cs.toArray t (0, 0))

section
variable {w w' : World} {g : Nat} {cs : List Value}
theorem Blk.lt (h : Blk w g cs) : g < w.heap.size := by
  obtain ⟨t, h⟩ := h
  exact (Array.getElem?_eq_some_iff.1 h).1
theorem Blk.new (w : World) (cs : List Value) (t : TypeId) : Blk (w.alloc (.cells cs.toArray t)) w.heap.size cs := ⟨t, heap_alloc_new w _⟩
theorem Blk.cell (h : Blk w g cs) {j : Nat} {v : Value} (hj : cs[j]? = some v) : w.cell? ⟨g, j, none⟩ = some v := by
  obtain ⟨t, h⟩ := h
  simp [World.cell?, h, hj]
theorem Blk.frozen (h : Blk w g cs) (j : Nat) : w.frozen? ⟨g, j, none⟩ = false := by
  obtain ⟨t, h⟩ := h
  simp [World.frozen?, h]
theorem Blk.kept {row : Option Nat} (h : Blk w g cs) (hg : w.grownBy w' row) (hne : row ≠ some g) : Blk w' g cs := by
  have hlt := h.lt
  obtain ⟨t, h⟩ := h
  exact ⟨t, (hg.block g hlt (fun e => hne e.symm)).trans h⟩
theorem Blk.later (h : Blk w g cs) (hb : Below w.heap.size w w') : Blk w' g cs := by
  have hlt := h.lt
  obtain ⟨t, h⟩ := h
  exact ⟨t, (hb.block g hlt).trans h⟩
theorem Blk.below {B : Nat} (h : Blk w g cs) (hb : Below B w w') (hB : g < B) : Blk w' g cs := by
  obtain ⟨t, h⟩ := h
  exact ⟨t, (hb.block g hB).trans h⟩
theorem Blk.alloc (h : Blk w g cs) (o : Obj) : Blk (w.alloc o) g cs := by
  have hlt := h.lt
  obtain ⟨t, h⟩ := h
  exact ⟨t, (Below.heap_alloc w o g hlt).trans h⟩
theorem Blk.drewN (h : Blk w g cs) (k : Nat) : Blk (w.drewN k) g cs := h
theorem Blk.drew (h : Blk w g cs) : Blk w.drew g cs := h
theorem Blk.set (h : Blk w g cs) (j : Nat) (v : Value) : Blk (w.setCell ⟨g, j, none⟩ v) g (cs.set j v) := by
  have hlt := h.lt
  obtain ⟨t, h⟩ := h
  refine ⟨t, ?_⟩
  obtain ⟨h1, h2⟩ := Array.getElem?_eq_some_iff.1 h
  show (w.heap.modify g _)[g]? = _
  rw [Array.getElem?_eq_getElem (by rw [Array.size_modify]; exact hlt), Array.getElem_modify_self, h2]
  simp
theorem Blk.setOther {b : Nat} (h : Blk w g cs) (j : Nat) (v : Value) (hb : b ≠ g) : Blk (w.setCell ⟨b, j, none⟩ v) g cs := by
  obtain ⟨t, h⟩ := h
  exact ⟨t, (Below.heap_setCell w ⟨b, j, none⟩ v g (fun e => hb e.symm)).trans h⟩
theorem Blk.sets (h : Blk w g cs) : ∀ (vs : List Value) (o : Nat), o + vs.length ≤ cs.length → Blk (w.setCells g o vs) g (cs.take o ++ vs ++ cs.drop (o + vs.length)) := by
  intro vs
  induction vs generalizing w cs with
  | nil =>
    intro o ho
    show Blk w g _
    simpa using h
  | cons v vs ih =>
    intro o ho
    simp only [List.length_cons] at ho
    have h2 := ih (h.set o v) (o + 1) (by simp; omega)
    have e : (cs.set o v).take (o + 1) ++ vs ++ (cs.set o v).drop (o + 1 + vs.length) = cs.take o ++ (v :: vs) ++ cs.drop (o + (v :: vs).length) := by
      rw [List.take_succ_eq_append_getElem (by simp; omega), List.take_set_of_le (Nat.le_refl o), List.getElem_set_self, List.drop_set_of_lt (by omega)]
      simp [Nat.add_comm, Nat.add_left_comm]
    rw [e] at h2
    exact h2
theorem Blk.setsOther {b : Nat} (hb : b ≠ g) : ∀ (vs : List Value) (o : Nat) {w : World}, Blk w g cs → Blk (w.setCells b o vs) g cs
  | [], _, _, h => h
  | v :: vs, o, _, h => Blk.setsOther hb vs (o + 1) (h.setOther o v hb)
theorem below_sets {B b : Nat} (hb : B ≤ b) : ∀ (vs : List Value) (o : Nat) {a w : World}, Below B a w → Below B a (w.setCells b o vs)
  | [], _, _, _, h => h
  | v :: vs, o, _, _, h => below_sets hb vs (o + 1) (h.setCell hb v)
theorem size_setCell' (w : World) (p : Addr) (v : Value) : (w.setCell p v).heap.size = w.heap.size := by simp [World.setCell]
theorem size_sets (b : Nat) : ∀ (vs : List Value) (o : Nat) (w : World), (w.setCells b o vs).heap.size = w.heap.size
  | [], _, _ => rfl
  | v :: vs, o, w => (size_sets b vs (o + 1) _).trans (size_setCell' w _ v)
theorem Blk.range (h : Blk w g cs) (o : Nat) (vs : List Value) (hv : (cs.drop o).take vs.length = vs) : w.rangeAt g o vs := fun j v hj => by
  refine h.cell ?_
  have hlt : j < vs.length := (List.getElem?_eq_some_iff.1 hj).1
  rw [← hv, List.getElem?_take, if_pos hlt, List.getElem?_drop] at hj
  exact hj
theorem Blk.there (h : Blk w g cs) (o n : Nat) (hn : o + n ≤ cs.length) : w.there g o n := fun j hj => by
  refine ⟨?_, h.frozen _⟩
  rw [h.cell (j := o + j) (List.getElem?_eq_getElem (by omega))]
  rfl
end

/-- A value of a field: its kind, its number, its text. -/
abbrev V3 := Int × Int × ByteArray
def vcells (v : V3) : List Value := [.int .i64 v.1, .int .i64 v.2.1, .string v.2.2]
def vagg (v : V3) : Value := .agg #[.int .i64 v.1, .int .i64 v.2.1, .string v.2.2]
def zv : V3 := (0, 0, ⟨#[]⟩)
/-- The cells of fields. -/
def fcells (f : List V3) : List Value := f.flatMap vcells
theorem fcells_len (f : List V3) : (fcells f).length = 3 * f.length := by
  induction f with
  | nil => rfl
  | cons v f ih => simp only [fcells, List.flatMap_cons, List.length_append, List.length_cons] at *; rw [ih]; simp [vcells]; omega
theorem fcells_cons (v : V3) (f : List V3) : fcells (v :: f) = vcells v ++ fcells f := rfl
theorem fcells_get (f : List V3) (i : Nat) (h : i < f.length) : (fcells f)[3 * i]? = some (.int .i64 f[i].1) ∧ (fcells f)[3 * i + 1]? = some (.int .i64 f[i].2.1) ∧ (fcells f)[3 * i + 2]? = some (.string f[i].2.2) := by
  induction f generalizing i with
  | nil => simp at h
  | cons v f ih =>
    rw [fcells_cons]
    cases i with
    | zero => simp [vcells]
    | succ i =>
      have := ih i (by simpa using h)
      rw [show 3 * (i + 1) = 3 * i + 3 by omega]
      have h3 : (vcells v).length = 3 := rfl
      refine ⟨?_, ?_, ?_⟩
      · rw [List.getElem?_append_right (by omega), h3]; simpa using this.1
      · rw [List.getElem?_append_right (by omega), h3, show 3 * i + 3 + 1 - 3 = 3 * i + 1 by omega]; simpa using this.2.1
      · rw [List.getElem?_append_right (by omega), h3, show 3 * i + 3 + 2 - 3 = 3 * i + 2 by omega]; simpa using this.2.2
theorem fcells_drop (f : List V3) (i : Nat) (h : i < f.length) : ((fcells f).drop (3 * i)).take 3 = vcells f[i] := by
  induction f generalizing i with
  | nil => simp at h
  | cons v f ih =>
    rw [fcells_cons]
    cases i with
    | zero => simp [vcells]
    | succ i =>
      rw [show 3 * (i + 1) = 3 + 3 * i by omega, ← List.drop_drop, List.drop_append_of_le_length (by simp [vcells])]
      simpa [vcells] using ih i (by simpa using h)
theorem fcells_set (f : List V3) (i : Nat) (v : V3) (h : i < f.length) : (fcells f).take (3 * i) ++ vcells v ++ (fcells f).drop (3 * i + 3) = fcells (f.set i v) := by
  induction f generalizing i with
  | nil => simp at h
  | cons u f ih =>
    cases i with
    | zero => simp [fcells_cons, vcells]
    | succ i =>
      rw [List.set_cons_succ, fcells_cons, fcells_cons, ← ih i (by simpa using h)]
      rw [show 3 * (i + 1) = 3 * i + 3 by omega]
      simp [vcells]
theorem fcells_one (f : List V3) : ∀ u ∈ fcells f, u.oneCell' = true := by
  intro u hu
  simp only [fcells, List.mem_flatMap, vcells] at hu
  obtain ⟨v, _, hv⟩ := hu
  simp at hv
  rcases hv with rfl | rfl | rfl <;> rfl

/-- Of two lists of fields: the first one's where p says so. -/
def mix (p : Nat → Bool) (a c : List V3) : List V3 := (List.range 8).map fun i => if p i then a.getD i zv else c.getD i zv
theorem mix_len (p : Nat → Bool) (a c : List V3) : (mix p a c).length = 8 := by simp [mix]
theorem mix_get (p : Nat → Bool) (a c : List V3) (i : Nat) (h : i < (mix p a c).length) : (mix p a c)[i] = if p i then a.getD i zv else c.getD i zv := by simp [mix]
theorem mix_none (a c : List V3) (hc : c.length = 8) : mix (fun _ => false) a c = c := by
  apply List.ext_getElem
  · simp [mix, hc]
  · intro i h1 h2
    rw [mix_get]
    simp [h2]
theorem mix_all (a c : List V3) (ha : a.length = 8) : mix (fun _ => true) a c = a := by
  apply List.ext_getElem
  · simp [mix, ha]
  · intro i h1 h2
    rw [mix_get]
    simp [h2]
theorem mix_congr {p q : Nat → Bool} (a c : List V3) (h : ∀ i, i < 8 → p i = q i) : mix p a c = mix q a c := by
  unfold mix
  refine List.map_congr_left fun i hi => ?_
  rw [h i (by simpa using hi)]
theorem mix_set (p : Nat → Bool) (a c : List V3) (k : Nat) (hk : k < 8) (ha : k < a.length) : (mix p a c).set k a[k] = mix (fun i => p i || i == k) a c := by
  apply List.ext_getElem
  · simp [mix]
  · intro i h1 h2
    rw [mix_get, List.getElem_set]
    by_cases e : k = i
    · subst e; simp [ha]
    · rw [if_neg e, mix_get]
      have : (i == k) = false := by simpa using fun h => e h.symm
      simp [this]
end Go.Proofs.Ytadmaalhhigbeaa

/- Sets of small numbers as 32 bits: what is in them, with a number, without it. -/
namespace Go.Proofs.Ytadmaalhhigbeaa
open Go Go.RowKit
namespace BitM

theorem ofInt_nat (a : BitVec 32) : BitVec.ofInt 32 (a.toNat : Int) = a := by
  apply BitVec.eq_of_toNat_eq
  rw [BitVec.toNat_ofInt]
  have := a.isLt
  omega
theorem wrap_nat (a : BitVec 32) : IntKind.u32.wrap (a.toNat : Int) = (a.toNat : Int) := by
  have := a.isLt
  simp [IntKind.wrap, IntKind.signed, IntKind.bits]
  omega
theorem u32_and (a b : BitVec 32) : bits .and .u32 (a.toNat : Int) (b.toNat : Int) = ((a &&& b).toNat : Int) := by
  show IntKind.u32.wrap ((BitVec.ofInt 32 (a.toNat : Int) &&& BitVec.ofInt 32 (b.toNat : Int)).toNat : Int) = _
  rw [ofInt_nat, ofInt_nat, wrap_nat]
theorem u32_or (a b : BitVec 32) : bits .or .u32 (a.toNat : Int) (b.toNat : Int) = ((a ||| b).toNat : Int) := by
  show IntKind.u32.wrap ((BitVec.ofInt 32 (a.toNat : Int) ||| BitVec.ofInt 32 (b.toNat : Int)).toNat : Int) = _
  rw [ofInt_nat, ofInt_nat, wrap_nat]
theorem u32_andNot (a b : BitVec 32) : bits .andNot .u32 (a.toNat : Int) (b.toNat : Int) = ((a &&& ~~~b).toNat : Int) := by
  show IntKind.u32.wrap ((BitVec.ofInt 32 (a.toNat : Int) &&& ~~~ BitVec.ofInt 32 (b.toNat : Int)).toNat : Int) = _
  rw [ofInt_nat, ofInt_nat, wrap_nat]
theorem nat_eq (a b : BitVec 32) : ((a.toNat : Int) == (b.toNat : Int)) = (a == b) := by
  rw [Bool.eq_iff_iff]
  simp only [beq_iff_eq]
  constructor
  · intro h; exact BitVec.eq_of_toNat_eq (by omega)
  · intro h; rw [h]
theorem nat_eq0 (a : BitVec 32) : ((a.toNat : Int) == 0) = (a == 0#32) := nat_eq a 0#32
theorem nat_ne0 (a : BitVec 32) : ((a.toNat : Int) != 0) = (a != 0#32) := by
  have := nat_eq0 a
  simp only [bne, this]

/-- The set of one number; none, if it is in no set. -/
def one (n : Int) : BitVec 32 := if 0 ≤ n ∧ n < 32 then BitVec.twoPow 32 n.toNat else 0#32
/-- Is a number in a set? -/
def has (x : BitVec 32) (n : Int) : Bool := decide (0 ≤ n ∧ n < 32) && x.getLsbD n.toNat
def put (x : BitVec 32) (n : Int) : BitVec 32 := x ||| one n

theorem one_in {k : Nat} (h : k < 32) : one (k : Int) = BitVec.twoPow 32 k := by unfold one; rw [if_pos (by omega)]; rfl
theorem one_out {n : Int} (h : ¬ (0 ≤ n ∧ n < 32)) : one n = 0#32 := if_neg h
theorem has_in (x : BitVec 32) {k : Nat} (h : k < 32) : has x (k : Int) = x.getLsbD k := by
  unfold has; rw [decide_eq_true (by omega)]; rfl
theorem has_out (x : BitVec 32) {n : Int} (h : ¬ (0 ≤ n ∧ n < 32)) : has x n = false := by unfold has; rw [decide_eq_false h]; rfl
theorem and_one (x : BitVec 32) (n : Int) : (x &&& one n != 0#32) = has x n := by
  by_cases h : 0 ≤ n ∧ n < 32
  · obtain ⟨k, rfl⟩ := Int.eq_ofNat_of_zero_le h.1
    have hk : k < 32 := by omega
    rw [one_in hk, has_in x hk, BitVec.and_twoPow]
    cases hb : x.getLsbD k
    · simp
    · simp only [if_true, bne_iff_ne, ne_eq]
      intro he
      have := congrArg (fun v : BitVec 32 => v.getLsbD k) he
      simp [hk] at this
  · rw [one_out h, has_out x h]; simp
theorem two_pow_nat {k : Nat} (h : k < 32) : (BitVec.twoPow 32 k).toNat = 2 ^ k := by
  rw [BitVec.toNat_twoPow]
  exact Nat.mod_eq_of_lt (Nat.pow_lt_pow_right (by omega) h)
theorem put_add {x : BitVec 32} {k : Nat} (h : x.getLsbD k = false) : x + BitVec.twoPow 32 k = x ||| BitVec.twoPow 32 k := by
  apply BitVec.add_eq_or_of_and_eq_zero
  rw [BitVec.and_twoPow, h]; rfl
theorem put_add_nat {x : BitVec 32} {k : Nat} (hk : k < 32) (h : x.getLsbD k = false) : x.toNat + 2 ^ k = (x ||| BitVec.twoPow 32 k).toNat ∧ x.toNat + 2 ^ k < 4294967296 := by
  have h1 := put_add h
  have h2 := congrArg BitVec.toNat h1
  rw [BitVec.toNat_add, two_pow_nat hk] at h2
  have hlt : x.toNat + 2 ^ k < 2 ^ 32 := by
    have hx := x.isLt
    have hb : x.toNat / 2 ^ k % 2 = 0 := by
      have := h
      rw [BitVec.getLsbD, Nat.testBit_eq_decide_div_mod_eq] at this
      simp at this
      omega
    have hp : (2 : Nat) ^ 32 = 2 ^ k * (2 * 2 ^ (31 - k)) := by
      rw [← Nat.pow_succ', ← Nat.pow_add]; congr 1; omega
    have hd := Nat.div_add_mod x.toNat (2 ^ k)
    have hm := Nat.mod_lt x.toNat (Nat.two_pow_pos k)
    have hq : x.toNat / 2 ^ k < 2 * 2 ^ (31 - k) := by
      apply Nat.div_lt_of_lt_mul; rw [← hp]; exact hx
    have hq2 : x.toNat / 2 ^ k + 2 ≤ 2 * 2 ^ (31 - k) := by omega
    have h3 := Nat.mul_le_mul_left (2 ^ k) hq2
    rw [Nat.mul_add] at h3
    omega
  rw [Nat.mod_eq_of_lt hlt] at h2
  exact ⟨h2, by omega⟩
theorem put_self {x : BitVec 32} {n : Int} (h : has x n = true) : put x n = x := by
  unfold put
  by_cases hn : 0 ≤ n ∧ n < 32
  · obtain ⟨k, rfl⟩ := Int.eq_ofNat_of_zero_le hn.1
    have hk : k < 32 := by omega
    rw [has_in x hk] at h
    rw [one_in hk]
    apply BitVec.eq_of_getLsbD_eq
    intro i hi
    simp only [BitVec.getLsbD_or, BitVec.getLsbD_twoPow]
    by_cases e : k = i
    · subst e; simp [h]
    · simp [e]
  · rw [has_out x hn] at h; cases h
theorem has_zero (n : Int) : has 0#32 n = false := by unfold has; simp
theorem has_put (x : BitVec 32) (n m : Int) : has (put x n) m = (has x m || (decide (n = m) && decide (0 ≤ n ∧ n < 32))) := by
  by_cases hm : 0 ≤ m ∧ m < 32
  · obtain ⟨k, rfl⟩ := Int.eq_ofNat_of_zero_le hm.1
    have hk : k < 32 := by omega
    rw [has_in _ hk, has_in _ hk]
    unfold put
    rw [BitVec.getLsbD_or]
    by_cases hn : 0 ≤ n ∧ n < 32
    · obtain ⟨j, rfl⟩ := Int.eq_ofNat_of_zero_le hn.1
      have hj : j < 32 := by omega
      rw [one_in hj, BitVec.getLsbD_twoPow, decide_eq_true hn]
      by_cases e : j = k
      · subst e; simp [hk]
      · have : ¬ ((j : Int) = (k : Int)) := by omega
        simp [e, this]
    · rw [one_out hn, decide_eq_false hn]; simp
  · rw [has_out _ hm, has_out _ hm]
    by_cases e : n = m
    · subst e; rw [decide_eq_false hm]; simp
    · rw [decide_eq_false e]; simp
/-- Two sets with the same numbers are one. -/
theorem ext {x y : BitVec 32} (h : ∀ n : Int, has x n = has y n) : x = y := by
  apply BitVec.eq_of_getLsbD_eq
  intro i hi
  have := h (i : Int)
  rwa [has_in x hi, has_in y hi] at this
theorem bit_of_div (x : BitVec 32) {k : Nat} (h : k < 32) : (((x.toNat / 2 ^ k % 2 : Nat) : Int) == 1) = has x (k : Int) := by
  rw [has_in x h, BitVec.getLsbD, Nat.testBit_eq_decide_div_mod_eq, Bool.eq_iff_iff]
  generalize x.toNat / 2 ^ k % 2 = m
  simp only [beq_iff_eq, decide_eq_true_eq]
  omega
end BitM
end Go.Proofs.Ytadmaalhhigbeaa

/- bits and the document's sets: bit, Has, With, Within, One: what each returns. -/
namespace Go.Proofs.Ytadmaalhhigbeaa
set_option linter.unusedVariables false
open Go.RowKit BitM

theorem within_any (x y : BitVec 32) (w : World) : Calls Try.prog 65 #[.int .u32 (x.toNat : Int), .int .u32 (y.toNat : Int)] w fun e w' => e = .returned (.bool (x &&& ~~~y == 0#32)) ∧ w = w' := by
  have h1 := BitM.u32_andNot x y
  have h2 := nat_eq0 (x &&& ~~~y)
  generalize x &&& ~~~y = r at h1 h2 ⊢
  go_enter Try.func65, Try.ntmps65
  go_wp2_with fail
  go_ret
  exact ⟨rfl, rfl⟩
end Go.Proofs.Ytadmaalhhigbeaa

/- Values and fields of cards: which may be, which are too long: what each returns. -/
namespace Go.Proofs.Ytadmaalhhigbeaa
set_option linter.unusedVariables false
open Go Go.RowKit BitM

def empty : ByteArray := ⟨#[]⟩
/-- May a value be? -/
def vchk (v : V3) : Bool :=
  if v.1 = 0 then decide (v.2.1 = 0 ∧ v.2.2 = empty)
  else if v.1 = 1 then decide (0 ≤ v.2.1 ∧ v.2.1 ≤ 1099511627776 ∧ v.2.2 = empty)
  else if v.1 = 2 then decide (v.2.1 = 0 ∧ v.2.2.size ≤ 24)
  else false

theorem nil_str_iff (s : ByteArray) : s.toList = [] ↔ s = empty := by
  rw [ByteArray.toList_eq]
  constructor
  · intro h
    apply ByteArray.ext
    apply Array.ext'
    simpa [empty] using h
  · rintro rfl; rfl
theorem vchk_0 (n : Int) (s : ByteArray) : vchk (0, n, s) = decide (n = 0 ∧ s.toList = []) := by
  unfold vchk
  simp only [if_true, nil_str_iff]
theorem vchk_1 (n : Int) (s : ByteArray) : vchk (1, n, s) = decide (0 ≤ n ∧ n ≤ 1099511627776 ∧ s.toList = []) := by
  unfold vchk
  simp only [nil_str_iff]
  rfl
theorem vchk_2 (n : Int) (s : ByteArray) : vchk (2, n, s) = decide (n = 0 ∧ s.size ≤ 24) := rfl
theorem vchk_3 {k : Int} (n : Int) (s : ByteArray) (h0 : k ≠ 0) (h1 : k ≠ 1) (h2 : k ≠ 2) : vchk (k, n, s) = false := by
  unfold vchk
  simp only [h0, h1, h2, if_false]

set_option maxHeartbeats 800000 in
theorem vcheck_any (k n : Int) (s : ByteArray) (w : World) :
    Calls Try.prog 89 #[.agg #[.int .i64 k, .int .i64 n, .string s]] w fun e w' => e = .returned (.bool (vchk (k, n, s))) ∧ Below w.heap.size w w' := by
  by_cases h0 : k = 0
  · subst h0
    rw [vchk_0]
    go_enter Try.func89, Try.ntmps89
    go_wp2
    all_goals
      go_ret
      refine ⟨congrArg (fun b => Ending.returned (.bool b)) ?_, (Below.refl _ _).alloc (Nat.le_refl _) _⟩
      first | (simp_all; done) | (cases hs : s.toList <;> simp_all; done) | (simp_all; omega) | (cases hs : s.toList <;> simp_all <;> omega)
  by_cases h1 : k = 1
  · subst h1
    rw [vchk_1]
    go_enter Try.func89, Try.ntmps89
    go_wp2
    all_goals
      go_ret
      refine ⟨congrArg (fun b => Ending.returned (.bool b)) ?_, (Below.refl _ _).alloc (Nat.le_refl _) _⟩
      first | (simp_all; done) | (cases hs : s.toList <;> simp_all; done) | (simp_all; omega) | (cases hs : s.toList <;> simp_all <;> omega)
  by_cases h2 : k = 2
  · subst h2
    rw [vchk_2]
    go_enter Try.func89, Try.ntmps89
    go_wp2
    all_goals
      go_ret
      refine ⟨congrArg (fun b => Ending.returned (.bool b)) ?_, (Below.refl _ _).alloc (Nat.le_refl _) _⟩
      first | (simp_all; done) | (cases hs : s.toList <;> simp_all; done) | (simp_all; omega) | (cases hs : s.toList <;> simp_all <;> omega)
  · rw [vchk_3 n s h0 h1 h2]
    have b0 : (k == 0) = false := by simpa using h0
    have b1 : (k == 1) = false := by simpa using h1
    have b2 : (k == 2) = false := by simpa using h2
    clear h0 h1 h2
    go_enter Try.func89, Try.ntmps89
    go_wp2
    go_ret
    exact ⟨rfl, (Below.refl _ _).alloc (Nat.le_refl _) _⟩

set_option maxHeartbeats 800000 in
theorem rvcheck_any (k n : Int) (s : ByteArray) (w : World) :
    Calls Try.prog 92 #[.agg #[.int .i64 k, .int .i64 n, .string s]] w fun e w' => e = .returned (.bool (vchk (k, n, s))) ∧ Below w.heap.size w w' := by
  by_cases h0 : k = 0
  · subst h0
    rw [vchk_0]
    go_enter Try.func92, Try.ntmps92
    go_wp2
    all_goals
      go_ret
      refine ⟨congrArg (fun b => Ending.returned (.bool b)) ?_, (Below.refl _ _).alloc (Nat.le_refl _) _⟩
      first | (simp_all; done) | (cases hs : s.toList <;> simp_all; done) | (simp_all; omega) | (cases hs : s.toList <;> simp_all <;> omega)
  by_cases h1 : k = 1
  · subst h1
    rw [vchk_1]
    go_enter Try.func92, Try.ntmps92
    go_wp2
    all_goals
      go_ret
      refine ⟨congrArg (fun b => Ending.returned (.bool b)) ?_, (Below.refl _ _).alloc (Nat.le_refl _) _⟩
      first | (simp_all; done) | (cases hs : s.toList <;> simp_all; done) | (simp_all; omega) | (cases hs : s.toList <;> simp_all <;> omega)
  by_cases h2 : k = 2
  · subst h2
    rw [vchk_2]
    go_enter Try.func92, Try.ntmps92
    go_wp2
    all_goals
      go_ret
      refine ⟨congrArg (fun b => Ending.returned (.bool b)) ?_, (Below.refl _ _).alloc (Nat.le_refl _) _⟩
      first | (simp_all; done) | (cases hs : s.toList <;> simp_all; done) | (simp_all; omega) | (cases hs : s.toList <;> simp_all <;> omega)
  · rw [vchk_3 n s h0 h1 h2]
    have b0 : (k == 0) = false := by simpa using h0
    have b1 : (k == 1) = false := by simpa using h1
    have b2 : (k == 2) = false := by simpa using h2
    clear h0 h1 h2
    go_enter Try.func92, Try.ntmps92
    go_wp2
    go_ret
    exact ⟨rfl, (Below.refl _ _).alloc (Nat.le_refl _) _⟩

/-- The values of fields. -/
def vals (f : List V3) : Bool := f.all vchk
def tooLong (f : List V3) : Bool := f.any fun v => decide (200 < v.2.2.size)

theorem box_cells (w : World) (f : List V3) (T : TypeId) (k : Nat) (hk : k < f.length) :
    (w.alloc (.cells (fcells f).toArray T)).cell? ⟨w.heap.size, k * 3, none⟩ = some (.int .i64 f[k].1) ∧ (w.alloc (.cells (fcells f).toArray T)).cell? ⟨w.heap.size, k * 3 + 1, none⟩ = some (.int .i64 f[k].2.1) ∧
      (w.alloc (.cells (fcells f).toArray T)).cell? ⟨w.heap.size, k * 3 + 2, none⟩ = some (.string f[k].2.2) := by
  have h := Blk.new w (fcells f) T
  have h2 := fcells_get f k hk
  rw [Nat.mul_comm k 3]
  exact ⟨h.cell h2.1, h.cell h2.2.1, h.cell h2.2.2⟩

end Go.Proofs.Ytadmaalhhigbeaa

/- bits.Each as an iterator, slices.Collect over it, and mask.Fields: what each returns. -/
namespace Go.Proofs.Ytadmaalhhigbeaa
set_option linter.unusedVariables false
open Go Go.RowKit Go.Shelf BitM
attribute [local go_sem] Oper.semAt_some

/-- The numbers of a set below k, rising. -/
def lst (x : BitVec 32) (k : Nat) : List Int := ((List.range k).filter fun i : Nat => has x (i : Int)).map fun i : Nat => (i : Int)
theorem lst_succ (x : BitVec 32) (k : Nat) : lst x (k + 1) = lst x k ++ if has x (k : Int) = true then [(k : Int)] else [] := by
  unfold lst
  rw [List.range_succ, List.filter_append, List.map_append]
  congr 1
  cases h : has x (k : Int) <;> simp [h]
theorem lst_len (x : BitVec 32) (k : Nat) : (lst x k).length ≤ k := by
  unfold lst
  rw [List.length_map]
  have := List.length_filter_le (fun i : Nat => has x (i : Int)) (List.range k)
  simpa using this
theorem lst_pre (x : BitVec 32) {j k : Nat} (h : j ≤ k) : lst x j <+: lst x k := by
  induction k with
  | zero => obtain rfl : j = 0 := by omega
            exact List.prefix_refl _
  | succ k ih =>
    by_cases e : j = k + 1
    · subst e; exact List.prefix_refl _
    · exact (ih (by omega)).trans (by rw [lst_succ]; exact List.prefix_append _ _)

theorem info_int : (Try.prog.info? 3).map (fun i => (i.zero, i.size, i.bytes)) = some (some (.int .i64 0), 1, 8) := by kernel_rfl

/-- The fields of a mask. -/
def flds (x : BitVec 32) : List Int := lst (x &&& 255#32) 32
theorem flds_len (x : BitVec 32) : (flds x).length ≤ 32 := lst_len _ _
end Go.Proofs.Ytadmaalhhigbeaa

/- More of sets: masks, their fields, labels; both masks; what is in all of a list. -/
namespace Go.Proofs.Ytadmaalhhigbeaa
set_option linter.unusedVariables false
open Go Go.RowKit BitM

theorem low_bit (n i : Nat) : (2 ^ n - 1 : Nat).testBit i = decide (i < n) := Nat.testBit_two_pow_sub_one n i
theorem bit_255 (i : Nat) : (255#32 : BitVec 32).getLsbD i = decide (i < 8) := low_bit 8 i
theorem bit_511 (i : Nat) : (511#32 : BitVec 32).getLsbD i = decide (i < 9) := low_bit 9 i
theorem le_511 (x : BitVec 32) : decide (x.toNat ≤ 511) = true ↔ ∀ i, 9 ≤ i → i < 32 → x.getLsbD i = false := by
  rw [decide_eq_true_iff]
  constructor
  · intro h i h9 _
    have : x.toNat < 2 ^ i := Nat.lt_of_lt_of_le (by omega : x.toNat < 2 ^ 9) (Nat.pow_le_pow_right (by omega) h9)
    exact Nat.testBit_lt_two_pow this
  · intro h
    have : x.toNat < 2 ^ 9 := by
      apply Nat.lt_pow_two_of_testBit
      intro i hi
      by_cases h32 : i < 32
      · exact h i hi h32
      · exact BitVec.getLsbD_of_ge x i (by omega)
    omega
theorem check_eq (x : BitVec 32) : (x &&& ~~~511#32 == 0#32) = decide (x.toNat ≤ 511) := by
  rw [Bool.eq_iff_iff, le_511, beq_iff_eq]
  constructor
  · intro h i h9 h32
    have := congrArg (fun v : BitVec 32 => v.getLsbD i) h
    simp only [BitVec.getLsbD_and, BitVec.getLsbD_not, bit_511, BitVec.getLsbD_zero] at this
    simpa [h32, show ¬ i < 9 by omega] using this
  · intro h
    apply BitVec.eq_of_getLsbD_eq
    intro i hi
    simp only [BitVec.getLsbD_and, BitVec.getLsbD_not, bit_511, BitVec.getLsbD_zero]
    by_cases h9 : i < 9
    · simp [h9]
    · simp [h i (by omega) hi]
theorem has_and_255 (x : BitVec 32) (n : Int) : has (x &&& 255#32) n = (has x n && decide (n < 8)) := by
  by_cases h : 0 ≤ n ∧ n < 32
  · obtain ⟨k, rfl⟩ := Int.eq_ofNat_of_zero_le h.1
    have hk : k < 32 := by omega
    rw [has_in _ hk, has_in _ hk, BitVec.getLsbD_and, bit_255]
    congr 1
    rw [Bool.eq_iff_iff]; simp; omega
  · rw [has_out _ h, has_out _ h]; rfl
theorem mem_lst (x : BitVec 32) (k : Nat) (n : Int) : n ∈ lst x k ↔ (0 ≤ n ∧ n < k ∧ has x n = true) := by
  unfold lst
  rw [List.mem_map]
  constructor
  · rintro ⟨i, hi, rfl⟩
    rw [List.mem_filter, List.mem_range] at hi
    exact ⟨by omega, by omega, hi.2⟩
  · rintro ⟨h0, h1, h2⟩
    obtain ⟨i, rfl⟩ := Int.eq_ofNat_of_zero_le h0
    exact ⟨i, List.mem_filter.2 ⟨List.mem_range.2 (by omega), h2⟩, rfl⟩
theorem mem_flds (x : BitVec 32) (n : Int) : n ∈ flds x ↔ (0 ≤ n ∧ n < 8 ∧ has x n = true) := by
  unfold flds
  rw [mem_lst, has_and_255]
  simp only [Bool.and_eq_true, decide_eq_true_eq]
  constructor
  · rintro ⟨a, b, c, d⟩; exact ⟨a, d, c⟩
  · rintro ⟨a, b, c⟩; exact ⟨a, by omega, c, b⟩
theorem flds_in (x : BitVec 32) (j : Nat) (h : j < (flds x).length) : ∃ i : Nat, i < 8 ∧ (flds x)[j] = (i : Int) := by
  have := (mem_flds x (flds x)[j]).1 (List.getElem_mem h)
  obtain ⟨i, hi⟩ := Int.eq_ofNat_of_zero_le this.1
  exact ⟨i, by omega, hi⟩

theorem mcheck_any (x : BitVec 32) (w : World) : Calls Try.prog 36 #[.int .u32 (x.toNat : Int)] w fun e w' => e = .returned (.bool (decide (x.toNat ≤ 511))) ∧ w = w' := by
  have H := Lib.hid (within_any x 511#32 w)
  rw [check_eq] at H
  go_enter Try.func36, Try.ntmps36
  go_wp2_with fail
  refine H.out.mono ?_
  rintro e w' ⟨rfl, rfl⟩
  go_wp2_with fail
  go_ret
  exact ⟨rfl, rfl⟩
theorem rmcheck_any (x : BitVec 32) (w : World) : Calls Try.prog 38 #[.int .u32 (x.toNat : Int)] w fun e w' => e = .returned (.bool (decide (x.toNat ≤ 511))) ∧ w = w' := by
  have h1 : decide ((x.toNat : Int) ≤ 511) = decide (x.toNat ≤ 511) := by rw [decide_eq_decide]; omega
  by_cases h : x.toNat ≤ 511
  · rw [decide_eq_true h] at h1 ⊢
    go_enter Try.func38, Try.ntmps38
    go_wp2_with fail
    go_ret
    exact ⟨rfl, rfl⟩
  · rw [decide_eq_false h] at h1 ⊢
    go_enter Try.func38, Try.ntmps38
    go_wp2_with fail
    go_ret
    exact ⟨rfl, rfl⟩

/-- The numbers of a list as a set. -/
def ofl (l : List Int) : BitVec 32 := l.foldl put 0#32
theorem ofl_snoc (l : List Int) (n : Int) : ofl (l ++ [n]) = put (ofl l) n := by unfold ofl; rw [List.foldl_append]; rfl
theorem has_ofl (l : List Int) (n : Int) : has (ofl l) n = (decide (0 ≤ n ∧ n < 32) && decide (n ∈ l)) := by
  have key : ∀ (l : List Int) (x : BitVec 32), has (l.foldl put x) n = (has x n || (decide (0 ≤ n ∧ n < 32) && decide (n ∈ l))) := by
    intro l
    induction l with
    | nil => intro x; simp
    | cons m l ih =>
      intro x
      rw [List.foldl_cons, ih, has_put]
      by_cases hn : 0 ≤ n ∧ n < 32
      · by_cases e : m = n
        · subst e; simp [hn]
        · have : ¬ n = m := fun h => e h.symm
          simp [hn, e, this]
      · by_cases e : m = n
        · subst e; simp [hn]
        · simp [hn, e]
  rw [ofl, key, has_zero, Bool.false_or]

/-- The mask of fields and labels. -/
def mkm (b : Bool) (l : List Int) : BitVec 32 := (ofl l &&& 255#32) ||| (if b then 256#32 else 0#32)
end Go.Proofs.Ytadmaalhhigbeaa
