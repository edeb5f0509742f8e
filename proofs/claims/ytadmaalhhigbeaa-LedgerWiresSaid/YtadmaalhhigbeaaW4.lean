/- Slices of structs: append onto a row of the call's own, and a slice cut, whatever an element's size is. -/
import Derived.Test.YtadmaalhhigbeaaW1
import Derived.Test.YtadmaalhhigbeaaW2
import Derived.Test.YtadmaalhhigbeaaW3
namespace Go.Proofs.Ytadmaalhhigbeaa
set_option linter.unusedVariables false
open Go Go.RowKit

theorem row_form {w : World} {base : Nat} {e : TypeId} {size n : Nat} {v : Value} {xs : List Value} (h : w.ownsRow base e size v n xs) : ∃ A c, v = .slice A n c := by
  rcases h.2 with ⟨rfl, h0⟩ | ⟨g, cap, cur, rfl, _⟩
  · exact ⟨none, 0, by rw [h0]⟩
  · exact ⟨_, _, rfl⟩
theorem row_sees {w : World} {base : Nat} {e : TypeId} {size n : Nat} {A : Option Addr} {c : Nat} {xs : List Value} (h : w.ownsRow base e size (.slice A n c) n xs) : Sees w w.heap.size A xs := fun hx => by
  rcases h.2 with ⟨hv, h0⟩ | ⟨g, cap, cur, hv, _, hh, _⟩
  · have := h.1
    rw [h0, Nat.zero_mul] at this
    omega
  have hA : A = some ⟨g, 0, none⟩ := by injection hv
  subst hA
  have hlt : g < w.heap.size := by
    rcases Nat.lt_or_ge g w.heap.size with h1 | h1
    · exact h1
    · rw [Array.getElem?_eq_none h1] at hh; cases hh
  exact ⟨g, 0, rfl, hlt, fun j hj => by
    have h1 := h.cells (g := g) rfl j _ (List.getElem?_eq_getElem hj)
    rw [add_at] at h1
    exact h1⟩
theorem row_later {w w' : World} {base : Nat} {e : TypeId} {size n : Nat} {v : Value} {xs : List Value} (h : w.ownsRow base e size v n xs) (hl : Below w.heap.size w w') : w'.ownsRow base e size v n xs :=
  World.ownsRow.kept h ⟨hl.os, hl.tape, hl.output, hl.size, fun q hq _ => hl.block q hq⟩ (by by_cases h : v.ownBlock = none; exact .inl h; exact .inr h)
theorem row_lower {w : World} {base base' : Nat} {e : TypeId} {size n : Nat} {v : Value} {xs : List Value} (h : w.ownsRow base e size v n xs) (hb : base' ≤ base) : w.ownsRow base' e size v n xs := by
  refine ⟨h.1, ?_⟩
  rcases h.2 with h' | ⟨g, cap, cur, h1, h2, h3⟩
  · exact .inl h'
  · exact .inr ⟨g, cap, cur, h1, Nat.le_trans hb h2, h3⟩
/-- An empty row, or any, just laid. -/
theorem row_lit (w : World) (base : Nat) (e : TypeId) (size n : Nat) (arr : Array Value) (hb : base ≤ w.heap.size) (hn : n ≤ maxLen) (hs : arr.size = n * size) : (w.alloc (.cells arr e)).ownsRow base e size (.slice (some ⟨w.heap.size, 0, none⟩) n n) n arr.toList := by
  refine ⟨by simpa using hs, .inr ⟨w.heap.size, n, arr, rfl, hb, heap_alloc_new w _, Nat.le_refl _, hn, hs, ?_⟩⟩
  rw [List.take_of_length_le]
  simp [hs]

theorem run_appk {P : Program} (w : World) (base : Nat) (t ty e : TypeId) (i : TypeInfo) (z : Value) (size bytes : Nat) (ht : P.underlying t = some (.slice e)) (hi : P.info? e = some i) (hz : i.zero = some z)
    (hsize : i.size = size) (hby : i.bytes = bytes) (hzs : z.cells.size = size) (hpos : 0 < size) (v : Value) (n : Nat) (xs : List Value) (hown : w.ownsRow base e size v n xs)
    (B : Nat) (A : Option Addr) (m c : Nat) (news : List Value) (hl : news.length = m * size) (hs : Sees w B A news) (h1 : ∀ u ∈ news, u.oneCell' = true)
    (h63 : n + m ≤ maxLen) (hbytes : (n + m) * bytes ≤ 140737488355328) (hbase : base ≤ w.heap.size) :
    ∃ A' c' w', (Builtin.append_ #[t, t] ty #[v, .slice A m c]).run P w = .ok (.slice A' (n + m) c') w' ∧ w'.ownsRow base e size (.slice A' (n + m) c') (n + m) (xs ++ news) ∧
      w.grownBy w' v.ownBlock ∧ ((Value.slice A' (n + m) c').ownBlock = v.ownBlock ∨ (Value.slice A' (n + m) c').ownBlock = some w.heap.size) := by
  obtain ⟨A0, c0, hv⟩ := row_form hown
  rcases A with _ | ad
  · have hn : news = [] := by
      rcases news with _ | ⟨x, l⟩
      · rfl
      · obtain ⟨b, o, h, _⟩ := hs (by simp)
        cases h
    subst hn
    obtain rfl : m = 0 := by
      rcases Nat.eq_zero_or_pos m with h | h
      · exact h
      · have := Nat.mul_pos h hpos
        simp at hl
        omega
    subst hv
    refine ⟨A0, c0, w, ?_, by simpa using hown, World.grownBy.refl w _, .inl (by simp)⟩
    rcases hown.2 with ⟨hv0, h0⟩ | ⟨g, cap, cur, hv0, _, _, hnc, _⟩
    · injection hv0 with h1' h2' h3'
      subst h1' h3'
      simp [Builtin.append_, run_underlying ht, sizeOf, typeInfo, hi, Builtin.lenOf, Builtin.firstCells, h0]
    · injection hv0 with h1' h2' h3'
      subst h1' h3'
      simp [Builtin.append_, run_underlying ht, sizeOf, typeInfo, hi, Builtin.lenOf, Builtin.firstCells, hnc, storeCells]
  · have hcells : ∀ j u, news[j]? = some u → w.cell? (ad.add j) = some u := by
      intro j u hu
      have hj : j < news.length := by
        rcases Nat.lt_or_ge j news.length with h | h
        · exact h
        · rw [List.getElem?_eq_none h] at hu; cases hu
      obtain ⟨b, o, h, _, hc⟩ := hs (by omega)
      injection h with h
      subst h
      rw [add_at, hc j hj, ← hu, List.getElem?_eq_getElem hj]
    obtain ⟨v', w', hrun, h2, h3, _, h5⟩ := run_append_own_at (P := P) w base t ty e i z size bytes ht hi hz hsize hby hzs hpos v n xs hown ad m c news hl hcells h1 h63 hbytes hbase
    obtain ⟨A', c', hv'⟩ := row_form h2
    subst hv'
    exact ⟨A', c', w', hrun, h2, h3, h5⟩

/-- append onto a row of the call's own, whatever the source is, and whatever an element's size is. -/
theorem wpList_appk {P : Program} (w : World) {ops : Array Oper} {rest : List Oper} {o : Oper} {a : Act} {Q : Exit → Act → World → Prop} (hgd : o.guard = none) (s x : Operand) (t : TypeId)
    (ho : o.op = .call { callee := .builtin .append, args := #[s, x], argTypes := #[t, t] })
    (base : Nat) (e : TypeId) (i : TypeInfo) (z : Value) (size bytes : Nat) (ht : P.underlying t = some (.slice e)) (hi : P.info? e = some i) (hz : i.zero = some z)
    (hsize : i.size = size) (hby : i.bytes = bytes) (hzs : z.cells.size = size) (hpos : 0 < size) (v : Value) (n : Nat) (xs : List Value) (hv : a.eval s = v) (hown : w.ownsRow base e size v n xs)
    (B : Nat) (A : Option Addr) (c : Nat) (news : List Value) (m : Nat) (hx : a.eval x = .slice A m c) (hn : news.length = m * size) (hs : Sees w B A news) (h1 : ∀ u ∈ news, u.oneCell' = true)
    (h63 : n + m ≤ maxLen) (hbytes : (n + m) * bytes ≤ 140737488355328) (hbase : base ≤ w.heap.size)
    (h : ∀ A' c' w', w'.ownsRow base e size (.slice A' (n + m) c') (n + m) (xs ++ news) → Below base w w' → w.grownBy w' v.ownBlock →
      ((Value.slice A' (n + m) c').ownBlock = v.ownBlock ∨ (Value.slice A' (n + m) c').ownBlock = some w.heap.size) →
      wpList P ops Q rest (a.put o.dst (.slice A' (n + m) c')) w') : wpList P ops Q (o :: rest) a w := by
  refine wpList_plain hgd fun K hK => ?_
  obtain ⟨A', c', w', hrun, h2, h3, h4⟩ := run_appk (P := P) w base t o.type e i z size bytes ht hi hz hsize hby hzs hpos v n xs hown B A m c news hn hs h1 h63 hbytes hbase
  unfold Oper.wp execOp
  simp only [ho, resolve, invoke, builtin, Sem.run_bind, Sem.run_pure, Result.andThen_ok, List.map_toArray, List.map_cons, List.map_nil, hv, hx, hrun]
  exact hK _ _ (h A' c' w' h2 ((Below.refl _ _).grown h3 hbase (fun k hk => (hown.lt k hk).1)) h3 h4)

/-- s[k:k+m]: what the cut is, under one name. -/
theorem cutk_fact {P : Program} (t e : TypeId) (i : TypeInfo) (size : Nat) (ht : P.underlying t = some (.slice e)) (hi : P.info? e = some i) (hsz : i.size = size) {w : World} {B : Nat} {A : Option Addr} {xs : List Value} (h : Sees w B A xs)
    (n k m c : Nat) (K H : Int) (kl kh : IntKind) (hn : xs.length = n * size) (hkm : k + m ≤ n) (hK : K = (k : Int)) (hH : H = ((k + m : Nat) : Int)) (hc : n ≤ c) :
    ∃ A2, (∀ wx, (Instr.slice t (.slice A n c) (some (.int kl K)) (some (.int kh H)) none).run P wx = .ok (.slice A2 m (c - k)) wx) ∧ Sees w B A2 ((xs.drop (k * size)).take (m * size)) := by
  refine ⟨if c = k then A else A.map (·.add (k * size)), fun wx => ?_, ?_⟩
  · have he : P.elem t = e := by simp [Program.elem, ht]
    have ht' : P.underlying t = some (.slice (P.elem t)) := by rw [he]; exact ht
    rw [run_slice_lh wx t A n c ht' kl kh K H (by omega) (by omega) (by omega), he]
    simp [sizeOf, typeInfo, hi, hsz, sliced, hK, hH]
    try omega
  · intro hx
    rw [List.length_take, List.length_drop] at hx
    have hm : 0 < m := by
      rcases Nat.eq_zero_or_pos m with h0 | h0
      · rw [h0, Nat.zero_mul] at hx; simp at hx
      · exact h0
    obtain ⟨b, o, rfl, hb, hcell⟩ := h (by omega)
    rw [if_neg (by omega)]
    refine ⟨b, o + k * size, by simp [Addr.add], hb, fun j hj => ?_⟩
    rw [List.length_take, List.length_drop] at hj
    rw [Nat.add_assoc, hcell (k * size + j) (by omega)]
    simp
end Go.Proofs.Ytadmaalhhigbeaa

/- A filter's parts: mathematics; and what the document's Kids returns. -/
namespace Go.Proofs.Ytadmaalhhigbeaa
set_option linter.unusedVariables false
set_option linter.unusedSimpArgs false
open Go Go.RowKit

/-- So many trees, each by itself. -/
def kidsOf : List Nd → Nat → List (List Nd)
  | _, 0 => []
  | l, p + 1 => match endOf l 1 with
    | some m => l.take m :: kidsOf (l.drop m) p
    | none => []
theorem kids_zero (l : List Nd) : kidsOf l 0 = [] := by cases l <;> rfl
theorem kids_succ (l : List Nd) (p m : Nat) (h : endOf l 1 = some m) : kidsOf l (p + 1) = l.take m :: kidsOf (l.drop m) p := by
  rw [kidsOf, h]
theorem endOf_step {l : List Nd} {p N : Nat} (h : endOf l (p + 1) = some N) : ∃ m, endOf l 1 = some m ∧ Wood (l.take m) 1 ∧ m ≤ l.length ∧ ∃ N', endOf (l.drop m) p = some N' := by
  rw [Nat.add_comm] at h
  obtain ⟨m1, e1, e2, e3, e4⟩ := endOf_split 1 p N h
  exact ⟨m1, e1, e2, endOf_le e1, _, e4⟩
theorem kids_len {l : List Nd} {p N : Nat} (h : endOf l p = some N) : (kidsOf l p).length = p := by
  induction p generalizing l N with
  | zero => rw [kids_zero]; rfl
  | succ p ih =>
    obtain ⟨m, e1, _, _, N', e4⟩ := endOf_step h
    rw [kids_succ l p m e1, List.length_cons, ih e4]
theorem kids_wood {l : List Nd} {p N : Nat} (h : endOf l p = some N) : ∀ k ∈ kidsOf l p, Wood k 1 ∧ k.length ≤ l.length := by
  induction p generalizing l N with
  | zero => rw [kids_zero]; simp
  | succ p ih =>
    obtain ⟨m, e1, e2, e3, N', e4⟩ := endOf_step h
    rw [kids_succ l p m e1]
    intro k hk
    rcases List.mem_cons.1 hk with rfl | hk
    · exact ⟨e2, by rw [List.length_take]; omega⟩
    · have := ih e4 k hk
      rw [List.length_drop] at this
      exact ⟨this.1, by omega⟩
theorem kids_stk {l : List Nd} {p : Nat} (h : Wood l p) : stk l = (kidsOf l p).map dep := by
  induction p generalizing l with
  | zero =>
    rw [kids_zero]
    have := stk_len h
    exact List.length_eq_zero_iff.1 this
  | succ p ih =>
    rw [Nat.add_comm] at h
    obtain ⟨m, e1, e2, e3, e4⟩ := wood_split h
    rw [kids_succ l p m e1, List.map_cons, ← ih e4]
    have := stk_app (b := l.drop m) e3
    rw [List.take_append_drop] at this
    rw [this, dep_wood e3]
    rfl
theorem dep_kids {x : Nd} {l : List Nd} (h : Wood (x :: l) 1) : dep (x :: l) = ((kidsOf l (par x.1)).map dep).foldl max 0 + 1 := by
  obtain ⟨j, hj, h1⟩ := wood_cons h
  obtain rfl : j = 0 := by omega
  rw [Nat.zero_add] at h1
  have e := dep_wood h
  rw [stk_cons] at e
  have hl := stk_len h1
  rw [List.take_of_length_le (by omega), kids_stk h1] at e
  injection e with e _
  exact e.symm
/-- One part more. -/
theorem kids_next {l : List Nd} {f q : Nat} {ks all : List (List Nd)} {N : Nat} (h : all = ks ++ kidsOf (l.drop f) (q + 1)) (he : endOf (l.drop f) (q + 1) = some N) :
    ∃ m N', endAt l (f : Int) = ((f + m : Nat) : Int) ∧ f + m ≤ max f l.length ∧ all = (ks ++ [(l.drop f).take m]) ++ kidsOf (l.drop (f + m)) q ∧ endOf (l.drop (f + m)) q = some N' := by
  obtain ⟨m, e1, e2, e3, N', e4⟩ := endOf_step he
  rw [List.drop_drop] at e4
  refine ⟨m, N', ?_, ?_, ?_, e4⟩
  · rw [endAt_nat, e1]; simp
  · rw [List.length_drop] at e3; omega
  · rw [h, kids_succ _ q m e1, List.drop_drop]; simp

/-- Lists of nodes, each a row of the call's own. -/
def Kept (w : World) (base : Nat) (vs : List Value) (ks : List (List Nd)) : Prop := vs.length = ks.length ∧ ∀ i (h : i < ks.length), ∃ A c, vs[i]? = some (.slice A ks[i].length c) ∧ w.ownsRow base 71 5 (.slice A ks[i].length c) ks[i].length (ncs ks[i])
theorem Kept.later {w w' : World} {base : Nat} {vs : List Value} {ks : List (List Nd)} (h : Kept w base vs ks) (hl : Below w.heap.size w w') : Kept w' base vs ks := by
  refine ⟨h.1, fun i hi => ?_⟩
  obtain ⟨A, c, h1, h2⟩ := h.2 i hi
  exact ⟨A, c, h1, row_later h2 hl⟩
theorem Kept.lower {w : World} {base base' : Nat} {vs : List Value} {ks : List (List Nd)} (h : Kept w base vs ks) (hb : base' ≤ base) : Kept w base' vs ks := by
  refine ⟨h.1, fun i hi => ?_⟩
  obtain ⟨A, c, h1, h2⟩ := h.2 i hi
  exact ⟨A, c, h1, row_lower h2 hb⟩
/-- Rows of unlike types lie in unlike blocks. -/
theorem rows_apart {w : World} {base base' : Nat} {e e' : TypeId} {size size' n n' : Nat} {v v' : Value} {xs xs' : List Value} (h : w.ownsRow base e size v n xs) (h' : w.ownsRow base' e' size' v' n' xs') (hne : e ≠ e') : v.ownBlock = none ∨ v.ownBlock ≠ v'.ownBlock := by
  rcases h.2 with ⟨rfl, _⟩ | ⟨g, cap, cur, rfl, _, hg, _⟩
  · exact .inl rfl
  · refine .inr ?_
    rcases h'.2 with ⟨rfl, _⟩ | ⟨g', cap', cur', rfl, _, hg', _⟩
    · simp [Value.ownBlock]
    · intro e1
      have : g = g' := by simpa [Value.ownBlock] using e1
      subst this
      rw [hg] at hg'
      injection hg' with hg'
      injection hg' with _ h2 _
      exact hne h2
theorem Kept.kept {w w' : World} {base base' : Nat} {vs : List Value} {ks : List (List Nd)} (h : Kept w base vs ks) {v : Value} {e : TypeId} {size n : Nat} {xs : List Value} (hr : w.ownsRow base' e size v n xs) (hne : 71 ≠ e) (hg : w.grownBy w' v.ownBlock) : Kept w' base vs ks := by
  refine ⟨h.1, fun i hi => ?_⟩
  obtain ⟨A, c, h1, h2⟩ := h.2 i hi
  exact ⟨A, c, h1, World.ownsRow.kept h2 hg (rows_apart h2 hr hne)⟩
theorem Kept.nil_ (w : World) (base : Nat) : Kept w base [] [] := ⟨rfl, fun i h => absurd h (by simp)⟩
theorem Kept.snoc {w : World} {base : Nat} {vs : List Value} {ks : List (List Nd)} (h : Kept w base vs ks) (A : Option Addr) (c n : Nat) (k : List Nd) (hn : k.length = n) (hs : w.ownsRow base 71 5 (.slice A n c) n (ncs k)) : Kept w base (vs ++ [.slice A n c]) (ks ++ [k]) := by
  subst hn
  refine ⟨by simp [h.1], fun i hi => ?_⟩
  rw [List.length_append, List.length_singleton] at hi
  by_cases e : i < ks.length
  · obtain ⟨A', c', h1, h2⟩ := h.2 i e
    refine ⟨A', c', by rw [List.getElem?_append_left (by rw [h.1]; exact e)]; simpa [List.getElem_append_left e] using h1, by simpa [List.getElem_append_left e] using h2⟩
  · obtain rfl : i = ks.length := by omega
    refine ⟨A, c, ?_, by simpa using hs⟩
    have e1 : (ks ++ [k])[ks.length]'(by simp) = k := by simp
    have e2 := List.getElem?_concat_length (l := vs) (a := Value.slice A k.length c)
    rw [h.1] at e2
    rw [e1]
    exact e2
theorem Kept.one {w : World} {base : Nat} {vs : List Value} {ks : List (List Nd)} (h : Kept w base vs ks) : ∀ u ∈ vs, u.oneCell' = true := by
  intro u hu
  obtain ⟨i, hi, rfl⟩ := List.mem_iff_getElem.1 hu
  obtain ⟨A, c, h1, _⟩ := h.2 i (by rw [← h.1]; exact hi)
  rw [List.getElem?_eq_getElem hi] at h1
  injection h1 with h1
  rw [h1]
  rfl
/-- What a call gives that tells lists of nodes. -/
def GivesKids (w : World) (ks : List (List Nd)) : Ending → World → Prop := fun e w' => ∃ A c vs, e = .returned (.slice A ks.length c) ∧ w'.ownsRow w.heap.size 23 1 (.slice A ks.length c) ks.length vs ∧ Kept w' w.heap.size vs ks ∧ Below w.heap.size w w'
theorem info_nodes : (Try.prog.info? 23).map (fun i => (i.zero, i.size, i.bytes)) = some (some (.slice none 0 0), 1, 24) := by kernel_rfl
theorem info_noded : (Try.prog.info? 71).map (fun i => (i.zero, i.size, i.bytes)) = some (some (.agg #[.int .i64 0, .int .i64 0, .int .i64 0, .int .i64 0, .string ⟨#[]⟩]), 5, 48) := by kernel_rfl
theorem ncs_piece (l : List Nd) (f m : Nat) : ((ncs l).drop (f * 5)).take (m * 5) = ncs ((l.drop f).take m) := by
  rw [Nat.mul_comm f 5, ncs_drop, Nat.mul_comm m 5, ncs_take]

set_option maxRecDepth 100000 in
set_option maxHeartbeats 3200000 in
theorem rkids_any (A : Option Addr) (n c : Nat) (l : List Nd) (a : Nat) (w : World) (hn : l.length = n) (hs : Sees w w.heap.size A (ncs l)) (hc : n ≤ c) (hm : n ≤ 65536) (ha : a < l.length) (N : Nat) (he : endOf (l.drop (a + 1)) (par l[a].1) = some N) :
    Calls Try.prog 94 #[.slice A n c, .int .i64 a] w (GivesKids w (kidsOf (l.drop (a + 1)) (par l[a].1))) := by
  obtain ⟨i0, hi, hz0, hz1, hz2⟩ := info_parts info_nodes
  obtain ⟨i1, ji, jz0, jz1, jz2⟩ := info_parts info_noded
  have HN := Lib.hid hn
  have d0 : decide ((a : Int) < 0) = false := by simp
  have d1 : decide ((n : Int) ≤ (a : Int)) = false := by simp; omega
  have d1n : decide (n ≤ a) = false := by simp; omega
  have han : a < n := by omega
  obtain ⟨all, hall⟩ : ∃ all, all = kidsOf (l.drop (a + 1)) (par l[a].1) := ⟨_, rfl⟩
  have HL := Lib.hid (show all.length = par l[a].1 by rw [hall]; exact kids_len he)
  rw [← hall]
  obtain ⟨b, o, rfl, hb, hcell, hcr⟩ := sees_node hs a ha
  clear hcr
  obtain ⟨op, hop⟩ : ∃ op, op = l[a].1 := ⟨_, rfl⟩
  rw [← hop] at hcell hall he HL
  have HP := Lib.hid (fun wx : World => rparts_any op wx)
  obtain ⟨p, hp⟩ : ∃ p, p = par op := ⟨_, rfl⟩
  have hp2 : p ≤ 2 := by rw [hp]; exact par_le op
  rw [← hp] at HP hall he HL
  have H0 := Lib.hid hall
  have HE0 := Lib.hid he
  clear hop hp hall he hn ha
  unfold GivesKids
  go_enter Try.func94, Try.ntmps94
  go_wp2_with fail
  have R0 := row_lit w w.heap.size 23 1 0 #[] (Nat.le_refl _) (by simp [maxLen]) rfl
  have hb0 := (Below.refl w.heap.size w).alloc (Nat.le_refl _) (.cells #[] 23)
  go_loopw [5, 6, 7] (fun u f i wr => ∃ (q g N' : Nat) (ks : List (List Nd)) (vs : List Value) (AO : Option Addr) (cO : Nat), q ≤ p ∧ g ≤ n ∧ i = .int .i64 q ∧ f = .int .i64 g ∧ u = .slice AO q cO ∧ Hid (all = ks ++ kidsOf (l.drop g) (p - q) ∧ endOf (l.drop g) (p - q) = some N' ∧ ks.length = q) ∧
    wr.ownsRow w.heap.size 23 1 (.slice AO q cO) q vs ∧ Kept wr w.heap.size vs ks ∧ Below w.heap.size w wr) (fun _ _ i _ => p - (intOf i).toNat)
  case atStart => exact ⟨0, a + 1, N, [], [], _, _, by omega, by omega, rfl, by go_num, rfl, Lib.hid ⟨H0.out, HE0.out, rfl⟩, R0, Kept.nil_ _ _, hb0⟩
  case round =>
    obtain ⟨q, g, N', ks, vs, AO, cO, hq, hg, rfl, rfl, rfl, HI, hrow, HK, hbr⟩ := hrel
    clear R0 hb0
    have hcell' := (hbr.cell (p := ⟨b, o + a * 5, none⟩) hb).trans hcell
    by_cases hlt : q < p
    · have d2 : decide ((q : Int) < (p : Int)) = true := by simp; omega
      have e1 : p - q = (p - (q + 1)) + 1 := by omega
      have hI1 := HI.out.1
      have hI2 := HI.out.2.1
      rw [e1] at hI1 hI2
      obtain ⟨m, N2, k1, k2, k3, k4⟩ := kids_next hI1 hI2
      have hgm : g + m ≤ n := by rw [HN.out] at k2; omega
      have HEN := Lib.hid (rend_any (some ⟨b, o, none⟩) n c l (g : Int) wr wr.heap.size HN.out ((hs.below hbr).more hbr.size) hm)
      rw [k1] at HEN
      obtain ⟨T, hT⟩ : ∃ T, T = g + m := ⟨_, rfl⟩
      rw [← hT] at HEN
      obtain ⟨A2, hsl, hse⟩ := cutk_fact 23 71 i1 5 Try.underlying23 ji jz1 ((hs.below hbr).more hbr.size) n g m c (g : Int) (T : Int) .i64 .i64 (by rw [ncs_len, HN.out]; omega) hgm rfl (by rw [hT]) hc
      rw [ncs_piece] at hse
      obtain ⟨kd, hkd⟩ : ∃ kd, kd = (l.drop g).take m := ⟨_, rfl⟩
      have hkdl : kd.length = m := by rw [hkd, List.length_take, List.length_drop, HN.out]; omega
      rw [← hkd] at hse k3
      have HKD := Lib.hid hkdl
      have HNX : Hid (all = (ks ++ [kd]) ++ kidsOf (l.drop T) (p - (q + 1)) ∧ endOf (l.drop T) (p - (q + 1)) = some N2 ∧ (ks ++ [kd]).length = q + 1) := Lib.hid ⟨by rw [hT]; exact k3, by rw [hT]; exact k4, by rw [List.length_append, HI.out.2.2]; rfl⟩
      have hTn : T ≤ n := by omega
      have hmn : m ≤ n := by omega
      have R1 := row_lit wr w.heap.size 71 5 0 #[] hbr.size (by simp [maxLen]) rfl
      have hbz := hbr.size
      clear k1 k2 k3 k4 e1 hT hkd hkdl hgm hI1 hI2
      go_wp2_with fail
      refine (HP.out _).mono ?_
      rintro e w' ⟨rfl, rfl⟩
      go_wp2_with fail
      refine HEN.out.mono ?_
      rintro e w' ⟨rfl, rfl⟩
      go_wp2_with (first
        | (at_builtin
           refine wpList_appk _ rfl (.tmp 34) (.tmp 38) 23 rfl w.heap.size 71 i1 _ 5 48 Try.underlying23 ji jz0 jz1 jz2 rfl (by decide) (.slice (some ⟨wr.heap.size, 0, none⟩) 0 0) 0 [] rfl R1 wr.heap.size A2 (c - g) (ncs kd) m rfl (by rw [ncs_len, HKD.out]; omega) (hse.alloc (Nat.le_refl _) (.cells #[] 71)) (ncs_one kd) (by unfold maxLen; omega) (by omega) (by simp; omega) ?_
           intro A3 c3 w3 hr3 hb3 hg3 hat3
           rw [Nat.zero_add, List.nil_append] at hr3
           simp only [Nat.zero_add]
           have hlw : Le wr w3 := ((Below.refl wr.heap.size wr).alloc (Nat.le_refl _) (.cells #[] 71)).grown hg3 (by simp) (fun k e => by cases e; exact Nat.le_refl _)
           have hr4 := row_later hrow hlw
           have hk4 := HK.later hlw
           have hs3 := row_sees hr3)
        | (at_builtin
           refine wpList_appk _ rfl (.tmp 33) (.tmp 40) 134 rfl w.heap.size 23 i0 _ 1 24 Try.underlying134 hi hz0 hz1 hz2 rfl (by decide) (.slice AO q cO) q vs rfl (World.ownsRow.alloc hr4 _) (w3.heap.size + 1) (some ⟨w3.heap.size, 0, none⟩) 1 [.slice A3 m c3] 1 rfl rfl (sees_lit w3 #[.slice A3 m c3] 23 (0, 0) [.slice A3 m c3] rfl) (by simp [Value.oneCell']) (by unfold maxLen; omega) (by omega) (by have := hlw.size; simp; omega) ?_
           intro A5 c5 w5 hr5 hb5 hg5 hat5)
        | fail)
      have hrw := World.ownsRow.alloc hr4 (.cells #[.slice A3 m c3] 23)
      have hka := hk4.later ((Below.refl w3.heap.size w3).alloc (Nat.le_refl _) (.cells #[.slice A3 m c3] 23))
      have hra := World.ownsRow.alloc hr3 (.cells #[.slice A3 m c3] 23)
      have hk5 := hka.kept hrw (by decide) hg5
      have hr6 := World.ownsRow.kept hra hg5 (rows_apart hra hrw (by decide))
      have hb6 : Below w.heap.size w w5 := ((hbr.trans (hlw.mono hbz)).alloc (Nat.le_trans hbz hlw.size) (.cells #[.slice A3 m c3] 23)).grown hg5 (by have := hlw.size; simp; omega) (fun k e => (hrw.lt k e).1)
      go_roundw
      case rel => exact ⟨q + 1, T, N2, ks ++ [kd], vs ++ [.slice A3 m c3], A5, c5, by omega, hTn, by go_num, rfl, rfl, HNX, hr5, hk5.snoc A3 c3 m kd HKD.out hr6, hb6⟩
      case measure => simp [intOf]; omega
    · obtain rfl : q = p := by omega
      have HA : Hid (all = ks ∧ ks.length = q) := Lib.hid ⟨by have := HI.out.1; rw [Nat.sub_self, kids_zero, List.append_nil] at this; exact this, HI.out.2.2⟩
      go_wp2_with fail
      refine (HP.out _).mono ?_
      rintro e w' ⟨rfl, rfl⟩
      go_wp2_with fail
      go_ret
      rw [HA.out.1, HA.out.2]
      exact ⟨AO, cO, vs, rfl, hrow, HK, hbr⟩
end Go.Proofs.Ytadmaalhhigbeaa

/- A filter's parts: slices.Clone of nodes, and what the program's Kids returns. -/
namespace Go.Proofs.Ytadmaalhhigbeaa
set_option linter.unusedVariables false
set_option linter.unusedSimpArgs false
open Go Go.RowKit

/-- What a call gives that tells nodes, in a row of its own. -/
def GivesNodes (w : World) (l : List Nd) : Ending → World → Prop := fun e w' => ∃ A c, e = .returned (.slice A l.length c) ∧ w'.ownsRow w.heap.size 71 5 (.slice A l.length c) l.length (ncs l) ∧ Below w.heap.size w w'
set_option maxRecDepth 100000 in
set_option maxHeartbeats 1600000 in
theorem clone_nodes (A : Option Addr) (n c : Nat) (l : List Nd) (w : World) (hn : l.length = n) (hs : Sees w w.heap.size A (ncs l)) (hm : n ≤ 65536) :
    Calls Try.prog 85 #[.slice A n c] w (GivesNodes w l) := by
  obtain ⟨i1, ji, jz0, jz1, jz2⟩ := info_parts info_noded
  subst hn
  rcases A with _ | ad
  · have hl : l = [] := by
      rcases l with _ | ⟨x, l⟩
      · rfl
      · obtain ⟨b, o, h, _⟩ := hs (by rw [ncs_len]; simp)
        cases h
    subst hl
    have hq := fun wx => Lib.run_eql_slice_nil (P := Try.prog) wx 23 71 none 0 c 0 0 Try.underlying23
    go_enter Try.func85, Try.ntmps85
    go_wp2
    go_ret
    exact ⟨none, 0, rfl, World.ownsRow_nil _ _ _ _, Below.refl _ _⟩
  · have hq := fun wx => Lib.run_eql_slice_nil (P := Try.prog) wx 23 71 (some ad) l.length c 0 0 Try.underlying23
    have R1 := row_lit w w.heap.size 71 5 0 #[] (Nat.le_refl _) (by simp [maxLen]) rfl
    go_enter Try.func85, Try.ntmps85
    go_wp2_with (first
      | (at_builtin
         refine wpList_appk _ rfl (.tmp 5) (.tmp 6) 23 rfl w.heap.size 71 i1 _ 5 48 Try.underlying23 ji jz0 jz1 jz2 rfl (by decide) (.slice (some ⟨w.heap.size, 0, none⟩) 0 0) 0 [] rfl R1 w.heap.size (some ad) c (ncs l) l.length rfl (by rw [ncs_len]; omega) (hs.alloc (Nat.le_refl _) (.cells #[] 71)) (ncs_one l) (by unfold maxLen; omega) (by omega) (by simp) ?_
         intro A3 c3 w3 hr3 hb3 hg3 hat3
         rw [Nat.zero_add, List.nil_append] at hr3
         simp only [Nat.zero_add])
      | fail)
    go_ret
    exact ⟨A3, c3, rfl, hr3, ((Below.refl _ _).alloc (Nat.le_refl _) _).trans hb3⟩

end Go.Proofs.Ytadmaalhhigbeaa

/- Lists of nodes: when two are alike, when lists of them are, and what Join returns. -/
namespace Go.Proofs.Ytadmaalhhigbeaa
set_option linter.unusedVariables false
set_option linter.unusedSimpArgs false
open Go Go.RowKit

theorem guard_node : Try.prog.eqGuardType Try.prog.depth 71 = false := by kernel_rfl
theorem fieldsN : Try.prog.underlying 71 = some (.struct (Try.prog.fieldsOf 71)) := by kernel_rfl
set_option maxRecDepth 100000 in
theorem eq_node (d : Nat) (a b : Nd) (w : World) : (Op.equalIn (d + 4) 71 (.agg (ncells a).toArray) (.agg (ncells b).toArray)).run Try.prog w = .ok (decide (a = b)) w := by
  obtain ⟨op, m, v⟩ := a
  obtain ⟨op', m', v'⟩ := b
  have hsz : ∀ w, (sizeOf 69).run Try.prog w = .ok 3 w := fun w => by kernel_rfl
  have hag : ∀ w, (isAgg 69).run Try.prog w = .ok true w := fun w => by kernel_rfl
  rw [run_equalIn_agg w (d + 3) 71 _ _ fieldsN (by kernel_rfl)]
  have e : (Try.prog.fieldsOf 71).toList = [⟨"Op", 3, 0, false, "", "", 0⟩, ⟨"N", 3, 1, false, "", "", 8⟩, ⟨"V", 69, 2, false, "", "", 16⟩] := by kernel_rfl
  rw [e]
  have px : ∀ (a b : Int) (h : V3), (part 69 (ncells (a, b, h)).toArray 2).run Try.prog w = .ok (.agg (vcells h).toArray) w := fun a b h => by
    simp only [part, Sem.run_bind, hag, Result.andThen_ok, hsz, if_true, Sem.run_pure]
    rfl
  have p0 : ∀ (a b : Int) (h : V3), (part 3 (ncells (a, b, h)).toArray 0).run Try.prog w = .ok (.int .i64 a) w := fun a b h => by simp [go_sem, part, isAgg, ncells]
  have p1 : ∀ (a b : Int) (h : V3), (part 3 (ncells (a, b, h)).toArray 1).run Try.prog w = .ok (.int .i64 b) w := fun a b h => by simp [go_sem, part, isAgg, ncells]
  have ef : (Op.equalIn (d + 3) 69 (.agg (vcells v).toArray) (.agg (vcells v').toArray)).run Try.prog w = .ok (decide (v = v')) w := eq_val (d + 1) v v' w
  have q0 : ∀ a b : Int, (Op.equalIn (d + 3) 3 (.int .i64 a) (.int .i64 b)).run Try.prog w = .ok (a == b) w := fun a b => run_equalIn_int w (d + 2) 3 .i64 .i64 a b Try.underlying3
  simp only [Op.eqFields, if_pos (show ("Op" : String) ≠ "_" by decide), if_pos (show ("N" : String) ≠ "_" by decide), if_pos (show ("V" : String) ≠ "_" by decide)]
  simp only [Sem.run_bind, Sem.run_ite, Sem.run_pure, px, p0, p1, q0, ef, Result.andThen_ok]
  by_cases h1 : op = op' <;> by_cases h2 : m = m' <;> by_cases h3 : v = v' <;> simp [h1, h2, h3]

theorem range_sees {w : World} {B b o k : Nat} {cs : List Value} (h : w.rangeAt b (o + k) cs) {w' : World} (hl : Below B w w') (hb : b < B) : w'.rangeAt b (o + k) cs := fun j v hj => (hl.cell (p := ⟨b, o + k + j, none⟩) hb).trans (h j v hj)

set_option maxRecDepth 100000 in
set_option maxHeartbeats 3200000 in
theorem rsame_len (A : Option Addr) (n c : Nat) (l : List Nd) (A' : Option Addr) (c' : Nat) (m : List Nd) (w : World) (hn : l.length = n) (hn' : m.length = n) (hs : Sees w w.heap.size A (ncs l)) (hs' : Sees w w.heap.size A' (ncs m)) (hm : n ≤ 65536) :
    Calls Try.prog 47 #[.slice A n c, .slice A' n c'] w fun e w' => e = .returned (.bool (decide (l = m))) ∧ Below w.heap.size w w' := by
  have HN := Lib.hid hn
  have HN' := Lib.hid hn'
  have hu := Try.underlying71
  obtain ⟨R, hR⟩ : ∃ R, R = decide (l = m) := ⟨_, rfl⟩
  have HR := Lib.hid hR
  rw [← hR]
  clear hn hn' hR
  have hbe : ((n : Int) != (n : Int)) = false := by simp
  go_enter Try.func47, Try.ntmps47
  go_wp2_with fail
  go_loopw [5] (fun i wr => ∃ k : Nat, k ≤ n ∧ i = .int .i64 k ∧ Hid (l.take k = m.take k) ∧ Below w.heap.size w wr) (fun i _ => n - (intOf i).toNat)
  case atStart => exact ⟨0, Nat.zero_le _, rfl, Lib.hid (by simp), Below.refl _ _⟩
  case round =>
    obtain ⟨k, hk, rfl, HP, hbr⟩ := hrel
    by_cases hlt : k < n
    · have d1 : decide ((k : Int) < (n : Int)) = true := by simp; omega
      have hkl : k < l.length := by rw [HN.out]; exact hlt
      have hkm : k < m.length := by rw [HN'.out]; exact hlt
      obtain ⟨b, o, rfl, hb, hc1, hc2, hrg⟩ := sees_node ((hs.below hbr).more hbr.size) k hkl
      obtain ⟨b', o', rfl, hb', hc1', hc2', hrg'⟩ := sees_node ((hs'.below hbr).more hbr.size) k hkm
      clear hc1 hc2 hc1' hc2'
      have HA := Lib.hid (fun (w1 : World) (hl : Le wr w1) => range_sees hrg hl hb)
      have HB := Lib.hid (fun (w1 : World) (hl : Le wr w1) => range_sees hrg' hl hb')
      have HQ := Lib.hid (fun w1 : World => eq_node 9996 l[k] m[k] w1)
      obtain ⟨x, hx⟩ : ∃ x, x = l[k] := ⟨_, rfl⟩
      obtain ⟨y, hy⟩ : ∃ y, y = m[k] := ⟨_, rfl⟩
      rw [← hx] at HA HQ
      rw [← hy] at HB HQ
      have HX := Lib.hid hx
      have HY := Lib.hid hy
      have HSX : Hid ((ncells x).length = 5) := Lib.hid rfl
      have HSY : Hid ((ncells y).length = 5) := Lib.hid rfl
      clear hx hy hrg hrg'
      cases hxy : decide (x = y) with
      | true =>
        rw [hxy] at HQ
        have HE := Lib.hid (of_decide_eq_true hxy)
        clear hxy
        go_wp2_with fail
        refine wp_region_steady [] 26 (by kernel_rfl) (by kernel_rfl) (by kernel_rfl) (by rfl) ?_
        iterate 3 (refine wpG_quiet (by rfl) (by rfl) (by rfl) (fun K hK => ?_); go_big_quiet_op; refine hK _ ?_; clear hK K)
        refine wpG_run (by rfl) (by rfl) (.agg (ncells x).toArray) (fun w1 hl => exec_load 71 (.tmp 19) rfl b (o + k * 5) rfl (ncells x) _ (HA.out w1 hl.1) hu rfl (by rw [HSX.out]; exact info_node)) ?_
        simp only [Act.put, List.setIfInBounds_toArray, List.set_cons_zero, List.set_cons_succ]
        iterate 3 (refine wpG_quiet (by rfl) (by rfl) (by rfl) (fun K hK => ?_); go_big_quiet_op; refine hK _ ?_; clear hK K)
        refine wpG_run (by rfl) (by rfl) (.agg (ncells y).toArray) (fun w1 hl => exec_load 71 (.tmp 23) rfl b' (o' + k * 5) rfl (ncells y) _ (HB.out w1 hl.1) hu rfl (by rw [HSY.out]; exact info_node)) ?_
        simp only [Act.put, List.setIfInBounds_toArray, List.set_cons_zero, List.set_cons_succ]
        refine wpG_run (by rfl) (by rfl) (.bool (!true)) (fun w1 hl => exec_neq 71 _ (.tmp 20) (.tmp 24) rfl _ _ rfl rfl guard_node true (HQ.out w1)) ?_
        simp only [Act.put, List.setIfInBounds_toArray, List.set_cons_zero, List.set_cons_succ]
        refine wpG_nil fun w1 hl _ => ?_
        have hb1 := hbr.trans (hl.mono hbr.size)
        clear hbr
        go_wp2_with fail
        go_roundw
        case rel => exact ⟨k + 1, by omega, by go_num, Lib.hid (by rw [List.take_succ_eq_append_getElem hkl, List.take_succ_eq_append_getElem hkm, HP.out, ← HX.out, ← HY.out, HE.out]), hb1⟩
        case measure => simp [intOf]; omega
      | false =>
        rw [hxy] at HQ
        have HRR : Hid (R = false) := Lib.hid (by
          rw [HR.out]
          refine decide_eq_false fun e => of_decide_eq_false hxy ?_
          rw [HX.out, HY.out]
          subst e
          rfl)
        clear hxy
        go_wp2_with fail
        refine wp_region_steady [] 26 (by kernel_rfl) (by kernel_rfl) (by kernel_rfl) (by rfl) ?_
        iterate 3 (refine wpG_quiet (by rfl) (by rfl) (by rfl) (fun K hK => ?_); go_big_quiet_op; refine hK _ ?_; clear hK K)
        refine wpG_run (by rfl) (by rfl) (.agg (ncells x).toArray) (fun w1 hl => exec_load 71 (.tmp 19) rfl b (o + k * 5) rfl (ncells x) _ (HA.out w1 hl.1) hu rfl (by rw [HSX.out]; exact info_node)) ?_
        simp only [Act.put, List.setIfInBounds_toArray, List.set_cons_zero, List.set_cons_succ]
        iterate 3 (refine wpG_quiet (by rfl) (by rfl) (by rfl) (fun K hK => ?_); go_big_quiet_op; refine hK _ ?_; clear hK K)
        refine wpG_run (by rfl) (by rfl) (.agg (ncells y).toArray) (fun w1 hl => exec_load 71 (.tmp 23) rfl b' (o' + k * 5) rfl (ncells y) _ (HB.out w1 hl.1) hu rfl (by rw [HSY.out]; exact info_node)) ?_
        simp only [Act.put, List.setIfInBounds_toArray, List.set_cons_zero, List.set_cons_succ]
        refine wpG_run (by rfl) (by rfl) (.bool (!false)) (fun w1 hl => exec_neq 71 _ (.tmp 20) (.tmp 24) rfl _ _ rfl rfl guard_node false (HQ.out w1)) ?_
        simp only [Act.put, List.setIfInBounds_toArray, List.set_cons_zero, List.set_cons_succ]
        refine wpG_nil fun w1 hl _ => ?_
        have hb1 := hbr.trans (hl.mono hbr.size)
        clear hbr
        go_wp2_with fail
        go_ret
        exact ⟨by rw [HRR.out]; rfl, hb1⟩
    · obtain rfl : k = n := by omega
      have HRR : Hid (R = true) := Lib.hid (by
        have := HP.out
        rw [List.take_of_length_le (by rw [HN.out]; exact Nat.le_refl _), List.take_of_length_le (by rw [HN'.out]; exact Nat.le_refl _)] at this
        rw [HR.out]
        exact decide_eq_true this)
      go_wp2_with fail
      go_ret
      exact ⟨by rw [HRR.out]; rfl, hbr⟩
theorem rsame_any (A : Option Addr) (n c : Nat) (l : List Nd) (A' : Option Addr) (n' c' : Nat) (m : List Nd) (w : World) (hn : l.length = n) (hn' : m.length = n') (hs : Sees w w.heap.size A (ncs l)) (hs' : Sees w w.heap.size A' (ncs m)) (hm : n ≤ 65536) :
    Calls Try.prog 47 #[.slice A n c, .slice A' n' c'] w fun e w' => e = .returned (.bool (decide (l = m))) ∧ Below w.heap.size w w' := by
  by_cases h : n = n'
  · subst h
    exact rsame_len A n c l A' c' m w hn hn' hs hs' hm
  · have hbe : ((n : Int) != (n' : Int)) = true := by rw [bne_iff_ne]; omega
    have HNE : Hid (decide (l = m) = false) := Lib.hid (decide_eq_false (by rintro rfl; omega))
    clear h hn hn' hs hs'
    go_enter Try.func47, Try.ntmps47
    go_wp2_with fail
    go_ret
    exact ⟨by rw [HNE.out]; rfl, Below.refl _ _⟩
end Go.Proofs.Ytadmaalhhigbeaa
