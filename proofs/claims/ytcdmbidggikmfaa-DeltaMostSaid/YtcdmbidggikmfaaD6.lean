/- What the program keeps as it looks for the last step, and how the document looks for it: mathematics. -/
import Derived.Test.YtcdmbidggikmfaaD5
import Derived.Test.YtcdmbidggikmfaaD3
import Derived.Maps.Own
import Derived.Laws.EntriesVeiled
import Derived.Scope
namespace Go.Proofs.Ytcdmbidggikmfaa
set_option linter.unusedVariables false
set_option linter.unusedSimpArgs false
open Go Go.RowKit

/-- What each card was at first, as the program keeps it. -/
def fstep (m : KV Int) (t : Tn) : KV Int := if (kget m t.id).isSome then m else kput m t.id t.old
def fmap (u : List Tn) : KV Int := u.foldl fstep []
theorem fmap_append (u : List Tn) (t : Tn) : fmap (u ++ [t]) = fstep (fmap u) t := by simp [fmap]
theorem fmap_rise (u : List Tn) : KRise (fmap u) := by
  have : ∀ (l : List Tn) (m : KV Int), KRise m → KRise (l.foldl fstep m) := by
    intro l
    induction l with
    | nil => intro m h; exact h
    | cons t l ih =>
      intro m h
      refine ih _ ?_
      unfold fstep
      split
      · exact h
      · exact KRise.put h _ _
  exact this u [] List.Pairwise.nil
theorem first_end (u : List Tn) (t : Tn) (i : Int) : firstT (u ++ [t]) i = match firstT u i with | some f => some f | none => if t.id = i then some t else none := by
  rw [firstT_append]
  cases firstT u i with
  | some f => rfl
  | none =>
    show ([t].find? (fun t => decide (t.id = i))) = if t.id = i then some t else none
    by_cases h : t.id = i
    · simp [List.find?_cons, h]
    · simp [List.find?_cons, h]
theorem fmap_get (u : List Tn) (i : Int) : kget (fmap u) i = (firstT u i).map (·.old) := by
  have key : ∀ (n : Nat) (l : List Tn), l.length = n → ∀ i, kget (fmap l) i = (firstT l i).map (·.old) := by
    intro n
    induction n with
    | zero =>
      intro l hl i
      have : l = [] := List.length_eq_zero_iff.1 hl
      subst this
      rfl
    | succ n ih =>
      intro l hl i
      obtain ⟨v, t, rfl⟩ : ∃ a t, l = a ++ [t] := by
        have hne : l ≠ [] := by intro e; rw [e] at hl; cases hl
        exact ⟨l.dropLast, l.getLast hne, (List.dropLast_concat_getLast hne).symm⟩
      have ha : v.length = n := by rw [List.length_append] at hl; simpa using hl
      have ih := ih v ha
      rw [fmap_append, first_end]
      unfold fstep
      split
      · rename_i h
        rw [ih] at h ⊢
        cases hf : firstT v i with
        | some f => rfl
        | none =>
          simp only
          by_cases ht : t.id = i
          · rw [ht, hf] at h
            cases h
          · rw [if_neg ht]
      · rename_i h
        rw [kget_put _ _ _ _ (fmap_rise v), ih]
        have h2 : firstT v t.id = none := by
          rw [ih] at h
          cases hf : firstT v t.id with
          | none => rfl
          | some f => rw [hf] at h; exact absurd rfl h
        by_cases ht : i = t.id
        · subst ht
          rw [if_pos rfl, h2]
          simp
        · rw [if_neg ht]
          cases hf : firstT v i with
          | some f => rfl
          | none =>
            simp only
            rw [if_neg (fun e => ht e.symm)]
  exact key u.length u rfl i
/-- The map when the next turn is known: what its card was at first. -/
theorem fmap_known (u : List Tn) (t : Tn) : kget (fmap (u ++ [t])) t.id = some (fstOld u t.id t.old) := by
  rw [fmap_get, first_end]
  unfold fstOld
  cases firstT u t.id with
  | some f => rfl
  | none =>
    simp
theorem fmap_new {u : List Tn} {t : Tn} (h : kget (fmap u) t.id = none) : fmap (u ++ [t]) = kput (fmap u) t.id t.old := by
  rw [fmap_append]
  unfold fstep
  rw [h]
  rfl
theorem fmap_old {u : List Tn} {t : Tn} {x : Int} (h : kget (fmap u) t.id = some x) : fmap (u ++ [t]) = fmap u := by
  rw [fmap_append]
  unfold fstep
  rw [h]
  rfl
theorem take_end {u : List Tn} {k : Nat} (hk : k < u.length) : u.take (k + 1) = u.take k ++ [u[k]] := by
  rw [List.take_add_one, List.getElem?_eq_getElem hk]
  rfl
/-- How many items, as the program counts. -/
def items (u : List Tn) (k : Nat) : Int := ((net (u.take k)).length : Int)
theorem items_zero (u : List Tn) : items u 0 = 0 := rfl
theorem items_succ {u : List Tn} (hc : chainT u) {k : Nat} (hk : k < u.length) :
    items u (k + 1) = items u k + (chg (fstOld (u.take k) (u[k]).id (u[k]).old) (u[k]).nw - chg (fstOld (u.take k) (u[k]).id (u[k]).old) (u[k]).old) := by
  have h := net_step (a := u.take k) (t := u[k]) (by
    rw [← take_end hk]
    exact chain_pre (b := u.drop (k + 1)) (by rw [List.take_append_drop]; exact hc))
  unfold items
  rw [take_end hk]
  omega
theorem items_len (u : List Tn) (k : Nat) : 0 ≤ items u k ∧ items u k ≤ k := by
  have := net_len (u.take k)
  rw [List.length_take] at this
  unfold items
  omega
theorem best_fit {u : List Tn} {page k : Nat} (h : items u k ≤ (page : Int)) : best u page k = k := by
  cases k with
  | zero => rfl
  | succ k =>
    unfold best
    rw [if_pos (by unfold items at h; omega)]
theorem best_not {u : List Tn} {page k : Nat} (h : ¬ items u (k + 1) ≤ (page : Int)) : best u page (k + 1) = best u page k := by
  show (if _ then _ else _) = _
  rw [if_neg (by unfold items at h; omega)]
/-- Up to which step the program has come before it looks at the k-th. -/
def toAt (u : List Tn) (from' now : Int) (page : Nat) : Nat → Int
  | 0 => from'
  | k + 1 => stepAt u now (best u page k)
theorem toAt_fits {u : List Tn} {f now : Int} {page k : Nat} (h : items u k ≤ (page : Int)) (hk : k < u.length) : toAt u f now page (k + 1) = (u[k]).sq - 1 := by
  show stepAt u now (best u page k) = _
  rw [best_fit h]
  unfold stepAt
  rw [List.getElem?_eq_getElem hk]
theorem toAt_not {u : List Tn} {f now : Int} {page k : Nat} (h : ¬ items u k ≤ (page : Int)) : toAt u f now page (k + 1) = toAt u f now page k := by
  cases k with
  | zero =>
    exfalso
    rw [items_zero] at h
    omega
  | succ k =>
    show stepAt u now (best u page (k + 1)) = stepAt u now (best u page k)
    rw [best_not h]
theorem toAt_end {u : List Tn} {f now : Int} {page : Nat} (h : items u u.length ≤ (page : Int)) : toAt u f now page (u.length + 1) = now := by
  show stepAt u now (best u page u.length) = _
  rw [best_fit h]
  unfold stepAt
  rw [List.getElem?_eq_none (Nat.le_refl _)]
/-- The document looks from behind. -/
theorem best_down {u : List Tn} {page n : Nat} : ∀ {k}, n ≤ k → (∀ j, n < j → j ≤ k → ¬ items u j ≤ (page : Int)) → best u page k = best u page n
  | 0, h, _ => by rw [show n = 0 by omega]
  | k + 1, h, hj => by
    rcases Nat.lt_or_ge n (k + 1) with h1 | h1
    · rw [best_not (hj (k + 1) h1 (Nat.le_refl _))]
      exact best_down (by omega) (fun j a b => hj j a (by omega))
    · rw [show n = k + 1 by omega]
/-- What both give: the turns' net, and up to which step. -/
def cutL (l : List Tn) (f now c : Int) (page : Nat) : List Tn := (upl l f now c).take (cutN (upl l f now c) page)
def cutTo (l : List Tn) (f now c : Int) (page : Nat) : Int := stepAt (upl l f now c) now (cutN (upl l f now c) page)
theorem cutL_up {l : List Tn} (hr : SRise l) {f now c : Int} (h : f ≤ now) (page : Nat) : upl l f (cutTo l f now c page) c = cutL l f now c page :=
  (upl_cut hr h (best_le _ _ _)).1
/-- The turns as they were cut off already: nothing new is left out. -/
theorem upl_twice (l : List Tn) {f to now c : Int} (h : to ≤ now) : upl (upl l f now c) f to c = upl l f to c := by
  unfold upl
  rw [List.filter_filter]
  refine List.filter_congr (fun t _ => ?_)
  rw [← Bool.decide_and]
  exact decide_eq_decide.2 ⟨fun h1 => h1.1, fun h1 => ⟨h1, h1.1, by omega, h1.2.2⟩⟩
theorem cutTo_in {l : List Tn} {f now c : Int} (h : f ≤ now) (page : Nat) : f ≤ cutTo l f now c page ∧ cutTo l f now c page ≤ now :=
  step_most (fun t ht => by have := upl_mem.1 ht; exact ⟨this.2.1, this.2.2.1⟩) h
theorem cut_fits (l : List Tn) (f now c : Int) (page : Nat) : (net (cutL l f now c page)).length ≤ page := best_fits _ _ _
/-- Up to no later step would these fit. -/
theorem cut_most {l : List Tn} (hr : SRise l) {f now c later : Int} {page : Nat} (hf : f ≤ now) (h1 : cutTo l f now c page < later) (h2 : later ≤ now) :
    page < (net (upl l f later c)).length := by
  obtain ⟨u, hu⟩ : ∃ u, u = upl l f now c := ⟨_, rfl⟩
  have hur : SRise u := by rw [hu]; exact upl_rise hr _ _ _
  have hub : ∀ t ∈ u, t.sq ≤ now := fun t ht => by rw [hu] at ht; exact (upl_mem.1 ht).2.2.1
  have e0 : upl l f later c = u.filter (fun t => decide (t.sq ≤ later)) := by
    rw [hu]
    unfold upl
    rw [List.filter_filter]
    refine List.filter_congr (fun t _ => ?_)
    rw [← Bool.decide_and]
    exact decide_eq_decide.2 ⟨fun h => ⟨h.2.1, h.1, by omega, h.2.2⟩, fun h => ⟨h.2.1, h.1, h.2.2.2⟩⟩
  -- how many turns are up to it
  obtain ⟨n, hn, hn2⟩ : ∃ n, n ≤ u.length ∧ u.filter (fun t => decide (t.sq ≤ later)) = u.take n ∧ (∀ k, ∀ hk : k < u.length, k < n ↔ (u[k]).sq ≤ later) := by
    clear hu e0 hub
    induction u with
    | nil => exact ⟨0, Nat.le_refl _, rfl, fun k hk => by cases hk⟩
    | cons t u ih =>
      obtain ⟨p1, p2⟩ := List.pairwise_cons.1 hur
      by_cases ht : t.sq ≤ later
      · obtain ⟨n, i1, i2, i3⟩ := ih p2
        refine ⟨n + 1, by simpa using i1, ?_, ?_⟩
        · rw [List.filter_cons, decide_eq_true ht, List.take_succ_cons, ← i2]
          rfl
        · intro k hk
          cases k with
          | zero => exact ⟨fun _ => ht, fun _ => by omega⟩
          | succ k =>
            have := i3 k (by simpa using hk)
            rw [List.getElem_cons_succ]
            omega
      · refine ⟨0, Nat.zero_le _, ?_, ?_⟩
        · rw [List.take_zero, List.filter_eq_nil_iff]
          intro s hs
          rcases List.mem_cons.1 hs with rfl | hs
          · simp; omega
          · have := p1 s hs; simp; omega
        · intro k hk
          cases k with
          | zero => exact ⟨fun h => by omega, fun h => absurd h ht⟩
          | succ k =>
            have := p1 _ (List.getElem_mem (show k < u.length by simpa using hk))
            rw [List.getElem_cons_succ]
            omega
  rw [e0, hn2.1]
  have hc : cutTo l f now c page = stepAt u now (cutN u page) := by rw [hu]; rfl
  rw [hc] at h1
  refine best_most u page (k := u.length) (j := n) ?_ hn
  show cutN u page < n
  have hle : cutN u page ≤ u.length := best_le _ _ _
  rcases Nat.lt_or_ge (cutN u page) u.length with hl | hl
  · unfold stepAt at h1
    rw [List.getElem?_eq_getElem hl] at h1
    exact (hn2.2 _ hl).2 (by simp only at h1; omega)
  · unfold stepAt at h1
    rw [List.getElem?_eq_none hl] at h1
    simp only at h1
    omega
end Go.Proofs.Ytcdmbidggikmfaa

/- The turns up to a step, from another one on, and up to a cursor: the program's upTo, the document's Up. -/
namespace Go.Proofs.Ytcdmbidggikmfaa
set_option linter.unusedVariables false
set_option linter.unusedSimpArgs false
open Go Go.RowKit BitM

def upat (a b c : Int) (t : Tn) : Bool := decide (a < t.sq ∧ t.sq ≤ b ∧ t.id ≤ c)
theorem upl_take {l : List Tn} {a b c : Int} {k : Nat} (hk : k < l.length) : upl (l.take (k + 1)) a b c = if upat a b c l[k] = true then upl (l.take k) a b c ++ [l[k]] else upl (l.take k) a b c := by
  rw [take_end hk]
  unfold upl upat
  rw [List.filter_append, List.filter_cons, List.filter_nil]
  split
  · rfl
  · rw [List.append_nil]
theorem info_trn4 : ∃ i0, Try.prog.info? 51 = some i0 ∧ i0.zero = some (.agg (tcl ⟨0, 0, 0, 0, zcd⟩).toArray) ∧ i0.size = 31 ∧ i0.bytes = 312 := by
  have h : (Try.prog.info? 51).map (fun i => (i.zero, i.size, i.bytes)) = some (some (.agg (tcl ⟨0, 0, 0, 0, zcd⟩).toArray), 31, 312) := by kernel_rfl
  cases hi : Try.prog.info? 51 with
  | none => rw [hi] at h; cases h
  | some i0 =>
    rw [hi] at h
    simp only [Option.map_some, Option.some.injEq, Prod.mk.injEq] at h
    exact ⟨i0, rfl, h.1, h.2.1, h.2.2⟩
theorem run_ts1 (t : Tn) (ht : okCd t.cd) (w : World) : (Instr.buildSlice 22 1 #[(0, .agg (tcl t).toArray)]).run Try.prog w = .ok (.slice (some ⟨w.heap.size, 0, none⟩) 1 1) (w.alloc (.cells (tcl t).toArray 51)) := by
  obtain ⟨sq, id, od, nw, i, v, lb, f⟩ := t
  obtain ⟨⟨_, _, _⟩, ⟨_, _, _⟩, ⟨_, _, _⟩, ⟨_, _, _⟩, ⟨_, _, _⟩, ⟨_, _, _⟩, ⟨_, _, _⟩, ⟨_, _, _⟩, e⟩ := tr_eight (show f.length = 8 from ht)
  subst e
  kernel_rfl
theorem exec_ts1 {a : Act} {op : Oper} (y : Operand) (ho : op.op = .buildSlice 22 1 #[(0, y)]) (t : Tn) (ht : okCd t.cd) (hy : a.eval y = .agg (tcl t).toArray) (w : World) :
    (execOp a.eval op).run Try.prog w = .ok (.value (.slice (some ⟨w.heap.size, 0, none⟩) 1 1)) (w.alloc (.cells (tcl t).toArray 51)) := by
  unfold execOp
  simp only [ho, List.map_toArray, List.map_cons, List.map_nil, hy, Sem.run_bind, run_ts1 t ht, Result.andThen_ok, Sem.run_pure]
theorem run_ts0 (w : World) : (Instr.buildSlice 22 0 #[]).run Try.prog w = .ok (.slice (some ⟨w.heap.size, 0, none⟩) 0 0) (w.alloc (.cells #[] 51)) := by kernel_rfl
/-- A slice of turns that is seen is given back. -/
def GivesT (w : World) (L : List Tn) (e : Ending) (w' : World) : Prop :=
  ∃ A' c', e = .returned (.slice A' L.length c') ∧ SeesR tcl w' A' L.length c' L ∧ Below w.heap.size w w'
theorem exec_ts0 {a : Act} {op : Oper} (ho : op.op = .buildSlice 22 0 #[]) (w : World) :
    (execOp a.eval op).run Try.prog w = .ok (.value (.slice (some ⟨w.heap.size, 0, none⟩) 0 0)) (w.alloc (.cells #[] 51)) := by
  unfold execOp
  simp only [ho, List.map_toArray, List.map_nil, Sem.run_bind, run_ts0, Result.andThen_ok, Sem.run_pure]
set_option maxRecDepth 100000 in
set_option maxHeartbeats 6400000 in
theorem upto_any (A : Option Addr) (n c : Nat) (l : List Tn) (fr to cu : Int) (w : World) (h : SeesR tcl w A n c l) (hok : ∀ t ∈ l, okCd t.cd) (hz : n ≤ 65000) :
    Calls Try.prog 21 #[.slice A n c, .int .i64 fr, .int .i64 to, .int .i64 cu] w (GivesT w (upl l fr to cu)) := by
  have hu := Try.underlying51
  obtain ⟨i1, ji, jz0, jz1, jz2⟩ := info_trn4
  have HN := Lib.hid h.len
  have HTLN := Lib.hid (fun k (hk : k < l.length) => hok _ (List.getElem_mem hk))
  have HCE : Hid (∀ k, k < l.length → ∃ b o, A = some ⟨b, o, none⟩ ∧ ∀ W, Below w.heap.size w W → ∀ k (hk : k < l.length), W.cell? ⟨b, o + k * 31, none⟩ = some (.int .i64 l[k].sq) ∧ W.cell? ⟨b, o + k * 31 + 1, none⟩ = some (.int .i64 l[k].id) ∧
      W.rangeAt b (o + k * 31) (tcl l[k])) := Lib.hid (fun k hk => by
    obtain ⟨b, o, e, _, hc⟩ := turn_cells h hok (by omega)
    exact ⟨b, o, e, fun W hW k hk => ⟨(hc W hW k hk).1, (hc W hW k hk).2.1, (hc W hW k hk).2.2.2.2.1⟩⟩)
  have HUP := Lib.hid (fun k (hk : k < l.length) => upl_take (a := fr) (b := to) (c := cu) hk)
  obtain ⟨Z, hZ⟩ : ∃ Z, Z = tcl ⟨0, 0, 0, 0, zcd⟩ := ⟨_, rfl⟩
  have HZL := Lib.hid (show Z.length = 31 by rw [hZ]; rfl)
  have HZZ : Hid (Z.toArray = #[Value.int .i64 0, .int .i64 0, .int .i64 0, .int .i64 0, .int .i64 0, .int .i64 0, .int .u32 0, .int .i64 0, .int .i64 0, .string { data := #[] }, .int .i64 0, .int .i64 0, .string { data := #[] }, .int .i64 0, .int .i64 0, .string { data := #[] }, .int .i64 0, .int .i64 0, .string { data := #[] }, .int .i64 0, .int .i64 0, .string { data := #[] }, .int .i64 0, .int .i64 0, .string { data := #[] }, .int .i64 0, .int .i64 0, .string { data := #[] }, .int .i64 0, .int .i64 0, .string { data := #[] }]) := Lib.hid (by rw [hZ]; rfl)
  have HR0 := Lib.hid (World.ownsRow_nil w w.heap.size 51 31)
  have HB0 := Lib.hid (Below.refl w.heap.size w)
  clear h hok hZ
  go_enter Try.func21, Try.ntmps21
  go_wp2_with fail
  go_loopw [9, 14] (fun v i wr => ∃ (k mm cc : Nat) (AA : Option Addr), k ≤ n ∧ v = .slice AA mm cc ∧ i = .int .i64 (k : Int) ∧ mm ≤ k ∧ Hid (mm = (upl (l.take k) fr to cu).length) ∧ Hid (wr.ownsRow w.heap.size 51 31 (.slice AA mm cc) mm (rws tcl (upl (l.take k) fr to cu))) ∧ Hid (Below w.heap.size w wr)) (fun _ i _ => n - (iOf i).toNat)
  case atStart => exact ⟨0, 0, 0, none, by omega, rfl, rfl, by omega, Lib.hid rfl, HR0, HB0⟩
  case round =>
    clear HR0 HB0
    obtain ⟨k, mm, cc, AA, hk, rfl, rfl, hmm, HMM, HRW, HB⟩ := hrel
    by_cases hlt : k < n
    · have d0 : decide ((k : Int) < (n : Int)) = true := decide_eq_true (by omega)
      have hkl : k < l.length := by rw [HN.out]; exact hlt
      obtain ⟨b, o, rfl, hcc⟩ := HCE.out k hkl
      have hrg := (hcc wr HB.out k hkl).2.2
      have HOK := Lib.hid (HTLN.out k hkl)
      have HUN : Hid (¬ (fr < l[k].sq ∧ l[k].sq ≤ to ∧ l[k].id ≤ cu) → upl (l.take (k + 1)) fr to cu = upl (l.take k) fr to cu) := Lib.hid (fun e => by
        rw [HUP.out k hkl, if_neg (by unfold upat; simpa using e)])
      have HUY : Hid (fr < l[k].sq ∧ l[k].sq ≤ to ∧ l[k].id ≤ cu → upl (l.take (k + 1)) fr to cu = upl (l.take k) fr to cu ++ [l[k]]) := Lib.hid (fun e => by
        rw [HUP.out k hkl, if_pos (by unfold upat; exact decide_eq_true e)])
      generalize l[k] = t at *
      have htl : (tcl t).length = 31 := tcl_len HOK.out
      have ht1 := tcl_one t
      have HEX := Lib.hid (fun (W : World) (a : Act) (op : Oper) (y : Operand) (ho : op.op = .buildSlice 22 1 #[(0, y)]) (hy : a.eval y = .agg (tcl t).toArray) => exec_ts1 (a := a) (op := op) y ho t HOK.out hy W)
      have B1 := Blk.new wr Z 51
      have hb2 := (Below.refl wr.heap.size wr).alloc (Nat.le_refl _) (.cells Z.toArray 51)
      have TH1 := B1.there 0 31 (by rw [HZL.out]; omega)
      obtain ⟨W1, hW1⟩ : ∃ W1, W1 = (wr.alloc (.cells Z.toArray 51)).setCells wr.heap.size 0 (tcl t) := ⟨_, rfl⟩
      have BI : Blk W1 wr.heap.size (tcl t) := by rw [hW1]; exact B1.whole (by rw [HZL.out, htl])
      have hb3 : Below wr.heap.size wr W1 := by rw [hW1]; exact below_sets (Nat.le_refl _) _ _ hb2
      have HB1 := Lib.hid (HB.out.trans (hb3.mono HB.out.size))
      have HRW1 := Lib.hid (row_later HRW.out hb3)
      have q0 : W1.cell? ⟨wr.heap.size, 0, none⟩ = some (.int .i64 t.sq) := BI.cell (j := 0) rfl
      have q1 : W1.cell? ⟨wr.heap.size, 1, none⟩ = some (.int .i64 t.id) := BI.cell (j := 1) rfl
      have RG := BI.wholeC
      have HW1 := Lib.hid hW1
      rw [HZZ.out] at TH1
      clear B1 hb2 hW1 BI hb3
      obtain ⟨X, hX⟩ : ∃ X, X = tcl t := ⟨_, rfl⟩
      have B7 := Blk.new W1 X 51
      have hb8 := (Below.refl W1.heap.size W1).alloc (Nat.le_refl _) (.cells X.toArray 51)
      obtain ⟨W7, hW7⟩ : ∃ W7, W7 = W1.alloc (.cells X.toArray 51) := ⟨_, rfl⟩
      rw [← hX] at hrg htl ht1 HEX RG HW1
      have HEX1 : Hid (∀ (a : Act) (op : Oper) (y : Operand), op.op = .buildSlice 22 1 #[(0, y)] → a.eval y = .agg X.toArray → (execOp a.eval op).run Try.prog W1 = .ok (.value (.slice (some ⟨W1.heap.size, 0, none⟩) 1 1)) W7) := Lib.hid (by rw [hW7]; exact HEX.out W1)
      rw [← hW7] at B7 hb8
      have HRW3 := Lib.hid (row_later HRW1.out hb8)
      have HB3 := Lib.hid (HB1.out.trans (hb8.mono HB1.out.size))
      have HS7 : Hid (Sees W7 W7.heap.size (some ⟨W1.heap.size, 0, none⟩) X) := Lib.hid (fun _ => ⟨W1.heap.size, 0, rfl, B7.lt, fun j hj => by rw [Nat.zero_add]; exact B7.cell (List.getElem?_eq_getElem hj)⟩)
      have HZ7 := Lib.hid HB3.out.size
      have HRN : Hid (fr < t.sq ∧ t.sq ≤ to ∧ t.id ≤ cu → rws tcl (upl (l.take k) fr to cu) ++ X = rws tcl (upl (l.take (k + 1)) fr to cu)) := Lib.hid (fun e => by rw [HUY.out e, rws_append, rws_one, hX])
      have HLN : Hid (fr < t.sq ∧ t.sq ≤ to ∧ t.id ≤ cu → mm + 1 = (upl (l.take (k + 1)) fr to cu).length) := Lib.hid (fun e => by rw [HUY.out e, List.length_append, ← HMM.out]; rfl)
      have HXL := Lib.hid htl
      have HX1 := Lib.hid ht1
      have HMN : Hid (¬ (fr < t.sq ∧ t.sq ≤ to ∧ t.id ≤ cu) → mm = (upl (l.take (k + 1)) fr to cu).length) := Lib.hid (fun e => by rw [HUN.out e]; exact HMM.out)
      have HRM : Hid (¬ (fr < t.sq ∧ t.sq ≤ to ∧ t.id ≤ cu) → W1.ownsRow w.heap.size 51 31 (.slice AA mm cc) mm (rws tcl (upl (l.take (k + 1)) fr to cu))) := Lib.hid (fun e => by rw [HUN.out e]; exact HRW1.out)
      generalize t.sq = x at *
      generalize t.id = y at *
      generalize rws tcl (upl (l.take k) fr to cu) = C0 at *
      clear hcc hX B7 hb8 hW7 HEX HUN HUY HUP HCE HTLN HOK HRW HMM HRW1
      by_cases z1 : fr < x
      · have e1 : decide (fr < x) = true := decide_eq_true z1
        by_cases z2 : x ≤ to
        · have e2 : decide (x ≤ to) = true := decide_eq_true z2
          by_cases z3 : y ≤ cu
          · have e3 : decide (y ≤ cu) = true := decide_eq_true z3
            have HC : Hid (fr < x ∧ x ≤ to ∧ y ≤ cu) := Lib.hid ⟨z1, z2, z3⟩
            have HLN9 := Lib.hid (HLN.out HC.out)
            clear z1 z2 z3 HMN HRM HLN
            go_wp2_with (first
              | (refine wpList_load_mid rfl 51 (.tmp 16) rfl b (o + k * 31) rfl X _ hrg hu rfl (by rw [HXL.out]; exact info_turn) ?_
                 simp only [Act.put, List.setIfInBounds_toArray, List.set_cons_zero, List.set_cons_succ])
              | (refine wpList_store_mid rfl 51 (.tmp 11) (.tmp 17) rfl wr.heap.size 0 X.toArray rfl rfl (by simpa [HXL.out] using TH1) (by simpa [HXL.out] using info_turn) (all_oneCell_toArray HX1.out) ?_
                 rw [← HZZ.out, ← HW1.out]
                 clear TH1 hrg)
              | (refine wpList_load_mid rfl 51 (.tmp 11) rfl wr.heap.size 0 rfl X _ RG hu rfl (by rw [HXL.out]; exact info_turn) ?_
                 simp only [Act.put, List.setIfInBounds_toArray, List.set_cons_zero, List.set_cons_succ])
              | (refine wpList_execx (by rfl) (.slice (some ⟨W1.heap.size, 0, none⟩) 1 1) (HEX1.out _ _ (.tmp 35) rfl rfl) ?_
                 simp only [Act.put, List.setIfInBounds_toArray, List.set_cons_zero, List.set_cons_succ])
              | (at_builtin
                 refine wpList_appk _ rfl (.tmp 34) (.tmp 36) 22 rfl w.heap.size 51 i1 _ 31 312 Try.underlying22 ji jz0 jz1 jz2 rfl (by decide) (.slice AA mm cc) mm C0 rfl HRW3.out _ (some ⟨W1.heap.size, 0, none⟩) 1 X 1 rfl (by rw [HXL.out]) HS7.out HX1.out (by unfold maxLen; omega) (by omega) HZ7.out ?_
                 intro A9 c9 w9 hr9 hb9 hg9 hat9
                 rw [HRN.out HC.out] at hr9
                 have HR9 := Lib.hid hr9
                 have HB9 := Lib.hid (HB3.out.trans hb9)
                 clear hr9 hg9 hat9 hb9)
              | fail)
            go_roundw
            case rel => exact ⟨k + 1, mm + 1, c9, A9, by omega, rfl, by go_num, by omega, HLN9, HR9, HB9⟩
            case measure => simp [iOf]; omega
          · have e3 : decide (y ≤ cu) = false := decide_eq_false z3
            have HMM9 := Lib.hid (HMN.out (by omega))
            have HRW9 := Lib.hid (HRM.out (by omega))
            clear HEX1 HRW3 HB3 HS7 HZ7 HRN HLN HMN HRM z1 z2 z3
            go_wp2_with (first
              | (refine wpList_load_mid rfl 51 (.tmp 16) rfl b (o + k * 31) rfl X _ hrg hu rfl (by rw [HXL.out]; exact info_turn) ?_
                 simp only [Act.put, List.setIfInBounds_toArray, List.set_cons_zero, List.set_cons_succ])
              | (refine wpList_store_mid rfl 51 (.tmp 11) (.tmp 17) rfl wr.heap.size 0 X.toArray rfl rfl (by simpa [HXL.out] using TH1) (by simpa [HXL.out] using info_turn) (all_oneCell_toArray HX1.out) ?_
                 rw [← HZZ.out, ← HW1.out]
                 clear TH1 hrg)
              | fail)
            go_roundw
            case rel => exact ⟨k + 1, mm, cc, AA, by omega, rfl, by go_num, by omega, HMM9, HRW9, HB1⟩
            case measure => simp [iOf]; omega
        · have e2 : decide (x ≤ to) = false := decide_eq_false z2
          have HMM9 := Lib.hid (HMN.out (by omega))
          have HRW9 := Lib.hid (HRM.out (by omega))
          clear HEX1 HRW3 HB3 HS7 HZ7 HRN HLN HMN HRM z1 z2
          go_wp2_with (first
            | (refine wpList_load_mid rfl 51 (.tmp 16) rfl b (o + k * 31) rfl X _ hrg hu rfl (by rw [HXL.out]; exact info_turn) ?_
               simp only [Act.put, List.setIfInBounds_toArray, List.set_cons_zero, List.set_cons_succ])
            | (refine wpList_store_mid rfl 51 (.tmp 11) (.tmp 17) rfl wr.heap.size 0 X.toArray rfl rfl (by simpa [HXL.out] using TH1) (by simpa [HXL.out] using info_turn) (all_oneCell_toArray HX1.out) ?_
               rw [← HZZ.out, ← HW1.out]
               clear TH1 hrg)
            | fail)
          go_roundw
          case rel => exact ⟨k + 1, mm, cc, AA, by omega, rfl, by go_num, by omega, HMM9, HRW9, HB1⟩
          case measure => simp [iOf]; omega
      · have e1 : decide (fr < x) = false := decide_eq_false z1
        have HMM9 := Lib.hid (HMN.out (by omega))
        have HRW9 := Lib.hid (HRM.out (by omega))
        clear HEX1 HRW3 HB3 HS7 HZ7 HRN HLN HMN HRM z1
        go_wp2_with (first
          | (refine wpList_load_mid rfl 51 (.tmp 16) rfl b (o + k * 31) rfl X _ hrg hu rfl (by rw [HXL.out]; exact info_turn) ?_
             simp only [Act.put, List.setIfInBounds_toArray, List.set_cons_zero, List.set_cons_succ])
          | (refine wpList_store_mid rfl 51 (.tmp 11) (.tmp 17) rfl wr.heap.size 0 X.toArray rfl rfl (by simpa [HXL.out] using TH1) (by simpa [HXL.out] using info_turn) (all_oneCell_toArray HX1.out) ?_
             rw [← HZZ.out, ← HW1.out]
             clear TH1 hrg)
          | fail)
        go_roundw
        case rel => exact ⟨k + 1, mm, cc, AA, by omega, rfl, by go_num, by omega, HMM9, HRW9, HB1⟩
        case measure => simp [iOf]; omega
    · obtain rfl : k = n := by omega
      have HF : Hid (GivesT w (upl l fr to cu) (.returned (.slice AA mm cc)) wr) := Lib.hid (by
        have h1 := HRW.out
        have h2 := HMM.out
        rw [List.take_of_length_le (by have := HN.out; omega)] at h1 h2
        refine ⟨AA, cc, by rw [← h2], ?_, HB.out⟩
        rw [← h2]
        exact SeesR.of_row h1 h2.symm (row_capi h1))
      clear HRW HMM HUP HCE HTLN HB
      go_wp2_with fail
      go_ret
      exact HF.out
end Go.Proofs.Ytcdmbidggikmfaa

/- The document's Up. -/
namespace Go.Proofs.Ytcdmbidggikmfaa
set_option linter.unusedVariables false
set_option linter.unusedSimpArgs false
open Go Go.RowKit BitM

set_option maxRecDepth 100000 in
set_option maxHeartbeats 6400000 in
theorem rup_any (A : Option Addr) (n c : Nat) (l : List Tn) (fr to cu : Int) (w : World) (h : SeesR tcl w A n c l) (hok : ∀ t ∈ l, okCd t.cd) (hz : n ≤ 65000) :
    Calls Try.prog 13 #[.slice A n c, .int .i64 fr, .int .i64 to, .int .i64 cu] w (GivesT w (upl l fr to cu)) := by
  have hu := Try.underlying51
  obtain ⟨i1, ji, jz0, jz1, jz2⟩ := info_trn4
  have HN := Lib.hid h.len
  have HTLN := Lib.hid (fun k (hk : k < l.length) => hok _ (List.getElem_mem hk))
  have HCE : Hid (∀ k, k < l.length → ∃ b o, A = some ⟨b, o, none⟩ ∧ ∀ W, Below w.heap.size w W → ∀ k (hk : k < l.length), W.cell? ⟨b, o + k * 31, none⟩ = some (.int .i64 l[k].sq) ∧ W.cell? ⟨b, o + k * 31 + 1, none⟩ = some (.int .i64 l[k].id) ∧
      W.rangeAt b (o + k * 31) (tcl l[k])) := Lib.hid (fun k hk => by
    obtain ⟨b, o, e, _, hc⟩ := turn_cells h hok (by omega)
    exact ⟨b, o, e, fun W hW k hk => ⟨(hc W hW k hk).1, (hc W hW k hk).2.1, (hc W hW k hk).2.2.2.2.1⟩⟩)
  have HUP := Lib.hid (fun k (hk : k < l.length) => upl_take (a := fr) (b := to) (c := cu) hk)
  have HR0 := Lib.hid (row_lit w w.heap.size 51 31 0 #[] (Nat.le_refl _) (by simp [maxLen]) rfl)
  have HB0 := Lib.hid ((Below.refl w.heap.size w).alloc (Nat.le_refl _) (.cells #[] 51))
  clear h hok
  go_enter Try.func13, Try.ntmps13
  go_wp2_with (first
    | (refine wpList_execx (by rfl) (.slice (some ⟨w.heap.size, 0, none⟩) 0 0) (exec_ts0 rfl _) ?_
       simp only [Act.put, List.setIfInBounds_toArray, List.set_cons_zero, List.set_cons_succ])
    | fail)
  go_loopw [9, 10] (fun v i wr => ∃ (k mm cc : Nat) (AA : Option Addr), k ≤ n ∧ v = .slice AA mm cc ∧ i = .int .i64 (k : Int) ∧ mm ≤ k ∧ Hid (mm = (upl (l.take k) fr to cu).length) ∧ Hid (wr.ownsRow w.heap.size 51 31 (.slice AA mm cc) mm (rws tcl (upl (l.take k) fr to cu))) ∧ Hid (Below w.heap.size w wr)) (fun _ i _ => n - (iOf i).toNat)
  case atStart => exact ⟨0, 0, 0, some ⟨w.heap.size, 0, none⟩, by omega, rfl, rfl, by omega, Lib.hid rfl, HR0, HB0⟩
  case round =>
    clear HR0 HB0
    obtain ⟨k, mm, cc, AA, hk, rfl, rfl, hmm, HMM, HRW, HB⟩ := hrel
    by_cases hlt : k < n
    · have d0 : decide ((k : Int) < (n : Int)) = true := decide_eq_true (by omega)
      have hkl : k < l.length := by rw [HN.out]; exact hlt
      obtain ⟨b, o, rfl, hcc⟩ := HCE.out k hkl
      have hrg := (hcc wr HB.out k hkl).2.2
      have HOK := Lib.hid (HTLN.out k hkl)
      have HUN : Hid (¬ (fr < l[k].sq ∧ l[k].sq ≤ to ∧ l[k].id ≤ cu) → upl (l.take (k + 1)) fr to cu = upl (l.take k) fr to cu) := Lib.hid (fun e => by
        rw [HUP.out k hkl, if_neg (by unfold upat; simpa using e)])
      have HUY : Hid (fr < l[k].sq ∧ l[k].sq ≤ to ∧ l[k].id ≤ cu → upl (l.take (k + 1)) fr to cu = upl (l.take k) fr to cu ++ [l[k]]) := Lib.hid (fun e => by
        rw [HUP.out k hkl, if_pos (by unfold upat; exact decide_eq_true e)])
      have q0 := (hcc wr HB.out k hkl).1
      have q1 := (hcc wr HB.out k hkl).2.1
      generalize l[k] = t at *
      have htl : (tcl t).length = 31 := tcl_len HOK.out
      have ht1 := tcl_one t
      have HEX := Lib.hid (fun (W : World) (a : Act) (op : Oper) (y : Operand) (ho : op.op = .buildSlice 22 1 #[(0, y)]) (hy : a.eval y = .agg (tcl t).toArray) => exec_ts1 (a := a) (op := op) y ho t HOK.out hy W)
      have HB1 := HB
      have HRW1 := HRW
      obtain ⟨X, hX⟩ : ∃ X, X = tcl t := ⟨_, rfl⟩
      have B7 := Blk.new wr X 51
      have hb8 := (Below.refl wr.heap.size wr).alloc (Nat.le_refl _) (.cells X.toArray 51)
      obtain ⟨W7, hW7⟩ : ∃ W7, W7 = wr.alloc (.cells X.toArray 51) := ⟨_, rfl⟩
      rw [← hX] at hrg htl ht1 HEX
      have HEX1 : Hid (∀ (a : Act) (op : Oper) (y : Operand), op.op = .buildSlice 22 1 #[(0, y)] → a.eval y = .agg X.toArray → (execOp a.eval op).run Try.prog wr = .ok (.value (.slice (some ⟨wr.heap.size, 0, none⟩) 1 1)) W7) := Lib.hid (by rw [hW7]; exact HEX.out wr)
      rw [← hW7] at B7 hb8
      have HRW3 := Lib.hid (row_later HRW1.out hb8)
      have HB3 := Lib.hid (HB1.out.trans (hb8.mono HB1.out.size))
      have HS7 : Hid (Sees W7 W7.heap.size (some ⟨wr.heap.size, 0, none⟩) X) := Lib.hid (fun _ => ⟨wr.heap.size, 0, rfl, B7.lt, fun j hj => by rw [Nat.zero_add]; exact B7.cell (List.getElem?_eq_getElem hj)⟩)
      have HZ7 := Lib.hid HB3.out.size
      have HRN : Hid (fr < t.sq ∧ t.sq ≤ to ∧ t.id ≤ cu → rws tcl (upl (l.take k) fr to cu) ++ X = rws tcl (upl (l.take (k + 1)) fr to cu)) := Lib.hid (fun e => by rw [HUY.out e, rws_append, rws_one, hX])
      have HLN : Hid (fr < t.sq ∧ t.sq ≤ to ∧ t.id ≤ cu → mm + 1 = (upl (l.take (k + 1)) fr to cu).length) := Lib.hid (fun e => by rw [HUY.out e, List.length_append, ← HMM.out]; rfl)
      have HXL := Lib.hid htl
      have HX1 := Lib.hid ht1
      have HMN : Hid (¬ (fr < t.sq ∧ t.sq ≤ to ∧ t.id ≤ cu) → mm = (upl (l.take (k + 1)) fr to cu).length) := Lib.hid (fun e => by rw [HUN.out e]; exact HMM.out)
      have HRM : Hid (¬ (fr < t.sq ∧ t.sq ≤ to ∧ t.id ≤ cu) → wr.ownsRow w.heap.size 51 31 (.slice AA mm cc) mm (rws tcl (upl (l.take (k + 1)) fr to cu))) := Lib.hid (fun e => by rw [HUN.out e]; exact HRW1.out)
      generalize t.sq = x at *
      generalize t.id = y at *
      generalize rws tcl (upl (l.take k) fr to cu) = C0 at *
      clear hcc hX B7 hb8 hW7 HEX HUN HUY HUP HCE HTLN HOK HRW HMM HRW1
      by_cases z1 : fr < x
      · have e1 : decide (fr < x) = true := decide_eq_true z1
        by_cases z2 : x ≤ to
        · have e2 : decide (x ≤ to) = true := decide_eq_true z2
          by_cases z3 : y ≤ cu
          · have e3 : decide (y ≤ cu) = true := decide_eq_true z3
            have HC : Hid (fr < x ∧ x ≤ to ∧ y ≤ cu) := Lib.hid ⟨z1, z2, z3⟩
            have HLN9 := Lib.hid (HLN.out HC.out)
            clear z1 z2 z3 HMN HRM HLN
            go_wp2_with (first
              | (refine wpList_load_mid rfl 51 (.tmp 46) rfl b (o + k * 31) rfl X _ hrg hu rfl (by rw [HXL.out]; exact info_turn) ?_
                 simp only [Act.put, List.setIfInBounds_toArray, List.set_cons_zero, List.set_cons_succ])
              | (refine wpList_execx (by rfl) (.slice (some ⟨wr.heap.size, 0, none⟩) 1 1) (HEX1.out _ _ (.tmp 47) rfl rfl) ?_
                 simp only [Act.put, List.setIfInBounds_toArray, List.set_cons_zero, List.set_cons_succ])
              | (at_builtin
                 refine wpList_appk _ rfl (.tmp 43) (.tmp 48) 22 rfl w.heap.size 51 i1 _ 31 312 Try.underlying22 ji jz0 jz1 jz2 rfl (by decide) (.slice AA mm cc) mm C0 rfl HRW3.out _ (some ⟨wr.heap.size, 0, none⟩) 1 X 1 rfl (by rw [HXL.out]) HS7.out HX1.out (by unfold maxLen; omega) (by omega) HZ7.out ?_
                 intro A9 c9 w9 hr9 hb9 hg9 hat9
                 rw [HRN.out HC.out] at hr9
                 have HR9 := Lib.hid hr9
                 have HB9 := Lib.hid (HB3.out.trans hb9)
                 clear hr9 hg9 hat9 hb9)
              | fail)
            go_roundw
            case rel => exact ⟨k + 1, mm + 1, c9, A9, by omega, rfl, by go_num, by omega, HLN9, HR9, HB9⟩
            case measure => simp [iOf]; omega
          · have e3 : decide (y ≤ cu) = false := decide_eq_false z3
            have HMM9 := Lib.hid (HMN.out (by omega))
            have HRW9 := Lib.hid (HRM.out (by omega))
            clear HEX1 HRW3 HB3 HS7 HZ7 HRN HLN HMN HRM z1 z2 z3
            go_wp2_with fail
            go_roundw
            case rel => exact ⟨k + 1, mm, cc, AA, by omega, rfl, by go_num, by omega, HMM9, HRW9, HB1⟩
            case measure => simp [iOf]; omega
        · have e2 : decide (x ≤ to) = false := decide_eq_false z2
          have HMM9 := Lib.hid (HMN.out (by omega))
          have HRW9 := Lib.hid (HRM.out (by omega))
          clear HEX1 HRW3 HB3 HS7 HZ7 HRN HLN HMN HRM z1 z2
          go_wp2_with fail
          go_roundw
          case rel => exact ⟨k + 1, mm, cc, AA, by omega, rfl, by go_num, by omega, HMM9, HRW9, HB1⟩
          case measure => simp [iOf]; omega
      · have e1 : decide (fr < x) = false := decide_eq_false z1
        have HMM9 := Lib.hid (HMN.out (by omega))
        have HRW9 := Lib.hid (HRM.out (by omega))
        clear HEX1 HRW3 HB3 HS7 HZ7 HRN HLN HMN HRM z1
        go_wp2_with fail
        go_roundw
        case rel => exact ⟨k + 1, mm, cc, AA, by omega, rfl, by go_num, by omega, HMM9, HRW9, HB1⟩
        case measure => simp [iOf]; omega
    · obtain rfl : k = n := by omega
      have HF : Hid (GivesT w (upl l fr to cu) (.returned (.slice AA mm cc)) wr) := Lib.hid (by
        have h1 := HRW.out
        have h2 := HMM.out
        rw [List.take_of_length_le (by have := HN.out; omega)] at h1 h2
        refine ⟨AA, cc, by rw [← h2], ?_, HB.out⟩
        rw [← h2]
        exact SeesR.of_row h1 h2.symm (row_capi h1))
      clear HRW HMM HUP HCE HTLN HB
      go_wp2_with fail
      go_ret
      exact HF.out
end Go.Proofs.Ytcdmbidggikmfaa

/- Maps whose keys are ints: laws of the walk: make, put, look, delete, len; general. -/
namespace Go.Proofs.Ytcdmbidggikmfaa
set_option linter.unusedVariables false
set_option linter.unusedSimpArgs false
open Go Go.RowKit

section
variable {P : Program} {ops : Array Oper} {rest : List Oper} {o : Oper} {a : Act} {Q : Exit → Act → World → Prop} {k t e : TypeId} {w : World} {b N : Nat} {mm : IM}
theorem wpList_mkM (hg : o.guard = none) (hop : o.op = Op.makeMap t none) (hK : ∀ w', MapI P k w' w.heap.size 0 [] → Below w.heap.size w w' → wpList P ops Q rest (a.put o.dst (.map (some w.heap.size))) w') : wpList P ops Q (o :: rest) a w := by
  refine wpList_plain hg fun K' hK' => ?_
  unfold Oper.wp
  simp [execOp, hop, Instr.makeMap, Result.andThen]
  exact hK' _ _ (hK (w.alloc (.map #[] 0)) (MapI.new P k w) ((Below.refl _ _).alloc (Nat.le_refl _) _))
theorem wpList_putM (hg : o.guard = none) (m x v : Operand) (z : Int) (hop : o.op = Op.mapUpdate t m x v) (hI : MapI P k w b N mm) (hk : P.underlying k = some (.int .i64)) (ht : P.underlying t = some (.map k e)) (hn : N < maxLen) (hm : a.eval m = .map (some b)) (hx : a.eval x = .int .i64 z) (hz : (Lit.int .i64 z).wf = true)
    (val : Value) (hv : a.eval v = val) (hK : ∀ w', MapI P k w' b (N + 1) (mput mm z val) → w.grownBy w' (some b) → wpList P ops Q rest (a.put o.dst undef) w') : wpList P ops Q (o :: rest) a w := by
  refine wpList_plain hg fun K' hK' => ?_
  obtain ⟨w', hrun, r1, r2⟩ := hI.store hk ht hn hz val
  unfold Oper.wp
  simp [execOp, hop, hm, hx, hv, hrun, Result.andThen]
  exact hK' _ _ (hK w' r1 r2)
theorem exec_lookM2 (m x : Operand) (ho : o.op = .lookup t m x true) (z : Int) (hm : a.eval m = .map (some b)) (hx : a.eval x = .int .i64 z) {v : Value} (hr : (Instr.lookup t (.map (some b)) (.int .i64 z) true).run P w = .ok v w) : (execOp a.eval o).run P w = .ok (.value v) w := by
  unfold execOp
  simp only [ho, hm, hx, Sem.run_bind, hr, Result.andThen_ok, Sem.run_pure]
theorem exec_lookM1 (m x : Operand) (ho : o.op = .lookup t m x false) (z : Int) (hm : a.eval m = .map (some b)) (hx : a.eval x = .int .i64 z) {v : Value} (hr : (Instr.lookup t (.map (some b)) (.int .i64 z) false).run P w = .ok v w) : (execOp a.eval o).run P w = .ok (.value v) w := by
  unfold execOp
  simp only [ho, hm, hx, Sem.run_bind, hr, Result.andThen_ok, Sem.run_pure]
theorem below_rowM {w' : World} {B : Nat} (hg : w.grownBy w' (some b)) (hb : B ≤ b) (hz : B ≤ w.heap.size) : Below B w w' := ⟨hg.os, hg.tape, hg.output, hg.size, fun k hk => hg.block k (by omega) (fun e => by injection e with e; omega)⟩
theorem wf_small {x : Int} (h : 0 ≤ x ∧ x ≤ 1099511627776) : (Lit.int .i64 x).wf = true := by
  simp only [Lit.wf, Bool.and_eq_true, decide_eq_true_eq]
  exact ⟨by show (-9223372036854775808 : Int) ≤ x; omega, by show x ≤ (9223372036854775807 : Int); omega⟩
end
end Go.Proofs.Ytcdmbidggikmfaa

/- Which turns go on: the program's Check. -/
namespace Go.Proofs.Ytcdmbidggikmfaa
set_option linter.unusedVariables false
set_option linter.unusedSimpArgs false
open Go Go.RowKit BitM

def iv64 (x : Int) : Value := .int .i64 x
end Go.Proofs.Ytcdmbidggikmfaa

/- Does a card change: the closure within last. -/
namespace Go.Proofs.Ytcdmbidggikmfaa
set_option linter.unusedVariables false
set_option linter.unusedSimpArgs false
open Go Go.RowKit BitM

set_option maxRecDepth 100000 in
set_option maxHeartbeats 3200000 in
theorem changed_any (gm gc N : Nat) (m : KV Int) (id ver f : Int) (w : World) (hI : MapI Try.prog 3 w gm N (vmap iv64 m)) (hc : w.cell? ⟨gc, 0, none⟩ = some (.map (some gm))) (hg : kget m id = some f) (hid : (Lit.int .i64 id).wf = true) :
    Calls Try.prog 28 #[.int .i64 id, .int .i64 ver, .pointer (some ⟨gc, 0, none⟩)] w fun e w' => e = .returned (.int .i64 (chg f ver)) ∧ Below w.heap.size w w' := by
  have hkk := Try.underlying3
  have hmt := Try.underlying59
  have HLK : Hid ((Instr.lookup 59 (.map (some gm)) (.int .i64 id) false).run Try.prog w = .ok (.int .i64 f) w) := Lib.hid (by
    have := hI.look1 hkk hmt (z := .int .i64 0) rfl hid
    rw [vmap_get, hg] at this
    exact this)
  clear hI hg
  by_cases h : ver = f
  · have d' : (ver != f) = false := by simpa using h
    have d : decide (ver = f) = true := decide_eq_true h
    have HR : Hid (chg f ver = 0) := Lib.hid (by unfold chg; rw [if_pos h])
    clear h
    go_enter Try.func28, Try.ntmps28
    go_wp2_with (first
      | (refine wpList_exec (by rfl) (.int .i64 f) (exec_lookM1 (.tmp 7) (.tmp 8) rfl id rfl rfl HLK.out) ?_
         simp only [Act.put, List.setIfInBounds_toArray, List.set_cons_zero, List.set_cons_succ])
      | fail)
    go_ret
    exact ⟨by rw [HR.out]; rfl, Below.refl _ _⟩
  · have d' : (ver != f) = true := by simpa using h
    have d : decide (ver = f) = false := decide_eq_false h
    have HR : Hid (chg f ver = 1) := Lib.hid (by unfold chg; rw [if_neg h])
    clear h
    go_enter Try.func28, Try.ntmps28
    go_wp2_with (first
      | (refine wpList_exec (by rfl) (.int .i64 f) (exec_lookM1 (.tmp 7) (.tmp 8) rfl id rfl rfl HLK.out) ?_
         simp only [Act.put, List.setIfInBounds_toArray, List.set_cons_zero, List.set_cons_succ])
      | fail)
    go_ret
    exact ⟨by rw [HR.out]; rfl, Below.refl _ _⟩
end Go.Proofs.Ytcdmbidggikmfaa

/- The greatest step whose net fits: the program's last. -/
namespace Go.Proofs.Ytcdmbidggikmfaa
set_option linter.unusedVariables false
set_option linter.unusedSimpArgs false
open Go Go.RowKit BitM

theorem fmap_take {u : List Tn} {k : Nat} (hk : k < u.length) : fmap (u.take (k + 1)) = fmap (u.take k ++ [u[k]]) := by rw [take_end hk]
theorem wrap_in {x : Int} (h : -9223372036854775808 ≤ x ∧ x ≤ 9223372036854775807) : wrap64 x = x := by unfold wrap64; omega
theorem chg_01 (f v : Int) : 0 ≤ chg f v ∧ chg f v ≤ 1 := by unfold chg; split <;> omega
theorem items_in (u : List Tn) (k : Nat) (n : Nat) (hk : k ≤ n) : 0 ≤ items u k ∧ items u k ≤ n := by have := items_len u k; omega
set_option maxRecDepth 100000 in
set_option maxHeartbeats 6400000 in
theorem last_any (A : Option Addr) (n c : Nat) (l : List Tn) (fr now : Int) (pg : Nat) (w : World) (h : SeesR tcl w A n c l) (hok : ∀ t ∈ l, okCd t.cd) (hwf : ∀ t ∈ l, (Lit.int .i64 t.id).wf = true) (hsq : ∀ t ∈ l, 0 ≤ t.sq ∧ t.sq ≤ 1099511627776) (hch : chainT l) (hz : n ≤ 65000) :
    Calls Try.prog 22 #[.slice A n c, .int .i64 fr, .int .i64 now, .int .i64 (pg : Int)] w fun e w' => e = .returned (.int .i64 (stepAt l now (cutN l pg))) ∧ Below w.heap.size w w' := by
  obtain ⟨page, hpg⟩ : ∃ page : Int, page = (pg : Int) := ⟨_, rfl⟩
  rw [← hpg]
  have hu := Try.underlying51
  have hkk := Try.underlying3
  have hmt := Try.underlying59
  have HN := Lib.hid h.len
  have HTLN := Lib.hid (fun k (hk : k < l.length) => hok _ (List.getElem_mem hk))
  have HWF := Lib.hid (fun k (hk : k < l.length) => hwf _ (List.getElem_mem hk))
  have HSQ := Lib.hid (fun k (hk : k < l.length) => hsq _ (List.getElem_mem hk))
  have HCE : Hid (∀ k, k < l.length → ∃ b o, A = some ⟨b, o, none⟩ ∧ ∀ W, Below w.heap.size w W → ∀ k (hk : k < l.length), W.cell? ⟨b, o + k * 31, none⟩ = some (.int .i64 l[k].sq) ∧
      W.rangeAt b (o + k * 31) (tcl l[k])) := Lib.hid (fun k hk => by
    obtain ⟨b, o, e, _, hc⟩ := turn_cells h hok (by omega)
    exact ⟨b, o, e, fun W hW k hk => ⟨(hc W hW k hk).1, (hc W hW k hk).2.2.2.2.1⟩⟩)
  have HIT := Lib.hid (fun k (hk : k < l.length) => items_succ hch hk)
  have HIN := Lib.hid (fun k (hk : k ≤ n) => items_in l k n hk)
  have HTF := Lib.hid (fun k (hk : k < l.length) (e : items l k ≤ page) => toAt_fits (f := fr) (now := now) (u := l) (page := pg) (k := k) (by omega) hk)
  have HTN := Lib.hid (fun k (e : page < items l k) => toAt_not (f := fr) (now := now) (u := l) (page := pg) (k := k) (by omega))
  have HTE := Lib.hid (fun (e : items l l.length ≤ page) => toAt_end (f := fr) (now := now) (u := l) (page := pg) (by omega))
  have HRES : Hid (toAt l fr now pg (l.length + 1) = stepAt l now (cutN l pg)) := Lib.hid rfl
  have HFK := Lib.hid (fun k => fmap_known (l.take k))
  have HFT := Lib.hid (fun k (hk : k < l.length) => fmap_take hk)
  have HFN := Lib.hid (fun k t => @fmap_new (l.take k) t)
  have HFO := Lib.hid (fun k t x => @fmap_old (l.take k) t x)
  have HPUT := Lib.hid (fun (m : KV Int) x v => vmap_put iv64 m x v)
  obtain ⟨Z, hZ⟩ : ∃ Z, Z = tcl ⟨0, 0, 0, 0, zcd⟩ := ⟨_, rfl⟩
  have HZL := Lib.hid (show Z.length = 31 by rw [hZ]; rfl)
  have HZZ : Hid (Z.toArray = #[Value.int .i64 0, .int .i64 0, .int .i64 0, .int .i64 0, .int .i64 0, .int .i64 0, .int .u32 0, .int .i64 0, .int .i64 0, .string { data := #[] }, .int .i64 0, .int .i64 0, .string { data := #[] }, .int .i64 0, .int .i64 0, .string { data := #[] }, .int .i64 0, .int .i64 0, .string { data := #[] }, .int .i64 0, .int .i64 0, .string { data := #[] }, .int .i64 0, .int .i64 0, .string { data := #[] }, .int .i64 0, .int .i64 0, .string { data := #[] }, .int .i64 0, .int .i64 0, .string { data := #[] }]) := Lib.hid (by rw [hZ]; rfl)
  have HLOOK : Hid (∀ W gm N m x, MapI Try.prog 3 W gm N (vmap iv64 m) → (Lit.int .i64 x).wf = true → (Instr.lookup 59 (.map (some gm)) (.int .i64 x) true).run Try.prog W = .ok (.tuple #[((kget m x).map iv64).getD (.int .i64 0), .bool (kget m x).isSome]) W) := Lib.hid (fun W gm N m x hI hx => by
    have := hI.look2 hkk hmt (z := .int .i64 0) rfl hx
    rw [vmap_get] at this
    rw [this, Option.isSome_map])
  have HCH := Lib.hid (fun gm gc N m id ver f W hI hc hg hid => changed_any gm gc N m id ver f W hI hc hg hid)
  have HT0 : Hid (toAt l fr now pg 0 = fr) := Lib.hid rfl
  generalize stepAt l now (cutN l pg) = RES at HRES ⊢
  generalize toAt l fr now pg = TO at *
  clear h hok hwf hsq hch hZ hpg
  go_enter Try.func22, Try.ntmps22
  go_wp2_with fail
  refine wp_scope_straight ?_
  go_wp2_with (first
    | (refine wpList_mkM (k := 3) rfl rfl ?_
       intro w1 hI1 hb1
       have hlt1 := hI1.lt
       have HI1 : Hid (MapI Try.prog 3 (w1.alloc (.cells [Value.map (some w.heap.size)].toArray 59)) w.heap.size 0 (vmap iv64 (fmap (l.take 0)))) := Lib.hid (MapI.later hI1 ((Below.refl w1.heap.size w1).alloc (Nat.le_refl _) (.cells [Value.map (some w.heap.size)].toArray 59)))
       have HB1 := Lib.hid (hb1.alloc hb1.size (.cells [Value.map (some w.heap.size)].toArray 59))
       have HG1 : Hid (w.heap.size < w1.heap.size) := Lib.hid hlt1
       have HBL : Hid (Blk (w1.alloc (.cells [Value.map (some w.heap.size)].toArray 59)) w1.heap.size [Value.map (some w.heap.size)]) := Lib.hid (Blk.new w1 [Value.map (some w.heap.size)] 59)
       clear hI1 hb1 hlt1)
    | fail)
  apply wp_label
  go_wp2_with fail
  go_loopw [10, 11, 13] (fun it tt i wr => ∃ k N : Nat, k ≤ n ∧ N ≤ k ∧ it = .int .i64 (items l k) ∧ tt = .int .i64 (TO k) ∧ i = .int .i64 (k : Int) ∧ Hid (MapI Try.prog 3 wr w.heap.size N (vmap iv64 (fmap (l.take k)))) ∧ Hid (Blk wr w1.heap.size [Value.map (some w.heap.size)]) ∧ Hid (Below w.heap.size w wr)) (fun _ _ i _ => n - (iOf i).toNat)
  case atStart => exact ⟨0, 0, by omega, by omega, rfl, by rw [HT0.out], rfl, HI1, HBL, HB1⟩
  case round =>
    clear HI1 HBL HB1 HT0
    obtain ⟨k, N, hk, hNk, rfl, rfl, rfl, HI, HBC, HB⟩ := hrel
    have HITB := Lib.hid (HIN.out k hk)
    have c9 := HBC.out.cell (j := 0) rfl
    by_cases hlt : k < n
    · have d1 : decide ((k : Int) = (n : Int)) = false := decide_eq_false (by omega)
      have d1' : ((k : Int) == (n : Int)) = false := by simpa using d1
      have d2 : decide (k = n) = false := decide_eq_false (by omega)
      have d2' : (k == n) = false := by simpa using d2
      have hkl : k < l.length := by rw [HN.out]; exact hlt
      obtain ⟨b, o, rfl, hcc⟩ := HCE.out k hkl
      have hrg := (hcc wr HB.out k hkl).2
      have q0 := (hcc wr HB.out k hkl).1
      have HOK := Lib.hid (HTLN.out k hkl)
      have HWK := Lib.hid (HWF.out k hkl)
      have HSK := Lib.hid (HSQ.out k hkl)
      have HITK := Lib.hid (HIT.out k hkl)
      have HINK := Lib.hid (HIN.out (k + 1) (by omega))
      have HTFK := Lib.hid (HTF.out k hkl)
      have HTNK := Lib.hid (HTN.out k)
      have HFKK := Lib.hid (HFK.out k l[k])
      have HFTK := Lib.hid (HFT.out k hkl)
      have HFNK := Lib.hid (HFN.out k l[k])
      have HFOK := Lib.hid (HFO.out k l[k])
      have HC1 := Lib.hid (chg_01 (fstOld (l.take k) l[k].id l[k].old) l[k].nw)
      have HC2 := Lib.hid (chg_01 (fstOld (l.take k) l[k].id l[k].old) l[k].old)
      have B1 := Blk.new wr Z 51
      have hb2 := (Below.refl wr.heap.size wr).alloc (Nat.le_refl _) (.cells Z.toArray 51)
      have TH1 := B1.there 0 31 (by rw [HZL.out]; omega)
      have htl : (tcl l[k]).length = 31 := tcl_len HOK.out
      have ht1 := tcl_one l[k]
      obtain ⟨W1, hW1⟩ : ∃ W1, W1 = (wr.alloc (.cells Z.toArray 51)).setCells wr.heap.size 0 (tcl l[k]) := ⟨_, rfl⟩
      have BI : Blk W1 wr.heap.size (tcl l[k]) := by rw [hW1]; exact B1.whole (by rw [HZL.out, htl])
      have hb3 : Below wr.heap.size wr W1 := by rw [hW1]; exact below_sets (Nat.le_refl _) _ _ hb2
      have HB1 := Lib.hid (HB.out.trans (hb3.mono HB.out.size))
      have HI2 := Lib.hid (HI.out.later hb3)
      have HBC1 := Lib.hid (HBC.out.later hb3)
      have HBOX : Hid (∀ W, Blk W wr.heap.size (tcl l[k]) → W.cell? ⟨wr.heap.size, 1, none⟩ = some (.int .i64 l[k].id) ∧ W.cell? ⟨wr.heap.size, 2, none⟩ = some (.int .i64 l[k].old) ∧ W.cell? ⟨wr.heap.size, 3, none⟩ = some (.int .i64 l[k].nw)) := Lib.hid (fun W hW => ⟨hW.cell (j := 1) rfl, hW.cell (j := 2) rfl, hW.cell (j := 3) rfl⟩)
      have HBI := Lib.hid BI
      have HGC : Hid (w.heap.size < wr.heap.size ∧ w.heap.size ≠ w1.heap.size) := Lib.hid ⟨HI.out.lt, by have := HG1.out; omega⟩
      have c91 := HBC1.out.cell (j := 0) rfl
      obtain ⟨x1, x2, x3⟩ := HBOX.out W1 BI
      have hlk := HLOOK.out W1 w.heap.size N (fmap (l.take k)) l[k].id HI2.out HWK.out
      have HW1 := Lib.hid hW1
      rw [HZZ.out] at TH1
      obtain ⟨FO, hFO⟩ : ∃ FO, FO = fstOld (l.take k) l[k].id l[k].old := ⟨_, rfl⟩
      rw [← hFO] at HITK HFKK HC1 HC2
      rw [← HFTK.out] at HFKK HFNK HFOK
      obtain ⟨FM1, hFM1⟩ : ∃ m, m = fmap (l.take (k + 1)) := ⟨_, rfl⟩
      obtain ⟨it1, hit1⟩ : ∃ m, m = items l (k + 1) := ⟨_, rfl⟩
      obtain ⟨to1, hto1⟩ : ∃ m, m = TO (k + 1) := ⟨_, rfl⟩
      have HE1 := Lib.hid hFM1
      have HE2 := Lib.hid hit1
      have HE3 := Lib.hid hto1
      rw [← hFM1] at HFKK HFNK HFOK
      rw [← hit1] at HITK HINK
      rw [← hto1] at HTFK HTNK
      clear hFM1 hit1 hto1
      generalize fmap (l.take k) = FM at *
      generalize items l k = it at *
      generalize TO k = to0 at *
      obtain ⟨TT, hTT⟩ : ∃ TT, TT = tcl l[k] := ⟨_, rfl⟩
      rw [← hTT] at hrg htl ht1 HW1 HBOX HBI
      generalize l[k].sq = sq at *
      generalize l[k].id = x at *
      generalize l[k].old = y at *
      generalize l[k].nw = z at *
      have HCA := Lib.hid (fun N m W hI hc hg => HCH.out w.heap.size w1.heap.size N m x z FO W hI hc hg HWK.out)
      have HCB := Lib.hid (fun N m W hI hc hg => HCH.out w.heap.size w1.heap.size N m x y FO W hI hc hg HWK.out)
      generalize chg FO z = ca at *
      generalize chg FO y = cb at *
      have HTL := Lib.hid htl
      have HT1 := Lib.hid ht1
      clear hcc hFO hTT htl ht1 B1 hb2 hW1 BI hb3 HCE HTLN HWF HSQ HIT HIN HTF HTN HTE HFK HFT HFN HFO HLOOK HCH HRES HI HBC HFTK HOK
      by_cases hf : it ≤ page
      · have e1 : decide (it ≤ page) = true := decide_eq_true hf
        have HTOK := Lib.hid (HTFK.out hf)
        clear hf HTFK HTNK
        cases hla : kget FM x with
        | none =>
          rw [hla] at hlk
          have HLK := Lib.hid (show (Instr.lookup 59 (.map (some w.heap.size)) (.int .i64 x) true).run Try.prog W1 = .ok (.tuple #[.int .i64 0, .bool false]) W1 from hlk)
          have HPN : Hid (mput (vmap iv64 FM) x (.int .i64 y) = vmap iv64 FM1) := Lib.hid (by rw [HFNK.out hla]; exact HPUT.out FM x y)
          clear hla hlk HFNK HFOK
          go_wp2_with (first
            | (refine wpList_load_mid rfl 51 (.tmp 50) rfl b (o + k * 31) rfl TT _ hrg hu rfl (by rw [HTL.out]; exact info_turn) ?_
               simp only [Act.put, List.setIfInBounds_toArray, List.set_cons_zero, List.set_cons_succ])
            | (refine wpList_store_mid rfl 51 (.tmp 15) (.tmp 51) rfl wr.heap.size 0 TT.toArray rfl rfl (by simpa [HTL.out] using TH1) (by simpa [HTL.out] using info_turn) (all_oneCell_toArray HT1.out) ?_
               rw [← HZZ.out, ← HW1.out]
               clear TH1 hrg)
            | (refine wpList_exec (by rfl) (.tuple #[.int .i64 0, .bool false]) (exec_lookM2 (.tmp 53) (.tmp 55) rfl x rfl rfl HLK.out) ?_
               simp only [Act.put, List.setIfInBounds_toArray, List.set_cons_zero, List.set_cons_succ])
            | (refine wpList_putM rfl (.tmp 61) (.tmp 63) (.tmp 65) x rfl HI2.out hkk hmt (by unfold maxLen; omega) rfl rfl HWK.out (.int .i64 y) rfl ?_
               intro w4 hI4 hg4
               rw [HPN.out] at hI4
               have HI4 := Lib.hid hI4
               have HB4 := Lib.hid (HB1.out.trans (below_rowM hg4 (Nat.le_refl _) HB1.out.size))
               have HBC4 := Lib.hid (HBC1.out.kept hg4 (by intro e; injection e with e; exact HGC.out.2 e))
               have HBI4 := Lib.hid (HBI.out.kept hg4 (by intro e; injection e with e; exact Nat.ne_of_lt HGC.out.1 e))
               clear hI4 hg4
               try (simp only [Act.put, List.setIfInBounds_toArray, List.set_cons_zero, List.set_cons_succ]))
            | fail)
          have HI9 : (MapI Try.prog 3 w4 w.heap.size (N + 1) (vmap iv64 FM1)) := HI4.out
          have HBC9 := HBC4.out
          have HBI9 := HBI4.out
          have cx1 : ∀ kk : LW w4, kk.val.cell? ⟨wr.heap.size, 1, none⟩ = some (.int .i64 x) := fun kk => (HBOX.out _ (HBI9.later kk.le)).1
          have cx2 : ∀ kk : LW w4, kk.val.cell? ⟨wr.heap.size, 2, none⟩ = some (.int .i64 y) := fun kk => (HBOX.out _ (HBI9.later kk.le)).2.1
          have cx3 : ∀ kk : LW w4, kk.val.cell? ⟨wr.heap.size, 3, none⟩ = some (.int .i64 z) := fun kk => (HBOX.out _ (HBI9.later kk.le)).2.2
          refine wp_region_steady [] 82 (by kernel_rfl) (by kernel_rfl) (by kernel_rfl) (by rfl) ?_
          iterate 6 (refine wpG_quiet (by rfl) (by rfl) (by rfl) (fun K hK => ?_); go_big_quiet_op; refine hK _ ?_; clear hK K)
          refine wpG_call (by rfl) (by rfl) 28 #[.int .i64 x, .int .i64 z, .pointer (some ⟨w1.heap.size, 0, none⟩)] (.int .i64 ca) (by intro _; simp [go_sem]) (by kernel_rfl) (fun w5 hl => HCA.out _ _ w5 (HI9.later hl.1) ((HBC9.later hl.1).cell (j := 0) rfl) HFKK.out) ?_
          simp only [Act.put, List.setIfInBounds_toArray, List.set_cons_zero, List.set_cons_succ]
          iterate 5 (refine wpG_quiet (by rfl) (by rfl) (by rfl) (fun K hK => ?_); go_big_quiet_op; refine hK _ ?_; clear hK K)
          refine wpG_call (by rfl) (by rfl) 28 #[.int .i64 x, .int .i64 y, .pointer (some ⟨w1.heap.size, 0, none⟩)] (.int .i64 cb) (by intro _; simp [go_sem]) (by kernel_rfl) (fun w5 hl => HCB.out _ _ w5 (HI9.later hl.1) ((HBC9.later hl.1).cell (j := 0) rfl) HFKK.out) ?_
          simp only [Act.put, List.setIfInBounds_toArray, List.set_cons_zero, List.set_cons_succ]
          iterate 3 (refine wpG_quiet (by rfl) (by rfl) (by rfl) (fun K hK => ?_); go_big_quiet_op; refine hK _ ?_; clear hK K)
          refine wpG_nil fun w6 hl _ => ?_
          have HI6 := Lib.hid (HI9.later hl)
          have HBC6 := Lib.hid (HBC9.later hl)
          have HB6 := Lib.hid (HB4.out.trans (Below.mono hl HB4.out.size))
          clear cx1 cx2 cx3 HI9 HBC9 HBI9 hl
          go_wp2_with fail
          go_roundw
          case rel => exact ⟨k + 1, N + 1, by omega, by omega, by have h1 := HC1.out; have h2 := HC2.out; have h3 := HITB.out; rw [← HE2.out, HITK.out]; rw [wrap_in (x := ca - cb) (by omega), wrap_in (by omega)], by have h4 := HSK.out; rw [← HE3.out, HTOK.out]; rw [wrap_in (by omega)], by go_num, Lib.hid (by rw [← HE1.out]; exact HI6.out), HBC6, HB6⟩
          case measure => simp [iOf]; omega
        | some v =>
          rw [hla] at hlk
          have HLK := Lib.hid (show (Instr.lookup 59 (.map (some w.heap.size)) (.int .i64 x) true).run Try.prog W1 = .ok (.tuple #[.int .i64 v, .bool true]) W1 from hlk)
          have HFE : Hid (FM1 = FM) := Lib.hid (HFOK.out v hla)
          have HIE : Hid (MapI Try.prog 3 W1 w.heap.size N (vmap iv64 FM1)) := Lib.hid (by rw [HFE.out]; exact HI2.out)
          clear hla hlk HFNK HFOK
          go_wp2_with (first
            | (refine wpList_load_mid rfl 51 (.tmp 50) rfl b (o + k * 31) rfl TT _ hrg hu rfl (by rw [HTL.out]; exact info_turn) ?_
               simp only [Act.put, List.setIfInBounds_toArray, List.set_cons_zero, List.set_cons_succ])
            | (refine wpList_store_mid rfl 51 (.tmp 15) (.tmp 51) rfl wr.heap.size 0 TT.toArray rfl rfl (by simpa [HTL.out] using TH1) (by simpa [HTL.out] using info_turn) (all_oneCell_toArray HT1.out) ?_
               rw [← HZZ.out, ← HW1.out]
               clear TH1 hrg)
            | (refine wpList_exec (by rfl) (.tuple #[.int .i64 v, .bool true]) (exec_lookM2 (.tmp 53) (.tmp 55) rfl x rfl rfl HLK.out) ?_
               simp only [Act.put, List.setIfInBounds_toArray, List.set_cons_zero, List.set_cons_succ])
            | fail)
          have HI9 : (MapI Try.prog 3 W1 w.heap.size N (vmap iv64 FM1)) := HIE.out
          have HBC9 := HBC1.out
          have HBI9 := HBI.out
          have cx1 : ∀ kk : LW W1, kk.val.cell? ⟨wr.heap.size, 1, none⟩ = some (.int .i64 x) := fun kk => (HBOX.out _ (HBI9.later kk.le)).1
          have cx2 : ∀ kk : LW W1, kk.val.cell? ⟨wr.heap.size, 2, none⟩ = some (.int .i64 y) := fun kk => (HBOX.out _ (HBI9.later kk.le)).2.1
          have cx3 : ∀ kk : LW W1, kk.val.cell? ⟨wr.heap.size, 3, none⟩ = some (.int .i64 z) := fun kk => (HBOX.out _ (HBI9.later kk.le)).2.2
          refine wp_region_steady [] 82 (by kernel_rfl) (by kernel_rfl) (by kernel_rfl) (by rfl) ?_
          iterate 6 (refine wpG_quiet (by rfl) (by rfl) (by rfl) (fun K hK => ?_); go_big_quiet_op; refine hK _ ?_; clear hK K)
          refine wpG_call (by rfl) (by rfl) 28 #[.int .i64 x, .int .i64 z, .pointer (some ⟨w1.heap.size, 0, none⟩)] (.int .i64 ca) (by intro _; simp [go_sem]) (by kernel_rfl) (fun w5 hl => HCA.out _ _ w5 (HI9.later hl.1) ((HBC9.later hl.1).cell (j := 0) rfl) HFKK.out) ?_
          simp only [Act.put, List.setIfInBounds_toArray, List.set_cons_zero, List.set_cons_succ]
          iterate 5 (refine wpG_quiet (by rfl) (by rfl) (by rfl) (fun K hK => ?_); go_big_quiet_op; refine hK _ ?_; clear hK K)
          refine wpG_call (by rfl) (by rfl) 28 #[.int .i64 x, .int .i64 y, .pointer (some ⟨w1.heap.size, 0, none⟩)] (.int .i64 cb) (by intro _; simp [go_sem]) (by kernel_rfl) (fun w5 hl => HCB.out _ _ w5 (HI9.later hl.1) ((HBC9.later hl.1).cell (j := 0) rfl) HFKK.out) ?_
          simp only [Act.put, List.setIfInBounds_toArray, List.set_cons_zero, List.set_cons_succ]
          iterate 3 (refine wpG_quiet (by rfl) (by rfl) (by rfl) (fun K hK => ?_); go_big_quiet_op; refine hK _ ?_; clear hK K)
          refine wpG_nil fun w6 hl _ => ?_
          have HI6 := Lib.hid (HI9.later hl)
          have HBC6 := Lib.hid (HBC9.later hl)
          have HB6 := Lib.hid (HB1.out.trans (Below.mono hl HB1.out.size))
          clear cx1 cx2 cx3 HI9 HBC9 HBI9 hl
          go_wp2_with fail
          go_roundw
          case rel => exact ⟨k + 1, N, by omega, by omega, by have h1 := HC1.out; have h2 := HC2.out; have h3 := HITB.out; rw [← HE2.out, HITK.out]; rw [wrap_in (x := ca - cb) (by omega), wrap_in (by omega)], by have h4 := HSK.out; rw [← HE3.out, HTOK.out]; rw [wrap_in (by omega)], by go_num, Lib.hid (by rw [← HE1.out]; exact HI6.out), HBC6, HB6⟩
          case measure => simp [iOf]; omega
      · have e1 : decide (it ≤ page) = false := decide_eq_false hf
        have HTOK := Lib.hid (HTNK.out (by omega))
        clear hf HTFK HTNK
        cases hla : kget FM x with
        | none =>
          rw [hla] at hlk
          have HLK := Lib.hid (show (Instr.lookup 59 (.map (some w.heap.size)) (.int .i64 x) true).run Try.prog W1 = .ok (.tuple #[.int .i64 0, .bool false]) W1 from hlk)
          have HPN : Hid (mput (vmap iv64 FM) x (.int .i64 y) = vmap iv64 FM1) := Lib.hid (by rw [HFNK.out hla]; exact HPUT.out FM x y)
          clear hla hlk HFNK HFOK
          go_wp2_with (first
            | (refine wpList_load_mid rfl 51 (.tmp 50) rfl b (o + k * 31) rfl TT _ hrg hu rfl (by rw [HTL.out]; exact info_turn) ?_
               simp only [Act.put, List.setIfInBounds_toArray, List.set_cons_zero, List.set_cons_succ])
            | (refine wpList_store_mid rfl 51 (.tmp 15) (.tmp 51) rfl wr.heap.size 0 TT.toArray rfl rfl (by simpa [HTL.out] using TH1) (by simpa [HTL.out] using info_turn) (all_oneCell_toArray HT1.out) ?_
               rw [← HZZ.out, ← HW1.out]
               clear TH1 hrg)
            | (refine wpList_exec (by rfl) (.tuple #[.int .i64 0, .bool false]) (exec_lookM2 (.tmp 53) (.tmp 55) rfl x rfl rfl HLK.out) ?_
               simp only [Act.put, List.setIfInBounds_toArray, List.set_cons_zero, List.set_cons_succ])
            | (refine wpList_putM rfl (.tmp 61) (.tmp 63) (.tmp 65) x rfl HI2.out hkk hmt (by unfold maxLen; omega) rfl rfl HWK.out (.int .i64 y) rfl ?_
               intro w4 hI4 hg4
               rw [HPN.out] at hI4
               have HI4 := Lib.hid hI4
               have HB4 := Lib.hid (HB1.out.trans (below_rowM hg4 (Nat.le_refl _) HB1.out.size))
               have HBC4 := Lib.hid (HBC1.out.kept hg4 (by intro e; injection e with e; exact HGC.out.2 e))
               have HBI4 := Lib.hid (HBI.out.kept hg4 (by intro e; injection e with e; exact Nat.ne_of_lt HGC.out.1 e))
               clear hI4 hg4
               try (simp only [Act.put, List.setIfInBounds_toArray, List.set_cons_zero, List.set_cons_succ]))
            | fail)
          have HI9 : (MapI Try.prog 3 w4 w.heap.size (N + 1) (vmap iv64 FM1)) := HI4.out
          have HBC9 := HBC4.out
          have HBI9 := HBI4.out
          have cx1 : ∀ kk : LW w4, kk.val.cell? ⟨wr.heap.size, 1, none⟩ = some (.int .i64 x) := fun kk => (HBOX.out _ (HBI9.later kk.le)).1
          have cx2 : ∀ kk : LW w4, kk.val.cell? ⟨wr.heap.size, 2, none⟩ = some (.int .i64 y) := fun kk => (HBOX.out _ (HBI9.later kk.le)).2.1
          have cx3 : ∀ kk : LW w4, kk.val.cell? ⟨wr.heap.size, 3, none⟩ = some (.int .i64 z) := fun kk => (HBOX.out _ (HBI9.later kk.le)).2.2
          refine wp_region_steady [] 82 (by kernel_rfl) (by kernel_rfl) (by kernel_rfl) (by rfl) ?_
          iterate 6 (refine wpG_quiet (by rfl) (by rfl) (by rfl) (fun K hK => ?_); go_big_quiet_op; refine hK _ ?_; clear hK K)
          refine wpG_call (by rfl) (by rfl) 28 #[.int .i64 x, .int .i64 z, .pointer (some ⟨w1.heap.size, 0, none⟩)] (.int .i64 ca) (by intro _; simp [go_sem]) (by kernel_rfl) (fun w5 hl => HCA.out _ _ w5 (HI9.later hl.1) ((HBC9.later hl.1).cell (j := 0) rfl) HFKK.out) ?_
          simp only [Act.put, List.setIfInBounds_toArray, List.set_cons_zero, List.set_cons_succ]
          iterate 5 (refine wpG_quiet (by rfl) (by rfl) (by rfl) (fun K hK => ?_); go_big_quiet_op; refine hK _ ?_; clear hK K)
          refine wpG_call (by rfl) (by rfl) 28 #[.int .i64 x, .int .i64 y, .pointer (some ⟨w1.heap.size, 0, none⟩)] (.int .i64 cb) (by intro _; simp [go_sem]) (by kernel_rfl) (fun w5 hl => HCB.out _ _ w5 (HI9.later hl.1) ((HBC9.later hl.1).cell (j := 0) rfl) HFKK.out) ?_
          simp only [Act.put, List.setIfInBounds_toArray, List.set_cons_zero, List.set_cons_succ]
          iterate 3 (refine wpG_quiet (by rfl) (by rfl) (by rfl) (fun K hK => ?_); go_big_quiet_op; refine hK _ ?_; clear hK K)
          refine wpG_nil fun w6 hl _ => ?_
          have HI6 := Lib.hid (HI9.later hl)
          have HBC6 := Lib.hid (HBC9.later hl)
          have HB6 := Lib.hid (HB4.out.trans (Below.mono hl HB4.out.size))
          clear cx1 cx2 cx3 HI9 HBC9 HBI9 hl
          go_wp2_with fail
          go_roundw
          case rel => exact ⟨k + 1, N + 1, by omega, by omega, by have h1 := HC1.out; have h2 := HC2.out; have h3 := HITB.out; rw [← HE2.out, HITK.out]; rw [wrap_in (x := ca - cb) (by omega), wrap_in (by omega)], by have h4 := HSK.out; rw [← HE3.out, HTOK.out], by go_num, Lib.hid (by rw [← HE1.out]; exact HI6.out), HBC6, HB6⟩
          case measure => simp [iOf]; omega
        | some v =>
          rw [hla] at hlk
          have HLK := Lib.hid (show (Instr.lookup 59 (.map (some w.heap.size)) (.int .i64 x) true).run Try.prog W1 = .ok (.tuple #[.int .i64 v, .bool true]) W1 from hlk)
          have HFE : Hid (FM1 = FM) := Lib.hid (HFOK.out v hla)
          have HIE : Hid (MapI Try.prog 3 W1 w.heap.size N (vmap iv64 FM1)) := Lib.hid (by rw [HFE.out]; exact HI2.out)
          clear hla hlk HFNK HFOK
          go_wp2_with (first
            | (refine wpList_load_mid rfl 51 (.tmp 50) rfl b (o + k * 31) rfl TT _ hrg hu rfl (by rw [HTL.out]; exact info_turn) ?_
               simp only [Act.put, List.setIfInBounds_toArray, List.set_cons_zero, List.set_cons_succ])
            | (refine wpList_store_mid rfl 51 (.tmp 15) (.tmp 51) rfl wr.heap.size 0 TT.toArray rfl rfl (by simpa [HTL.out] using TH1) (by simpa [HTL.out] using info_turn) (all_oneCell_toArray HT1.out) ?_
               rw [← HZZ.out, ← HW1.out]
               clear TH1 hrg)
            | (refine wpList_exec (by rfl) (.tuple #[.int .i64 v, .bool true]) (exec_lookM2 (.tmp 53) (.tmp 55) rfl x rfl rfl HLK.out) ?_
               simp only [Act.put, List.setIfInBounds_toArray, List.set_cons_zero, List.set_cons_succ])
            | fail)
          have HI9 : (MapI Try.prog 3 W1 w.heap.size N (vmap iv64 FM1)) := HIE.out
          have HBC9 := HBC1.out
          have HBI9 := HBI.out
          have cx1 : ∀ kk : LW W1, kk.val.cell? ⟨wr.heap.size, 1, none⟩ = some (.int .i64 x) := fun kk => (HBOX.out _ (HBI9.later kk.le)).1
          have cx2 : ∀ kk : LW W1, kk.val.cell? ⟨wr.heap.size, 2, none⟩ = some (.int .i64 y) := fun kk => (HBOX.out _ (HBI9.later kk.le)).2.1
          have cx3 : ∀ kk : LW W1, kk.val.cell? ⟨wr.heap.size, 3, none⟩ = some (.int .i64 z) := fun kk => (HBOX.out _ (HBI9.later kk.le)).2.2
          refine wp_region_steady [] 82 (by kernel_rfl) (by kernel_rfl) (by kernel_rfl) (by rfl) ?_
          iterate 6 (refine wpG_quiet (by rfl) (by rfl) (by rfl) (fun K hK => ?_); go_big_quiet_op; refine hK _ ?_; clear hK K)
          refine wpG_call (by rfl) (by rfl) 28 #[.int .i64 x, .int .i64 z, .pointer (some ⟨w1.heap.size, 0, none⟩)] (.int .i64 ca) (by intro _; simp [go_sem]) (by kernel_rfl) (fun w5 hl => HCA.out _ _ w5 (HI9.later hl.1) ((HBC9.later hl.1).cell (j := 0) rfl) HFKK.out) ?_
          simp only [Act.put, List.setIfInBounds_toArray, List.set_cons_zero, List.set_cons_succ]
          iterate 5 (refine wpG_quiet (by rfl) (by rfl) (by rfl) (fun K hK => ?_); go_big_quiet_op; refine hK _ ?_; clear hK K)
          refine wpG_call (by rfl) (by rfl) 28 #[.int .i64 x, .int .i64 y, .pointer (some ⟨w1.heap.size, 0, none⟩)] (.int .i64 cb) (by intro _; simp [go_sem]) (by kernel_rfl) (fun w5 hl => HCB.out _ _ w5 (HI9.later hl.1) ((HBC9.later hl.1).cell (j := 0) rfl) HFKK.out) ?_
          simp only [Act.put, List.setIfInBounds_toArray, List.set_cons_zero, List.set_cons_succ]
          iterate 3 (refine wpG_quiet (by rfl) (by rfl) (by rfl) (fun K hK => ?_); go_big_quiet_op; refine hK _ ?_; clear hK K)
          refine wpG_nil fun w6 hl _ => ?_
          have HI6 := Lib.hid (HI9.later hl)
          have HBC6 := Lib.hid (HBC9.later hl)
          have HB6 := Lib.hid (HB1.out.trans (Below.mono hl HB1.out.size))
          clear cx1 cx2 cx3 HI9 HBC9 HBI9 hl
          go_wp2_with fail
          go_roundw
          case rel => exact ⟨k + 1, N, by omega, by omega, by have h1 := HC1.out; have h2 := HC2.out; have h3 := HITB.out; rw [← HE2.out, HITK.out]; rw [wrap_in (x := ca - cb) (by omega), wrap_in (by omega)], by have h4 := HSK.out; rw [← HE3.out, HTOK.out], by go_num, Lib.hid (by rw [← HE1.out]; exact HI6.out), HBC6, HB6⟩
          case measure => simp [iOf]; omega
    · obtain rfl : k = n := by omega
      have d1 : decide ((k : Int) = (k : Int)) = true := decide_eq_true rfl
      have d1' : ((k : Int) == (k : Int)) = true := by simp
      have HRE : Hid (TO (k + 1) = RES) := Lib.hid (by have := HRES.out; rwa [HN.out] at this)
      have HTE' := Lib.hid (HTE.out)
      rw [HN.out] at HTE'
      have HTNK := Lib.hid (HTN.out k)
      generalize items l k = it at *
      generalize TO (k + 1) = to1 at *
      generalize TO k = to0 at *
      clear HIT HIN HTF HTN HTE HFK HFT HFN HFO HLOOK HCH HRES HI HBC HCE HTLN HWF HSQ HPUT
      by_cases hf : it ≤ page
      · have e1 : decide (it ≤ page) = true := decide_eq_true hf
        have HR : Hid (RES = now) := Lib.hid (by rw [← HRE.out]; exact HTE'.out hf)
        clear hf HTE' HTNK HRE
        go_wp2_with fail
        go_ret
        exact ⟨by rw [HR.out]; rfl, HB.out⟩
      · have e1 : decide (it ≤ page) = false := decide_eq_false hf
        have HR : Hid (RES = to0) := Lib.hid (by rw [← HRE.out]; exact HTNK.out (by omega))
        clear hf HTE' HTNK HRE
        go_wp2_with fail
        go_ret
        exact ⟨by rw [HR.out]; rfl, HB.out⟩
end Go.Proofs.Ytcdmbidggikmfaa
