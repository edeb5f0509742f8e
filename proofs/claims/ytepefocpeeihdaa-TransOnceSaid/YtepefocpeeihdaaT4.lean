/- The item of a turn. -/
import Derived.Test.YtepefocpeeihdaaT3
import Derived.Test.YtepefocpeeihdaaT2
import Derived.Test.YtepefocpeeihdaaT1
namespace Go.Proofs.Ytepefocpeeihdaa
set_option linter.unusedVariables false
set_option linter.unusedSimpArgs false
open Go Go.RowKit BitM

theorem zc28 : (icl ⟨0, zcd⟩).toArray = #[Value.int .i64 0, .int .i64 0, .int .i64 0, .int .u32 0, .int .i64 0, .int .i64 0, .string { data := #[] }, .int .i64 0, .int .i64 0, .string { data := #[] }, .int .i64 0, .int .i64 0, .string { data := #[] }, .int .i64 0, .int .i64 0, .string { data := #[] }, .int .i64 0, .int .i64 0, .string { data := #[] }, .int .i64 0, .int .i64 0, .string { data := #[] }, .int .i64 0, .int .i64 0, .string { data := #[] }, .int .i64 0, .int .i64 0, .string { data := #[] }] := rfl
set_option maxRecDepth 100000 in
set_option maxHeartbeats 3200000 in
theorem item_any (t : Tn) (w : World) (hc : okCd t.cd) :
    Calls Try.prog 31 #[.agg (tcl t).toArray] w fun e w' => e = .returned (.agg (icl (itm t)).toArray) ∧ Below w.heap.size w w' := by
  have hu := Try.underlying32
  have huc := Try.underlying30
  have hui := Try.underlying49
  have B0 := Blk.new w (tcl t) 32
  have B1 := Blk.new (w.alloc (.cells (tcl t).toArray 32)) (icl ⟨0, zcd⟩) 49
  have hw0 := ((Below.refl w.heap.size w).alloc (Nat.le_refl _) (.cells (tcl t).toArray 32)).alloc (by simp) (.cells (icl ⟨0, zcd⟩).toArray 49)
  replace B0 := B0.alloc (.cells (icl ⟨0, zcd⟩).toArray 49)
  have hs1 : (w.alloc (.cells (tcl t).toArray 32)).heap.size = w.heap.size + 1 := by simp
  rw [hs1] at B1
  obtain ⟨W, hW⟩ : ∃ W, W = (w.alloc (.cells (tcl t).toArray 32)).alloc (.cells (icl ⟨0, zcd⟩).toArray 49) := ⟨_, rfl⟩
  have c1 := B0.cell (j := 1) (v := .int .i64 t.id) rfl
  have c2 := B0.cell (j := 2) (v := .int .i64 t.old) rfl
  have c3 := B0.cell (j := 3) (v := .int .i64 t.nw) rfl
  have RG := B0.range 4 (ccl t.cd) (tcl_drop hc)
  rw [← hW] at B1 hw0
  have FIN : ∀ x : Im, okCd x.cd → Blk (W.setCells (w.heap.size + 1) 0 (icl x)) (w.heap.size + 1) (icl x) := fun x hx => B1.whole (ds := icl x) (by rw [icl_len hx, icl_len (show okCd zcd from rfl)])
  have FB : ∀ x : Im, Below w.heap.size w (W.setCells (w.heap.size + 1) 0 (icl x)) := fun x => below_sets (by omega) _ 0 hw0
  have TH := B1.there 0 28 (by rw [icl_len (show okCd zcd from rfl)]; omega)
  have HI := Lib.hid (fun (x : Im) (hx : okCd x.cd) => icl_len hx)
  have HONE := Lib.hid icl_one
  have HC := Lib.hid hc
  have HCL := Lib.hid (ccl_len hc)
  have HIT := Lib.hid (show itm t = itm t from rfl)
  obtain ⟨sq, id, old, nw, cd⟩ := t
  dsimp only at c1 c2 c3 RG HC HCL hc
  rw [hW] at TH
  rw [zc28] at TH c1 c2 c3 RG
  have HW := Lib.hid hW
  have HFIN := Lib.hid FIN
  have HFB := Lib.hid FB
  clear hW FIN FB B0 B1 hw0 hs1 hc
  obtain ⟨cs, hcs⟩ : ∃ cs, cs = tcl ⟨sq, id, old, nw, cd⟩ := ⟨_, rfl⟩
  rw [← hcs] at HW TH c1 c2 c3 RG ⊢
  have HCS := Lib.hid hcs
  clear hcs
  by_cases h0 : old = 0
  · have hi : itm ⟨sq, id, old, nw, cd⟩ = ⟨1, cd⟩ := by unfold itm; rw [if_pos h0]
    rw [hi]
    subst h0
    have F1 := HFIN.out ⟨1, cd⟩ HC.out
    have F2 := HFB.out ⟨1, cd⟩
    obtain ⟨R, hR⟩ : ∃ R, R = icl ⟨1, cd⟩ := ⟨_, rfl⟩
    have hRl : R.length = 28 := by rw [hR]; exact HI.out _ HC.out
    have hone : ∀ v ∈ R, v.oneCell' = true := by rw [hR]; exact HONE.out _
    rw [← hR] at F1 F2 ⊢
    have HR := Lib.hid hR
    have HRL := Lib.hid hRl
    have HO := Lib.hid hone
    clear hR hRl hone hi
    go_enter Try.func31, Try.ntmps31
    go_wp2_with (first
      | (refine wpList_load_mid rfl 30 (.tmp 7) rfl w.heap.size 4 rfl (ccl cd) _ RG huc rfl (by rw [HCL.out]; exact info_card) ?_)
      | (refine wpList_exec (by rfl) (.agg R.toArray) (by rw [HR.out]; exact exec_item (.const (.int .i64 1)) (.tmp 8) rfl 1 cd HC.out rfl rfl _) ?_)
      | (refine wpList_store_mid rfl 49 (.tmp 2) (.tmp 9) rfl (w.heap.size + 1) 0 R.toArray rfl rfl (by simpa [HRL.out] using TH) (by simpa [HRL.out] using info_item) (all_oneCell_toArray HO.out) ?_))
    rw [← zc28, ← HW.out]
    exact bodyPost_ret (v := .agg R.toArray) (results_blk (q := 2) rfl _ _ (w.heap.size + 1) R _ rfl F1 hui rfl (by rw [HRL.out]; exact info_item)) rfl ⟨rfl, F2⟩
  · by_cases h1 : nw = 0
    · have hi : itm ⟨sq, id, old, nw, cd⟩ = ⟨2, (id, 0, 0, zeros)⟩ := by unfold itm; rw [if_neg h0, if_pos h1]
      rw [hi]
      subst h1
      have F1 := HFIN.out ⟨2, (id, 0, 0, zeros)⟩ (show okCd (id, 0, 0, zeros) from rfl)
      have F2 := HFB.out ⟨2, (id, 0, 0, zeros)⟩
      obtain ⟨R, hR⟩ : ∃ R, R = icl ⟨2, (id, 0, 0, zeros)⟩ := ⟨_, rfl⟩
      have hRl : R.length = 28 := by rw [hR]; exact HI.out _ (show okCd (id, 0, 0, zeros) from rfl)
      have hone : ∀ v ∈ R, v.oneCell' = true := by rw [hR]; exact HONE.out _
      rw [← hR] at F1 F2 ⊢
      have HR := Lib.hid hR
      have HRL := Lib.hid hRl
      have HO := Lib.hid hone
      clear hR hRl hone hi
      go_enter Try.func31, Try.ntmps31
      go_wp2_with (first
        | (refine wpList_exec (by rfl) (.agg (ccl (id, 0, 0, zeros)).toArray) (exec_cid (.tmp 15) rfl id rfl _) ?_)
        | (refine wpList_exec (by rfl) (.agg R.toArray) (by rw [HR.out]; exact exec_item (.const (.int .i64 2)) (.tmp 16) rfl 2 (id, 0, 0, zeros) (show okCd (id, 0, 0, zeros) from rfl) rfl rfl _) ?_)
        | (refine wpList_store_mid rfl 49 (.tmp 2) (.tmp 17) rfl (w.heap.size + 1) 0 R.toArray rfl rfl (by simpa [HRL.out] using TH) (by simpa [HRL.out] using info_item) (all_oneCell_toArray HO.out) ?_))
      rw [← zc28, ← HW.out]
      exact bodyPost_ret (v := .agg R.toArray) (results_blk (q := 2) rfl _ _ (w.heap.size + 1) R _ rfl F1 hui rfl (by rw [HRL.out]; exact info_item)) rfl ⟨rfl, F2⟩
    · have hi : itm ⟨sq, id, old, nw, cd⟩ = ⟨3, cd⟩ := by unfold itm; rw [if_neg h0, if_neg h1]
      rw [hi]
      have F1 := HFIN.out ⟨3, cd⟩ HC.out
      have F2 := HFB.out ⟨3, cd⟩
      obtain ⟨R, hR⟩ : ∃ R, R = icl ⟨3, cd⟩ := ⟨_, rfl⟩
      have hRl : R.length = 28 := by rw [hR]; exact HI.out _ HC.out
      have hone : ∀ v ∈ R, v.oneCell' = true := by rw [hR]; exact HONE.out _
      rw [← hR] at F1 F2 ⊢
      have HR := Lib.hid hR
      have HRL := Lib.hid hRl
      have HO := Lib.hid hone
      clear hR hRl hone hi
      go_enter Try.func31, Try.ntmps31
      go_wp2_with (first
        | (refine wpList_load_mid rfl 30 (.tmp 18) rfl w.heap.size 4 rfl (ccl cd) _ RG huc rfl (by rw [HCL.out]; exact info_card) ?_)
        | (refine wpList_exec (by rfl) (.agg R.toArray) (by rw [HR.out]; exact exec_item (.const (.int .i64 3)) (.tmp 19) rfl 3 cd HC.out rfl rfl _) ?_)
        | (refine wpList_store_mid rfl 49 (.tmp 2) (.tmp 20) rfl (w.heap.size + 1) 0 R.toArray rfl rfl (by simpa [HRL.out] using TH) (by simpa [HRL.out] using info_item) (all_oneCell_toArray HO.out) ?_))
      rw [← zc28, ← HW.out]
      exact bodyPost_ret (v := .agg R.toArray) (results_blk (q := 2) rfl _ _ (w.heap.size + 1) R _ rfl F1 hui rfl (by rw [HRL.out]; exact info_item)) rfl ⟨rfl, F2⟩
end Go.Proofs.Ytepefocpeeihdaa

/- Items that are applied, by the document: mathematics. -/
namespace Go.Proofs.Ytepefocpeeihdaa
set_option linter.unusedVariables false
set_option linter.unusedSimpArgs false
open Go Go.RowKit

end Go.Proofs.Ytepefocpeeihdaa

/- Turns that go on; items that may be: mathematics. -/
namespace Go.Proofs.Ytepefocpeeihdaa
set_option linter.unusedVariables false
set_option linter.unusedSimpArgs false
open Go Go.RowKit

def ckc (c : Cd) : Bool := ccheck c.1 c.2.1 c.2.2.1 c.2.2.2
/-- May a turn be? -/
def tmay (t : Tn) : Bool :=
  decide (1 ≤ t.sq ∧ t.sq ≤ 1099511627776 ∧ 1 ≤ t.id ∧ t.id < 1073741824 ∧ 0 ≤ t.old ∧ t.old ≤ 1099511627776 ∧ 0 ≤ t.nw ∧ t.nw ≤ 1099511627776 ∧ t.old ≠ t.nw) &&
  (if t.nw = 0 then decide (t.cd = zcd) else ckc t.cd && decide (t.cd.1 = t.id ∧ t.cd.2.1 = t.nw))
/-- Does a turn go on at its place? -/
def sqAt (l : List Tn) (k : Nat) : Int := match k with | 0 => 0 | k + 1 => ((l[k]?).map (·.sq)).getD 0
def goAt (l : List Tn) (k : Nat) : Bool := match l[k]? with
  | none => true
  | some t => tmay t && decide (k = 0 ∨ sqAt l k < t.sq) && (match lastT (l.take k) t.id with | some u => decide (u.nw = t.old) | none => true)
def goTo (l : List Tn) (k : Nat) : Bool := (List.range k).all (goAt l)
def goes (l : List Tn) : Bool := goTo l l.length
theorem goTo_succ (l : List Tn) (k : Nat) : goTo l (k + 1) = (goTo l k && goAt l k) := by
  unfold goTo
  rw [List.range_succ, List.all_append]
  simp
theorem goTo_no {l : List Tn} {j k : Nat} (h : j ≤ k) (hf : goTo l j = false) : goTo l k = false := by
  induction k with
  | zero =>
    have : j = 0 := by omega
    rwa [this] at hf
  | succ k ih =>
    rcases Nat.lt_or_ge k j with h1 | h1
    · have : j = k + 1 := by omega
      rwa [this] at hf
    · rw [goTo_succ, ih h1]; rfl
theorem goes_no {l : List Tn} {k : Nat} (hk : k < l.length) (hf : goAt l k = false) : goes l = false :=
  goTo_no (j := k + 1) hk (by rw [goTo_succ, hf, Bool.and_false])
theorem goes_at {l : List Tn} (h : goes l = true) {k : Nat} (hk : k < l.length) : goAt l k = true := by
  unfold goes goTo at h
  exact List.all_eq_true.1 h k (List.mem_range.2 hk)
theorem goAt_here {l : List Tn} {k : Nat} (hk : k < l.length) : goAt l k = (tmay l[k] && decide (k = 0 ∨ sqAt l k < l[k].sq) && (match lastT (l.take k) l[k].id with | some u => decide (u.nw = l[k].old) | none => true)) := by
  unfold goAt
  rw [List.getElem?_eq_getElem hk]
theorem goes_may {l : List Tn} (h : goes l = true) : ∀ t ∈ l, tmay t = true := fun t ht => by
  obtain ⟨k, hk, rfl⟩ := List.getElem_of_mem ht
  have := goes_at h hk
  rw [goAt_here hk, Bool.and_eq_true, Bool.and_eq_true] at this
  exact this.1.1
theorem tmay_okT2 {t : Tn} (h : tmay t = true) : okT2 t := fun hn => by
  unfold tmay at h
  rw [if_neg hn, Bool.and_eq_true, Bool.and_eq_true] at h
  exact of_decide_eq_true h.2.2
theorem goes_okT2 {l : List Tn} (h : goes l = true) : ∀ t ∈ l, okT2 t := fun t ht => tmay_okT2 (goes_may h t ht)
/-- The New of the last turn of each card. -/
def lmap (l : List Tn) : KV Int := l.foldl (fun m t => kput m t.id t.nw) []
theorem lmap_append (l : List Tn) (t : Tn) : lmap (l ++ [t]) = kput (lmap l) t.id t.nw := by simp [lmap]
theorem lmap_rise (l : List Tn) : KRise (lmap l) := by
  have : ∀ (l : List Tn) (m : KV Int), KRise m → KRise (l.foldl (fun m t => kput m t.id t.nw) m) := by
    intro l
    induction l with
    | nil => intro m h; exact h
    | cons t l ih => intro m h; exact ih _ (KRise.put h _ _)
  exact this l [] List.Pairwise.nil
theorem lmap_get (l : List Tn) (i : Int) : kget (lmap l) i = (lastT l i).map (·.nw) := by
  have key : ∀ (n : Nat) (l : List Tn), l.length = n → kget (lmap l) i = (lastT l i).map (·.nw) := by
    intro n
    induction n with
    | zero =>
      intro l hl
      have : l = [] := List.length_eq_zero_iff.1 hl
      subst this
      rfl
    | succ n ih =>
      intro l hl
      obtain ⟨a, t, rfl⟩ : ∃ a t, l = a ++ [t] := by
        have hne : l ≠ [] := by intro e; rw [e] at hl; cases hl
        exact ⟨l.dropLast, l.getLast hne, (List.dropLast_concat_getLast hne).symm⟩
      have ha : a.length = n := by rw [List.length_append] at hl; simpa using hl
      rw [lmap_append, kget_put _ _ _ _ (lmap_rise a), ih a ha, lastT_append]
      by_cases h : i = t.id
      · rw [if_pos h, show lastT [t] i = some t by simp [lastT, h]]
        rfl
      · rw [if_neg h, show lastT [t] i = none by simp [lastT, show ¬ t.id = i from fun e => h e.symm]]
  exact key l.length l rfl
theorem take_snoc {l : List Tn} {k : Nat} (hk : k < l.length) : l.take (k + 1) = l.take k ++ [l[k]] := (List.take_append_getElem hk).symm
theorem lmap_take {l : List Tn} {k : Nat} (hk : k < l.length) : lmap (l.take (k + 1)) = kput (lmap (l.take k)) l[k].id l[k].nw := by rw [take_snoc hk, lmap_append]
theorem wmap_take {l : List Tn} {k : Nat} (hk : k < l.length) : wmap (l.take (k + 1)) = wstep (wmap (l.take k)) l[k] := by rw [take_snoc hk, wmap_append]
/-- A turn looked for from behind. -/
theorem last_back {l : List Tn} {k : Nat} (hk : k < l.length) (i : Int) : lastT (l.take (k + 1)) i = if l[k].id = i then some l[k] else lastT (l.take k) i := by
  rw [take_snoc hk, lastT_append]
  by_cases h : l[k].id = i
  · simp [lastT, h]
  · simp [lastT, h]
end Go.Proofs.Ytepefocpeeihdaa

/- Cards that turns fit: mathematics. -/
namespace Go.Proofs.Ytepefocpeeihdaa
set_option linter.unusedVariables false
set_option linter.unusedSimpArgs false
open Go Go.RowKit

end Go.Proofs.Ytepefocpeeihdaa

/- What the laws of turns ask: mathematics. -/
namespace Go.Proofs.Ytepefocpeeihdaa
set_option linter.unusedVariables false
set_option linter.unusedSimpArgs false
open Go Go.RowKit

/-- What a net's item tells, looked for along the turns. -/
def oldSeen (l : List Tn) (i : Int) : Int := match firstT l i with | some f => f.old | none => -1
def nowSeen (l : List Tn) (i : Int) : Int := match lastT l i with | some t => t.nw | none => -1
theorem seen_take {l : List Tn} {k : Nat} (hk : k < l.length) (i : Int) :
    nowSeen (l.take (k + 1)) i = (if l[k].id = i then l[k].nw else nowSeen (l.take k) i) ∧
    oldSeen (l.take (k + 1)) i = (if l[k].id = i ∧ firstT (l.take k) i = none then l[k].old else oldSeen (l.take k) i) := by
  constructor
  · unfold nowSeen
    rw [last_back hk]
    by_cases h : l[k].id = i
    · rw [if_pos h, if_pos h]
    · rw [if_neg h, if_neg h]
  · unfold oldSeen
    rw [take_snoc hk, firstT_append]
    cases hf : firstT (l.take k) i with
    | some f => simp
    | none =>
      by_cases h : l[k].id = i
      · simp [firstT, h]
      · simp [firstT, h]
/-- The Old that was seen is below 0 just as long as none was seen. -/
theorem old_low {l : List Tn} (hg : ∀ t ∈ l, tmay t = true) (i : Int) : oldSeen l i < 0 ↔ firstT l i = none := by
  unfold oldSeen
  cases hf : firstT l i with
  | none => simp
  | some f =>
    have hm : f ∈ l := List.mem_of_find?_eq_some hf
    have := hg f hm
    unfold tmay at this
    rw [Bool.and_eq_true] at this
    have := of_decide_eq_true this.1
    simp only
    constructor
    · intro h; omega
    · intro h; cases h
theorem once_of {l : List Tn} (hg : goes l = true) {x : Im} (hx : x ∈ net l) :
    0 ≤ oldSeen l (rkey x) ∧ oldSeen l (rkey x) ≠ nowSeen l (rkey x) ∧ (x.kd = 1 ↔ oldSeen l (rkey x) = 0) ∧ (x.kd = 2 ↔ nowSeen l (rkey x) = 0) := by
  obtain ⟨f, t, h1, h2, h3, h4, h5⟩ := net_once (fun t ht => okT2.ok (goes_okT2 hg t ht)) hx
  have hl := old_low (goes_may hg) (rkey x)
  rw [h1] at hl
  have hn : ¬ oldSeen l (rkey x) < 0 := fun h => by have := hl.1 h; cases this
  refine ⟨by omega, ?_, ?_, ?_⟩
  · unfold oldSeen nowSeen
    rw [h1, h2]
    exact h3
  · unfold oldSeen
    rw [h1]
    exact h4
  · unfold nowSeen
    rw [h2]
    exact h5
/-- The nets' lengths, and that they rise. -/
theorem net_goes_rise {l : List Tn} (hg : goes l = true) : IRise (net l) := net_rise (fun t ht => okT2.ok (goes_okT2 hg t ht))
/-- A turn of a card. -/
def ofT (sq old id : Int) (c : Cd) (is : Bool) : Option Tn :=
  let t : Tn := if is then ⟨sq, id, old, c.2.1, c⟩ else ⟨sq, id, old, 0, zcd⟩
  if t.nw = t.old then none else some t
end Go.Proofs.Ytepefocpeeihdaa

/- May a turn be: the document. -/
namespace Go.Proofs.Ytepefocpeeihdaa
set_option linter.unusedVariables false
set_option linter.unusedSimpArgs false
open Go Go.RowKit BitM

theorem exec_c0 {a : Act} {op : Oper} (ho : op.op = .build 30 #[]) (w : World) : (execOp a.eval op).run Try.prog w = .ok (.value (.agg (ccl zcd).toArray)) w := by
  unfold execOp
  simp only [ho, List.map_toArray, List.map_nil, Sem.run_bind, run_c0, Result.andThen_ok, Sem.run_pure]
theorem eq_ccl (c d : Cd) (hc : okCd c) (hd : okCd d) (w : World) : (Op.equalIn 10000 30 (.agg (ccl c).toArray) (.agg (ccl d).toArray)).run Try.prog w = .ok (decide (c = d)) w := by
  obtain ⟨a1, a2, a3, a4⟩ := c
  obtain ⟨b1, b2, b3, b4⟩ := d
  have := eq_card 9996 a1 a2 a3 b1 b2 b3 a4 b4 hc hd w
  rw [show decide ((a1, a2, a3, a4) = (b1, b2, b3, b4)) = decide (a1 = b1 ∧ a2 = b2 ∧ a3 = b3 ∧ a4 = b4) from by simp only [Prod.mk.injEq]]
  exact this
set_option maxRecDepth 100000 in
set_option maxHeartbeats 3200000 in
theorem rturn_any (t : Tn) (w : World) (hc : okCd t.cd) :
    Calls Try.prog 27 #[.agg (tcl t).toArray] w fun e w' => e = .returned (.bool (tmay t)) ∧ Below w.heap.size w w' := by
  have hu := Try.underlying32
  have huc := Try.underlying30
  have B0 := Blk.new w (tcl t) 32
  have c0 := B0.cell (j := 0) (v := .int .i64 t.sq) rfl
  have c1 := B0.cell (j := 1) (v := .int .i64 t.id) rfl
  have c2 := B0.cell (j := 2) (v := .int .i64 t.old) rfl
  have c3 := B0.cell (j := 3) (v := .int .i64 t.nw) rfl
  have RG := B0.range 4 (ccl t.cd) (tcl_drop hc)
  have HB := Lib.hid ((Below.refl w.heap.size w).alloc (Nat.le_refl _) (.cells (tcl t).toArray 32))
  have HC := Lib.hid hc
  have HCL := Lib.hid (ccl_len hc)
  have HBK := Lib.hid B0
  have HCK := Lib.hid (fun wx : World => rccheck_any t.cd.1 t.cd.2.1 t.cd.2.2.1 t.cd.2.2.2 wx hc)
  have HE := Lib.hid (fun wx : World => eq_ccl t.cd zcd hc rfl wx)
  obtain ⟨R, hR⟩ : ∃ R, R = tmay t := ⟨_, rfl⟩
  rw [← hR]
  obtain ⟨sq, id, old, nw, cd⟩ := t
  dsimp only at c0 c1 c2 c3 RG HC HCL HE HCK hc
  have HR : Hid (R = (decide (1 ≤ sq ∧ sq ≤ 1099511627776 ∧ 1 ≤ id ∧ id < 1073741824 ∧ 0 ≤ old ∧ old ≤ 1099511627776 ∧ 0 ≤ nw ∧ nw ≤ 1099511627776 ∧ old ≠ nw) && (if nw = 0 then decide (cd = zcd) else ckc cd && decide (cd.1 = id ∧ cd.2.1 = nw)))) := Lib.hid hR
  have HT := Lib.hid (show tcl ⟨sq, id, old, nw, cd⟩ = tcl ⟨sq, id, old, nw, cd⟩ from rfl)
  clear hR B0 hc
  obtain ⟨cs, hcs⟩ : ∃ cs, cs = tcl ⟨sq, id, old, nw, cd⟩ := ⟨_, rfl⟩
  rw [← hcs] at HBK HB c0 c1 c2 c3 RG ⊢
  have HCS := Lib.hid hcs
  clear hcs HT
  by_cases a1 : sq < 1
  · have d1 : decide (sq < 1) = true := by simpa using a1
    have HRR : Hid (R = false) := Lib.hid (by rw [HR.out, decide_eq_false (by omega), Bool.false_and])
    go_enter Try.func27, Try.ntmps27
    go_wp2_with fail
    go_ret
    exact ⟨by rw [HRR.out]; rfl, HB.out⟩
  · have d1 : decide (sq < 1) = false := by simpa using a1
    by_cases a2 : 1099511627776 < sq
    · have d2 : decide (1099511627776 < sq) = true := by simpa using a2
      have HRR : Hid (R = false) := Lib.hid (by rw [HR.out, decide_eq_false (by omega), Bool.false_and])
      go_enter Try.func27, Try.ntmps27
      go_wp2_with fail
      go_ret
      exact ⟨by rw [HRR.out]; rfl, HB.out⟩
    · have d2 : decide (1099511627776 < sq) = false := by simpa using a2
      by_cases a3 : id < 1
      · have d3 : decide (id < 1) = true := by simpa using a3
        have HRR : Hid (R = false) := Lib.hid (by rw [HR.out, decide_eq_false (by omega), Bool.false_and])
        go_enter Try.func27, Try.ntmps27
        go_wp2_with fail
        go_ret
        exact ⟨by rw [HRR.out]; rfl, HB.out⟩
      · have d3 : decide (id < 1) = false := by simpa using a3
        by_cases a4 : 1073741824 ≤ id
        · have d4 : decide (1073741824 ≤ id) = true := by simpa using a4
          have HRR : Hid (R = false) := Lib.hid (by rw [HR.out, decide_eq_false (by omega), Bool.false_and])
          go_enter Try.func27, Try.ntmps27
          go_wp2_with fail
          go_ret
          exact ⟨by rw [HRR.out]; rfl, HB.out⟩
        · have d4 : decide (1073741824 ≤ id) = false := by simpa using a4
          by_cases a5 : old < 0
          · have d5 : decide (old < 0) = true := by simpa using a5
            have HRR : Hid (R = false) := Lib.hid (by rw [HR.out, decide_eq_false (by omega), Bool.false_and])
            go_enter Try.func27, Try.ntmps27
            go_wp2_with fail
            go_ret
            exact ⟨by rw [HRR.out]; rfl, HB.out⟩
          · have d5 : decide (old < 0) = false := by simpa using a5
            by_cases a6 : 1099511627776 < old
            · have d6 : decide (1099511627776 < old) = true := by simpa using a6
              have HRR : Hid (R = false) := Lib.hid (by rw [HR.out, decide_eq_false (by omega), Bool.false_and])
              go_enter Try.func27, Try.ntmps27
              go_wp2_with fail
              go_ret
              exact ⟨by rw [HRR.out]; rfl, HB.out⟩
            · have d6 : decide (1099511627776 < old) = false := by simpa using a6
              by_cases a7 : nw < 0
              · have d7 : decide (nw < 0) = true := by simpa using a7
                have HRR : Hid (R = false) := Lib.hid (by rw [HR.out, decide_eq_false (by omega), Bool.false_and])
                go_enter Try.func27, Try.ntmps27
                go_wp2_with fail
                go_ret
                exact ⟨by rw [HRR.out]; rfl, HB.out⟩
              · have d7 : decide (nw < 0) = false := by simpa using a7
                by_cases a8 : 1099511627776 < nw
                · have d8 : decide (1099511627776 < nw) = true := by simpa using a8
                  have HRR : Hid (R = false) := Lib.hid (by rw [HR.out, decide_eq_false (by omega), Bool.false_and])
                  go_enter Try.func27, Try.ntmps27
                  go_wp2_with fail
                  go_ret
                  exact ⟨by rw [HRR.out]; rfl, HB.out⟩
                · have d8 : decide (1099511627776 < nw) = false := by simpa using a8
                  by_cases a9 : old = nw
                  · have d9 : decide (old = nw) = true := by simpa using a9
                    have HRR : Hid (R = false) := Lib.hid (by rw [HR.out, decide_eq_false (by omega), Bool.false_and])
                    go_enter Try.func27, Try.ntmps27
                    go_wp2_with fail
                    go_ret
                    exact ⟨by rw [HRR.out]; rfl, HB.out⟩
                  · have d9 : decide (old = nw) = false := by simpa using a9
                    have HR2 : Hid (R = (if nw = 0 then decide (cd = zcd) else ckc cd && decide (cd.1 = id ∧ cd.2.1 = nw))) := Lib.hid (by rw [HR.out, decide_eq_true (by omega), Bool.true_and])
                    by_cases h0 : nw = 0
                    · have e0 : decide (nw = 0) = true := by simpa using h0
                      have HRR : Hid (R = decide (cd = zcd)) := Lib.hid (by rw [HR2.out, if_pos h0])
                      go_enter Try.func27, Try.ntmps27
                      go_wp2_with (first
                        | (refine wpList_load_mid rfl 30 (.tmp 51) rfl w.heap.size 4 rfl (ccl cd) _ RG huc rfl (by rw [HCL.out]; exact info_card) ?_)
                        | (refine wpList_exec (by rfl) (.agg (ccl zcd).toArray) (exec_c0 rfl _) ?_)
                        | (refine wpList_exec (by rfl) (.bool (decide (cd = zcd))) (exec_eql 30 _ (.tmp 52) (.tmp 53) rfl _ _ rfl rfl guard_card _ (HE.out _)) ?_))
                      go_ret
                      exact ⟨by rw [HRR.out]; rfl, HB.out⟩
                    · have e0 : decide (nw = 0) = false := by simpa using h0
                      have HRR : Hid (R = (ckc cd && decide (cd.1 = id ∧ cd.2.1 = nw))) := Lib.hid (by rw [HR2.out, if_neg h0])
                      go_enter Try.func27, Try.ntmps27
                      go_wp2_with (first
                        | (refine wpList_load_mid rfl 30 (.tmp 55) rfl w.heap.size 4 rfl (ccl cd) _ RG huc rfl (by rw [HCL.out]; exact info_card) ?_))
                      refine (HCK.out _).mono ?_
                      rintro e w1 ⟨rfl, hb⟩
                      have hbw := HB.out.trans (hb.mono HB.out.size)
                      have B1 := HBK.out.later hb
                      rw [HCS.out] at B1
                      have f1 := B1.cell (j := 1) (v := .int .i64 id) rfl
                      have f3 := B1.cell (j := 3) (v := .int .i64 nw) rfl
                      have f4 := B1.cell (j := 4) (v := .int .i64 cd.1) rfl
                      have f5 := B1.cell (j := 5) (v := .int .i64 cd.2.1) rfl
                      clear B1 hb c0 c1 c2 c3 RG
                      have HCC : Hid (ckc cd = ccheck cd.1 cd.2.1 cd.2.2.1 cd.2.2.2) := Lib.hid rfl
                      generalize hq : ccheck cd.1 cd.2.1 cd.2.2.1 cd.2.2.2 = q at HCC ⊢
                      clear hq
                      have HQ := Lib.hid (show (ckc cd && decide (cd.1 = id ∧ cd.2.1 = nw)) = (q && (decide (cd.1 = id) && decide (cd.2.1 = nw))) from by rw [HCC.out, Bool.decide_and])
                      cases q with
                      | false =>
                        go_wp2_with fail
                        go_ret
                        exact ⟨by rw [HRR.out, HQ.out]; rfl, hbw⟩
                      | true =>
                        by_cases g1 : cd.1 = id
                        · have y1 : decide (cd.1 = id) = true := by simpa using g1
                          by_cases g2 : cd.2.1 = nw
                          · have y2 : decide (cd.2.1 = nw) = true := by simpa using g2
                            go_wp2_with fail
                            go_ret
                            exact ⟨by rw [HRR.out, HQ.out, y1, y2]; first | rfl | (show Ending.returned (Value.bool (decide (cd.2.1 = nw))) = _; rw [y2]; rfl), hbw⟩
                          · have y2 : decide (cd.2.1 = nw) = false := by simpa using g2
                            go_wp2_with fail
                            go_ret
                            exact ⟨by rw [HRR.out, HQ.out, y1, y2]; first | rfl | (show Ending.returned (Value.bool (decide (cd.2.1 = nw))) = _; rw [y2]; rfl), hbw⟩
                        · have y1 : decide (cd.1 = id) = false := by simpa using g1
                          go_wp2_with fail
                          go_ret
                          exact ⟨by rw [HRR.out, HQ.out, y1]; rfl, hbw⟩
end Go.Proofs.Ytepefocpeeihdaa

/- The turn of a card: the document's Of, of one that is not shown. -/
namespace Go.Proofs.Ytepefocpeeihdaa
set_option linter.unusedVariables false
set_option linter.unusedSimpArgs false
open Go Go.RowKit BitM

theorem tr_results {P : Program} {fn : Func} {p q : Tmp} {ty : TypeId} (h : fn.results = #[.cell q ty, .tmp p]) (tmps : Array Value) (w : World) (g : Nat) (cs : List Value) (d : TypeDesc) (v : Value) (hp : tmps.getD p undef = v)
    (hq : tmps.getD q undef = .pointer (some ⟨g, 0, none⟩)) (hB : Blk w g cs)
    (hu : P.underlying ty = some d) (hd : (match d with | .struct _ | .array _ _ => true | _ => false) = true) (hi : (P.info? ty).map (·.size) = some cs.length) :
    (results fn tmps).run P w = .ok (.tuple #[.agg cs.toArray, v]) w := by
  obtain ⟨t, hB⟩ := hB
  subst hp
  have hq' : tmps[q]?.getD undef = .pointer (some ⟨g, 0, none⟩) := by simpa using hq
  simp [results, h, hq', asAddr, run_loadVar_row w g t ty cs.toArray (0, 0) d hB hu hd (by simpa using hi)]
/-- What Decode gives. -/

theorem zc31 : (tcl ⟨0, 0, 0, 0, zcd⟩).toArray = #[Value.int .i64 0, .int .i64 0, .int .i64 0, .int .i64 0, .int .i64 0, .int .i64 0, .int .u32 0, .int .i64 0, .int .i64 0, .string { data := #[] }, .int .i64 0, .int .i64 0, .string { data := #[] }, .int .i64 0, .int .i64 0, .string { data := #[] }, .int .i64 0, .int .i64 0, .string { data := #[] }, .int .i64 0, .int .i64 0, .string { data := #[] }, .int .i64 0, .int .i64 0, .string { data := #[] }, .int .i64 0, .int .i64 0, .string { data := #[] }, .int .i64 0, .int .i64 0, .string { data := #[] }] := rfl
set_option maxRecDepth 100000 in
set_option maxHeartbeats 3200000 in
theorem rof_no (sq old id : Int) (c : Cd) (w : World) (hc : okCd c) (ho : old = 0) :
    Calls Try.prog 10 #[.int .i64 sq, .int .i64 old, .int .i64 id, .agg (ccl c).toArray, .bool false] w fun e w' =>
      e = .returned (.tuple #[.agg (tcl ⟨0, 0, 0, 0, zcd⟩).toArray, .bool false]) ∧ Below w.heap.size w w' := by
  have hu := Try.underlying32
  have huc := Try.underlying30
  obtain ⟨Z, hZ⟩ : ∃ Z, Z = tcl ⟨0, 0, 0, 0, zcd⟩ := ⟨_, rfl⟩
  obtain ⟨T, hT⟩ : ∃ T, T = tcl ⟨sq, id, old, 0, zcd⟩ := ⟨_, rfl⟩
  have hZl : Z.length = 31 := by rw [hZ]; rfl
  have hTl : T.length = 31 := by rw [hT]; rfl
  have hZ1 : ∀ v ∈ Z, v.oneCell' = true := by rw [hZ]; exact tcl_one _
  have hT1 : ∀ v ∈ T, v.oneCell' = true := by rw [hT]; exact tcl_one _
  obtain ⟨W1, hW1⟩ : ∃ W1, W1 = (w.alloc (.cells (ccl c).toArray 30)).alloc (.cells Z.toArray 32) := ⟨_, rfl⟩
  have s1 : W1.heap.size = w.heap.size + 2 := by rw [hW1]; simp
  have b1 : Below w.heap.size w W1 := by rw [hW1]; exact ((Below.refl w.heap.size w).alloc (Nat.le_refl _) _).alloc (by simp) _
  have R1 : Blk W1 (w.heap.size + 1) Z := by
    rw [hW1]
    have := Blk.new (w.alloc (.cells (ccl c).toArray 30)) Z 32
    rwa [show (w.alloc (.cells (ccl c).toArray 30)).heap.size = w.heap.size + 1 by simp] at this
  obtain ⟨W2, hW2⟩ : ∃ W2, W2 = W1.alloc (.cells Z.toArray 32) := ⟨_, rfl⟩
  have T2 : Blk W2 (w.heap.size + 2) Z := by rw [hW2, ← s1]; exact Blk.new W1 Z _
  have R2 : Blk W2 (w.heap.size + 1) Z := by rw [hW2]; exact R1.alloc _
  have b2 : Below w.heap.size w W2 := by rw [hW2]; exact b1.alloc b1.size _
  have TH2 := T2.there 0 31 (by rw [hZl]; omega)
  obtain ⟨W3, hW3⟩ : ∃ W3, W3 = W2.setCells (w.heap.size + 2) 0 T := ⟨_, rfl⟩
  have T3 : Blk W3 (w.heap.size + 2) T := by rw [hW3]; exact T2.whole (by rw [hZl, hTl])
  have R3 : Blk W3 (w.heap.size + 1) Z := by rw [hW3]; exact R2.setsOther (by omega) _ _
  have b3 : Below w.heap.size w W3 := by rw [hW3]; exact below_sets (by omega) _ _ b2
  have d2 : W3.cell? ⟨w.heap.size + 2, 2, none⟩ = some (.int .i64 old) := T3.cell (by rw [hT]; rfl)
  have d3 : W3.cell? ⟨w.heap.size + 2, 3, none⟩ = some (.int .i64 0) := T3.cell (by rw [hT]; rfl)
  have TH3 := R3.there 0 31 (by rw [hZl]; omega)
  have FIN := R3.whole (ds := Z) rfl
  have FB := below_sets (B := w.heap.size) (b := w.heap.size + 1) (by omega) Z 0 b3
  rw [← hZ]
  have HZ := Lib.hid hZ
  have HT := Lib.hid hT
  have HZL := Lib.hid hZl
  have HTL := Lib.hid hTl
  have HZ1 := Lib.hid hZ1
  have HT1 := Lib.hid hT1
  have HW1 := Lib.hid hW1
  have HW2 := Lib.hid hW2
  have HW3 := Lib.hid hW3
  have hzz : Z.toArray = #[Value.int .i64 0, .int .i64 0, .int .i64 0, .int .i64 0, .int .i64 0, .int .i64 0, .int .u32 0, .int .i64 0, .int .i64 0, .string { data := #[] }, .int .i64 0, .int .i64 0, .string { data := #[] }, .int .i64 0, .int .i64 0, .string { data := #[] }, .int .i64 0, .int .i64 0, .string { data := #[] }, .int .i64 0, .int .i64 0, .string { data := #[] }, .int .i64 0, .int .i64 0, .string { data := #[] }, .int .i64 0, .int .i64 0, .string { data := #[] }, .int .i64 0, .int .i64 0, .string { data := #[] }] := by rw [hZ]; exact zc31
  have HZZ := Lib.hid hzz
  clear hZ hT hZl hTl hZ1 hT1 R1 T2 R2 b1 b2 T3 R3 b3 hzz hW3
  subst ho
  have HG : Hid ((w.alloc (.cells (ccl c).toArray 30)).heap.size = w.heap.size + 1) := Lib.hid (by simp)
  rw [hW2, hW1, HZZ.out] at TH2
  clear hW2 hW1 s1
  go_enter Try.func10, Try.ntmps10
  go_wp2_with (first
    | (refine wpList_exec (by rfl) (.agg T.toArray) (by rw [HT.out]; exact exec_turn (.tmp 13) (.tmp 14) (.tmp 15) rfl sq id 0 rfl rfl rfl _) ?_)
    | (refine wpList_store_mid rfl 32 (.tmp 12) (.tmp 16) rfl (w.heap.size + 2) 0 T.toArray rfl rfl (by simpa [HTL.out] using TH2) (by simpa [HTL.out] using info_turn) (all_oneCell_toArray HT1.out) ?_; rw [← HZZ.out, ← HW1.out, ← HW2.out, ← HW3.out])
    | (refine wpList_exec (by rfl) (.agg Z.toArray) (by rw [HZ.out]; exact exec_t0 rfl _) ?_)
    | (refine wpList_store_mid rfl 32 (.tmp 10) (.tmp 28) rfl (w.heap.size + 1) 0 Z.toArray rfl rfl (by simpa [HZL.out] using TH3) (by simpa [HZL.out] using info_turn) (all_oneCell_toArray HZ1.out) ?_))
  exact bodyPost_ret (v := .tuple #[.agg Z.toArray, .bool false]) (tr_results (q := 10) (p := 11) rfl _ _ (w.heap.size + 1) Z _ (.bool false) rfl rfl FIN hu rfl (by rw [HZL.out]; exact info_turn)) rfl ⟨rfl, FB⟩
set_option maxRecDepth 100000 in
set_option maxHeartbeats 3200000 in
theorem rof_off (sq old id : Int) (c : Cd) (w : World) (hc : okCd c) (ho : old ≠ 0) :
    Calls Try.prog 10 #[.int .i64 sq, .int .i64 old, .int .i64 id, .agg (ccl c).toArray, .bool false] w fun e w' =>
      e = .returned (.tuple #[.agg (tcl ⟨sq, id, old, 0, zcd⟩).toArray, .bool true]) ∧ Below w.heap.size w w' := by
  have hu := Try.underlying32
  have huc := Try.underlying30
  obtain ⟨Z, hZ⟩ : ∃ Z, Z = tcl ⟨0, 0, 0, 0, zcd⟩ := ⟨_, rfl⟩
  obtain ⟨T, hT⟩ : ∃ T, T = tcl ⟨sq, id, old, 0, zcd⟩ := ⟨_, rfl⟩
  have hZl : Z.length = 31 := by rw [hZ]; rfl
  have hTl : T.length = 31 := by rw [hT]; rfl
  have hZ1 : ∀ v ∈ Z, v.oneCell' = true := by rw [hZ]; exact tcl_one _
  have hT1 : ∀ v ∈ T, v.oneCell' = true := by rw [hT]; exact tcl_one _
  obtain ⟨W1, hW1⟩ : ∃ W1, W1 = (w.alloc (.cells (ccl c).toArray 30)).alloc (.cells Z.toArray 32) := ⟨_, rfl⟩
  have s1 : W1.heap.size = w.heap.size + 2 := by rw [hW1]; simp
  have b1 : Below w.heap.size w W1 := by rw [hW1]; exact ((Below.refl w.heap.size w).alloc (Nat.le_refl _) _).alloc (by simp) _
  have R1 : Blk W1 (w.heap.size + 1) Z := by
    rw [hW1]
    have := Blk.new (w.alloc (.cells (ccl c).toArray 30)) Z 32
    rwa [show (w.alloc (.cells (ccl c).toArray 30)).heap.size = w.heap.size + 1 by simp] at this
  obtain ⟨W2, hW2⟩ : ∃ W2, W2 = W1.alloc (.cells Z.toArray 32) := ⟨_, rfl⟩
  have T2 : Blk W2 (w.heap.size + 2) Z := by rw [hW2, ← s1]; exact Blk.new W1 Z _
  have R2 : Blk W2 (w.heap.size + 1) Z := by rw [hW2]; exact R1.alloc _
  have b2 : Below w.heap.size w W2 := by rw [hW2]; exact b1.alloc b1.size _
  have TH2 := T2.there 0 31 (by rw [hZl]; omega)
  obtain ⟨W3, hW3⟩ : ∃ W3, W3 = W2.setCells (w.heap.size + 2) 0 T := ⟨_, rfl⟩
  have T3 : Blk W3 (w.heap.size + 2) T := by rw [hW3]; exact T2.whole (by rw [hZl, hTl])
  have R3 : Blk W3 (w.heap.size + 1) Z := by rw [hW3]; exact R2.setsOther (by omega) _ _
  have b3 : Below w.heap.size w W3 := by rw [hW3]; exact below_sets (by omega) _ _ b2
  have d2 : W3.cell? ⟨w.heap.size + 2, 2, none⟩ = some (.int .i64 old) := T3.cell (by rw [hT]; rfl)
  have d3 : W3.cell? ⟨w.heap.size + 2, 3, none⟩ = some (.int .i64 0) := T3.cell (by rw [hT]; rfl)
  have TH3 := R3.there 0 31 (by rw [hZl]; omega)
  have FIN := R3.whole (ds := T) (by rw [hZl, hTl])
  have FB := below_sets (B := w.heap.size) (b := w.heap.size + 1) (by omega) T 0 b3
  have RT := T3.wholeC
  rw [← hT]
  have HZ := Lib.hid hZ
  have HT := Lib.hid hT
  have HZL := Lib.hid hZl
  have HTL := Lib.hid hTl
  have HZ1 := Lib.hid hZ1
  have HT1 := Lib.hid hT1
  have HW1 := Lib.hid hW1
  have HW2 := Lib.hid hW2
  have HW3 := Lib.hid hW3
  have hzz : Z.toArray = #[Value.int .i64 0, .int .i64 0, .int .i64 0, .int .i64 0, .int .i64 0, .int .i64 0, .int .u32 0, .int .i64 0, .int .i64 0, .string { data := #[] }, .int .i64 0, .int .i64 0, .string { data := #[] }, .int .i64 0, .int .i64 0, .string { data := #[] }, .int .i64 0, .int .i64 0, .string { data := #[] }, .int .i64 0, .int .i64 0, .string { data := #[] }, .int .i64 0, .int .i64 0, .string { data := #[] }, .int .i64 0, .int .i64 0, .string { data := #[] }, .int .i64 0, .int .i64 0, .string { data := #[] }] := by rw [hZ]; exact zc31
  have HZZ := Lib.hid hzz
  clear hZ hT hZl hTl hZ1 hT1 R1 T2 R2 b1 b2 T3 R3 b3 hzz hW3
  have g1 : decide (old = 0) = false := by simpa using ho
  have g2 : decide (0 = old) = false := decide_eq_false (fun e => ho e.symm)
  have HG : Hid ((w.alloc (.cells (ccl c).toArray 30)).heap.size = w.heap.size + 1) := Lib.hid (by simp)
  rw [hW2, hW1, HZZ.out] at TH2
  clear hW2 hW1 s1
  go_enter Try.func10, Try.ntmps10
  go_wp2_with (first
    | (refine wpList_exec (by rfl) (.agg T.toArray) (by rw [HT.out]; exact exec_turn (.tmp 13) (.tmp 14) (.tmp 15) rfl sq id old rfl rfl rfl _) ?_)
    | (refine wpList_store_mid rfl 32 (.tmp 12) (.tmp 16) rfl (w.heap.size + 2) 0 T.toArray rfl rfl (by simpa [HTL.out] using TH2) (by simpa [HTL.out] using info_turn) (all_oneCell_toArray HT1.out) ?_; rw [← HZZ.out, ← HW1.out, ← HW2.out, ← HW3.out])
    | (refine wpList_load_mid rfl 32 (.tmp 12) rfl (w.heap.size + 2) 0 rfl T _ RT hu rfl (by rw [HTL.out]; exact info_turn) ?_)
    | (refine wpList_store_mid rfl 32 (.tmp 10) (.tmp 29) rfl (w.heap.size + 1) 0 T.toArray rfl rfl (by simpa [HTL.out] using TH3) (by simpa [HTL.out] using info_turn) (all_oneCell_toArray HT1.out) ?_))
  exact bodyPost_ret (v := .tuple #[.agg T.toArray, .bool true]) (tr_results (q := 10) (p := 11) rfl _ _ (w.heap.size + 1) T _ (.bool true) rfl rfl FIN hu rfl (by rw [HTL.out]; exact info_turn)) rfl ⟨rfl, FB⟩
end Go.Proofs.Ytepefocpeeihdaa

/- The turn of a card: the document's Of, of one that is shown. -/
namespace Go.Proofs.Ytepefocpeeihdaa
set_option linter.unusedVariables false
set_option linter.unusedSimpArgs false
open Go Go.RowKit BitM

set_option maxRecDepth 100000 in
set_option maxHeartbeats 3200000 in
theorem rof_same (sq old id : Int) (c : Cd) (w : World) (hc : okCd c) (ho : c.2.1 = old) :
    Calls Try.prog 10 #[.int .i64 sq, .int .i64 old, .int .i64 id, .agg (ccl c).toArray, .bool true] w fun e w' =>
      e = .returned (.tuple #[.agg (tcl ⟨0, 0, 0, 0, zcd⟩).toArray, .bool false]) ∧ Below w.heap.size w w' := by
  have hu := Try.underlying32
  have huc := Try.underlying30
  obtain ⟨Z, hZ⟩ : ∃ Z, Z = tcl ⟨0, 0, 0, 0, zcd⟩ := ⟨_, rfl⟩
  obtain ⟨T, hT⟩ : ∃ T, T = tcl ⟨sq, id, old, 0, zcd⟩ := ⟨_, rfl⟩
  have hZl : Z.length = 31 := by rw [hZ]; rfl
  have hTl : T.length = 31 := by rw [hT]; rfl
  have hZ1 : ∀ v ∈ Z, v.oneCell' = true := by rw [hZ]; exact tcl_one _
  have hT1 : ∀ v ∈ T, v.oneCell' = true := by rw [hT]; exact tcl_one _
  obtain ⟨W1, hW1⟩ : ∃ W1, W1 = (w.alloc (.cells (ccl c).toArray 30)).alloc (.cells Z.toArray 32) := ⟨_, rfl⟩
  have s1 : W1.heap.size = w.heap.size + 2 := by rw [hW1]; simp
  have b1 : Below w.heap.size w W1 := by rw [hW1]; exact ((Below.refl w.heap.size w).alloc (Nat.le_refl _) _).alloc (by simp) _
  have R1 : Blk W1 (w.heap.size + 1) Z := by
    rw [hW1]
    have := Blk.new (w.alloc (.cells (ccl c).toArray 30)) Z 32
    rwa [show (w.alloc (.cells (ccl c).toArray 30)).heap.size = w.heap.size + 1 by simp] at this
  obtain ⟨W2, hW2⟩ : ∃ W2, W2 = W1.alloc (.cells Z.toArray 32) := ⟨_, rfl⟩
  have T2 : Blk W2 (w.heap.size + 2) Z := by rw [hW2, ← s1]; exact Blk.new W1 Z _
  have R2 : Blk W2 (w.heap.size + 1) Z := by rw [hW2]; exact R1.alloc _
  have b2 : Below w.heap.size w W2 := by rw [hW2]; exact b1.alloc b1.size _
  have TH2 := T2.there 0 31 (by rw [hZl]; omega)
  obtain ⟨W3, hW3⟩ : ∃ W3, W3 = W2.setCells (w.heap.size + 2) 0 T := ⟨_, rfl⟩
  have T3 : Blk W3 (w.heap.size + 2) T := by rw [hW3]; exact T2.whole (by rw [hZl, hTl])
  have R3 : Blk W3 (w.heap.size + 1) Z := by rw [hW3]; exact R2.setsOther (by omega) _ _
  have b3 : Below w.heap.size w W3 := by rw [hW3]; exact below_sets (by omega) _ _ b2
  have G3 : Blk W3 w.heap.size (ccl c) := by
    rw [hW3, hW2, hW1]
    exact Blk.setsOther (by omega) _ _ ((((Blk.new w (ccl c) 30).alloc _).alloc _))
  have x1 : W3.cell? ⟨w.heap.size, 1, none⟩ = some (.int .i64 c.2.1) := G3.cell (j := 1) rfl
  have x3 : W3.cell? ⟨w.heap.size + 2, 3, none⟩ = some (.int .i64 0) := T3.cell (by rw [hT]; rfl)
  have x4 := T3.frozen 3
  obtain ⟨W4, hW4⟩ : ∃ W4, W4 = W3.setCell ⟨w.heap.size + 2, 3, none⟩ (.int .i64 c.2.1) := ⟨_, rfl⟩
  have T4 : Blk W4 (w.heap.size + 2) (T.set 3 (.int .i64 c.2.1)) := by rw [hW4]; exact T3.set 3 _
  have G4 : Blk W4 w.heap.size (ccl c) := by rw [hW4]; exact G3.setOther 3 _ (by omega)
  have R4 : Blk W4 (w.heap.size + 1) Z := by rw [hW4]; exact R3.setOther 3 _ (by omega)
  have b4 : Below w.heap.size w W4 := by rw [hW4]; exact b3.setCell (show w.heap.size ≤ w.heap.size + 2 by omega) _
  have RG := G4.wholeC
  have TH4 := T4.there 4 27 (by rw [List.length_set, hTl]; omega)
  obtain ⟨W5, hW5⟩ : ∃ W5, W5 = W4.setCells (w.heap.size + 2) 4 (ccl c) := ⟨_, rfl⟩
  obtain ⟨V, hV⟩ : ∃ V, V = tcl ⟨sq, id, old, c.2.1, c⟩ := ⟨_, rfl⟩
  have hVl : V.length = 31 := by rw [hV]; exact tcl_len (show okCd c from hc)
  have hV1 : ∀ v ∈ V, v.oneCell' = true := by rw [hV]; exact tcl_one _
  have T5 : Blk W5 (w.heap.size + 2) V := by
    rw [hW5]
    have := T4.sets (ccl c) 4 (by rw [List.length_set, hTl, ccl_len hc]; omega)
    have e : (T.set 3 (.int .i64 c.2.1)).take 4 ++ ccl c ++ (T.set 3 (.int .i64 c.2.1)).drop (4 + (ccl c).length) = V := by
      rw [hV, List.drop_eq_nil_of_le (by rw [List.length_set, hTl, ccl_len hc]; omega), List.append_nil, hT]
      rfl
    rwa [e] at this
  have R5 : Blk W5 (w.heap.size + 1) Z := by rw [hW5]; exact R4.setsOther (by omega) _ _
  have b5 : Below w.heap.size w W5 := by rw [hW5]; exact below_sets (by omega) _ _ b4
  have d2 : W5.cell? ⟨w.heap.size + 2, 2, none⟩ = some (.int .i64 old) := T5.cell (by rw [hV]; rfl)
  have d3 : W5.cell? ⟨w.heap.size + 2, 3, none⟩ = some (.int .i64 c.2.1) := T5.cell (by rw [hV]; rfl)
  have TH3 := R5.there 0 31 (by rw [hZl]; omega)
  have FIN := R5.whole (ds := Z) rfl
  have FB := below_sets (B := w.heap.size) (b := w.heap.size + 1) (by omega) Z 0 b5
  rw [← hZ]
  have HZ := Lib.hid hZ
  have HT := Lib.hid hT
  have HZL := Lib.hid hZl
  have HTL := Lib.hid hTl
  have HZ1 := Lib.hid hZ1
  have HT1 := Lib.hid hT1
  have HW1 := Lib.hid hW1
  have HW2 := Lib.hid hW2
  have HW3 := Lib.hid hW3
  have HW4 := Lib.hid hW4
  have HW5 := Lib.hid hW5
  have HVL := Lib.hid hVl
  have HV1 := Lib.hid hV1
  have HCL := Lib.hid (ccl_len hc)
  have HC1 := Lib.hid (ccl_one c)
  rw [hW4] at RG TH4
  have hzz : Z.toArray = #[Value.int .i64 0, .int .i64 0, .int .i64 0, .int .i64 0, .int .i64 0, .int .i64 0, .int .u32 0, .int .i64 0, .int .i64 0, .string { data := #[] }, .int .i64 0, .int .i64 0, .string { data := #[] }, .int .i64 0, .int .i64 0, .string { data := #[] }, .int .i64 0, .int .i64 0, .string { data := #[] }, .int .i64 0, .int .i64 0, .string { data := #[] }, .int .i64 0, .int .i64 0, .string { data := #[] }, .int .i64 0, .int .i64 0, .string { data := #[] }, .int .i64 0, .int .i64 0, .string { data := #[] }] := by rw [hZ]; exact zc31
  have HZZ := Lib.hid hzz
  clear hZ hT hZl hTl hZ1 hT1 R1 T2 R2 b1 b2 T3 R3 b3 hzz hW3 G3 T4 G4 R4 b4 hW4 hW5 hV hVl hV1 T5 R5 b5
  subst ho
  have HG : Hid ((w.alloc (.cells (ccl c).toArray 30)).heap.size = w.heap.size + 1) := Lib.hid (by simp)
  rw [hW2, hW1, HZZ.out] at TH2
  clear hW2 hW1 s1
  go_enter Try.func10, Try.ntmps10
  go_wp2_with (first
    | (refine wpList_exec (by rfl) (.agg T.toArray) (by rw [HT.out]; exact exec_turn (.tmp 13) (.tmp 14) (.tmp 15) rfl sq id c.2.1 rfl rfl rfl _) ?_)
    | (refine wpList_store_mid rfl 32 (.tmp 12) (.tmp 16) rfl (w.heap.size + 2) 0 T.toArray rfl rfl (by simpa [HTL.out] using TH2) (by simpa [HTL.out] using info_turn) (all_oneCell_toArray HT1.out) ?_; rw [← HZZ.out, ← HW1.out, ← HW2.out, ← HW3.out])
    | (refine wpList_load_mid rfl 30 (.tmp 8) rfl w.heap.size 0 rfl (ccl c) _ RG huc rfl (by rw [HCL.out]; exact info_card) ?_)
    | (refine wpList_store_mid rfl 30 (.tmp 22) (.tmp 21) rfl (w.heap.size + 2) 4 (ccl c).toArray rfl rfl (by simpa [HCL.out] using TH4) (by simpa [HCL.out] using info_card) (all_oneCell_toArray HC1.out) ?_; rw [← HW4.out, ← HW5.out])
    | (refine wpList_exec (by rfl) (.agg Z.toArray) (by rw [HZ.out]; exact exec_t0 rfl _) ?_)
    | (refine wpList_store_mid rfl 32 (.tmp 10) (.tmp 28) rfl (w.heap.size + 1) 0 Z.toArray rfl rfl (by simpa [HZL.out] using TH3) (by simpa [HZL.out] using info_turn) (all_oneCell_toArray HZ1.out) ?_))
  exact bodyPost_ret (v := .tuple #[.agg Z.toArray, .bool false]) (tr_results (q := 10) (p := 11) rfl _ _ (w.heap.size + 1) Z _ (.bool false) rfl rfl FIN hu rfl (by rw [HZL.out]; exact info_turn)) rfl ⟨rfl, FB⟩
set_option maxRecDepth 100000 in
set_option maxHeartbeats 3200000 in
theorem rof_new (sq old id : Int) (c : Cd) (w : World) (hc : okCd c) (ho : c.2.1 ≠ old) :
    Calls Try.prog 10 #[.int .i64 sq, .int .i64 old, .int .i64 id, .agg (ccl c).toArray, .bool true] w fun e w' =>
      e = .returned (.tuple #[.agg (tcl ⟨sq, id, old, c.2.1, c⟩).toArray, .bool true]) ∧ Below w.heap.size w w' := by
  have hu := Try.underlying32
  have huc := Try.underlying30
  obtain ⟨Z, hZ⟩ : ∃ Z, Z = tcl ⟨0, 0, 0, 0, zcd⟩ := ⟨_, rfl⟩
  obtain ⟨T, hT⟩ : ∃ T, T = tcl ⟨sq, id, old, 0, zcd⟩ := ⟨_, rfl⟩
  have hZl : Z.length = 31 := by rw [hZ]; rfl
  have hTl : T.length = 31 := by rw [hT]; rfl
  have hZ1 : ∀ v ∈ Z, v.oneCell' = true := by rw [hZ]; exact tcl_one _
  have hT1 : ∀ v ∈ T, v.oneCell' = true := by rw [hT]; exact tcl_one _
  obtain ⟨W1, hW1⟩ : ∃ W1, W1 = (w.alloc (.cells (ccl c).toArray 30)).alloc (.cells Z.toArray 32) := ⟨_, rfl⟩
  have s1 : W1.heap.size = w.heap.size + 2 := by rw [hW1]; simp
  have b1 : Below w.heap.size w W1 := by rw [hW1]; exact ((Below.refl w.heap.size w).alloc (Nat.le_refl _) _).alloc (by simp) _
  have R1 : Blk W1 (w.heap.size + 1) Z := by
    rw [hW1]
    have := Blk.new (w.alloc (.cells (ccl c).toArray 30)) Z 32
    rwa [show (w.alloc (.cells (ccl c).toArray 30)).heap.size = w.heap.size + 1 by simp] at this
  obtain ⟨W2, hW2⟩ : ∃ W2, W2 = W1.alloc (.cells Z.toArray 32) := ⟨_, rfl⟩
  have T2 : Blk W2 (w.heap.size + 2) Z := by rw [hW2, ← s1]; exact Blk.new W1 Z _
  have R2 : Blk W2 (w.heap.size + 1) Z := by rw [hW2]; exact R1.alloc _
  have b2 : Below w.heap.size w W2 := by rw [hW2]; exact b1.alloc b1.size _
  have TH2 := T2.there 0 31 (by rw [hZl]; omega)
  obtain ⟨W3, hW3⟩ : ∃ W3, W3 = W2.setCells (w.heap.size + 2) 0 T := ⟨_, rfl⟩
  have T3 : Blk W3 (w.heap.size + 2) T := by rw [hW3]; exact T2.whole (by rw [hZl, hTl])
  have R3 : Blk W3 (w.heap.size + 1) Z := by rw [hW3]; exact R2.setsOther (by omega) _ _
  have b3 : Below w.heap.size w W3 := by rw [hW3]; exact below_sets (by omega) _ _ b2
  have G3 : Blk W3 w.heap.size (ccl c) := by
    rw [hW3, hW2, hW1]
    exact Blk.setsOther (by omega) _ _ ((((Blk.new w (ccl c) 30).alloc _).alloc _))
  have x1 : W3.cell? ⟨w.heap.size, 1, none⟩ = some (.int .i64 c.2.1) := G3.cell (j := 1) rfl
  have x3 : W3.cell? ⟨w.heap.size + 2, 3, none⟩ = some (.int .i64 0) := T3.cell (by rw [hT]; rfl)
  have x4 := T3.frozen 3
  obtain ⟨W4, hW4⟩ : ∃ W4, W4 = W3.setCell ⟨w.heap.size + 2, 3, none⟩ (.int .i64 c.2.1) := ⟨_, rfl⟩
  have T4 : Blk W4 (w.heap.size + 2) (T.set 3 (.int .i64 c.2.1)) := by rw [hW4]; exact T3.set 3 _
  have G4 : Blk W4 w.heap.size (ccl c) := by rw [hW4]; exact G3.setOther 3 _ (by omega)
  have R4 : Blk W4 (w.heap.size + 1) Z := by rw [hW4]; exact R3.setOther 3 _ (by omega)
  have b4 : Below w.heap.size w W4 := by rw [hW4]; exact b3.setCell (show w.heap.size ≤ w.heap.size + 2 by omega) _
  have RG := G4.wholeC
  have TH4 := T4.there 4 27 (by rw [List.length_set, hTl]; omega)
  obtain ⟨W5, hW5⟩ : ∃ W5, W5 = W4.setCells (w.heap.size + 2) 4 (ccl c) := ⟨_, rfl⟩
  obtain ⟨V, hV⟩ : ∃ V, V = tcl ⟨sq, id, old, c.2.1, c⟩ := ⟨_, rfl⟩
  have hVl : V.length = 31 := by rw [hV]; exact tcl_len (show okCd c from hc)
  have hV1 : ∀ v ∈ V, v.oneCell' = true := by rw [hV]; exact tcl_one _
  have T5 : Blk W5 (w.heap.size + 2) V := by
    rw [hW5]
    have := T4.sets (ccl c) 4 (by rw [List.length_set, hTl, ccl_len hc]; omega)
    have e : (T.set 3 (.int .i64 c.2.1)).take 4 ++ ccl c ++ (T.set 3 (.int .i64 c.2.1)).drop (4 + (ccl c).length) = V := by
      rw [hV, List.drop_eq_nil_of_le (by rw [List.length_set, hTl, ccl_len hc]; omega), List.append_nil, hT]
      rfl
    rwa [e] at this
  have R5 : Blk W5 (w.heap.size + 1) Z := by rw [hW5]; exact R4.setsOther (by omega) _ _
  have b5 : Below w.heap.size w W5 := by rw [hW5]; exact below_sets (by omega) _ _ b4
  have d2 : W5.cell? ⟨w.heap.size + 2, 2, none⟩ = some (.int .i64 old) := T5.cell (by rw [hV]; rfl)
  have d3 : W5.cell? ⟨w.heap.size + 2, 3, none⟩ = some (.int .i64 c.2.1) := T5.cell (by rw [hV]; rfl)
  have TH3 := R5.there 0 31 (by rw [hZl]; omega)
  have FIN := R5.whole (ds := V) (by rw [hZl, hVl])
  have FB := below_sets (B := w.heap.size) (b := w.heap.size + 1) (by omega) V 0 b5
  have RT := T5.wholeC
  rw [← hV]
  have HZ := Lib.hid hZ
  have HT := Lib.hid hT
  have HZL := Lib.hid hZl
  have HTL := Lib.hid hTl
  have HZ1 := Lib.hid hZ1
  have HT1 := Lib.hid hT1
  have HW1 := Lib.hid hW1
  have HW2 := Lib.hid hW2
  have HW3 := Lib.hid hW3
  have HW4 := Lib.hid hW4
  have HW5 := Lib.hid hW5
  have HVL := Lib.hid hVl
  have HV1 := Lib.hid hV1
  have HCL := Lib.hid (ccl_len hc)
  have HC1 := Lib.hid (ccl_one c)
  rw [hW4] at RG TH4
  have hzz : Z.toArray = #[Value.int .i64 0, .int .i64 0, .int .i64 0, .int .i64 0, .int .i64 0, .int .i64 0, .int .u32 0, .int .i64 0, .int .i64 0, .string { data := #[] }, .int .i64 0, .int .i64 0, .string { data := #[] }, .int .i64 0, .int .i64 0, .string { data := #[] }, .int .i64 0, .int .i64 0, .string { data := #[] }, .int .i64 0, .int .i64 0, .string { data := #[] }, .int .i64 0, .int .i64 0, .string { data := #[] }, .int .i64 0, .int .i64 0, .string { data := #[] }, .int .i64 0, .int .i64 0, .string { data := #[] }] := by rw [hZ]; exact zc31
  have HZZ := Lib.hid hzz
  clear hZ hT hZl hTl hZ1 hT1 R1 T2 R2 b1 b2 T3 R3 b3 hzz hW3 G3 T4 G4 R4 b4 hW4 hW5 hV hVl hV1 T5 R5 b5
  have g1 : decide (old = c.2.1) = false := decide_eq_false (fun e => ho e.symm)
  have HG : Hid ((w.alloc (.cells (ccl c).toArray 30)).heap.size = w.heap.size + 1) := Lib.hid (by simp)
  rw [hW2, hW1, HZZ.out] at TH2
  clear hW2 hW1 s1
  go_enter Try.func10, Try.ntmps10
  go_wp2_with (first
    | (refine wpList_exec (by rfl) (.agg T.toArray) (by rw [HT.out]; exact exec_turn (.tmp 13) (.tmp 14) (.tmp 15) rfl sq id old rfl rfl rfl _) ?_)
    | (refine wpList_store_mid rfl 32 (.tmp 12) (.tmp 16) rfl (w.heap.size + 2) 0 T.toArray rfl rfl (by simpa [HTL.out] using TH2) (by simpa [HTL.out] using info_turn) (all_oneCell_toArray HT1.out) ?_; rw [← HZZ.out, ← HW1.out, ← HW2.out, ← HW3.out])
    | (refine wpList_load_mid rfl 30 (.tmp 8) rfl w.heap.size 0 rfl (ccl c) _ RG huc rfl (by rw [HCL.out]; exact info_card) ?_)
    | (refine wpList_store_mid rfl 30 (.tmp 22) (.tmp 21) rfl (w.heap.size + 2) 4 (ccl c).toArray rfl rfl (by simpa [HCL.out] using TH4) (by simpa [HCL.out] using info_card) (all_oneCell_toArray HC1.out) ?_; rw [← HW4.out, ← HW5.out])
    | (refine wpList_load_mid rfl 32 (.tmp 12) rfl (w.heap.size + 2) 0 rfl V _ RT hu rfl (by rw [HVL.out]; exact info_turn) ?_)
    | (refine wpList_store_mid rfl 32 (.tmp 10) (.tmp 29) rfl (w.heap.size + 1) 0 V.toArray rfl rfl (by simpa [HVL.out] using TH3) (by simpa [HVL.out] using info_turn) (all_oneCell_toArray HV1.out) ?_))
  exact bodyPost_ret (v := .tuple #[.agg V.toArray, .bool true]) (tr_results (q := 10) (p := 11) rfl _ _ (w.heap.size + 1) V _ (.bool true) rfl rfl FIN hu rfl (by rw [HVL.out]; exact info_turn)) rfl ⟨rfl, FB⟩
end Go.Proofs.Ytepefocpeeihdaa

/- The turn of a card: the document's Of. -/
namespace Go.Proofs.Ytepefocpeeihdaa
set_option linter.unusedVariables false
set_option linter.unusedSimpArgs false
open Go Go.RowKit BitM

/-- What Of gives. -/
def ofOut (o : Option Tn) : Value := match o with
  | none => .tuple #[.agg (tcl ⟨0, 0, 0, 0, zcd⟩).toArray, .bool false]
  | some t => .tuple #[.agg (tcl t).toArray, .bool true]
theorem rof23_any (sq old id : Int) (c : Cd) (is : Bool) (w : World) (hc : okCd c) :
    Calls Try.prog 10 #[.int .i64 sq, .int .i64 old, .int .i64 id, .agg (ccl c).toArray, .bool is] w fun e w' =>
      e = .returned (ofOut (ofT sq old id c is)) ∧ Below w.heap.size w w' := by
  cases is with
  | false =>
    by_cases h : old = 0
    · have e : ofT sq old id c false = none := by show (if (0 : Int) = old then none else _) = _; rw [if_pos h.symm]
      rw [e]
      exact rof_no sq old id c w hc h
    · have e : ofT sq old id c false = some ⟨sq, id, old, 0, zcd⟩ := by show (if (0 : Int) = old then none else _) = _; rw [if_neg (fun x => h x.symm)]; rfl
      rw [e]
      exact rof_off sq old id c w hc h
  | true =>
    by_cases h : c.2.1 = old
    · have e : ofT sq old id c true = none := by show (if c.2.1 = old then none else _) = _; rw [if_pos h]
      rw [e]
      exact rof_same sq old id c w hc h
    · have e : ofT sq old id c true = some ⟨sq, id, old, c.2.1, c⟩ := by show (if c.2.1 = old then none else _) = _; rw [if_neg h]; rfl
      rw [e]
      exact rof_new sq old id c w hc h
end Go.Proofs.Ytepefocpeeihdaa

/- May a number be: the program. -/
namespace Go.Proofs.Ytepefocpeeihdaa
set_option linter.unusedVariables false
set_option linter.unusedSimpArgs false
open Go Go.RowKit BitM

end Go.Proofs.Ytepefocpeeihdaa

/- May a turn be: the program. -/
namespace Go.Proofs.Ytepefocpeeihdaa
set_option linter.unusedVariables false
set_option linter.unusedSimpArgs false
open Go Go.RowKit BitM

set_option maxRecDepth 100000 in
theorem trnum (n : Int) (b : Bool) (hb : decide (0 ≤ n ∧ n ≤ 1099511627776) = b) (w : World) : Calls Try.prog 38 #[.int .i64 n] w fun e w' => e = .returned (.bool b) ∧ w = w' := by
  have HQ := Lib.hid (show b = (decide (0 ≤ n) && decide (n ≤ 1099511627776)) from by rw [← hb, Bool.decide_and])
  clear hb
  by_cases a1 : 0 ≤ n
  · have d1 : decide (0 ≤ n) = true := by simpa using a1
    by_cases a2 : n ≤ 1099511627776
    · have d2 : decide (n ≤ 1099511627776) = true := by simpa using a2
      go_enter Try.func38, Try.ntmps38
      go_wp2_with fail
      go_ret
      exact ⟨by rw [HQ.out, d1, d2]; rfl, rfl⟩
    · have d2 : decide (n ≤ 1099511627776) = false := by simpa using a2
      go_enter Try.func38, Try.ntmps38
      go_wp2_with fail
      go_ret
      exact ⟨by rw [HQ.out, d1, d2]; rfl, rfl⟩
  · have d1 : decide (0 ≤ n) = false := by simpa using a1
    go_enter Try.func38, Try.ntmps38
    go_wp2_with fail
    go_ret
    exact ⟨by rw [HQ.out, d1]; rfl, rfl⟩
theorem tr_idcheck (x : Int) (b : Bool) (hb : decide (1 ≤ x ∧ x < 1073741824) = b) (w : World) : Calls Try.prog 39 #[.slice (some ⟨w.heap.size, 0, none⟩) 1 1] (w.alloc (.cells #[.int .i64 x] 3)) fun e w' => e = .returned (.bool b) ∧ (w.alloc (.cells #[.int .i64 x] 3)) = w' := by
  have h := check_any (some ⟨w.heap.size, 0, none⟩) 1 1 [x] (w.alloc (.cells #[.int .i64 x] 3)) rfl (by have := sees_one w x; simpa using this) (by omega)
  rw [show decide (IdsM.Rise [x]) = b from by rw [← hb]; exact decide_eq_decide.2 ⟨fun h => h.2 x (by simp), fun h => ⟨List.pairwise_singleton _ _, fun y hy => by rw [List.mem_singleton] at hy; subst hy; exact h⟩⟩] at h
  exact h
set_option maxRecDepth 100000 in
set_option maxHeartbeats 6400000 in
theorem tmay_any (t : Tn) (w : World) (hc : okCd t.cd) :
    Calls Try.prog 26 #[.agg (tcl t).toArray] w fun e w' => e = .returned (.bool (tmay t)) ∧ Below w.heap.size w w' := by
  have hu := Try.underlying32
  have huc := Try.underlying30
  have B0 := Blk.new w (tcl t) 32
  have c0 := B0.cell (j := 0) (v := .int .i64 t.sq) rfl
  have c1 := B0.cell (j := 1) (v := .int .i64 t.id) rfl
  have hb1 := (Below.refl w.heap.size w).alloc (Nat.le_refl _) (.cells (tcl t).toArray 32)
  obtain ⟨W1, hW1⟩ : ∃ W1, W1 = w.alloc (.cells (tcl t).toArray 32) := ⟨_, rfl⟩
  have hs1 : W1.heap.size = w.heap.size + 1 := by rw [hW1]; simp
  rw [← hW1] at B0 c0 c1 hb1
  obtain ⟨W2, hW2⟩ : ∃ W2, W2 = W1.alloc (.cells #[.int .i64 t.id] 3) := ⟨_, rfl⟩
  have B2 : Blk W2 w.heap.size (tcl t) := by rw [hW2]; exact B0.alloc _
  have hb2 : Below w.heap.size w W2 := by rw [hW2]; exact hb1.alloc hb1.size _
  have e2 := B2.cell (j := 2) (v := .int .i64 t.old) rfl
  have e3 := B2.cell (j := 3) (v := .int .i64 t.nw) rfl
  have RG := B2.range 4 (ccl t.cd) (tcl_drop hc)
  have HB1 := Lib.hid hb1
  have HB2 := Lib.hid hb2
  have HC := Lib.hid hc
  have HCL := Lib.hid (ccl_len hc)
  have HBK := Lib.hid B2
  have HCK := Lib.hid (fun wx : World => ccheck_any t.cd.1 t.cd.2.1 t.cd.2.2.1 t.cd.2.2.2 wx hc)
  have HE := Lib.hid (fun wx : World => eq_ccl t.cd zcd hc rfl wx)
  have HID : Hid (∀ b, decide (1 ≤ t.id ∧ t.id < 1073741824) = b → Calls Try.prog 39 #[.slice (some ⟨w.heap.size + 1, 0, none⟩) 1 1] W2 fun e w' => e = .returned (.bool b) ∧ W2 = w') := Lib.hid (fun b hb => by
    have := tr_idcheck t.id b hb W1
    rw [hs1, ← hW2] at this
    exact this)
  obtain ⟨R, hR⟩ : ∃ R, R = tmay t := ⟨_, rfl⟩
  rw [← hR]
  obtain ⟨sq, id, old, nw, cd⟩ := t
  dsimp only at c0 c1 e2 e3 RG HC HCL HE HCK HID hc hW2
  have HR : Hid (R = (decide (1 ≤ sq ∧ sq ≤ 1099511627776 ∧ 1 ≤ id ∧ id < 1073741824 ∧ 0 ≤ old ∧ old ≤ 1099511627776 ∧ 0 ≤ nw ∧ nw ≤ 1099511627776 ∧ old ≠ nw) && (if nw = 0 then decide (cd = zcd) else ckc cd && decide (cd.1 = id ∧ cd.2.1 = nw)))) := Lib.hid hR
  clear hR B0 B2 hc hb1 hb2
  obtain ⟨cs, hcs⟩ : ∃ cs, cs = tcl ⟨sq, id, old, nw, cd⟩ := ⟨_, rfl⟩
  rw [← hcs] at HBK hW1 ⊢
  have HCS := Lib.hid hcs
  have HW1 := Lib.hid hW1
  have HW2 := Lib.hid hW2
  have HS1 := Lib.hid hs1
  clear hcs hs1 hW2
  subst hW1
  by_cases a1 : sq < 1
  · have d1 : decide (sq < 1) = true := by simpa using a1
    have HRR : Hid (R = false) := Lib.hid (by rw [HR.out, decide_eq_false (by omega), Bool.false_and])
    go_enter Try.func26, Try.ntmps26
    go_wp2_with fail
    go_ret
    exact ⟨by rw [HRR.out]; rfl, HB1.out⟩
  · have d1 : decide (sq < 1) = false := by simpa using a1
    by_cases xN1 : 1099511627776 < sq
    · have HN1 := Lib.hid (trnum sq false (by first | exact decide_eq_true (by omega) | exact decide_eq_false (by omega)))
      have HRR : Hid (R = false) := Lib.hid (by rw [HR.out, decide_eq_false (by omega), Bool.false_and])
      go_enter Try.func26, Try.ntmps26
      go_wp2_with fail
      refine (HN1.out _).mono ?_
      rintro e wx ⟨rfl, rfl⟩
      go_wp2_with fail
      go_ret
      exact ⟨by rw [HRR.out]; rfl, HB1.out⟩
    · have HN1 := Lib.hid (trnum sq true (by first | exact decide_eq_true (by omega) | exact decide_eq_false (by omega)))
      by_cases xIDb : id < 1 ∨ 1073741824 ≤ id
      · have HIDb := Lib.hid (HID.out false (by first | exact decide_eq_true (by omega) | exact decide_eq_false (by omega)))
        have HRR : Hid (R = false) := Lib.hid (by rw [HR.out, decide_eq_false (by omega), Bool.false_and])
        go_enter Try.func26, Try.ntmps26
        go_wp2_with fail
        refine (HN1.out _).mono ?_
        rintro e wx ⟨rfl, rfl⟩
        go_wp2_with fail
        rw [← HW2.out]
        refine HIDb.out.mono ?_
        rintro e wx ⟨rfl, rfl⟩
        go_wp2_with fail
        go_ret
        exact ⟨by rw [HRR.out]; rfl, HB2.out⟩
      · have HIDb := Lib.hid (HID.out true (by first | exact decide_eq_true (by omega) | exact decide_eq_false (by omega)))
        by_cases xN2 : old < 0 ∨ 1099511627776 < old
        · have HN2 := Lib.hid (trnum old false (by first | exact decide_eq_true (by omega) | exact decide_eq_false (by omega)))
          have HRR : Hid (R = false) := Lib.hid (by rw [HR.out, decide_eq_false (by omega), Bool.false_and])
          go_enter Try.func26, Try.ntmps26
          go_wp2_with fail
          refine (HN1.out _).mono ?_
          rintro e wx ⟨rfl, rfl⟩
          go_wp2_with fail
          rw [← HW2.out]
          refine HIDb.out.mono ?_
          rintro e wx ⟨rfl, rfl⟩
          go_wp2_with fail
          refine (HN2.out _).mono ?_
          rintro e wx ⟨rfl, rfl⟩
          go_wp2_with fail
          go_ret
          exact ⟨by rw [HRR.out]; rfl, HB2.out⟩
        · have HN2 := Lib.hid (trnum old true (by first | exact decide_eq_true (by omega) | exact decide_eq_false (by omega)))
          by_cases xN3 : nw < 0 ∨ 1099511627776 < nw
          · have HN3 := Lib.hid (trnum nw false (by first | exact decide_eq_true (by omega) | exact decide_eq_false (by omega)))
            have HRR : Hid (R = false) := Lib.hid (by rw [HR.out, decide_eq_false (by omega), Bool.false_and])
            go_enter Try.func26, Try.ntmps26
            go_wp2_with fail
            refine (HN1.out _).mono ?_
            rintro e wx ⟨rfl, rfl⟩
            go_wp2_with fail
            rw [← HW2.out]
            refine HIDb.out.mono ?_
            rintro e wx ⟨rfl, rfl⟩
            go_wp2_with fail
            refine (HN2.out _).mono ?_
            rintro e wx ⟨rfl, rfl⟩
            go_wp2_with fail
            refine (HN3.out _).mono ?_
            rintro e wx ⟨rfl, rfl⟩
            go_wp2_with fail
            go_ret
            exact ⟨by rw [HRR.out]; rfl, HB2.out⟩
          · have HN3 := Lib.hid (trnum nw true (by first | exact decide_eq_true (by omega) | exact decide_eq_false (by omega)))
            by_cases a9 : old = nw
            · have d9 : decide (old = nw) = true := by simpa using a9
              have d9' : (old == nw) = true := by simpa using a9
              have HRR : Hid (R = false) := Lib.hid (by rw [HR.out, decide_eq_false (by omega), Bool.false_and])
              clear a9
              go_enter Try.func26, Try.ntmps26
              go_wp2_with fail
              refine (HN1.out _).mono ?_
              rintro e wx ⟨rfl, rfl⟩
              go_wp2_with fail
              rw [← HW2.out]
              refine HIDb.out.mono ?_
              rintro e wx ⟨rfl, rfl⟩
              go_wp2_with fail
              refine (HN2.out _).mono ?_
              rintro e wx ⟨rfl, rfl⟩
              go_wp2_with fail
              refine (HN3.out _).mono ?_
              rintro e wx ⟨rfl, rfl⟩
              go_wp2_with fail
              go_ret
              exact ⟨by rw [HRR.out]; rfl, HB2.out⟩
            · have d9 : decide (old = nw) = false := by simpa using a9
              have d9' : (old == nw) = false := by simpa using a9
              have HR2 : Hid (R = (if nw = 0 then decide (cd = zcd) else ckc cd && decide (cd.1 = id ∧ cd.2.1 = nw))) := Lib.hid (by rw [HR.out, decide_eq_true (by omega), Bool.true_and])
              by_cases h0 : nw = 0
              · have e0 : decide (nw = 0) = true := by simpa using h0
                have e0' : (nw == 0) = true := by simpa using h0
                have HRR : Hid (R = decide (cd = zcd)) := Lib.hid (by rw [HR2.out, if_pos h0])
                clear h0
                go_enter Try.func26, Try.ntmps26
                go_wp2_with fail
                refine (HN1.out _).mono ?_
                rintro e wx ⟨rfl, rfl⟩
                go_wp2_with fail
                rw [← HW2.out]
                refine HIDb.out.mono ?_
                rintro e wx ⟨rfl, rfl⟩
                go_wp2_with fail
                refine (HN2.out _).mono ?_
                rintro e wx ⟨rfl, rfl⟩
                go_wp2_with fail
                refine (HN3.out _).mono ?_
                rintro e wx ⟨rfl, rfl⟩
                go_wp2_with (first
                  | (refine wpList_load_mid rfl 30 (.tmp 41) rfl w.heap.size 4 rfl (ccl cd) _ RG huc rfl (by rw [HCL.out]; exact info_card) ?_)
                  | (refine wpList_exec (by rfl) (.agg (ccl zcd).toArray) (exec_c0 rfl _) ?_)
                  | (refine wpList_exec (by rfl) (.bool (decide (cd = zcd))) (exec_eql 30 _ (.tmp 42) (.tmp 43) rfl _ _ rfl rfl guard_card _ (HE.out _)) ?_))
                go_ret
                exact ⟨by rw [HRR.out]; rfl, HB2.out⟩
              · have e0 : decide (nw = 0) = false := by simpa using h0
                have e0' : (nw == 0) = false := by simpa using h0
                have HRR : Hid (R = (ckc cd && decide (cd.1 = id ∧ cd.2.1 = nw))) := Lib.hid (by rw [HR2.out, if_neg h0])
                go_enter Try.func26, Try.ntmps26
                go_wp2_with fail
                refine (HN1.out _).mono ?_
                rintro e wx ⟨rfl, rfl⟩
                go_wp2_with fail
                rw [← HW2.out]
                refine HIDb.out.mono ?_
                rintro e wx ⟨rfl, rfl⟩
                go_wp2_with fail
                refine (HN2.out _).mono ?_
                rintro e wx ⟨rfl, rfl⟩
                go_wp2_with fail
                refine (HN3.out _).mono ?_
                rintro e wx ⟨rfl, rfl⟩
                go_wp2_with (first
                  | (refine wpList_load_mid rfl 30 (.tmp 45) rfl w.heap.size 4 rfl (ccl cd) _ RG huc rfl (by rw [HCL.out]; exact info_card) ?_))
                refine (HCK.out _).mono ?_
                rintro e w1 ⟨rfl, hb⟩
                have hbw := HB2.out.trans (hb.mono HB2.out.size)
                have B1 := HBK.out.later hb
                rw [HCS.out] at B1
                have f1 := B1.cell (j := 1) (v := .int .i64 id) rfl
                have f3 := B1.cell (j := 3) (v := .int .i64 nw) rfl
                have f4 := B1.cell (j := 4) (v := .int .i64 cd.1) rfl
                have f5 := B1.cell (j := 5) (v := .int .i64 cd.2.1) rfl
                clear B1 hb c0 c1 e2 e3 RG
                have HCC : Hid (ckc cd = ccheck cd.1 cd.2.1 cd.2.2.1 cd.2.2.2) := Lib.hid rfl
                generalize hq : ccheck cd.1 cd.2.1 cd.2.2.1 cd.2.2.2 = q at HCC ⊢
                clear hq
                have HQ := Lib.hid (show (ckc cd && decide (cd.1 = id ∧ cd.2.1 = nw)) = (q && (decide (cd.1 = id) && decide (cd.2.1 = nw))) from by rw [HCC.out, Bool.decide_and])
                cases q with
                | false =>
                  go_wp2_with fail
                  go_ret
                  exact ⟨by rw [HRR.out, HQ.out]; rfl, hbw⟩
                | true =>
                  by_cases g1 : cd.1 = id
                  · have y1 : decide (cd.1 = id) = true := by simpa using g1
                    by_cases g2 : cd.2.1 = nw
                    · have y2 : decide (cd.2.1 = nw) = true := by simpa using g2
                      go_wp2_with fail
                      go_ret
                      exact ⟨by rw [HRR.out, HQ.out, y1, y2]; first | rfl | (show Ending.returned (Value.bool (decide (cd.2.1 = nw))) = _; rw [y2]; rfl), hbw⟩
                    · have y2 : decide (cd.2.1 = nw) = false := by simpa using g2
                      go_wp2_with fail
                      go_ret
                      exact ⟨by rw [HRR.out, HQ.out, y1, y2]; first | rfl | (show Ending.returned (Value.bool (decide (cd.2.1 = nw))) = _; rw [y2]; rfl), hbw⟩
                  · have y1 : decide (cd.1 = id) = false := by simpa using g1
                    go_wp2_with fail
                    go_ret
                    exact ⟨by rw [HRR.out, HQ.out, y1]; rfl, hbw⟩
end Go.Proofs.Ytepefocpeeihdaa
