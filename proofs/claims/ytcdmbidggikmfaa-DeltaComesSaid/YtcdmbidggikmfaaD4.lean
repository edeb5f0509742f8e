/- The item of a turn. -/
import Derived.Test.YtcdmbidggikmfaaD3
import Derived.Test.YtcdmbidggikmfaaD2
import Derived.Test.YtcdmbidggikmfaaD1
namespace Go.Proofs.Ytcdmbidggikmfaa
set_option linter.unusedVariables false
set_option linter.unusedSimpArgs false
open Go Go.RowKit BitM

theorem zc28 : (icl ⟨0, zcd⟩).toArray = #[Value.int .i64 0, .int .i64 0, .int .i64 0, .int .u32 0, .int .i64 0, .int .i64 0, .string { data := #[] }, .int .i64 0, .int .i64 0, .string { data := #[] }, .int .i64 0, .int .i64 0, .string { data := #[] }, .int .i64 0, .int .i64 0, .string { data := #[] }, .int .i64 0, .int .i64 0, .string { data := #[] }, .int .i64 0, .int .i64 0, .string { data := #[] }, .int .i64 0, .int .i64 0, .string { data := #[] }, .int .i64 0, .int .i64 0, .string { data := #[] }] := rfl
set_option maxRecDepth 100000 in
set_option maxHeartbeats 3200000 in
theorem item_any (t : Tn) (w : World) (hc : okCd t.cd) :
    Calls Try.prog 31 #[.agg (tcl t).toArray] w fun e w' => e = .returned (.agg (icl (itm t)).toArray) ∧ Below w.heap.size w w' := by
  have hu := Try.underlying51
  have huc := Try.underlying43
  have hui := Try.underlying54
  have B0 := Blk.new w (tcl t) 51
  have B1 := Blk.new (w.alloc (.cells (tcl t).toArray 51)) (icl ⟨0, zcd⟩) 54
  have hw0 := ((Below.refl w.heap.size w).alloc (Nat.le_refl _) (.cells (tcl t).toArray 51)).alloc (by simp) (.cells (icl ⟨0, zcd⟩).toArray 54)
  replace B0 := B0.alloc (.cells (icl ⟨0, zcd⟩).toArray 54)
  have hs1 : (w.alloc (.cells (tcl t).toArray 51)).heap.size = w.heap.size + 1 := by simp
  rw [hs1] at B1
  obtain ⟨W, hW⟩ : ∃ W, W = (w.alloc (.cells (tcl t).toArray 51)).alloc (.cells (icl ⟨0, zcd⟩).toArray 54) := ⟨_, rfl⟩
  have c1 := B0.cell (j := 1) (v := .int .i64 t.id) rfl
  have c2 := B0.cell (j := 2) (v := .int .i64 t.old) rfl
  have c3 := B0.cell (j := 3) (v := .int .i64 t.nw) rfl
  have RG := B0.range 4 (ccl t.cd) (tcl_drop hc)
  rw [← hW] at B1 hw0
  have FIN : ∀ x : Im, okCd x.cd → Blk (W.setCells (w.heap.size + 1) 0 (icl x)) (w.heap.size + 1) (icl x) := fun x hx => B1.whole (ds := icl x) (by rw [icl_len hx, icl_len (show okCd zcd from rfl)])
  have FB : ∀ x : Im, Below w.heap.size w (W.setCells (w.heap.size + 1) 0 (icl x)) := fun x => below_sets (by omega) _ 0 hw0
  have TH := B1.there 0 28 (by rw [icl_len (show okCd zcd from rfl)]; omega)
  have HI := Lib.hid (fun (x : Im) (hx : okCd x.cd) => icl_len hx)
  have HONE := Lib.hid icl_one
  have HC := Lib.hid hc
  have HCL := Lib.hid (ccl_len hc)
  have HIT := Lib.hid (show itm t = itm t from rfl)
  obtain ⟨sq, id, old, nw, cd⟩ := t
  dsimp only at c1 c2 c3 RG HC HCL hc
  rw [hW] at TH
  rw [zc28] at TH c1 c2 c3 RG
  have HW := Lib.hid hW
  have HFIN := Lib.hid FIN
  have HFB := Lib.hid FB
  clear hW FIN FB B0 B1 hw0 hs1 hc
  obtain ⟨cs, hcs⟩ : ∃ cs, cs = tcl ⟨sq, id, old, nw, cd⟩ := ⟨_, rfl⟩
  rw [← hcs] at HW TH c1 c2 c3 RG ⊢
  have HCS := Lib.hid hcs
  clear hcs
  by_cases h0 : old = 0
  · have hi : itm ⟨sq, id, old, nw, cd⟩ = ⟨1, cd⟩ := by unfold itm; rw [if_pos h0]
    rw [hi]
    subst h0
    have F1 := HFIN.out ⟨1, cd⟩ HC.out
    have F2 := HFB.out ⟨1, cd⟩
    obtain ⟨R, hR⟩ : ∃ R, R = icl ⟨1, cd⟩ := ⟨_, rfl⟩
    have hRl : R.length = 28 := by rw [hR]; exact HI.out _ HC.out
    have hone : ∀ v ∈ R, v.oneCell' = true := by rw [hR]; exact HONE.out _
    rw [← hR] at F1 F2 ⊢
    have HR := Lib.hid hR
    have HRL := Lib.hid hRl
    have HO := Lib.hid hone
    clear hR hRl hone hi
    go_enter Try.func31, Try.ntmps31
    go_wp2_with (first
      | (refine wpList_load_mid rfl 43 (.tmp 7) rfl w.heap.size 4 rfl (ccl cd) _ RG huc rfl (by rw [HCL.out]; exact info_card) ?_)
      | (refine wpList_exec (by rfl) (.agg R.toArray) (by rw [HR.out]; exact exec_item (.const (.int .i64 1)) (.tmp 8) rfl 1 cd HC.out rfl rfl _) ?_)
      | (refine wpList_store_mid rfl 54 (.tmp 2) (.tmp 9) rfl (w.heap.size + 1) 0 R.toArray rfl rfl (by simpa [HRL.out] using TH) (by simpa [HRL.out] using info_item) (all_oneCell_toArray HO.out) ?_))
    rw [← zc28, ← HW.out]
    exact bodyPost_ret (v := .agg R.toArray) (results_blk (q := 2) rfl _ _ (w.heap.size + 1) R _ rfl F1 hui rfl (by rw [HRL.out]; exact info_item)) rfl ⟨rfl, F2⟩
  · by_cases h1 : nw = 0
    · have hi : itm ⟨sq, id, old, nw, cd⟩ = ⟨2, (id, 0, 0, zeros)⟩ := by unfold itm; rw [if_neg h0, if_pos h1]
      rw [hi]
      subst h1
      have F1 := HFIN.out ⟨2, (id, 0, 0, zeros)⟩ (show okCd (id, 0, 0, zeros) from rfl)
      have F2 := HFB.out ⟨2, (id, 0, 0, zeros)⟩
      obtain ⟨R, hR⟩ : ∃ R, R = icl ⟨2, (id, 0, 0, zeros)⟩ := ⟨_, rfl⟩
      have hRl : R.length = 28 := by rw [hR]; exact HI.out _ (show okCd (id, 0, 0, zeros) from rfl)
      have hone : ∀ v ∈ R, v.oneCell' = true := by rw [hR]; exact HONE.out _
      rw [← hR] at F1 F2 ⊢
      have HR := Lib.hid hR
      have HRL := Lib.hid hRl
      have HO := Lib.hid hone
      clear hR hRl hone hi
      go_enter Try.func31, Try.ntmps31
      go_wp2_with (first
        | (refine wpList_exec (by rfl) (.agg (ccl (id, 0, 0, zeros)).toArray) (exec_cid (.tmp 15) rfl id rfl _) ?_)
        | (refine wpList_exec (by rfl) (.agg R.toArray) (by rw [HR.out]; exact exec_item (.const (.int .i64 2)) (.tmp 16) rfl 2 (id, 0, 0, zeros) (show okCd (id, 0, 0, zeros) from rfl) rfl rfl _) ?_)
        | (refine wpList_store_mid rfl 54 (.tmp 2) (.tmp 17) rfl (w.heap.size + 1) 0 R.toArray rfl rfl (by simpa [HRL.out] using TH) (by simpa [HRL.out] using info_item) (all_oneCell_toArray HO.out) ?_))
      rw [← zc28, ← HW.out]
      exact bodyPost_ret (v := .agg R.toArray) (results_blk (q := 2) rfl _ _ (w.heap.size + 1) R _ rfl F1 hui rfl (by rw [HRL.out]; exact info_item)) rfl ⟨rfl, F2⟩
    · have hi : itm ⟨sq, id, old, nw, cd⟩ = ⟨3, cd⟩ := by unfold itm; rw [if_neg h0, if_neg h1]
      rw [hi]
      have F1 := HFIN.out ⟨3, cd⟩ HC.out
      have F2 := HFB.out ⟨3, cd⟩
      obtain ⟨R, hR⟩ : ∃ R, R = icl ⟨3, cd⟩ := ⟨_, rfl⟩
      have hRl : R.length = 28 := by rw [hR]; exact HI.out _ HC.out
      have hone : ∀ v ∈ R, v.oneCell' = true := by rw [hR]; exact HONE.out _
      rw [← hR] at F1 F2 ⊢
      have HR := Lib.hid hR
      have HRL := Lib.hid hRl
      have HO := Lib.hid hone
      clear hR hRl hone hi
      go_enter Try.func31, Try.ntmps31
      go_wp2_with (first
        | (refine wpList_load_mid rfl 43 (.tmp 18) rfl w.heap.size 4 rfl (ccl cd) _ RG huc rfl (by rw [HCL.out]; exact info_card) ?_)
        | (refine wpList_exec (by rfl) (.agg R.toArray) (by rw [HR.out]; exact exec_item (.const (.int .i64 3)) (.tmp 19) rfl 3 cd HC.out rfl rfl _) ?_)
        | (refine wpList_store_mid rfl 54 (.tmp 2) (.tmp 20) rfl (w.heap.size + 1) 0 R.toArray rfl rfl (by simpa [HRL.out] using TH) (by simpa [HRL.out] using info_item) (all_oneCell_toArray HO.out) ?_))
      rw [← zc28, ← HW.out]
      exact bodyPost_ret (v := .agg R.toArray) (results_blk (q := 2) rfl _ _ (w.heap.size + 1) R _ rfl F1 hui rfl (by rw [HRL.out]; exact info_item)) rfl ⟨rfl, F2⟩
end Go.Proofs.Ytcdmbidggikmfaa

/- Items that are applied, by the document: mathematics. -/
namespace Go.Proofs.Ytcdmbidggikmfaa
set_option linter.unusedVariables false
set_option linter.unusedSimpArgs false
open Go Go.RowKit

/-- Cards by rising numbers, as pairs. -/
def toKV (cs : List Cd) : KV Cd := cs.map fun c => (c.1, c)
abbrev CRise (cs : List Cd) : Prop := cs.Pairwise (fun c d => c.1 < d.1)
theorem toKV_rise {cs : List Cd} (h : CRise cs) : KRise (toKV cs) := by
  unfold toKV
  exact List.pairwise_map.2 h
def cpos (cs : List Cd) (k : Int) : Nat := (cs.takeWhile (fun c => decide (c.1 < k))).length
def cthere (cs : List Cd) (k : Int) : Bool := match cs[cpos cs k]? with | some c => decide (c.1 = k) | none => false
/-- One item applied, by the document. -/
def rone (cs : List Cd) (x : Im) : Option (List Cd) :=
  if x.kd = 1 then (if cthere cs (rkey x) = true then none else some (cs.take (cpos cs (rkey x)) ++ x.cd :: cs.drop (cpos cs (rkey x))))
  else if cthere cs (rkey x) = true then (if x.kd = 3 then some (cs.take (cpos cs (rkey x)) ++ x.cd :: cs.drop (cpos cs (rkey x) + 1)) else some (cs.take (cpos cs (rkey x)) ++ cs.drop (cpos cs (rkey x) + 1)))
  else none
theorem cpos_cons (c : Cd) (cs : List Cd) (k : Int) : cpos (c :: cs) k = if c.1 < k then cpos cs k + 1 else 0 := by
  unfold cpos
  rw [List.takeWhile_cons]
  by_cases h : c.1 < k
  · rw [decide_eq_true h, if_pos h]; rfl
  · rw [decide_eq_false h, if_neg h]; rfl
theorem kget_low {α : Type} {m : KV α} {k : Int} (h : ∀ p ∈ m, k < p.1) : kget m k = none := by
  unfold kget
  rw [List.find?_eq_none.2 (fun p hp => by have := h p hp; simp; omega)]
  rfl
theorem kput_low {α : Type} {m : KV α} {k : Int} {v : α} (h : ∀ p ∈ m, k < p.1) : kput m k v = (k, v) :: m := by
  cases m with
  | nil => rfl
  | cons p m =>
    unfold kput
    rw [if_pos (h p List.mem_cons_self)]
theorem kdel_low {α : Type} {m : KV α} {k : Int} (h : ∀ p ∈ m, k < p.1) : kdel m k = m := by
  unfold kdel
  rw [List.filter_eq_self]
  intro p hp
  have := h p hp
  simp
  omega
theorem low_toKV {cs : List Cd} {c : Cd} (h : ∀ d ∈ cs, c.1 < d.1) : ∀ p ∈ toKV cs, c.1 < p.1 := fun p hp => by
  obtain ⟨d, hd, rfl⟩ := List.mem_map.1 hp
  exact h d hd
/-- What is there, at its place. -/
theorem cards_at (k : Int) (v : Cd) (hv : v.1 = k) : ∀ {cs : List Cd}, CRise cs →
    (kget (toKV cs) k).isSome = cthere cs k ∧
    (cthere cs k = false → toKV (cs.take (cpos cs k) ++ v :: cs.drop (cpos cs k)) = kput (toKV cs) k v) ∧
    (cthere cs k = true → toKV (cs.take (cpos cs k) ++ v :: cs.drop (cpos cs k + 1)) = kput (toKV cs) k v ∧ toKV (cs.take (cpos cs k) ++ cs.drop (cpos cs k + 1)) = kdel (toKV cs) k)
  | [], _ => by
    refine ⟨rfl, fun _ => ?_, (fun h => by cases h)⟩
    simp [toKV, cpos, kput, hv]
  | c :: cs, h => by
    obtain ⟨h1, h2⟩ := List.pairwise_cons.1 h
    obtain ⟨i1, i2, i3⟩ := cards_at k v hv h2
    have hk : toKV (c :: cs) = (c.1, c) :: toKV cs := rfl
    by_cases hlt : c.1 < k
    · have hp : cpos (c :: cs) k = cpos cs k + 1 := by rw [cpos_cons, if_pos hlt]
      have ht : cthere (c :: cs) k = cthere cs k := by unfold cthere; rw [hp, List.getElem?_cons_succ]
      have hg : kget (toKV (c :: cs)) k = kget (toKV cs) k := by
        unfold kget
        rw [hk, List.find?_cons, show decide (((c.1, c) : Int × Cd).1 = k) = false from decide_eq_false (by show ¬ c.1 = k; omega)]
      have hpt : kput (toKV (c :: cs)) k v = (c.1, c) :: kput (toKV cs) k v := by
        rw [hk]
        show (if k < c.1 then _ else if c.1 = k then _ else _) = _
        rw [if_neg (by omega), if_neg (by omega)]
      have hdl : kdel (toKV (c :: cs)) k = (c.1, c) :: kdel (toKV cs) k := by
        unfold kdel
        rw [hk, List.filter_cons, show decide (((c.1, c) : Int × Cd).1 = k) = false from decide_eq_false (by show ¬ c.1 = k; omega)]
        rfl
      rw [hg, ht, hp, hpt, hdl]
      refine ⟨i1, fun hf => ?_, fun hf => ⟨?_, ?_⟩⟩
      · rw [← i2 hf]; rfl
      · rw [← (i3 hf).1]; rfl
      · rw [← (i3 hf).2]; rfl
    · have hp : cpos (c :: cs) k = 0 := by rw [cpos_cons, if_neg hlt]
      have ht : cthere (c :: cs) k = decide (c.1 = k) := by unfold cthere; rw [hp]; rfl
      rw [ht, hp]
      by_cases he : c.1 = k
      · rw [decide_eq_true he]
        refine ⟨?_, (fun hf => by cases hf), fun _ => ⟨?_, ?_⟩⟩
        · unfold kget
          rw [hk, List.find?_cons, show decide (((c.1, c) : Int × Cd).1 = k) = true from decide_eq_true he]
          rfl
        · rw [hk]
          show toKV (v :: cs) = (if k < c.1 then _ else if c.1 = k then _ else _)
          rw [if_neg (by omega), if_pos he]
          show (v.1, v) :: toKV cs = _
          rw [hv]
        · show toKV cs = kdel (toKV (c :: cs)) k
          unfold kdel
          rw [hk, List.filter_cons, show decide (((c.1, c) : Int × Cd).1 = k) = true from decide_eq_true he]
          have := kdel_low (low_toKV h1)
          unfold kdel at this
          rw [he] at this
          simp only [Bool.not_true, Bool.false_eq_true, if_false]
          exact this.symm
      · rw [decide_eq_false he]
        have hlow : ∀ p ∈ toKV (c :: cs), k < p.1 := fun p hp => by
          rw [hk] at hp
          rcases List.mem_cons.1 hp with rfl | hp
          · show k < c.1
            omega
          · have := low_toKV h1 p hp
            omega
        refine ⟨by rw [kget_low hlow]; rfl, fun _ => ?_, (fun hf => by cases hf)⟩
        rw [kput_low hlow]
        show (v.1, v) :: toKV (c :: cs) = _
        rw [hv]
/-- The pairs stay those of cards. -/
theorem toKV_snd (cs : List Cd) : (toKV cs).map (·.2) = cs := by
  unfold toKV
  rw [List.map_map]
  exact List.map_id _
theorem crise_of {cs : List Cd} (h : KRise (toKV cs)) : CRise cs := by
  unfold toKV KRise at h
  exact (List.pairwise_map (R := fun p q : Int × Cd => p.1 < q.1) (f := fun c : Cd => (c.1, c))).1 h
/-- One item applied is the map's. -/
theorem rone_aput {cs : List Cd} {x : Im} (h : CRise cs) (hk : x.kd = 1 ∨ x.kd = 2 ∨ x.kd = 3) :
    match rone cs x with
    | none => aput (toKV cs) x = none
    | some ds => aput (toKV cs) x = some (toKV ds) ∧ CRise ds := by
  obtain ⟨i1, i2, i3⟩ := cards_at (rkey x) x.cd rfl h
  have hr := toKV_rise h
  unfold rone aput
  rw [i1]
  rcases hk with e | e | e
  · rw [if_pos e]
    cases ht : cthere cs (rkey x) with
    | true => simp [e]
    | false =>
      simp only [Bool.false_eq_true, if_false, e]
      have := i2 ht
      simp only [decide_true, show ((1 : Int) = 2) = False by decide, if_false]
      rw [← this]
      exact ⟨rfl, crise_of (by rw [this]; exact KRise.put hr _ _)⟩
  · rw [if_neg (by omega)]
    cases ht : cthere cs (rkey x) with
    | false => simp [e]
    | true =>
      have := (i3 ht).2
      simp only [if_true, if_neg (show ¬ x.kd = 3 by omega), if_pos e]
      rw [if_neg (by rw [decide_eq_false (by omega)]; simp), ← this]
      exact ⟨rfl, crise_of (by rw [this]; exact KRise.del hr _)⟩
  · rw [if_neg (by omega)]
    cases ht : cthere cs (rkey x) with
    | false => simp [e]
    | true =>
      have := (i3 ht).1
      simp only [if_true, if_pos e, if_neg (show ¬ x.kd = 2 by omega)]
      rw [if_neg (by rw [decide_eq_false (by omega)]; simp), ← this]
      exact ⟨rfl, crise_of (by rw [this]; exact KRise.put hr _ _)⟩
/-- Items applied, by the document. -/
def rapp : List Cd → List Im → Option (List Cd)
  | cs, [] => some cs
  | cs, x :: L => match rone cs x with | none => none | some ds => rapp ds L
theorem rapp_app : ∀ {L : List Im} {cs : List Cd}, CRise cs → (∀ x ∈ L, x.kd = 1 ∨ x.kd = 2 ∨ x.kd = 3) →
    match rapp cs L with
    | none => app (toKV cs) L = none
    | some ds => app (toKV cs) L = some (toKV ds) ∧ CRise ds
  | [], cs, h, _ => ⟨rfl, h⟩
  | x :: L, cs, h, hk => by
    have h1 := rone_aput h (hk x List.mem_cons_self)
    unfold rapp app
    cases hr : rone cs x with
    | none =>
      rw [hr] at h1
      simp only at h1 ⊢
      rw [h1]
    | some ds =>
      rw [hr] at h1
      simp only at h1 ⊢
      rw [h1.1]
      exact rapp_app h1.2 (fun y hy => hk y (List.mem_cons_of_mem _ hy))
end Go.Proofs.Ytcdmbidggikmfaa

/- Turns that go on; items that may be: mathematics. -/
namespace Go.Proofs.Ytcdmbidggikmfaa
set_option linter.unusedVariables false
set_option linter.unusedSimpArgs false
open Go Go.RowKit

def ckc (c : Cd) : Bool := ccheck c.1 c.2.1 c.2.2.1 c.2.2.2
/-- May a turn be? -/
def tmay (t : Tn) : Bool :=
  decide (1 ≤ t.sq ∧ t.sq ≤ 1099511627776 ∧ 1 ≤ t.id ∧ t.id < 1073741824 ∧ 0 ≤ t.old ∧ t.old ≤ 1099511627776 ∧ 0 ≤ t.nw ∧ t.nw ≤ 1099511627776 ∧ t.old ≠ t.nw) &&
  (if t.nw = 0 then decide (t.cd = zcd) else ckc t.cd && decide (t.cd.1 = t.id ∧ t.cd.2.1 = t.nw))
/-- Does a turn go on at its place? -/
def sqAt (l : List Tn) (k : Nat) : Int := match k with | 0 => 0 | k + 1 => ((l[k]?).map (·.sq)).getD 0
def goAt (l : List Tn) (k : Nat) : Bool := match l[k]? with
  | none => true
  | some t => tmay t && decide (k = 0 ∨ sqAt l k < t.sq) && (match lastT (l.take k) t.id with | some u => decide (u.nw = t.old) | none => true)
def goTo (l : List Tn) (k : Nat) : Bool := (List.range k).all (goAt l)
def goes (l : List Tn) : Bool := goTo l l.length
theorem goTo_succ (l : List Tn) (k : Nat) : goTo l (k + 1) = (goTo l k && goAt l k) := by
  unfold goTo
  rw [List.range_succ, List.all_append]
  simp
theorem goTo_no {l : List Tn} {j k : Nat} (h : j ≤ k) (hf : goTo l j = false) : goTo l k = false := by
  induction k with
  | zero =>
    have : j = 0 := by omega
    rwa [this] at hf
  | succ k ih =>
    rcases Nat.lt_or_ge k j with h1 | h1
    · have : j = k + 1 := by omega
      rwa [this] at hf
    · rw [goTo_succ, ih h1]; rfl
theorem goes_no {l : List Tn} {k : Nat} (hk : k < l.length) (hf : goAt l k = false) : goes l = false :=
  goTo_no (j := k + 1) hk (by rw [goTo_succ, hf, Bool.and_false])
theorem goes_at {l : List Tn} (h : goes l = true) {k : Nat} (hk : k < l.length) : goAt l k = true := by
  unfold goes goTo at h
  exact List.all_eq_true.1 h k (List.mem_range.2 hk)
theorem goAt_here {l : List Tn} {k : Nat} (hk : k < l.length) : goAt l k = (tmay l[k] && decide (k = 0 ∨ sqAt l k < l[k].sq) && (match lastT (l.take k) l[k].id with | some u => decide (u.nw = l[k].old) | none => true)) := by
  unfold goAt
  rw [List.getElem?_eq_getElem hk]
theorem goes_may {l : List Tn} (h : goes l = true) : ∀ t ∈ l, tmay t = true := fun t ht => by
  obtain ⟨k, hk, rfl⟩ := List.getElem_of_mem ht
  have := goes_at h hk
  rw [goAt_here hk, Bool.and_eq_true, Bool.and_eq_true] at this
  exact this.1.1
theorem tmay_okT2 {t : Tn} (h : tmay t = true) : okT2 t := fun hn => by
  unfold tmay at h
  rw [if_neg hn, Bool.and_eq_true, Bool.and_eq_true] at h
  exact of_decide_eq_true h.2.2
theorem goes_okT2 {l : List Tn} (h : goes l = true) : ∀ t ∈ l, okT2 t := fun t ht => tmay_okT2 (goes_may h t ht)
theorem goes_chain {l : List Tn} (h : goes l = true) : chainT l := fun a t b e u hu => by
  have hk : a.length < l.length := by rw [e]; simp
  have := goes_at h hk
  rw [goAt_here hk, Bool.and_eq_true] at this
  have ht : l[a.length] = t := by simp [e]
  have hta : l.take a.length = a := by simp [e]
  have h2 := this.2
  rw [ht, hta, hu] at h2
  exact of_decide_eq_true h2
theorem take_snoc {l : List Tn} {k : Nat} (hk : k < l.length) : l.take (k + 1) = l.take k ++ [l[k]] := (List.take_append_getElem hk).symm
theorem wmap_take {l : List Tn} {k : Nat} (hk : k < l.length) : wmap (l.take (k + 1)) = wstep (wmap (l.take k)) l[k] := by rw [take_snoc hk, wmap_append]
/-- A turn looked for from behind. -/
theorem last_back {l : List Tn} {k : Nat} (hk : k < l.length) (i : Int) : lastT (l.take (k + 1)) i = if l[k].id = i then some l[k] else lastT (l.take k) i := by
  rw [take_snoc hk, lastT_append]
  by_cases h : l[k].id = i
  · simp [lastT, h]
  · simp [lastT, h]
end Go.Proofs.Ytcdmbidggikmfaa

/- Cards that turns fit: mathematics. -/
namespace Go.Proofs.Ytcdmbidggikmfaa
set_option linter.unusedVariables false
set_option linter.unusedSimpArgs false
open Go Go.RowKit

theorem kget_app {α : Type} (a b : KV α) (i : Int) : kget (a ++ b) i = match kget a i with | some v => some v | none => kget b i := by
  unfold kget
  rw [List.find?_append]
  cases List.find? (fun p => decide (p.1 = i)) a <;> rfl
theorem kget_none {α : Type} {m : KV α} {i : Int} (h : ∀ p ∈ m, p.1 ≠ i) : kget m i = none := by
  unfold kget
  rw [List.find?_eq_none.2 (fun p hp => by have := h p hp; simp [this])]
  rfl
theorem kget_toKV {cs : List Cd} {i : Int} {c : Cd} (h : kget (toKV cs) i = some c) : c ∈ cs ∧ c.1 = i := by
  obtain ⟨d, hd, e⟩ := List.mem_map.1 (kget_mem h)
  cases e
  exact ⟨hd, rfl⟩
/-- The version of a card, looked for card by card. -/
theorem ver_take {cs : List Cd} (hr : CRise cs) {k : Nat} (hk : k < cs.length) (i : Int) :
    verOf (kget (toKV (cs.take (k + 1))) i) = if cs[k].1 = i then cs[k].2.1 else verOf (kget (toKV (cs.take k)) i) := by
  have e : toKV (cs.take (k + 1)) = toKV (cs.take k) ++ [(cs[k].1, cs[k])] := by
    rw [← List.take_append_getElem hk]
    unfold toKV
    rw [List.map_append]
    rfl
  rw [e, kget_app]
  by_cases h : cs[k].1 = i
  · rw [if_pos h, kget_none (m := toKV (cs.take k)) (fun p hp => by
      obtain ⟨d, hd, rfl⟩ := List.mem_map.1 hp
      obtain ⟨j, hj, rfl⟩ := List.getElem_of_mem hd
      rw [List.length_take] at hj
      have := List.pairwise_iff_getElem.1 hr j k (by omega) hk (by omega)
      rw [List.getElem_take]
      show cs[j].1 ≠ i
      omega)]
    simp [kget, h, verOf]
  · rw [if_neg h]
    cases kget (toKV (cs.take k)) i with
    | some c => rfl
    | none => simp [kget, h, verOf]
/-- A turn that cards fit, at its place. -/
structure FitAt (cs : List Cd) (l : List Tn) (i : Nat) (hi : i < l.length) : Prop where
  a : ∀ k (hk : k < i), l[k].id = l[i].id → l[k].nw = l[i].nw → l[k].cd = l[i].cd
  b : ∀ c ∈ cs, c.1 = l[i].id → c.2.1 = l[i].nw → c = l[i].cd
  c : (∀ k (hk : k < i), l[k].id ≠ l[i].id) → verOf (kget (toKV cs) l[i].id) = l[i].old
theorem last_none {l : List Tn} {i : Int} (h : lastT l i = none) : ∀ t ∈ l, t.id ≠ i := fun t ht e => by
  have h2 := (first_last l i).2 h
  unfold firstT at h2
  have := List.find?_eq_none.1 h2 t ht
  rw [decide_eq_true e] at this
  exact this rfl
theorem fits_of {cs : List Cd} {l : List Tn} (h : ∀ i (hi : i < l.length), FitAt cs l i hi) : FitsT (toKV cs) l where
  one := fun a t b e hn => by
    have hi : a.length < l.length := by rw [e]; simp
    have ht : l[a.length] = t := by simp [e]
    have := (h a.length hi).c (fun k hk => by
      rw [ht]
      have hk2 : l[k] = a[k] := by simp [e, List.getElem_append_left hk]
      rw [hk2]
      exact last_none hn _ (List.getElem_mem hk))
    rwa [ht] at this
  two := fun t ht u hu e1 e2 => by
    obtain ⟨i, hi, rfl⟩ := List.getElem_of_mem ht
    obtain ⟨j, hj, rfl⟩ := List.getElem_of_mem hu
    rcases Nat.lt_trichotomy i j with hij | hij | hij
    · exact (h j hj).a i hij e1 e2
    · subst hij; rfl
    · exact ((h i hi).a j hij e1.symm e2.symm).symm
  three := fun t ht c hc hv => by
    obtain ⟨i, hi, rfl⟩ := List.getElem_of_mem ht
    obtain ⟨h1, h2⟩ := kget_toKV hc
    exact (h i hi).b c h1 h2 hv
theorem shown_of {cs : List Cd} (h : ∀ c ∈ cs, ckc c = true) : shown (toKV cs) := fun i c hc hv => by
  have := h c (kget_toKV hc).1
  unfold ckc ccheck at this
  rw [Bool.and_eq_true] at this
  have := of_decide_eq_true this.1
  omega
theorem aput_rise {m m' : KV Cd} {x : Im} (hr : KRise m) (h : aput m x = some m') : KRise m' := by
  unfold aput at h
  split at h
  · cases h
  · cases h
    split
    · exact KRise.del hr _
    · exact KRise.put hr _ _
theorem app_rise : ∀ {L : List Im} {m m' : KV Cd}, KRise m → app m L = some m' → KRise m'
  | [], m, m', hr, h => by cases h; exact hr
  | x :: L, m, m', hr, h => by
    unfold app at h
    cases hx : aput m x with
    | none => rw [hx] at h; cases h
    | some n =>
      rw [hx] at h
      exact app_rise (aput_rise hr hx) h
/-- Pairs whose second parts are cards of that number are those cards. -/
abbrev KOwn (m : KV Cd) : Prop := ∀ p ∈ m, p.2.1 = p.1
theorem kown_toKV (cs : List Cd) : KOwn (toKV cs) := fun p hp => by
  obtain ⟨c, _, rfl⟩ := List.mem_map.1 hp
  rfl
theorem kown_is {m : KV Cd} (h : KOwn m) : toKV (m.map (·.2)) = m := by
  unfold toKV
  rw [List.map_map]
  conv => rhs; rw [← List.map_id m]
  refine List.map_congr_left (fun p hp => ?_)
  show (p.2.1, p.2) = p
  rw [h p hp]
theorem kown_put {m : KV Cd} (h : KOwn m) (c : Cd) : KOwn (kput m c.1 c) := fun p hp => by
  rcases kput_mem hp with rfl | hp
  · rfl
  · exact h p hp
theorem kown_del {m : KV Cd} (h : KOwn m) (i : Int) : KOwn (kdel m i) := fun p hp => h p (List.mem_filter.1 hp).1
theorem aput_own {m m' : KV Cd} {x : Im} (hr : KOwn m) (h : aput m x = some m') : KOwn m' := by
  unfold aput at h
  split at h
  · cases h
  · cases h
    split
    · exact kown_del hr _
    · exact kown_put hr _
theorem app_own : ∀ {L : List Im} {m m' : KV Cd}, KOwn m → app m L = some m' → KOwn m'
  | [], m, m', hr, h => by cases h; exact hr
  | x :: L, m, m', hr, h => by
    unfold app at h
    cases hx : aput m x with
    | none => rw [hx] at h; cases h
    | some n =>
      rw [hx] at h
      exact app_own (aput_own hr hx) h
/-- What the program's Apply gives: the cards of the map. -/
def apOut (cs : List Cd) (L : List Im) : Option (List Cd) := (app (toKV cs) L).map (fun m => m.map (·.2))
theorem apOut_rise {cs ds : List Cd} {L : List Im} (hr : CRise cs) (h : apOut cs L = some ds) : CRise ds ∧ app (toKV cs) L = some (toKV ds) := by
  unfold apOut at h
  cases ha : app (toKV cs) L with
  | none => rw [ha] at h; cases h
  | some m =>
    rw [ha] at h
    cases h
    have e := kown_is (app_own (kown_toKV cs) ha)
    refine ⟨crise_of ?_, by rw [e]⟩
    rw [e]
    exact app_rise (toKV_rise hr) ha
/-- It is the document's. -/
theorem apOut_rapp {cs : List Cd} {L : List Im} (hr : CRise cs) (hk : ∀ x ∈ L, x.kd = 1 ∨ x.kd = 2 ∨ x.kd = 3) : apOut cs L = rapp cs L := by
  have := rapp_app hr hk
  unfold apOut
  cases h : rapp cs L with
  | none =>
    rw [h] at this
    simp only at this
    rw [this]
    rfl
  | some ds =>
    rw [h] at this
    simp only at this
    rw [this.1]
    show some ((toKV ds).map (·.2)) = _
    rw [toKV_snd]
end Go.Proofs.Ytcdmbidggikmfaa

/- What the laws of turns ask: mathematics. -/
namespace Go.Proofs.Ytcdmbidggikmfaa
set_option linter.unusedVariables false
set_option linter.unusedSimpArgs false
open Go Go.RowKit

end Go.Proofs.Ytcdmbidggikmfaa

/- May a turn be: the document. -/
namespace Go.Proofs.Ytcdmbidggikmfaa
set_option linter.unusedVariables false
set_option linter.unusedSimpArgs false
open Go Go.RowKit BitM

theorem exec_c0 {a : Act} {op : Oper} (ho : op.op = .build 43 #[]) (w : World) : (execOp a.eval op).run Try.prog w = .ok (.value (.agg (ccl zcd).toArray)) w := by
  unfold execOp
  simp only [ho, List.map_toArray, List.map_nil, Sem.run_bind, run_c0, Result.andThen_ok, Sem.run_pure]
theorem eq_ccl (c d : Cd) (hc : okCd c) (hd : okCd d) (w : World) : (Op.equalIn 10000 43 (.agg (ccl c).toArray) (.agg (ccl d).toArray)).run Try.prog w = .ok (decide (c = d)) w := by
  obtain ⟨a1, a2, a3, a4⟩ := c
  obtain ⟨b1, b2, b3, b4⟩ := d
  have := eq_card 9996 a1 a2 a3 b1 b2 b3 a4 b4 hc hd w
  rw [show decide ((a1, a2, a3, a4) = (b1, b2, b3, b4)) = decide (a1 = b1 ∧ a2 = b2 ∧ a3 = b3 ∧ a4 = b4) from by simp only [Prod.mk.injEq]]
  exact this
set_option maxRecDepth 100000 in
set_option maxHeartbeats 3200000 in
theorem rturn_any (t : Tn) (w : World) (hc : okCd t.cd) :
    Calls Try.prog 20 #[.agg (tcl t).toArray] w fun e w' => e = .returned (.bool (tmay t)) ∧ Below w.heap.size w w' := by
  have hu := Try.underlying51
  have huc := Try.underlying43
  have B0 := Blk.new w (tcl t) 51
  have c0 := B0.cell (j := 0) (v := .int .i64 t.sq) rfl
  have c1 := B0.cell (j := 1) (v := .int .i64 t.id) rfl
  have c2 := B0.cell (j := 2) (v := .int .i64 t.old) rfl
  have c3 := B0.cell (j := 3) (v := .int .i64 t.nw) rfl
  have RG := B0.range 4 (ccl t.cd) (tcl_drop hc)
  have HB := Lib.hid ((Below.refl w.heap.size w).alloc (Nat.le_refl _) (.cells (tcl t).toArray 51))
  have HC := Lib.hid hc
  have HCL := Lib.hid (ccl_len hc)
  have HBK := Lib.hid B0
  have HCK := Lib.hid (fun wx : World => rccheck_any t.cd.1 t.cd.2.1 t.cd.2.2.1 t.cd.2.2.2 wx hc)
  have HE := Lib.hid (fun wx : World => eq_ccl t.cd zcd hc rfl wx)
  obtain ⟨R, hR⟩ : ∃ R, R = tmay t := ⟨_, rfl⟩
  rw [← hR]
  obtain ⟨sq, id, old, nw, cd⟩ := t
  dsimp only at c0 c1 c2 c3 RG HC HCL HE HCK hc
  have HR : Hid (R = (decide (1 ≤ sq ∧ sq ≤ 1099511627776 ∧ 1 ≤ id ∧ id < 1073741824 ∧ 0 ≤ old ∧ old ≤ 1099511627776 ∧ 0 ≤ nw ∧ nw ≤ 1099511627776 ∧ old ≠ nw) && (if nw = 0 then decide (cd = zcd) else ckc cd && decide (cd.1 = id ∧ cd.2.1 = nw)))) := Lib.hid hR
  have HT := Lib.hid (show tcl ⟨sq, id, old, nw, cd⟩ = tcl ⟨sq, id, old, nw, cd⟩ from rfl)
  clear hR B0 hc
  obtain ⟨cs, hcs⟩ : ∃ cs, cs = tcl ⟨sq, id, old, nw, cd⟩ := ⟨_, rfl⟩
  rw [← hcs] at HBK HB c0 c1 c2 c3 RG ⊢
  have HCS := Lib.hid hcs
  clear hcs HT
  by_cases a1 : sq < 1
  · have d1 : decide (sq < 1) = true := by simpa using a1
    have HRR : Hid (R = false) := Lib.hid (by rw [HR.out, decide_eq_false (by omega), Bool.false_and])
    go_enter Try.func20, Try.ntmps20
    go_wp2_with fail
    go_ret
    exact ⟨by rw [HRR.out]; rfl, HB.out⟩
  · have d1 : decide (sq < 1) = false := by simpa using a1
    by_cases a2 : 1099511627776 < sq
    · have d2 : decide (1099511627776 < sq) = true := by simpa using a2
      have HRR : Hid (R = false) := Lib.hid (by rw [HR.out, decide_eq_false (by omega), Bool.false_and])
      go_enter Try.func20, Try.ntmps20
      go_wp2_with fail
      go_ret
      exact ⟨by rw [HRR.out]; rfl, HB.out⟩
    · have d2 : decide (1099511627776 < sq) = false := by simpa using a2
      by_cases a3 : id < 1
      · have d3 : decide (id < 1) = true := by simpa using a3
        have HRR : Hid (R = false) := Lib.hid (by rw [HR.out, decide_eq_false (by omega), Bool.false_and])
        go_enter Try.func20, Try.ntmps20
        go_wp2_with fail
        go_ret
        exact ⟨by rw [HRR.out]; rfl, HB.out⟩
      · have d3 : decide (id < 1) = false := by simpa using a3
        by_cases a4 : 1073741824 ≤ id
        · have d4 : decide (1073741824 ≤ id) = true := by simpa using a4
          have HRR : Hid (R = false) := Lib.hid (by rw [HR.out, decide_eq_false (by omega), Bool.false_and])
          go_enter Try.func20, Try.ntmps20
          go_wp2_with fail
          go_ret
          exact ⟨by rw [HRR.out]; rfl, HB.out⟩
        · have d4 : decide (1073741824 ≤ id) = false := by simpa using a4
          by_cases a5 : old < 0
          · have d5 : decide (old < 0) = true := by simpa using a5
            have HRR : Hid (R = false) := Lib.hid (by rw [HR.out, decide_eq_false (by omega), Bool.false_and])
            go_enter Try.func20, Try.ntmps20
            go_wp2_with fail
            go_ret
            exact ⟨by rw [HRR.out]; rfl, HB.out⟩
          · have d5 : decide (old < 0) = false := by simpa using a5
            by_cases a6 : 1099511627776 < old
            · have d6 : decide (1099511627776 < old) = true := by simpa using a6
              have HRR : Hid (R = false) := Lib.hid (by rw [HR.out, decide_eq_false (by omega), Bool.false_and])
              go_enter Try.func20, Try.ntmps20
              go_wp2_with fail
              go_ret
              exact ⟨by rw [HRR.out]; rfl, HB.out⟩
            · have d6 : decide (1099511627776 < old) = false := by simpa using a6
              by_cases a7 : nw < 0
              · have d7 : decide (nw < 0) = true := by simpa using a7
                have HRR : Hid (R = false) := Lib.hid (by rw [HR.out, decide_eq_false (by omega), Bool.false_and])
                go_enter Try.func20, Try.ntmps20
                go_wp2_with fail
                go_ret
                exact ⟨by rw [HRR.out]; rfl, HB.out⟩
              · have d7 : decide (nw < 0) = false := by simpa using a7
                by_cases a8 : 1099511627776 < nw
                · have d8 : decide (1099511627776 < nw) = true := by simpa using a8
                  have HRR : Hid (R = false) := Lib.hid (by rw [HR.out, decide_eq_false (by omega), Bool.false_and])
                  go_enter Try.func20, Try.ntmps20
                  go_wp2_with fail
                  go_ret
                  exact ⟨by rw [HRR.out]; rfl, HB.out⟩
                · have d8 : decide (1099511627776 < nw) = false := by simpa using a8
                  by_cases a9 : old = nw
                  · have d9 : decide (old = nw) = true := by simpa using a9
                    have HRR : Hid (R = false) := Lib.hid (by rw [HR.out, decide_eq_false (by omega), Bool.false_and])
                    go_enter Try.func20, Try.ntmps20
                    go_wp2_with fail
                    go_ret
                    exact ⟨by rw [HRR.out]; rfl, HB.out⟩
                  · have d9 : decide (old = nw) = false := by simpa using a9
                    have HR2 : Hid (R = (if nw = 0 then decide (cd = zcd) else ckc cd && decide (cd.1 = id ∧ cd.2.1 = nw))) := Lib.hid (by rw [HR.out, decide_eq_true (by omega), Bool.true_and])
                    by_cases h0 : nw = 0
                    · have e0 : decide (nw = 0) = true := by simpa using h0
                      have HRR : Hid (R = decide (cd = zcd)) := Lib.hid (by rw [HR2.out, if_pos h0])
                      go_enter Try.func20, Try.ntmps20
                      go_wp2_with (first
                        | (refine wpList_load_mid rfl 43 (.tmp 51) rfl w.heap.size 4 rfl (ccl cd) _ RG huc rfl (by rw [HCL.out]; exact info_card) ?_)
                        | (refine wpList_exec (by rfl) (.agg (ccl zcd).toArray) (exec_c0 rfl _) ?_)
                        | (refine wpList_exec (by rfl) (.bool (decide (cd = zcd))) (exec_eql 43 _ (.tmp 52) (.tmp 53) rfl _ _ rfl rfl guard_card _ (HE.out _)) ?_))
                      go_ret
                      exact ⟨by rw [HRR.out]; rfl, HB.out⟩
                    · have e0 : decide (nw = 0) = false := by simpa using h0
                      have HRR : Hid (R = (ckc cd && decide (cd.1 = id ∧ cd.2.1 = nw))) := Lib.hid (by rw [HR2.out, if_neg h0])
                      go_enter Try.func20, Try.ntmps20
                      go_wp2_with (first
                        | (refine wpList_load_mid rfl 43 (.tmp 55) rfl w.heap.size 4 rfl (ccl cd) _ RG huc rfl (by rw [HCL.out]; exact info_card) ?_))
                      refine (HCK.out _).mono ?_
                      rintro e w1 ⟨rfl, hb⟩
                      have hbw := HB.out.trans (hb.mono HB.out.size)
                      have B1 := HBK.out.later hb
                      rw [HCS.out] at B1
                      have f1 := B1.cell (j := 1) (v := .int .i64 id) rfl
                      have f3 := B1.cell (j := 3) (v := .int .i64 nw) rfl
                      have f4 := B1.cell (j := 4) (v := .int .i64 cd.1) rfl
                      have f5 := B1.cell (j := 5) (v := .int .i64 cd.2.1) rfl
                      clear B1 hb c0 c1 c2 c3 RG
                      have HCC : Hid (ckc cd = ccheck cd.1 cd.2.1 cd.2.2.1 cd.2.2.2) := Lib.hid rfl
                      generalize hq : ccheck cd.1 cd.2.1 cd.2.2.1 cd.2.2.2 = q at HCC ⊢
                      clear hq
                      have HQ := Lib.hid (show (ckc cd && decide (cd.1 = id ∧ cd.2.1 = nw)) = (q && (decide (cd.1 = id) && decide (cd.2.1 = nw))) from by rw [HCC.out, Bool.decide_and])
                      cases q with
                      | false =>
                        go_wp2_with fail
                        go_ret
                        exact ⟨by rw [HRR.out, HQ.out]; rfl, hbw⟩
                      | true =>
                        by_cases g1 : cd.1 = id
                        · have y1 : decide (cd.1 = id) = true := by simpa using g1
                          by_cases g2 : cd.2.1 = nw
                          · have y2 : decide (cd.2.1 = nw) = true := by simpa using g2
                            go_wp2_with fail
                            go_ret
                            exact ⟨by rw [HRR.out, HQ.out, y1, y2]; first | rfl | (show Ending.returned (Value.bool (decide (cd.2.1 = nw))) = _; rw [y2]; rfl), hbw⟩
                          · have y2 : decide (cd.2.1 = nw) = false := by simpa using g2
                            go_wp2_with fail
                            go_ret
                            exact ⟨by rw [HRR.out, HQ.out, y1, y2]; first | rfl | (show Ending.returned (Value.bool (decide (cd.2.1 = nw))) = _; rw [y2]; rfl), hbw⟩
                        · have y1 : decide (cd.1 = id) = false := by simpa using g1
                          go_wp2_with fail
                          go_ret
                          exact ⟨by rw [HRR.out, HQ.out, y1]; rfl, hbw⟩
end Go.Proofs.Ytcdmbidggikmfaa

/- The turn of a card: the document's Of, of one that is not shown. -/
namespace Go.Proofs.Ytcdmbidggikmfaa
set_option linter.unusedVariables false
set_option linter.unusedSimpArgs false
open Go Go.RowKit BitM

/-- What Decode gives. -/

theorem zc31 : (tcl ⟨0, 0, 0, 0, zcd⟩).toArray = #[Value.int .i64 0, .int .i64 0, .int .i64 0, .int .i64 0, .int .i64 0, .int .i64 0, .int .u32 0, .int .i64 0, .int .i64 0, .string { data := #[] }, .int .i64 0, .int .i64 0, .string { data := #[] }, .int .i64 0, .int .i64 0, .string { data := #[] }, .int .i64 0, .int .i64 0, .string { data := #[] }, .int .i64 0, .int .i64 0, .string { data := #[] }, .int .i64 0, .int .i64 0, .string { data := #[] }, .int .i64 0, .int .i64 0, .string { data := #[] }, .int .i64 0, .int .i64 0, .string { data := #[] }] := rfl
end Go.Proofs.Ytcdmbidggikmfaa

/- The turn of a card: the document's Of, of one that is shown. -/
namespace Go.Proofs.Ytcdmbidggikmfaa
set_option linter.unusedVariables false
set_option linter.unusedSimpArgs false
open Go Go.RowKit BitM

end Go.Proofs.Ytcdmbidggikmfaa

/- The turn of a card: the document's Of. -/
namespace Go.Proofs.Ytcdmbidggikmfaa
set_option linter.unusedVariables false
set_option linter.unusedSimpArgs false
open Go Go.RowKit BitM

end Go.Proofs.Ytcdmbidggikmfaa

/- May a number be: the program. -/
namespace Go.Proofs.Ytcdmbidggikmfaa
set_option linter.unusedVariables false
set_option linter.unusedSimpArgs false
open Go Go.RowKit BitM

end Go.Proofs.Ytcdmbidggikmfaa

/- May a turn be: the program. -/
namespace Go.Proofs.Ytcdmbidggikmfaa
set_option linter.unusedVariables false
set_option linter.unusedSimpArgs false
open Go Go.RowKit BitM

end Go.Proofs.Ytcdmbidggikmfaa

/- Cuts of rows of structs, s[:m] and s[k:], for regions that draw their order. -/
namespace Go.Proofs.Ytcdmbidggikmfaa
set_option linter.unusedVariables false
set_option linter.unusedSimpArgs false
open Go Go.RowKit

theorem exec_slice_h {P : Program} {a : Act} {op : Oper} {w : World} (t : TypeId) (x y : Operand) (ho : op.op = .slice t x none (some y) none) (e : TypeId) (ht : P.underlying t = some (.slice e)) (v u r : Value) (hx : a.eval x = v) (hy : a.eval y = u)
    (hr : ∀ wx, (Instr.slice t v none (some u) none).run P wx = .ok r wx) : (execOp a.eval op).run P w = .ok (.value r) w := by
  have he : P.elem t = e := by simp [Program.elem, ht]
  have ht' : P.underlying t = some (.slice (P.elem t)) := by rw [he]; exact ht
  unfold execOp
  simp only [ho, hx, hy, Option.map_some, Option.map_none, Sem.run_bind, run_sliceAt_slice _ _ _ _ _ _ ht', hr, Result.andThen_ok, Sem.run_pure]
theorem exec_slice_l {P : Program} {a : Act} {op : Oper} {w : World} (t : TypeId) (x y : Operand) (ho : op.op = .slice t x (some y) none none) (e : TypeId) (ht : P.underlying t = some (.slice e)) (v u r : Value) (hx : a.eval x = v) (hy : a.eval y = u)
    (hr : ∀ wx, (Instr.slice t v (some u) none none).run P wx = .ok r wx) : (execOp a.eval op).run P w = .ok (.value r) w := by
  have he : P.elem t = e := by simp [Program.elem, ht]
  have ht' : P.underlying t = some (.slice (P.elem t)) := by rw [he]; exact ht
  unfold execOp
  simp only [ho, hx, hy, Option.map_some, Option.map_none, Sem.run_bind, run_sliceAt_slice _ _ _ _ _ _ ht', hr, Result.andThen_ok, Sem.run_pure]

/-- s[:m] -/
theorem rowcut_h {P : Program} (t e : TypeId) (i : TypeInfo) (size : Nat) (ht : P.underlying t = some (.slice e)) (hi : P.info? e = some i) (hsz : i.size = size)
    (ad : Addr) (n m c : Nat) (H : Int) (kh : IntKind) (hm : m ≤ n) (hH : H = (m : Int)) (hc : n ≤ c) :
    ∃ ad2, (∀ wx, (Instr.slice t (.slice (some ad) n c) none (some (.int kh H)) none).run P wx = .ok (.slice (some ad2) m c) wx) ∧
      ∀ (wx : World) (B : Nat) (xs : List Value), Sees wx B (some ad) xs → Sees wx B (some ad2) (xs.take (m * size)) := by
  refine ⟨if c = 0 then ad else ad.add 0, fun wx => ?_, fun wx B xs h => ?_⟩
  · have he : P.elem t = e := by simp [Program.elem, ht]
    have ht' : P.underlying t = some (.slice (P.elem t)) := by rw [he]; exact ht
    rw [run_slice_h wx t (some ad) n c ht' kh H (by omega) (by omega), he]
    simp [sizeOf, typeInfo, hi, hsz, sliced, hH]
    split <;> rfl
  · have e2 : (if c = 0 then ad else ad.add 0) = ad := by split <;> simp [Addr.add]
    rw [e2]
    exact h.take _
/-- s[k:] -/
theorem rowcut_l {P : Program} (t e : TypeId) (i : TypeInfo) (size : Nat) (ht : P.underlying t = some (.slice e)) (hi : P.info? e = some i) (hsz : i.size = size)
    (ad : Addr) (n m k c : Nat) (K : Int) (kl : IntKind) (hn : n = m + k) (hK : K = (k : Int)) (hc : n ≤ c) :
    ∃ ad2, (∀ wx, (Instr.slice t (.slice (some ad) n c) (some (.int kl K)) none none).run P wx = .ok (.slice (some ad2) m (c - k)) wx) ∧
      ∀ (wx : World) (B : Nat) (xs : List Value), xs.length = n * size → Sees wx B (some ad) xs → Sees wx B (some ad2) (xs.drop (k * size)) := by
  refine ⟨if c = k then ad else ad.add (k * size), fun wx => ?_, fun wx B xs hx h => ?_⟩
  · have he : P.elem t = e := by simp [Program.elem, ht]
    have ht' : P.underlying t = some (.slice (P.elem t)) := by rw [he]; exact ht
    rw [run_slice_l wx t (some ad) n c ht' kl K (by omega) (by omega), he]
    have hm : n - k = m := by omega
    simp [sizeOf, typeInfo, hi, hsz, sliced, hK, hm]
    split <;> rfl
  · intro hpos
    rw [List.length_drop, hx, hn, Nat.add_mul] at hpos
    have hm : 0 < m := by
      rcases Nat.eq_zero_or_pos m with h0 | h0
      · rw [h0, Nat.zero_mul] at hpos; omega
      · exact h0
    obtain ⟨b, o, e, hb, hcell⟩ := h (by rw [hx, hn, Nat.add_mul]; omega)
    cases e
    rw [if_neg (by omega)]
    refine ⟨b, o + k * size, by simp [Addr.add], hb, fun j hj => ?_⟩
    rw [List.length_drop] at hj
    rw [Nat.add_assoc, hcell (k * size + j) (by omega)]
    simp
end Go.Proofs.Ytcdmbidggikmfaa

/- Turns by the document: is a card's turn the first one; an item at its place. -/
namespace Go.Proofs.Ytcdmbidggikmfaa
set_option linter.unusedVariables false
set_option linter.unusedSimpArgs false
open Go Go.RowKit BitM

theorem tcl_lens {l : List Tn} (h : ∀ t ∈ l, okCd t.cd) : ∀ x ∈ l, (tcl x).length = 31 := fun x hx => tcl_len (h x hx)
theorem icl_lens {l : List Im} (h : ∀ t ∈ l, okCd t.cd) : ∀ x ∈ l, (icl x).length = 28 := fun x hx => icl_len (h x hx)
def iOf : Value → Int | .int _ q => q | _ => 0
/-- The cells of a turn that lies in a slice. -/
theorem turn_cells {w : World} {A : Option Addr} {n c : Nat} {l : List Tn} (h : SeesR tcl w A n c l) (hok : ∀ t ∈ l, okCd t.cd) (hl : 0 < l.length) :
    ∃ b o, A = some ⟨b, o, none⟩ ∧ b < w.heap.size ∧ ∀ W, Below w.heap.size w W → ∀ k (hk : k < l.length), W.cell? ⟨b, o + k * 31, none⟩ = some (.int .i64 l[k].sq) ∧ W.cell? ⟨b, o + k * 31 + 1, none⟩ = some (.int .i64 l[k].id) ∧
      W.cell? ⟨b, o + k * 31 + 2, none⟩ = some (.int .i64 l[k].old) ∧ W.cell? ⟨b, o + k * 31 + 3, none⟩ = some (.int .i64 l[k].nw) ∧ W.rangeAt b (o + k * 31) (tcl l[k]) ∧ W.rangeAt b (o + k * 31 + 4) (ccl l[k].cd) := by
  obtain ⟨b, o, e, hb, hr⟩ := h.gets (tcl_lens hok) (by omega) hl
  refine ⟨b, o, e, hb, fun W hW k hk => ?_⟩
  have r := hr W hW k hk
  refine ⟨r 0 _ rfl, r 1 _ rfl, r 2 _ rfl, r 3 _ rfl, r, fun j v hj => ?_⟩
  have := r (4 + j) v (by
    unfold tcl
    rw [List.getElem?_append_right (by simp)]
    simpa using hj)
  rw [show o + k * 31 + 4 + j = o + k * 31 + (4 + j) by omega]
  exact this
theorem item_cells {w : World} {A : Option Addr} {n c : Nat} {l : List Im} (h : SeesR icl w A n c l) (hok : ∀ t ∈ l, okCd t.cd) (hl : 0 < l.length) :
    ∃ b o, A = some ⟨b, o, none⟩ ∧ b < w.heap.size ∧ ∀ W, Below w.heap.size w W → ∀ k (hk : k < l.length), W.cell? ⟨b, o + k * 28, none⟩ = some (.int .i64 l[k].kd) ∧ W.cell? ⟨b, o + k * 28 + 1, none⟩ = some (.int .i64 l[k].cd.1) ∧
      W.rangeAt b (o + k * 28) (icl l[k]) ∧ W.rangeAt b (o + k * 28 + 1) (ccl l[k].cd) := by
  obtain ⟨b, o, e, hb, hr⟩ := h.gets (icl_lens hok) (by omega) hl
  refine ⟨b, o, e, hb, fun W hW k hk => ?_⟩
  have r := hr W hW k hk
  refine ⟨r 0 _ rfl, r 1 _ rfl, r, fun j v hj => ?_⟩
  have := r (1 + j) v (by
    unfold icl
    rw [List.getElem?_append_right (by simp)]
    simpa using hj)
  rw [show o + k * 28 + 1 + j = o + k * 28 + (1 + j) by omega]
  exact this
set_option maxRecDepth 100000 in
set_option maxHeartbeats 1600000 in
theorem rfirst_any (A : Option Addr) (n c : Nat) (l : List Tn) (w : World) (h : SeesR tcl w A n c l) (hok : ∀ t ∈ l, okCd t.cd) (k : Nat) (hk : k < l.length) (hz : n ≤ 65536) (R : Bool) (hR : R = true ↔ firstAt l k) :
    Calls Try.prog 24 #[.slice A n c, .int .i64 (k : Int)] w fun e w' => e = .returned (.bool R) ∧ Below w.heap.size w w' := by
  have hu := Try.underlying51
  obtain ⟨b, o, rfl, _, hc⟩ := turn_cells h hok (by omega)
  have hkn : k < n := by rw [← h.len]; exact hk
  have HN := Lib.hid h.len
  have HC : Hid (∀ W, Below w.heap.size w W → ∀ j (hj : j < l.length), W.cell? ⟨b, o + j * 31 + 1, none⟩ = some (.int .i64 l[j].id)) := Lib.hid (fun W hW j hj => (hc W hW j hj).2.1)
  have HNO : Hid (∀ j (hj : j < k), (l[j]'(by omega)).id = l[k].id → R = false) := Lib.hid (fun j hj e => by
    cases hb : R with
    | false => rfl
    | true => exact absurd e (hR.1 hb j hj (by omega) hk))
  have HYES : Hid ((∀ j (hj : j < k), (l[j]'(by omega)).id ≠ l[k].id) → R = true) := Lib.hid (fun hh => hR.2 (fun j hj _ _ => hh j hj))
  clear hR h hc
  go_enter Try.func24, Try.ntmps24
  go_wp2_with fail
  go_loopw [5] (fun i wr => ∃ j : Nat, j ≤ k ∧ i = .int .i64 (j : Int) ∧ Hid (∀ m (hm : m < j) (hk' : m < k), (l[m]'(by omega)).id ≠ l[k].id) ∧ Hid (Below w.heap.size w wr)) (fun i _ => k - (iOf i).toNat)
  case atStart => exact ⟨0, by omega, rfl, Lib.hid (fun m hm => by omega), Lib.hid (Below.refl _ _)⟩
  case round =>
    obtain ⟨j, hj, rfl, HF, HB⟩ := hrel
    by_cases hlt : j < k
    · have d0 : decide ((j : Int) < (k : Int)) = true := decide_eq_true (by omega)
      have hjl : j < l.length := by omega
      have hjn : j < n := by omega
      have HBW : Hid (∀ W, Le wr W → Below w.heap.size w W) := Lib.hid (fun W hl => HB.out.trans (hl.mono HB.out.size))
      have HNJ := Lib.hid (fun e => HNO.out j hlt e)
      have HFJ : Hid (l[j].id ≠ l[k].id → ∀ m (hm : m < j + 1) (hk' : m < k), (l[m]'(by omega)).id ≠ l[k].id) := Lib.hid (fun hne m hm hk' => by
        by_cases e : m = j
        · subst e; exact hne
        · exact HF.out m (by omega) hk')
      have ca : ∀ kk : LW wr, kk.val.cell? ⟨b, o + j * 31 + 1, none⟩ = some (.int .i64 l[j].id) := fun kk => HC.out _ (HBW.out _ kk.le) j hjl
      have cb : ∀ kk : LW wr, kk.val.cell? ⟨b, o + k * 31 + 1, none⟩ = some (.int .i64 l[k].id) := fun kk => HC.out _ (HBW.out _ kk.le) k hk
      generalize hx : l[j].id = x at ca HNJ HFJ
      generalize hy : l[k].id = y at cb HNJ
      rw [hy] at HFJ
      have HY := Lib.hid hy
      clear hx hy HC HNO HYES HF
      by_cases hxy : x = y
      · have HR := Lib.hid (HNJ.out hxy)
        have d1 : decide (x = y) = true := decide_eq_true hxy
        have d1' : (x == y) = true := by simpa using hxy
        clear hxy
        go_wp2_with fail
        refine wp_region_steady [] 22 (by kernel_rfl) (by kernel_rfl) (by kernel_rfl) (by rfl) ?_
        iterate 11 (refine wpG_quiet (by rfl) (by rfl) (by rfl) (fun K hK => ?_); go_big_quiet_op; refine hK _ ?_; clear hK K)
        refine wpG_nil fun w1 hl _ => ?_
        have HB1 := Lib.hid (HBW.out w1 hl)
        clear HBW
        go_wp2_with fail
        go_ret
        exact ⟨by rw [HR.out]; rfl, HB1.out⟩
      · have d1 : decide (x = y) = false := decide_eq_false hxy
        have d1' : (x == y) = false := by simpa using hxy
        have HX := Lib.hid hxy
        clear hxy
        go_wp2_with fail
        refine wp_region_steady [] 22 (by kernel_rfl) (by kernel_rfl) (by kernel_rfl) (by rfl) ?_
        iterate 11 (refine wpG_quiet (by rfl) (by rfl) (by rfl) (fun K hK => ?_); go_big_quiet_op; refine hK _ ?_; clear hK K)
        refine wpG_nil fun w1 hl _ => ?_
        have HB1 := Lib.hid (HBW.out w1 hl)
        clear HBW
        go_wp2_with fail
        go_roundw
        case rel => exact ⟨j + 1, by omega, by go_num, Lib.hid (HFJ.out HX.out), HB1⟩
        case measure => simp [iOf]; omega
    · obtain rfl : j = k := by omega
      have HR := Lib.hid (HYES.out (fun m hm => HF.out m hm hm))
      clear HNO HYES HC HF
      go_wp2_with fail
      go_ret
      exact ⟨by rw [HR.out]; rfl, HB.out⟩
theorem rpos_le (L : List Im) (x : Im) : rpos L x ≤ L.length := by
  induction L with
  | nil => simp [rpos]
  | cons y L ih => rw [rpos_cons]; split <;> simp <;> omega
theorem rpos_low (x : Im) : ∀ (L : List Im) (k : Nat) (hk : k < L.length), k < rpos L x → rkey L[k] < rkey x
  | [], k, hk, _ => by simp at hk
  | y :: L, 0, _, h => by
    rw [rpos_cons] at h
    split at h
    · assumption
    · omega
  | y :: L, k + 1, hk, h => by
    rw [rpos_cons] at h
    split at h
    · exact rpos_low x L k (by simpa using hk) (by omega)
    · omega
theorem rpos_high (x : Im) : ∀ (L : List Im) (k : Nat) (hk : k < L.length), k = rpos L x → ¬ rkey L[k] < rkey x
  | [], k, hk, _ => by simp at hk
  | y :: L, 0, _, h => by
    rw [rpos_cons] at h
    split at h
    · omega
    · assumption
  | y :: L, k + 1, hk, h => by
    rw [rpos_cons] at h
    split at h
    · exact rpos_high x L k (by simpa using hk) (by omega)
    · omega
theorem info_itm : ∃ i0, Try.prog.info? 54 = some i0 ∧ i0.zero = some (.agg (icl ⟨0, zcd⟩).toArray) ∧ i0.size = 28 ∧ i0.bytes = 288 := by
  have h : (Try.prog.info? 54).map (fun i => (i.zero, i.size, i.bytes)) = some (some (.agg (icl ⟨0, zcd⟩).toArray), 28, 288) := by kernel_rfl
  cases hi : Try.prog.info? 54 with
  | none => rw [hi] at h; cases h
  | some i0 =>
    rw [hi] at h
    simp only [Option.map_some, Option.some.injEq, Prod.mk.injEq] at h
    exact ⟨i0, rfl, h.1, h.2.1, h.2.2⟩
theorem run_is1 (x : Im) (hx : okCd x.cd) (w : World) : (Instr.buildSlice 27 1 #[(0, .agg (icl x).toArray)]).run Try.prog w = .ok (.slice (some ⟨w.heap.size, 0, none⟩) 1 1) (w.alloc (.cells (icl x).toArray 54)) := by
  obtain ⟨k, i, v, lb, f⟩ := x
  obtain ⟨⟨_, _, _⟩, ⟨_, _, _⟩, ⟨_, _, _⟩, ⟨_, _, _⟩, ⟨_, _, _⟩, ⟨_, _, _⟩, ⟨_, _, _⟩, ⟨_, _, _⟩, e⟩ := tr_eight (show f.length = 8 from hx)
  subst e
  kernel_rfl
theorem exec_is1 {a : Act} {op : Oper} (y : Operand) (ho : op.op = .buildSlice 27 1 #[(0, y)]) (x : Im) (hx : okCd x.cd) (hy : a.eval y = .agg (icl x).toArray) (w : World) :
    (execOp a.eval op).run Try.prog w = .ok (.value (.slice (some ⟨w.heap.size, 0, none⟩) 1 1)) (w.alloc (.cells (icl x).toArray 54)) := by
  unfold execOp
  simp only [ho, List.map_toArray, List.map_cons, List.map_nil, hy, Sem.run_bind, run_is1 x hx, Result.andThen_ok, Sem.run_pure]
def GivesI (w : World) (L : List Im) (e : Ending) (w' : World) : Prop :=
  ∃ A' c', e = .returned (.slice A' L.length c') ∧ w'.ownsRow w.heap.size 54 28 (.slice A' L.length c') L.length (rws icl L) ∧ (0 < L.length → A'.isSome = true) ∧ Below w.heap.size w w'
set_option maxRecDepth 100000 in
set_option maxHeartbeats 3200000 in
theorem rput23_any (b o n c : Nat) (L : List Im) (x : Im) (w : World) (h : SeesR icl w (some ⟨b, o, none⟩) n c L) (hok : ∀ y ∈ L, okCd y.cd) (hx : okCd x.cd) (hz : n ≤ 65536) :
    Calls Try.prog 25 #[.slice (some ⟨b, o, none⟩) n c, .agg (icl x).toArray] w (GivesI w (rput L x)) := by
  have hu := Try.underlying54
  obtain ⟨i1, ji, jz0, jz1, jz2⟩ := info_itm
  have hpn : rpos L x ≤ n := by rw [← h.len]; exact rpos_le L x
  have HN := Lib.hid h.len
  have HLOW := Lib.hid (fun k (hk : k < L.length) (hp : k < rpos L x) => rpos_low x L k hk hp)
  have HHIGH := Lib.hid (fun k (hk : k < L.length) (hp : k = rpos L x) => rpos_high x L k hk hp)
  have HC : Hid (∀ W, Below w.heap.size w W → ∀ j (hj : j < L.length), W.cell? ⟨b, o + j * 28 + 1, none⟩ = some (.int .i64 (rkey L[j]))) := Lib.hid (fun W hW j hj => by
    obtain ⟨b', o', e, _, hr⟩ := item_cells h hok (by omega)
    cases e
    exact (hr W hW j hj).2.1)
  obtain ⟨ad1, hr1, hs1⟩ := rowcut_h (P := Try.prog) 27 54 i1 28 Try.underlying27 ji jz1 ⟨b, o, none⟩ n (rpos L x) c ((rpos L x : Nat) : Int) .i64 (by omega) rfl h.cap
  obtain ⟨ad2, hr2, hs2⟩ := rowcut_l (P := Try.prog) 27 54 i1 28 Try.underlying27 ji jz1 ⟨b, o, none⟩ n (n - rpos L x) (rpos L x) c ((rpos L x : Nat) : Int) .i64 (by omega) rfl h.cap
  have HR1 := Lib.hid hr1
  have HR2 := Lib.hid hr2
  have hgl : (rws icl L).length = n * 28 := by rw [rws_len _ (icl_lens hok), h.len]
  have HS1 := Lib.hid (fun W (hW : Below w.heap.size w W) => show Sees W W.heap.size (some ad1) (rws icl (L.take (rpos L x))) from by
    have := hs1 W W.heap.size _ (h.later hW).see
    rwa [rws_take L (rpos L x) (icl_lens hok)] at this)
  have HS2 := Lib.hid (fun W (hW : Below w.heap.size w W) => show Sees W W.heap.size (some ad2) (rws icl (L.drop (rpos L x))) from by
    have := hs2 W W.heap.size _ hgl (h.later hW).see
    rwa [rws_drop L (rpos L x) (icl_lens hok)] at this)
  have HL1 : Hid ((rws icl (L.take (rpos L x))).length = rpos L x * 28) := Lib.hid (by rw [rws_len _ (fun y hy => icl_lens hok y (List.mem_of_mem_take hy)), List.length_take]; congr 1; have := h.len; omega)
  have HL2 : Hid ((rws icl (L.drop (rpos L x))).length = (n - rpos L x) * 28) := Lib.hid (by rw [rws_len _ (fun y hy => icl_lens hok y (List.mem_of_mem_drop hy)), List.length_drop, h.len])
  have HFIN : Hid (∀ W A' c', Below w.heap.size w W → W.ownsRow w.heap.size 54 28 (.slice A' (n + 1) c') (n + 1) (rws icl (L.take (rpos L x)) ++ icl x ++ rws icl (L.drop (rpos L x))) → GivesI w (rput L x) (.returned (.slice A' (n + 1) c')) W) := Lib.hid (fun W A' c' hb hr => by
    have e : rws icl (L.take (rpos L x)) ++ icl x ++ rws icl (L.drop (rpos L x)) = rws icl (rput L x) := by unfold rput; rw [rws_append, rws_cons, List.append_assoc]
    have e2 : (rput L x).length = n + 1 := by
      have hln := h.len
      unfold rput
      simp only [List.length_append, List.length_cons, List.length_take, List.length_drop]
      omega
    rw [e] at hr
    refine ⟨A', c', by rw [e2], by rw [e2]; exact hr, fun _ => ?_, hb⟩
    rcases hr.2 with ⟨_, h0⟩ | ⟨g, cap, cur, hv, _⟩
    · omega
    · cases hv; rfl)
  have ones : Hid (∀ m : List Im, ∀ u ∈ rws icl m, u.oneCell' = true) := Lib.hid (fun m => rws_all (fun y _ => icl_one y))
  have HXL := Lib.hid (icl_len hx)
  have HX1 := Lib.hid (icl_one x)
  have HRK := Lib.hid (show rkey x = x.cd.1 from rfl)
  have B0 := Blk.new w (icl x) 54
  have hb0 := (Below.refl w.heap.size w).alloc (Nat.le_refl _) (.cells (icl x).toArray 54)
  obtain ⟨W0, hW0⟩ : ∃ W0, W0 = w.alloc (.cells (icl x).toArray 54) := ⟨_, rfl⟩
  have hs0 : W0.heap.size = w.heap.size + 1 := by rw [hW0]; simp
  rw [← hW0] at B0 hb0
  have hk1 : ∀ W, Blk W w.heap.size (icl x) → W.cell? ⟨w.heap.size, 1, none⟩ = some (.int .i64 (rkey x)) := fun W hW => hW.cell (j := 1) rfl
  have HK1 := Lib.hid hk1
  have HEX := Lib.hid (fun (W : World) (a : Act) (op : Oper) (y : Operand) (ho : op.op = .buildSlice 27 1 #[(0, y)]) (hy : a.eval y = .agg (icl x).toArray) => exec_is1 (a := a) (op := op) y ho x hx hy W)
  have HB0 := Lib.hid hb0
  have HBK := Lib.hid B0
  obtain ⟨X, hX⟩ : ∃ X, X = icl x := ⟨_, rfl⟩
  rw [← hX] at HFIN HXL HX1 HK1 HEX HBK hW0 ⊢
  have HXX := Lib.hid hX
  generalize hp : rpos L x = p at hpn HLOW HHIGH HR1 HR2 HS1 HS2 HL1 HL2 HFIN
  generalize hkx : rkey x = kx at HLOW HHIGH HK1
  have HCAP := Lib.hid h.cap
  clear h hok hx hs1 hs2 hr1 hr2 hgl B0 hb0 hk1 hX hp hkx HRK
  have hcap := HCAP.out
  subst hW0
  go_enter Try.func25, Try.ntmps25
  go_wp2_with fail
  go_loopw [5] (fun i wr => ∃ k : Nat, k ≤ p ∧ i = .int .i64 (k : Int) ∧ Hid (Blk wr w.heap.size X) ∧ Hid (Below w.heap.size w wr)) (fun i _ => p - (iOf i).toNat)
  case atStart => exact ⟨0, by omega, rfl, HBK, HB0⟩
  case round =>
    obtain ⟨k, hk, rfl, HBX, HB⟩ := hrel
    have HBW : Hid (∀ W, Le wr W → Below w.heap.size w W) := Lib.hid (fun W hl => HB.out.trans (hl.mono HB.out.size))
    have cx : ∀ kk : LW wr, kk.val.cell? ⟨w.heap.size, 1, none⟩ = some (.int .i64 kx) := fun kk => HK1.out _ (HBX.out.later kk.le)
    by_cases hlt : k < p
    · have d0 : decide ((k : Int) < (n : Int)) = true := decide_eq_true (by omega)
      have hkn : k < n := by omega
      have hkl : k < L.length := by rw [HN.out]; exact hkn
      have ca : ∀ kk : LW wr, kk.val.cell? ⟨b, o + k * 28 + 1, none⟩ = some (.int .i64 (rkey L[k])) := fun kk => HC.out _ (HBW.out _ kk.le) k hkl
      have dq : decide (rkey L[k] < kx) = true := decide_eq_true (HLOW.out k hkl hlt)
      generalize rkey L[k] = q at ca dq
      clear HLOW HHIGH HR1 HR2 HS1 HS2 HL1 HL2 HFIN HC ones HEX HK1
      go_wp2_with fail
      refine wp_region_steady [] 39 (by kernel_rfl) (by kernel_rfl) (by kernel_rfl) (by rfl) ?_
      iterate 16 (refine wpG_quiet (by rfl) (by rfl) (by rfl) (fun K hK => ?_); go_big_quiet_op; refine hK _ ?_; clear hK K)
      refine wpG_nil fun w1 hl _ => ?_
      have HB1 := Lib.hid (HBW.out w1 hl)
      have HBX1 := Lib.hid (HBX.out.later hl)
      clear HBW
      go_wp2_with fail
      go_roundw
      case rel => exact ⟨k + 1, by omega, by go_num, HBX1, HB1⟩
      case measure => simp [iOf]; omega
    · obtain rfl : k = p := by omega
      by_cases hkn : k < n
      · have d0 : decide ((k : Int) < (n : Int)) = true := decide_eq_true (by omega)
        have hkl : k < L.length := by rw [HN.out]; exact hkn
        have ca : ∀ kk : LW wr, kk.val.cell? ⟨b, o + k * 28 + 1, none⟩ = some (.int .i64 (rkey L[k])) := fun kk => HC.out _ (HBW.out _ kk.le) k hkl
        have dq : decide (rkey L[k] < kx) = false := decide_eq_false (by have := HHIGH.out k hkl rfl; omega)
        generalize rkey L[k] = q at ca dq
        clear HLOW HHIGH HC HK1
        go_wp2_with fail
        refine wp_region_steady [] 39 (by kernel_rfl) (by kernel_rfl) (by kernel_rfl) (by rfl) ?_
        iterate 16 (refine wpG_quiet (by rfl) (by rfl) (by rfl) (fun K hK => ?_); go_big_quiet_op; refine hK _ ?_; clear hK K)
        refine wpG_nil fun w1 hl _ => ?_
        have HB1 := Lib.hid (HBW.out w1 hl)
        have HBX1 := Lib.hid (HBX.out.later hl)
        clear HBW cx
        have hz1 : w.heap.size + 1 ≤ w1.heap.size := HBX1.out.lt
        have hb4 := (Below.refl w1.heap.size w1).alloc (Nat.le_refl _) (.cells #[] 54)
        have HB4 := Lib.hid (HB1.out.alloc HB1.out.size (.cells #[] 54))
        have HR4 := Lib.hid (row_lit w1 (w.heap.size + 1) 54 28 0 #[] hz1 (by simp [maxLen]) rfl)
        have HS4 := Lib.hid (HS1.out _ HB4.out)
        have HBX4 := Lib.hid (HBX1.out.later hb4)
        have HZ4 : Hid (w.heap.size + 1 ≤ (w1.alloc (.cells #[] 54)).heap.size) := Lib.hid (Nat.le_trans hz1 hb4.size)
        clear hb4 hz1
        go_wp2_with (first
          | (refine wpList_exec (by rfl) (.slice (some ad1) k c) (exec_slice_h 27 (.tmp 26) (.tmp 27) rfl 54 Try.underlying27 _ _ _ rfl rfl HR1.out) ?_
             simp only [Act.put, List.setIfInBounds_toArray, List.set_cons_zero, List.set_cons_succ])
          | (at_builtin
             refine wpList_appk _ rfl (.tmp 25) (.tmp 28) 27 rfl (w.heap.size + 1) 54 i1 _ 28 288 Try.underlying27 ji jz0 jz1 jz2 rfl (by decide) (.slice (some ⟨w1.heap.size, 0, none⟩) 0 0) 0 [] rfl HR4.out _ (some ad1) c (rws icl (L.take k)) k rfl HL1.out HS4.out (ones.out _) (by unfold maxLen; omega) (by omega) HZ4.out ?_
             intro A6 c6 w6 hr6 hb6 hg6 hat6
             simp only [Nat.zero_add, List.nil_append] at hr6 ⊢
             have HB6 := Lib.hid (HB4.out.trans (hb6.mono (by omega)))
             have HBX6 := Lib.hid (HBX4.out.below hb6 (by omega))
             have RG6 := HBX6.out.wholeC
             have hz6 := HBX6.out.lt
             have B7 := Blk.new w6 X 54
             have hb7 := (Below.refl w6.heap.size w6).alloc (Nat.le_refl _) (.cells X.toArray 54)
             have HEX6 := Lib.hid (HEX.out w6)
             obtain ⟨W7, hW7⟩ : ∃ W7, W7 = w6.alloc (.cells X.toArray 54) := ⟨_, rfl⟩
             rw [← hW7] at B7 hb7 HEX6
             have HR7 := Lib.hid (row_later hr6 hb7)
             have HB7 := Lib.hid (HB6.out.trans (hb7.mono HB6.out.size))
             have HZ7 : Hid (w.heap.size + 1 ≤ W7.heap.size) := Lib.hid (Nat.le_trans hz6 hb7.size)
             have HS7 : Hid (Sees W7 W7.heap.size (some ⟨w6.heap.size, 0, none⟩) X) := Lib.hid (fun _ => ⟨w6.heap.size, 0, rfl, B7.lt, fun j hj => by rw [Nat.zero_add]; exact B7.cell (List.getElem?_eq_getElem hj)⟩)
             clear hr6 hg6 hat6 hb6 hz6 B7 hb7 hW7)
          | (refine wpList_load_mid rfl 54 (.tmp 3) rfl w.heap.size 0 rfl X _ RG6 hu rfl (by rw [HXL.out]; exact info_item) ?_
             simp only [Act.put, List.setIfInBounds_toArray, List.set_cons_zero, List.set_cons_succ])
          | (refine wpList_execx (by rfl) (.slice (some ⟨w6.heap.size, 0, none⟩) 1 1) (HEX6.out _ _ (.tmp 31) rfl rfl) ?_
             simp only [Act.put, List.setIfInBounds_toArray, List.set_cons_zero, List.set_cons_succ])
          | (at_builtin
             refine wpList_appk _ rfl (.tmp 30) (.tmp 32) 27 rfl (w.heap.size + 1) 54 i1 _ 28 288 Try.underlying27 ji jz0 jz1 jz2 rfl (by decide) (.slice A6 k c6) k (rws icl (L.take k)) rfl HR7.out _ (some ⟨w6.heap.size, 0, none⟩) 1 X 1 rfl (by rw [HXL.out]) HS7.out HX1.out (by unfold maxLen; omega) (by omega) HZ7.out ?_
             intro A8 c8 w8 hr8 hb8 hg8 hat8
             have HR8 := Lib.hid hr8
             have HB8 := Lib.hid (HB7.out.trans (hb8.mono (by omega)))
             have HS8 := Lib.hid (HS2.out w8 HB8.out)
             have HZ8 : Hid (w.heap.size + 1 ≤ w8.heap.size) := Lib.hid (Nat.le_trans HZ7.out hb8.size)
             clear hr8 hg8 hat8 hb8)
          | (refine wpList_exec (by rfl) (.slice (some ad2) (n - k) (c - k)) (exec_slice_l 27 (.tmp 35) (.tmp 36) rfl 54 Try.underlying27 _ _ _ rfl rfl HR2.out) ?_
             simp only [Act.put, List.setIfInBounds_toArray, List.set_cons_zero, List.set_cons_succ])
          | (at_builtin
             refine wpList_appk _ rfl (.tmp 34) (.tmp 37) 27 rfl (w.heap.size + 1) 54 i1 _ 28 288 Try.underlying27 ji jz0 jz1 jz2 rfl (by decide) (.slice A8 (k + 1) c8) (k + 1) _ rfl HR8.out _ (some ad2) (c - k) (rws icl (L.drop k)) (n - k) rfl HL2.out HS8.out (ones.out _) (by unfold maxLen; omega) (by omega) HZ8.out ?_
             intro A9 c9 w9 hr9 hb9 hg9 hat9
             rw [show k + 1 + (n - k) = n + 1 by omega] at hr9 ⊢
             have F1 := Lib.hid (HFIN.out w9 A9 c9 (HB8.out.trans (hb9.mono (by omega))) (row_lower hr9 (by omega)))
             clear hr9 hg9 hat9 hb9)
          | fail)
        go_ret
        exact F1.out
      · have d0 : decide ((k : Int) < (n : Int)) = false := decide_eq_false (by omega)
        clear HLOW HHIGH HC HK1
        go_wp2_with fail
        refine wp_region_steady [] 39 (by kernel_rfl) (by kernel_rfl) (by kernel_rfl) (by rfl) ?_
        iterate 5 (refine wpG_quiet (by rfl) (by rfl) (by rfl) (fun K hK => ?_); go_big_quiet_op; refine hK _ ?_; clear hK K)
        iterate 10 (refine wpG_skip (by rfl) ?_; simp only [Act.put, List.setIfInBounds_toArray, List.set_cons_zero, List.set_cons_succ])
        refine wpG_quiet (by rfl) (by rfl) (by rfl) (fun K hK => ?_)
        go_big_quiet_op
        refine hK _ ?_
        clear hK K
        refine wpG_nil fun w1 hl _ => ?_
        have HB1 := Lib.hid (HBW.out w1 hl)
        have HBX1 := Lib.hid (HBX.out.later hl)
        clear HBW cx
        have hz1 : w.heap.size + 1 ≤ w1.heap.size := HBX1.out.lt
        have hb4 := (Below.refl w1.heap.size w1).alloc (Nat.le_refl _) (.cells #[] 54)
        have HB4 := Lib.hid (HB1.out.alloc HB1.out.size (.cells #[] 54))
        have HR4 := Lib.hid (row_lit w1 (w.heap.size + 1) 54 28 0 #[] hz1 (by simp [maxLen]) rfl)
        have HS4 := Lib.hid (HS1.out _ HB4.out)
        have HBX4 := Lib.hid (HBX1.out.later hb4)
        have HZ4 : Hid (w.heap.size + 1 ≤ (w1.alloc (.cells #[] 54)).heap.size) := Lib.hid (Nat.le_trans hz1 hb4.size)
        clear hb4 hz1
        go_wp2_with (first
          | (refine wpList_exec (by rfl) (.slice (some ad1) k c) (exec_slice_h 27 (.tmp 26) (.tmp 27) rfl 54 Try.underlying27 _ _ _ rfl rfl HR1.out) ?_
             simp only [Act.put, List.setIfInBounds_toArray, List.set_cons_zero, List.set_cons_succ])
          | (at_builtin
             refine wpList_appk _ rfl (.tmp 25) (.tmp 28) 27 rfl (w.heap.size + 1) 54 i1 _ 28 288 Try.underlying27 ji jz0 jz1 jz2 rfl (by decide) (.slice (some ⟨w1.heap.size, 0, none⟩) 0 0) 0 [] rfl HR4.out _ (some ad1) c (rws icl (L.take k)) k rfl HL1.out HS4.out (ones.out _) (by unfold maxLen; omega) (by omega) HZ4.out ?_
             intro A6 c6 w6 hr6 hb6 hg6 hat6
             simp only [Nat.zero_add, List.nil_append] at hr6 ⊢
             have HB6 := Lib.hid (HB4.out.trans (hb6.mono (by omega)))
             have HBX6 := Lib.hid (HBX4.out.below hb6 (by omega))
             have RG6 := HBX6.out.wholeC
             have hz6 := HBX6.out.lt
             have B7 := Blk.new w6 X 54
             have hb7 := (Below.refl w6.heap.size w6).alloc (Nat.le_refl _) (.cells X.toArray 54)
             have HEX6 := Lib.hid (HEX.out w6)
             obtain ⟨W7, hW7⟩ : ∃ W7, W7 = w6.alloc (.cells X.toArray 54) := ⟨_, rfl⟩
             rw [← hW7] at B7 hb7 HEX6
             have HR7 := Lib.hid (row_later hr6 hb7)
             have HB7 := Lib.hid (HB6.out.trans (hb7.mono HB6.out.size))
             have HZ7 : Hid (w.heap.size + 1 ≤ W7.heap.size) := Lib.hid (Nat.le_trans hz6 hb7.size)
             have HS7 : Hid (Sees W7 W7.heap.size (some ⟨w6.heap.size, 0, none⟩) X) := Lib.hid (fun _ => ⟨w6.heap.size, 0, rfl, B7.lt, fun j hj => by rw [Nat.zero_add]; exact B7.cell (List.getElem?_eq_getElem hj)⟩)
             clear hr6 hg6 hat6 hb6 hz6 B7 hb7 hW7)
          | (refine wpList_load_mid rfl 54 (.tmp 3) rfl w.heap.size 0 rfl X _ RG6 hu rfl (by rw [HXL.out]; exact info_item) ?_
             simp only [Act.put, List.setIfInBounds_toArray, List.set_cons_zero, List.set_cons_succ])
          | (refine wpList_execx (by rfl) (.slice (some ⟨w6.heap.size, 0, none⟩) 1 1) (HEX6.out _ _ (.tmp 31) rfl rfl) ?_
             simp only [Act.put, List.setIfInBounds_toArray, List.set_cons_zero, List.set_cons_succ])
          | (at_builtin
             refine wpList_appk _ rfl (.tmp 30) (.tmp 32) 27 rfl (w.heap.size + 1) 54 i1 _ 28 288 Try.underlying27 ji jz0 jz1 jz2 rfl (by decide) (.slice A6 k c6) k (rws icl (L.take k)) rfl HR7.out _ (some ⟨w6.heap.size, 0, none⟩) 1 X 1 rfl (by rw [HXL.out]) HS7.out HX1.out (by unfold maxLen; omega) (by omega) HZ7.out ?_
             intro A8 c8 w8 hr8 hb8 hg8 hat8
             have HR8 := Lib.hid hr8
             have HB8 := Lib.hid (HB7.out.trans (hb8.mono (by omega)))
             have HS8 := Lib.hid (HS2.out w8 HB8.out)
             have HZ8 : Hid (w.heap.size + 1 ≤ w8.heap.size) := Lib.hid (Nat.le_trans HZ7.out hb8.size)
             clear hr8 hg8 hat8 hb8)
          | (refine wpList_exec (by rfl) (.slice (some ad2) (n - k) (c - k)) (exec_slice_l 27 (.tmp 35) (.tmp 36) rfl 54 Try.underlying27 _ _ _ rfl rfl HR2.out) ?_
             simp only [Act.put, List.setIfInBounds_toArray, List.set_cons_zero, List.set_cons_succ])
          | (at_builtin
             refine wpList_appk _ rfl (.tmp 34) (.tmp 37) 27 rfl (w.heap.size + 1) 54 i1 _ 28 288 Try.underlying27 ji jz0 jz1 jz2 rfl (by decide) (.slice A8 (k + 1) c8) (k + 1) _ rfl HR8.out _ (some ad2) (c - k) (rws icl (L.drop k)) (n - k) rfl HL2.out HS8.out (ones.out _) (by unfold maxLen; omega) (by omega) HZ8.out ?_
             intro A9 c9 w9 hr9 hb9 hg9 hat9
             rw [show k + 1 + (n - k) = n + 1 by omega] at hr9 ⊢
             have F1 := Lib.hid (HFIN.out w9 A9 c9 (HB8.out.trans (hb9.mono (by omega))) (row_lower hr9 (by omega)))
             clear hr9 hg9 hat9 hb9)
          | fail)
        go_ret
        exact F1.out
end Go.Proofs.Ytcdmbidggikmfaa
