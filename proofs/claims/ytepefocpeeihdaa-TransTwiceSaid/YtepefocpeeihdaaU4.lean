/- The item of a turn. -/
import Derived.Test.YtepefocpeeihdaaU3
import Derived.Test.YtepefocpeeihdaaU2
import Derived.Test.YtepefocpeeihdaaU1
namespace Go.Proofs.Ytepefocpeeihdaa
set_option linter.unusedVariables false
set_option linter.unusedSimpArgs false
open Go Go.RowKit BitM

theorem zc28 : (icl ⟨0, zcd⟩).toArray = #[Value.int .i64 0, .int .i64 0, .int .i64 0, .int .u32 0, .int .i64 0, .int .i64 0, .string { data := #[] }, .int .i64 0, .int .i64 0, .string { data := #[] }, .int .i64 0, .int .i64 0, .string { data := #[] }, .int .i64 0, .int .i64 0, .string { data := #[] }, .int .i64 0, .int .i64 0, .string { data := #[] }, .int .i64 0, .int .i64 0, .string { data := #[] }, .int .i64 0, .int .i64 0, .string { data := #[] }, .int .i64 0, .int .i64 0, .string { data := #[] }] := rfl
set_option maxRecDepth 100000 in
set_option maxHeartbeats 3200000 in
theorem item_any (t : Tn) (w : World) (hc : okCd t.cd) :
    Calls Try.prog 31 #[.agg (tcl t).toArray] w fun e w' => e = .returned (.agg (icl (itm t)).toArray) ∧ Below w.heap.size w w' := by
  have hu := Try.underlying32
  have huc := Try.underlying30
  have hui := Try.underlying49
  have B0 := Blk.new w (tcl t) 32
  have B1 := Blk.new (w.alloc (.cells (tcl t).toArray 32)) (icl ⟨0, zcd⟩) 49
  have hw0 := ((Below.refl w.heap.size w).alloc (Nat.le_refl _) (.cells (tcl t).toArray 32)).alloc (by simp) (.cells (icl ⟨0, zcd⟩).toArray 49)
  replace B0 := B0.alloc (.cells (icl ⟨0, zcd⟩).toArray 49)
  have hs1 : (w.alloc (.cells (tcl t).toArray 32)).heap.size = w.heap.size + 1 := by simp
  rw [hs1] at B1
  obtain ⟨W, hW⟩ : ∃ W, W = (w.alloc (.cells (tcl t).toArray 32)).alloc (.cells (icl ⟨0, zcd⟩).toArray 49) := ⟨_, rfl⟩
  have c1 := B0.cell (j := 1) (v := .int .i64 t.id) rfl
  have c2 := B0.cell (j := 2) (v := .int .i64 t.old) rfl
  have c3 := B0.cell (j := 3) (v := .int .i64 t.nw) rfl
  have RG := B0.range 4 (ccl t.cd) (tcl_drop hc)
  rw [← hW] at B1 hw0
  have FIN : ∀ x : Im, okCd x.cd → Blk (W.setCells (w.heap.size + 1) 0 (icl x)) (w.heap.size + 1) (icl x) := fun x hx => B1.whole (ds := icl x) (by rw [icl_len hx, icl_len (show okCd zcd from rfl)])
  have FB : ∀ x : Im, Below w.heap.size w (W.setCells (w.heap.size + 1) 0 (icl x)) := fun x => below_sets (by omega) _ 0 hw0
  have TH := B1.there 0 28 (by rw [icl_len (show okCd zcd from rfl)]; omega)
  have HI := Lib.hid (fun (x : Im) (hx : okCd x.cd) => icl_len hx)
  have HONE := Lib.hid icl_one
  have HC := Lib.hid hc
  have HCL := Lib.hid (ccl_len hc)
  have HIT := Lib.hid (show itm t = itm t from rfl)
  obtain ⟨sq, id, old, nw, cd⟩ := t
  dsimp only at c1 c2 c3 RG HC HCL hc
  rw [hW] at TH
  rw [zc28] at TH c1 c2 c3 RG
  have HW := Lib.hid hW
  have HFIN := Lib.hid FIN
  have HFB := Lib.hid FB
  clear hW FIN FB B0 B1 hw0 hs1 hc
  obtain ⟨cs, hcs⟩ : ∃ cs, cs = tcl ⟨sq, id, old, nw, cd⟩ := ⟨_, rfl⟩
  rw [← hcs] at HW TH c1 c2 c3 RG ⊢
  have HCS := Lib.hid hcs
  clear hcs
  by_cases h0 : old = 0
  · have hi : itm ⟨sq, id, old, nw, cd⟩ = ⟨1, cd⟩ := by unfold itm; rw [if_pos h0]
    rw [hi]
    subst h0
    have F1 := HFIN.out ⟨1, cd⟩ HC.out
    have F2 := HFB.out ⟨1, cd⟩
    obtain ⟨R, hR⟩ : ∃ R, R = icl ⟨1, cd⟩ := ⟨_, rfl⟩
    have hRl : R.length = 28 := by rw [hR]; exact HI.out _ HC.out
    have hone : ∀ v ∈ R, v.oneCell' = true := by rw [hR]; exact HONE.out _
    rw [← hR] at F1 F2 ⊢
    have HR := Lib.hid hR
    have HRL := Lib.hid hRl
    have HO := Lib.hid hone
    clear hR hRl hone hi
    go_enter Try.func31, Try.ntmps31
    go_wp2_with (first
      | (refine wpList_load_mid rfl 30 (.tmp 7) rfl w.heap.size 4 rfl (ccl cd) _ RG huc rfl (by rw [HCL.out]; exact info_card) ?_)
      | (refine wpList_exec (by rfl) (.agg R.toArray) (by rw [HR.out]; exact exec_item (.const (.int .i64 1)) (.tmp 8) rfl 1 cd HC.out rfl rfl _) ?_)
      | (refine wpList_store_mid rfl 49 (.tmp 2) (.tmp 9) rfl (w.heap.size + 1) 0 R.toArray rfl rfl (by simpa [HRL.out] using TH) (by simpa [HRL.out] using info_item) (all_oneCell_toArray HO.out) ?_))
    rw [← zc28, ← HW.out]
    exact bodyPost_ret (v := .agg R.toArray) (results_blk (q := 2) rfl _ _ (w.heap.size + 1) R _ rfl F1 hui rfl (by rw [HRL.out]; exact info_item)) rfl ⟨rfl, F2⟩
  · by_cases h1 : nw = 0
    · have hi : itm ⟨sq, id, old, nw, cd⟩ = ⟨2, (id, 0, 0, zeros)⟩ := by unfold itm; rw [if_neg h0, if_pos h1]
      rw [hi]
      subst h1
      have F1 := HFIN.out ⟨2, (id, 0, 0, zeros)⟩ (show okCd (id, 0, 0, zeros) from rfl)
      have F2 := HFB.out ⟨2, (id, 0, 0, zeros)⟩
      obtain ⟨R, hR⟩ : ∃ R, R = icl ⟨2, (id, 0, 0, zeros)⟩ := ⟨_, rfl⟩
      have hRl : R.length = 28 := by rw [hR]; exact HI.out _ (show okCd (id, 0, 0, zeros) from rfl)
      have hone : ∀ v ∈ R, v.oneCell' = true := by rw [hR]; exact HONE.out _
      rw [← hR] at F1 F2 ⊢
      have HR := Lib.hid hR
      have HRL := Lib.hid hRl
      have HO := Lib.hid hone
      clear hR hRl hone hi
      go_enter Try.func31, Try.ntmps31
      go_wp2_with (first
        | (refine wpList_exec (by rfl) (.agg (ccl (id, 0, 0, zeros)).toArray) (exec_cid (.tmp 15) rfl id rfl _) ?_)
        | (refine wpList_exec (by rfl) (.agg R.toArray) (by rw [HR.out]; exact exec_item (.const (.int .i64 2)) (.tmp 16) rfl 2 (id, 0, 0, zeros) (show okCd (id, 0, 0, zeros) from rfl) rfl rfl _) ?_)
        | (refine wpList_store_mid rfl 49 (.tmp 2) (.tmp 17) rfl (w.heap.size + 1) 0 R.toArray rfl rfl (by simpa [HRL.out] using TH) (by simpa [HRL.out] using info_item) (all_oneCell_toArray HO.out) ?_))
      rw [← zc28, ← HW.out]
      exact bodyPost_ret (v := .agg R.toArray) (results_blk (q := 2) rfl _ _ (w.heap.size + 1) R _ rfl F1 hui rfl (by rw [HRL.out]; exact info_item)) rfl ⟨rfl, F2⟩
    · have hi : itm ⟨sq, id, old, nw, cd⟩ = ⟨3, cd⟩ := by unfold itm; rw [if_neg h0, if_neg h1]
      rw [hi]
      have F1 := HFIN.out ⟨3, cd⟩ HC.out
      have F2 := HFB.out ⟨3, cd⟩
      obtain ⟨R, hR⟩ : ∃ R, R = icl ⟨3, cd⟩ := ⟨_, rfl⟩
      have hRl : R.length = 28 := by rw [hR]; exact HI.out _ HC.out
      have hone : ∀ v ∈ R, v.oneCell' = true := by rw [hR]; exact HONE.out _
      rw [← hR] at F1 F2 ⊢
      have HR := Lib.hid hR
      have HRL := Lib.hid hRl
      have HO := Lib.hid hone
      clear hR hRl hone hi
      go_enter Try.func31, Try.ntmps31
      go_wp2_with (first
        | (refine wpList_load_mid rfl 30 (.tmp 18) rfl w.heap.size 4 rfl (ccl cd) _ RG huc rfl (by rw [HCL.out]; exact info_card) ?_)
        | (refine wpList_exec (by rfl) (.agg R.toArray) (by rw [HR.out]; exact exec_item (.const (.int .i64 3)) (.tmp 19) rfl 3 cd HC.out rfl rfl _) ?_)
        | (refine wpList_store_mid rfl 49 (.tmp 2) (.tmp 20) rfl (w.heap.size + 1) 0 R.toArray rfl rfl (by simpa [HRL.out] using TH) (by simpa [HRL.out] using info_item) (all_oneCell_toArray HO.out) ?_))
      rw [← zc28, ← HW.out]
      exact bodyPost_ret (v := .agg R.toArray) (results_blk (q := 2) rfl _ _ (w.heap.size + 1) R _ rfl F1 hui rfl (by rw [HRL.out]; exact info_item)) rfl ⟨rfl, F2⟩
end Go.Proofs.Ytepefocpeeihdaa

/- Items that are applied, by the document: mathematics. -/
namespace Go.Proofs.Ytepefocpeeihdaa
set_option linter.unusedVariables false
set_option linter.unusedSimpArgs false
open Go Go.RowKit

/-- Cards by rising numbers, as pairs. -/
def toKV (cs : List Cd) : KV Cd := cs.map fun c => (c.1, c)
abbrev CRise (cs : List Cd) : Prop := cs.Pairwise (fun c d => c.1 < d.1)
theorem toKV_rise {cs : List Cd} (h : CRise cs) : KRise (toKV cs) := by
  unfold toKV
  exact List.pairwise_map.2 h
theorem kput_end {α : Type} : ∀ {m : KV α} {x : Int} {v : α}, (∀ p ∈ m, p.1 < x) → kput m x v = m ++ [(x, v)]
  | [], x, v, _ => rfl
  | p :: m, x, v, h => by
    have h1 := h p List.mem_cons_self
    unfold kput
    rw [if_neg (by omega), if_neg (by omega), kput_end (fun q hq => h q (List.mem_cons_of_mem _ hq))]
    rfl
def cpos (cs : List Cd) (k : Int) : Nat := (cs.takeWhile (fun c => decide (c.1 < k))).length
def cthere (cs : List Cd) (k : Int) : Bool := match cs[cpos cs k]? with | some c => decide (c.1 = k) | none => false
/-- One item applied, by the document. -/
def rone (cs : List Cd) (x : Im) : Option (List Cd) :=
  if x.kd = 1 then (if cthere cs (rkey x) = true then none else some (cs.take (cpos cs (rkey x)) ++ x.cd :: cs.drop (cpos cs (rkey x))))
  else if cthere cs (rkey x) = true then (if x.kd = 3 then some (cs.take (cpos cs (rkey x)) ++ x.cd :: cs.drop (cpos cs (rkey x) + 1)) else some (cs.take (cpos cs (rkey x)) ++ cs.drop (cpos cs (rkey x) + 1)))
  else none
theorem cpos_cons (c : Cd) (cs : List Cd) (k : Int) : cpos (c :: cs) k = if c.1 < k then cpos cs k + 1 else 0 := by
  unfold cpos
  rw [List.takeWhile_cons]
  by_cases h : c.1 < k
  · rw [decide_eq_true h, if_pos h]; rfl
  · rw [decide_eq_false h, if_neg h]; rfl
theorem kget_low {α : Type} {m : KV α} {k : Int} (h : ∀ p ∈ m, k < p.1) : kget m k = none := by
  unfold kget
  rw [List.find?_eq_none.2 (fun p hp => by have := h p hp; simp; omega)]
  rfl
theorem kput_low {α : Type} {m : KV α} {k : Int} {v : α} (h : ∀ p ∈ m, k < p.1) : kput m k v = (k, v) :: m := by
  cases m with
  | nil => rfl
  | cons p m =>
    unfold kput
    rw [if_pos (h p List.mem_cons_self)]
theorem kdel_low {α : Type} {m : KV α} {k : Int} (h : ∀ p ∈ m, k < p.1) : kdel m k = m := by
  unfold kdel
  rw [List.filter_eq_self]
  intro p hp
  have := h p hp
  simp
  omega
theorem low_toKV {cs : List Cd} {c : Cd} (h : ∀ d ∈ cs, c.1 < d.1) : ∀ p ∈ toKV cs, c.1 < p.1 := fun p hp => by
  obtain ⟨d, hd, rfl⟩ := List.mem_map.1 hp
  exact h d hd
/-- What is there, at its place. -/
theorem cards_at (k : Int) (v : Cd) (hv : v.1 = k) : ∀ {cs : List Cd}, CRise cs →
    (kget (toKV cs) k).isSome = cthere cs k ∧
    (cthere cs k = false → toKV (cs.take (cpos cs k) ++ v :: cs.drop (cpos cs k)) = kput (toKV cs) k v) ∧
    (cthere cs k = true → toKV (cs.take (cpos cs k) ++ v :: cs.drop (cpos cs k + 1)) = kput (toKV cs) k v ∧ toKV (cs.take (cpos cs k) ++ cs.drop (cpos cs k + 1)) = kdel (toKV cs) k)
  | [], _ => by
    refine ⟨rfl, fun _ => ?_, (fun h => by cases h)⟩
    simp [toKV, cpos, kput, hv]
  | c :: cs, h => by
    obtain ⟨h1, h2⟩ := List.pairwise_cons.1 h
    obtain ⟨i1, i2, i3⟩ := cards_at k v hv h2
    have hk : toKV (c :: cs) = (c.1, c) :: toKV cs := rfl
    by_cases hlt : c.1 < k
    · have hp : cpos (c :: cs) k = cpos cs k + 1 := by rw [cpos_cons, if_pos hlt]
      have ht : cthere (c :: cs) k = cthere cs k := by unfold cthere; rw [hp, List.getElem?_cons_succ]
      have hg : kget (toKV (c :: cs)) k = kget (toKV cs) k := by
        unfold kget
        rw [hk, List.find?_cons, show decide (((c.1, c) : Int × Cd).1 = k) = false from decide_eq_false (by show ¬ c.1 = k; omega)]
      have hpt : kput (toKV (c :: cs)) k v = (c.1, c) :: kput (toKV cs) k v := by
        rw [hk]
        show (if k < c.1 then _ else if c.1 = k then _ else _) = _
        rw [if_neg (by omega), if_neg (by omega)]
      have hdl : kdel (toKV (c :: cs)) k = (c.1, c) :: kdel (toKV cs) k := by
        unfold kdel
        rw [hk, List.filter_cons, show decide (((c.1, c) : Int × Cd).1 = k) = false from decide_eq_false (by show ¬ c.1 = k; omega)]
        rfl
      rw [hg, ht, hp, hpt, hdl]
      refine ⟨i1, fun hf => ?_, fun hf => ⟨?_, ?_⟩⟩
      · rw [← i2 hf]; rfl
      · rw [← (i3 hf).1]; rfl
      · rw [← (i3 hf).2]; rfl
    · have hp : cpos (c :: cs) k = 0 := by rw [cpos_cons, if_neg hlt]
      have ht : cthere (c :: cs) k = decide (c.1 = k) := by unfold cthere; rw [hp]; rfl
      rw [ht, hp]
      by_cases he : c.1 = k
      · rw [decide_eq_true he]
        refine ⟨?_, (fun hf => by cases hf), fun _ => ⟨?_, ?_⟩⟩
        · unfold kget
          rw [hk, List.find?_cons, show decide (((c.1, c) : Int × Cd).1 = k) = true from decide_eq_true he]
          rfl
        · rw [hk]
          show toKV (v :: cs) = (if k < c.1 then _ else if c.1 = k then _ else _)
          rw [if_neg (by omega), if_pos he]
          show (v.1, v) :: toKV cs = _
          rw [hv]
        · show toKV cs = kdel (toKV (c :: cs)) k
          unfold kdel
          rw [hk, List.filter_cons, show decide (((c.1, c) : Int × Cd).1 = k) = true from decide_eq_true he]
          have := kdel_low (low_toKV h1)
          unfold kdel at this
          rw [he] at this
          simp only [Bool.not_true, Bool.false_eq_true, if_false]
          exact this.symm
      · rw [decide_eq_false he]
        have hlow : ∀ p ∈ toKV (c :: cs), k < p.1 := fun p hp => by
          rw [hk] at hp
          rcases List.mem_cons.1 hp with rfl | hp
          · show k < c.1
            omega
          · have := low_toKV h1 p hp
            omega
        refine ⟨by rw [kget_low hlow]; rfl, fun _ => ?_, (fun hf => by cases hf)⟩
        rw [kput_low hlow]
        show (v.1, v) :: toKV (c :: cs) = _
        rw [hv]
/-- The pairs stay those of cards. -/
theorem toKV_snd (cs : List Cd) : (toKV cs).map (·.2) = cs := by
  unfold toKV
  rw [List.map_map]
  exact List.map_id _
theorem crise_of {cs : List Cd} (h : KRise (toKV cs)) : CRise cs := by
  unfold toKV KRise at h
  exact (List.pairwise_map (R := fun p q : Int × Cd => p.1 < q.1) (f := fun c : Cd => (c.1, c))).1 h
/-- One item applied is the map's. -/
theorem rone_aput {cs : List Cd} {x : Im} (h : CRise cs) (hk : x.kd = 1 ∨ x.kd = 2 ∨ x.kd = 3) :
    match rone cs x with
    | none => aput (toKV cs) x = none
    | some ds => aput (toKV cs) x = some (toKV ds) ∧ CRise ds := by
  obtain ⟨i1, i2, i3⟩ := cards_at (rkey x) x.cd rfl h
  have hr := toKV_rise h
  unfold rone aput
  rw [i1]
  rcases hk with e | e | e
  · rw [if_pos e]
    cases ht : cthere cs (rkey x) with
    | true => simp [e]
    | false =>
      simp only [Bool.false_eq_true, if_false, e]
      have := i2 ht
      simp only [decide_true, show ((1 : Int) = 2) = False by decide, if_false]
      rw [← this]
      exact ⟨rfl, crise_of (by rw [this]; exact KRise.put hr _ _)⟩
  · rw [if_neg (by omega)]
    cases ht : cthere cs (rkey x) with
    | false => simp [e]
    | true =>
      have := (i3 ht).2
      simp only [if_true, if_neg (show ¬ x.kd = 3 by omega), if_pos e]
      rw [if_neg (by rw [decide_eq_false (by omega)]; simp), ← this]
      exact ⟨rfl, crise_of (by rw [this]; exact KRise.del hr _)⟩
  · rw [if_neg (by omega)]
    cases ht : cthere cs (rkey x) with
    | false => simp [e]
    | true =>
      have := (i3 ht).1
      simp only [if_true, if_pos e, if_neg (show ¬ x.kd = 2 by omega)]
      rw [if_neg (by rw [decide_eq_false (by omega)]; simp), ← this]
      exact ⟨rfl, crise_of (by rw [this]; exact KRise.put hr _ _)⟩
/-- Items applied, by the document. -/
def rapp : List Cd → List Im → Option (List Cd)
  | cs, [] => some cs
  | cs, x :: L => match rone cs x with | none => none | some ds => rapp ds L
theorem rapp_app : ∀ {L : List Im} {cs : List Cd}, CRise cs → (∀ x ∈ L, x.kd = 1 ∨ x.kd = 2 ∨ x.kd = 3) →
    match rapp cs L with
    | none => app (toKV cs) L = none
    | some ds => app (toKV cs) L = some (toKV ds) ∧ CRise ds
  | [], cs, h, _ => ⟨rfl, h⟩
  | x :: L, cs, h, hk => by
    have h1 := rone_aput h (hk x List.mem_cons_self)
    unfold rapp app
    cases hr : rone cs x with
    | none =>
      rw [hr] at h1
      simp only at h1 ⊢
      rw [h1]
    | some ds =>
      rw [hr] at h1
      simp only at h1 ⊢
      rw [h1.1]
      exact rapp_app h1.2 (fun y hy => hk y (List.mem_cons_of_mem _ hy))
end Go.Proofs.Ytepefocpeeihdaa

/- Turns that go on; items that may be: mathematics. -/
namespace Go.Proofs.Ytepefocpeeihdaa
set_option linter.unusedVariables false
set_option linter.unusedSimpArgs false
open Go Go.RowKit

def ckc (c : Cd) : Bool := ccheck c.1 c.2.1 c.2.2.1 c.2.2.2
/-- May a turn be? -/
def tmay (t : Tn) : Bool :=
  decide (1 ≤ t.sq ∧ t.sq ≤ 1099511627776 ∧ 1 ≤ t.id ∧ t.id < 1073741824 ∧ 0 ≤ t.old ∧ t.old ≤ 1099511627776 ∧ 0 ≤ t.nw ∧ t.nw ≤ 1099511627776 ∧ t.old ≠ t.nw) &&
  (if t.nw = 0 then decide (t.cd = zcd) else ckc t.cd && decide (t.cd.1 = t.id ∧ t.cd.2.1 = t.nw))
/-- Does a turn go on at its place? -/
def sqAt (l : List Tn) (k : Nat) : Int := match k with | 0 => 0 | k + 1 => ((l[k]?).map (·.sq)).getD 0
def goAt (l : List Tn) (k : Nat) : Bool := match l[k]? with
  | none => true
  | some t => tmay t && decide (k = 0 ∨ sqAt l k < t.sq) && (match lastT (l.take k) t.id with | some u => decide (u.nw = t.old) | none => true)
def goTo (l : List Tn) (k : Nat) : Bool := (List.range k).all (goAt l)
def goes (l : List Tn) : Bool := goTo l l.length
theorem goTo_succ (l : List Tn) (k : Nat) : goTo l (k + 1) = (goTo l k && goAt l k) := by
  unfold goTo
  rw [List.range_succ, List.all_append]
  simp
theorem goTo_no {l : List Tn} {j k : Nat} (h : j ≤ k) (hf : goTo l j = false) : goTo l k = false := by
  induction k with
  | zero =>
    have : j = 0 := by omega
    rwa [this] at hf
  | succ k ih =>
    rcases Nat.lt_or_ge k j with h1 | h1
    · have : j = k + 1 := by omega
      rwa [this] at hf
    · rw [goTo_succ, ih h1]; rfl
theorem goes_no {l : List Tn} {k : Nat} (hk : k < l.length) (hf : goAt l k = false) : goes l = false :=
  goTo_no (j := k + 1) hk (by rw [goTo_succ, hf, Bool.and_false])
theorem goes_at {l : List Tn} (h : goes l = true) {k : Nat} (hk : k < l.length) : goAt l k = true := by
  unfold goes goTo at h
  exact List.all_eq_true.1 h k (List.mem_range.2 hk)
theorem goAt_here {l : List Tn} {k : Nat} (hk : k < l.length) : goAt l k = (tmay l[k] && decide (k = 0 ∨ sqAt l k < l[k].sq) && (match lastT (l.take k) l[k].id with | some u => decide (u.nw = l[k].old) | none => true)) := by
  unfold goAt
  rw [List.getElem?_eq_getElem hk]
theorem goes_may {l : List Tn} (h : goes l = true) : ∀ t ∈ l, tmay t = true := fun t ht => by
  obtain ⟨k, hk, rfl⟩ := List.getElem_of_mem ht
  have := goes_at h hk
  rw [goAt_here hk, Bool.and_eq_true, Bool.and_eq_true] at this
  exact this.1.1
theorem tmay_okT2 {t : Tn} (h : tmay t = true) : okT2 t := fun hn => by
  unfold tmay at h
  rw [if_neg hn, Bool.and_eq_true, Bool.and_eq_true] at h
  exact of_decide_eq_true h.2.2
theorem goes_okT2 {l : List Tn} (h : goes l = true) : ∀ t ∈ l, okT2 t := fun t ht => tmay_okT2 (goes_may h t ht)
theorem goes_chain {l : List Tn} (h : goes l = true) : chainT l := fun a t b e u hu => by
  have hk : a.length < l.length := by rw [e]; simp
  have := goes_at h hk
  rw [goAt_here hk, Bool.and_eq_true] at this
  have ht : l[a.length] = t := by simp [e]
  have hta : l.take a.length = a := by simp [e]
  have h2 := this.2
  rw [ht, hta, hu] at h2
  exact of_decide_eq_true h2
/-- The New of the last turn of each card. -/
def lmap (l : List Tn) : KV Int := l.foldl (fun m t => kput m t.id t.nw) []
theorem lmap_append (l : List Tn) (t : Tn) : lmap (l ++ [t]) = kput (lmap l) t.id t.nw := by simp [lmap]
theorem lmap_rise (l : List Tn) : KRise (lmap l) := by
  have : ∀ (l : List Tn) (m : KV Int), KRise m → KRise (l.foldl (fun m t => kput m t.id t.nw) m) := by
    intro l
    induction l with
    | nil => intro m h; exact h
    | cons t l ih => intro m h; exact ih _ (KRise.put h _ _)
  exact this l [] List.Pairwise.nil
theorem lmap_get (l : List Tn) (i : Int) : kget (lmap l) i = (lastT l i).map (·.nw) := by
  have key : ∀ (n : Nat) (l : List Tn), l.length = n → kget (lmap l) i = (lastT l i).map (·.nw) := by
    intro n
    induction n with
    | zero =>
      intro l hl
      have : l = [] := List.length_eq_zero_iff.1 hl
      subst this
      rfl
    | succ n ih =>
      intro l hl
      obtain ⟨a, t, rfl⟩ : ∃ a t, l = a ++ [t] := by
        have hne : l ≠ [] := by intro e; rw [e] at hl; cases hl
        exact ⟨l.dropLast, l.getLast hne, (List.dropLast_concat_getLast hne).symm⟩
      have ha : a.length = n := by rw [List.length_append] at hl; simpa using hl
      rw [lmap_append, kget_put _ _ _ _ (lmap_rise a), ih a ha, lastT_append]
      by_cases h : i = t.id
      · rw [if_pos h, show lastT [t] i = some t by simp [lastT, h]]
        rfl
      · rw [if_neg h, show lastT [t] i = none by simp [lastT, show ¬ t.id = i from fun e => h e.symm]]
  exact key l.length l rfl
theorem take_snoc {l : List Tn} {k : Nat} (hk : k < l.length) : l.take (k + 1) = l.take k ++ [l[k]] := (List.take_append_getElem hk).symm
theorem lmap_take {l : List Tn} {k : Nat} (hk : k < l.length) : lmap (l.take (k + 1)) = kput (lmap (l.take k)) l[k].id l[k].nw := by rw [take_snoc hk, lmap_append]
theorem wmap_take {l : List Tn} {k : Nat} (hk : k < l.length) : wmap (l.take (k + 1)) = wstep (wmap (l.take k)) l[k] := by rw [take_snoc hk, wmap_append]
/-- A turn looked for from behind. -/
theorem last_back {l : List Tn} {k : Nat} (hk : k < l.length) (i : Int) : lastT (l.take (k + 1)) i = if l[k].id = i then some l[k] else lastT (l.take k) i := by
  rw [take_snoc hk, lastT_append]
  by_cases h : l[k].id = i
  · simp [lastT, h]
  · simp [lastT, h]
/-- May an item be? -/
def imay (x : Im) : Bool := if x.kd = 1 ∨ x.kd = 3 then ckc x.cd else if x.kd = 2 then decide (x.cd = (x.cd.1, 0, 0, zeros)) else false
def keyAt (L : List Im) (k : Nat) : Int := match k with | 0 => 0 | k + 1 => ((L[k]?).map rkey).getD 0
def iAt (L : List Im) (k : Nat) : Bool := match L[k]? with
  | none => true
  | some x => decide (1 ≤ rkey x ∧ rkey x < 1073741824 ∧ keyAt L k < rkey x) && imay x
def iTo (L : List Im) (k : Nat) : Bool := (List.range k).all (iAt L)
def igoes (L : List Im) : Bool := iTo L L.length
theorem iTo_succ (L : List Im) (k : Nat) : iTo L (k + 1) = (iTo L k && iAt L k) := by
  unfold iTo
  rw [List.range_succ, List.all_append]
  simp
theorem iTo_no {L : List Im} {j k : Nat} (h : j ≤ k) (hf : iTo L j = false) : iTo L k = false := by
  induction k with
  | zero =>
    have : j = 0 := by omega
    rwa [this] at hf
  | succ k ih =>
    rcases Nat.lt_or_ge k j with h1 | h1
    · have : j = k + 1 := by omega
      rwa [this] at hf
    · rw [iTo_succ, ih h1]; rfl
theorem igoes_no {L : List Im} {k : Nat} (hk : k < L.length) (hf : iAt L k = false) : igoes L = false :=
  iTo_no (j := k + 1) hk (by rw [iTo_succ, hf, Bool.and_false])
theorem igoes_at {L : List Im} (h : igoes L = true) {k : Nat} (hk : k < L.length) : iAt L k = true := by
  unfold igoes iTo at h
  exact List.all_eq_true.1 h k (List.mem_range.2 hk)
theorem iAt_here {L : List Im} {k : Nat} (hk : k < L.length) : iAt L k = (decide (1 ≤ rkey L[k] ∧ rkey L[k] < 1073741824 ∧ keyAt L k < rkey L[k]) && imay L[k]) := by
  unfold iAt
  rw [List.getElem?_eq_getElem hk]
theorem igoes_may {L : List Im} (h : igoes L = true) : ∀ x ∈ L, imay x = true := fun x hx => by
  obtain ⟨k, hk, rfl⟩ := List.getElem_of_mem hx
  have := igoes_at h hk
  rw [iAt_here hk, Bool.and_eq_true] at this
  exact this.2
theorem imay_kd {x : Im} (h : imay x = true) : x.kd = 1 ∨ x.kd = 2 ∨ x.kd = 3 := by
  unfold imay at h
  split at h
  · rename_i h1
    exact h1.elim .inl (fun e => .inr (.inr e))
  · split at h
    · rename_i h2; exact .inr (.inl h2)
    · cases h
/-- Items that rise, each of which may be, go on. -/
theorem igoes_of {L : List Im} (hr : IRise L) (h : ∀ x ∈ L, imay x = true ∧ 1 ≤ rkey x ∧ rkey x < 1073741824) : igoes L = true := by
  unfold igoes iTo
  rw [List.all_eq_true]
  intro k hk
  have hk := List.mem_range.1 hk
  rw [iAt_here hk]
  obtain ⟨h1, h2, h3⟩ := h _ (List.getElem_mem hk)
  rw [h1, Bool.and_true]
  refine decide_eq_true ⟨h2, h3, ?_⟩
  cases k with
  | zero => show (0 : Int) < _; omega
  | succ k =>
    show ((L[k]?).map rkey).getD 0 < _
    rw [List.getElem?_eq_getElem (by omega)]
    exact List.pairwise_iff_getElem.1 hr k (k + 1) (by omega) hk (by omega)
/-- A net's items may be. -/
theorem net_goes {l : List Tn} (h : goes l = true) : igoes (net l) = true := by
  have ok := fun t ht => okT2.ok (goes_okT2 h t ht)
  refine igoes_of (net_rise ok) (fun x hx => ?_)
  obtain ⟨i, u, h1, h2, h3⟩ := net_mem.1 hx
  obtain ⟨e1, e2⟩ := whole_ok ok h1
  have hk : rkey x = u.id := by rw [h3]; exact itm_key e2 h2
  obtain ⟨f, t, hf, hl, hu⟩ : ∃ f t, firstT l i = some f ∧ lastT l i = some t ∧ u = { t with old := f.old } := by
    unfold whole at h1
    cases hf : firstT l i with
    | none => rw [hf] at h1; cases h1
    | some f =>
      cases hl : lastT l i with
      | none => rw [hf, hl] at h1; cases h1
      | some t =>
        rw [hf, hl] at h1
        cases h1
        exact ⟨f, t, rfl, rfl, rfl⟩
  have hm := goes_may h t (last_id hl).2
  have m := hm
  unfold tmay at m
  rw [Bool.and_eq_true] at m
  obtain ⟨m1, m2⟩ := m
  have m1 := of_decide_eq_true m1
  have ei : u.id = t.id := by rw [hu]
  have en : u.nw = t.nw := by rw [hu]
  have ec : u.cd = t.cd := by rw [hu]
  rw [hk, ei]
  refine ⟨?_, m1.2.2.1, m1.2.2.2.1⟩
  rw [h3]
  have cc : t.nw ≠ 0 → ckc t.cd = true := fun hn => by
    rw [if_neg hn, Bool.and_eq_true] at m2
    exact m2.1
  unfold itm
  by_cases o : u.old = 0
  · rw [if_pos o]
    unfold imay
    rw [if_pos (.inl rfl), ec]
    exact cc (by rw [← en]; omega)
  · rw [if_neg o]
    by_cases n : u.nw = 0
    · rw [if_pos n]
      unfold imay
      rw [if_neg (show ¬ ((2 : Int) = 1 ∨ (2 : Int) = 3) by decide), if_pos rfl]
      exact decide_eq_true rfl
    · rw [if_neg n]
      unfold imay
      rw [if_pos (.inr rfl), ec]
      exact cc (by rw [← en]; exact n)
end Go.Proofs.Ytepefocpeeihdaa

/- Cards that turns fit: mathematics. -/
namespace Go.Proofs.Ytepefocpeeihdaa
set_option linter.unusedVariables false
set_option linter.unusedSimpArgs false
open Go Go.RowKit

theorem kget_app {α : Type} (a b : KV α) (i : Int) : kget (a ++ b) i = match kget a i with | some v => some v | none => kget b i := by
  unfold kget
  rw [List.find?_append]
  cases List.find? (fun p => decide (p.1 = i)) a <;> rfl
theorem kget_none {α : Type} {m : KV α} {i : Int} (h : ∀ p ∈ m, p.1 ≠ i) : kget m i = none := by
  unfold kget
  rw [List.find?_eq_none.2 (fun p hp => by have := h p hp; simp [this])]
  rfl
theorem kget_toKV {cs : List Cd} {i : Int} {c : Cd} (h : kget (toKV cs) i = some c) : c ∈ cs ∧ c.1 = i := by
  obtain ⟨d, hd, e⟩ := List.mem_map.1 (kget_mem h)
  cases e
  exact ⟨hd, rfl⟩
/-- The version of a card, looked for card by card. -/
theorem ver_take {cs : List Cd} (hr : CRise cs) {k : Nat} (hk : k < cs.length) (i : Int) :
    verOf (kget (toKV (cs.take (k + 1))) i) = if cs[k].1 = i then cs[k].2.1 else verOf (kget (toKV (cs.take k)) i) := by
  have e : toKV (cs.take (k + 1)) = toKV (cs.take k) ++ [(cs[k].1, cs[k])] := by
    rw [← List.take_append_getElem hk]
    unfold toKV
    rw [List.map_append]
    rfl
  rw [e, kget_app]
  by_cases h : cs[k].1 = i
  · rw [if_pos h, kget_none (m := toKV (cs.take k)) (fun p hp => by
      obtain ⟨d, hd, rfl⟩ := List.mem_map.1 hp
      obtain ⟨j, hj, rfl⟩ := List.getElem_of_mem hd
      rw [List.length_take] at hj
      have := List.pairwise_iff_getElem.1 hr j k (by omega) hk (by omega)
      rw [List.getElem_take]
      show cs[j].1 ≠ i
      omega)]
    simp [kget, h, verOf]
  · rw [if_neg h]
    cases kget (toKV (cs.take k)) i with
    | some c => rfl
    | none => simp [kget, h, verOf]
/-- A turn that cards fit, at its place. -/
structure FitAt (cs : List Cd) (l : List Tn) (i : Nat) (hi : i < l.length) : Prop where
  a : ∀ k (hk : k < i), l[k].id = l[i].id → l[k].nw = l[i].nw → l[k].cd = l[i].cd
  b : ∀ c ∈ cs, c.1 = l[i].id → c.2.1 = l[i].nw → c = l[i].cd
  c : (∀ k (hk : k < i), l[k].id ≠ l[i].id) → verOf (kget (toKV cs) l[i].id) = l[i].old
theorem last_none {l : List Tn} {i : Int} (h : lastT l i = none) : ∀ t ∈ l, t.id ≠ i := fun t ht e => by
  have h2 := (first_last l i).2 h
  unfold firstT at h2
  have := List.find?_eq_none.1 h2 t ht
  rw [decide_eq_true e] at this
  exact this rfl
theorem fits_of {cs : List Cd} {l : List Tn} (h : ∀ i (hi : i < l.length), FitAt cs l i hi) : FitsT (toKV cs) l where
  one := fun a t b e hn => by
    have hi : a.length < l.length := by rw [e]; simp
    have ht : l[a.length] = t := by simp [e]
    have := (h a.length hi).c (fun k hk => by
      rw [ht]
      have hk2 : l[k] = a[k] := by simp [e, List.getElem_append_left hk]
      rw [hk2]
      exact last_none hn _ (List.getElem_mem hk))
    rwa [ht] at this
  two := fun t ht u hu e1 e2 => by
    obtain ⟨i, hi, rfl⟩ := List.getElem_of_mem ht
    obtain ⟨j, hj, rfl⟩ := List.getElem_of_mem hu
    rcases Nat.lt_trichotomy i j with hij | hij | hij
    · exact (h j hj).a i hij e1 e2
    · subst hij; rfl
    · exact ((h i hi).a j hij e1.symm e2.symm).symm
  three := fun t ht c hc hv => by
    obtain ⟨i, hi, rfl⟩ := List.getElem_of_mem ht
    obtain ⟨h1, h2⟩ := kget_toKV hc
    exact (h i hi).b c h1 h2 hv
theorem shown_of {cs : List Cd} (h : ∀ c ∈ cs, ckc c = true) : shown (toKV cs) := fun i c hc hv => by
  have := h c (kget_toKV hc).1
  unfold ckc ccheck at this
  rw [Bool.and_eq_true] at this
  have := of_decide_eq_true this.1
  omega
theorem aput_rise {m m' : KV Cd} {x : Im} (hr : KRise m) (h : aput m x = some m') : KRise m' := by
  unfold aput at h
  split at h
  · cases h
  · cases h
    split
    · exact KRise.del hr _
    · exact KRise.put hr _ _
theorem app_rise : ∀ {L : List Im} {m m' : KV Cd}, KRise m → app m L = some m' → KRise m'
  | [], m, m', hr, h => by cases h; exact hr
  | x :: L, m, m', hr, h => by
    unfold app at h
    cases hx : aput m x with
    | none => rw [hx] at h; cases h
    | some n =>
      rw [hx] at h
      exact app_rise (aput_rise hr hx) h
theorem app_append : ∀ {L K : List Im} {m : KV Cd}, app m (L ++ K) = match app m L with | none => none | some m' => app m' K
  | [], K, m => rfl
  | x :: L, K, m => by
    show (match aput m x with | none => none | some m' => app m' (L ++ K)) = match (match aput m x with | none => none | some m' => app m' L) with | none => none | some m' => app m' K
    cases aput m x with
    | none => rfl
    | some n => exact app_append
/-- Pairs whose second parts are cards of that number are those cards. -/
abbrev KOwn (m : KV Cd) : Prop := ∀ p ∈ m, p.2.1 = p.1
theorem kown_toKV (cs : List Cd) : KOwn (toKV cs) := fun p hp => by
  obtain ⟨c, _, rfl⟩ := List.mem_map.1 hp
  rfl
theorem kown_is {m : KV Cd} (h : KOwn m) : toKV (m.map (·.2)) = m := by
  unfold toKV
  rw [List.map_map]
  conv => rhs; rw [← List.map_id m]
  refine List.map_congr_left (fun p hp => ?_)
  show (p.2.1, p.2) = p
  rw [h p hp]
theorem kown_put {m : KV Cd} (h : KOwn m) (c : Cd) : KOwn (kput m c.1 c) := fun p hp => by
  rcases kput_mem hp with rfl | hp
  · rfl
  · exact h p hp
theorem kown_del {m : KV Cd} (h : KOwn m) (i : Int) : KOwn (kdel m i) := fun p hp => h p (List.mem_filter.1 hp).1
theorem aput_own {m m' : KV Cd} {x : Im} (hr : KOwn m) (h : aput m x = some m') : KOwn m' := by
  unfold aput at h
  split at h
  · cases h
  · cases h
    split
    · exact kown_del hr _
    · exact kown_put hr _
theorem app_own : ∀ {L : List Im} {m m' : KV Cd}, KOwn m → app m L = some m' → KOwn m'
  | [], m, m', hr, h => by cases h; exact hr
  | x :: L, m, m', hr, h => by
    unfold app at h
    cases hx : aput m x with
    | none => rw [hx] at h; cases h
    | some n =>
      rw [hx] at h
      exact app_own (aput_own hr hx) h
/-- What the program's Apply gives: the cards of the map. -/
def apOut (cs : List Cd) (L : List Im) : Option (List Cd) := (app (toKV cs) L).map (fun m => m.map (·.2))
theorem apOut_rise {cs ds : List Cd} {L : List Im} (hr : CRise cs) (h : apOut cs L = some ds) : CRise ds ∧ app (toKV cs) L = some (toKV ds) := by
  unfold apOut at h
  cases ha : app (toKV cs) L with
  | none => rw [ha] at h; cases h
  | some m =>
    rw [ha] at h
    cases h
    have e := kown_is (app_own (kown_toKV cs) ha)
    refine ⟨crise_of ?_, by rw [e]⟩
    rw [e]
    exact app_rise (toKV_rise hr) ha
/-- It is the document's. -/
theorem apOut_rapp {cs : List Cd} {L : List Im} (hr : CRise cs) (hk : ∀ x ∈ L, x.kd = 1 ∨ x.kd = 2 ∨ x.kd = 3) : apOut cs L = rapp cs L := by
  have := rapp_app hr hk
  unfold apOut
  cases h : rapp cs L with
  | none =>
    rw [h] at this
    simp only at this
    rw [this]
    rfl
  | some ds =>
    rw [h] at this
    simp only at this
    rw [this.1]
    show some ((toKV ds).map (·.2)) = _
    rw [toKV_snd]
end Go.Proofs.Ytepefocpeeihdaa

/- What the laws of turns ask: mathematics. -/
namespace Go.Proofs.Ytepefocpeeihdaa
set_option linter.unusedVariables false
set_option linter.unusedSimpArgs false
open Go Go.RowKit

/-- A net, and one behind it, come to the net of all. -/
theorem twice_of {cs : List Cd} {l : List Tn} (hr : CRise cs) (hc : ∀ c ∈ cs, ckc c = true) (hg : goes l = true) (hf : ∀ i (hi : i < l.length), FitAt cs l i hi) (cut : Nat) :
    ∃ a b, apOut cs (net (l.take cut)) = some a ∧ apOut a (net (l.drop cut)) = some b ∧ apOut cs (net l) = some b := by
  have e : l.take cut ++ l.drop cut = l := List.take_append_drop cut l
  obtain ⟨ma, mb, h1, h2, h3⟩ := net_twice (a := l.take cut) (b := l.drop cut) (toKV_rise hr) (shown_of hc) (by rw [e]; exact goes_okT2 hg) (by rw [e]; exact goes_chain hg) (by rw [e]; exact fits_of hf)
  rw [e] at h3
  have oa := app_own (kown_toKV cs) h1
  refine ⟨ma.map (·.2), mb.map (·.2), by unfold apOut; rw [h1]; rfl, ?_, by unfold apOut; rw [h3]; rfl⟩
  unfold apOut
  rw [kown_is oa, h2]
  rfl
end Go.Proofs.Ytepefocpeeihdaa

/- May a turn be: the document. -/
namespace Go.Proofs.Ytepefocpeeihdaa
set_option linter.unusedVariables false
set_option linter.unusedSimpArgs false
open Go Go.RowKit BitM

theorem exec_c0 {a : Act} {op : Oper} (ho : op.op = .build 30 #[]) (w : World) : (execOp a.eval op).run Try.prog w = .ok (.value (.agg (ccl zcd).toArray)) w := by
  unfold execOp
  simp only [ho, List.map_toArray, List.map_nil, Sem.run_bind, run_c0, Result.andThen_ok, Sem.run_pure]
theorem eq_ccl (c d : Cd) (hc : okCd c) (hd : okCd d) (w : World) : (Op.equalIn 10000 30 (.agg (ccl c).toArray) (.agg (ccl d).toArray)).run Try.prog w = .ok (decide (c = d)) w := by
  obtain ⟨a1, a2, a3, a4⟩ := c
  obtain ⟨b1, b2, b3, b4⟩ := d
  have := eq_card 9996 a1 a2 a3 b1 b2 b3 a4 b4 hc hd w
  rw [show decide ((a1, a2, a3, a4) = (b1, b2, b3, b4)) = decide (a1 = b1 ∧ a2 = b2 ∧ a3 = b3 ∧ a4 = b4) from by simp only [Prod.mk.injEq]]
  exact this
set_option maxRecDepth 100000 in
set_option maxHeartbeats 3200000 in
theorem rturn_any (t : Tn) (w : World) (hc : okCd t.cd) :
    Calls Try.prog 27 #[.agg (tcl t).toArray] w fun e w' => e = .returned (.bool (tmay t)) ∧ Below w.heap.size w w' := by
  have hu := Try.underlying32
  have huc := Try.underlying30
  have B0 := Blk.new w (tcl t) 32
  have c0 := B0.cell (j := 0) (v := .int .i64 t.sq) rfl
  have c1 := B0.cell (j := 1) (v := .int .i64 t.id) rfl
  have c2 := B0.cell (j := 2) (v := .int .i64 t.old) rfl
  have c3 := B0.cell (j := 3) (v := .int .i64 t.nw) rfl
  have RG := B0.range 4 (ccl t.cd) (tcl_drop hc)
  have HB := Lib.hid ((Below.refl w.heap.size w).alloc (Nat.le_refl _) (.cells (tcl t).toArray 32))
  have HC := Lib.hid hc
  have HCL := Lib.hid (ccl_len hc)
  have HBK := Lib.hid B0
  have HCK := Lib.hid (fun wx : World => rccheck_any t.cd.1 t.cd.2.1 t.cd.2.2.1 t.cd.2.2.2 wx hc)
  have HE := Lib.hid (fun wx : World => eq_ccl t.cd zcd hc rfl wx)
  obtain ⟨R, hR⟩ : ∃ R, R = tmay t := ⟨_, rfl⟩
  rw [← hR]
  obtain ⟨sq, id, old, nw, cd⟩ := t
  dsimp only at c0 c1 c2 c3 RG HC HCL HE HCK hc
  have HR : Hid (R = (decide (1 ≤ sq ∧ sq ≤ 1099511627776 ∧ 1 ≤ id ∧ id < 1073741824 ∧ 0 ≤ old ∧ old ≤ 1099511627776 ∧ 0 ≤ nw ∧ nw ≤ 1099511627776 ∧ old ≠ nw) && (if nw = 0 then decide (cd = zcd) else ckc cd && decide (cd.1 = id ∧ cd.2.1 = nw)))) := Lib.hid hR
  have HT := Lib.hid (show tcl ⟨sq, id, old, nw, cd⟩ = tcl ⟨sq, id, old, nw, cd⟩ from rfl)
  clear hR B0 hc
  obtain ⟨cs, hcs⟩ : ∃ cs, cs = tcl ⟨sq, id, old, nw, cd⟩ := ⟨_, rfl⟩
  rw [← hcs] at HBK HB c0 c1 c2 c3 RG ⊢
  have HCS := Lib.hid hcs
  clear hcs HT
  by_cases a1 : sq < 1
  · have d1 : decide (sq < 1) = true := by simpa using a1
    have HRR : Hid (R = false) := Lib.hid (by rw [HR.out, decide_eq_false (by omega), Bool.false_and])
    go_enter Try.func27, Try.ntmps27
    go_wp2_with fail
    go_ret
    exact ⟨by rw [HRR.out]; rfl, HB.out⟩
  · have d1 : decide (sq < 1) = false := by simpa using a1
    by_cases a2 : 1099511627776 < sq
    · have d2 : decide (1099511627776 < sq) = true := by simpa using a2
      have HRR : Hid (R = false) := Lib.hid (by rw [HR.out, decide_eq_false (by omega), Bool.false_and])
      go_enter Try.func27, Try.ntmps27
      go_wp2_with fail
      go_ret
      exact ⟨by rw [HRR.out]; rfl, HB.out⟩
    · have d2 : decide (1099511627776 < sq) = false := by simpa using a2
      by_cases a3 : id < 1
      · have d3 : decide (id < 1) = true := by simpa using a3
        have HRR : Hid (R = false) := Lib.hid (by rw [HR.out, decide_eq_false (by omega), Bool.false_and])
        go_enter Try.func27, Try.ntmps27
        go_wp2_with fail
        go_ret
        exact ⟨by rw [HRR.out]; rfl, HB.out⟩
      · have d3 : decide (id < 1) = false := by simpa using a3
        by_cases a4 : 1073741824 ≤ id
        · have d4 : decide (1073741824 ≤ id) = true := by simpa using a4
          have HRR : Hid (R = false) := Lib.hid (by rw [HR.out, decide_eq_false (by omega), Bool.false_and])
          go_enter Try.func27, Try.ntmps27
          go_wp2_with fail
          go_ret
          exact ⟨by rw [HRR.out]; rfl, HB.out⟩
        · have d4 : decide (1073741824 ≤ id) = false := by simpa using a4
          by_cases a5 : old < 0
          · have d5 : decide (old < 0) = true := by simpa using a5
            have HRR : Hid (R = false) := Lib.hid (by rw [HR.out, decide_eq_false (by omega), Bool.false_and])
            go_enter Try.func27, Try.ntmps27
            go_wp2_with fail
            go_ret
            exact ⟨by rw [HRR.out]; rfl, HB.out⟩
          · have d5 : decide (old < 0) = false := by simpa using a5
            by_cases a6 : 1099511627776 < old
            · have d6 : decide (1099511627776 < old) = true := by simpa using a6
              have HRR : Hid (R = false) := Lib.hid (by rw [HR.out, decide_eq_false (by omega), Bool.false_and])
              go_enter Try.func27, Try.ntmps27
              go_wp2_with fail
              go_ret
              exact ⟨by rw [HRR.out]; rfl, HB.out⟩
            · have d6 : decide (1099511627776 < old) = false := by simpa using a6
              by_cases a7 : nw < 0
              · have d7 : decide (nw < 0) = true := by simpa using a7
                have HRR : Hid (R = false) := Lib.hid (by rw [HR.out, decide_eq_false (by omega), Bool.false_and])
                go_enter Try.func27, Try.ntmps27
                go_wp2_with fail
                go_ret
                exact ⟨by rw [HRR.out]; rfl, HB.out⟩
              · have d7 : decide (nw < 0) = false := by simpa using a7
                by_cases a8 : 1099511627776 < nw
                · have d8 : decide (1099511627776 < nw) = true := by simpa using a8
                  have HRR : Hid (R = false) := Lib.hid (by rw [HR.out, decide_eq_false (by omega), Bool.false_and])
                  go_enter Try.func27, Try.ntmps27
                  go_wp2_with fail
                  go_ret
                  exact ⟨by rw [HRR.out]; rfl, HB.out⟩
                · have d8 : decide (1099511627776 < nw) = false := by simpa using a8
                  by_cases a9 : old = nw
                  · have d9 : decide (old = nw) = true := by simpa using a9
                    have HRR : Hid (R = false) := Lib.hid (by rw [HR.out, decide_eq_false (by omega), Bool.false_and])
                    go_enter Try.func27, Try.ntmps27
                    go_wp2_with fail
                    go_ret
                    exact ⟨by rw [HRR.out]; rfl, HB.out⟩
                  · have d9 : decide (old = nw) = false := by simpa using a9
                    have HR2 : Hid (R = (if nw = 0 then decide (cd = zcd) else ckc cd && decide (cd.1 = id ∧ cd.2.1 = nw))) := Lib.hid (by rw [HR.out, decide_eq_true (by omega), Bool.true_and])
                    by_cases h0 : nw = 0
                    · have e0 : decide (nw = 0) = true := by simpa using h0
                      have HRR : Hid (R = decide (cd = zcd)) := Lib.hid (by rw [HR2.out, if_pos h0])
                      go_enter Try.func27, Try.ntmps27
                      go_wp2_with (first
                        | (refine wpList_load_mid rfl 30 (.tmp 51) rfl w.heap.size 4 rfl (ccl cd) _ RG huc rfl (by rw [HCL.out]; exact info_card) ?_)
                        | (refine wpList_exec (by rfl) (.agg (ccl zcd).toArray) (exec_c0 rfl _) ?_)
                        | (refine wpList_exec (by rfl) (.bool (decide (cd = zcd))) (exec_eql 30 _ (.tmp 52) (.tmp 53) rfl _ _ rfl rfl guard_card _ (HE.out _)) ?_))
                      go_ret
                      exact ⟨by rw [HRR.out]; rfl, HB.out⟩
                    · have e0 : decide (nw = 0) = false := by simpa using h0
                      have HRR : Hid (R = (ckc cd && decide (cd.1 = id ∧ cd.2.1 = nw))) := Lib.hid (by rw [HR2.out, if_neg h0])
                      go_enter Try.func27, Try.ntmps27
                      go_wp2_with (first
                        | (refine wpList_load_mid rfl 30 (.tmp 55) rfl w.heap.size 4 rfl (ccl cd) _ RG huc rfl (by rw [HCL.out]; exact info_card) ?_))
                      refine (HCK.out _).mono ?_
                      rintro e w1 ⟨rfl, hb⟩
                      have hbw := HB.out.trans (hb.mono HB.out.size)
                      have B1 := HBK.out.later hb
                      rw [HCS.out] at B1
                      have f1 := B1.cell (j := 1) (v := .int .i64 id) rfl
                      have f3 := B1.cell (j := 3) (v := .int .i64 nw) rfl
                      have f4 := B1.cell (j := 4) (v := .int .i64 cd.1) rfl
                      have f5 := B1.cell (j := 5) (v := .int .i64 cd.2.1) rfl
                      clear B1 hb c0 c1 c2 c3 RG
                      have HCC : Hid (ckc cd = ccheck cd.1 cd.2.1 cd.2.2.1 cd.2.2.2) := Lib.hid rfl
                      generalize hq : ccheck cd.1 cd.2.1 cd.2.2.1 cd.2.2.2 = q at HCC ⊢
                      clear hq
                      have HQ := Lib.hid (show (ckc cd && decide (cd.1 = id ∧ cd.2.1 = nw)) = (q && (decide (cd.1 = id) && decide (cd.2.1 = nw))) from by rw [HCC.out, Bool.decide_and])
                      cases q with
                      | false =>
                        go_wp2_with fail
                        go_ret
                        exact ⟨by rw [HRR.out, HQ.out]; rfl, hbw⟩
                      | true =>
                        by_cases g1 : cd.1 = id
                        · have y1 : decide (cd.1 = id) = true := by simpa using g1
                          by_cases g2 : cd.2.1 = nw
                          · have y2 : decide (cd.2.1 = nw) = true := by simpa using g2
                            go_wp2_with fail
                            go_ret
                            exact ⟨by rw [HRR.out, HQ.out, y1, y2]; first | rfl | (show Ending.returned (Value.bool (decide (cd.2.1 = nw))) = _; rw [y2]; rfl), hbw⟩
                          · have y2 : decide (cd.2.1 = nw) = false := by simpa using g2
                            go_wp2_with fail
                            go_ret
                            exact ⟨by rw [HRR.out, HQ.out, y1, y2]; first | rfl | (show Ending.returned (Value.bool (decide (cd.2.1 = nw))) = _; rw [y2]; rfl), hbw⟩
                        · have y1 : decide (cd.1 = id) = false := by simpa using g1
                          go_wp2_with fail
                          go_ret
                          exact ⟨by rw [HRR.out, HQ.out, y1]; rfl, hbw⟩
end Go.Proofs.Ytepefocpeeihdaa

/- The turn of a card: the document's Of, of one that is not shown. -/
namespace Go.Proofs.Ytepefocpeeihdaa
set_option linter.unusedVariables false
set_option linter.unusedSimpArgs false
open Go Go.RowKit BitM

/-- What Decode gives. -/

theorem zc31 : (tcl ⟨0, 0, 0, 0, zcd⟩).toArray = #[Value.int .i64 0, .int .i64 0, .int .i64 0, .int .i64 0, .int .i64 0, .int .i64 0, .int .u32 0, .int .i64 0, .int .i64 0, .string { data := #[] }, .int .i64 0, .int .i64 0, .string { data := #[] }, .int .i64 0, .int .i64 0, .string { data := #[] }, .int .i64 0, .int .i64 0, .string { data := #[] }, .int .i64 0, .int .i64 0, .string { data := #[] }, .int .i64 0, .int .i64 0, .string { data := #[] }, .int .i64 0, .int .i64 0, .string { data := #[] }, .int .i64 0, .int .i64 0, .string { data := #[] }] := rfl
end Go.Proofs.Ytepefocpeeihdaa

/- The turn of a card: the document's Of, of one that is shown. -/
namespace Go.Proofs.Ytepefocpeeihdaa
set_option linter.unusedVariables false
set_option linter.unusedSimpArgs false
open Go Go.RowKit BitM

end Go.Proofs.Ytepefocpeeihdaa

/- The turn of a card: the document's Of. -/
namespace Go.Proofs.Ytepefocpeeihdaa
set_option linter.unusedVariables false
set_option linter.unusedSimpArgs false
open Go Go.RowKit BitM

end Go.Proofs.Ytepefocpeeihdaa

/- May a number be: the program. -/
namespace Go.Proofs.Ytepefocpeeihdaa
set_option linter.unusedVariables false
set_option linter.unusedSimpArgs false
open Go Go.RowKit BitM

end Go.Proofs.Ytepefocpeeihdaa

/- May a turn be: the program. -/
namespace Go.Proofs.Ytepefocpeeihdaa
set_option linter.unusedVariables false
set_option linter.unusedSimpArgs false
open Go Go.RowKit BitM

set_option maxRecDepth 100000 in
theorem trnum (n : Int) (b : Bool) (hb : decide (0 ≤ n ∧ n ≤ 1099511627776) = b) (w : World) : Calls Try.prog 38 #[.int .i64 n] w fun e w' => e = .returned (.bool b) ∧ w = w' := by
  have HQ := Lib.hid (show b = (decide (0 ≤ n) && decide (n ≤ 1099511627776)) from by rw [← hb, Bool.decide_and])
  clear hb
  by_cases a1 : 0 ≤ n
  · have d1 : decide (0 ≤ n) = true := by simpa using a1
    by_cases a2 : n ≤ 1099511627776
    · have d2 : decide (n ≤ 1099511627776) = true := by simpa using a2
      go_enter Try.func38, Try.ntmps38
      go_wp2_with fail
      go_ret
      exact ⟨by rw [HQ.out, d1, d2]; rfl, rfl⟩
    · have d2 : decide (n ≤ 1099511627776) = false := by simpa using a2
      go_enter Try.func38, Try.ntmps38
      go_wp2_with fail
      go_ret
      exact ⟨by rw [HQ.out, d1, d2]; rfl, rfl⟩
  · have d1 : decide (0 ≤ n) = false := by simpa using a1
    go_enter Try.func38, Try.ntmps38
    go_wp2_with fail
    go_ret
    exact ⟨by rw [HQ.out, d1]; rfl, rfl⟩
theorem tr_idcheck (x : Int) (b : Bool) (hb : decide (1 ≤ x ∧ x < 1073741824) = b) (w : World) : Calls Try.prog 39 #[.slice (some ⟨w.heap.size, 0, none⟩) 1 1] (w.alloc (.cells #[.int .i64 x] 3)) fun e w' => e = .returned (.bool b) ∧ (w.alloc (.cells #[.int .i64 x] 3)) = w' := by
  have h := check_any (some ⟨w.heap.size, 0, none⟩) 1 1 [x] (w.alloc (.cells #[.int .i64 x] 3)) rfl (by have := sees_one w x; simpa using this) (by omega)
  rw [show decide (IdsM.Rise [x]) = b from by rw [← hb]; exact decide_eq_decide.2 ⟨fun h => h.2 x (by simp), fun h => ⟨List.pairwise_singleton _ _, fun y hy => by rw [List.mem_singleton] at hy; subst hy; exact h⟩⟩] at h
  exact h
set_option maxRecDepth 100000 in
set_option maxHeartbeats 6400000 in
theorem tmay_any (t : Tn) (w : World) (hc : okCd t.cd) :
    Calls Try.prog 26 #[.agg (tcl t).toArray] w fun e w' => e = .returned (.bool (tmay t)) ∧ Below w.heap.size w w' := by
  have hu := Try.underlying32
  have huc := Try.underlying30
  have B0 := Blk.new w (tcl t) 32
  have c0 := B0.cell (j := 0) (v := .int .i64 t.sq) rfl
  have c1 := B0.cell (j := 1) (v := .int .i64 t.id) rfl
  have hb1 := (Below.refl w.heap.size w).alloc (Nat.le_refl _) (.cells (tcl t).toArray 32)
  obtain ⟨W1, hW1⟩ : ∃ W1, W1 = w.alloc (.cells (tcl t).toArray 32) := ⟨_, rfl⟩
  have hs1 : W1.heap.size = w.heap.size + 1 := by rw [hW1]; simp
  rw [← hW1] at B0 c0 c1 hb1
  obtain ⟨W2, hW2⟩ : ∃ W2, W2 = W1.alloc (.cells #[.int .i64 t.id] 3) := ⟨_, rfl⟩
  have B2 : Blk W2 w.heap.size (tcl t) := by rw [hW2]; exact B0.alloc _
  have hb2 : Below w.heap.size w W2 := by rw [hW2]; exact hb1.alloc hb1.size _
  have e2 := B2.cell (j := 2) (v := .int .i64 t.old) rfl
  have e3 := B2.cell (j := 3) (v := .int .i64 t.nw) rfl
  have RG := B2.range 4 (ccl t.cd) (tcl_drop hc)
  have HB1 := Lib.hid hb1
  have HB2 := Lib.hid hb2
  have HC := Lib.hid hc
  have HCL := Lib.hid (ccl_len hc)
  have HBK := Lib.hid B2
  have HCK := Lib.hid (fun wx : World => ccheck_any t.cd.1 t.cd.2.1 t.cd.2.2.1 t.cd.2.2.2 wx hc)
  have HE := Lib.hid (fun wx : World => eq_ccl t.cd zcd hc rfl wx)
  have HID : Hid (∀ b, decide (1 ≤ t.id ∧ t.id < 1073741824) = b → Calls Try.prog 39 #[.slice (some ⟨w.heap.size + 1, 0, none⟩) 1 1] W2 fun e w' => e = .returned (.bool b) ∧ W2 = w') := Lib.hid (fun b hb => by
    have := tr_idcheck t.id b hb W1
    rw [hs1, ← hW2] at this
    exact this)
  obtain ⟨R, hR⟩ : ∃ R, R = tmay t := ⟨_, rfl⟩
  rw [← hR]
  obtain ⟨sq, id, old, nw, cd⟩ := t
  dsimp only at c0 c1 e2 e3 RG HC HCL HE HCK HID hc hW2
  have HR : Hid (R = (decide (1 ≤ sq ∧ sq ≤ 1099511627776 ∧ 1 ≤ id ∧ id < 1073741824 ∧ 0 ≤ old ∧ old ≤ 1099511627776 ∧ 0 ≤ nw ∧ nw ≤ 1099511627776 ∧ old ≠ nw) && (if nw = 0 then decide (cd = zcd) else ckc cd && decide (cd.1 = id ∧ cd.2.1 = nw)))) := Lib.hid hR
  clear hR B0 B2 hc hb1 hb2
  obtain ⟨cs, hcs⟩ : ∃ cs, cs = tcl ⟨sq, id, old, nw, cd⟩ := ⟨_, rfl⟩
  rw [← hcs] at HBK hW1 ⊢
  have HCS := Lib.hid hcs
  have HW1 := Lib.hid hW1
  have HW2 := Lib.hid hW2
  have HS1 := Lib.hid hs1
  clear hcs hs1 hW2
  subst hW1
  by_cases a1 : sq < 1
  · have d1 : decide (sq < 1) = true := by simpa using a1
    have HRR : Hid (R = false) := Lib.hid (by rw [HR.out, decide_eq_false (by omega), Bool.false_and])
    go_enter Try.func26, Try.ntmps26
    go_wp2_with fail
    go_ret
    exact ⟨by rw [HRR.out]; rfl, HB1.out⟩
  · have d1 : decide (sq < 1) = false := by simpa using a1
    by_cases xN1 : 1099511627776 < sq
    · have HN1 := Lib.hid (trnum sq false (by first | exact decide_eq_true (by omega) | exact decide_eq_false (by omega)))
      have HRR : Hid (R = false) := Lib.hid (by rw [HR.out, decide_eq_false (by omega), Bool.false_and])
      go_enter Try.func26, Try.ntmps26
      go_wp2_with fail
      refine (HN1.out _).mono ?_
      rintro e wx ⟨rfl, rfl⟩
      go_wp2_with fail
      go_ret
      exact ⟨by rw [HRR.out]; rfl, HB1.out⟩
    · have HN1 := Lib.hid (trnum sq true (by first | exact decide_eq_true (by omega) | exact decide_eq_false (by omega)))
      by_cases xIDb : id < 1 ∨ 1073741824 ≤ id
      · have HIDb := Lib.hid (HID.out false (by first | exact decide_eq_true (by omega) | exact decide_eq_false (by omega)))
        have HRR : Hid (R = false) := Lib.hid (by rw [HR.out, decide_eq_false (by omega), Bool.false_and])
        go_enter Try.func26, Try.ntmps26
        go_wp2_with fail
        refine (HN1.out _).mono ?_
        rintro e wx ⟨rfl, rfl⟩
        go_wp2_with fail
        rw [← HW2.out]
        refine HIDb.out.mono ?_
        rintro e wx ⟨rfl, rfl⟩
        go_wp2_with fail
        go_ret
        exact ⟨by rw [HRR.out]; rfl, HB2.out⟩
      · have HIDb := Lib.hid (HID.out true (by first | exact decide_eq_true (by omega) | exact decide_eq_false (by omega)))
        by_cases xN2 : old < 0 ∨ 1099511627776 < old
        · have HN2 := Lib.hid (trnum old false (by first | exact decide_eq_true (by omega) | exact decide_eq_false (by omega)))
          have HRR : Hid (R = false) := Lib.hid (by rw [HR.out, decide_eq_false (by omega), Bool.false_and])
          go_enter Try.func26, Try.ntmps26
          go_wp2_with fail
          refine (HN1.out _).mono ?_
          rintro e wx ⟨rfl, rfl⟩
          go_wp2_with fail
          rw [← HW2.out]
          refine HIDb.out.mono ?_
          rintro e wx ⟨rfl, rfl⟩
          go_wp2_with fail
          refine (HN2.out _).mono ?_
          rintro e wx ⟨rfl, rfl⟩
          go_wp2_with fail
          go_ret
          exact ⟨by rw [HRR.out]; rfl, HB2.out⟩
        · have HN2 := Lib.hid (trnum old true (by first | exact decide_eq_true (by omega) | exact decide_eq_false (by omega)))
          by_cases xN3 : nw < 0 ∨ 1099511627776 < nw
          · have HN3 := Lib.hid (trnum nw false (by first | exact decide_eq_true (by omega) | exact decide_eq_false (by omega)))
            have HRR : Hid (R = false) := Lib.hid (by rw [HR.out, decide_eq_false (by omega), Bool.false_and])
            go_enter Try.func26, Try.ntmps26
            go_wp2_with fail
            refine (HN1.out _).mono ?_
            rintro e wx ⟨rfl, rfl⟩
            go_wp2_with fail
            rw [← HW2.out]
            refine HIDb.out.mono ?_
            rintro e wx ⟨rfl, rfl⟩
            go_wp2_with fail
            refine (HN2.out _).mono ?_
            rintro e wx ⟨rfl, rfl⟩
            go_wp2_with fail
            refine (HN3.out _).mono ?_
            rintro e wx ⟨rfl, rfl⟩
            go_wp2_with fail
            go_ret
            exact ⟨by rw [HRR.out]; rfl, HB2.out⟩
          · have HN3 := Lib.hid (trnum nw true (by first | exact decide_eq_true (by omega) | exact decide_eq_false (by omega)))
            by_cases a9 : old = nw
            · have d9 : decide (old = nw) = true := by simpa using a9
              have d9' : (old == nw) = true := by simpa using a9
              have HRR : Hid (R = false) := Lib.hid (by rw [HR.out, decide_eq_false (by omega), Bool.false_and])
              clear a9
              go_enter Try.func26, Try.ntmps26
              go_wp2_with fail
              refine (HN1.out _).mono ?_
              rintro e wx ⟨rfl, rfl⟩
              go_wp2_with fail
              rw [← HW2.out]
              refine HIDb.out.mono ?_
              rintro e wx ⟨rfl, rfl⟩
              go_wp2_with fail
              refine (HN2.out _).mono ?_
              rintro e wx ⟨rfl, rfl⟩
              go_wp2_with fail
              refine (HN3.out _).mono ?_
              rintro e wx ⟨rfl, rfl⟩
              go_wp2_with fail
              go_ret
              exact ⟨by rw [HRR.out]; rfl, HB2.out⟩
            · have d9 : decide (old = nw) = false := by simpa using a9
              have d9' : (old == nw) = false := by simpa using a9
              have HR2 : Hid (R = (if nw = 0 then decide (cd = zcd) else ckc cd && decide (cd.1 = id ∧ cd.2.1 = nw))) := Lib.hid (by rw [HR.out, decide_eq_true (by omega), Bool.true_and])
              by_cases h0 : nw = 0
              · have e0 : decide (nw = 0) = true := by simpa using h0
                have e0' : (nw == 0) = true := by simpa using h0
                have HRR : Hid (R = decide (cd = zcd)) := Lib.hid (by rw [HR2.out, if_pos h0])
                clear h0
                go_enter Try.func26, Try.ntmps26
                go_wp2_with fail
                refine (HN1.out _).mono ?_
                rintro e wx ⟨rfl, rfl⟩
                go_wp2_with fail
                rw [← HW2.out]
                refine HIDb.out.mono ?_
                rintro e wx ⟨rfl, rfl⟩
                go_wp2_with fail
                refine (HN2.out _).mono ?_
                rintro e wx ⟨rfl, rfl⟩
                go_wp2_with fail
                refine (HN3.out _).mono ?_
                rintro e wx ⟨rfl, rfl⟩
                go_wp2_with (first
                  | (refine wpList_load_mid rfl 30 (.tmp 41) rfl w.heap.size 4 rfl (ccl cd) _ RG huc rfl (by rw [HCL.out]; exact info_card) ?_)
                  | (refine wpList_exec (by rfl) (.agg (ccl zcd).toArray) (exec_c0 rfl _) ?_)
                  | (refine wpList_exec (by rfl) (.bool (decide (cd = zcd))) (exec_eql 30 _ (.tmp 42) (.tmp 43) rfl _ _ rfl rfl guard_card _ (HE.out _)) ?_))
                go_ret
                exact ⟨by rw [HRR.out]; rfl, HB2.out⟩
              · have e0 : decide (nw = 0) = false := by simpa using h0
                have e0' : (nw == 0) = false := by simpa using h0
                have HRR : Hid (R = (ckc cd && decide (cd.1 = id ∧ cd.2.1 = nw))) := Lib.hid (by rw [HR2.out, if_neg h0])
                go_enter Try.func26, Try.ntmps26
                go_wp2_with fail
                refine (HN1.out _).mono ?_
                rintro e wx ⟨rfl, rfl⟩
                go_wp2_with fail
                rw [← HW2.out]
                refine HIDb.out.mono ?_
                rintro e wx ⟨rfl, rfl⟩
                go_wp2_with fail
                refine (HN2.out _).mono ?_
                rintro e wx ⟨rfl, rfl⟩
                go_wp2_with fail
                refine (HN3.out _).mono ?_
                rintro e wx ⟨rfl, rfl⟩
                go_wp2_with (first
                  | (refine wpList_load_mid rfl 30 (.tmp 45) rfl w.heap.size 4 rfl (ccl cd) _ RG huc rfl (by rw [HCL.out]; exact info_card) ?_))
                refine (HCK.out _).mono ?_
                rintro e w1 ⟨rfl, hb⟩
                have hbw := HB2.out.trans (hb.mono HB2.out.size)
                have B1 := HBK.out.later hb
                rw [HCS.out] at B1
                have f1 := B1.cell (j := 1) (v := .int .i64 id) rfl
                have f3 := B1.cell (j := 3) (v := .int .i64 nw) rfl
                have f4 := B1.cell (j := 4) (v := .int .i64 cd.1) rfl
                have f5 := B1.cell (j := 5) (v := .int .i64 cd.2.1) rfl
                clear B1 hb c0 c1 e2 e3 RG
                have HCC : Hid (ckc cd = ccheck cd.1 cd.2.1 cd.2.2.1 cd.2.2.2) := Lib.hid rfl
                generalize hq : ccheck cd.1 cd.2.1 cd.2.2.1 cd.2.2.2 = q at HCC ⊢
                clear hq
                have HQ := Lib.hid (show (ckc cd && decide (cd.1 = id ∧ cd.2.1 = nw)) = (q && (decide (cd.1 = id) && decide (cd.2.1 = nw))) from by rw [HCC.out, Bool.decide_and])
                cases q with
                | false =>
                  go_wp2_with fail
                  go_ret
                  exact ⟨by rw [HRR.out, HQ.out]; rfl, hbw⟩
                | true =>
                  by_cases g1 : cd.1 = id
                  · have y1 : decide (cd.1 = id) = true := by simpa using g1
                    by_cases g2 : cd.2.1 = nw
                    · have y2 : decide (cd.2.1 = nw) = true := by simpa using g2
                      go_wp2_with fail
                      go_ret
                      exact ⟨by rw [HRR.out, HQ.out, y1, y2]; first | rfl | (show Ending.returned (Value.bool (decide (cd.2.1 = nw))) = _; rw [y2]; rfl), hbw⟩
                    · have y2 : decide (cd.2.1 = nw) = false := by simpa using g2
                      go_wp2_with fail
                      go_ret
                      exact ⟨by rw [HRR.out, HQ.out, y1, y2]; first | rfl | (show Ending.returned (Value.bool (decide (cd.2.1 = nw))) = _; rw [y2]; rfl), hbw⟩
                  · have y1 : decide (cd.1 = id) = false := by simpa using g1
                    go_wp2_with fail
                    go_ret
                    exact ⟨by rw [HRR.out, HQ.out, y1]; rfl, hbw⟩
end Go.Proofs.Ytepefocpeeihdaa

/- Cuts of rows of structs, s[:m] and s[k:], for regions that draw their order. -/
namespace Go.Proofs.Ytepefocpeeihdaa
set_option linter.unusedVariables false
set_option linter.unusedSimpArgs false
open Go Go.RowKit

theorem exec_slice_h {P : Program} {a : Act} {op : Oper} {w : World} (t : TypeId) (x y : Operand) (ho : op.op = .slice t x none (some y) none) (e : TypeId) (ht : P.underlying t = some (.slice e)) (v u r : Value) (hx : a.eval x = v) (hy : a.eval y = u)
    (hr : ∀ wx, (Instr.slice t v none (some u) none).run P wx = .ok r wx) : (execOp a.eval op).run P w = .ok (.value r) w := by
  have he : P.elem t = e := by simp [Program.elem, ht]
  have ht' : P.underlying t = some (.slice (P.elem t)) := by rw [he]; exact ht
  unfold execOp
  simp only [ho, hx, hy, Option.map_some, Option.map_none, Sem.run_bind, run_sliceAt_slice _ _ _ _ _ _ ht', hr, Result.andThen_ok, Sem.run_pure]
theorem exec_slice_l {P : Program} {a : Act} {op : Oper} {w : World} (t : TypeId) (x y : Operand) (ho : op.op = .slice t x (some y) none none) (e : TypeId) (ht : P.underlying t = some (.slice e)) (v u r : Value) (hx : a.eval x = v) (hy : a.eval y = u)
    (hr : ∀ wx, (Instr.slice t v (some u) none none).run P wx = .ok r wx) : (execOp a.eval op).run P w = .ok (.value r) w := by
  have he : P.elem t = e := by simp [Program.elem, ht]
  have ht' : P.underlying t = some (.slice (P.elem t)) := by rw [he]; exact ht
  unfold execOp
  simp only [ho, hx, hy, Option.map_some, Option.map_none, Sem.run_bind, run_sliceAt_slice _ _ _ _ _ _ ht', hr, Result.andThen_ok, Sem.run_pure]

/-- s[:m] -/
theorem rowcut_h {P : Program} (t e : TypeId) (i : TypeInfo) (size : Nat) (ht : P.underlying t = some (.slice e)) (hi : P.info? e = some i) (hsz : i.size = size)
    (ad : Addr) (n m c : Nat) (H : Int) (kh : IntKind) (hm : m ≤ n) (hH : H = (m : Int)) (hc : n ≤ c) :
    ∃ ad2, (∀ wx, (Instr.slice t (.slice (some ad) n c) none (some (.int kh H)) none).run P wx = .ok (.slice (some ad2) m c) wx) ∧
      ∀ (wx : World) (B : Nat) (xs : List Value), Sees wx B (some ad) xs → Sees wx B (some ad2) (xs.take (m * size)) := by
  refine ⟨if c = 0 then ad else ad.add 0, fun wx => ?_, fun wx B xs h => ?_⟩
  · have he : P.elem t = e := by simp [Program.elem, ht]
    have ht' : P.underlying t = some (.slice (P.elem t)) := by rw [he]; exact ht
    rw [run_slice_h wx t (some ad) n c ht' kh H (by omega) (by omega), he]
    simp [sizeOf, typeInfo, hi, hsz, sliced, hH]
    split <;> rfl
  · have e2 : (if c = 0 then ad else ad.add 0) = ad := by split <;> simp [Addr.add]
    rw [e2]
    exact h.take _
/-- s[k:] -/
theorem rowcut_l {P : Program} (t e : TypeId) (i : TypeInfo) (size : Nat) (ht : P.underlying t = some (.slice e)) (hi : P.info? e = some i) (hsz : i.size = size)
    (ad : Addr) (n m k c : Nat) (K : Int) (kl : IntKind) (hn : n = m + k) (hK : K = (k : Int)) (hc : n ≤ c) :
    ∃ ad2, (∀ wx, (Instr.slice t (.slice (some ad) n c) (some (.int kl K)) none none).run P wx = .ok (.slice (some ad2) m (c - k)) wx) ∧
      ∀ (wx : World) (B : Nat) (xs : List Value), xs.length = n * size → Sees wx B (some ad) xs → Sees wx B (some ad2) (xs.drop (k * size)) := by
  refine ⟨if c = k then ad else ad.add (k * size), fun wx => ?_, fun wx B xs hx h => ?_⟩
  · have he : P.elem t = e := by simp [Program.elem, ht]
    have ht' : P.underlying t = some (.slice (P.elem t)) := by rw [he]; exact ht
    rw [run_slice_l wx t (some ad) n c ht' kl K (by omega) (by omega), he]
    have hm : n - k = m := by omega
    simp [sizeOf, typeInfo, hi, hsz, sliced, hK, hm]
    split <;> rfl
  · intro hpos
    rw [List.length_drop, hx, hn, Nat.add_mul] at hpos
    have hm : 0 < m := by
      rcases Nat.eq_zero_or_pos m with h0 | h0
      · rw [h0, Nat.zero_mul] at hpos; omega
      · exact h0
    obtain ⟨b, o, e, hb, hcell⟩ := h (by rw [hx, hn, Nat.add_mul]; omega)
    cases e
    rw [if_neg (by omega)]
    refine ⟨b, o + k * size, by simp [Addr.add], hb, fun j hj => ?_⟩
    rw [List.length_drop] at hj
    rw [Nat.add_assoc, hcell (k * size + j) (by omega)]
    simp
end Go.Proofs.Ytepefocpeeihdaa

/- Turns by the document: is a card's turn the first one; an item at its place. -/
namespace Go.Proofs.Ytepefocpeeihdaa
set_option linter.unusedVariables false
set_option linter.unusedSimpArgs false
open Go Go.RowKit BitM

theorem tcl_lens {l : List Tn} (h : ∀ t ∈ l, okCd t.cd) : ∀ x ∈ l, (tcl x).length = 31 := fun x hx => tcl_len (h x hx)
theorem icl_lens {l : List Im} (h : ∀ t ∈ l, okCd t.cd) : ∀ x ∈ l, (icl x).length = 28 := fun x hx => icl_len (h x hx)
def iOf : Value → Int | .int _ q => q | _ => 0
/-- The cells of a turn that lies in a slice. -/
theorem turn_cells {w : World} {A : Option Addr} {n c : Nat} {l : List Tn} (h : SeesR tcl w A n c l) (hok : ∀ t ∈ l, okCd t.cd) (hl : 0 < l.length) :
    ∃ b o, A = some ⟨b, o, none⟩ ∧ b < w.heap.size ∧ ∀ W, Below w.heap.size w W → ∀ k (hk : k < l.length), W.cell? ⟨b, o + k * 31, none⟩ = some (.int .i64 l[k].sq) ∧ W.cell? ⟨b, o + k * 31 + 1, none⟩ = some (.int .i64 l[k].id) ∧
      W.cell? ⟨b, o + k * 31 + 2, none⟩ = some (.int .i64 l[k].old) ∧ W.cell? ⟨b, o + k * 31 + 3, none⟩ = some (.int .i64 l[k].nw) ∧ W.rangeAt b (o + k * 31) (tcl l[k]) ∧ W.rangeAt b (o + k * 31 + 4) (ccl l[k].cd) := by
  obtain ⟨b, o, e, hb, hr⟩ := h.gets (tcl_lens hok) (by omega) hl
  refine ⟨b, o, e, hb, fun W hW k hk => ?_⟩
  have r := hr W hW k hk
  refine ⟨r 0 _ rfl, r 1 _ rfl, r 2 _ rfl, r 3 _ rfl, r, fun j v hj => ?_⟩
  have := r (4 + j) v (by
    unfold tcl
    rw [List.getElem?_append_right (by simp)]
    simpa using hj)
  rw [show o + k * 31 + 4 + j = o + k * 31 + (4 + j) by omega]
  exact this
theorem item_cells {w : World} {A : Option Addr} {n c : Nat} {l : List Im} (h : SeesR icl w A n c l) (hok : ∀ t ∈ l, okCd t.cd) (hl : 0 < l.length) :
    ∃ b o, A = some ⟨b, o, none⟩ ∧ b < w.heap.size ∧ ∀ W, Below w.heap.size w W → ∀ k (hk : k < l.length), W.cell? ⟨b, o + k * 28, none⟩ = some (.int .i64 l[k].kd) ∧ W.cell? ⟨b, o + k * 28 + 1, none⟩ = some (.int .i64 l[k].cd.1) ∧
      W.rangeAt b (o + k * 28) (icl l[k]) ∧ W.rangeAt b (o + k * 28 + 1) (ccl l[k].cd) := by
  obtain ⟨b, o, e, hb, hr⟩ := h.gets (icl_lens hok) (by omega) hl
  refine ⟨b, o, e, hb, fun W hW k hk => ?_⟩
  have r := hr W hW k hk
  refine ⟨r 0 _ rfl, r 1 _ rfl, r, fun j v hj => ?_⟩
  have := r (1 + j) v (by
    unfold icl
    rw [List.getElem?_append_right (by simp)]
    simpa using hj)
  rw [show o + k * 28 + 1 + j = o + k * 28 + (1 + j) by omega]
  exact this
theorem info_itm : ∃ i0, Try.prog.info? 49 = some i0 ∧ i0.zero = some (.agg (icl ⟨0, zcd⟩).toArray) ∧ i0.size = 28 ∧ i0.bytes = 288 := by
  have h : (Try.prog.info? 49).map (fun i => (i.zero, i.size, i.bytes)) = some (some (.agg (icl ⟨0, zcd⟩).toArray), 28, 288) := by kernel_rfl
  cases hi : Try.prog.info? 49 with
  | none => rw [hi] at h; cases h
  | some i0 =>
    rw [hi] at h
    simp only [Option.map_some, Option.some.injEq, Prod.mk.injEq] at h
    exact ⟨i0, rfl, h.1, h.2.1, h.2.2⟩
theorem run_is1 (x : Im) (hx : okCd x.cd) (w : World) : (Instr.buildSlice 36 1 #[(0, .agg (icl x).toArray)]).run Try.prog w = .ok (.slice (some ⟨w.heap.size, 0, none⟩) 1 1) (w.alloc (.cells (icl x).toArray 49)) := by
  obtain ⟨k, i, v, lb, f⟩ := x
  obtain ⟨⟨_, _, _⟩, ⟨_, _, _⟩, ⟨_, _, _⟩, ⟨_, _, _⟩, ⟨_, _, _⟩, ⟨_, _, _⟩, ⟨_, _, _⟩, ⟨_, _, _⟩, e⟩ := tr_eight (show f.length = 8 from hx)
  subst e
  kernel_rfl
theorem exec_is1 {a : Act} {op : Oper} (y : Operand) (ho : op.op = .buildSlice 36 1 #[(0, y)]) (x : Im) (hx : okCd x.cd) (hy : a.eval y = .agg (icl x).toArray) (w : World) :
    (execOp a.eval op).run Try.prog w = .ok (.value (.slice (some ⟨w.heap.size, 0, none⟩) 1 1)) (w.alloc (.cells (icl x).toArray 49)) := by
  unfold execOp
  simp only [ho, List.map_toArray, List.map_cons, List.map_nil, hy, Sem.run_bind, run_is1 x hx, Result.andThen_ok, Sem.run_pure]
end Go.Proofs.Ytepefocpeeihdaa
