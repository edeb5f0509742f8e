/- What a mask shows of labels and fields: what each returns. -/
import Derived.Test.YtjlpccdlpgkgoaaCardA
import Derived.Test.YtjlpccdlpgkgoaaBitN
import Derived.Deep.RegionHeld3
namespace Go.Proofs.Ytjlpccdlpgkgoaa
set_option linter.unusedVariables false
open Go Go.RowKit BitM

theorem grown_setCell (w : World) (b j : Nat) (v : Value) : w.grownBy (w.setCell ⟨b, j, none⟩ v) (some b) :=
  ⟨rfl, rfl, rfl, by simp [World.setCell], fun k _ hk => Below.heap_setCell _ _ _ k (fun e => hk (by rw [e]))⟩
theorem grown_sets (b : Nat) : ∀ (vs : List Value) (o : Nat) (w : World), w.grownBy (w.setCells b o vs) (some b)
  | [], _, w => World.grownBy.refl w _
  | v :: vs, o, w => (grown_setCell w b o v).trans (grown_sets b vs (o + 1) _)
theorem Own.setsOther {w : World} {base : Nat} {e : TypeId} {v : Value} {xs : List Value} (h : Own w base e v xs) {b : Nat} (hb : b < base) (vs : List Value) (o : Nat) : Own (w.setCells b o vs) base e v xs := by
  refine h.kept (grown_sets b vs o w) ?_
  have hl := h.lt
  rcases hv : v.ownBlock with _ | g
  · exact .inl rfl
  · refine .inr fun e' => ?_
    have := hl g hv
    cases e'
    omega

section
variable {P : Program} {ops : List Oper} {Q : Exit → Act → World → Prop}
/-- In a drawn region: number i is taken first, for it yields v in whatever world. -/
theorem wpAny_yield (i : Nat) {oi : Oper} (v : Value) {fuel : Nat} {listed : Array Bool} {a : Act} {w : World} (hi : ops[i]? = some oi)
    (hs : Region.noSelect ops.toArray = true) (hf : Region.free .any ops.toArray listed i = true) (hr : (Region.ready .any ops.toArray listed).contains i = true)
    (hQ : ∀ c a w, Q (.panic c) (a.put oi.dst v) w → Q (.panic c) a w) (hw : Region.wanted oi (yielded ops.toArray a.tmps) = true) (hy : ∀ w, (execOp a.eval oi).run P w = .ok (.value v) w)
    (h : wpAny P .any ops.toArray Q fuel (listed.setIfInBounds i true) (a.put oi.dst v) w) : wpAny P .any ops.toArray Q (fuel + 1) listed a w :=
  wpAny_take (by rw [List.getElem?_toArray]; exact hi) hs hf hr hQ (.inl ⟨hw, hy⟩) h
/-- In a drawn region: number i alone may come up. -/
theorem wpAny_one (i : Nat) {oi : Oper} {fuel : Nat} {listed : Array Bool} {a : Act} {w : World} (hi : ops[i]? = some oi) (hr : Region.ready .any ops.toArray listed = [i]) (hw : Region.wanted oi (yielded ops.toArray a.tmps) = true)
    (h : oi.wp P a w (wpAny P .any ops.toArray Q fuel (listed.setIfInBounds i true)) Q) : wpAny P .any ops.toArray Q (fuel + 1) listed a w :=
  wpAny_all hr (by simp) (fun j hj => by
    obtain rfl : j = i := by simpa using hj
    unfold wpOp
    simp only [List.getElem?_toArray, hi, hw, if_true]
    exact .inl h)
end

/-- A result that lies in a block; a result beside it. -/
theorem results_blk {P : Program} {fn : Func} {q : Tmp} {ty : TypeId} (h : fn.results = #[.cell q ty]) (tmps : Array Value) (w : World) (g : Nat) (cs : List Value) (d : TypeDesc)
    (hq : tmps.getD q undef = .pointer (some ⟨g, 0, none⟩)) (hB : Blk w g cs)
    (hu : P.underlying ty = some d) (hd : (match d with | .struct _ | .array _ _ => true | _ => false) = true) (hi : (P.info? ty).map (·.size) = some cs.length) :
    (results fn tmps).run P w = .ok (.agg cs.toArray) w := by
  obtain ⟨t, hB⟩ := hB
  exact results_cell_row h tmps w g t cs.toArray (0, 0) d hq hB hu hd (by simpa using hi)
theorem results_tmp_blk {P : Program} {fn : Func} {p q : Tmp} {ty : TypeId} (h : fn.results = #[.tmp p, .cell q ty]) (tmps : Array Value) (w : World) (g : Nat) (cs : List Value) (d : TypeDesc) (v : Value) (hp : tmps.getD p undef = v)
    (hq : tmps.getD q undef = .pointer (some ⟨g, 0, none⟩)) (hB : Blk w g cs)
    (hu : P.underlying ty = some d) (hd : (match d with | .struct _ | .array _ _ => true | _ => false) = true) (hi : (P.info? ty).map (·.size) = some cs.length) :
    (results fn tmps).run P w = .ok (.tuple #[v, .agg cs.toArray]) w := by
  obtain ⟨t, hB⟩ := hB
  subst hp
  have hq' : tmps[q]?.getD undef = .pointer (some ⟨g, 0, none⟩) := by simpa using hq
  simp [results, h, hq', asAddr, run_loadVar_row w g t ty cs.toArray (0, 0) d hB hu hd (by simpa using hi)]

def zeros : List V3 := List.replicate 8 zv
theorem zeros_len : zeros.length = 8 := rfl
/-- Which fields the first k numbers of a list name. -/
def inl (l : List Int) (k : Nat) : Nat → Bool := fun i => decide ((i : Int) ∈ l.take k)
theorem inl_zero (l : List Int) : inl l 0 = fun _ => false := by
  funext i; simp [inl]
theorem inl_succ (l : List Int) (k i : Nat) (h : k < l.length) (hi : l[k] = (i : Int)) : inl l (k + 1) = fun j => inl l k j || j == i := by
  funext j
  unfold inl
  rw [List.take_succ_eq_append_getElem h, hi]
  rw [Bool.eq_iff_iff]
  simp only [List.mem_append, List.mem_singleton, Bool.or_eq_true, decide_eq_true_eq, beq_iff_eq]
  rw [show ((j : Int) = (i : Int)) ↔ j = i from by omega]
theorem inl_flds (x : BitVec 32) (a c : List V3) : mix (inl (flds x) (flds x).length) a c = mix (fun i => has x (i : Int)) a c := by
  apply mix_congr
  intro i hi
  unfold inl
  rw [List.take_length, Bool.eq_iff_iff, decide_eq_true_iff, mem_flds]
  constructor
  · rintro ⟨_, _, h⟩; exact h
  · intro h; exact ⟨by omega, by omega, h⟩

/-- A step of the loop: a field is laid into another row of fields. -/
theorem blk_field {w : World} {g : Nat} (p : Nat → Bool) (f c : List V3) (pre : List Value) (i : Nat) (hi : i < 8) (hf : i < f.length) (h : Blk w g (pre ++ fcells (mix p f c))) :
    Blk (w.setCells g (pre.length + i * 3) (vcells f[i])) g (pre ++ fcells (mix (fun j => p j || j == i) f c)) := by
  have hl : (fcells (mix p f c)).length = 24 := by rw [fcells_len, mix_len]
  have h2 := h.sets (vcells f[i]) (pre.length + i * 3) (by rw [List.length_append, hl]; show _ + 3 ≤ _; omega)
  have e : (pre ++ fcells (mix p f c)).take (pre.length + i * 3) ++ vcells f[i] ++ (pre ++ fcells (mix p f c)).drop (pre.length + i * 3 + (vcells f[i]).length) = pre ++ fcells (mix (fun j => p j || j == i) f c) := by
    rw [show (vcells f[i]).length = 3 from rfl, List.take_append, List.drop_append, Nat.add_sub_cancel_left]
    rw [List.take_of_length_le (by omega), List.drop_eq_nil_of_le (by omega), List.nil_append, show pre.length + i * 3 + 3 - pre.length = 3 * i + 3 by omega, Nat.mul_comm i 3]
    rw [List.append_assoc, List.append_assoc, ← List.append_assoc ((fcells (mix p f c)).take _), fcells_set _ _ _ (by rw [mix_len]; exact hi), mix_set p f c i hi hf]
  rw [e] at h2
  exact h2
theorem Blk.field {w : World} {g : Nat} {pre : List Value} {f : List V3} (h : Blk w g (pre ++ fcells f)) (o i : Nat) (ho : pre.length = o) (hi : i < f.length) :
    w.cell? ⟨g, o + i * 3, none⟩ = some (.int .i64 f[i].1) ∧ w.cell? ⟨g, o + i * 3 + 1, none⟩ = some (.int .i64 f[i].2.1) ∧ w.cell? ⟨g, o + i * 3 + 2, none⟩ = some (.string f[i].2.2) := by
  subst ho
  have h2 := fcells_get f i hi
  rw [Nat.mul_comm i 3]
  refine ⟨h.cell ?_, h.cell ?_, h.cell ?_⟩
  · rw [List.getElem?_append_right (by omega), Nat.add_sub_cancel_left]; exact h2.1
  · rw [List.getElem?_append_right (by omega), show pre.length + 3 * i + 1 - pre.length = 3 * i + 1 by omega]; exact h2.2.1
  · rw [List.getElem?_append_right (by omega), show pre.length + 3 * i + 2 - pre.length = 3 * i + 2 by omega]; exact h2.2.2
theorem Blk.field0 {w : World} {g : Nat} {f : List V3} (h : Blk w g (fcells f)) (i : Nat) (hi : i < f.length) :
    w.cell? ⟨g, i * 3, none⟩ = some (.int .i64 f[i].1) ∧ w.cell? ⟨g, i * 3 + 1, none⟩ = some (.int .i64 f[i].2.1) ∧ w.cell? ⟨g, i * 3 + 2, none⟩ = some (.string f[i].2.2) := by
  have := Blk.field (pre := []) (o := 0) h i rfl hi
  simpa using this

set_option maxRecDepth 100000 in
set_option maxHeartbeats 3200000 in
theorem shown_any (lb : Int) (x : BitVec 32) (f : List V3) (w : World) (hf : f.length = 8) :
    Calls Try.prog 28 #[.int .u32 lb, .agg (fcells f).toArray, .int .u32 (x.toNat : Int)] w fun e w' =>
      e = .returned (.tuple #[.int .u32 (if has x 8 then lb else 0), .agg (fcells (mix (fun i => has x (i : Int)) f zeros)).toArray]) ∧ Below w.heap.size w w' := by
  obtain ⟨rl, hrl⟩ : ∃ r : Int, r = (if has x 8 then lb else 0) := ⟨_, rfl⟩
  rw [← hrl]
  have HRL := Lib.hid hrl
  clear hrl
  have B0 := Blk.new w (fcells f) 30
  obtain ⟨arr, harr⟩ : ∃ arr, arr = (fcells f).toArray := ⟨_, rfl⟩
  rw [← harr] at B0 ⊢
  have B1 := Blk.new (w.alloc (.cells arr 30)) (fcells zeros) 30
  have B2 := Blk.new ((w.alloc (.cells arr 30)).alloc (.cells (fcells zeros).toArray 30)) (fcells zeros) 30
  have hw0 := (((Below.refl w.heap.size w).alloc (Nat.le_refl _) (.cells arr 30)).alloc (by simp) (.cells (fcells zeros).toArray 30)).alloc (by simp; omega) (.cells (fcells zeros).toArray 30)
  replace B1 := B1.alloc (.cells (fcells zeros).toArray 30)
  replace B0 := (B0.alloc (.cells (fcells zeros).toArray 30)).alloc (.cells (fcells zeros).toArray 30)
  have HF := Lib.hid hf
  have HFL := Lib.hid (fields_any x (((w.alloc (.cells arr 30)).alloc (.cells (fcells zeros).toArray 30)).alloc (.cells (fcells zeros).toArray 30)))
  have hsz : (((w.alloc (.cells arr 30)).alloc (.cells (fcells zeros).toArray 30)).alloc (.cells (fcells zeros).toArray 30)).heap.size = w.heap.size + 3 := by simp
  have hs2 : ((w.alloc (.cells arr 30)).alloc (.cells (fcells zeros).toArray 30)).heap.size = w.heap.size + 2 := by simp
  have hs1 : (w.alloc (.cells arr 30)).heap.size = w.heap.size + 1 := by simp
  rw [hs1] at B1
  rw [hs2] at B2
  generalize hW : ((w.alloc (.cells arr 30)).alloc (.cells (fcells zeros).toArray 30)).alloc (.cells (fcells zeros).toArray 30) = W at *
  have HW := Lib.hid hW
  have HB := Lib.hid hw0
  have HSZ := Lib.hid hsz
  clear hf harr hsz hs1 hs2 hW hw0
  go_enter Try.func28, Try.ntmps28
  go_wp2_with fail
  have hzc : (fcells zeros).toArray = #[Value.int .i64 0, .int .i64 0, .string { data := #[] }, .int .i64 0, .int .i64 0, .string { data := #[] }, .int .i64 0, .int .i64 0, .string { data := #[] }, .int .i64 0, .int .i64 0, .string { data := #[] }, .int .i64 0, .int .i64 0, .string { data := #[] }, .int .i64 0, .int .i64 0, .string { data := #[] }, .int .i64 0, .int .i64 0, .string { data := #[] }, .int .i64 0, .int .i64 0, .string { data := #[] }] := rfl
  rw [← hzc, HW.out]
  clear hzc
  refine HFL.out.mono ?_
  rintro e w1 ⟨A, c, rfl, ho, hb⟩
  have C0 := B0.later hb
  have C1 := B1.later hb
  have C2 := B2.later hb
  have hbw : Below w.heap.size w w1 := HB.out.trans (hb.mono (by rw [HSZ.out]; omega))
  replace ho : Own w1 (w.heap.size + 3) 3 (.slice A (flds x).length c) (ivs (flds x)) := by rw [HSZ.out] at ho; exact ho
  have hfl := flds_len x
  clear B0 B1 B2 HFL HB HSZ hb
  go_wp2_with fail
  obtain ⟨n, hn⟩ : ∃ n, n = (flds x).length := ⟨_, rfl⟩
  rw [← hn] at ho hfl ⊢
  have HN := Lib.hid hn
  clear hn
  go_loopw [14] (fun i wr => ∃ k : Nat, k ≤ n ∧ i = .int .i64 k ∧ Blk wr w.heap.size (fcells f) ∧ Blk wr (w.heap.size + 1) (fcells zeros) ∧ Blk wr (w.heap.size + 2) (fcells (mix (inl (flds x) k) f zeros)) ∧ Own wr (w.heap.size + 3) 3 (.slice A n c) (ivs (flds x)) ∧ Below w.heap.size w wr)
    (fun i _ => n - (intOf i).toNat)
  case atStart => exact ⟨0, Nat.zero_le _, rfl, C0, C1, by rw [inl_zero, mix_none _ _ zeros_len]; exact C2, ho, hbw⟩
  case round =>
    obtain ⟨k, hk, rfl, D0, D1, D2, hown, hbr⟩ := hrel
    clear C0 C1 C2 ho hbw
    by_cases hlt : k < n
    · have hkl : k < (flds x).length := by rw [← HN.out]; exact hlt
      obtain ⟨i, hi8, hik⟩ := flds_in x k hkl
      obtain ⟨b, o, rfl, hb, hc⟩ := hown.sees.int k hkl
      rw [hik] at hc
      have hif : i < f.length := by rw [HF.out]; exact hi8
      obtain ⟨l0, l1, l2⟩ := D0.field0 i hif
      obtain ⟨s0, s1, s2⟩ := D2.field0 i (by rw [mix_len]; exact hi8)
      have f0 := D2.frozen (i * 3)
      have f1 := D2.frozen (i * 3 + 1)
      have f2 := D2.frozen (i * 3 + 2)
      have d8 : (i : Int) < 8 := by omega
      have E2 := blk_field (w := wr) (g := w.heap.size + 2) (inl (flds x) k) f zeros [] i hi8 hif D2
      rw [← inl_succ (flds x) k i hkl hik] at E2
      have E0 := Blk.setsOther (b := w.heap.size + 2) (g := w.heap.size) (by omega) (vcells f[i]) (0 + i * 3) D0
      have E1 := Blk.setsOther (b := w.heap.size + 2) (g := w.heap.size + 1) (by omega) (vcells f[i]) (0 + i * 3) D1
      have EO := hown.setsOther (b := w.heap.size + 2) (by omega) (vcells f[i]) (0 + i * 3)
      have EB := below_sets (B := w.heap.size) (b := w.heap.size + 2) (by omega) (vcells f[i]) (0 + i * 3) hbr
      obtain ⟨v, hv⟩ : ∃ v, v = f[i] := ⟨_, rfl⟩
      rw [← hv] at l0 l1 l2 E0 E1 E2 EO EB
      obtain ⟨v0, v1, v2⟩ := v
      simp only at l0 l1 l2
      have R : Hid (Blk (wr.setCells (w.heap.size + 2) (0 + i * 3) (vcells (v0, v1, v2))) w.heap.size (fcells f) ∧ Blk (wr.setCells (w.heap.size + 2) (0 + i * 3) (vcells (v0, v1, v2))) (w.heap.size + 1) (fcells zeros) ∧ Blk (wr.setCells (w.heap.size + 2) (0 + i * 3) (vcells (v0, v1, v2))) (w.heap.size + 2) (fcells (mix (inl (flds x) (k + 1)) f zeros)) ∧ Own (wr.setCells (w.heap.size + 2) (0 + i * 3) (vcells (v0, v1, v2))) (w.heap.size + 3) 3 (.slice (some ⟨b, o, none⟩) n c) (ivs (flds x)) ∧ Below w.heap.size w (wr.setCells (w.heap.size + 2) (0 + i * 3) (vcells (v0, v1, v2)))) := ⟨E0, E1, E2, EO, EB⟩
      clear hv E0 E1 E2 EO EB hik D0 D1 D2
      rw [Nat.zero_add] at R
      go_wp2_with fail
      go_roundw
      case rel => exact ⟨k + 1, by omega, by go_num, R.out⟩
      case measure => simp [intOf]; omega
    · obtain rfl : k = n := by omega
      have hz : mix (inl (flds x) k) f zeros = mix (fun i => has x (i : Int)) f zeros := by rw [HN.out]; exact inl_flds x f zeros
      rw [hz] at D2
      clear hz hown
      have HL := Lib.hid (labels_any x wr)
      have R2 := D2.range 0 (fcells (mix (fun i => has x (i : Int)) f zeros)) (by rw [List.drop_zero, List.take_length])
      have T1 := D1.there 0 24 (by rw [fcells_len, zeros_len]; omega)
      have hu := Try.underlying30
      obtain ⟨cs, hcs⟩ : ∃ cs, cs = fcells (mix (fun i => has x (i : Int)) f zeros) := ⟨_, rfl⟩
      have hlen : cs.length = 24 := by rw [hcs, fcells_len, mix_len]
      have hi : (Try.prog.info? 30).map (·.size) = some cs.length := by rw [hlen]; kernel_rfl
      have hone : ∀ v ∈ cs, v.oneCell' = true := by rw [hcs]; exact fcells_one _
      rw [← hcs] at R2
      have HI := Lib.hid hi
      have HCS := Lib.hid hcs
      have FIN : Blk (wr.drew.setCells (w.heap.size + 1) 0 cs) (w.heap.size + 1) cs := by
        have h := D1.drew.sets cs 0 (by rw [hlen, fcells_len, zeros_len]; omega)
        rw [List.take_zero, List.nil_append, List.drop_eq_nil_of_le (by rw [hlen, fcells_len, zeros_len]; omega), List.append_nil] at h
        exact h
      have FB : Below w.heap.size w (wr.drew.setCells (w.heap.size + 1) 0 cs) := below_sets (by omega) cs 0 hbr.drew
      clear hcs
      cases hb : has x 8 with
      | true =>
        rw [hb] at HL
        have HBB := Lib.hid hb
        clear hb
        go_wp2_with fail
        refine HL.out.mono ?_
        rintro e w' ⟨rfl, rfl⟩
        go_wp2_with fail
        refine wp_region_any (by kernel_rfl) ?_
        refine wpAny_yield 0 (.int .u32 lb) rfl (by kernel_rfl) (by kernel_rfl) (by kernel_rfl) (fun _ _ _ h => h) (by rfl) (by intro _; simp [go_sem]) ?_
        simp only [Act.put, List.setIfInBounds_toArray, List.set_cons_zero, List.set_cons_succ]
        refine wpAny_yield 2 (.int .u32 lb) rfl (by kernel_rfl) (by kernel_rfl) (by kernel_rfl) (fun _ _ _ h => h) (by rfl) (by intro _; simp [go_sem]) ?_
        simp only [Act.put, List.setIfInBounds_toArray, List.set_cons_zero, List.set_cons_succ]
        refine wpAny_one 1 rfl (by kernel_rfl) (by rfl) ?_
        refine wp_load_mid 30 _ rfl (w.heap.size + 1 + 1) 0 rfl cs _ R2 hu rfl hi ?_
        simp only [Act.put, List.setIfInBounds_toArray, List.set_cons_zero, List.set_cons_succ]
        refine wpAny_one 3 rfl (by kernel_rfl) (by rfl) ?_
        refine wp_store_mid 30 _ _ rfl (w.heap.size + 1) 0 cs.toArray rfl rfl (by simpa [hlen] using T1) (by simpa using hi) (all_oneCell_toArray hone) ?_
        refine wpAny_done (by kernel_rfl) ?_ _
        clear hi hone hlen R2 T1
        go_wp2
        exact bodyPost_ret (v := .tuple #[.int .u32 lb, .agg cs.toArray]) (results_tmp_blk (p := 6) (q := 7) rfl _ _ (w.heap.size + 1) cs _ _ rfl rfl FIN hu rfl HI.out) rfl ⟨by rw [HCS.out, HRL.out, HBB.out]; rfl, FB⟩
      | false =>
        rw [hb] at HL
        have HBB := Lib.hid hb
        clear hb
        go_wp2_with fail
        refine HL.out.mono ?_
        rintro e w' ⟨rfl, rfl⟩
        go_wp2_with fail
        refine wp_region_any (by kernel_rfl) ?_
        refine wpAny_yield 0 (.int .u32 0) rfl (by kernel_rfl) (by kernel_rfl) (by kernel_rfl) (fun _ _ _ h => h) (by rfl) (by intro _; simp [go_sem]) ?_
        simp only [Act.put, List.setIfInBounds_toArray, List.set_cons_zero, List.set_cons_succ]
        refine wpAny_yield 2 (.int .u32 0) rfl (by kernel_rfl) (by kernel_rfl) (by kernel_rfl) (fun _ _ _ h => h) (by rfl) (by intro _; simp [go_sem]) ?_
        simp only [Act.put, List.setIfInBounds_toArray, List.set_cons_zero, List.set_cons_succ]
        refine wpAny_one 1 rfl (by kernel_rfl) (by rfl) ?_
        refine wp_load_mid 30 _ rfl (w.heap.size + 1 + 1) 0 rfl cs _ R2 hu rfl hi ?_
        simp only [Act.put, List.setIfInBounds_toArray, List.set_cons_zero, List.set_cons_succ]
        refine wpAny_one 3 rfl (by kernel_rfl) (by rfl) ?_
        refine wp_store_mid 30 _ _ rfl (w.heap.size + 1) 0 cs.toArray rfl rfl (by simpa [hlen] using T1) (by simpa using hi) (all_oneCell_toArray hone) ?_
        refine wpAny_done (by kernel_rfl) ?_ _
        clear hi hone hlen R2 T1
        go_wp2
        exact bodyPost_ret (v := .tuple #[.int .u32 0, .agg cs.toArray]) (results_tmp_blk (p := 6) (q := 7) rfl _ _ (w.heap.size + 1) cs _ _ rfl rfl FIN hu rfl HI.out) rfl ⟨by rw [HCS.out, HRL.out, HBB.out]; rfl, FB⟩
end Go.Proofs.Ytjlpccdlpgkgoaa
