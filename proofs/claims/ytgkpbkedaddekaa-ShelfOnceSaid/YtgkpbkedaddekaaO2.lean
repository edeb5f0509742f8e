/- What a mask shows of labels and fields: what each returns. -/
import Derived.Test.YtgkpbkedaddekaaO1
import Derived.Deep.RegionHeld3
import Derived.Laws.StructEq
namespace Go.Proofs.Ytgkpbkedaddekaa
set_option linter.unusedVariables false
open Go Go.RowKit BitM

theorem grown_setCell (w : World) (b j : Nat) (v : Value) : w.grownBy (w.setCell ⟨b, j, none⟩ v) (some b) :=
  ⟨rfl, rfl, rfl, by simp [World.setCell], fun k _ hk => Below.heap_setCell _ _ _ k (fun e => hk (by rw [e]))⟩
theorem grown_sets (b : Nat) : ∀ (vs : List Value) (o : Nat) (w : World), w.grownBy (w.setCells b o vs) (some b)
  | [], _, w => World.grownBy.refl w _
  | v :: vs, o, w => (grown_setCell w b o v).trans (grown_sets b vs (o + 1) _)
theorem Own.setsOther {w : World} {base : Nat} {e : TypeId} {v : Value} {xs : List Value} (h : Own w base e v xs) {b : Nat} (hb : b < base) (vs : List Value) (o : Nat) : Own (w.setCells b o vs) base e v xs := by
  refine h.kept (grown_sets b vs o w) ?_
  have hl := h.lt
  rcases hv : v.ownBlock with _ | g
  · exact .inl rfl
  · refine .inr fun e' => ?_
    have := hl g hv
    cases e'
    omega

section
variable {P : Program} {ops : List Oper} {Q : Exit → Act → World → Prop}
/-- In a drawn region: number i is taken first, for it yields v in whatever world. -/
theorem wpAny_yield (i : Nat) {oi : Oper} (v : Value) {fuel : Nat} {listed : Array Bool} {a : Act} {w : World} (hi : ops[i]? = some oi)
    (hs : Region.noSelect ops.toArray = true) (hf : Region.free .any ops.toArray listed i = true) (hr : (Region.ready .any ops.toArray listed).contains i = true)
    (hQ : ∀ c a w, Q (.panic c) (a.put oi.dst v) w → Q (.panic c) a w) (hw : Region.wanted oi (yielded ops.toArray a.tmps) = true) (hy : ∀ w, (execOp a.eval oi).run P w = .ok (.value v) w)
    (h : wpAny P .any ops.toArray Q fuel (listed.setIfInBounds i true) (a.put oi.dst v) w) : wpAny P .any ops.toArray Q (fuel + 1) listed a w :=
  wpAny_take (by rw [List.getElem?_toArray]; exact hi) hs hf hr hQ (.inl ⟨hw, hy⟩) h
/-- In a drawn region: number i alone may come up. -/
theorem wpAny_one (i : Nat) {oi : Oper} {fuel : Nat} {listed : Array Bool} {a : Act} {w : World} (hi : ops[i]? = some oi) (hr : Region.ready .any ops.toArray listed = [i]) (hw : Region.wanted oi (yielded ops.toArray a.tmps) = true)
    (h : oi.wp P a w (wpAny P .any ops.toArray Q fuel (listed.setIfInBounds i true)) Q) : wpAny P .any ops.toArray Q (fuel + 1) listed a w :=
  wpAny_all hr (by simp) (fun j hj => by
    obtain rfl : j = i := by simpa using hj
    unfold wpOp
    simp only [List.getElem?_toArray, hi, hw, if_true]
    exact .inl h)
end

/-- A result that lies in a block; a result beside it. -/
theorem results_blk {P : Program} {fn : Func} {q : Tmp} {ty : TypeId} (h : fn.results = #[.cell q ty]) (tmps : Array Value) (w : World) (g : Nat) (cs : List Value) (d : TypeDesc)
    (hq : tmps.getD q undef = .pointer (some ⟨g, 0, none⟩)) (hB : Blk w g cs)
    (hu : P.underlying ty = some d) (hd : (match d with | .struct _ | .array _ _ => true | _ => false) = true) (hi : (P.info? ty).map (·.size) = some cs.length) :
    (results fn tmps).run P w = .ok (.agg cs.toArray) w := by
  obtain ⟨t, hB⟩ := hB
  exact results_cell_row h tmps w g t cs.toArray (0, 0) d hq hB hu hd (by simpa using hi)
theorem results_tmp_blk {P : Program} {fn : Func} {p q : Tmp} {ty : TypeId} (h : fn.results = #[.tmp p, .cell q ty]) (tmps : Array Value) (w : World) (g : Nat) (cs : List Value) (d : TypeDesc) (v : Value) (hp : tmps.getD p undef = v)
    (hq : tmps.getD q undef = .pointer (some ⟨g, 0, none⟩)) (hB : Blk w g cs)
    (hu : P.underlying ty = some d) (hd : (match d with | .struct _ | .array _ _ => true | _ => false) = true) (hi : (P.info? ty).map (·.size) = some cs.length) :
    (results fn tmps).run P w = .ok (.tuple #[v, .agg cs.toArray]) w := by
  obtain ⟨t, hB⟩ := hB
  subst hp
  have hq' : tmps[q]?.getD undef = .pointer (some ⟨g, 0, none⟩) := by simpa using hq
  simp [results, h, hq', asAddr, run_loadVar_row w g t ty cs.toArray (0, 0) d hB hu hd (by simpa using hi)]

def zeros : List V3 := List.replicate 8 zv
theorem zeros_len : zeros.length = 8 := rfl
/-- Which fields the first k numbers of a list name. -/
def inl (l : List Int) (k : Nat) : Nat → Bool := fun i => decide ((i : Int) ∈ l.take k)
theorem inl_zero (l : List Int) : inl l 0 = fun _ => false := by
  funext i; simp [inl]
theorem inl_succ (l : List Int) (k i : Nat) (h : k < l.length) (hi : l[k] = (i : Int)) : inl l (k + 1) = fun j => inl l k j || j == i := by
  funext j
  unfold inl
  rw [List.take_succ_eq_append_getElem h, hi]
  rw [Bool.eq_iff_iff]
  simp only [List.mem_append, List.mem_singleton, Bool.or_eq_true, decide_eq_true_eq, beq_iff_eq]
  rw [show ((j : Int) = (i : Int)) ↔ j = i from by omega]
theorem inl_flds (x : BitVec 32) (a c : List V3) : mix (inl (flds x) (flds x).length) a c = mix (fun i => has x (i : Int)) a c := by
  apply mix_congr
  intro i hi
  unfold inl
  rw [List.take_length, Bool.eq_iff_iff, decide_eq_true_iff, mem_flds]
  constructor
  · rintro ⟨_, _, h⟩; exact h
  · intro h; exact ⟨by omega, by omega, h⟩

/-- A step of the loop: a field is laid into another row of fields. -/
theorem blk_field {w : World} {g : Nat} (p : Nat → Bool) (f c : List V3) (pre : List Value) (i : Nat) (hi : i < 8) (hf : i < f.length) (h : Blk w g (pre ++ fcells (mix p f c))) :
    Blk (w.setCells g (pre.length + i * 3) (vcells f[i])) g (pre ++ fcells (mix (fun j => p j || j == i) f c)) := by
  have hl : (fcells (mix p f c)).length = 24 := by rw [fcells_len, mix_len]
  have h2 := h.sets (vcells f[i]) (pre.length + i * 3) (by rw [List.length_append, hl]; show _ + 3 ≤ _; omega)
  have e : (pre ++ fcells (mix p f c)).take (pre.length + i * 3) ++ vcells f[i] ++ (pre ++ fcells (mix p f c)).drop (pre.length + i * 3 + (vcells f[i]).length) = pre ++ fcells (mix (fun j => p j || j == i) f c) := by
    rw [show (vcells f[i]).length = 3 from rfl, List.take_append, List.drop_append, Nat.add_sub_cancel_left]
    rw [List.take_of_length_le (by omega), List.drop_eq_nil_of_le (by omega), List.nil_append, show pre.length + i * 3 + 3 - pre.length = 3 * i + 3 by omega, Nat.mul_comm i 3]
    rw [List.append_assoc, List.append_assoc, ← List.append_assoc ((fcells (mix p f c)).take _), fcells_set _ _ _ (by rw [mix_len]; exact hi), mix_set p f c i hi hf]
  rw [e] at h2
  exact h2
theorem Blk.field {w : World} {g : Nat} {pre : List Value} {f : List V3} (h : Blk w g (pre ++ fcells f)) (o i : Nat) (ho : pre.length = o) (hi : i < f.length) :
    w.cell? ⟨g, o + i * 3, none⟩ = some (.int .i64 f[i].1) ∧ w.cell? ⟨g, o + i * 3 + 1, none⟩ = some (.int .i64 f[i].2.1) ∧ w.cell? ⟨g, o + i * 3 + 2, none⟩ = some (.string f[i].2.2) := by
  subst ho
  have h2 := fcells_get f i hi
  rw [Nat.mul_comm i 3]
  refine ⟨h.cell ?_, h.cell ?_, h.cell ?_⟩
  · rw [List.getElem?_append_right (by omega), Nat.add_sub_cancel_left]; exact h2.1
  · rw [List.getElem?_append_right (by omega), show pre.length + 3 * i + 1 - pre.length = 3 * i + 1 by omega]; exact h2.2.1
  · rw [List.getElem?_append_right (by omega), show pre.length + 3 * i + 2 - pre.length = 3 * i + 2 by omega]; exact h2.2.2
theorem Blk.field0 {w : World} {g : Nat} {f : List V3} (h : Blk w g (fcells f)) (i : Nat) (hi : i < f.length) :
    w.cell? ⟨g, i * 3, none⟩ = some (.int .i64 f[i].1) ∧ w.cell? ⟨g, i * 3 + 1, none⟩ = some (.int .i64 f[i].2.1) ∧ w.cell? ⟨g, i * 3 + 2, none⟩ = some (.string f[i].2.2) := by
  have := Blk.field (pre := []) (o := 0) h i rfl hi
  simpa using this

set_option maxRecDepth 100000 in
set_option maxHeartbeats 3200000 in
theorem shown_any (lb : Int) (x : BitVec 32) (f : List V3) (w : World) (hf : f.length = 8) :
    Calls Try.prog 51 #[.int .u32 lb, .agg (fcells f).toArray, .int .u32 (x.toNat : Int)] w fun e w' =>
      e = .returned (.tuple #[.int .u32 (if has x 8 then lb else 0), .agg (fcells (mix (fun i => has x (i : Int)) f zeros)).toArray]) ∧ Below w.heap.size w w' := by
  obtain ⟨rl, hrl⟩ : ∃ r : Int, r = (if has x 8 then lb else 0) := ⟨_, rfl⟩
  rw [← hrl]
  have HRL := Lib.hid hrl
  clear hrl
  have B0 := Blk.new w (fcells f) 34
  obtain ⟨arr, harr⟩ : ∃ arr, arr = (fcells f).toArray := ⟨_, rfl⟩
  rw [← harr] at B0 ⊢
  have B1 := Blk.new (w.alloc (.cells arr 34)) (fcells zeros) 34
  have B2 := Blk.new ((w.alloc (.cells arr 34)).alloc (.cells (fcells zeros).toArray 34)) (fcells zeros) 34
  have hw0 := (((Below.refl w.heap.size w).alloc (Nat.le_refl _) (.cells arr 34)).alloc (by simp) (.cells (fcells zeros).toArray 34)).alloc (by simp; omega) (.cells (fcells zeros).toArray 34)
  replace B1 := B1.alloc (.cells (fcells zeros).toArray 34)
  replace B0 := (B0.alloc (.cells (fcells zeros).toArray 34)).alloc (.cells (fcells zeros).toArray 34)
  have HF := Lib.hid hf
  have HFL := Lib.hid (fields_any x (((w.alloc (.cells arr 34)).alloc (.cells (fcells zeros).toArray 34)).alloc (.cells (fcells zeros).toArray 34)))
  have hsz : (((w.alloc (.cells arr 34)).alloc (.cells (fcells zeros).toArray 34)).alloc (.cells (fcells zeros).toArray 34)).heap.size = w.heap.size + 3 := by simp
  have hs2 : ((w.alloc (.cells arr 34)).alloc (.cells (fcells zeros).toArray 34)).heap.size = w.heap.size + 2 := by simp
  have hs1 : (w.alloc (.cells arr 34)).heap.size = w.heap.size + 1 := by simp
  rw [hs1] at B1
  rw [hs2] at B2
  generalize hW : ((w.alloc (.cells arr 34)).alloc (.cells (fcells zeros).toArray 34)).alloc (.cells (fcells zeros).toArray 34) = W at *
  have HW := Lib.hid hW
  have HB := Lib.hid hw0
  have HSZ := Lib.hid hsz
  clear hf harr hsz hs1 hs2 hW hw0
  go_enter Try.func51, Try.ntmps51
  go_wp2_with fail
  have hzc : (fcells zeros).toArray = #[Value.int .i64 0, .int .i64 0, .string { data := #[] }, .int .i64 0, .int .i64 0, .string { data := #[] }, .int .i64 0, .int .i64 0, .string { data := #[] }, .int .i64 0, .int .i64 0, .string { data := #[] }, .int .i64 0, .int .i64 0, .string { data := #[] }, .int .i64 0, .int .i64 0, .string { data := #[] }, .int .i64 0, .int .i64 0, .string { data := #[] }, .int .i64 0, .int .i64 0, .string { data := #[] }] := rfl
  rw [← hzc, HW.out]
  clear hzc
  refine HFL.out.mono ?_
  rintro e w1 ⟨A, c, rfl, ho, hb⟩
  have C0 := B0.later hb
  have C1 := B1.later hb
  have C2 := B2.later hb
  have hbw : Below w.heap.size w w1 := HB.out.trans (hb.mono (by rw [HSZ.out]; omega))
  replace ho : Own w1 (w.heap.size + 3) 3 (.slice A (flds x).length c) (ivs (flds x)) := by rw [HSZ.out] at ho; exact ho
  have hfl := flds_len x
  clear B0 B1 B2 HFL HB HSZ hb
  go_wp2_with fail
  obtain ⟨n, hn⟩ : ∃ n, n = (flds x).length := ⟨_, rfl⟩
  rw [← hn] at ho hfl ⊢
  have HN := Lib.hid hn
  clear hn
  go_loopw [14] (fun i wr => ∃ k : Nat, k ≤ n ∧ i = .int .i64 k ∧ Blk wr w.heap.size (fcells f) ∧ Blk wr (w.heap.size + 1) (fcells zeros) ∧ Blk wr (w.heap.size + 2) (fcells (mix (inl (flds x) k) f zeros)) ∧ Own wr (w.heap.size + 3) 3 (.slice A n c) (ivs (flds x)) ∧ Below w.heap.size w wr)
    (fun i _ => n - (intOf i).toNat)
  case atStart => exact ⟨0, Nat.zero_le _, rfl, C0, C1, by rw [inl_zero, mix_none _ _ zeros_len]; exact C2, ho, hbw⟩
  case round =>
    obtain ⟨k, hk, rfl, D0, D1, D2, hown, hbr⟩ := hrel
    clear C0 C1 C2 ho hbw
    by_cases hlt : k < n
    · have hkl : k < (flds x).length := by rw [← HN.out]; exact hlt
      obtain ⟨i, hi8, hik⟩ := flds_in x k hkl
      obtain ⟨b, o, rfl, hb, hc⟩ := hown.sees.int k hkl
      rw [hik] at hc
      have hif : i < f.length := by rw [HF.out]; exact hi8
      obtain ⟨l0, l1, l2⟩ := D0.field0 i hif
      obtain ⟨s0, s1, s2⟩ := D2.field0 i (by rw [mix_len]; exact hi8)
      have f0 := D2.frozen (i * 3)
      have f1 := D2.frozen (i * 3 + 1)
      have f2 := D2.frozen (i * 3 + 2)
      have d8 : (i : Int) < 8 := by omega
      have E2 := blk_field (w := wr) (g := w.heap.size + 2) (inl (flds x) k) f zeros [] i hi8 hif D2
      rw [← inl_succ (flds x) k i hkl hik] at E2
      have E0 := Blk.setsOther (b := w.heap.size + 2) (g := w.heap.size) (by omega) (vcells f[i]) (0 + i * 3) D0
      have E1 := Blk.setsOther (b := w.heap.size + 2) (g := w.heap.size + 1) (by omega) (vcells f[i]) (0 + i * 3) D1
      have EO := hown.setsOther (b := w.heap.size + 2) (by omega) (vcells f[i]) (0 + i * 3)
      have EB := below_sets (B := w.heap.size) (b := w.heap.size + 2) (by omega) (vcells f[i]) (0 + i * 3) hbr
      obtain ⟨v, hv⟩ : ∃ v, v = f[i] := ⟨_, rfl⟩
      rw [← hv] at l0 l1 l2 E0 E1 E2 EO EB
      obtain ⟨v0, v1, v2⟩ := v
      simp only at l0 l1 l2
      have R : Hid (Blk (wr.setCells (w.heap.size + 2) (0 + i * 3) (vcells (v0, v1, v2))) w.heap.size (fcells f) ∧ Blk (wr.setCells (w.heap.size + 2) (0 + i * 3) (vcells (v0, v1, v2))) (w.heap.size + 1) (fcells zeros) ∧ Blk (wr.setCells (w.heap.size + 2) (0 + i * 3) (vcells (v0, v1, v2))) (w.heap.size + 2) (fcells (mix (inl (flds x) (k + 1)) f zeros)) ∧ Own (wr.setCells (w.heap.size + 2) (0 + i * 3) (vcells (v0, v1, v2))) (w.heap.size + 3) 3 (.slice (some ⟨b, o, none⟩) n c) (ivs (flds x)) ∧ Below w.heap.size w (wr.setCells (w.heap.size + 2) (0 + i * 3) (vcells (v0, v1, v2)))) := ⟨E0, E1, E2, EO, EB⟩
      clear hv E0 E1 E2 EO EB hik D0 D1 D2
      rw [Nat.zero_add] at R
      go_wp2_with fail
      go_roundw
      case rel => exact ⟨k + 1, by omega, by go_num, R.out⟩
      case measure => simp [intOf]; omega
    · obtain rfl : k = n := by omega
      have hz : mix (inl (flds x) k) f zeros = mix (fun i => has x (i : Int)) f zeros := by rw [HN.out]; exact inl_flds x f zeros
      rw [hz] at D2
      clear hz hown
      have HL := Lib.hid (labels_any x wr)
      have R2 := D2.range 0 (fcells (mix (fun i => has x (i : Int)) f zeros)) (by rw [List.drop_zero, List.take_length])
      have T1 := D1.there 0 24 (by rw [fcells_len, zeros_len]; omega)
      have hu := Try.underlying34
      obtain ⟨cs, hcs⟩ : ∃ cs, cs = fcells (mix (fun i => has x (i : Int)) f zeros) := ⟨_, rfl⟩
      have hlen : cs.length = 24 := by rw [hcs, fcells_len, mix_len]
      have hi : (Try.prog.info? 34).map (·.size) = some cs.length := by rw [hlen]; kernel_rfl
      have hone : ∀ v ∈ cs, v.oneCell' = true := by rw [hcs]; exact fcells_one _
      rw [← hcs] at R2
      have HI := Lib.hid hi
      have HCS := Lib.hid hcs
      have FIN : Blk (wr.drew.setCells (w.heap.size + 1) 0 cs) (w.heap.size + 1) cs := by
        have h := D1.drew.sets cs 0 (by rw [hlen, fcells_len, zeros_len]; omega)
        rw [List.take_zero, List.nil_append, List.drop_eq_nil_of_le (by rw [hlen, fcells_len, zeros_len]; omega), List.append_nil] at h
        exact h
      have FB : Below w.heap.size w (wr.drew.setCells (w.heap.size + 1) 0 cs) := below_sets (by omega) cs 0 hbr.drew
      clear hcs
      cases hb : has x 8 with
      | true =>
        rw [hb] at HL
        have HBB := Lib.hid hb
        clear hb
        go_wp2_with fail
        refine HL.out.mono ?_
        rintro e w' ⟨rfl, rfl⟩
        go_wp2_with fail
        refine wp_region_any (by kernel_rfl) ?_
        refine wpAny_yield 0 (.int .u32 lb) rfl (by kernel_rfl) (by kernel_rfl) (by kernel_rfl) (fun _ _ _ h => h) (by rfl) (by intro _; simp [go_sem]) ?_
        simp only [Act.put, List.setIfInBounds_toArray, List.set_cons_zero, List.set_cons_succ]
        refine wpAny_yield 2 (.int .u32 lb) rfl (by kernel_rfl) (by kernel_rfl) (by kernel_rfl) (fun _ _ _ h => h) (by rfl) (by intro _; simp [go_sem]) ?_
        simp only [Act.put, List.setIfInBounds_toArray, List.set_cons_zero, List.set_cons_succ]
        refine wpAny_one 1 rfl (by kernel_rfl) (by rfl) ?_
        refine wp_load_mid 34 _ rfl (w.heap.size + 1 + 1) 0 rfl cs _ R2 hu rfl hi ?_
        simp only [Act.put, List.setIfInBounds_toArray, List.set_cons_zero, List.set_cons_succ]
        refine wpAny_one 3 rfl (by kernel_rfl) (by rfl) ?_
        refine wp_store_mid 34 _ _ rfl (w.heap.size + 1) 0 cs.toArray rfl rfl (by simpa [hlen] using T1) (by simpa using hi) (all_oneCell_toArray hone) ?_
        refine wpAny_done (by kernel_rfl) ?_ _
        clear hi hone hlen R2 T1
        go_wp2
        exact bodyPost_ret (v := .tuple #[.int .u32 lb, .agg cs.toArray]) (results_tmp_blk (p := 6) (q := 7) rfl _ _ (w.heap.size + 1) cs _ _ rfl rfl FIN hu rfl HI.out) rfl ⟨by rw [HCS.out, HRL.out, HBB.out]; rfl, FB⟩
      | false =>
        rw [hb] at HL
        have HBB := Lib.hid hb
        clear hb
        go_wp2_with fail
        refine HL.out.mono ?_
        rintro e w' ⟨rfl, rfl⟩
        go_wp2_with fail
        refine wp_region_any (by kernel_rfl) ?_
        refine wpAny_yield 0 (.int .u32 0) rfl (by kernel_rfl) (by kernel_rfl) (by kernel_rfl) (fun _ _ _ h => h) (by rfl) (by intro _; simp [go_sem]) ?_
        simp only [Act.put, List.setIfInBounds_toArray, List.set_cons_zero, List.set_cons_succ]
        refine wpAny_yield 2 (.int .u32 0) rfl (by kernel_rfl) (by kernel_rfl) (by kernel_rfl) (fun _ _ _ h => h) (by rfl) (by intro _; simp [go_sem]) ?_
        simp only [Act.put, List.setIfInBounds_toArray, List.set_cons_zero, List.set_cons_succ]
        refine wpAny_one 1 rfl (by kernel_rfl) (by rfl) ?_
        refine wp_load_mid 34 _ rfl (w.heap.size + 1 + 1) 0 rfl cs _ R2 hu rfl hi ?_
        simp only [Act.put, List.setIfInBounds_toArray, List.set_cons_zero, List.set_cons_succ]
        refine wpAny_one 3 rfl (by kernel_rfl) (by rfl) ?_
        refine wp_store_mid 34 _ _ rfl (w.heap.size + 1) 0 cs.toArray rfl rfl (by simpa [hlen] using T1) (by simpa using hi) (all_oneCell_toArray hone) ?_
        refine wpAny_done (by kernel_rfl) ?_ _
        clear hi hone hlen R2 T1
        go_wp2
        exact bodyPost_ret (v := .tuple #[.int .u32 0, .agg cs.toArray]) (results_tmp_blk (p := 6) (q := 7) rfl _ _ (w.heap.size + 1) cs _ _ rfl rfl FIN hu rfl HI.out) rfl ⟨by rw [HCS.out, HRL.out, HBB.out]; rfl, FB⟩
end Go.Proofs.Ytgkpbkedaddekaa

/- Cards: a patch is written to a card: what each returns. -/
namespace Go.Proofs.Ytgkpbkedaddekaa
set_option linter.unusedVariables false
open Go Go.RowKit BitM

/-- The cells of a card, of a patch. -/
def ccells (id ver lab : Int) (f : List V3) : List Value := [.int .i64 id, .int .i64 ver, .int .u32 lab] ++ fcells f
def pcells (m lab : Int) (f : List V3) : List Value := [.int .u32 m, .int .u32 lab] ++ fcells f
theorem ccells_len (id ver lab : Int) {f : List V3} (h : f.length = 8) : (ccells id ver lab f).length = 27 := by
  unfold ccells; rw [List.length_append, fcells_len, h]; rfl
theorem pcells_len (m lab : Int) {f : List V3} (h : f.length = 8) : (pcells m lab f).length = 26 := by
  unfold pcells; rw [List.length_append, fcells_len, h]; rfl
theorem ccells_one (id ver lab : Int) (f : List V3) : ∀ u ∈ ccells id ver lab f, u.oneCell' = true := by
  intro u hu
  rcases List.mem_append.1 hu with h | h
  · simp at h; rcases h with rfl | rfl | rfl <;> rfl
  · exact fcells_one f u h
theorem Blk.card {w : World} {g : Nat} {id ver lab : Int} {f : List V3} (h : Blk w g (ccells id ver lab f)) :
    w.cell? ⟨g, 0, none⟩ = some (.int .i64 id) ∧ w.cell? ⟨g, 1, none⟩ = some (.int .i64 ver) ∧ w.cell? ⟨g, 2, none⟩ = some (.int .u32 lab) := ⟨h.cell rfl, h.cell rfl, h.cell rfl⟩
theorem Blk.patch {w : World} {g : Nat} {m lab : Int} {f : List V3} (h : Blk w g (pcells m lab f)) :
    w.cell? ⟨g, 0, none⟩ = some (.int .u32 m) ∧ w.cell? ⟨g, 1, none⟩ = some (.int .u32 lab) := ⟨h.cell rfl, h.cell rfl⟩
theorem Blk.putLab {w : World} {g : Nat} {id ver lab : Int} {f : List V3} (h : Blk w g (ccells id ver lab f)) (l : Int) : Blk (w.setCell ⟨g, 2, none⟩ (.int .u32 l)) g (ccells id ver l f) := h.set 2 _
theorem Blk.putVer {w : World} {g : Nat} {id ver lab : Int} {f : List V3} (h : Blk w g (ccells id ver lab f)) (v : Int) : Blk (w.setCell ⟨g, 1, none⟩ (.int .i64 v)) g (ccells id v lab f) := h.set 1 _
theorem below_set {B b : Nat} (hb : B ≤ b) {a w : World} (h : Below B a w) (j : Nat) (v : Value) : Below B a (w.setCell ⟨b, j, none⟩ v) := h.setCell hb v
theorem Own.setOther {w : World} {base : Nat} {e : TypeId} {v : Value} {xs : List Value} (h : Own w base e v xs) {b : Nat} (hb : b < base) (j : Nat) (u : Value) : Own (w.setCell ⟨b, j, none⟩ u) base e v xs :=
  h.setsOther hb [u] j
/-- A whole block is laid into another one. -/
theorem Blk.whole {w : World} {g : Nat} {cs ds : List Value} (h : Blk w g cs) (hl : ds.length = cs.length) : Blk (w.setCells g 0 ds) g ds := by
  have h2 := h.sets ds 0 (by omega)
  rw [List.take_zero, List.nil_append, List.drop_eq_nil_of_le (by omega), List.append_nil] at h2
  exact h2
theorem zc27 : (ccells 0 0 0 zeros).toArray = #[Value.int .i64 0, .int .i64 0, .int .u32 0, .int .i64 0, .int .i64 0, .string { data := #[] }, .int .i64 0, .int .i64 0, .string { data := #[] }, .int .i64 0, .int .i64 0, .string { data := #[] }, .int .i64 0, .int .i64 0, .string { data := #[] }, .int .i64 0, .int .i64 0, .string { data := #[] }, .int .i64 0, .int .i64 0, .string { data := #[] }, .int .i64 0, .int .i64 0, .string { data := #[] }, .int .i64 0, .int .i64 0, .string { data := #[] }] := rfl
theorem info_card : (Try.prog.info? 44).map (·.size) = some 27 := by kernel_rfl
theorem info_patch : (Try.prog.info? 36).map (·.size) = some 26 := by kernel_rfl

/-- A card's version behind a write. -/
def nextVer (v : Int) : Int := if v < 1099511627776 then v + 1 else v

set_option maxRecDepth 100000 in
set_option maxHeartbeats 6400000 in
theorem merge_any (id ver lab pl : Int) (x : BitVec 32) (C P : List V3) (w : World) (hC : C.length = 8) (hP : P.length = 8) (hv : -9223372036854775808 ≤ ver) :
    Calls Try.prog 34 #[.agg (ccells id ver lab C).toArray, .agg (pcells (x.toNat : Int) pl P).toArray] w fun e w' =>
      e = .returned (.agg (ccells id (nextVer ver) (if has x 8 then pl else lab) (mix (fun i => has x (i : Int)) P C)).toArray) ∧ Below w.heap.size w w' := by
  obtain ⟨R, hR⟩ : ∃ R, R = ccells id (nextVer ver) (if has x 8 then pl else lab) (mix (fun i => has x (i : Int)) P C) := ⟨_, rfl⟩
  rw [← hR]
  have HR := Lib.hid hR
  clear hR
  have B0 := Blk.new w (ccells id ver lab C) 44
  obtain ⟨ca, hca⟩ : ∃ ca, ca = (ccells id ver lab C).toArray := ⟨_, rfl⟩
  obtain ⟨pa, hpa⟩ : ∃ pa, pa = (pcells (x.toNat : Int) pl P).toArray := ⟨_, rfl⟩
  rw [← hca] at B0 ⊢
  have B1 := Blk.new (w.alloc (.cells ca 44)) (pcells (x.toNat : Int) pl P) 36
  rw [← hpa] at B1 ⊢
  have B2 := Blk.new ((w.alloc (.cells ca 44)).alloc (.cells pa 36)) (ccells 0 0 0 zeros) 44
  have hw0 := (((Below.refl w.heap.size w).alloc (Nat.le_refl _) (.cells ca 44)).alloc (by simp) (.cells pa 36)).alloc (by simp; omega) (.cells (ccells 0 0 0 zeros).toArray 44)
  replace B1 := B1.alloc (.cells (ccells 0 0 0 zeros).toArray 44)
  replace B0 := (B0.alloc (.cells pa 36)).alloc (.cells (ccells 0 0 0 zeros).toArray 44)
  have hsz : (((w.alloc (.cells ca 44)).alloc (.cells pa 36)).alloc (.cells (ccells 0 0 0 zeros).toArray 44)).heap.size = w.heap.size + 3 := by simp
  have hs2 : ((w.alloc (.cells ca 44)).alloc (.cells pa 36)).heap.size = w.heap.size + 2 := by simp
  have hs1 : (w.alloc (.cells ca 44)).heap.size = w.heap.size + 1 := by simp
  rw [hs1] at B1
  rw [hs2] at B2
  generalize hW : ((w.alloc (.cells ca 44)).alloc (.cells pa 36)).alloc (.cells (ccells 0 0 0 zeros).toArray 44) = W at *
  have HW := Lib.hid hW
  have HB := Lib.hid hw0
  have HSZ := Lib.hid hsz
  have HCL := Lib.hid hC
  have HPL := Lib.hid hP
  have HZ := Lib.hid zc27
  have HL := Lib.hid (labels_any x W)
  clear hC hP hca hpa hsz hs1 hs2 hW hw0
  have hm0 := B1.patch.1
  rw [← HW.out, zc27] at hm0
  go_enter Try.func34, Try.ntmps34
  go_wp2_with fail
  rw [← zc27, HW.out]
  clear hm0
  refine HL.out.mono ?_
  rintro e w' ⟨rfl, rfl⟩
  cases hb8 : has x 8 with
  | true =>
    have HIF : Hid ((if has x 8 = true then pl else lab) = pl) := Lib.hid (by rw [hb8]; rfl)
    clear hb8
    obtain ⟨p0, p1⟩ := B1.patch
    obtain ⟨q0, q1, q2⟩ := B0.card
    have fl := B0.frozen 2
    have A0 := B0.putLab pl
    have A1 := B1.setOther (b := w.heap.size) 2 (.int .u32 pl) (by omega)
    have A2 := B2.setOther (b := w.heap.size) 2 (.int .u32 pl) (by omega)
    have HB2 : Hid (Below w.heap.size w (W.setCell ⟨w.heap.size, 2, none⟩ (.int .u32 pl))) := Lib.hid (below_set (Nat.le_refl _) HB.out _ _)
    have HSZ2 : Hid ((W.setCell ⟨w.heap.size, 2, none⟩ (.int .u32 pl)).heap.size = w.heap.size + 3) := Lib.hid (by rw [size_setCell']; exact HSZ.out)
    clear HB HSZ HW HL B0 B1 B2
    generalize hW2 : W.setCell ⟨w.heap.size, 2, none⟩ (.int .u32 pl) = W2 at *
    have HW2 := Lib.hid hW2
    clear hW2
    have B0 := A0
    have B1 := A1
    have B2 := A2
    have HB := HB2
    have HSZ := HSZ2
    clear A0 A1 A2 HB2 HSZ2
    go_wp2_with fail
    rw [HW2.out]
    clear p0 p1 q0 q1 q2 fl HW2
    have HFL := Lib.hid (fields_any x W2)
    refine HFL.out.mono ?_
    rintro e w1 ⟨A, c, rfl, ho, hb⟩
    have C0 := B0.later hb
    have C1 := B1.later hb
    have C2 := B2.later hb
    have hbw : Below w.heap.size w w1 := HB.out.trans (hb.mono (by rw [HSZ.out]; omega))
    replace ho : Own w1 (w.heap.size + 3) 3 (.slice A (flds x).length c) (ivs (flds x)) := by rw [HSZ.out] at ho; exact ho
    have hfl := flds_len x
    clear B0 B1 B2 HFL HB HSZ hb
    go_wp2_with fail
    obtain ⟨n, hn⟩ : ∃ n, n = (flds x).length := ⟨_, rfl⟩
    rw [← hn] at ho hfl ⊢
    have HN := Lib.hid hn
    clear hn
    go_loopw [17] (fun i wr => ∃ k : Nat, k ≤ n ∧ i = .int .i64 k ∧ Blk wr w.heap.size (ccells id ver pl (mix (inl (flds x) k) P C)) ∧ Blk wr (w.heap.size + 1) (pcells (x.toNat : Int) pl P) ∧ Blk wr (w.heap.size + 2) (ccells 0 0 0 zeros) ∧ Own wr (w.heap.size + 3) 3 (.slice A n c) (ivs (flds x)) ∧ Below w.heap.size w wr)
      (fun i _ => n - (intOf i).toNat)
    case atStart => exact ⟨0, Nat.zero_le _, rfl, by rw [inl_zero, mix_none _ _ HCL.out]; exact C0, C1, C2, ho, hbw⟩
    case round =>
      obtain ⟨k, hk, rfl, D0, D1, D2, hown, hbr⟩ := hrel
      clear C0 C1 C2 ho hbw
      by_cases hlt : k < n
      · have hkl : k < (flds x).length := by rw [← HN.out]; exact hlt
        obtain ⟨i, hi8, hik⟩ := flds_in x k hkl
        obtain ⟨b, o, rfl, hb, hc⟩ := hown.sees.int k hkl
        rw [hik] at hc
        have hif : i < P.length := by rw [HPL.out]; exact hi8
        obtain ⟨l0, l1, l2⟩ := Blk.field (o := 2) D1 i rfl hif
        obtain ⟨s0, s1, s2⟩ := Blk.field (o := 3) D0 i rfl (by rw [mix_len]; exact hi8)
        have f0 := D0.frozen (3 + i * 3)
        have f1 := D0.frozen (3 + i * 3 + 1)
        have f2 := D0.frozen (3 + i * 3 + 2)
        have d8 : (i : Int) < 8 := by omega
        have E0 := blk_field (w := wr) (g := w.heap.size) (inl (flds x) k) P C [.int .i64 id, .int .i64 ver, .int .u32 pl] i hi8 hif D0
        rw [← inl_succ (flds x) k i hkl hik] at E0
        have E1 := Blk.setsOther (b := w.heap.size) (g := w.heap.size + 1) (by omega) (vcells P[i]) (3 + i * 3) D1
        have E2 := Blk.setsOther (b := w.heap.size) (g := w.heap.size + 2) (by omega) (vcells P[i]) (3 + i * 3) D2
        have EO := hown.setsOther (b := w.heap.size) (by omega) (vcells P[i]) (3 + i * 3)
        have EB := below_sets (B := w.heap.size) (b := w.heap.size) (by omega) (vcells P[i]) (3 + i * 3) hbr
        obtain ⟨v, hv⟩ : ∃ v, v = P[i] := ⟨_, rfl⟩
        rw [← hv] at l0 l1 l2 E0 E1 E2 EO EB
        obtain ⟨v0, v1, v2⟩ := v
        simp only at l0 l1 l2
        have R : Hid (Blk (wr.setCells w.heap.size (3 + i * 3) (vcells (v0, v1, v2))) w.heap.size (ccells id ver pl (mix (inl (flds x) (k + 1)) P C)) ∧ Blk (wr.setCells w.heap.size (3 + i * 3) (vcells (v0, v1, v2))) (w.heap.size + 1) (pcells (x.toNat : Int) pl P) ∧ Blk (wr.setCells w.heap.size (3 + i * 3) (vcells (v0, v1, v2))) (w.heap.size + 2) (ccells 0 0 0 zeros) ∧ Own (wr.setCells w.heap.size (3 + i * 3) (vcells (v0, v1, v2))) (w.heap.size + 3) 3 (.slice (some ⟨b, o, none⟩) n c) (ivs (flds x)) ∧ Below w.heap.size w (wr.setCells w.heap.size (3 + i * 3) (vcells (v0, v1, v2)))) := ⟨E0, E1, E2, EO, EB⟩
        clear hv E0 E1 E2 EO EB hik D0 D1 D2
        go_wp2_with fail
        go_roundw
        case rel => exact ⟨k + 1, by omega, by go_num, R.out⟩
        case measure => simp [intOf]; omega
      · obtain rfl : k = n := by omega
        have hz : mix (inl (flds x) k) P C = mix (fun i => has x (i : Int)) P C := by rw [HN.out]; exact inl_flds x P C
        rw [hz] at D0
        clear hz hown
        obtain ⟨c0, c1, c2⟩ := D0.card
        have fv := D0.frozen 1
        by_cases hlv : ver < 1099511627776
        · have d1 : decide (ver < 1099511627776) = true := by simpa using hlv
          have hnv : nextVer ver = ver + 1 := if_pos hlv
          have G0 := D0.putVer (ver + 1)
          have G2 := D2.setOther (b := w.heap.size) 1 (.int .i64 (ver + 1)) (by omega)
          have GB := below_set (b := w.heap.size) (Nat.le_refl _) hbr 1 (.int .i64 (ver + 1))
          have hRl : R.length = 27 := by rw [HR.out]; exact ccells_len _ _ _ (mix_len _ _ _)
          rw [show ccells id (ver + 1) pl (mix (fun i => has x (i : Int)) P C) = R from by rw [HR.out, hnv, HIF.out]] at G0
          have RG := G0.range 0 R (by rw [List.drop_zero, List.take_length])
          have TH := G2.there 0 27 (by rw [ccells_len 0 0 0 zeros_len]; omega)
          have FIN := G2.whole (ds := R) (by rw [hRl, ccells_len 0 0 0 zeros_len])
          have FB := below_sets (B := w.heap.size) (b := w.heap.size + 2) (by omega) R 0 GB
          have HRL := Lib.hid hRl
          have hu := Try.underlying44
          have hone : ∀ v ∈ R, v.oneCell' = true := by rw [HR.out]; exact ccells_one _ _ _ _
          clear hnv hRl
          go_wp2_with (first
            | (refine wpList_load_mid rfl 44 (.tmp 2) rfl w.heap.size 0 rfl R _ RG hu rfl (by rw [HRL.out]; exact info_card) ?_)
            | (refine wpList_store_mid rfl 44 (.tmp 4) (.tmp 36) rfl (w.heap.size + 2) 0 R.toArray rfl rfl (by simpa [HRL.out] using TH) (by simpa [HRL.out] using info_card) (all_oneCell_toArray hone) ?_))
          exact bodyPost_ret (v := .agg R.toArray) (results_blk (q := 4) rfl _ _ (w.heap.size + 2) R _ rfl FIN hu rfl (by rw [HRL.out]; exact info_card)) rfl ⟨rfl, FB⟩
        · have d1 : decide (ver < 1099511627776) = false := by simpa using hlv
          have hnv : nextVer ver = ver := if_neg hlv
          have hRl : R.length = 27 := by rw [HR.out]; exact ccells_len _ _ _ (mix_len _ _ _)
          rw [show ccells id ver pl (mix (fun i => has x (i : Int)) P C) = R from by rw [HR.out, hnv, HIF.out]] at D0
          have RG := D0.range 0 R (by rw [List.drop_zero, List.take_length])
          have TH := D2.there 0 27 (by rw [ccells_len 0 0 0 zeros_len]; omega)
          have FIN := D2.whole (ds := R) (by rw [hRl, ccells_len 0 0 0 zeros_len])
          have FB := below_sets (B := w.heap.size) (b := w.heap.size + 2) (by omega) R 0 hbr
          have HRL := Lib.hid hRl
          have hu := Try.underlying44
          have hone : ∀ v ∈ R, v.oneCell' = true := by rw [HR.out]; exact ccells_one _ _ _ _
          clear hnv hlv hRl
          go_wp2_with (first
            | (refine wpList_load_mid rfl 44 (.tmp 2) rfl w.heap.size 0 rfl R _ RG hu rfl (by rw [HRL.out]; exact info_card) ?_)
            | (refine wpList_store_mid rfl 44 (.tmp 4) (.tmp 36) rfl (w.heap.size + 2) 0 R.toArray rfl rfl (by simpa [HRL.out] using TH) (by simpa [HRL.out] using info_card) (all_oneCell_toArray hone) ?_))
          exact bodyPost_ret (v := .agg R.toArray) (results_blk (q := 4) rfl _ _ (w.heap.size + 2) R _ rfl FIN hu rfl (by rw [HRL.out]; exact info_card)) rfl ⟨rfl, FB⟩
  | false =>
    have HIF : Hid ((if has x 8 = true then pl else lab) = lab) := Lib.hid (by rw [hb8]; rfl)
    clear hb8
    obtain ⟨p0, p1⟩ := B1.patch
    clear HW HL
    go_wp2_with fail
    clear p0 p1
    have HFL := Lib.hid (fields_any x W)
    refine HFL.out.mono ?_
    rintro e w1 ⟨A, c, rfl, ho, hb⟩
    have C0 := B0.later hb
    have C1 := B1.later hb
    have C2 := B2.later hb
    have hbw : Below w.heap.size w w1 := HB.out.trans (hb.mono (by rw [HSZ.out]; omega))
    replace ho : Own w1 (w.heap.size + 3) 3 (.slice A (flds x).length c) (ivs (flds x)) := by rw [HSZ.out] at ho; exact ho
    have hfl := flds_len x
    clear B0 B1 B2 HFL HB HSZ hb
    go_wp2_with fail
    obtain ⟨n, hn⟩ : ∃ n, n = (flds x).length := ⟨_, rfl⟩
    rw [← hn] at ho hfl ⊢
    have HN := Lib.hid hn
    clear hn
    go_loopw [17] (fun i wr => ∃ k : Nat, k ≤ n ∧ i = .int .i64 k ∧ Blk wr w.heap.size (ccells id ver lab (mix (inl (flds x) k) P C)) ∧ Blk wr (w.heap.size + 1) (pcells (x.toNat : Int) pl P) ∧ Blk wr (w.heap.size + 2) (ccells 0 0 0 zeros) ∧ Own wr (w.heap.size + 3) 3 (.slice A n c) (ivs (flds x)) ∧ Below w.heap.size w wr)
      (fun i _ => n - (intOf i).toNat)
    case atStart => exact ⟨0, Nat.zero_le _, rfl, by rw [inl_zero, mix_none _ _ HCL.out]; exact C0, C1, C2, ho, hbw⟩
    case round =>
      obtain ⟨k, hk, rfl, D0, D1, D2, hown, hbr⟩ := hrel
      clear C0 C1 C2 ho hbw
      by_cases hlt : k < n
      · have hkl : k < (flds x).length := by rw [← HN.out]; exact hlt
        obtain ⟨i, hi8, hik⟩ := flds_in x k hkl
        obtain ⟨b, o, rfl, hb, hc⟩ := hown.sees.int k hkl
        rw [hik] at hc
        have hif : i < P.length := by rw [HPL.out]; exact hi8
        obtain ⟨l0, l1, l2⟩ := Blk.field (o := 2) D1 i rfl hif
        obtain ⟨s0, s1, s2⟩ := Blk.field (o := 3) D0 i rfl (by rw [mix_len]; exact hi8)
        have f0 := D0.frozen (3 + i * 3)
        have f1 := D0.frozen (3 + i * 3 + 1)
        have f2 := D0.frozen (3 + i * 3 + 2)
        have d8 : (i : Int) < 8 := by omega
        have E0 := blk_field (w := wr) (g := w.heap.size) (inl (flds x) k) P C [.int .i64 id, .int .i64 ver, .int .u32 lab] i hi8 hif D0
        rw [← inl_succ (flds x) k i hkl hik] at E0
        have E1 := Blk.setsOther (b := w.heap.size) (g := w.heap.size + 1) (by omega) (vcells P[i]) (3 + i * 3) D1
        have E2 := Blk.setsOther (b := w.heap.size) (g := w.heap.size + 2) (by omega) (vcells P[i]) (3 + i * 3) D2
        have EO := hown.setsOther (b := w.heap.size) (by omega) (vcells P[i]) (3 + i * 3)
        have EB := below_sets (B := w.heap.size) (b := w.heap.size) (by omega) (vcells P[i]) (3 + i * 3) hbr
        obtain ⟨v, hv⟩ : ∃ v, v = P[i] := ⟨_, rfl⟩
        rw [← hv] at l0 l1 l2 E0 E1 E2 EO EB
        obtain ⟨v0, v1, v2⟩ := v
        simp only at l0 l1 l2
        have R : Hid (Blk (wr.setCells w.heap.size (3 + i * 3) (vcells (v0, v1, v2))) w.heap.size (ccells id ver lab (mix (inl (flds x) (k + 1)) P C)) ∧ Blk (wr.setCells w.heap.size (3 + i * 3) (vcells (v0, v1, v2))) (w.heap.size + 1) (pcells (x.toNat : Int) pl P) ∧ Blk (wr.setCells w.heap.size (3 + i * 3) (vcells (v0, v1, v2))) (w.heap.size + 2) (ccells 0 0 0 zeros) ∧ Own (wr.setCells w.heap.size (3 + i * 3) (vcells (v0, v1, v2))) (w.heap.size + 3) 3 (.slice (some ⟨b, o, none⟩) n c) (ivs (flds x)) ∧ Below w.heap.size w (wr.setCells w.heap.size (3 + i * 3) (vcells (v0, v1, v2)))) := ⟨E0, E1, E2, EO, EB⟩
        clear hv E0 E1 E2 EO EB hik D0 D1 D2
        go_wp2_with fail
        go_roundw
        case rel => exact ⟨k + 1, by omega, by go_num, R.out⟩
        case measure => simp [intOf]; omega
      · obtain rfl : k = n := by omega
        have hz : mix (inl (flds x) k) P C = mix (fun i => has x (i : Int)) P C := by rw [HN.out]; exact inl_flds x P C
        rw [hz] at D0
        clear hz hown
        obtain ⟨c0, c1, c2⟩ := D0.card
        have fv := D0.frozen 1
        by_cases hlv : ver < 1099511627776
        · have d1 : decide (ver < 1099511627776) = true := by simpa using hlv
          have hnv : nextVer ver = ver + 1 := if_pos hlv
          have G0 := D0.putVer (ver + 1)
          have G2 := D2.setOther (b := w.heap.size) 1 (.int .i64 (ver + 1)) (by omega)
          have GB := below_set (b := w.heap.size) (Nat.le_refl _) hbr 1 (.int .i64 (ver + 1))
          have hRl : R.length = 27 := by rw [HR.out]; exact ccells_len _ _ _ (mix_len _ _ _)
          rw [show ccells id (ver + 1) lab (mix (fun i => has x (i : Int)) P C) = R from by rw [HR.out, hnv, HIF.out]] at G0
          have RG := G0.range 0 R (by rw [List.drop_zero, List.take_length])
          have TH := G2.there 0 27 (by rw [ccells_len 0 0 0 zeros_len]; omega)
          have FIN := G2.whole (ds := R) (by rw [hRl, ccells_len 0 0 0 zeros_len])
          have FB := below_sets (B := w.heap.size) (b := w.heap.size + 2) (by omega) R 0 GB
          have HRL := Lib.hid hRl
          have hu := Try.underlying44
          have hone : ∀ v ∈ R, v.oneCell' = true := by rw [HR.out]; exact ccells_one _ _ _ _
          clear hnv hRl
          go_wp2_with (first
            | (refine wpList_load_mid rfl 44 (.tmp 2) rfl w.heap.size 0 rfl R _ RG hu rfl (by rw [HRL.out]; exact info_card) ?_)
            | (refine wpList_store_mid rfl 44 (.tmp 4) (.tmp 36) rfl (w.heap.size + 2) 0 R.toArray rfl rfl (by simpa [HRL.out] using TH) (by simpa [HRL.out] using info_card) (all_oneCell_toArray hone) ?_))
          exact bodyPost_ret (v := .agg R.toArray) (results_blk (q := 4) rfl _ _ (w.heap.size + 2) R _ rfl FIN hu rfl (by rw [HRL.out]; exact info_card)) rfl ⟨rfl, FB⟩
        · have d1 : decide (ver < 1099511627776) = false := by simpa using hlv
          have hnv : nextVer ver = ver := if_neg hlv
          have hRl : R.length = 27 := by rw [HR.out]; exact ccells_len _ _ _ (mix_len _ _ _)
          rw [show ccells id ver lab (mix (fun i => has x (i : Int)) P C) = R from by rw [HR.out, hnv, HIF.out]] at D0
          have RG := D0.range 0 R (by rw [List.drop_zero, List.take_length])
          have TH := D2.there 0 27 (by rw [ccells_len 0 0 0 zeros_len]; omega)
          have FIN := D2.whole (ds := R) (by rw [hRl, ccells_len 0 0 0 zeros_len])
          have FB := below_sets (B := w.heap.size) (b := w.heap.size + 2) (by omega) R 0 hbr
          have HRL := Lib.hid hRl
          have hu := Try.underlying44
          have hone : ∀ v ∈ R, v.oneCell' = true := by rw [HR.out]; exact ccells_one _ _ _ _
          clear hnv hlv hRl
          go_wp2_with (first
            | (refine wpList_load_mid rfl 44 (.tmp 2) rfl w.heap.size 0 rfl R _ RG hu rfl (by rw [HRL.out]; exact info_card) ?_)
            | (refine wpList_store_mid rfl 44 (.tmp 4) (.tmp 36) rfl (w.heap.size + 2) 0 R.toArray rfl rfl (by simpa [HRL.out] using TH) (by simpa [HRL.out] using info_card) (all_oneCell_toArray hone) ?_))
          exact bodyPost_ret (v := .agg R.toArray) (results_blk (q := 4) rfl _ _ (w.heap.size + 2) R _ rfl FIN hu rfl (by rw [HRL.out]; exact info_card)) rfl ⟨rfl, FB⟩
end Go.Proofs.Ytgkpbkedaddekaa

/- When two values, fields, cards, patches are the same: what == gives. -/
namespace Go.Proofs.Ytgkpbkedaddekaa
set_option linter.unusedVariables false
open Go Go.RowKit BitM

theorem fieldsV : Try.prog.underlying 33 = some (.struct (Try.prog.fieldsOf 33)) := by kernel_rfl
theorem fieldsC : Try.prog.underlying 44 = some (.struct (Try.prog.fieldsOf 44)) := by kernel_rfl
theorem fieldsP : Try.prog.underlying 36 = some (.struct (Try.prog.fieldsOf 36)) := by kernel_rfl
theorem list_str (a b : ByteArray) : a.toList = b.toList ↔ a = b := by
  rw [ByteArray.toList_eq, ByteArray.toList_eq]
  constructor
  · intro h
    apply ByteArray.ext
    apply Array.ext'
    exact h
  · rintro rfl; rfl
theorem ite_ok {p : Prop} [Decidable p] (w : World) : (if p then Result.ok true w else Result.ok false w) = Result.ok (decide p) w := by
  by_cases h : p <;> simp [h]

theorem eq_val (d : Nat) (u v : V3) (w : World) : (Op.equalIn (d + 2) 33 (.agg (vcells u).toArray) (.agg (vcells v).toArray)).run Try.prog w = .ok (decide (u = v)) w := by
  obtain ⟨a, b, c⟩ := u
  obtain ⟨a', b', c'⟩ := v
  rw [run_equalIn_agg w (d + 1) 33 _ _ fieldsV (by kernel_rfl)]
  have e : (Try.prog.fieldsOf 33).toList = [⟨"Kind", 3, 0, false, "", "", 0⟩, ⟨"N", 3, 1, false, "", "", 8⟩, ⟨"S", 9, 2, false, "", "", 16⟩] := by kernel_rfl
  rw [e]
  simp only [vcells, Op.eqFields]
  simp [go_sem, part, isAgg]
  by_cases h1 : a = a' <;> by_cases h2 : b = b' <;> simp [h1, h2, list_str, ite_ok]

theorem fcells_ext (f : List V3) (i : Nat) (h : i < f.length) : (fcells f).toArray.extract (i * 3) (i * 3 + 3) = (vcells f[i]).toArray := by
  rw [← fcells_drop f i h, Nat.mul_comm i 3]
  simp [List.extract_eq_take_drop]
theorem all_fields : ∀ (f g : List V3), f.length = g.length → ((List.range f.length).all fun i => decide (f.getD i zv = g.getD i zv)) = decide (f = g)
  | [], [], _ => rfl
  | x :: xs, y :: ys, h => by
    have ih := all_fields xs ys (by simpa using h)
    rw [List.length_cons, List.range_succ_eq_map, List.all_cons, List.all_map]
    simp only [List.getD_cons_zero, Function.comp_def, List.getD_cons_succ, ih]
    by_cases h1 : x = y <;> by_cases h2 : xs = ys <;> simp [h1, h2]
  | [], _ :: _, h => by simp at h
  | _ :: _, [], h => by simp at h
theorem eq_fields (d : Nat) (f g : List V3) (hf : f.length = 8) (hg : g.length = 8) (w : World) :
    (Op.equalIn (d + 3) 34 (.agg (fcells f).toArray) (.agg (fcells g).toArray)).run Try.prog w = .ok (decide (f = g)) w := by
  have hsz : ∀ w, (sizeOf 33).run Try.prog w = .ok 3 w := fun w => by kernel_rfl
  have hag : ∀ w, (isAgg 33).run Try.prog w = .ok true w := fun w => by kernel_rfl
  rw [← all_fields f g (hf.trans hg.symm), hf, List.range_eq_range', Op.equalIn]
  simp only [Sem.run_bind, run_underlying Try.underlying34, Result.andThen_ok, hsz, Std.Legacy.Range.forIn_eq_forIn_range', Std.Legacy.Range.size, Nat.sub_zero, Nat.add_sub_cancel, Nat.div_one]
  have hl : ∀ i ∈ List.range' 0 8 1, i < 8 := fun i hi => by simpa using (List.mem_range'_1.1 hi).2
  generalize List.range' 0 8 1 = l at hl ⊢
  induction l with
  | nil => simp
  | cons i l ih =>
    have hi : i < 8 := hl i (by simp)
    have px : (part 33 (fcells f).toArray (i * 3)).run Try.prog w = .ok (.agg (vcells (f.getD i zv)).toArray) w := by
      have h : i < f.length := by omega
      simp only [part, Sem.run_bind, hag, Result.andThen_ok, hsz, if_true, Sem.run_pure, fcells_ext f i h]
      simp [List.getD, h]
    have py : (part 33 (fcells g).toArray (i * 3)).run Try.prog w = .ok (.agg (vcells (g.getD i zv)).toArray) w := by
      have h : i < g.length := by omega
      simp only [part, Sem.run_bind, hag, Result.andThen_ok, hsz, if_true, Sem.run_pure, fcells_ext g i h]
      simp [List.getD, h]
    simp only [List.forIn_cons, Sem.run_bind, px, py, eq_val d, Result.andThen_ok, List.all_cons]
    cases hb : decide (f.getD i zv = g.getD i zv)
    · simp
    · simp only [Bool.not_true, Bool.false_eq_true, if_false, Sem.run_pure, Result.andThen_ok, Bool.true_and]
      exact ih fun j hj => hl j (by simp [hj])
theorem fcells_pre (pre : List Value) (f : List V3) (o : Nat) (ho : pre.length = o) (hf : f.length = 8) : (pre ++ fcells f).toArray.extract o (o + 24) = (fcells f).toArray := by
  subst ho
  have hl : (fcells f).length = 24 := by rw [fcells_len, hf]
  simp [List.extract_eq_take_drop, ← hl]
theorem eq_card (d : Nat) (id ver lab id' ver' lab' : Int) (f g : List V3) (hf : f.length = 8) (hg : g.length = 8) (w : World) :
    (Op.equalIn (d + 4) 44 (.agg (ccells id ver lab f).toArray) (.agg (ccells id' ver' lab' g).toArray)).run Try.prog w = .ok (decide (id = id' ∧ ver = ver' ∧ lab = lab' ∧ f = g)) w := by
  have hsz : ∀ w, (sizeOf 34).run Try.prog w = .ok 24 w := fun w => by kernel_rfl
  have hag : ∀ w, (isAgg 34).run Try.prog w = .ok true w := fun w => by kernel_rfl
  rw [run_equalIn_agg w (d + 3) 44 _ _ fieldsC (by kernel_rfl)]
  have e : (Try.prog.fieldsOf 44).toList = [⟨"ID", 3, 0, false, "", "", 0⟩, ⟨"Ver", 3, 1, false, "", "", 8⟩, ⟨"Labels", 31, 2, false, "", "", 16⟩, ⟨"F", 34, 3, false, "", "", 24⟩] := by kernel_rfl
  rw [e]
  have px : ∀ (a b c : Int) (h : List V3), h.length = 8 → (part 34 (ccells a b c h).toArray 3).run Try.prog w = .ok (.agg (fcells h).toArray) w := fun a b c h hh => by
    simp only [part, Sem.run_bind, hag, Result.andThen_ok, hsz, if_true, Sem.run_pure]
    unfold ccells
    rw [fcells_pre _ h 3 rfl hh]
  have p0 : ∀ (a b c : Int) (h : List V3), (part 3 (ccells a b c h).toArray 0).run Try.prog w = .ok (.int .i64 a) w := fun a b c h => by simp [go_sem, part, isAgg, ccells]
  have p1 : ∀ (a b c : Int) (h : List V3), (part 3 (ccells a b c h).toArray 1).run Try.prog w = .ok (.int .i64 b) w := fun a b c h => by simp [go_sem, part, isAgg, ccells]
  have p2 : ∀ (a b c : Int) (h : List V3), (part 31 (ccells a b c h).toArray 2).run Try.prog w = .ok (.int .u32 c) w := fun a b c h => by simp [go_sem, part, isAgg, ccells]
  have ef := eq_fields d f g hf hg w
  have q0 : ∀ a b : Int, (Op.equalIn (d + 3) 3 (.int .i64 a) (.int .i64 b)).run Try.prog w = .ok (a == b) w := fun a b => run_equalIn_int w (d + 2) 3 .i64 .i64 a b Try.underlying3
  have q1 : ∀ a b : Int, (Op.equalIn (d + 3) 31 (.int .u32 a) (.int .u32 b)).run Try.prog w = .ok (a == b) w := fun a b => run_equalIn_int w (d + 2) 31 .u32 .u32 a b Try.underlying31
  simp only [Op.eqFields, if_pos (show ("ID" : String) ≠ "_" by decide), if_pos (show ("Ver" : String) ≠ "_" by decide), if_pos (show ("Labels" : String) ≠ "_" by decide), if_pos (show ("F" : String) ≠ "_" by decide)]
  simp only [Sem.run_bind, Sem.run_ite, Sem.run_pure, px _ _ _ f hf, px _ _ _ g hg, p0, p1, p2, q0, q1, ef, Result.andThen_ok]
  by_cases h1 : id = id' <;> by_cases h2 : ver = ver' <;> by_cases h3 : lab = lab' <;> by_cases h4 : f = g <;> simp [h1, h2, h3, h4]
end Go.Proofs.Ytgkpbkedaddekaa
