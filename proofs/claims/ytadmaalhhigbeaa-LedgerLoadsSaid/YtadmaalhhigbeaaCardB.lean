/- What a mask shows of labels and fields: what each returns. -/
import Derived.Test.YtadmaalhhigbeaaCardA
import Derived.Test.YtadmaalhhigbeaaBitN
import Derived.Deep.RegionHeld3
namespace Go.Proofs.Ytadmaalhhigbeaa
set_option linter.unusedVariables false
open Go Go.RowKit BitM

theorem grown_setCell (w : World) (b j : Nat) (v : Value) : w.grownBy (w.setCell ⟨b, j, none⟩ v) (some b) :=
  ⟨rfl, rfl, rfl, by simp [World.setCell], fun k _ hk => Below.heap_setCell _ _ _ k (fun e => hk (by rw [e]))⟩
theorem grown_sets (b : Nat) : ∀ (vs : List Value) (o : Nat) (w : World), w.grownBy (w.setCells b o vs) (some b)
  | [], _, w => World.grownBy.refl w _
  | v :: vs, o, w => (grown_setCell w b o v).trans (grown_sets b vs (o + 1) _)
theorem Own.setsOther {w : World} {base : Nat} {e : TypeId} {v : Value} {xs : List Value} (h : Own w base e v xs) {b : Nat} (hb : b < base) (vs : List Value) (o : Nat) : Own (w.setCells b o vs) base e v xs := by
  refine h.kept (grown_sets b vs o w) ?_
  have hl := h.lt
  rcases hv : v.ownBlock with _ | g
  · exact .inl rfl
  · refine .inr fun e' => ?_
    have := hl g hv
    cases e'
    omega

section
variable {P : Program} {ops : List Oper} {Q : Exit → Act → World → Prop}
/-- In a drawn region: number i is taken first, for it yields v in whatever world. -/
theorem wpAny_yield (i : Nat) {oi : Oper} (v : Value) {fuel : Nat} {listed : Array Bool} {a : Act} {w : World} (hi : ops[i]? = some oi)
    (hs : Region.noSelect ops.toArray = true) (hf : Region.free .any ops.toArray listed i = true) (hr : (Region.ready .any ops.toArray listed).contains i = true)
    (hQ : ∀ c a w, Q (.panic c) (a.put oi.dst v) w → Q (.panic c) a w) (hw : Region.wanted oi (yielded ops.toArray a.tmps) = true) (hy : ∀ w, (execOp a.eval oi).run P w = .ok (.value v) w)
    (h : wpAny P .any ops.toArray Q fuel (listed.setIfInBounds i true) (a.put oi.dst v) w) : wpAny P .any ops.toArray Q (fuel + 1) listed a w :=
  wpAny_take (by rw [List.getElem?_toArray]; exact hi) hs hf hr hQ (.inl ⟨hw, hy⟩) h
/-- In a drawn region: number i alone may come up. -/
theorem wpAny_one (i : Nat) {oi : Oper} {fuel : Nat} {listed : Array Bool} {a : Act} {w : World} (hi : ops[i]? = some oi) (hr : Region.ready .any ops.toArray listed = [i]) (hw : Region.wanted oi (yielded ops.toArray a.tmps) = true)
    (h : oi.wp P a w (wpAny P .any ops.toArray Q fuel (listed.setIfInBounds i true)) Q) : wpAny P .any ops.toArray Q (fuel + 1) listed a w :=
  wpAny_all hr (by simp) (fun j hj => by
    obtain rfl : j = i := by simpa using hj
    unfold wpOp
    simp only [List.getElem?_toArray, hi, hw, if_true]
    exact .inl h)
end

/-- A result that lies in a block; a result beside it. -/
theorem results_blk {P : Program} {fn : Func} {q : Tmp} {ty : TypeId} (h : fn.results = #[.cell q ty]) (tmps : Array Value) (w : World) (g : Nat) (cs : List Value) (d : TypeDesc)
    (hq : tmps.getD q undef = .pointer (some ⟨g, 0, none⟩)) (hB : Blk w g cs)
    (hu : P.underlying ty = some d) (hd : (match d with | .struct _ | .array _ _ => true | _ => false) = true) (hi : (P.info? ty).map (·.size) = some cs.length) :
    (results fn tmps).run P w = .ok (.agg cs.toArray) w := by
  obtain ⟨t, hB⟩ := hB
  exact results_cell_row h tmps w g t cs.toArray (0, 0) d hq hB hu hd (by simpa using hi)
theorem results_tmp_blk {P : Program} {fn : Func} {p q : Tmp} {ty : TypeId} (h : fn.results = #[.tmp p, .cell q ty]) (tmps : Array Value) (w : World) (g : Nat) (cs : List Value) (d : TypeDesc) (v : Value) (hp : tmps.getD p undef = v)
    (hq : tmps.getD q undef = .pointer (some ⟨g, 0, none⟩)) (hB : Blk w g cs)
    (hu : P.underlying ty = some d) (hd : (match d with | .struct _ | .array _ _ => true | _ => false) = true) (hi : (P.info? ty).map (·.size) = some cs.length) :
    (results fn tmps).run P w = .ok (.tuple #[v, .agg cs.toArray]) w := by
  obtain ⟨t, hB⟩ := hB
  subst hp
  have hq' : tmps[q]?.getD undef = .pointer (some ⟨g, 0, none⟩) := by simpa using hq
  simp [results, h, hq', asAddr, run_loadVar_row w g t ty cs.toArray (0, 0) d hB hu hd (by simpa using hi)]

def zeros : List V3 := List.replicate 8 zv
theorem zeros_len : zeros.length = 8 := rfl
/-- Which fields the first k numbers of a list name. -/
def inl (l : List Int) (k : Nat) : Nat → Bool := fun i => decide ((i : Int) ∈ l.take k)
theorem inl_zero (l : List Int) : inl l 0 = fun _ => false := by
  funext i; simp [inl]
theorem inl_succ (l : List Int) (k i : Nat) (h : k < l.length) (hi : l[k] = (i : Int)) : inl l (k + 1) = fun j => inl l k j || j == i := by
  funext j
  unfold inl
  rw [List.take_succ_eq_append_getElem h, hi]
  rw [Bool.eq_iff_iff]
  simp only [List.mem_append, List.mem_singleton, Bool.or_eq_true, decide_eq_true_eq, beq_iff_eq]
  rw [show ((j : Int) = (i : Int)) ↔ j = i from by omega]
theorem inl_flds (x : BitVec 32) (a c : List V3) : mix (inl (flds x) (flds x).length) a c = mix (fun i => has x (i : Int)) a c := by
  apply mix_congr
  intro i hi
  unfold inl
  rw [List.take_length, Bool.eq_iff_iff, decide_eq_true_iff, mem_flds]
  constructor
  · rintro ⟨_, _, h⟩; exact h
  · intro h; exact ⟨by omega, by omega, h⟩

/-- A step of the loop: a field is laid into another row of fields. -/
theorem blk_field {w : World} {g : Nat} (p : Nat → Bool) (f c : List V3) (pre : List Value) (i : Nat) (hi : i < 8) (hf : i < f.length) (h : Blk w g (pre ++ fcells (mix p f c))) :
    Blk (w.setCells g (pre.length + i * 3) (vcells f[i])) g (pre ++ fcells (mix (fun j => p j || j == i) f c)) := by
  have hl : (fcells (mix p f c)).length = 24 := by rw [fcells_len, mix_len]
  have h2 := h.sets (vcells f[i]) (pre.length + i * 3) (by rw [List.length_append, hl]; show _ + 3 ≤ _; omega)
  have e : (pre ++ fcells (mix p f c)).take (pre.length + i * 3) ++ vcells f[i] ++ (pre ++ fcells (mix p f c)).drop (pre.length + i * 3 + (vcells f[i]).length) = pre ++ fcells (mix (fun j => p j || j == i) f c) := by
    rw [show (vcells f[i]).length = 3 from rfl, List.take_append, List.drop_append, Nat.add_sub_cancel_left]
    rw [List.take_of_length_le (by omega), List.drop_eq_nil_of_le (by omega), List.nil_append, show pre.length + i * 3 + 3 - pre.length = 3 * i + 3 by omega, Nat.mul_comm i 3]
    rw [List.append_assoc, List.append_assoc, ← List.append_assoc ((fcells (mix p f c)).take _), fcells_set _ _ _ (by rw [mix_len]; exact hi), mix_set p f c i hi hf]
  rw [e] at h2
  exact h2
theorem Blk.field {w : World} {g : Nat} {pre : List Value} {f : List V3} (h : Blk w g (pre ++ fcells f)) (o i : Nat) (ho : pre.length = o) (hi : i < f.length) :
    w.cell? ⟨g, o + i * 3, none⟩ = some (.int .i64 f[i].1) ∧ w.cell? ⟨g, o + i * 3 + 1, none⟩ = some (.int .i64 f[i].2.1) ∧ w.cell? ⟨g, o + i * 3 + 2, none⟩ = some (.string f[i].2.2) := by
  subst ho
  have h2 := fcells_get f i hi
  rw [Nat.mul_comm i 3]
  refine ⟨h.cell ?_, h.cell ?_, h.cell ?_⟩
  · rw [List.getElem?_append_right (by omega), Nat.add_sub_cancel_left]; exact h2.1
  · rw [List.getElem?_append_right (by omega), show pre.length + 3 * i + 1 - pre.length = 3 * i + 1 by omega]; exact h2.2.1
  · rw [List.getElem?_append_right (by omega), show pre.length + 3 * i + 2 - pre.length = 3 * i + 2 by omega]; exact h2.2.2
theorem Blk.field0 {w : World} {g : Nat} {f : List V3} (h : Blk w g (fcells f)) (i : Nat) (hi : i < f.length) :
    w.cell? ⟨g, i * 3, none⟩ = some (.int .i64 f[i].1) ∧ w.cell? ⟨g, i * 3 + 1, none⟩ = some (.int .i64 f[i].2.1) ∧ w.cell? ⟨g, i * 3 + 2, none⟩ = some (.string f[i].2.2) := by
  have := Blk.field (pre := []) (o := 0) h i rfl hi
  simpa using this

end Go.Proofs.Ytadmaalhhigbeaa
