/- A block of cells that is known whole: loads and stores of parts of it; fields of cards as a list. -/
import Derived.Test.YtnhcjadkbogioaaJ1
import Derived.Deep.MidRow
import Derived.Laws.Rows
import Derived.Laws.Tables
import Derived.Test.YtnhcjadkbogioaaJ2
import Derived.Laws.StructEq
import Derived.WalkKit
import Derived.ProofKit
import Derived.RangeFuncNested
import Derived.RangeFuncBound
import Derived.RangeFuncCalls
import Derived.RangeFuncLeaves
import Derived.RangeFuncBox
import Derived.Shelf.Abstract
import Derived.Shelf.RegionOpen
import Derived.OwnWalkIn
import Derived.TacticsInMore
import Derived.LoopNIn
import Derived.LoopIn
set_option maxRecDepth 100000
set_option linter.unusedVariables false
set_option maxHeartbeats 3200000
namespace Go.Proofs.Ytnhcjadkbogioaa
open Go Go.RowKit
def Blk (w : World) (g : Nat) (cs : List Value) : Prop := ∃ t, w.heap[g]? = some (.cells cs.toArray t (0, 0))
section
variable {w w' : World} {g : Nat} {cs : List Value}
theorem Blk.lt (h : Blk w g cs) : g < w.heap.size := by
  obtain ⟨t, h⟩ := h
  exact (Array.getElem?_eq_some_iff.1 h).1
theorem Blk.new (w : World) (cs : List Value) (t : TypeId) : Blk (w.alloc (.cells cs.toArray t)) w.heap.size cs := ⟨t, heap_alloc_new w _⟩
theorem Blk.cell (h : Blk w g cs) {j : Nat} {v : Value} (hj : cs[j]? = some v) : w.cell? ⟨g, j, none⟩ = some v := by
  obtain ⟨t, h⟩ := h
  simp [World.cell?, h, hj]
theorem Blk.frozen (h : Blk w g cs) (j : Nat) : w.frozen? ⟨g, j, none⟩ = false := by
  obtain ⟨t, h⟩ := h
  simp [World.frozen?, h]
theorem Blk.kept {row : Option Nat} (h : Blk w g cs) (hg : w.grownBy w' row) (hne : row ≠ some g) : Blk w' g cs := by
  have hlt := h.lt
  obtain ⟨t, h⟩ := h
  exact ⟨t, (hg.block g hlt (fun e => hne e.symm)).trans h⟩
theorem Blk.later (h : Blk w g cs) (hb : Below w.heap.size w w') : Blk w' g cs := by
  have hlt := h.lt
  obtain ⟨t, h⟩ := h
  exact ⟨t, (hb.block g hlt).trans h⟩
theorem Blk.below {B : Nat} (h : Blk w g cs) (hb : Below B w w') (hB : g < B) : Blk w' g cs := by
  obtain ⟨t, h⟩ := h
  exact ⟨t, (hb.block g hB).trans h⟩
theorem Blk.alloc (h : Blk w g cs) (o : Obj) : Blk (w.alloc o) g cs := by
  have hlt := h.lt
  obtain ⟨t, h⟩ := h
  exact ⟨t, (Below.heap_alloc w o g hlt).trans h⟩
theorem Blk.drewN (h : Blk w g cs) (k : Nat) : Blk (w.drewN k) g cs := h
theorem Blk.drew (h : Blk w g cs) : Blk w.drew g cs := h
theorem Blk.set (h : Blk w g cs) (j : Nat) (v : Value) : Blk (w.setCell ⟨g, j, none⟩ v) g (cs.set j v) := by
  have hlt := h.lt
  obtain ⟨t, h⟩ := h
  refine ⟨t, ?_⟩
  obtain ⟨h1, h2⟩ := Array.getElem?_eq_some_iff.1 h
  show (w.heap.modify g _)[g]? = _
  rw [Array.getElem?_eq_getElem (by rw [Array.size_modify]; exact hlt), Array.getElem_modify_self, h2]
  simp
theorem Blk.setOther {b : Nat} (h : Blk w g cs) (j : Nat) (v : Value) (hb : b ≠ g) : Blk (w.setCell ⟨b, j, none⟩ v) g cs := by
  obtain ⟨t, h⟩ := h
  exact ⟨t, (Below.heap_setCell w ⟨b, j, none⟩ v g (fun e => hb e.symm)).trans h⟩
theorem Blk.sets (h : Blk w g cs) : ∀ (vs : List Value) (o : Nat), o + vs.length ≤ cs.length → Blk (w.setCells g o vs) g (cs.take o ++ vs ++ cs.drop (o + vs.length)) := by
  intro vs
  induction vs generalizing w cs with
  | nil =>
    intro o ho
    show Blk w g _
    simpa using h
  | cons v vs ih =>
    intro o ho
    simp only [List.length_cons] at ho
    have h2 := ih (h.set o v) (o + 1) (by simp; omega)
    have e : (cs.set o v).take (o + 1) ++ vs ++ (cs.set o v).drop (o + 1 + vs.length) = cs.take o ++ (v :: vs) ++ cs.drop (o + (v :: vs).length) := by
      rw [List.take_succ_eq_append_getElem (by simp; omega), List.take_set_of_le (Nat.le_refl o), List.getElem_set_self, List.drop_set_of_lt (by omega)]
      simp [Nat.add_comm, Nat.add_left_comm]
    rw [e] at h2
    exact h2
theorem Blk.setsOther {b : Nat} (hb : b ≠ g) : ∀ (vs : List Value) (o : Nat) {w : World}, Blk w g cs → Blk (w.setCells b o vs) g cs
  | [], _, _, h => h
  | v :: vs, o, _, h => Blk.setsOther hb vs (o + 1) (h.setOther o v hb)
theorem below_sets {B b : Nat} (hb : B ≤ b) : ∀ (vs : List Value) (o : Nat) {a w : World}, Below B a w → Below B a (w.setCells b o vs)
  | [], _, _, _, h => h
  | v :: vs, o, _, _, h => below_sets hb vs (o + 1) (h.setCell hb v)
theorem Blk.range (h : Blk w g cs) (o : Nat) (vs : List Value) (hv : (cs.drop o).take vs.length = vs) : w.rangeAt g o vs := fun j v hj => by
  refine h.cell ?_
  have hlt : j < vs.length := (List.getElem?_eq_some_iff.1 hj).1
  rw [← hv, List.getElem?_take, if_pos hlt, List.getElem?_drop] at hj
  exact hj
theorem Blk.there (h : Blk w g cs) (o n : Nat) (hn : o + n ≤ cs.length) : w.there g o n := fun j hj => by
  refine ⟨?_, h.frozen _⟩
  rw [h.cell (j := o + j) (List.getElem?_eq_getElem (by omega))]
  rfl
end
abbrev V3 := Int × Int × ByteArray
def vcells (v : V3) : List Value := [.int .i64 v.1, .int .i64 v.2.1, .string v.2.2]
def zv : V3 := (0, 0, ⟨#[]⟩)
def fcells (f : List V3) : List Value := f.flatMap vcells
theorem fcells_len (f : List V3) : (fcells f).length = 3 * f.length := by
  induction f with
  | nil => rfl
  | cons v f ih => simp only [fcells, List.flatMap_cons, List.length_append, List.length_cons] at *; rw [ih]; simp [vcells]; omega
theorem fcells_cons (v : V3) (f : List V3) : fcells (v :: f) = vcells v ++ fcells f := rfl
theorem fcells_get (f : List V3) (i : Nat) (h : i < f.length) : (fcells f)[3 * i]? = some (.int .i64 f[i].1) ∧ (fcells f)[3 * i + 1]? = some (.int .i64 f[i].2.1) ∧ (fcells f)[3 * i + 2]? = some (.string f[i].2.2) := by
  induction f generalizing i with
  | nil => simp at h
  | cons v f ih =>
    rw [fcells_cons]
    cases i with
    | zero => simp [vcells]
    | succ i =>
      have := ih i (by simpa using h)
      rw [show 3 * (i + 1) = 3 * i + 3 by omega]
      have h3 : (vcells v).length = 3 := rfl
      refine ⟨?_, ?_, ?_⟩
      · rw [List.getElem?_append_right (by omega), h3]; simpa using this.1
      · rw [List.getElem?_append_right (by omega), h3, show 3 * i + 3 + 1 - 3 = 3 * i + 1 by omega]; simpa using this.2.1
      · rw [List.getElem?_append_right (by omega), h3, show 3 * i + 3 + 2 - 3 = 3 * i + 2 by omega]; simpa using this.2.2
theorem fcells_drop (f : List V3) (i : Nat) (h : i < f.length) : ((fcells f).drop (3 * i)).take 3 = vcells f[i] := by
  induction f generalizing i with
  | nil => simp at h
  | cons v f ih =>
    rw [fcells_cons]
    cases i with
    | zero => simp [vcells]
    | succ i =>
      rw [show 3 * (i + 1) = 3 + 3 * i by omega, ← List.drop_drop, List.drop_append_of_le_length (by simp [vcells])]
      simpa [vcells] using ih i (by simpa using h)
theorem fcells_set (f : List V3) (i : Nat) (v : V3) (h : i < f.length) : (fcells f).take (3 * i) ++ vcells v ++ (fcells f).drop (3 * i + 3) = fcells (f.set i v) := by
  induction f generalizing i with
  | nil => simp at h
  | cons u f ih =>
    cases i with
    | zero => simp [fcells_cons, vcells]
    | succ i =>
      rw [List.set_cons_succ, fcells_cons, fcells_cons, ← ih i (by simpa using h)]
      rw [show 3 * (i + 1) = 3 * i + 3 by omega]
      simp [vcells]
theorem fcells_one (f : List V3) : ∀ u ∈ fcells f, u.oneCell' = true := by
  intro u hu
  simp only [fcells, List.mem_flatMap, vcells] at hu
  obtain ⟨v, _, hv⟩ := hu
  simp at hv
  rcases hv with rfl | rfl | rfl <;> rfl
def mix (p : Nat → Bool) (a c : List V3) : List V3 := (List.range 8).map fun i => if p i then a.getD i zv else c.getD i zv
theorem mix_len (p : Nat → Bool) (a c : List V3) : (mix p a c).length = 8 := by simp [mix]
theorem mix_get (p : Nat → Bool) (a c : List V3) (i : Nat) (h : i < (mix p a c).length) : (mix p a c)[i] = if p i then a.getD i zv else c.getD i zv := by simp [mix]
theorem mix_none (a c : List V3) (hc : c.length = 8) : mix (fun _ => false) a c = c := by
  apply List.ext_getElem
  · simp [mix, hc]
  · intro i h1 h2
    rw [mix_get]
    simp [h2]
theorem mix_congr {p q : Nat → Bool} (a c : List V3) (h : ∀ i, i < 8 → p i = q i) : mix p a c = mix q a c := by
  unfold mix
  refine List.map_congr_left fun i hi => ?_
  rw [h i (by simpa using hi)]
theorem mix_set (p : Nat → Bool) (a c : List V3) (k : Nat) (hk : k < 8) (ha : k < a.length) : (mix p a c).set k a[k] = mix (fun i => p i || i == k) a c := by
  apply List.ext_getElem
  · simp [mix]
  · intro i h1 h2
    rw [mix_get, List.getElem_set]
    by_cases e : k = i
    · subst e; simp [ha]
    · rw [if_neg e, mix_get]
      have : (i == k) = false := by simpa using fun h => e h.symm
      simp [this]
section
variable {P : Program} {ops : Array Oper} {rest : List Oper} {op : Oper} {a : Act} {w : World} {Q : Exit → Act → World → Prop}
theorem wpList_load_g (hw : Region.wanted op (yielded ops a.tmps) = true) (ty : TypeId) (x : Operand) (ho : op.op = .load ty x)
    (b o : Nat) (hx : a.eval x = .pointer (some ⟨b, o, none⟩)) (cs : List Value) (d : TypeDesc) (hc : w.rangeAt b o cs)
    (hu : P.underlying ty = some d) (hd : d.isRow = true) (hi : (P.info? ty).map (·.size) = some cs.length)
    (h : wpList P ops Q rest (a.put op.dst (.agg cs.toArray)) w) : wpList P ops Q (op :: rest) a w :=
  wpList_step fun K hK => by
    rw [if_pos hw]
    exact wp_load_mid ty x ho b o hx cs d hc hu hd hi (hK _ _ h)
theorem exec_load (ty : TypeId) (x : Operand) (ho : op.op = .load ty x) (b o : Nat) (hx : a.eval x = .pointer (some ⟨b, o, none⟩)) (cs : List Value) (d : TypeDesc) (hc : w.rangeAt b o cs)
    (hu : P.underlying ty = some d) (hd : d.isRow = true) (hi : (P.info? ty).map (·.size) = some cs.length) : (execOp a.eval op).run P w = .ok (.value (.agg cs.toArray)) w := by
  unfold execOp
  simp only [ho, hx, Instr.loadAt, Instr.sureAddr, Sem.run_bind, Sem.run_pure, Result.andThen_ok, run_loadVar_mid w b o ty cs d hc hu hd hi]
end
theorem fieldsV : Try.prog.underlying 24 = some (.struct (Try.prog.fieldsOf 24)) := by kernel_rfl
theorem list_str (a b : ByteArray) : a.toList = b.toList ↔ a = b := by
  rw [ByteArray.toList_eq, ByteArray.toList_eq]
  constructor
  · intro h
    apply ByteArray.ext
    apply Array.ext'
    exact h
  · rintro rfl; rfl
theorem ite_ok {p : Prop} [Decidable p] (w : World) : (if p then Result.ok true w else Result.ok false w) = Result.ok (decide p) w := by
  by_cases h : p <;> simp [h]
theorem eq_val (d : Nat) (u v : V3) (w : World) : (Op.equalIn (d + 2) 24 (.agg (vcells u).toArray) (.agg (vcells v).toArray)).run Try.prog w = .ok (decide (u = v)) w := by
  obtain ⟨a, b, c⟩ := u
  obtain ⟨a', b', c'⟩ := v
  rw [run_equalIn_agg w (d + 1) 24 _ _ fieldsV (by kernel_rfl)]
  have e : (Try.prog.fieldsOf 24).toList = [⟨"Kind", 3, 0, false, "", "", 0⟩, ⟨"N", 3, 1, false, "", "", 8⟩, ⟨"S", 9, 2, false, "", "", 16⟩] := by kernel_rfl
  rw [e]
  simp only [vcells, Op.eqFields]
  simp [go_sem, part, isAgg]
  by_cases h1 : a = a' <;> by_cases h2 : b = b' <;> simp [h1, h2, list_str, ite_ok]
section
variable {P : Program} {ops : Array Oper} {rest : List Oper} {op : Oper} {a : Act} {w : World} {Q : Exit → Act → World → Prop}
theorem wpList_exec (hw : Region.wanted op (yielded ops a.tmps) = true) (v : Value) (he : (execOp a.eval op).run P w = .ok (.value v) w)
    (h : wpList P ops Q rest (a.put op.dst v) w) : wpList P ops Q (op :: rest) a w :=
  wpList_step fun K hK => by
    rw [if_pos hw]
    unfold Oper.wp
    rw [he]
    exact hK _ _ h
theorem exec_eql (t u : TypeId) (x y : Operand) (ho : op.op = .binOp .eql t x y u) (xs ys : Array Value) (hx : a.eval x = .agg xs) (hy : a.eval y = .agg ys)
    (hg : P.eqGuardType P.depth t = false) (b : Bool) (hr : (Op.equalIn 10000 t (.agg xs) (.agg ys)).run P w = .ok b w) : (execOp a.eval op).run P w = .ok (.value (.bool b)) w := by
  unfold execOp
  simp only [ho, hx, hy, Sem.run_bind, run_eqGuard_agg w _ _ _ _ _ _ hg, run_eql_struct, hr, Result.andThen_ok, Sem.run_pure]
theorem exec_neq (t u : TypeId) (x y : Operand) (ho : op.op = .binOp .neq t x y u) (xs ys : Array Value) (hx : a.eval x = .agg xs) (hy : a.eval y = .agg ys)
    (hg : P.eqGuardType P.depth t = false) (b : Bool) (hr : (Op.equalIn 10000 t (.agg xs) (.agg ys)).run P w = .ok b w) : (execOp a.eval op).run P w = .ok (.value (.bool (!b))) w := by
  unfold execOp
  simp only [ho, hx, hy, Sem.run_bind, run_eqGuard_agg w _ _ _ _ _ _ hg, run_neq_struct, hr, Result.andThen_ok, Sem.run_pure]
end
theorem guard_val : Try.prog.eqGuardType Try.prog.depth 24 = false := by kernel_rfl
theorem tok_results {P : Program} {fn : Func} {q : Tmp} {ty : TypeId} (h : fn.results = #[.cell q ty]) (tmps : Array Value) (w : World) (g : Nat) (cs : List Value) (d : TypeDesc)
    (hq : tmps.getD q undef = .pointer (some ⟨g, 0, none⟩)) (hB : Blk w g cs)
    (hu : P.underlying ty = some d) (hd : (match d with | .struct _ | .array _ _ => true | _ => false) = true) (hi : (P.info? ty).map (·.size) = some cs.length) :
    (results fn tmps).run P w = .ok (.agg cs.toArray) w := by
  obtain ⟨t, hB⟩ := hB
  exact results_cell_row h tmps w g t cs.toArray (0, 0) d hq hB hu hd (by simpa using hi)
theorem grown_set1 (w : World) (b j : Nat) (v : Value) : w.grownBy (w.setCell ⟨b, j, none⟩ v) (some b) :=
  ⟨rfl, rfl, rfl, by simp [World.setCell], fun k _ hk => Below.heap_setCell _ _ _ k (fun e => hk (by rw [e]))⟩
theorem Blk.wholeT {w : World} {g : Nat} {cs ds : List Value} (h : Blk w g cs) (hl : ds.length = cs.length) : Blk (w.setCells g 0 ds) g ds := by
  have h2 := h.sets ds 0 (by omega)
  rw [List.take_zero, List.nil_append, List.drop_eq_nil_of_le (by omega), List.append_nil] at h2
  exact h2
theorem grown_sets4 (b : Nat) : ∀ (vs : List Value) (o : Nat) (w : World), w.grownBy (w.setCells b o vs) (some b)
  | [], _, w => World.grownBy.refl w _
  | v :: vs, o, w => (grown_set1 w b o v).trans (grown_sets4 b vs (o + 1) _)
theorem grown_new {a b c : World} {row : Option Nat} {m : Nat} (h : a.grownBy b row) (k : b.grownBy c (some m)) (hm : a.heap.size ≤ m) : a.grownBy c row :=
  ⟨k.os.trans h.os, k.tape.trans h.tape, k.output.trans h.output, Nat.le_trans h.size k.size, fun i hi hr => (k.block i (Nat.lt_of_lt_of_le hi h.size) (by simp; omega)).trans (h.block i hi hr)⟩
end Go.Proofs.Ytnhcjadkbogioaa
namespace Go.Proofs.Ytnhcjadkbogioaa
open Go Go.RowKit
namespace BitM
theorem ofInt_nat (a : BitVec 32) : BitVec.ofInt 32 (a.toNat : Int) = a := by
  apply BitVec.eq_of_toNat_eq
  rw [BitVec.toNat_ofInt]
  have := a.isLt
  omega
theorem wrap_nat (a : BitVec 32) : IntKind.u32.wrap (a.toNat : Int) = (a.toNat : Int) := by
  have := a.isLt
  simp [IntKind.wrap, IntKind.signed, IntKind.bits]
  omega
theorem u32_and (a b : BitVec 32) : bits .and .u32 (a.toNat : Int) (b.toNat : Int) = ((a &&& b).toNat : Int) := by
  show IntKind.u32.wrap ((BitVec.ofInt 32 (a.toNat : Int) &&& BitVec.ofInt 32 (b.toNat : Int)).toNat : Int) = _
  rw [ofInt_nat, ofInt_nat, wrap_nat]
theorem u32_andNot (a b : BitVec 32) : bits .andNot .u32 (a.toNat : Int) (b.toNat : Int) = ((a &&& ~~~b).toNat : Int) := by
  show IntKind.u32.wrap ((BitVec.ofInt 32 (a.toNat : Int) &&& ~~~ BitVec.ofInt 32 (b.toNat : Int)).toNat : Int) = _
  rw [ofInt_nat, ofInt_nat, wrap_nat]
theorem nat_eq (a b : BitVec 32) : ((a.toNat : Int) == (b.toNat : Int)) = (a == b) := by
  rw [Bool.eq_iff_iff]
  simp only [beq_iff_eq]
  constructor
  · intro h; exact BitVec.eq_of_toNat_eq (by omega)
  · intro h; rw [h]
theorem nat_eq0 (a : BitVec 32) : ((a.toNat : Int) == 0) = (a == 0#32) := nat_eq a 0#32
theorem nat_ne0 (a : BitVec 32) : ((a.toNat : Int) != 0) = (a != 0#32) := by
  have := nat_eq0 a
  simp only [bne, this]
def one (n : Int) : BitVec 32 := if 0 ≤ n ∧ n < 32 then BitVec.twoPow 32 n.toNat else 0#32
def has (x : BitVec 32) (n : Int) : Bool := decide (0 ≤ n ∧ n < 32) && x.getLsbD n.toNat
def put (x : BitVec 32) (n : Int) : BitVec 32 := x ||| one n
theorem one_in {k : Nat} (h : k < 32) : one (k : Int) = BitVec.twoPow 32 k := by unfold one; rw [if_pos (by omega)]; rfl
theorem one_out {n : Int} (h : ¬ (0 ≤ n ∧ n < 32)) : one n = 0#32 := if_neg h
theorem has_in (x : BitVec 32) {k : Nat} (h : k < 32) : has x (k : Int) = x.getLsbD k := by
  unfold has; rw [decide_eq_true (by omega)]; rfl
theorem has_out (x : BitVec 32) {n : Int} (h : ¬ (0 ≤ n ∧ n < 32)) : has x n = false := by unfold has; rw [decide_eq_false h]; rfl
theorem and_one (x : BitVec 32) (n : Int) : (x &&& one n != 0#32) = has x n := by
  by_cases h : 0 ≤ n ∧ n < 32
  · obtain ⟨k, rfl⟩ := Int.eq_ofNat_of_zero_le h.1
    have hk : k < 32 := by omega
    rw [one_in hk, has_in x hk, BitVec.and_twoPow]
    cases hb : x.getLsbD k
    · simp
    · simp only [if_true, bne_iff_ne, ne_eq]
      intro he
      have := congrArg (fun v : BitVec 32 => v.getLsbD k) he
      simp [hk] at this
  · rw [one_out h, has_out x h]; simp
theorem two_pow_nat {k : Nat} (h : k < 32) : (BitVec.twoPow 32 k).toNat = 2 ^ k := by
  rw [BitVec.toNat_twoPow]
  exact Nat.mod_eq_of_lt (Nat.pow_lt_pow_right (by omega) h)
theorem bit_of_div (x : BitVec 32) {k : Nat} (h : k < 32) : (((x.toNat / 2 ^ k % 2 : Nat) : Int) == 1) = has x (k : Int) := by
  rw [has_in x h, BitVec.getLsbD, Nat.testBit_eq_decide_div_mod_eq, Bool.eq_iff_iff]
  generalize x.toNat / 2 ^ k % 2 = m
  simp only [beq_iff_eq, decide_eq_true_eq]
  omega
end BitM
end Go.Proofs.Ytnhcjadkbogioaa
namespace Go.Proofs.Ytnhcjadkbogioaa
open Go Go.RowKit OctM
def valEnd (k n : Int) (s : List UInt8) (a : Nat) (e : Int) : V3 × Nat × Int := (if e = 0 then (k, n, str s) else zv, a, e)
def valOut (l : List UInt8) (a : Nat) (e : Int) : V3 × Nat × Int :=
  if (numOut l a e 2).1 = 1 then valEnd 1 ((numOut l (numOut l a e 2).2.1 (numOut l a e 2).2.2 1099511627776).1 : Nat) [] (numOut l (numOut l a e 2).2.1 (numOut l a e 2).2.2 1099511627776).2.1 (numOut l (numOut l a e 2).2.1 (numOut l a e 2).2.2 1099511627776).2.2
  else if (numOut l a e 2).1 = 2 then valEnd 2 0 (strOut l (numOut l a e 2).2.1 (numOut l a e 2).2.2 24).1 (strOut l (numOut l a e 2).2.1 (numOut l a e 2).2.2 24).2.1 (strOut l (numOut l a e 2).2.1 (numOut l a e 2).2.2 24).2.2
  else valEnd ((numOut l a e 2).1 : Nat) 0 [] (numOut l a e 2).2.1 (numOut l a e 2).2.2
theorem valOut_at (l : List UInt8) (a : Nat) (e : Int) (h : a ≤ l.length) : (valOut l a e).2.1 ≤ l.length := by
  unfold valOut valEnd
  split
  · exact numOut_at _ _ _ _ (numOut_at _ _ _ _ h)
  · split
    · exact strOut_at _ _ _ _ (numOut_at _ _ _ _ h)
    · exact numOut_at _ _ _ _ h
theorem valEnd_no {k n : Int} {s : List UInt8} {a : Nat} {e : Int} (h : (e != 0) = true) : valEnd k n s a e = (zv, a, e) := by
  unfold valEnd
  rw [if_neg (by simpa using h)]
theorem valEnd_yes {k n : Int} {s : List UInt8} {a : Nat} {e : Int} (h : (e != 0) = false) : valEnd k n s a e = ((k, n, str s), a, e) := by
  unfold valEnd
  rw [if_pos (by simpa using h)]
theorem vcells_all (v : V3) : (vcells v).toArray.all (·.oneCell') = true := by
  refine all_oneCell_toArray fun u hu => ?_
  simp only [vcells, List.mem_cons, List.not_mem_nil, or_false] at hu
  rcases hu with rfl | rfl | rfl <;> rfl
theorem info_val : (Try.prog.info? 24).map (·.size) = some 3 := by kernel_rfl
theorem rd_value0 (base g : Nat) (l : List UInt8) (a : Nat) (e : Int) (w : World) (h : Rd w base g l a e) (ha : a ≤ l.length) (hm : l.length ≤ 4000) (hc : (numOut l a e 2).1 ≠ 1 ∧ (numOut l a e 2).1 ≠ 2) (T : V3 × Nat × Int) (hT : T = valEnd ((numOut l a e 2).1 : Nat) 0 [] (numOut l a e 2).2.1 (numOut l a e 2).2.2) :
    Calls Try.prog 97 #[.pointer (some ⟨g, 0, none⟩)] w fun x w' => x = .returned (.agg (vcells T.1).toArray) ∧ Rd w' base g l T.2.1 T.2.2 ∧ w.grownBy w' (some g) := by
  have hg := h.block.2
  have A1 := numOut_at l a e 2 ha
  have H1 : Hid (∀ wx, Rd wx base g l a e → Calls Try.prog 67 #[.pointer (some ⟨g, 0, none⟩), .int .i64 2] wx fun x w' => x = .returned (.int .i64 ((numOut l a e 2).1 : Nat)) ∧ Rd w' base g l (numOut l a e 2).2.1 (numOut l a e 2).2.2 ∧ wx.grownBy w' (some g)) := hid fun wx hx => rd_num base g l a e 2 wx hx ha (by omega)
  obtain ⟨r1, hr1⟩ : ∃ r, r = numOut l a e 2 := ⟨_, rfl⟩
  rw [← hr1] at H1 A1 hT hc
  obtain ⟨v1, a1, e1⟩ := r1
  simp only at H1 A1 hT hc
  obtain ⟨k, hk⟩ : ∃ k : Int, k = (v1 : Int) := ⟨_, rfl⟩
  rw [← hk] at H1 hT
  have t1 : (k == 1) = false := by rw [hk]; simp; omega
  have t2 : (k == 2) = false := by rw [hk]; simp; omega
  have HK : Hid (k = k) := hid rfl
  clear hk
  have HE : Hid (∀ wx, Rd wx base g l a1 e1 → Calls Try.prog 14 #[.pointer (some ⟨g, 0, none⟩)] wx fun x w' => x = .returned (.int .i64 e1) ∧ wx = w') := hid fun wx hx => rd_err base g l a1 e1 wx hx
  have HT := hid hT
  clear hr1 hT hc A1 ha hm
  have B2 := Blk.new w (vcells zv) 24
  have R0 := h.later ((Below.refl w.heap.size w).alloc (Nat.le_refl _) (.cells (vcells zv).toArray 24))
  have G0 := World.grownBy_alloc w (.cells (vcells zv).toArray 24) (some g)
  have hu := Try.underlying24
  clear h
  have hne : (some g : Option Nat) ≠ some w.heap.size := by simp; omega
  obtain ⟨be, hbe⟩ : ∃ b, b = (e1 != 0) := ⟨_, rfl⟩
  have ke : (e1 != 0) = be := hbe.symm
  clear hbe
  go_enter Try.func97, Try.ntmps97
  go_wp2_with fail
  refine (H1.out _ R0).mono ?_
  rintro x w2 ⟨rfl, R2, G2⟩
  replace B2 := B2.kept G2 hne
  have GG := G0.trans G2
  clear R0 G0 G2
  have B3 := Blk.new w2 (vcells zv) 24
  have T3 := B3.there 0 3 (Nat.le_refl _)
  have S3 := B3.wholeT (ds := (vcells (k, 0, ⟨#[]⟩))) rfl
  have LE3 : Le w2 (World.setCells (w2.alloc (.cells (vcells zv).toArray 24)) w2.heap.size 0 (vcells (k, 0, ⟨#[]⟩))) := below_sets (Nat.le_refl _) _ 0 ((Below.refl w2.heap.size w2).alloc (Nat.le_refl _) _)
  have O3 : ((vcells (k, 0, ⟨#[]⟩))).toArray.all (·.oneCell') = true := vcells_all _
  have hsz := GG.size
  clear B3
  obtain ⟨g3, hg3⟩ : ∃ z, z = w2.heap.size := ⟨_, rfl⟩
  have hb2 := B2.lt
  rw [← hg3] at T3 S3 LE3 hsz hb2
  have HG3 := hid hg3
  clear hg3
  go_wp2_with (first
    | (rw [← HG3.out]
       refine wpList_store_mid rfl 24 (.tmp 3) (.tmp 6) rfl g3 0 ((vcells (k, 0, ⟨#[]⟩))).toArray rfl rfl T3 info_val O3 ?_
       simp only [Act.put]
       generalize hw3 : World.setCells _ g3 0 ((vcells (k, 0, ⟨#[]⟩))).toArray.toList = w3
       have S3' : Blk w3 g3 (vcells (k, 0, ⟨#[]⟩)) := hw3 ▸ S3
       have LE3' : Le w2 w3 := hw3 ▸ LE3
       have q1 : w3.cell? ⟨g3, 0, none⟩ = some (.int .i64 k) := S3'.cell rfl
       clear hw3 T3 S3 LE3 O3)
    | fail)
  have hne3 : (some g : Option Nat) ≠ some g3 := by simp; omega
  have R3 := R2.later LE3'
  replace B2 := B2.later LE3'
  replace GG := GG.trans (grown_none LE3' _)
  clear R2 LE3' q1
  refine (HE.out _ R3).mono ?_
  rintro x w9 ⟨rfl, rfl⟩
  have S8 := S3'
  have R8 := R3
  have B8 := B2
  have G8 := GG
  clear S3' R3 B2 GG
  cases be
  · have T8 := B8.there 0 3 (Nat.le_refl _)
    have FIN := B8.wholeT (ds := (vcells (k, 0, ⟨#[]⟩))) rfl
    have O8 : ((vcells (k, 0, ⟨#[]⟩))).toArray.all (·.oneCell') = true := vcells_all _
    have RG := S8.range 0 (vcells (k, 0, ⟨#[]⟩)) rfl
    have R9 := R8.other (grown_sets4 w.heap.size (vcells (k, 0, ⟨#[]⟩)) 0 w3) (by omega)
    have G9 := grown_new G8 (grown_sets4 w.heap.size (vcells (k, 0, ⟨#[]⟩)) 0 w3) (by omega)
    clear S8 R8 B8 G8
    go_wp2_with (first
      | (refine wpList_load_mid rfl 24 (.tmp 3) rfl g3 0 rfl (vcells (k, 0, ⟨#[]⟩)) _ RG hu rfl info_val ?_)
      | (refine wpList_store_mid rfl 24 (.tmp 2) (.tmp 23) rfl w.heap.size 0 ((vcells (k, 0, ⟨#[]⟩))).toArray rfl rfl T8 info_val O8 ?_)
      | fail)
    exact bodyPost_ret (v := .agg ((vcells (k, 0, ⟨#[]⟩))).toArray) (tok_results (q := 2) rfl _ _ w.heap.size _ _ rfl FIN hu rfl info_val) rfl ⟨by rw [HT.out, valEnd_yes ke]; rfl, by rw [HT.out, valEnd_yes ke]; exact R9, G9⟩
  · have T8 := B8.there 0 3 (Nat.le_refl _)
    have FIN := B8.wholeT (ds := (vcells zv)) rfl
    have O8 : ((vcells zv)).toArray.all (·.oneCell') = true := vcells_all _
    have RG := S8.range 0 (vcells (k, 0, ⟨#[]⟩)) rfl
    have R9 := R8.other (grown_sets4 w.heap.size (vcells zv) 0 w3) (by omega)
    have G9 := grown_new G8 (grown_sets4 w.heap.size (vcells zv) 0 w3) (by omega)
    clear S8 R8 B8 G8
    go_wp2_with (first
      | (refine wpList_store_mid rfl 24 (.tmp 2) (.tmp 22) rfl w.heap.size 0 ((vcells zv)).toArray rfl rfl T8 info_val O8 ?_)
      | fail)
    exact bodyPost_ret (v := .agg ((vcells zv)).toArray) (tok_results (q := 2) rfl _ _ w.heap.size _ _ rfl FIN hu rfl info_val) rfl ⟨by rw [HT.out, valEnd_no ke], by rw [HT.out, valEnd_no ke]; exact R9, G9⟩
theorem rd_value1 (base g : Nat) (l : List UInt8) (a : Nat) (e : Int) (w : World) (h : Rd w base g l a e) (ha : a ≤ l.length) (hm : l.length ≤ 4000) (hc : (numOut l a e 2).1 = 1) (T : V3 × Nat × Int) (hT : T = valEnd 1 ((numOut l (numOut l a e 2).2.1 (numOut l a e 2).2.2 1099511627776).1 : Nat) [] (numOut l (numOut l a e 2).2.1 (numOut l a e 2).2.2 1099511627776).2.1 (numOut l (numOut l a e 2).2.1 (numOut l a e 2).2.2 1099511627776).2.2) :
    Calls Try.prog 97 #[.pointer (some ⟨g, 0, none⟩)] w fun x w' => x = .returned (.agg (vcells T.1).toArray) ∧ Rd w' base g l T.2.1 T.2.2 ∧ w.grownBy w' (some g) := by
  have hg := h.block.2
  have A1 := numOut_at l a e 2 ha
  have H1 : Hid (∀ wx, Rd wx base g l a e → Calls Try.prog 67 #[.pointer (some ⟨g, 0, none⟩), .int .i64 2] wx fun x w' => x = .returned (.int .i64 ((numOut l a e 2).1 : Nat)) ∧ Rd w' base g l (numOut l a e 2).2.1 (numOut l a e 2).2.2 ∧ wx.grownBy w' (some g)) := hid fun wx hx => rd_num base g l a e 2 wx hx ha (by omega)
  obtain ⟨r1, hr1⟩ : ∃ r, r = numOut l a e 2 := ⟨_, rfl⟩
  rw [← hr1] at H1 A1 hT hc
  obtain ⟨v1, a1, e1⟩ := r1
  simp only at H1 A1 hT hc
  have H2 : Hid (∀ wx, Rd wx base g l a1 e1 → Calls Try.prog 67 #[.pointer (some ⟨g, 0, none⟩), .int .i64 1099511627776] wx fun x w' => x = .returned (.int .i64 ((numOut l a1 e1 1099511627776).1 : Nat)) ∧ Rd w' base g l (numOut l a1 e1 1099511627776).2.1 (numOut l a1 e1 1099511627776).2.2 ∧ wx.grownBy w' (some g)) := hid fun wx hx => rd_num base g l a1 e1 1099511627776 wx hx A1 (by omega)
  obtain ⟨r2, hr2⟩ : ∃ r, r = numOut l a1 e1 1099511627776 := ⟨_, rfl⟩
  rw [← hr2] at H2 hT
  obtain ⟨v2, a5, e5⟩ := r2
  simp only at H2 hT
  obtain ⟨k, hk⟩ : ∃ k : Int, k = (v1 : Int) := ⟨_, rfl⟩
  rw [← hk] at H1
  obtain ⟨n, hn⟩ : ∃ n : Int, n = (v2 : Int) := ⟨_, rfl⟩
  rw [← hn] at H2 hT
  have t1 : (k == 1) = true := by rw [hk, hc]; rfl
  have t2 : (k == 2) = false := by rw [hk, hc]; rfl
  have HK : Hid (k = 1) := hid (by rw [hk, hc]; rfl)
  clear hk hn hr2
  have HE : Hid (∀ wx, Rd wx base g l a5 e5 → Calls Try.prog 14 #[.pointer (some ⟨g, 0, none⟩)] wx fun x w' => x = .returned (.int .i64 e5) ∧ wx = w') := hid fun wx hx => rd_err base g l a5 e5 wx hx
  have HT := hid hT
  clear hr1 hT hc A1 ha hm
  have B2 := Blk.new w (vcells zv) 24
  have R0 := h.later ((Below.refl w.heap.size w).alloc (Nat.le_refl _) (.cells (vcells zv).toArray 24))
  have G0 := World.grownBy_alloc w (.cells (vcells zv).toArray 24) (some g)
  have hu := Try.underlying24
  clear h
  have hne : (some g : Option Nat) ≠ some w.heap.size := by simp; omega
  obtain ⟨be, hbe⟩ : ∃ b, b = (e5 != 0) := ⟨_, rfl⟩
  have ke : (e5 != 0) = be := hbe.symm
  clear hbe
  go_enter Try.func97, Try.ntmps97
  go_wp2_with fail
  refine (H1.out _ R0).mono ?_
  rintro x w2 ⟨rfl, R2, G2⟩
  replace B2 := B2.kept G2 hne
  have GG := G0.trans G2
  clear R0 G0 G2
  have B3 := Blk.new w2 (vcells zv) 24
  have T3 := B3.there 0 3 (Nat.le_refl _)
  have S3 := B3.wholeT (ds := (vcells (k, 0, ⟨#[]⟩))) rfl
  have LE3 : Le w2 (World.setCells (w2.alloc (.cells (vcells zv).toArray 24)) w2.heap.size 0 (vcells (k, 0, ⟨#[]⟩))) := below_sets (Nat.le_refl _) _ 0 ((Below.refl w2.heap.size w2).alloc (Nat.le_refl _) _)
  have O3 : ((vcells (k, 0, ⟨#[]⟩))).toArray.all (·.oneCell') = true := vcells_all _
  have hsz := GG.size
  clear B3
  obtain ⟨g3, hg3⟩ : ∃ z, z = w2.heap.size := ⟨_, rfl⟩
  have hb2 := B2.lt
  rw [← hg3] at T3 S3 LE3 hsz hb2
  have HG3 := hid hg3
  clear hg3
  go_wp2_with (first
    | (rw [← HG3.out]
       refine wpList_store_mid rfl 24 (.tmp 3) (.tmp 6) rfl g3 0 ((vcells (k, 0, ⟨#[]⟩))).toArray rfl rfl T3 info_val O3 ?_
       simp only [Act.put]
       generalize hw3 : World.setCells _ g3 0 ((vcells (k, 0, ⟨#[]⟩))).toArray.toList = w3
       have S3' : Blk w3 g3 (vcells (k, 0, ⟨#[]⟩)) := hw3 ▸ S3
       have LE3' : Le w2 w3 := hw3 ▸ LE3
       have q1 : w3.cell? ⟨g3, 0, none⟩ = some (.int .i64 k) := S3'.cell rfl
       clear hw3 T3 S3 LE3 O3)
    | fail)
  have hne3 : (some g : Option Nat) ≠ some g3 := by simp; omega
  have R3 := R2.later LE3'
  replace B2 := B2.later LE3'
  replace GG := GG.trans (grown_none LE3' _)
  clear R2 LE3' q1
  refine (H2.out _ R3).mono ?_
  rintro x w5 ⟨rfl, R5, G5⟩
  replace B2 := B2.kept G5 hne
  have S5 := S3'.kept G5 hne3
  replace GG := GG.trans G5
  have f1 := S5.frozen 1
  have q1 : w5.cell? ⟨g3, 1, none⟩ = some (.int .i64 0) := S5.cell rfl
  have S8 : Blk (w5.setCell ⟨g3, 1, none⟩ (.int .i64 n)) g3 (vcells (k, n, ⟨#[]⟩)) := S5.set 1 _
  have R8 := R5.other (grown_set1 w5 g3 1 (.int .i64 n)) (by omega)
  have B8 := B2.setOther (b := g3) 1 (.int .i64 n) (by omega)
  have G8 := grown_new GG (grown_set1 w5 g3 1 (.int .i64 n)) hsz
  clear R3 R5 G5 B2 S3' S5 GG
  go_wp2_with fail
  obtain ⟨w8, hw8⟩ : ∃ z, z = w5.setCell ⟨g3, 1, none⟩ (.int .i64 n) := ⟨_, rfl⟩
  rw [← hw8] at S8 R8 B8 G8 ⊢
  clear hw8 f1 q1
  refine (HE.out _ R8).mono ?_
  rintro x w9 ⟨rfl, rfl⟩
  cases be
  · have T8 := B8.there 0 3 (Nat.le_refl _)
    have FIN := B8.wholeT (ds := (vcells (k, n, ⟨#[]⟩))) rfl
    have O8 : ((vcells (k, n, ⟨#[]⟩))).toArray.all (·.oneCell') = true := vcells_all _
    have RG := S8.range 0 (vcells (k, n, ⟨#[]⟩)) rfl
    have R9 := R8.other (grown_sets4 w.heap.size (vcells (k, n, ⟨#[]⟩)) 0 w8) (by omega)
    have G9 := grown_new G8 (grown_sets4 w.heap.size (vcells (k, n, ⟨#[]⟩)) 0 w8) (by omega)
    clear S8 R8 B8 G8
    go_wp2_with (first
      | (refine wpList_load_mid rfl 24 (.tmp 3) rfl g3 0 rfl (vcells (k, n, ⟨#[]⟩)) _ RG hu rfl info_val ?_)
      | (refine wpList_store_mid rfl 24 (.tmp 2) (.tmp 23) rfl w.heap.size 0 ((vcells (k, n, ⟨#[]⟩))).toArray rfl rfl T8 info_val O8 ?_)
      | fail)
    exact bodyPost_ret (v := .agg ((vcells (k, n, ⟨#[]⟩))).toArray) (tok_results (q := 2) rfl _ _ w.heap.size _ _ rfl FIN hu rfl info_val) rfl ⟨by rw [HT.out, valEnd_yes ke]; rw [HK.out]; rfl, by rw [HT.out, valEnd_yes ke]; exact R9, G9⟩
  · have T8 := B8.there 0 3 (Nat.le_refl _)
    have FIN := B8.wholeT (ds := (vcells zv)) rfl
    have O8 : ((vcells zv)).toArray.all (·.oneCell') = true := vcells_all _
    have RG := S8.range 0 (vcells (k, n, ⟨#[]⟩)) rfl
    have R9 := R8.other (grown_sets4 w.heap.size (vcells zv) 0 w8) (by omega)
    have G9 := grown_new G8 (grown_sets4 w.heap.size (vcells zv) 0 w8) (by omega)
    clear S8 R8 B8 G8
    go_wp2_with (first
      | (refine wpList_store_mid rfl 24 (.tmp 2) (.tmp 22) rfl w.heap.size 0 ((vcells zv)).toArray rfl rfl T8 info_val O8 ?_)
      | fail)
    exact bodyPost_ret (v := .agg ((vcells zv)).toArray) (tok_results (q := 2) rfl _ _ w.heap.size _ _ rfl FIN hu rfl info_val) rfl ⟨by rw [HT.out, valEnd_no ke], by rw [HT.out, valEnd_no ke]; exact R9, G9⟩
theorem rd_value2 (base g : Nat) (l : List UInt8) (a : Nat) (e : Int) (w : World) (h : Rd w base g l a e) (ha : a ≤ l.length) (hm : l.length ≤ 4000) (hc : (numOut l a e 2).1 = 2) (T : V3 × Nat × Int) (hT : T = valEnd 2 0 (strOut l (numOut l a e 2).2.1 (numOut l a e 2).2.2 24).1 (strOut l (numOut l a e 2).2.1 (numOut l a e 2).2.2 24).2.1 (strOut l (numOut l a e 2).2.1 (numOut l a e 2).2.2 24).2.2) :
    Calls Try.prog 97 #[.pointer (some ⟨g, 0, none⟩)] w fun x w' => x = .returned (.agg (vcells T.1).toArray) ∧ Rd w' base g l T.2.1 T.2.2 ∧ w.grownBy w' (some g) := by
  have hg := h.block.2
  have A1 := numOut_at l a e 2 ha
  have H1 : Hid (∀ wx, Rd wx base g l a e → Calls Try.prog 67 #[.pointer (some ⟨g, 0, none⟩), .int .i64 2] wx fun x w' => x = .returned (.int .i64 ((numOut l a e 2).1 : Nat)) ∧ Rd w' base g l (numOut l a e 2).2.1 (numOut l a e 2).2.2 ∧ wx.grownBy w' (some g)) := hid fun wx hx => rd_num base g l a e 2 wx hx ha (by omega)
  obtain ⟨r1, hr1⟩ : ∃ r, r = numOut l a e 2 := ⟨_, rfl⟩
  rw [← hr1] at H1 A1 hT hc
  obtain ⟨v1, a1, e1⟩ := r1
  simp only at H1 A1 hT hc
  have H2 : Hid (∀ wx, Rd wx base g l a1 e1 → Calls Try.prog 106 #[.pointer (some ⟨g, 0, none⟩), .int .i64 24] wx fun x w' => x = .returned (.string (str (strOut l a1 e1 24).1)) ∧ Rd w' base g l (strOut l a1 e1 24).2.1 (strOut l a1 e1 24).2.2 ∧ wx.grownBy w' (some g)) := hid fun wx hx => rd_str base g l a1 e1 24 wx hx A1 (by omega)
  obtain ⟨r2, hr2⟩ : ∃ r, r = strOut l a1 e1 24 := ⟨_, rfl⟩
  rw [← hr2] at H2 hT
  obtain ⟨v2, a5, e5⟩ := r2
  simp only at H2 hT
  obtain ⟨k, hk⟩ : ∃ k : Int, k = (v1 : Int) := ⟨_, rfl⟩
  rw [← hk] at H1
  have t1 : (k == 1) = false := by rw [hk, hc]; rfl
  have t2 : (k == 2) = true := by rw [hk, hc]; rfl
  have HK : Hid (k = 2) := hid (by rw [hk, hc]; rfl)
  obtain ⟨sv, hsv⟩ : ∃ sv, sv = str v2 := ⟨_, rfl⟩
  rw [← hsv] at H2
  have HSV := hid hsv
  clear hk hr2 hsv
  have HE : Hid (∀ wx, Rd wx base g l a5 e5 → Calls Try.prog 14 #[.pointer (some ⟨g, 0, none⟩)] wx fun x w' => x = .returned (.int .i64 e5) ∧ wx = w') := hid fun wx hx => rd_err base g l a5 e5 wx hx
  have HT := hid hT
  clear hr1 hT hc A1 ha hm
  have B2 := Blk.new w (vcells zv) 24
  have R0 := h.later ((Below.refl w.heap.size w).alloc (Nat.le_refl _) (.cells (vcells zv).toArray 24))
  have G0 := World.grownBy_alloc w (.cells (vcells zv).toArray 24) (some g)
  have hu := Try.underlying24
  clear h
  have hne : (some g : Option Nat) ≠ some w.heap.size := by simp; omega
  obtain ⟨be, hbe⟩ : ∃ b, b = (e5 != 0) := ⟨_, rfl⟩
  have ke : (e5 != 0) = be := hbe.symm
  clear hbe
  go_enter Try.func97, Try.ntmps97
  go_wp2_with fail
  refine (H1.out _ R0).mono ?_
  rintro x w2 ⟨rfl, R2, G2⟩
  replace B2 := B2.kept G2 hne
  have GG := G0.trans G2
  clear R0 G0 G2
  have B3 := Blk.new w2 (vcells zv) 24
  have T3 := B3.there 0 3 (Nat.le_refl _)
  have S3 := B3.wholeT (ds := (vcells (k, 0, ⟨#[]⟩))) rfl
  have LE3 : Le w2 (World.setCells (w2.alloc (.cells (vcells zv).toArray 24)) w2.heap.size 0 (vcells (k, 0, ⟨#[]⟩))) := below_sets (Nat.le_refl _) _ 0 ((Below.refl w2.heap.size w2).alloc (Nat.le_refl _) _)
  have O3 : ((vcells (k, 0, ⟨#[]⟩))).toArray.all (·.oneCell') = true := vcells_all _
  have hsz := GG.size
  clear B3
  obtain ⟨g3, hg3⟩ : ∃ z, z = w2.heap.size := ⟨_, rfl⟩
  have hb2 := B2.lt
  rw [← hg3] at T3 S3 LE3 hsz hb2
  have HG3 := hid hg3
  clear hg3
  go_wp2_with (first
    | (rw [← HG3.out]
       refine wpList_store_mid rfl 24 (.tmp 3) (.tmp 6) rfl g3 0 ((vcells (k, 0, ⟨#[]⟩))).toArray rfl rfl T3 info_val O3 ?_
       simp only [Act.put]
       generalize hw3 : World.setCells _ g3 0 ((vcells (k, 0, ⟨#[]⟩))).toArray.toList = w3
       have S3' : Blk w3 g3 (vcells (k, 0, ⟨#[]⟩)) := hw3 ▸ S3
       have LE3' : Le w2 w3 := hw3 ▸ LE3
       have q1 : w3.cell? ⟨g3, 0, none⟩ = some (.int .i64 k) := S3'.cell rfl
       clear hw3 T3 S3 LE3 O3)
    | fail)
  have hne3 : (some g : Option Nat) ≠ some g3 := by simp; omega
  have R3 := R2.later LE3'
  replace B2 := B2.later LE3'
  replace GG := GG.trans (grown_none LE3' _)
  clear R2 LE3' q1
  refine (H2.out _ R3).mono ?_
  rintro x w5 ⟨rfl, R5, G5⟩
  replace B2 := B2.kept G5 hne
  have S5 := S3'.kept G5 hne3
  replace GG := GG.trans G5
  have f1 := S5.frozen 2
  have q1 : w5.cell? ⟨g3, 2, none⟩ = some (.string ⟨#[]⟩) := S5.cell rfl
  have S8 : Blk (w5.setCell ⟨g3, 2, none⟩ (.string sv)) g3 (vcells (k, 0, sv)) := S5.set 2 _
  have R8 := R5.other (grown_set1 w5 g3 2 (.string sv)) (by omega)
  have B8 := B2.setOther (b := g3) 2 (.string sv) (by omega)
  have G8 := grown_new GG (grown_set1 w5 g3 2 (.string sv)) hsz
  clear R3 R5 G5 B2 S3' S5 GG
  go_wp2_with fail
  obtain ⟨w8, hw8⟩ : ∃ z, z = w5.setCell ⟨g3, 2, none⟩ (.string sv) := ⟨_, rfl⟩
  rw [← hw8] at S8 R8 B8 G8 ⊢
  clear hw8 f1 q1
  refine (HE.out _ R8).mono ?_
  rintro x w9 ⟨rfl, rfl⟩
  cases be
  · have T8 := B8.there 0 3 (Nat.le_refl _)
    have FIN := B8.wholeT (ds := (vcells (k, 0, sv))) rfl
    have O8 : ((vcells (k, 0, sv))).toArray.all (·.oneCell') = true := vcells_all _
    have RG := S8.range 0 (vcells (k, 0, sv)) rfl
    have R9 := R8.other (grown_sets4 w.heap.size (vcells (k, 0, sv)) 0 w8) (by omega)
    have G9 := grown_new G8 (grown_sets4 w.heap.size (vcells (k, 0, sv)) 0 w8) (by omega)
    clear S8 R8 B8 G8
    go_wp2_with (first
      | (refine wpList_load_mid rfl 24 (.tmp 3) rfl g3 0 rfl (vcells (k, 0, sv)) _ RG hu rfl info_val ?_)
      | (refine wpList_store_mid rfl 24 (.tmp 2) (.tmp 23) rfl w.heap.size 0 ((vcells (k, 0, sv))).toArray rfl rfl T8 info_val O8 ?_)
      | fail)
    exact bodyPost_ret (v := .agg ((vcells (k, 0, sv))).toArray) (tok_results (q := 2) rfl _ _ w.heap.size _ _ rfl FIN hu rfl info_val) rfl ⟨by rw [HT.out, valEnd_yes ke]; rw [HK.out, HSV.out], by rw [HT.out, valEnd_yes ke]; exact R9, G9⟩
  · have T8 := B8.there 0 3 (Nat.le_refl _)
    have FIN := B8.wholeT (ds := (vcells zv)) rfl
    have O8 : ((vcells zv)).toArray.all (·.oneCell') = true := vcells_all _
    have RG := S8.range 0 (vcells (k, 0, sv)) rfl
    have R9 := R8.other (grown_sets4 w.heap.size (vcells zv) 0 w8) (by omega)
    have G9 := grown_new G8 (grown_sets4 w.heap.size (vcells zv) 0 w8) (by omega)
    clear S8 R8 B8 G8
    go_wp2_with (first
      | (refine wpList_store_mid rfl 24 (.tmp 2) (.tmp 22) rfl w.heap.size 0 ((vcells zv)).toArray rfl rfl T8 info_val O8 ?_)
      | fail)
    exact bodyPost_ret (v := .agg ((vcells zv)).toArray) (tok_results (q := 2) rfl _ _ w.heap.size _ _ rfl FIN hu rfl info_val) rfl ⟨by rw [HT.out, valEnd_no ke], by rw [HT.out, valEnd_no ke]; exact R9, G9⟩
theorem rd_value (base g : Nat) (l : List UInt8) (a : Nat) (e : Int) (w : World) (h : Rd w base g l a e) (ha : a ≤ l.length) (hm : l.length ≤ 4000) :
    Calls Try.prog 97 #[.pointer (some ⟨g, 0, none⟩)] w fun x w' => x = .returned (.agg (vcells (valOut l a e).1).toArray) ∧ Rd w' base g l (valOut l a e).2.1 (valOut l a e).2.2 ∧ w.grownBy w' (some g) := by
  by_cases c1 : (numOut l a e 2).1 = 1
  · exact rd_value1 base g l a e w h ha hm c1 _ (by unfold valOut; rw [if_pos c1])
  · by_cases c2 : (numOut l a e 2).1 = 2
    · exact rd_value2 base g l a e w h ha hm c2 _ (by unfold valOut; rw [if_neg c1, if_pos c2])
    · exact rd_value0 base g l a e w h ha hm ⟨c1, c2⟩ _ (by unfold valOut; rw [if_neg c1, if_neg c2])
end Go.Proofs.Ytnhcjadkbogioaa
namespace Go.Proofs.Ytnhcjadkbogioaa
open Go.RowKit BitM
theorem bit_any (n : Int) (w : World) : Calls Try.prog 111 #[.int .i64 n] w fun e w' => e = .returned (.int .u32 ((one n).toNat : Int)) ∧ w = w' := by
  by_cases h : 0 ≤ n ∧ n < 32
  · obtain ⟨k, rfl⟩ := Int.eq_ofNat_of_zero_le h.1
    have hk : k < 32 := by omega
    have d1 : decide ((k : Int) < 0) = false := by simp
    have d2 : decide ((32 : Int) ≤ (k : Int)) = false := by simp; omega
    have h2 : (2 : Int) ^ k % 4294967296 = ((2 ^ k : Nat) : Int) := by
      have hlt : (2 : Nat) ^ k < 2 ^ 32 := Nat.pow_lt_pow_right (by omega) hk
      have h3 : ((2 ^ k : Nat) : Int) = (2 : Int) ^ k := by simp
      rw [← h3]
      exact Int.emod_eq_of_lt (Int.natCast_nonneg _) (by rw [show (2 : Nat) ^ 32 = 4294967296 from rfl] at hlt; exact Int.ofNat_lt.2 hlt)
    have H2 := hid h2
    clear h2
    have h1 := two_pow_nat hk
    rw [one_in hk, h1]
    clear h1
    go_enter Try.func111, Try.ntmps111
    go_wp2
    go_ret
    refine ⟨?_, rfl⟩
    show Ending.returned (.int .u32 ((2 : Int) ^ k % 4294967296)) = _
    rw [H2.out]
  · rw [one_out h]
    by_cases h0 : n < 0
    · have d1 : decide (n < 0) = true := by simpa using h0
      go_enter Try.func111, Try.ntmps111
      go_wp2
      go_ret
      exact ⟨rfl, rfl⟩
    · have d1 : decide (n < 0) = false := by simpa using h0
      have d2 : decide (32 ≤ n) = true := by simp; omega
      go_enter Try.func111, Try.ntmps111
      go_wp2
      go_ret
      exact ⟨rfl, rfl⟩
theorem has_any (x : BitVec 32) (n : Int) (w : World) : Calls Try.prog 110 #[.int .u32 (x.toNat : Int), .int .i64 n] w fun e w' => e = .returned (.bool (has x n)) ∧ w = w' := by
  have h1 := BitM.u32_and x (one n)
  have h2 := (nat_ne0 (x &&& one n)).trans (and_one x n)
  generalize x &&& one n = r at h1 h2
  go_enter Try.func110, Try.ntmps110
  go_wp2_with fail
  refine (bit_any n _).mono ?_
  rintro e w' ⟨rfl, rfl⟩
  go_wp2_with fail
  go_ret
  exact ⟨rfl, rfl⟩
theorem within_any (x y : BitVec 32) (w : World) : Calls Try.prog 86 #[.int .u32 (x.toNat : Int), .int .u32 (y.toNat : Int)] w fun e w' => e = .returned (.bool (x &&& ~~~y == 0#32)) ∧ w = w' := by
  have h1 := BitM.u32_andNot x y
  have h2 := nat_eq0 (x &&& ~~~y)
  generalize x &&& ~~~y = r at h1 h2 ⊢
  go_enter Try.func86, Try.ntmps86
  go_wp2_with fail
  go_ret
  exact ⟨rfl, rfl⟩
theorem rhas_any (x : BitVec 32) (n : Int) (w : World) : Calls Try.prog 60 #[.int .u32 (x.toNat : Int), .int .i64 n] w fun e w' => e = .returned (.bool (has x n)) ∧ w = w' := by
  by_cases h : 0 ≤ n ∧ n < 32
  · obtain ⟨k, rfl⟩ := Int.eq_ofNat_of_zero_le h.1
    have hk : k < 32 := by omega
    have d1 : decide ((k : Int) < 0) = false := by simp
    have d2 : decide ((31 : Int) < (k : Int)) = false := by simp; omega
    have HB := hid (bit_of_div x hk)
    have hx := x.isLt
    obtain ⟨X, hX⟩ : ∃ X, X = x.toNat := ⟨_, rfl⟩
    rw [← hX] at HB hx ⊢
    clear hX h
    go_enter Try.func60, Try.ntmps60
    go_wp2_with fail
    go_loop [0, 5] (fun s i => ∃ (j m : Nat), j ≤ k ∧ i = .int .i64 j ∧ s = .int .u32 m ∧ m < 4294967296 ∧ Hid (m = X / 2 ^ j)) (fun _ i => k - (intOf i).toNat)
    case atStart => exact ⟨0, X, by omega, rfl, rfl, by omega, hid (by simp)⟩
    case round =>
      obtain ⟨j, m, hj, rfl, rfl, hm, HM⟩ := hrel
      by_cases hlt : j < k
      · go_wp2_with fail
        go_round
        case rel => exact ⟨j + 1, m / 2, by omega, by go_num, by go_num, by omega, hid (by rw [HM.out, Nat.div_div_eq_div_mul, Nat.pow_succ])⟩
        case measure => simp [intOf]; omega
      · obtain rfl : j = k := by omega
        have hb : ((m : Int) % 2 == 1) = has x (j : Int) := by rw [← HB.out, ← HM.out]; rfl
        clear HB HM
        go_wp2_with fail
        go_ret
        exact ⟨rfl, rfl⟩
  · rw [has_out x h]
    by_cases h0 : n < 0
    · have d1 : decide (n < 0) = true := by simpa using h0
      go_enter Try.func60, Try.ntmps60
      go_wp2
      go_ret
      exact ⟨rfl, rfl⟩
    · have d1 : decide (n < 0) = false := by simpa using h0
      have d2 : decide (31 < n) = true := by simp; omega
      go_enter Try.func60, Try.ntmps60
      go_wp2
      go_ret
      exact ⟨rfl, rfl⟩
end Go.Proofs.Ytnhcjadkbogioaa
namespace Go.Proofs.Ytnhcjadkbogioaa
open Go Go.RowKit BitM
def empty : ByteArray := ⟨#[]⟩
def vchk (v : V3) : Bool :=
  if v.1 = 0 then decide (v.2.1 = 0 ∧ v.2.2 = empty)
  else if v.1 = 1 then decide (0 ≤ v.2.1 ∧ v.2.1 ≤ 1099511627776 ∧ v.2.2 = empty)
  else if v.1 = 2 then decide (v.2.1 = 0 ∧ v.2.2.size ≤ 24)
  else false
theorem nil_str_iff (s : ByteArray) : s.toList = [] ↔ s = empty := by
  rw [ByteArray.toList_eq]
  constructor
  · intro h
    apply ByteArray.ext
    apply Array.ext'
    simpa [empty] using h
  · rintro rfl; rfl
theorem vchk_0 (n : Int) (s : ByteArray) : vchk (0, n, s) = decide (n = 0 ∧ s.toList = []) := by
  unfold vchk
  simp only [if_true, nil_str_iff]
theorem vchk_1 (n : Int) (s : ByteArray) : vchk (1, n, s) = decide (0 ≤ n ∧ n ≤ 1099511627776 ∧ s.toList = []) := by
  unfold vchk
  simp only [nil_str_iff]
  rfl
theorem vchk_2 (n : Int) (s : ByteArray) : vchk (2, n, s) = decide (n = 0 ∧ s.size ≤ 24) := rfl
theorem vchk_3 {k : Int} (n : Int) (s : ByteArray) (h0 : k ≠ 0) (h1 : k ≠ 1) (h2 : k ≠ 2) : vchk (k, n, s) = false := by
  unfold vchk
  simp only [h0, h1, h2, if_false]
theorem vcheck_any (k n : Int) (s : ByteArray) (w : World) :
    Calls Try.prog 88 #[.agg #[.int .i64 k, .int .i64 n, .string s]] w fun e w' => e = .returned (.bool (vchk (k, n, s))) ∧ Below w.heap.size w w' := by
  by_cases h0 : k = 0
  · subst h0
    rw [vchk_0]
    go_enter Try.func88, Try.ntmps88
    go_wp2
    all_goals
      go_ret
      refine ⟨congrArg (fun b => Ending.returned (.bool b)) ?_, (Below.refl _ _).alloc (Nat.le_refl _) _⟩
      first | (simp_all; done) | (cases hs : s.toList <;> simp_all; done) | (simp_all; omega) | (cases hs : s.toList <;> simp_all <;> omega)
  by_cases h1 : k = 1
  · subst h1
    rw [vchk_1]
    go_enter Try.func88, Try.ntmps88
    go_wp2
    all_goals
      go_ret
      refine ⟨congrArg (fun b => Ending.returned (.bool b)) ?_, (Below.refl _ _).alloc (Nat.le_refl _) _⟩
      first | (simp_all; done) | (cases hs : s.toList <;> simp_all; done) | (simp_all; omega) | (cases hs : s.toList <;> simp_all <;> omega)
  by_cases h2 : k = 2
  · subst h2
    rw [vchk_2]
    go_enter Try.func88, Try.ntmps88
    go_wp2
    all_goals
      go_ret
      refine ⟨congrArg (fun b => Ending.returned (.bool b)) ?_, (Below.refl _ _).alloc (Nat.le_refl _) _⟩
      first | (simp_all; done) | (cases hs : s.toList <;> simp_all; done) | (simp_all; omega) | (cases hs : s.toList <;> simp_all <;> omega)
  · rw [vchk_3 n s h0 h1 h2]
    have b0 : (k == 0) = false := by simpa using h0
    have b1 : (k == 1) = false := by simpa using h1
    have b2 : (k == 2) = false := by simpa using h2
    clear h0 h1 h2
    go_enter Try.func88, Try.ntmps88
    go_wp2
    go_ret
    exact ⟨rfl, (Below.refl _ _).alloc (Nat.le_refl _) _⟩
theorem rvcheck_any (k n : Int) (s : ByteArray) (w : World) :
    Calls Try.prog 77 #[.agg #[.int .i64 k, .int .i64 n, .string s]] w fun e w' => e = .returned (.bool (vchk (k, n, s))) ∧ Below w.heap.size w w' := by
  by_cases h0 : k = 0
  · subst h0
    rw [vchk_0]
    go_enter Try.func77, Try.ntmps77
    go_wp2
    all_goals
      go_ret
      refine ⟨congrArg (fun b => Ending.returned (.bool b)) ?_, (Below.refl _ _).alloc (Nat.le_refl _) _⟩
      first | (simp_all; done) | (cases hs : s.toList <;> simp_all; done) | (simp_all; omega) | (cases hs : s.toList <;> simp_all <;> omega)
  by_cases h1 : k = 1
  · subst h1
    rw [vchk_1]
    go_enter Try.func77, Try.ntmps77
    go_wp2
    all_goals
      go_ret
      refine ⟨congrArg (fun b => Ending.returned (.bool b)) ?_, (Below.refl _ _).alloc (Nat.le_refl _) _⟩
      first | (simp_all; done) | (cases hs : s.toList <;> simp_all; done) | (simp_all; omega) | (cases hs : s.toList <;> simp_all <;> omega)
  by_cases h2 : k = 2
  · subst h2
    rw [vchk_2]
    go_enter Try.func77, Try.ntmps77
    go_wp2
    all_goals
      go_ret
      refine ⟨congrArg (fun b => Ending.returned (.bool b)) ?_, (Below.refl _ _).alloc (Nat.le_refl _) _⟩
      first | (simp_all; done) | (cases hs : s.toList <;> simp_all; done) | (simp_all; omega) | (cases hs : s.toList <;> simp_all <;> omega)
  · rw [vchk_3 n s h0 h1 h2]
    have b0 : (k == 0) = false := by simpa using h0
    have b1 : (k == 1) = false := by simpa using h1
    have b2 : (k == 2) = false := by simpa using h2
    clear h0 h1 h2
    go_enter Try.func77, Try.ntmps77
    go_wp2
    go_ret
    exact ⟨rfl, (Below.refl _ _).alloc (Nat.le_refl _) _⟩
def tooLong (f : List V3) : Bool := f.any fun v => decide (200 < v.2.2.size)
theorem box_cells (w : World) (f : List V3) (T : TypeId) (k : Nat) (hk : k < f.length) :
    (w.alloc (.cells (fcells f).toArray T)).cell? ⟨w.heap.size, k * 3, none⟩ = some (.int .i64 f[k].1) ∧ (w.alloc (.cells (fcells f).toArray T)).cell? ⟨w.heap.size, k * 3 + 1, none⟩ = some (.int .i64 f[k].2.1) ∧
      (w.alloc (.cells (fcells f).toArray T)).cell? ⟨w.heap.size, k * 3 + 2, none⟩ = some (.string f[k].2.2) := by
  have h := Blk.new w (fcells f) T
  have h2 := fcells_get f k hk
  rw [Nat.mul_comm k 3]
  exact ⟨h.cell h2.1, h.cell h2.2.1, h.cell h2.2.2⟩
theorem large_any (f : List V3) (w : World) (hf : f.length = 8) :
    Calls Try.prog 17 #[.agg (fcells f).toArray] w fun e w' => e = .returned (.bool (tooLong f)) ∧ Below w.heap.size w w' := by
  have HB := hid (box_cells w f 25)
  obtain ⟨arr, harr⟩ : ∃ arr, arr = (fcells f).toArray := ⟨_, rfl⟩
  rw [← harr] at HB ⊢
  clear harr
  have HF := hid hf
  clear hf
  go_enter Try.func17, Try.ntmps17
  go_wp2_with fail
  go_loop [3] (fun i => ∃ k : Nat, k ≤ 8 ∧ i = .int .i64 k ∧ Hid (tooLong (f.take k) = false)) (fun i => 8 - (intOf i).toNat)
  case atStart => exact ⟨0, by omega, rfl, hid rfl⟩
  case round =>
    obtain ⟨k, hk, rfl, HT⟩ := hrel
    by_cases hlt : k < 8
    · have hkl : k < f.length := by rw [HF.out]; exact hlt
      obtain ⟨_, _, hc⟩ := HB.out k hkl
      obtain ⟨s, hs⟩ : ∃ s, s = f[k].2.2 := ⟨_, rfl⟩
      rw [← hs] at hc
      have HS := hid hs
      clear hs
      have d1 : decide ((k : Int) < 8) = true := by simp; omega
      have HN : Hid (tooLong (f.take (k + 1)) = decide (200 < s.size)) := by
        show _ = _
        rw [List.take_succ_eq_append_getElem hkl, HS.out]
        have := HT.out
        unfold tooLong at this ⊢
        rw [List.any_append, this]
        simp
      by_cases hgt : 200 < s.size
      · have d2 : decide ((200 : Int) < (s.size : Int)) = true := by simp; omega
        go_wp2_with fail
        go_ret
        refine ⟨?_, (Below.refl _ _).alloc (Nat.le_refl _) _⟩
        have h2 : tooLong f = true := by
          have h3 := HN.out
          rw [decide_eq_true hgt] at h3
          unfold tooLong at h3 ⊢
          rw [← List.take_append_drop (k + 1) f, List.any_append, h3]
          rfl
        rw [h2]
        rfl
      · have d2 : decide ((200 : Int) < (s.size : Int)) = false := by simp; omega
        go_wp2_with fail
        go_round
        case rel => exact ⟨k + 1, by omega, by go_num, hid (by rw [HN.out, decide_eq_false hgt])⟩
        case measure => simp [intOf]; omega
    · obtain rfl : k = 8 := by omega
      go_wp2
      go_ret
      have := HT.out
      rw [List.take_of_length_le (by rw [HF.out]; exact Nat.le_refl 8)] at this
      exact ⟨by rw [this]; rfl, (Below.refl _ _).alloc (Nat.le_refl _) _⟩
end Go.Proofs.Ytnhcjadkbogioaa
namespace Go.Proofs.Ytnhcjadkbogioaa
open Go Go.RowKit Go.Shelf BitM
attribute [local go_sem] Oper.semAt_some
def lst (x : BitVec 32) (k : Nat) : List Int := ((List.range k).filter fun i : Nat => has x (i : Int)).map fun i : Nat => (i : Int)
theorem lst_succ (x : BitVec 32) (k : Nat) : lst x (k + 1) = lst x k ++ if has x (k : Int) = true then [(k : Int)] else [] := by
  unfold lst
  rw [List.range_succ, List.filter_append, List.map_append]
  congr 1
  cases h : has x (k : Int) <;> simp [h]
theorem lst_len (x : BitVec 32) (k : Nat) : (lst x k).length ≤ k := by
  unfold lst
  rw [List.length_map]
  have := List.length_filter_le (fun i : Nat => has x (i : Int)) (List.range k)
  simpa using this
theorem lst_pre (x : BitVec 32) {j k : Nat} (h : j ≤ k) : lst x j <+: lst x k := by
  induction k with
  | zero => obtain rfl : j = 0 := by omega
            exact List.prefix_refl _
  | succ k ih =>
    by_cases e : j = k + 1
    · subst e; exact List.prefix_refl _
    · exact (ih (by omega)).trans (by rw [lst_succ]; exact List.prefix_append _ _)
theorem each1_in (n : Nat) (hn : 1 ≤ n) (l Bn n₀ : Nat) (x : BitVec 32) (J Jx : List Int → World → Prop) (hB : Bn < n₀)
    (hY : ∀ pre y W, J pre W → pre.length < 32 → YieldAt Fence.wide (n - 1) Try.prog l #[.int .i64 y] W fun e W' =>
      (e = .returned (.bool true) ∧ J (pre ++ [y]) W' ∧ Below n₀ W W') ∨ (e = .returned (.bool false) ∧ Jx (pre ++ [y]) W'))
    (W : World) (hBn : W.cell? ⟨Bn, 0, none⟩ = some (.int .u32 (x.toNat : Int))) (h0 : J [] W) :
    CallsIn Fence.wide n Try.prog 109 #[.func (.yield l) #[] #[], .pointer (some ⟨Bn, 0, none⟩)] W fun e W' => (∃ v, e = .returned v) ∧
      ((∃ ys, ys = lst x 32 ∧ J ys W') ∨ (∃ pre, pre <+: lst x 32 ∧ Jx pre W')) := by
  refine callsIn_of_wp Try.func109 rfl trivial ?_ rfl
  simp only [Try.ntmps109, List.size_toArray, List.length_cons, List.length_nil, Nat.reduceAdd, Nat.reduceSub, Array.replicate_succ, Array.replicate_zero, List.push_toArray, List.append_toArray, List.nil_append, List.cons_append]
  gi_wp2
  gi_loopw [4] (fun i wr => ∃ k : Nat, k ≤ 32 ∧ i = .int .i64 k ∧ J (lst x k) wr ∧ wr.cell? ⟨Bn, 0, none⟩ = some (.int .u32 (x.toNat : Int)))
    (fun i wr => 32 - (intOf i).toNat)
  case atStart => exact ⟨0, by omega, rfl, h0, hBn⟩
  case round =>
    obtain ⟨k, hk, rfl, hJ, hc⟩ := hrel
    by_cases hlt : k < 32
    · have d1 : decide ((k : Int) < 32) = true := by simp; omega
      cases hb : has x (k : Int) with
      | true =>
        have HS := hid (show lst x (k + 1) = lst x k ++ [(k : Int)] from by rw [lst_succ, hb]; rfl)
        have hlen := lst_len x k
        obtain ⟨fn, tmps, assign, body, hy, hR⟩ := hY (lst x k) (k : Int) wr hJ (by omega)
        have HH := hid (has_any x (k : Int) wr)
        rw [hb] at HH
        clear hb
        gi_wp2_with fail
        refine ⟨trivial, (callsIn_wide.2 HH.out).mono ?_⟩
        rintro e w' ⟨rfl, rfl⟩
        gi_wp2
        refine hR.mono ?_
        rintro e W3 (⟨rfl, hJ3, hk3⟩ | ⟨rfl, hJx3⟩)
        · have hc3 := (hk3.cell (p := ⟨Bn, 0, none⟩) hB).trans hc
          gi_wp2
          go_roundw
          case rel => exact ⟨k + 1, by omega, by go_num, by rw [HS.out]; exact hJ3, hc3⟩
          case measure => simp [intOf]; omega
        · gi_wp2
          refine bodyPost_ret (results_none rfl _ _ _) rfl ?_
          exact ⟨⟨_, rfl⟩, .inr ⟨lst x k ++ [(k : Int)], by rw [← HS.out]; exact lst_pre x (by omega), hJx3⟩⟩
      | false =>
        have HS := hid (show lst x (k + 1) = lst x k from by rw [lst_succ, hb]; simp)
        have HH := hid (has_any x (k : Int) wr)
        rw [hb] at HH
        clear hb
        gi_wp2_with fail
        refine ⟨trivial, (callsIn_wide.2 HH.out).mono ?_⟩
        rintro e w' ⟨rfl, rfl⟩
        gi_wp2
        refine ⟨fun _ h => (by cases h), ?_⟩
        gi_wp2
        go_roundw
        case rel => exact ⟨k + 1, by omega, by go_num, by rw [HS.out]; exact hJ, hc⟩
        case measure => simp [intOf]; omega
    · obtain rfl : k = 32 := by omega
      gi_wp2
      go_end0
      exact ⟨⟨_, rfl⟩, .inl ⟨_, rfl, hJ⟩⟩
theorem each_any (x : BitVec 32) (w : World) : Calls Try.prog 104 #[.int .u32 (x.toNat : Int)] w fun e w' =>
    e = .returned (.func (.func 109) #[] #[.pointer (some ⟨w.heap.size, 0, none⟩)]) ∧ w' = w.alloc (.cells #[.int .u32 (x.toNat : Int)] 22) := by
  go_enter Try.func104, Try.ntmps104
  go_wp2
  go_ret
  exact ⟨rfl, rfl⟩
theorem each_stops (n : Nat) (hn : 1 ≤ n) (Bn n₀ : Nat) (x : BitVec 32) (w : World) (hBn : Bn < w.heap.size) (hB : Bn < n₀) (hc : w.cell? ⟨Bn, 0, none⟩ = some (.int .u32 (x.toNat : Int))) :
    SeqStopsK Fence.wide n Try.prog 109 #[.pointer (some ⟨Bn, 0, none⟩)] (fun y : Int => #[Value.int .i64 y]) (Below n₀) (fun ys => ys = lst x 32) (fun pre => pre <+: lst x 32) 32 w :=
  fun l J Jx W hW _ _ hY h0 => each1_in n hn l Bn n₀ x J Jx hB hY W ((hW.cell (p := ⟨Bn, 0, none⟩) hBn).trans hc) h0
theorem info_int : (Try.prog.info? 3).map (fun i => (i.zero, i.size, i.bytes)) = some (some (.int .i64 0), 1, 8) := by kernel_rfl
theorem append_seq (x : BitVec 32) (Bn : Nat) (w : World) (hBn : Bn < w.heap.size) (hc : w.cell? ⟨Bn, 0, none⟩ = some (.int .u32 (x.toNat : Int))) :
    Calls Try.prog 108 #[.slice none 0 0, .func (.func 109) #[] #[.pointer (some ⟨Bn, 0, none⟩)]] w fun e W' =>
      ∃ v, e = .returned v ∧ W'.ownsRow w.heap.size 3 1 v (lst x 32).length ((lst x 32).map (Value.int .i64)) ∧ Below w.heap.size w W' := by
  refine (callsIn_wide (n := 5)).1 ?_
  obtain ⟨i0, hi, hz0, hz1, hz2⟩ := info_parts info_int
  refine callsIn_of_wp_marks Try.func108 rfl trivial ?_ rfl
  simp only [Try.ntmps108, List.size_toArray, List.length_cons, List.length_nil, Nat.reduceAdd, Nat.reduceSub, Array.replicate_succ, Array.replicate_zero, List.push_toArray, List.append_toArray, List.nil_append, List.cons_append]
  gi_wp2
  have bO := Boxed.new w 103 (.slice none 0 0)
  have hB0 : Below w.heap.size w (w.alloc (.cells #[.slice none 0 0] 103)) := (Below.refl _ w).alloc (Nat.le_refl _) _
  refine wpIn_rangeFunc_ownG (F := Fence.wide) rfl (by omega) (gf := 109) (lb := #[.pointer (some ⟨Bn, 0, none⟩)]) rfl trivial (enters_of Try.func109 (by kernel_rfl) rfl)
    (each_stops (5 - 1) (by omega) Bn w.heap.size x (w.alloc (.cells #[.slice none 0 0] 103)) (by simp; omega) hBn ((hB0.cell (p := ⟨Bn, 0, none⟩) hBn).trans hc)) belowK_t (belowK_b (by simp)) (Below.refl _ _) (fun _ => rfl)
    (fun pre W => (∃ v, Boxed W w.heap.size 103 v ∧ W.ownsRow w.heap.size 3 1 v pre.length (pre.map (Value.int .i64)) ∧ True) ∧ Below w.heap.size w W)
    (fun _ _ _ => False)
    (OwnFrom.and (Own.from (holdsRow_own w.heap.size w.heap.size 103 3 1 (fun pre : List Int => pre.length) (fun pre => pre.map (Value.int .i64)) (fun _ _ => True)) _) (ownFrom_below (Nat.le_refl _) (by simp)))
    (fun _ _ _ _ _ hs _ _ => hs)
    ⟨⟨_, bO, World.ownsRow_nil _ _ _ _, trivial⟩, hB0⟩
    (fun y => { tmps := #[.slice none 0 0, .func (.func 109) #[] #[.pointer (some ⟨Bn, 0, none⟩)], .pointer (some ⟨w.heap.size, 0, none⟩), undef, .slice none 0 0, .int .i64 y, .func (.func 109) #[] #[.pointer (some ⟨Bn, 0, none⟩)], .int .i64 y, undef, undef, undef, undef, undef], defers := [] }) ?assign ?body ?done ?stop
  case assign =>
    intro l y W K hK
    gi_wp2
    exact hK
  case body =>
    rintro l pre y W ⟨⟨v, hv, hrow, _⟩, hB⟩ hlt
    have hc := hv.cell
    have hm63 : pre.length + 1 ≤ maxLen := by unfold maxLen; omega
    gi_wp2_with (gi_at_builtin; refine wpListIn_append_own _ rfl _ _ 103 rfl w.heap.size 3 i0 (.int .i64 0) 1 8 Try.underlying103 hi hz0 hz1 hz2 rfl (by decide) _ _ _ rfl (hrow.alloc _) ⟨W.heap.size, 0, none⟩ 1 1 [.int .i64 y] rfl rfl (cell_one_new _ _ _) (by simp [Value.oneCell']) (by omega) (by omega) (by have := hB.size; simp; omega) ?_; intro v' w1 hown' hgrow _; obtain ⟨g', cap', rfl⟩ := ownsRow_succ hown'; obtain ⟨hv1, hv2, hr2, hk2, hb2⟩ := hv.appended (by decide) hrow hB.size (Nat.le_refl _) hown' hgrow; have hc1 := hv1.cell; have hf1 := hv1.frozen)
    exact ⟨hk2.from _, hb2, ⟨_, hv2, by simpa using hr2, trivial⟩, hB.trans hb2⟩
  case done =>
    rintro D ys W hD rfl ⟨⟨v, hv, hrow, _⟩, hB⟩ hK
    have hc := hv.cell
    gi_wp2
    refine ⟨by simp, .inl ⟨_, _, rfl, run_takeDeferred hK, ?_⟩⟩
    exact ⟨_, results_tmp rfl _ _ _, v, rfl, ownsRow_putObj hrow _ hK rfl, hB.trans (belowK_b (w := w) (Nat.le_refl _) W D _ _ (by simp at hD; omega) hK rfl rfl)⟩
  case stop =>
    rintro D c pre W _ _ h _
    exact h.elim
theorem collect_any (x : BitVec 32) (Bn : Nat) (w : World) (hBn : Bn < w.heap.size) (hc : w.cell? ⟨Bn, 0, none⟩ = some (.int .u32 (x.toNat : Int))) :
    Calls Try.prog 103 #[.func (.func 109) #[] #[.pointer (some ⟨Bn, 0, none⟩)]] w fun e W' =>
      ∃ v, e = .returned v ∧ W'.ownsRow w.heap.size 3 1 v (lst x 32).length ((lst x 32).map (Value.int .i64)) ∧ Below w.heap.size w W' := by
  have H := hid (append_seq x Bn w hBn hc)
  clear hc hBn
  go_enter Try.func103, Try.ntmps103
  go_wp2_with fail
  refine H.out.mono ?_
  rintro e w1 ⟨v, rfl, ho, hb⟩
  have HO := hid ho
  clear ho
  go_wp2_with fail
  go_ret
  exact ⟨v, rfl, HO.out, hb⟩
def flds (x : BitVec 32) : List Int := lst (x &&& 255#32) 32
theorem flds_len (x : BitVec 32) : (flds x).length ≤ 32 := lst_len _ _
theorem fields_any (x : BitVec 32) (w : World) : Calls Try.prog 87 #[.int .u32 (x.toNat : Int)] w fun e w' =>
    ∃ A c, e = .returned (.slice A (flds x).length c) ∧ Own w' w.heap.size 3 (.slice A (flds x).length c) (ivs (flds x)) ∧ Below w.heap.size w w' := by
  have h1 := BitM.u32_and x 255#32
  have h2 : (255 : Int) = ((255#32 : BitVec 32).toNat : Int) := rfl
  rw [← h2] at h1
  unfold flds
  generalize x &&& 255#32 = r at h1 ⊢
  clear h2
  go_enter Try.func87, Try.ntmps87
  go_wp2_with fail
  refine (each_any r w).mono ?_
  rintro e w1 ⟨rfl, rfl⟩
  have H := hid (collect_any r w.heap.size (w.alloc (.cells #[.int .u32 (r.toNat : Int)] 22)) (by simp) (Boxed.new w 22 (.int .u32 (r.toNat : Int))).cell)
  go_wp2_with fail
  refine H.out.mono ?_
  rintro e w2 ⟨v, rfl, ho, hb⟩
  have ho2 : Own w2 w.heap.size 3 v (ivs (lst r 32)) := Own.lower (base := (w.alloc (.cells #[.int .u32 (r.toNat : Int)] 22)).heap.size) (by unfold Own; rw [ivs_length]; exact ho) (by simp)
  obtain ⟨A, c, hv⟩ := ho2.form
  rw [ivs_length] at hv
  subst hv
  have HO := hid ho2
  have hb2 : Below w.heap.size w w2 := ((Below.refl _ w).alloc (Nat.le_refl _) _).trans (hb.mono (by simp))
  clear ho ho2 hb
  go_wp2_with fail
  go_ret
  exact ⟨A, c, rfl, HO.out, hb2⟩
end Go.Proofs.Ytnhcjadkbogioaa
namespace Go.Proofs.Ytnhcjadkbogioaa
open Go Go.RowKit BitM
theorem low_bit (n i : Nat) : (2 ^ n - 1 : Nat).testBit i = decide (i < n) := Nat.testBit_two_pow_sub_one n i
theorem bit_255 (i : Nat) : (255#32 : BitVec 32).getLsbD i = decide (i < 8) := low_bit 8 i
theorem bit_511 (i : Nat) : (511#32 : BitVec 32).getLsbD i = decide (i < 9) := low_bit 9 i
theorem le_511 (x : BitVec 32) : decide (x.toNat ≤ 511) = true ↔ ∀ i, 9 ≤ i → i < 32 → x.getLsbD i = false := by
  rw [decide_eq_true_iff]
  constructor
  · intro h i h9 _
    have : x.toNat < 2 ^ i := Nat.lt_of_lt_of_le (by omega : x.toNat < 2 ^ 9) (Nat.pow_le_pow_right (by omega) h9)
    exact Nat.testBit_lt_two_pow this
  · intro h
    have : x.toNat < 2 ^ 9 := by
      apply Nat.lt_pow_two_of_testBit
      intro i hi
      by_cases h32 : i < 32
      · exact h i hi h32
      · exact BitVec.getLsbD_of_ge x i (by omega)
    omega
theorem check_eq (x : BitVec 32) : (x &&& ~~~511#32 == 0#32) = decide (x.toNat ≤ 511) := by
  rw [Bool.eq_iff_iff, le_511, beq_iff_eq]
  constructor
  · intro h i h9 h32
    have := congrArg (fun v : BitVec 32 => v.getLsbD i) h
    simp only [BitVec.getLsbD_and, BitVec.getLsbD_not, bit_511, BitVec.getLsbD_zero] at this
    simpa [h32, show ¬ i < 9 by omega] using this
  · intro h
    apply BitVec.eq_of_getLsbD_eq
    intro i hi
    simp only [BitVec.getLsbD_and, BitVec.getLsbD_not, bit_511, BitVec.getLsbD_zero]
    by_cases h9 : i < 9
    · simp [h9]
    · simp [h i (by omega) hi]
theorem has_and_255 (x : BitVec 32) (n : Int) : has (x &&& 255#32) n = (has x n && decide (n < 8)) := by
  by_cases h : 0 ≤ n ∧ n < 32
  · obtain ⟨k, rfl⟩ := Int.eq_ofNat_of_zero_le h.1
    have hk : k < 32 := by omega
    rw [has_in _ hk, has_in _ hk, BitVec.getLsbD_and, bit_255]
    congr 1
    rw [Bool.eq_iff_iff]; simp; omega
  · rw [has_out _ h, has_out _ h]; rfl
theorem mem_lst (x : BitVec 32) (k : Nat) (n : Int) : n ∈ lst x k ↔ (0 ≤ n ∧ n < k ∧ has x n = true) := by
  unfold lst
  rw [List.mem_map]
  constructor
  · rintro ⟨i, hi, rfl⟩
    rw [List.mem_filter, List.mem_range] at hi
    exact ⟨by omega, by omega, hi.2⟩
  · rintro ⟨h0, h1, h2⟩
    obtain ⟨i, rfl⟩ := Int.eq_ofNat_of_zero_le h0
    exact ⟨i, List.mem_filter.2 ⟨List.mem_range.2 (by omega), h2⟩, rfl⟩
theorem mem_flds (x : BitVec 32) (n : Int) : n ∈ flds x ↔ (0 ≤ n ∧ n < 8 ∧ has x n = true) := by
  unfold flds
  rw [mem_lst, has_and_255]
  simp only [Bool.and_eq_true, decide_eq_true_eq]
  constructor
  · rintro ⟨a, b, c, d⟩; exact ⟨a, d, c⟩
  · rintro ⟨a, b, c⟩; exact ⟨a, by omega, c, b⟩
theorem flds_in (x : BitVec 32) (j : Nat) (h : j < (flds x).length) : ∃ i : Nat, i < 8 ∧ (flds x)[j] = (i : Int) := by
  have := (mem_flds x (flds x)[j]).1 (List.getElem_mem h)
  obtain ⟨i, hi⟩ := Int.eq_ofNat_of_zero_le this.1
  exact ⟨i, by omega, hi⟩
theorem labels_any (x : BitVec 32) (w : World) : Calls Try.prog 50 #[.int .u32 (x.toNat : Int)] w fun e w' => e = .returned (.bool (has x 8)) ∧ w = w' := by
  have h1 := BitM.u32_and x (one 8)
  have h3 : ((one 8).toNat : Int) = 256 := rfl
  rw [h3] at h1
  have h2 := (nat_ne0 (x &&& one 8)).trans (and_one x 8)
  generalize x &&& one 8 = r at h1 h2
  clear h3
  go_enter Try.func50, Try.ntmps50
  go_wp2_with fail
  go_ret
  exact ⟨rfl, rfl⟩
theorem rlabels_any (x : BitVec 32) (w : World) : Calls Try.prog 59 #[.int .u32 (x.toNat : Int)] w fun e w' => e = .returned (.bool (has x 8)) ∧ w = w' := by
  go_enter Try.func59, Try.ntmps59
  go_wp2_with fail
  refine (rhas_any x 8 w).mono ?_
  rintro e w' ⟨rfl, rfl⟩
  go_wp2_with fail
  go_ret
  exact ⟨rfl, rfl⟩
theorem mcheck_any (x : BitVec 32) (w : World) : Calls Try.prog 46 #[.int .u32 (x.toNat : Int)] w fun e w' => e = .returned (.bool (decide (x.toNat ≤ 511))) ∧ w = w' := by
  have H := hid (within_any x 511#32 w)
  rw [check_eq] at H
  go_enter Try.func46, Try.ntmps46
  go_wp2_with fail
  refine H.out.mono ?_
  rintro e w' ⟨rfl, rfl⟩
  go_wp2_with fail
  go_ret
  exact ⟨rfl, rfl⟩
theorem rmcheck_any (x : BitVec 32) (w : World) : Calls Try.prog 40 #[.int .u32 (x.toNat : Int)] w fun e w' => e = .returned (.bool (decide (x.toNat ≤ 511))) ∧ w = w' := by
  have h1 : decide ((x.toNat : Int) ≤ 511) = decide (x.toNat ≤ 511) := by rw [decide_eq_decide]; omega
  by_cases h : x.toNat ≤ 511
  · rw [decide_eq_true h] at h1 ⊢
    go_enter Try.func40, Try.ntmps40
    go_wp2_with fail
    go_ret
    exact ⟨rfl, rfl⟩
  · rw [decide_eq_false h] at h1 ⊢
    go_enter Try.func40, Try.ntmps40
    go_wp2_with fail
    go_ret
    exact ⟨rfl, rfl⟩
end Go.Proofs.Ytnhcjadkbogioaa
