/- Cards as they are read of bytes: the program's: the walk. -/
import Derived.Test.YtnhcjadkbogioaaGreatM5
import Derived.Test.YtnhcjadkbogioaaGreatM8
import Derived.Test.YtnhcjadkbogioaaGreatM19
import Derived.Test.YtnhcjadkbogioaaGreatM9
import Derived.Test.YtnhcjadkbogioaaGreatM15
import Derived.Test.YtnhcjadkbogioaaGreatM18
import Derived.Test.YtnhcjadkbogioaaGreatM3
import Derived.Test.YtnhcjadkbogioaaGreatM20
import Derived.Test.YtnhcjadkbogioaaGreatM13
import Derived.Test.YtnhcjadkbogioaaGreatM6
set_option maxRecDepth 100000
set_option linter.unusedVariables false
set_option linter.unusedSimpArgs false
set_option maxHeartbeats 12800000
namespace Go.Proofs.YtnhcjadkbogioaaGreat
open Go Go.RowKit OctM BitM
end Go.Proofs.YtnhcjadkbogioaaGreat
namespace Go.Proofs.YtnhcjadkbogioaaGreat
open Go Go.RowKit OctM BitM
end Go.Proofs.YtnhcjadkbogioaaGreat
namespace Go.Proofs.YtnhcjadkbogioaaGreat
open Go Go.RowKit BitM OctM
theorem Blk.fieldsE {w : World} {g : Nat} {k id gr m lab : Int} {f : List V3} (h : Blk w g (ecells k id gr m lab f)) : w.rangeAt g 5 (fcells f) :=
  h.range 5 _ (by
    unfold ecells pcells
    rw [← List.append_assoc, List.drop_left' (by rfl), List.take_length])
end Go.Proofs.YtnhcjadkbogioaaGreat
namespace Go.Proofs.YtnhcjadkbogioaaGreat
open Go Go.RowKit
def putsAll : List Oper → List Value → Act → Act
  | o :: l, v :: vs, a => putsAll l vs (a.put o.dst v)
  | _, _, a => a
section
variable {P : Program} {ops : Array Oper} {md : Region.Mode} {Q : Exit → Act → World → Prop}
theorem wpAny_step {fuel : Nat} {listed : Array Bool} {a : Act} {w : World} (r : List Nat) (hr : Region.ready md ops listed = r) (hne : r.isEmpty = false)
    (h : ∀ i ∈ r, wpOp P ops Q i (wpAny P md ops Q fuel (listed.setIfInBounds i true)) a w) : wpAny P md ops Q (fuel + 1) listed a w := by
  subst hr
  exact ⟨fun h0 => absurd hne (by rw [h0]; simp), h⟩
theorem wpOp_move {i : Nat} {a : Act} {w : World} {K : Act → World → Prop} (o : Oper) (ho : ops[i]? = some o) (x : Operand) (hx : o.op = .move x) (hw : Region.wanted o (yielded ops a.tmps) = true) (h : K (a.put o.dst (a.eval x)) w) : wpOp P ops Q i K a w := by
  unfold wpOp
  simp only [ho, hw, if_true]
  left
  unfold Oper.wp execOp
  simp only [hx, Sem.run_pure, Oper.upon]
  exact h
theorem wpOp_call {i : Nat} {a : Act} {w : World} {K : Act → World → Prop} (o : Oper) (ho : ops[i]? = some o) (f : FuncId) (args : Array Value) (hx : (execOp a.eval o).run P w = .ok (.enter f args) w) (hw : Region.wanted o (yielded ops a.tmps) = true)
    (h : Calls P f args w fun e w' => ∃ v, e = .returned v ∧ K (a.put o.dst v) w') : wpOp P ops Q i K a w := by
  unfold wpOp
  simp only [ho, hw, if_true]
  left
  unfold Oper.wp
  rw [hx]
  simp only [Oper.upon]
  exact h.mono fun e w' ⟨v, he, hk⟩ => by subst he; exact hk
end
theorem wpAny_rest {P : Program} {Q : Exit → Act → World → Prop} {l : List Oper} {a : Act} {w : World} (k n : Nat) (listed : Array Bool) (hs : Region.noSelect l.toArray = true) (hf : fedB l [] n = true)
    (hB : Region.lexFrom .any l.toArray (l.drop k).length k listed = true) (hn : a.tmps.size = n)
    (h : wpG P l.toArray (openOf []) w (fun a' w' => Q .normal a' w') (l.drop k) a (fun _ => True)) : wpAny P .any l.toArray Q (l.drop k).length listed a w := by
  obtain ⟨hF, hd⟩ := fedB_fed (g := []) (n := n) hf
  have hI : Inv l.toArray (openOf []) w listed a w := ⟨Le.refl w, fun k o d R _ _ _ hG => by simp [openOf] at hG⟩
  refine wpAny_of_G (Qn := fun a' w' => Q .normal a' w') (w0 := w) hF (fun _ _ h => h) _ _ _ _ hI ?_
  exact wpAnyG_lex hF hs n hd (l.drop k) k listed a (fun _ => True) (fun j => by rw [List.getElem?_toArray, List.getElem?_drop]) hB hn ⟨w, hI⟩ (fun _ _ => trivial) h
end Go.Proofs.YtnhcjadkbogioaaGreat
namespace Go.Proofs.YtnhcjadkbogioaaGreat
open Go Go.RowKit OctM
theorem Rd.to {w : World} {base g : Nat} {l : List UInt8} {a a' : Nat} {e e' : Int} (h : Rd w base g l a e) (ha : a = a') (he : e = e') : Rd w base g l a' e' := by subst ha he; exact h
theorem Sees.join {w w' : World} {B B' : Nat} {A : Option Addr} {xs : List Value} (h : Sees w B A xs) (h' : Sees w' B' A xs) : Sees w' B A xs := by
  intro hp
  obtain ⟨b, o, e, hb, _⟩ := h hp
  obtain ⟨b', o', e', _, hc⟩ := h' hp
  rw [e] at e'
  injection e' with e'
  injection e' with e1 e2
  subst e1 e2
  exact ⟨b, o, e, hb, hc⟩
def RdB (w : World) (base g : Nat) (l : List UInt8) (at_ : Nat) (err : Int) : Prop :=
  ∃ A c, l.length ≤ c ∧ c ≤ maxLen ∧ Own w base 53 (.slice (some ⟨g, 0, none⟩) 3 3) [.slice A l.length c, .int .i64 at_, .int .i64 err] ∧ Own w base 5 (.slice A l.length c) (bvs l) ∧ Sees w g A (bvs l)
theorem RdB.rd {w : World} {base g : Nat} {l : List UInt8} {a : Nat} {e : Int} (h : RdB w base g l a e) : Rd w base g l a e := by
  obtain ⟨A, c, h1, h2, h3, h4, h5⟩ := h
  exact ⟨A, c, h1, h2, h3, h5⟩
theorem RdB.off {w w' : World} {base g m : Nat} {l : List UInt8} {a : Nat} {e : Int} (h : RdB w base g l a e) (hg : w.grownBy w' (some m)) (hm : m < base) : RdB w' base g l a e := by
  obtain ⟨A, c, h1, h2, h3, h4, h5⟩ := h
  have h6 := h4.other hg hm
  exact ⟨A, c, h1, h2, h3.other hg hm, h6, h5.join h6.sees⟩
end Go.Proofs.YtnhcjadkbogioaaGreat
namespace Go.Proofs.YtnhcjadkbogioaaGreat
open Go Go.RowKit OctM BitM
end Go.Proofs.YtnhcjadkbogioaaGreat
namespace Go.Proofs.YtnhcjadkbogioaaGreat
open Go Go.RowKit OctM
def ndA (l : List UInt8) (a : Nat) : Nat := (numOut l a 0 12).1
def naA (l : List UInt8) (a : Nat) : Nat := (numOut l a 0 12).2.1
def neA (l : List UInt8) (a : Nat) : Int := if ndA l a = 0 then failOut (numOut l a 0 12).2.2 3 else (numOut l a 0 12).2.2
def nB (l : List UInt8) (a : Nat) : Nat × Nat × Int := if hasN (ndA l a : Int) = true then numOut l (naA l a) (neA l a) (npm (ndA l a : Int)) else (0, naA l a, neA l a)
def nV (l : List UInt8) (a : Nat) : V3 × Nat × Int := if hasV (ndA l a : Int) = true then valOut l (nB l a).2.1 (nB l a).2.2 else (zv, (nB l a).2.1, (nB l a).2.2)
def ndOf (l : List UInt8) (a : Nat) : Nd := ((ndA l a : Int), ((nB l a).1 : Int), (nV l a).1)
def nodeOut (l : List UInt8) (a : Nat) : Nd × Nat × Int := (ndOf l a, (nV l a).2.1, if nok (ndOf l a) = true then (nV l a).2.2 else failOut (nV l a).2.2 3)
theorem failOut_not (e x : Int) (h : e ≠ 0) : failOut e x = e := by unfold failOut; rw [if_neg h]
theorem failOut_zero (x : Int) : failOut 0 x = x := rfl
theorem hasN_zero : hasN 0 = false := by decide
theorem hasV_zero : hasV 0 = false := by decide
theorem hasV_N {op : Int} (h : hasV op = true) : hasN op = true := by
  unfold hasV at h
  unfold hasN
  have := of_decide_eq_true h
  exact decide_eq_true (by omega)
theorem npm_ge (op : Int) : 0 ≤ npm op := by
  unfold npm
  split
  · omega
  · split <;> omega
theorem ndA_le (l : List UInt8) (a : Nat) : ndA l a ≤ 12 := by
  have := numOut_le l a 0 12 (by omega)
  unfold ndA
  omega
theorem neA_op {l : List UInt8} {a : Nat} (h : neA l a ≠ 0) : ndA l a = 0 := by
  unfold neA at h
  by_cases h0 : ndA l a = 0
  · exact h0
  · rw [if_neg h0] at h
    exact numOut_err l a 0 12 h
theorem neA_no {l : List UInt8} {a : Nat} (h : ndA l a = 0) : neA l a ≠ 0 := by
  unfold neA
  rw [if_pos h]
  by_cases h0 : (numOut l a 0 12).2.2 = 0
  · rw [h0]; simp [failOut]
  · rw [failOut_not _ _ h0]; exact h0
theorem naA_at {l : List UInt8} {a : Nat} (h : a ≤ l.length) : naA l a ≤ l.length := numOut_at l a 0 12 h
theorem nB_at {l : List UInt8} {a : Nat} (h : a ≤ l.length) : (nB l a).2.1 ≤ l.length := by
  unfold nB
  split
  · exact numOut_at _ _ _ _ (naA_at h)
  · exact naA_at h
theorem nV_at {l : List UInt8} {a : Nat} (h : a ≤ l.length) : (nV l a).2.1 ≤ l.length := by
  unfold nV
  split
  · exact valOut_at _ _ _ (nB_at h)
  · exact nB_at h
theorem nodeOut_at {l : List UInt8} {a : Nat} (h : a ≤ l.length) : (nodeOut l a).2.1 ≤ l.length := nV_at h
theorem nA_stop {l : List UInt8} {a : Nat} (h : neA l a ≠ 0) : (nodeOut l a).2 = (naA l a, neA l a) := by
  have h0 := neA_op h
  have hb : nB l a = (0, naA l a, neA l a) := by unfold nB; rw [h0]; rw [if_neg (by show ¬ hasN 0 = true; rw [hasN_zero]; simp)]
  have hv : nV l a = (zv, naA l a, neA l a) := by unfold nV; rw [h0]; rw [if_neg (by show ¬ hasV 0 = true; rw [hasV_zero]; simp), hb]
  unfold nodeOut
  rw [hv]
  simp only
  rw [failOut_not _ _ h]
  simp
theorem nB_stop {l : List UInt8} {a : Nat} (h : (nB l a).2.2 ≠ 0) : (nodeOut l a).2 = (nB l a).2 := by
  have hv : (nV l a).2 = (nB l a).2 := by
    unfold nV
    split
    · rw [valOut_err _ _ _ h]
    · rfl
  unfold nodeOut
  rw [hv]
  rw [failOut_not _ _ h]
  simp
theorem nok_plain {l : List UInt8} {a : Nat} (h : (nB l a).2.2 = 0) (hv : hasV (ndA l a : Int) = false) : nok (ndOf l a) = true := by
  have hA : neA l a = 0 := by
    by_cases h0 : neA l a = 0
    · exact h0
    · have hb : nB l a = (0, naA l a, neA l a) := by unfold nB; rw [neA_op h0]; rw [if_neg (by show ¬ hasN 0 = true; rw [hasN_zero]; simp)]
      rw [hb] at h
      exact absurd h h0
  have h1 : ndA l a ≠ 0 := fun e => neA_no e hA
  have h12 := ndA_le l a
  have hz : (nV l a).1 = zv := by unfold nV; rw [if_neg (by rw [hv]; simp)]
  unfold ndOf
  rw [hz]
  by_cases hN : hasN (ndA l a : Int) = true
  · have hb : nB l a = numOut l (naA l a) (neA l a) (npm (ndA l a : Int)) := by unfold nB; rw [if_pos hN]
    have hle := numOut_le l (naA l a) (neA l a) (npm (ndA l a : Int)) (npm_ge _)
    rw [← hb] at hle
    have hN' := of_decide_eq_true (show decide (3 ≤ (ndA l a : Int) ∧ (ndA l a : Int) ≤ 9) = true from hN)
    have hV' := of_decide_eq_false (show decide (6 ≤ (ndA l a : Int) ∧ (ndA l a : Int) ≤ 9) = false from hv)
    unfold nok
    simp only
    rw [if_neg (by omega)]
    by_cases h34 : (ndA l a : Int) = 3 ∨ (ndA l a : Int) = 4
    · rw [if_pos h34]
      have : npm (ndA l a : Int) = 15 := by unfold npm; rw [if_pos h34]
      rw [this] at hle
      exact decide_eq_true ⟨by omega, by omega, trivial⟩
    · rw [if_neg h34, if_pos (by omega)]
      have : npm (ndA l a : Int) = 7 := by unfold npm; rw [if_neg h34, if_pos hN]
      rw [this] at hle
      exact decide_eq_true ⟨by omega, by omega, trivial⟩
  · have hb : (nB l a).1 = 0 := by unfold nB; rw [if_neg hN]
    rw [hb]
    have hN' : ¬ (3 ≤ (ndA l a : Int) ∧ (ndA l a : Int) ≤ 9) := fun h => hN (decide_eq_true h)
    unfold nok
    simp only
    rw [if_pos (by omega)]
    exact decide_eq_true ⟨rfl, trivial⟩
def nodesOut (l : List UInt8) : Nat → Nat → List Nd × Nat × Int
  | 0, a => ([], a, 0)
  | k + 1, a => if (nodesOut l k a).2.2 ≠ 0 then nodesOut l k a else ((nodesOut l k a).1 ++ [(nodeOut l (nodesOut l k a).2.1).1], (nodeOut l (nodesOut l k a).2.1).2)
theorem nodes_at {l : List UInt8} {a : Nat} (h : a ≤ l.length) : ∀ k, (nodesOut l k a).2.1 ≤ l.length
  | 0 => h
  | k + 1 => by
    unfold nodesOut
    split
    · exact nodes_at h k
    · exact nodeOut_at (nodes_at h k)
theorem nodes_len {l : List UInt8} {a : Nat} : ∀ k, (nodesOut l k a).1.length ≤ k
  | 0 => Nat.le_refl _
  | k + 1 => by
    unfold nodesOut
    have := nodes_len (l := l) (a := a) k
    split
    · omega
    · simp only [List.length_append, List.length_singleton]; omega
theorem nodes_full {l : List UInt8} {a : Nat} : ∀ k, (nodesOut l k a).2.2 = 0 → (nodesOut l k a).1.length = k
  | 0, _ => rfl
  | k + 1, h => by
    unfold nodesOut at h ⊢
    by_cases h0 : (nodesOut l k a).2.2 ≠ 0
    · rw [if_pos h0] at h; exact absurd h h0
    · rw [if_neg h0]
      have := nodes_full (l := l) (a := a) k (by simpa using h0)
      simp [this]
theorem nodes_step {l : List UInt8} {a k : Nat} (h : (nodesOut l k a).2.2 = 0) : nodesOut l (k + 1) a = ((nodesOut l k a).1 ++ [(nodeOut l (nodesOut l k a).2.1).1], (nodeOut l (nodesOut l k a).2.1).2) := by
  rw [nodesOut, if_neg (by simpa using h)]
theorem nodes_stuck {l : List UInt8} {a k : Nat} (h : (nodesOut l k a).2.2 ≠ 0) : ∀ n, k ≤ n → nodesOut l n a = nodesOut l k a
  | 0, hn => by rw [show k = 0 by omega]
  | n + 1, hn => by
    by_cases e : k = n + 1
    · rw [e]
    · have ih := nodes_stuck h n (by omega)
      rw [nodesOut, if_pos (by rw [ih]; exact h), ih]
def mny (l : List UInt8) (a : Nat) (e : Int) : Nat × Nat × Int := ((numOut l a e 31).1, (numOut l a e 31).2.1, if (numOut l a e 31).1 = 0 then failOut (numOut l a e 31).2.2 3 else (numOut l a e 31).2.2)
theorem mny_le (l : List UInt8) (a : Nat) (e : Int) : (mny l a e).1 ≤ 31 := by
  have := numOut_le l a e 31 (by omega)
  show (numOut l a e 31).1 ≤ 31
  omega
theorem mny_err {l : List UInt8} {a : Nat} {e : Int} (h : (mny l a e).2.2 ≠ 0) : (mny l a e).1 = 0 := by
  by_cases h0 : (numOut l a e 31).1 = 0
  · exact h0
  · have h1 : (mny l a e).2.2 = (numOut l a e 31).2.2 := by unfold mny; simp only; rw [if_neg h0]
    rw [h1] at h
    exact numOut_err l a e 31 h
theorem mny_none {l : List UInt8} {a : Nat} {e : Int} (h : (mny l a e).1 = 0) : (mny l a e).2.2 ≠ 0 := by
  have h' : (numOut l a e 31).1 = 0 := h
  unfold mny
  simp only
  rw [if_pos h']
  by_cases h0 : (numOut l a e 31).2.2 = 0
  · rw [h0]; simp [failOut]
  · rw [failOut_not _ _ h0]; exact h0
theorem mny_at {l : List UInt8} {a : Nat} {e : Int} (h : a ≤ l.length) : (mny l a e).2.1 ≤ l.length := numOut_at l a e 31 h
def filtOut (l : List UInt8) (a : Nat) (e : Int) : List Nd × Nat × Int :=
  if (mny l a e).2.2 ≠ 0 then ([], (mny l a e).2)
  else if (nodesOut l (mny l a e).1 (mny l a e).2.1).2.2 ≠ 0 then ([], (nodesOut l (mny l a e).1 (mny l a e).2.1).2)
  else if lchk (nodesOut l (mny l a e).1 (mny l a e).2.1).1 = 0 then nodesOut l (mny l a e).1 (mny l a e).2.1
  else ([], (nodesOut l (mny l a e).1 (mny l a e).2.1).2.1, if lchk (nodesOut l (mny l a e).1 (mny l a e).2.1).1 = 1 then 3 else lchk (nodesOut l (mny l a e).1 (mny l a e).2.1).1)
theorem filt_at {l : List UInt8} {a : Nat} {e : Int} (h : a ≤ l.length) : (filtOut l a e).2.1 ≤ l.length := by
  unfold filtOut
  split
  · exact mny_at h
  · split
    · exact nodes_at (mny_at h) _
    · split
      · exact nodes_at (mny_at h) _
      · exact nodes_at (mny_at h) _
theorem lchk_few {l : List Nd} (h : l.length ≤ 31) : lchk l = 0 ∨ lchk l = 1 ∨ lchk l = 5 := by
  unfold lchk
  rw [if_neg (by omega)]
  split
  · exact .inr (.inl rfl)
  · split
    · exact .inr (.inl rfl)
    · split
      · exact .inr (.inr rfl)
      · exact .inl rfl
structure Grown2 (w w' : World) (g h : Nat) : Prop where
  os : w'.os = w.os
  tape : w'.tape = w.tape
  output : w'.output = w.output
  size : w.heap.size ≤ w'.heap.size
  block : ∀ k, k < w.heap.size → k ≠ g → k ≠ h → w'.heap[k]? = w.heap[k]?
theorem Grown2.refl (w : World) (g h : Nat) : Grown2 w w g h := ⟨rfl, rfl, rfl, Nat.le_refl _, fun _ _ _ _ => rfl⟩
theorem Grown2.trans {a b c : World} {g h : Nat} (x : Grown2 a b g h) (y : Grown2 b c g h) : Grown2 a c g h :=
  ⟨y.os.trans x.os, y.tape.trans x.tape, y.output.trans x.output, Nat.le_trans x.size y.size, fun k hk h1 h2 => (y.block k (Nat.lt_of_lt_of_le hk x.size) h1 h2).trans (x.block k hk h1 h2)⟩
theorem Grown2.one {w w' : World} {g h : Nat} (x : w.grownBy w' (some g)) : Grown2 w w' g h :=
  ⟨x.os, x.tape, x.output, x.size, fun k hk h1 _ => x.block k hk (fun e => h1 (by injection e))⟩
theorem Grown2.two {w w' : World} {g h : Nat} (x : w.grownBy w' (some h)) : Grown2 w w' g h :=
  ⟨x.os, x.tape, x.output, x.size, fun k hk _ h2 => x.block k hk (fun e => h2 (by injection e))⟩
theorem Grown2.none_ {w w' : World} {g h : Nat} (x : Below w.heap.size w w') : Grown2 w w' g h :=
  ⟨x.os, x.tape, x.output, x.size, fun k hk _ _ => x.block k hk⟩
theorem Grown2.grown {w w' : World} {g h : Nat} (x : Grown2 w w' g h) (hh : w.heap.size ≤ h) : w.grownBy w' (some g) :=
  ⟨x.os, x.tape, x.output, x.size, fun k hk h1 => x.block k hk (fun e => h1 (by rw [e])) (by omega)⟩
theorem Rd.set2 {w : World} {base g : Nat} {l : List UInt8} {a : Nat} {e : Int} (h : Rd w base g l a e) {B j : Nat} {v : Value} (hB : g < B) : Rd (w.setCell ⟨B, j, none⟩ v) base g l a e :=
  h.other (grown_setCell w B j v) hB
theorem Rd.sets2 {w : World} {base g : Nat} {l : List UInt8} {a : Nat} {e : Int} (h : Rd w base g l a e) {B j : Nat} {vs : List Value} (hB : g < B) : Rd (w.setCells B j vs) base g l a e :=
  h.other (grown_sets B vs j w) hB
theorem take0_any (base g Bx : Nat) (l : List UInt8) (a : Nat) (w : World) (h : Rd w base g l a 0) (hB : Blk w Bx (ncells (0, 0, zv))) (hg : g < Bx) (ha : a ≤ l.length) (hm : l.length ≤ 4000) :
    Calls Tryz.prog 72 #[.pointer (some ⟨g, 0, none⟩), .pointer (some ⟨Bx, 0, none⟩), .int .i64 0] w fun x w' => x = .returned (.tuple #[]) ∧ Rd w' base g l (naA l a) (neA l a) ∧ Blk w' Bx (ncells ((ndA l a : Int), 0, zv)) ∧ Grown2 w w' g Bx := by
  have HN := hid (rd_num base g l a 0 12 w h ha (by omega))
  have e1 : (numOut l a 0 12).1 = ndA l a := rfl
  have e2 : (numOut l a 0 12).2.1 = naA l a := rfl
  rw [e1, e2] at HN
  have hcells := hB
  obtain ⟨ez, hez⟩ : ∃ ez, ez = (numOut l a 0 12).2.2 := ⟨_, rfl⟩
  rw [← hez] at HN
  have HNE : Hid (neA l a = if ndA l a = 0 then failOut ez 3 else ez) := hid (by rw [hez]; rfl)
  have HF := hid (fun (wx : World) (hr : Rd wx base g l (naA l a) ez) => rd_fail base g l (naA l a) ez 3 wx hr)
  obtain ⟨op, hop⟩ : ∃ op, op = ndA l a := ⟨_, rfl⟩
  obtain ⟨aA, haA⟩ : ∃ aA, aA = naA l a := ⟨_, rfl⟩
  obtain ⟨eA, heA⟩ : ∃ eA, eA = neA l a := ⟨_, rfl⟩
  rw [← hop, ← haA] at HN
  rw [← haA] at HF
  rw [← heA, ← hop] at HNE
  rw [← hop, ← haA, ← heA]
  have hBl := hB.lt
  have HG := hid hg
  clear e1 e2 hop haA heA hez h hcells
  go_enter Tryz.func72, Tryz.ntmps72
  go_wp2_with fail
  refine HN.out.mono ?_
  rintro e w1 ⟨rfl, hr, hgr⟩
  have B1 := hB.kept hgr (by simp; have := HG.out; omega)
  have f1 := B1.frozen 0
  have q0 := B1.cell (j := 0) rfl
  have B2 := B1.set 0 (.int .i64 (op : Int))
  have R2 := hr.set2 (B := Bx) (j := 0) (v := .int .i64 (op : Int)) HG.out
  have G2 : Grown2 w (w1.setCell ⟨Bx, 0, none⟩ (.int .i64 (op : Int))) g Bx := (Grown2.one hgr).trans (Grown2.two (grown_setCell w1 Bx 0 _))
  have p0 := B2.cell (j := 0) (v := .int .i64 (op : Int)) rfl
  clear hr hgr B1 hB hBl
  have HR2 := hid R2
  have HB2 := hid B2
  have HG2 := hid G2
  clear R2 B2 G2
  by_cases h0 : op = 0
  · subst h0
    have HE : Hid (eA = failOut ez 3) := hid (by rw [HNE.out, if_pos rfl])
    go_wp2_with fail
    refine (HF.out _ HR2.out).mono ?_
    rintro e w3 ⟨rfl, hr3, hg3⟩
    have B3 := HB2.out.kept hg3 (by simp; have := HG.out; omega)
    have G3 := HG2.out.trans (Grown2.one hg3)
    have HR3 := hid hr3
    clear hr3 hg3 HR2 HB2 HG2
    go_wp2_with fail
    go_end0
    exact ⟨rfl, by rw [HE.out]; exact HR3.out, B3, G3⟩
  · have HE : Hid (eA = ez) := hid (by rw [HNE.out, if_neg h0])
    have b0 : ((op : Int) == 0) = false := by simp [h0]
    have b0n : (op == 0) = false := by simp [h0]
    clear h0
    go_wp2_with fail
    go_end0
    exact ⟨rfl, by rw [HE.out]; exact HR2.out, HB2.out, HG2.out⟩
theorem take1_any (base g Bx : Nat) (l : List UInt8) (a : Nat) (w : World) (h0 : neA l a = 0) (h : Rd w base g l (naA l a) 0) (hB : Blk w Bx (ncells ((ndA l a : Int), 0, zv))) (hg : g < Bx) (ha : a ≤ l.length) (hm : l.length ≤ 4000) :
    Calls Tryz.prog 72 #[.pointer (some ⟨g, 0, none⟩), .pointer (some ⟨Bx, 0, none⟩), .int .i64 1] w fun x w' => x = .returned (.tuple #[]) ∧ Rd w' base g l (nB l a).2.1 (nB l a).2.2 ∧ Blk w' Bx (ncells ((ndA l a : Int), ((nB l a).1 : Int), zv)) ∧ Grown2 w w' g Bx := by
  have HM := hid (fun wx : World => most_any (ndA l a : Int) wx)
  have HG := hid hg
  have q0 := hB.cell (j := 0) rfl
  cases hN : hasN (ndA l a : Int) with
  | false =>
    have e : nB l a = (0, naA l a, 0) := by unfold nB; rw [if_neg (by rw [hN]; simp), h0]
    rw [e]
    rw [hN] at HM
    have HR := hid h
    have HB := hid hB
    simp only at q0
    generalize npm (ndA l a : Int) = mm at HM
    generalize ((ndA l a : Nat) : Int) = op at HM q0 HB ⊢
    clear h hB hN e h0
    go_enter Tryz.func72, Tryz.ntmps72
    go_wp2_with fail
    refine (HM.out _).mono ?_
    rintro e w1 ⟨rfl, rfl⟩
    go_wp2_with fail
    go_end0
    exact ⟨rfl, HR.out, HB.out, Grown2.refl _ _ _⟩
  | true =>
    have e : nB l a = numOut l (naA l a) 0 (npm (ndA l a : Int)) := by unfold nB; rw [if_pos hN, h0]
    rw [hN] at HM
    have HNUM := hid (rd_num base g l (naA l a) 0 (npm (ndA l a : Int)) w h (naA_at ha) (by omega))
    rw [← e] at HNUM
    obtain ⟨⟨m, a2, e2⟩, hq⟩ : ∃ q, q = nB l a := ⟨_, rfl⟩
    rw [← hq] at HNUM ⊢
    simp only at HNUM q0 ⊢
    generalize npm (ndA l a : Int) = mm at HM HNUM
    have HB := hid hB
    generalize ((ndA l a : Nat) : Int) = op at HM q0 HB ⊢
    clear h hB hN e h0 hq
    go_enter Tryz.func72, Tryz.ntmps72
    go_wp2_with fail
    refine (HM.out _).mono ?_
    rintro e w1 ⟨rfl, rfl⟩
    go_wp2_with fail
    refine HNUM.out.mono ?_
    rintro e w1 ⟨rfl, hr, hgr⟩
    have B1 := HB.out.kept hgr (by simp; have := HG.out; omega)
    have f1 := B1.frozen 1
    have q1 := B1.cell (j := 1) rfl
    have B2 := B1.set 1 (.int .i64 (m : Int))
    have HR2 := hid (hr.set2 (B := Bx) (j := 1) (v := .int .i64 (m : Int)) HG.out)
    have HG2 : Hid (Grown2 w (w1.setCell ⟨Bx, 1, none⟩ (.int .i64 (m : Int))) g Bx) := hid ((Grown2.one hgr).trans (Grown2.two (grown_setCell w1 Bx 1 _)))
    have HB2 : Hid (Blk (w1.setCell ⟨Bx, 1, none⟩ (.int .i64 (m : Int))) Bx (ncells (op, (m : Int), zv))) := hid B2
    clear hr hgr B1 B2
    go_wp2_with fail
    go_end0
    exact ⟨rfl, HR2.out, HB2.out, HG2.out⟩
theorem take2_any (base g Bx : Nat) (l : List UInt8) (a : Nat) (w : World) (h0 : (nB l a).2.2 = 0) (h : Rd w base g l (nB l a).2.1 0) (hB : Blk w Bx (ncells ((ndA l a : Int), ((nB l a).1 : Int), zv))) (hg : g < Bx) (ha : a ≤ l.length) (hm : l.length ≤ 4000) :
    Calls Tryz.prog 72 #[.pointer (some ⟨g, 0, none⟩), .pointer (some ⟨Bx, 0, none⟩), .int .i64 2] w fun x w' => x = .returned (.tuple #[]) ∧ Rd w' base g l (nodeOut l a).2.1 (nodeOut l a).2.2 ∧ Blk w' Bx (ncells (nodeOut l a).1) ∧ Grown2 w w' g Bx := by
  have HH := hid (fun wx : World => pholds_any (ndA l a : Int) wx)
  have HND := hid (fun wx : World => node_any (ndOf l a) wx)
  have hu := Tryz.underlying73
  have HG := hid hg
  have q0 := hB.cell (j := 0) rfl
  cases hV : hasV (ndA l a : Int) with
  | false =>
    have hok := nok_plain h0 hV
    have e : nV l a = (zv, (nB l a).2.1, 0) := by unfold nV; rw [if_neg (by rw [hV]; simp), h0]
    have en : nodeOut l a = (((ndA l a : Int), ((nB l a).1 : Int), zv), (nB l a).2.1, 0) := by unfold nodeOut; rw [hok, if_pos rfl, e]; unfold ndOf; rw [e]
    rw [hV] at HH
    rw [hok] at HND
    have e3 : ndOf l a = ((ndA l a : Int), ((nB l a).1 : Int), zv) := by unfold ndOf; rw [e]
    rw [e3] at HND
    rw [en]
    have HR := hid h
    have HB := hid hB
    have RG := hB.range 0 (ncells ((ndA l a : Int), ((nB l a).1 : Int), zv)) rfl
    simp only at q0 ⊢
    generalize (nB l a).2.1 = a2 at HR ⊢
    generalize ((nB l a).1 : Int) = m at HND HB RG ⊢
    generalize ((ndA l a : Nat) : Int) = op at HH q0 HB HND RG ⊢
    obtain ⟨nc, hnc⟩ : ∃ nc, nc = ncells (op, m, zv) := ⟨_, rfl⟩
    have HSZ : Hid (nc.length = 5) := hid (by rw [hnc]; rfl)
    rw [← hnc] at HND HB RG ⊢
    clear h hB hV e h0 hok en e3 hnc
    go_enter Tryz.func72, Tryz.ntmps72
    go_wp2_with fail
    refine (HH.out _).mono ?_
    rintro e w1 ⟨rfl, rfl⟩
    go_wp2_with (first
      | (refine wpList_load_mid rfl 73 (.tmp 53) rfl Bx 0 rfl nc _ RG hu rfl (by rw [HSZ.out]; exact info_node) ?_)
      | fail)
    refine (HND.out _).mono ?_
    rintro e w1 ⟨rfl, hb⟩
    have HR1 := hid (HR.out.later hb)
    have HB1 := hid (HB.out.later hb)
    have HG1 := hid (Grown2.none_ (g := g) (h := Bx) hb)
    clear RG hb HR HB
    go_wp2_with fail
    go_end0
    exact ⟨rfl, HR1.out, HB1.out, HG1.out⟩
  | true =>
    have e : nV l a = valOut l (nB l a).2.1 0 := by unfold nV; rw [if_pos hV, h0]
    rw [hV] at HH
    have HVAL := hid (rd_value base g l (nB l a).2.1 0 w h (nB_at ha) hm)
    rw [← e] at HVAL
    have en : nodeOut l a = (((ndA l a : Int), ((nB l a).1 : Int), (nV l a).1), (nV l a).2.1, if nok ((ndA l a : Int), ((nB l a).1 : Int), (nV l a).1) = true then (nV l a).2.2 else failOut (nV l a).2.2 3) := rfl
    rw [en]
    have e3 : ndOf l a = ((ndA l a : Int), ((nB l a).1 : Int), (nV l a).1) := rfl
    rw [e3] at HND
    obtain ⟨⟨v, a3, e4⟩, hq⟩ : ∃ q, q = nV l a := ⟨_, rfl⟩
    rw [← hq] at HVAL HND ⊢
    simp only at HVAL HND q0 ⊢
    have HB := hid hB
    generalize ((nB l a).1 : Int) = m at HND HB ⊢
    generalize ((ndA l a : Nat) : Int) = op at HH q0 HB HND ⊢
    have HF := hid (fun (wx : World) (hr : Rd wx base g l a3 e4) => rd_fail base g l a3 e4 3 wx hr)
    have HVC : Hid ((vcells v).length = 3) := hid rfl
    have HONE : Hid (∀ u ∈ vcells v, u.oneCell' = true) := hid (fun u hu => fcells_one [v] u (by simpa [fcells] using hu))
    have HNC : Hid ((ncells (op, m, zv)).take 2 ++ vcells v ++ (ncells (op, m, zv)).drop (2 + (vcells v).length) = ncells (op, m, v)) := hid rfl
    obtain ⟨vc, hvc⟩ : ∃ vc, vc = vcells v := ⟨_, rfl⟩
    rw [← hvc] at HVAL HVC HONE HNC
    obtain ⟨ok, hok⟩ : ∃ ok, ok = nok (op, m, v) := ⟨_, rfl⟩
    rw [← hok] at HND ⊢
    obtain ⟨nc, hnc⟩ : ∃ nc, nc = ncells (op, m, v) := ⟨_, rfl⟩
    have HSZ : Hid (nc.length = 5) := hid (by rw [hnc]; rfl)
    rw [← hnc] at HND HNC ⊢
    have HSZ0 : Hid ((ncells (op, m, zv)).length = 5) := hid rfl
    clear h hB hV e h0 hq en e3 hvc hnc hok
    go_enter Tryz.func72, Tryz.ntmps72
    go_wp2_with fail
    refine (HH.out _).mono ?_
    rintro e w1 ⟨rfl, rfl⟩
    go_wp2_with fail
    refine HVAL.out.mono ?_
    rintro e w1 ⟨rfl, hr, hgr⟩
    have B1 := HB.out.kept hgr (by simp; have := HG.out; omega)
    have TH := B1.there 2 3 (by rw [HSZ0.out]; omega)
    have B2 := B1.sets vc 2 (by rw [HSZ0.out, HVC.out]; omega)
    rw [HNC.out] at B2
    have RG := B2.range 0 nc (by rw [HSZ.out, List.drop_zero, List.take_of_length_le (by rw [HSZ.out]; exact Nat.le_refl _)])
    have HR2 := hid (hr.sets2 (B := Bx) (j := 2) (vs := vc) HG.out)
    have HG2 : Hid (Grown2 w (w1.setCells Bx 2 vc) g Bx) := hid ((Grown2.one hgr).trans (Grown2.two (grown_sets Bx vc 2 w1)))
    have HB2 := hid B2
    clear hr hgr B1 B2
    go_wp2_with (first
      | (refine wpList_store_mid rfl 33 (.tmp 51) (.tmp 49) rfl Bx 2 vc.toArray rfl rfl (by simpa [HVC.out] using TH) (by simpa [HVC.out] using info_val3) (all_oneCell_toArray HONE.out) ?_)
      | (refine wpList_load_mid rfl 73 (.tmp 53) rfl Bx 0 rfl nc _ RG hu rfl (by rw [HSZ.out]; exact info_node) ?_)
      | fail)
    refine (HND.out _).mono ?_
    rintro e w3 ⟨rfl, hb⟩
    have HR3 := hid (HR2.out.later hb)
    have HB3 := hid (HB2.out.later hb)
    have HG3 := hid (HG2.out.trans (Grown2.none_ (g := g) (h := Bx) hb))
    clear RG TH hb HR2 HB2 HG2
    cases ok with
    | true =>
      go_wp2_with fail
      go_end0
      exact ⟨rfl, HR3.out, HB3.out, HG3.out⟩
    | false =>
      go_wp2_with fail
      refine (HF.out _ HR3.out).mono ?_
      rintro e w4 ⟨rfl, hr4, hg4⟩
      have B4 := HB3.out.kept hg4 (by simp; have := HG.out; omega)
      have G4 := HG3.out.trans (Grown2.one hg4)
      have HR4 := hid hr4
      clear hr4 hg4 HR3 HB3 HG3
      go_wp2_with fail
      go_end0
      exact ⟨rfl, HR4.out, B4, G4⟩
def NodesRead (w : World) (base g : Nat) (l : List UInt8) (q : List Nd × Nat × Int) : Ending → World → Prop := fun x w' => (∃ A c, x = .returned (.slice A q.1.length c) ∧ w'.ownsRow w.heap.size 73 5 (.slice A q.1.length c) q.1.length (ncs q.1)) ∧ Rd w' base g l q.2.1 q.2.2 ∧ w.grownBy w' (some g)
theorem row_other {w w' : World} {base : Nat} {e : TypeId} {size n : Nat} {v : Value} {xs : List Value} (h : w.ownsRow base e size v n xs) {g : Nat} (hg : w.grownBy w' (some g)) (hb : g < base) : w'.ownsRow base e size v n xs :=
  World.ownsRow.kept h hg (by
    rcases h.2 with ⟨rfl, _⟩ | ⟨g', cap, cur, rfl, hg', _⟩
    · exact .inl rfl
    · refine .inr ?_
      intro e
      have : g' = g := by simpa [Value.ownBlock] using e
      omega)
theorem row_two {w w' : World} {base : Nat} {e : TypeId} {size n : Nat} {v : Value} {xs : List Value} (h : w.ownsRow base e size v n xs) {g B : Nat} (hg : Grown2 w w' g B) (hb : g < base) (hB : v.ownBlock ≠ some B) : w'.ownsRow base e size v n xs := by
  refine ⟨h.1, ?_⟩
  rcases h.2 with h' | ⟨g', cap, cur, rfl, h2, h3, h4⟩
  · exact .inl h'
  · refine .inr ⟨g', cap, cur, rfl, h2, ?_, h4⟩
    refine (hg.block g' (Array.getElem?_eq_some_iff.1 h3).1 (by omega) (fun e => hB (by simp [Value.ownBlock, e]))).trans h3
theorem grown_onto {w a b : World} {g : Nat} (h : w.grownBy a (some g)) (k : Below a.heap.size a b) : w.grownBy b (some g) :=
  ⟨k.os.trans h.os, k.tape.trans h.tape, k.output.trans h.output, Nat.le_trans h.size k.size, fun q hq e => (k.block q (Nat.lt_of_lt_of_le hq h.size)).trans (h.block q hq e)⟩
theorem grown_two {w a b : World} {g B : Nat} (h : w.grownBy a (some g)) (k : Grown2 a b g B) (hB : w.heap.size ≤ B) : w.grownBy b (some g) :=
  ⟨k.os.trans h.os, k.tape.trans h.tape, k.output.trans h.output, Nat.le_trans h.size k.size, fun q hq e => (k.block q (Nat.lt_of_lt_of_le hq h.size) (fun e' => e (by rw [e'])) (by omega)).trans (h.block q hq e)⟩
theorem grown_row {w a b : World} {g : Nat} {row : Option Nat} (h : w.grownBy a (some g)) (k : a.grownBy b row) (hr : ∀ q, row = some q → w.heap.size ≤ q) : w.grownBy b (some g) :=
  ⟨k.os.trans h.os, k.tape.trans h.tape, k.output.trans h.output, Nat.le_trans h.size k.size, fun q hq e => (k.block q (Nat.lt_of_lt_of_le hq h.size) (fun e' => by have := hr q e'.symm; omega)).trans (h.block q hq e)⟩
theorem Rd.row {w w' : World} {base g : Nat} {l : List UInt8} {a : Nat} {e : Int} (h : Rd w base g l a e) {row : Option Nat} (hg : w.grownBy w' row) (hr : ∀ q, row = some q → g < q) : Rd w' base g l a e := by
  cases row with
  | none => exact h.later ⟨hg.os, hg.tape, hg.output, hg.size, fun k hk => hg.block k hk (by simp)⟩
  | some q => exact h.other hg (hr q rfl)
theorem rd_filter (base g : Nat) (l : List UInt8) (a : Nat) (e : Int) (w : World) (h : Rd w base g l a e) (ha : a ≤ l.length) (hm : l.length ≤ 4000) :
    Calls Tryz.prog 41 #[.pointer (some ⟨g, 0, none⟩)] w (NodesRead w base g l (filtOut l a e)) := by
  obtain ⟨i1, ji, jz0, jz1, jz2⟩ := info_parts info_noded
  have hu := Tryz.underlying73
  have hgl := h.block.2
  have HNUM := hid (rd_num base g l a e 31 w h ha (by omega))
  have hny := mny_le l a e
  have hna := mny_at (e := e) ha
  obtain ⟨n, hn0⟩ : ∃ n, n = (mny l a e).1 := ⟨_, rfl⟩
  obtain ⟨a0, ha0⟩ : ∃ x, x = (mny l a e).2.1 := ⟨_, rfl⟩
  obtain ⟨e0, he0⟩ : ∃ x, x = (mny l a e).2.2 := ⟨_, rfl⟩
  obtain ⟨ez, hez⟩ : ∃ ez, ez = (numOut l a e 31).2.2 := ⟨_, rfl⟩
  have e1 : (numOut l a e 31).1 = n := by rw [hn0]; rfl
  have e2 : (numOut l a e 31).2.1 = a0 := by rw [ha0]; rfl
  have HE0 : Hid (e0 = if n = 0 then failOut ez 3 else ez) := hid (by rw [he0, hez, ← e1]; rfl)
  have HZ : Hid (n = 0 → e0 ≠ 0) := hid (fun hz => by rw [he0]; exact mny_none (by rw [← hn0]; exact hz))
  have HZ' : Hid (e0 ≠ 0 → n = 0) := hid (fun hz => by rw [hn0]; exact mny_err (by rw [← he0]; exact hz))
  obtain ⟨Q, hQ⟩ : ∃ Q, Q = filtOut l a e := ⟨_, rfl⟩
  have HQ0 : Hid (e0 ≠ 0 → Q = ([], a0, e0)) := hid (fun hz => by rw [hQ]; unfold filtOut; rw [if_pos (by rw [← he0]; exact hz), ha0, he0])
  have HQ1 : Hid (e0 = 0 → (nodesOut l n a0).2.2 ≠ 0 → Q = ([], (nodesOut l n a0).2)) := hid (fun hz h2 => by rw [hQ]; unfold filtOut; rw [if_neg (by rw [← he0]; simpa using hz), ← hn0, ← ha0, if_pos h2])
  have HQ2 : Hid (e0 = 0 → (nodesOut l n a0).2.2 = 0 → lchk (nodesOut l n a0).1 = 0 → Q = nodesOut l n a0) := hid (fun hz h2 h3 => by rw [hQ]; unfold filtOut; rw [if_neg (by rw [← he0]; simpa using hz), ← hn0, ← ha0, if_neg (by simpa using h2), if_pos h3])
  have HQ3 : Hid (e0 = 0 → (nodesOut l n a0).2.2 = 0 → lchk (nodesOut l n a0).1 ≠ 0 → Q = ([], (nodesOut l n a0).2.1, if lchk (nodesOut l n a0).1 = 1 then 3 else lchk (nodesOut l n a0).1)) := hid (fun hz h2 h3 => by rw [hQ]; unfold filtOut; rw [if_neg (by rw [← he0]; simpa using hz), ← hn0, ← ha0, if_neg (by simpa using h2), if_neg h3])
  rw [← hQ]
  rw [← hn0] at hny
  rw [← ha0] at hna
  rw [e1, e2, ← hez] at HNUM
  have HF := hid (fun (wx : World) (hr : Rd wx base g l a0 ez) => rd_fail base g l a0 ez 3 wx hr)
  clear hQ hn0 ha0 he0 hez e1 e2 h
  unfold NodesRead
  go_enter Tryz.func41, Tryz.ntmps41
  go_wp2_with fail
  all_goals (try go_step3)
  go_wp2_with fail
  refine HNUM.out.mono ?_
  rintro e w1 ⟨rfl, hr1, hg1⟩
  clear HNUM
  by_cases h0 : n = 0
  · -- no node is to be read
    subst h0
    have HE : Hid (e0 = failOut ez 3) := hid (by rw [HE0.out, if_pos rfl])
    have hne := HZ.out rfl
    have b1 : (e0 != 0) = true := by simp [hne]
    have HQQ := hid (HQ0.out hne)
    have HC := hid (fun wx : World => lcheck_any none 0 0 [] wx rfl Sees.nil_)
    rw [show lchk [] = 1 from by decide +kernel] at HC
    have HEF := hid (failOut_not e0 3 hne)
    clear hne
    go_wp2_with fail
    refine (HF.out _ hr1).mono ?_
    rintro e w2 ⟨rfl, hr2, hg2⟩
    rw [← HE.out] at hr2
    have G2 := hg1.trans hg2
    clear hr1 hg1 hg2
    go_wp2_with fail
    all_goals (try go_step3)
    go_wp2_with fail
    go_loopw [14, 4] (fun i v wr => i = .int .i64 0 ∧ v = .slice none 0 0 ∧ wr = w2) (fun _ _ _ => 0)
    case atStart => exact ⟨rfl, rfl, rfl⟩
    case round =>
      obtain ⟨rfl, rfl, rfl⟩ := hrel
      go_wp2_with fail
      refine (HC.out _).mono ?_
      rintro e w3 ⟨rfl, hb3⟩
      have R3 := hr2.later hb3
      have G3 := grown_onto G2 hb3
      clear hr2 hb3 G2
      go_wp2_with fail
      refine (rd_fail base g l a0 e0 3 _ R3).mono ?_
      rintro e w4 ⟨rfl, hr4, hg4⟩
      rw [HEF.out] at hr4
      have G4 := G3.trans hg4
      clear R3 hg4 G3
      go_wp2_with fail
      refine (rd_err base g l a0 e0 _ hr4).mono ?_
      rintro e w5 ⟨rfl, rfl⟩
      have HR4 := hid hr4
      clear hr4
      go_wp2_with fail
      try rw [Exit.noGoto_ret]
      go_ret
      rw [HQQ.out]
      exact ⟨⟨none, 0, rfl, World.ownsRow_nil _ _ _ _⟩, HR4.out, G4⟩
  · have HE : Hid (e0 = ez) := hid (by rw [HE0.out, if_neg h0])
    have hez0 : ez = 0 := by
      by_cases hz : ez = 0
      · exact hz
      · exact absurd (HZ'.out (by rw [HE.out]; exact hz)) h0
    have HE00 : Hid (e0 = 0) := hid (by rw [HE.out]; exact hez0)
    subst hez0
    have bn : ((n : Int) == 0) = false := by simp [h0]
    have bnn : (n == 0) = false := by simp [h0]
    clear h0 HF
    have hgb := hg1.size
    go_wp2_with fail
    all_goals (try go_step3)
    go_wp2_with fail
    go_loopw [14, 4] (fun i v wr => ∃ (k a' : Nat) (ns : List Nd) (AO : Option Addr) (cO : Nat), k ≤ n ∧ i = .int .i64 k ∧ v = .slice AO k cO ∧ Hid (nodesOut l k a0 = (ns, a', 0)) ∧ a' ≤ l.length ∧ wr.ownsRow w.heap.size 73 5 (.slice AO k cO) k (ncs ns) ∧ Rd wr base g l a' 0 ∧ w.grownBy wr (some g)) (fun i _ _ => n - (intOf i).toNat)
    case atStart => exact ⟨0, a0, [], none, 0, Nat.zero_le _, rfl, rfl, hid rfl, hna, World.ownsRow_nil _ _ _ _, hr1, hg1⟩
    case round =>
      obtain ⟨k, a', ns, AO, cO, hk, rfl, rfl, HS, ha', hrow, hr, hgr⟩ := hrel
      clear hr1 hg1
      have HNS : Hid (ns.length = k) := hid (by have := nodes_full (l := l) (a := a0) k (by rw [HS.out]); rw [HS.out] at this; exact this)
      have hwz := hgr.size
      by_cases hlt : k < n
      · have d1 : decide ((k : Int) < (n : Int)) = true := by simp; omega
        have HSTEP : Hid (nodesOut l (k + 1) a0 = (ns ++ [(nodeOut l a').1], (nodeOut l a').2)) := hid (by have := nodes_step (l := l) (a := a0) (k := k) (by rw [HS.out]); rw [HS.out] at this; exact this)
        have HSTOP : Hid ((nodeOut l a').2.2 ≠ 0 → Q = ([], (nodeOut l a').2)) := Lib.hid (fun hz => by
          have h1 := nodes_stuck (l := l) (a := a0) (k := k + 1) (by rw [HSTEP.out]; exact hz) n (by omega)
          rw [HSTEP.out] at h1
          have h2 := HQ1.out HE00.out (by rw [h1]; exact hz)
          rw [h2, h1])
        have B0 := Blk.new wr (ncells zn) 73
        have hbz := (Below.refl wr.heap.size wr).alloc (Nat.le_refl _) (.cells (ncells zn).toArray 73)
        have hra := hr.later hbz
        have hrwa := row_later hrow hbz
        have hga := grown_onto hgr hbz
        have hgx : g < wr.heap.size := hr.block.2
        have hnb : (Value.slice AO k cO).ownBlock ≠ some wr.heap.size := fun e => by
          have := hrow.lt _ e
          omega
        obtain ⟨Bx, hBx⟩ : ∃ B, B = wr.heap.size := ⟨_, rfl⟩
        have hwb : w.heap.size ≤ Bx := by omega
        have hgB : g < Bx := by omega
        rw [← hBx] at B0 hnb
        obtain ⟨W0, hW0⟩ : ∃ W0, W0 = wr.alloc (.cells (ncells zn).toArray 73) := ⟨_, rfl⟩
        have HW0 := hid hW0
        have HBX := hid hBx
        rw [← hW0] at B0 hra hrwa hga
        have hW0z : W0.heap.size = Bx + 1 := by rw [hW0, hBx]; simp
        clear hW0 hbz hr hrow hgr hgx hBx
        have HRW := hid hrwa
        have HGA := hid hga
        have HNBK := hid hnb
        have HWB := hid hwb
        have HGB := hid hgB
        have HW0Z := hid hW0z
        have HGLT := hid hgl
        clear hrwa hga hnb hwb hgB hW0z hwz hgb hgl
        have T0 := hid (fun wx (h1 : Rd wx base g l a' 0) (h2 : Blk wx Bx (ncells (0, 0, zv))) => take0_any base g Bx l a' wx h1 h2 HGB.out ha' hm)
        have T1 := hid (fun wx (h0 : neA l a' = 0) (h1 : Rd wx base g l (naA l a') 0) (h2 : Blk wx Bx (ncells ((ndA l a' : Int), 0, zv))) => take1_any base g Bx l a' wx h0 h1 h2 HGB.out ha' hm)
        have T2 := hid (fun wx (h0 : (nB l a').2.2 = 0) (h1 : Rd wx base g l (nB l a').2.1 0) (h2 : Blk wx Bx (ncells ((ndA l a' : Int), ((nB l a').1 : Int), zv))) => take2_any base g Bx l a' wx h0 h1 h2 HGB.out ha' hm)
        have P1 := hid (fun h => nA_stop (l := l) (a := a') h)
        have P2 := hid (fun h => nB_stop (l := l) (a := a') h)
        have hqa : (nodeOut l a').2.1 ≤ l.length := nodeOut_at ha'
        obtain ⟨⟨⟨o1, m1, y0, y1, y2⟩, a3, e3⟩, hq3⟩ : ∃ q, q = nodeOut l a' := ⟨_, rfl⟩
        rw [← hq3] at HSTEP HSTOP P1 P2 hqa
        simp only [← hq3] at T2
        simp only at HSTEP HSTOP P1 P2 hqa
        obtain ⟨⟨m, a2, e2⟩, hq2⟩ : ∃ q, q = nB l a' := ⟨_, rfl⟩
        simp only [← hq2] at T1 T2 P2
        obtain ⟨aA, haA⟩ : ∃ q, q = naA l a' := ⟨_, rfl⟩
        obtain ⟨eA, heA⟩ : ∃ q, q = neA l a' := ⟨_, rfl⟩
        simp only [← haA, ← heA] at T0 T1 P1
        obtain ⟨op, hop⟩ : ∃ q : Int, q = (ndA l a' : Int) := ⟨_, rfl⟩
        simp only [← hop] at T0 T1 T2
        have C0 := hid (fun wx (h : wx.ownsRow w.heap.size 73 5 (.slice AO k cO) k (ncs ns)) => lcheck_any AO k cO ns wx HNS.out (row_sees h))
        have HLC := hid (lchk_few (l := ns) (by rw [HNS.out]; omega))
        obtain ⟨cc, hcc⟩ : ∃ cc, cc = lchk ns := ⟨_, rfl⟩
        rw [← hcc] at C0 HLC
        clear hq3 hq2 haA heA hop hcc
        go_wp2_with fail
        rw [show wr.alloc (.cells #[.int .i64 0, .int .i64 0, .int .i64 0, .int .i64 0, .string ⟨#[]⟩] 73) = W0 from HW0.out.symm, ← HBX.out]
        go_loopw [16] (fun i wq => Hid (Grown2 W0 wq g Bx) ∧ ((i = .int .i64 0 ∧ Rd wq base g l a' 0 ∧ Blk wq Bx (ncells (0, 0, zv))) ∨ (i = .int .i64 1 ∧ Hid (eA = 0) ∧ Rd wq base g l aA 0 ∧ Blk wq Bx (ncells (op, 0, zv))) ∨ (i = .int .i64 2 ∧ Hid (e2 = 0) ∧ Rd wq base g l a2 0 ∧ Blk wq Bx (ncells (op, (m : Int), zv))) ∨ (i = .int .i64 3 ∧ Hid (e3 = 0) ∧ Rd wq base g l a3 0 ∧ Blk wq Bx (ncells (o1, m1, y0, y1, y2))))) (fun i _ => 3 - (intOf i).toNat)
        case atStart => exact ⟨hid (Grown2.refl _ _ _), .inl ⟨rfl, hra, B0⟩⟩
        case round =>
          obtain ⟨HG2, hcase⟩ := hrel
          clear hra B0
          rcases hcase with ⟨rfl, hr, hB⟩ | ⟨rfl, HZA, hr, hB⟩ | ⟨rfl, HZ2, hr, hB⟩ | ⟨rfl, HZ3, hr, hB⟩
          · go_wp2_with fail
            refine (T0.out _ hr hB).mono ?_
            rintro e w3 ⟨rfl, hr3, hB3, hg3⟩
            have HG3 := hid (HG2.out.trans hg3)
            have HR3 := hid hr3
            have HB3 := hid hB3
            clear hr hB hr3 hB3 hg3 HG2
            go_wp2_with fail
            refine (rd_err base g l aA eA _ HR3.out).mono ?_
            rintro e w4 ⟨rfl, rfl⟩
            by_cases hz : eA = 0
            · have HZN := hid hz
              rw [hz] at HR3
              rw [hz]
              clear hz
              go_wp2_with fail
              go_roundw
              case rel => exact ⟨HG3, .inr (.inl ⟨rfl, HZN, HR3.out, HB3.out⟩)⟩
              case measure => simp [intOf]
            · have bz : (eA != 0) = true := by simp [hz]
              have HNE := hid hz
              have HQQ : Hid (Q = ([], aA, eA)) := hid (by have h1 := P1.out hz; injection h1 with h1 h2; have h3 := HSTOP.out (by rw [h2]; exact hz); rw [h3, h1, h2])
              have HROW := hid (row_two HRW.out HG3.out HGLT.out HNBK.out)
              have HR4 := HR3
              have HG4 := hid (grown_two HGA.out HG3.out HWB.out)
              clear hz HG3 HR3 HB3
              go_wp2_with fail
              refine (C0.out _ HROW.out).mono ?_
              rintro e w5 ⟨rfl, hb5⟩
              have HR5 := hid (HR4.out.later hb5)
              have HG5 := hid (grown_onto HG4.out hb5)
              clear hb5 HR4 HG4 HROW
              rcases HLC.out with rfl | rfl | rfl
              · go_wp2_with fail
                refine (rd_err base g l aA eA _ HR5.out).mono ?_
                rintro e w7 ⟨rfl, rfl⟩
                go_wp2_with fail
                try rw [Exit.noGoto_ret]
                go_ret
                rw [HQQ.out]
                exact ⟨⟨none, 0, rfl, World.ownsRow_nil _ _ _ _⟩, HR5.out, HG5.out⟩
              · go_wp2_with fail
                refine (rd_fail base g l aA eA 3 _ HR5.out).mono ?_
                rintro e w6 ⟨rfl, hr6, hg6⟩
                rw [failOut_not _ _ HNE.out] at hr6
                have HR6 := hid hr6
                have HG6 := hid (HG5.out.trans hg6)
                clear hr6 hg6 HR5 HG5
                go_wp2_with fail
                refine (rd_err base g l aA eA _ HR6.out).mono ?_
                rintro e w7 ⟨rfl, rfl⟩
                go_wp2_with fail
                try rw [Exit.noGoto_ret]
                go_ret
                rw [HQQ.out]
                exact ⟨⟨none, 0, rfl, World.ownsRow_nil _ _ _ _⟩, HR6.out, HG6.out⟩
              · go_wp2_with fail
                refine (rd_fail base g l aA eA 5 _ HR5.out).mono ?_
                rintro e w6 ⟨rfl, hr6, hg6⟩
                rw [failOut_not _ _ HNE.out] at hr6
                have HR6 := hid hr6
                have HG6 := hid (HG5.out.trans hg6)
                clear hr6 hg6 HR5 HG5
                go_wp2_with fail
                refine (rd_err base g l aA eA _ HR6.out).mono ?_
                rintro e w7 ⟨rfl, rfl⟩
                go_wp2_with fail
                try rw [Exit.noGoto_ret]
                go_ret
                rw [HQQ.out]
                exact ⟨⟨none, 0, rfl, World.ownsRow_nil _ _ _ _⟩, HR6.out, HG6.out⟩
          · go_wp2_with fail
            refine (T1.out _ HZA.out hr hB).mono ?_
            rintro e w3 ⟨rfl, hr3, hB3, hg3⟩
            have HG3 := hid (HG2.out.trans hg3)
            have HR3 := hid hr3
            have HB3 := hid hB3
            clear hr hB hr3 hB3 hg3 HG2
            go_wp2_with fail
            refine (rd_err base g l a2 e2 _ HR3.out).mono ?_
            rintro e w4 ⟨rfl, rfl⟩
            by_cases hz : e2 = 0
            · have HZN := hid hz
              rw [hz] at HR3
              rw [hz]
              clear hz
              go_wp2_with fail
              go_roundw
              case rel => exact ⟨HG3, .inr (.inr (.inl ⟨rfl, HZN, HR3.out, HB3.out⟩))⟩
              case measure => simp [intOf]
            · have bz : (e2 != 0) = true := by simp [hz]
              have HNE := hid hz
              have HQQ : Hid (Q = ([], a2, e2)) := hid (by have h1 := P2.out hz; injection h1 with h1 h2; have h3 := HSTOP.out (by rw [h2]; exact hz); rw [h3, h1, h2])
              have HROW := hid (row_two HRW.out HG3.out HGLT.out HNBK.out)
              have HR4 := HR3
              have HG4 := hid (grown_two HGA.out HG3.out HWB.out)
              clear hz HG3 HR3 HB3
              go_wp2_with fail
              refine (C0.out _ HROW.out).mono ?_
              rintro e w5 ⟨rfl, hb5⟩
              have HR5 := hid (HR4.out.later hb5)
              have HG5 := hid (grown_onto HG4.out hb5)
              clear hb5 HR4 HG4 HROW
              rcases HLC.out with rfl | rfl | rfl
              · go_wp2_with fail
                refine (rd_err base g l a2 e2 _ HR5.out).mono ?_
                rintro e w7 ⟨rfl, rfl⟩
                go_wp2_with fail
                try rw [Exit.noGoto_ret]
                go_ret
                rw [HQQ.out]
                exact ⟨⟨none, 0, rfl, World.ownsRow_nil _ _ _ _⟩, HR5.out, HG5.out⟩
              · go_wp2_with fail
                refine (rd_fail base g l a2 e2 3 _ HR5.out).mono ?_
                rintro e w6 ⟨rfl, hr6, hg6⟩
                rw [failOut_not _ _ HNE.out] at hr6
                have HR6 := hid hr6
                have HG6 := hid (HG5.out.trans hg6)
                clear hr6 hg6 HR5 HG5
                go_wp2_with fail
                refine (rd_err base g l a2 e2 _ HR6.out).mono ?_
                rintro e w7 ⟨rfl, rfl⟩
                go_wp2_with fail
                try rw [Exit.noGoto_ret]
                go_ret
                rw [HQQ.out]
                exact ⟨⟨none, 0, rfl, World.ownsRow_nil _ _ _ _⟩, HR6.out, HG6.out⟩
              · go_wp2_with fail
                refine (rd_fail base g l a2 e2 5 _ HR5.out).mono ?_
                rintro e w6 ⟨rfl, hr6, hg6⟩
                rw [failOut_not _ _ HNE.out] at hr6
                have HR6 := hid hr6
                have HG6 := hid (HG5.out.trans hg6)
                clear hr6 hg6 HR5 HG5
                go_wp2_with fail
                refine (rd_err base g l a2 e2 _ HR6.out).mono ?_
                rintro e w7 ⟨rfl, rfl⟩
                go_wp2_with fail
                try rw [Exit.noGoto_ret]
                go_ret
                rw [HQQ.out]
                exact ⟨⟨none, 0, rfl, World.ownsRow_nil _ _ _ _⟩, HR6.out, HG6.out⟩
          · go_wp2_with fail
            refine (T2.out _ HZ2.out hr hB).mono ?_
            rintro e w3 ⟨rfl, hr3, hB3, hg3⟩
            have HG3 := hid (HG2.out.trans hg3)
            have HR3 := hid hr3
            have HB3 := hid hB3
            clear hr hB hr3 hB3 hg3 HG2
            go_wp2_with fail
            refine (rd_err base g l a3 e3 _ HR3.out).mono ?_
            rintro e w4 ⟨rfl, rfl⟩
            by_cases hz : e3 = 0
            · have HZN := hid hz
              rw [hz] at HR3
              rw [hz]
              clear hz
              go_wp2_with fail
              go_roundw
              case rel => exact ⟨HG3, .inr (.inr (.inr ⟨rfl, HZN, HR3.out, HB3.out⟩))⟩
              case measure => simp [intOf]
            · have bz : (e3 != 0) = true := by simp [hz]
              have HNE := hid hz
              have HQQ : Hid (Q = ([], a3, e3)) := hid (HSTOP.out hz)
              have HROW := hid (row_two HRW.out HG3.out HGLT.out HNBK.out)
              have HR4 := HR3
              have HG4 := hid (grown_two HGA.out HG3.out HWB.out)
              clear hz HG3 HR3 HB3
              go_wp2_with fail
              refine (C0.out _ HROW.out).mono ?_
              rintro e w5 ⟨rfl, hb5⟩
              have HR5 := hid (HR4.out.later hb5)
              have HG5 := hid (grown_onto HG4.out hb5)
              clear hb5 HR4 HG4 HROW
              rcases HLC.out with rfl | rfl | rfl
              · go_wp2_with fail
                refine (rd_err base g l a3 e3 _ HR5.out).mono ?_
                rintro e w7 ⟨rfl, rfl⟩
                go_wp2_with fail
                try rw [Exit.noGoto_ret]
                go_ret
                rw [HQQ.out]
                exact ⟨⟨none, 0, rfl, World.ownsRow_nil _ _ _ _⟩, HR5.out, HG5.out⟩
              · go_wp2_with fail
                refine (rd_fail base g l a3 e3 3 _ HR5.out).mono ?_
                rintro e w6 ⟨rfl, hr6, hg6⟩
                rw [failOut_not _ _ HNE.out] at hr6
                have HR6 := hid hr6
                have HG6 := hid (HG5.out.trans hg6)
                clear hr6 hg6 HR5 HG5
                go_wp2_with fail
                refine (rd_err base g l a3 e3 _ HR6.out).mono ?_
                rintro e w7 ⟨rfl, rfl⟩
                go_wp2_with fail
                try rw [Exit.noGoto_ret]
                go_ret
                rw [HQQ.out]
                exact ⟨⟨none, 0, rfl, World.ownsRow_nil _ _ _ _⟩, HR6.out, HG6.out⟩
              · go_wp2_with fail
                refine (rd_fail base g l a3 e3 5 _ HR5.out).mono ?_
                rintro e w6 ⟨rfl, hr6, hg6⟩
                rw [failOut_not _ _ HNE.out] at hr6
                have HR6 := hid hr6
                have HG6 := hid (HG5.out.trans hg6)
                clear hr6 hg6 HR5 HG5
                go_wp2_with fail
                refine (rd_err base g l a3 e3 _ HR6.out).mono ?_
                rintro e w7 ⟨rfl, rfl⟩
                go_wp2_with fail
                try rw [Exit.noGoto_ret]
                go_ret
                rw [HQQ.out]
                exact ⟨⟨none, 0, rfl, World.ownsRow_nil _ _ _ _⟩, HR6.out, HG6.out⟩
          · -- the node is whole
            have HROW := hid (row_two HRW.out HG2.out HGLT.out HNBK.out)
            have HG4 := hid (grown_two HGA.out HG2.out HWB.out)
            have HRD := hid hr
            have hwq := HG4.out.size
            have RG : wr.rangeAt Bx 0 [.int .i64 o1, .int .i64 m1, .int .i64 y0, .int .i64 y1, .string y2] := hB.range 0 _ rfl
            have HNEW : Hid (nodesOut l (k + 1) a0 = (ns ++ [(o1, m1, y0, y1, y2)], a3, 0)) := hid (by rw [HSTEP.out, HZ3.out])
            have HNC : Hid (ncs ns ++ [.int .i64 o1, .int .i64 m1, .int .i64 y0, .int .i64 y1, .string y2] = ncs (ns ++ [(o1, m1, y0, y1, y2)])) := hid (by rw [ncs_append]; rfl)
            have HR1 := hid (World.ownsRow.alloc HROW.out (.cells #[.int .i64 o1, .int .i64 m1, .int .i64 y0, .int .i64 y1, .string y2] 73))
            clear hr hB HG2 hwq
            have hwq := HG4.out.size
            go_wp2_with (first
              | (refine wpList_load_mid rfl 73 (.tmp 5) rfl Bx 0 rfl [.int .i64 o1, .int .i64 m1, .int .i64 y0, .int .i64 y1, .string y2] _ RG hu rfl info_node ?_)
              | (at_builtin
                 refine wpList_appk _ rfl (.tmp 26) (.tmp 28) 39 rfl w.heap.size 73 i1 _ 5 48 Tryz.underlying39 ji jz0 jz1 jz2 rfl (by decide) (.slice AO k cO) k (ncs ns) rfl HR1.out (wr.heap.size + 1) (some ⟨wr.heap.size, 0, none⟩) 1 [.int .i64 o1, .int .i64 m1, .int .i64 y0, .int .i64 y1, .string y2] 1 rfl rfl (sees_lit wr #[.int .i64 o1, .int .i64 m1, .int .i64 y0, .int .i64 y1, .string y2] 73 (0, 0) [.int .i64 o1, .int .i64 m1, .int .i64 y0, .int .i64 y1, .string y2] rfl) (by simp [Value.oneCell']) (by unfold maxLen; omega) (by omega) (by simp; omega) ?_
                 intro A3 c3 w3 hr3 hb3 hg3 hat3)
              | fail)
            rw [HNC.out] at hr3
            have hbz3 := (Below.refl wr.heap.size wr).alloc (Nat.le_refl _) (.cells #[.int .i64 o1, .int .i64 m1, .int .i64 y0, .int .i64 y1, .string y2] 73)
            have hR5 := (HRD.out.later hbz3).row hg3 (fun q hq => by have := (HR1.out.lt q hq).1; have := HGLT.out; omega)
            have hG5 := grown_row (grown_onto HG4.out hbz3) hg3 (fun q hq => (HR1.out.lt q hq).1)
            clear hbz3 RG
            go_roundw
            case rel => exact ⟨k + 1, a3, ns ++ [(o1, m1, y0, y1, y2)], A3, c3, by omega, by go_num, rfl, HNEW, hqa, hr3, hR5, hG5⟩
            case measure => simp [intOf]; omega
      · obtain rfl : k = n := by omega
        have HLC := lchk_few (l := ns) (by rw [HNS.out]; omega)
        have C0 := hid (lcheck_any AO k cO ns wr HNS.out (row_sees hrow))
        have HQA : Hid (lchk ns = 0 → Q = (ns, a', 0)) := hid (fun hz => by rw [HQ2.out HE00.out (by rw [HS.out]) (by rw [HS.out]; exact hz), HS.out])
        have HQB : Hid (lchk ns ≠ 0 → Q = ([], a', if lchk ns = 1 then 3 else lchk ns)) := hid (fun hz => by rw [HQ3.out HE00.out (by rw [HS.out]) (by rw [HS.out]; exact hz), HS.out])
        obtain ⟨cc, hcc⟩ : ∃ cc, cc = lchk ns := ⟨_, rfl⟩
        rw [← hcc] at C0 HLC HQA HQB
        have HROW := hid hrow
        have HRD := hid hr
        have HGR := hid hgr
        clear hcc hrow hr hgr
        rcases HLC with rfl | rfl | rfl
        · have HQQ := hid (HQA.out rfl)
          go_wp2_with fail
          refine C0.out.mono ?_
          rintro e w5 ⟨rfl, hb5⟩
          have HR5 := hid (HRD.out.later hb5)
          have HG5 := hid (grown_onto HGR.out hb5)
          have HW5 := hid (row_later HROW.out hb5)
          clear hb5
          go_wp2_with fail
          refine (rd_err base g l a' 0 _ HR5.out).mono ?_
          rintro e w7 ⟨rfl, rfl⟩
          go_wp2_with fail
          try rw [Exit.noGoto_ret]
          go_ret
          rw [HQQ.out]
          refine ⟨⟨AO, cO, ?_, ?_⟩, HR5.out, HG5.out⟩
          · rw [HNS.out]; rfl
          · rw [HNS.out]; exact HW5.out
        · have HQQ : Hid (Q = ([], a', 3)) := hid (HQB.out (by decide))
          go_wp2_with fail
          refine C0.out.mono ?_
          rintro e w5 ⟨rfl, hb5⟩
          have HR5 := hid (HRD.out.later hb5)
          have HG5 := hid (grown_onto HGR.out hb5)
          clear hb5
          go_wp2_with fail
          refine (rd_fail base g l a' 0 3 _ HR5.out).mono ?_
          rintro e w6 ⟨rfl, hr6, hg6⟩
          rw [failOut_zero] at hr6
          have HR6 := hid hr6
          have HG6 := hid (HG5.out.trans hg6)
          clear hr6 hg6 HR5 HG5
          go_wp2_with fail
          refine (rd_err base g l a' 3 _ HR6.out).mono ?_
          rintro e w7 ⟨rfl, rfl⟩
          go_wp2_with fail
          try rw [Exit.noGoto_ret]
          go_ret
          rw [HQQ.out]
          exact ⟨⟨none, 0, rfl, World.ownsRow_nil _ _ _ _⟩, HR6.out, HG6.out⟩
        · have HQQ : Hid (Q = ([], a', 5)) := hid (HQB.out (by decide))
          go_wp2_with fail
          refine C0.out.mono ?_
          rintro e w5 ⟨rfl, hb5⟩
          have HR5 := hid (HRD.out.later hb5)
          have HG5 := hid (grown_onto HGR.out hb5)
          clear hb5
          go_wp2_with fail
          refine (rd_fail base g l a' 0 5 _ HR5.out).mono ?_
          rintro e w6 ⟨rfl, hr6, hg6⟩
          rw [failOut_zero] at hr6
          have HR6 := hid hr6
          have HG6 := hid (HG5.out.trans hg6)
          clear hr6 hg6 HR5 HG5
          go_wp2_with fail
          refine (rd_err base g l a' 5 _ HR6.out).mono ?_
          rintro e w7 ⟨rfl, rfl⟩
          go_wp2_with fail
          try rw [Exit.noGoto_ret]
          go_ret
          rw [HQQ.out]
          exact ⟨⟨none, 0, rfl, World.ownsRow_nil _ _ _ _⟩, HR6.out, HG6.out⟩
theorem Rr.row {w w' : World} {base g : Nat} {l : List UInt8} {e : Int} (h : Rr w base g l e) {row : Option Nat} (hg : w.grownBy w' row) (hr : ∀ q, row = some q → q ≠ g) : Rr w' base g l e := by
  unfold Rr at h ⊢
  refine World.ownsRow.kept h hg (.inr ?_)
  intro e
  exact hr g e.symm rfl
structure NSt (w : World) (base g G2 G3 : Nat) (l : List UInt8) (wx : World) (a : Nat) (e : Int) (nd : Nd) : Prop where
  rr : Rr wx base g (l.drop a) e
  b2 : Blk wx G2 (ncells zn)
  b3 : Blk wx G3 (ncells nd)
  gr : w.grownBy wx (some g)
  lt : g < w.heap.size
  le : w.heap.size ≤ G2
  l3 : G2 < G3
section
variable {w : World} {base g G2 G3 : Nat} {l : List UInt8} {wx wy : World} {a a' : Nat} {e e' : Int} {nd nd' : Nd}
theorem NSt.read (h : NSt w base g G2 G3 l wx a e nd) (hr : Rr wy base g (l.drop a') e') (hg : wx.grownBy wy (some g)) : NSt w base g G2 G3 l wy a' e' nd :=
  ⟨hr, h.b2.kept hg (by intro e; injection e; have := h.lt; have := h.le; omega), h.b3.kept hg (by intro e; injection e; have := h.lt; have := h.le; have := h.l3; omega), h.gr.trans hg, h.lt, h.le, h.l3⟩
theorem NSt.calm (h : NSt w base g G2 G3 l wx a e nd) (hb : Below wx.heap.size wx wy) : NSt w base g G2 G3 l wy a e nd :=
  ⟨h.rr.later hb, h.b2.later hb, h.b3.later hb, grown_onto h.gr hb, h.lt, h.le, h.l3⟩
theorem NSt.cell (h : NSt w base g G2 G3 l wx a e nd) (j : Nat) (v : Value) (hn : (ncells nd).set j v = ncells nd') : NSt w base g G2 G3 l (wx.setCell ⟨G3, j, none⟩ v) a e nd' :=
  ⟨h.rr.row (grown_setCell wx G3 j v) (fun q e => by injection e with e; have := h.lt; have := h.le; have := h.l3; omega), h.b2.setOther j v (by have := h.l3; omega), hn ▸ h.b3.set j v,
    grown_row h.gr (grown_setCell wx G3 j v) (fun q e => by injection e with e; have := h.le; have := h.l3; omega), h.lt, h.le, h.l3⟩
theorem NSt.val (h : NSt w base g G2 G3 l wx a e nd) (v : V3) : NSt w base g G2 G3 l (wx.setCells G3 2 (vcells v)) a e (nd.1, nd.2.1, v) :=
  ⟨h.rr.row (grown_sets G3 (vcells v) 2 wx) (fun q e => by injection e with e; have := h.lt; have := h.le; have := h.l3; omega), h.b2.setsOther (by have := h.l3; omega) _ _,
    (by
      have := h.b3.sets (vcells v) 2 (by rw [ncells_len]; show 2 + 3 ≤ 5; omega)
      exact this),
    grown_row h.gr (grown_sets G3 (vcells v) 2 wx) (fun q e => by injection e with e; have := h.le; have := h.l3; omega), h.lt, h.le, h.l3⟩
end
theorem rmost_any (op : Int) (w : World) (h : hasN op = true) : Calls Tryz.prog 85 #[.int .i64 op] w fun e w' => e = .returned (.int .i64 (npm op)) ∧ w = w' := by
  by_cases h3 : op = 3
  · subst h3; go_enter Tryz.func85, Tryz.ntmps85; go_wp2; go_ret; exact ⟨rfl, rfl⟩
  by_cases h4 : op = 4
  · subst h4; go_enter Tryz.func85, Tryz.ntmps85; go_wp2; go_ret; exact ⟨rfl, rfl⟩
  have hR : Hid (npm op = 7) := hid (by unfold npm; rw [if_neg (by omega), if_pos h])
  have b3 : (op == 3) = false := by simpa using h3
  have b4 : (op == 4) = false := by simpa using h4
  clear h3 h4 h
  go_enter Tryz.func85, Tryz.ntmps85
  go_wp2
  go_ret
  exact ⟨by rw [hR.out]; rfl, rfl⟩
end Go.Proofs.YtnhcjadkbogioaaGreat
