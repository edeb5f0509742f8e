/- A region that draws its order and makes two variables: they are two; then the tail's rule. -/
import Derived.Test.YtfoppjgjljellaaTail
namespace Go.Proofs.Ytfoppjgjljellaa
set_option linter.unusedVariables false
open Go Go.RowKit

/-- What two slots hold, if addresses of blocks, is there, and is not the same block. -/
def Two (d8 d9 : Tmp) (a : Act) (w : World) : Prop :=
  (∀ g, a.eval (.tmp d8) = .pointer (some ⟨g, 0, none⟩) → g < w.heap.size) ∧ (∀ g, a.eval (.tmp d9) = .pointer (some ⟨g, 0, none⟩) → g < w.heap.size) ∧
    ∀ g g', a.eval (.tmp d8) = .pointer (some ⟨g, 0, none⟩) → a.eval (.tmp d9) = .pointer (some ⟨g', 0, none⟩) → g ≠ g'
theorem Two.put {d8 d9 : Tmp} {a : Act} {w w' : World} (h : Two d8 d9 a w) (hd : d8 ≠ d9) (hl : w.heap.size ≤ w'.heap.size) {x : Option Tmp} {u : Value}
    (hu : x = some d8 ∨ x = some d9 → u = undef ∨ (u = .pointer (some ⟨w.heap.size, 0, none⟩) ∧ w.heap.size < w'.heap.size)) : Two d8 d9 (a.put x u) w' := by
  obtain ⟨h8, h9, hn⟩ := h
  by_cases e8 : x = some d8
  · have e9 : (a.put x u).eval (.tmp d9) = a.eval (.tmp d9) := eval_put_ne (by rw [e8]; intro e; injection e with e; exact hd e)
    have hs : ∀ g, (a.put x u).eval (.tmp d8) = .pointer (some ⟨g, 0, none⟩) → g = w.heap.size ∧ w.heap.size < w'.heap.size := fun g hg => by
      subst e8
      rcases eval_put_self (a := a) (u := u) (d := d8) with he | he
      · rw [he] at hg
        rcases hu (.inl rfl) with rfl | ⟨rfl, hlt⟩
        · cases hg
        · injection hg with hg; injection hg with hg; injection hg with hg; exact ⟨hg.symm, hlt⟩
      · rw [he] at hg; cases hg
    refine ⟨fun g hg => ?_, fun g hg => ?_, fun g g' hg hg' => ?_⟩
    · obtain ⟨e, hlt⟩ := hs g hg; omega
    · rw [e9] at hg; exact Nat.lt_of_lt_of_le (h9 g hg) hl
    · obtain ⟨e, hlt⟩ := hs g hg
      rw [e9] at hg'
      have := h9 g' hg'
      omega
  · have e8' : (a.put x u).eval (.tmp d8) = a.eval (.tmp d8) := eval_put_ne e8
    by_cases e9 : x = some d9
    · have hs : ∀ g, (a.put x u).eval (.tmp d9) = .pointer (some ⟨g, 0, none⟩) → g = w.heap.size ∧ w.heap.size < w'.heap.size := fun g hg => by
        subst e9
        rcases eval_put_self (a := a) (u := u) (d := d9) with he | he
        · rw [he] at hg
          rcases hu (.inr rfl) with rfl | ⟨rfl, hlt⟩
          · cases hg
          · injection hg with hg; injection hg with hg; injection hg with hg; exact ⟨hg.symm, hlt⟩
        · rw [he] at hg; cases hg
      refine ⟨fun g hg => ?_, fun g hg => ?_, fun g g' hg hg' => ?_⟩
      · rw [e8'] at hg; exact Nat.lt_of_lt_of_le (h8 g hg) hl
      · obtain ⟨e, hlt⟩ := hs g hg; omega
      · obtain ⟨e, hlt⟩ := hs g' hg'
        rw [e8'] at hg
        have := h8 g hg
        omega
    · have e9' : (a.put x u).eval (.tmp d9) = a.eval (.tmp d9) := eval_put_ne e9
      refine ⟨fun g hg => ?_, fun g hg => ?_, fun g g' hg hg' => ?_⟩
      · rw [e8'] at hg; exact Nat.lt_of_lt_of_le (h8 g hg) hl
      · rw [e9'] at hg; exact Nat.lt_of_lt_of_le (h9 g hg) hl
      · rw [e8'] at hg; rw [e9'] at hg'; exact hn g g' hg hg'

section
variable {P : Program} {ops : Array Oper} {md : Region.Mode} {G : Tmp → Option Rel} {w0 : World} {n : Nat} {L : Array Bool → Act → Prop}
theorem wpAny_of_H2 {g : Nat} {Q : Exit → Act → World → Prop} (d8 d9 : Tmp) (hd : d8 ≠ d9) (ob : Obj)
    (hA : ∀ (i : Nat) (o : Oper), ops[i]? = some o → o.dst = some d8 ∨ o.dst = some d9 → ∀ (a : Act) w, (execOp a.eval o).run P w = .ok (.value (.pointer (some ⟨w.heap.size, 0, none⟩))) (w.alloc ob))
    (hF : Fed ops md G) (hL : ∀ listed a w, L listed a → Inv ops G w0 listed a w → Two d8 d9 a w → wpAny P md ops Q g listed a w) :
    ∀ (f : Nat) (listed : Array Bool) (a : Act) (w : World), Inv ops G w0 listed a w → Two d8 d9 a w → wpAnyH P ops md G w0 n L f listed a → wpAny P md ops Q (f + g) listed a w
  | 0, _, _, w, hw, h2, h => by rw [Nat.zero_add]; exact hL _ _ w h hw h2
  | fuel + 1, listed, a, w, hw, h2, h => by
    rw [show fuel + 1 + g = (fuel + g) + 1 by omega]
    refine ⟨fun h0 => absurd h0 h.1, fun i hi => ?_⟩
    obtain ⟨hun, o, ho, _⟩ := mem_ready.1 hi
    obtain ⟨hg, hn⟩ := (h.2 i hi).2 o ho
    unfold wpOp
    simp only [ho]
    by_cases hwt : Region.wanted o (yielded ops a.tmps) = true
    · simp only [hwt, if_true]
      left
      have h1 := hg hwt w (hw.lean hF hi ho)
      have next : ∀ u w', Le w w' → relOf P G w0 o a u w' → (o.dst = some d8 ∨ o.dst = some d9 → u = undef ∨ (u = .pointer (some ⟨w.heap.size, 0, none⟩) ∧ w.heap.size < w'.heap.size)) → wpAny P md ops Q (fuel + g) (listed.setIfInBounds i true) (a.put o.dst u) w' := fun u w' hl hr hu => by
        have hI := (hw.mono hl).put hF ho (u := u) (fun d R hd hR _ => rel_of hr d R hd hR)
        exact wpAny_of_H2 d8 d9 hd ob hA hF hL fuel _ _ w' hI (h2.put hd hl.size hu) (hn u (.inl ⟨hwt, ⟨w', hI⟩, ⟨w', hr⟩⟩))
      have hA' := fun hx => hA i o ho hx a w
      unfold gives at h1
      unfold Oper.wp
      generalize (execOp a.eval o).run P w = r at *
      cases r with
      | ok n w' =>
        cases n <;> simp only [givesUpon] at h1 <;> simp only [Oper.upon]
        case value u => exact next _ _ h1.1 h1.2 (fun hx => by
          have := hA' hx
          injection this with e1 e2
          injection e1 with e1
          subst e1; subst e2
          exact .inr ⟨rfl, by simp⟩)
        case skip => exact next _ _ h1.1 h1.2 (fun hx => .inl rfl)
        case enter f args =>
          refine h1.2.mono ?_
          rintro e w'' ⟨v, he, hl, hr⟩
          subst he
          exact next _ _ (h1.1.trans hl) hr (fun hx => by have := hA' hx; injection this with e1 e2; cases e1)
      | halt x w' => simp only [givesUpon] at h1
    · simp only [hwt]
      exact wpAny_of_H2 d8 d9 hd ob hA hF hL fuel _ _ w (hw.put hF ho (fun d R hd hR h => absurd rfl h)) (h2.put hd (Nat.le_refl _) (fun _ => .inl rfl)) (hn undef (.inr ⟨by simpa using hwt, rfl⟩))
end

/-- The tail's rule where two of the first operations make variables. -/
theorem wp_region_tail2 {P : Program} {id : Nat} {Q : Exit → Act → World → Prop} {a : Act} {w : World} {l : List Oper} (d8 d9 : Tmp) (hd : d8 ≠ d9) (ob : Obj)
    (hA : ∀ (i : Nat) (o : Oper), l.toArray[i]? = some o → o.dst = some d8 ∨ o.dst = some d9 → ∀ (a : Act) w, (execOp a.eval o).run P w = .ok (.value (.pointer (some ⟨w.heap.size, 0, none⟩))) (w.alloc ob))
    (h2 : ∀ w, Two d8 d9 a w)
    (g : List (Tmp × Rel)) (nt m : Nat) (hm : P.follows .mixedOrders = true) (hB : Region.lexTailB .any l.toArray m = true)
    (hf : fedB l (g.map (·.1)) nt = true) (hn : a.tmps.size = nt) (h : wpG P l.toArray (openOf g) w (fun a' w' => Two d8 d9 a' w' → wpList P l.toArray Q (l.drop m) a' w') (l.take m) a (fun _ => True)) : (Code.region id l.toArray true).wp P Q a w := by
  simp only [Region.lexTailB, Bool.and_eq_true, decide_eq_true_eq] at hB
  obtain ⟨⟨⟨⟨hsel, hn'⟩, hs⟩, hc⟩, hlex⟩ := hB
  obtain ⟨hF, hd'⟩ := fedB_fed (n := nt) hf
  have hnl : m < l.length := by simpa using hn'
  have htl : (l.take m).length = m := by simp; omega
  have hdl : (l.drop m).length = l.toArray.size - m := by simp
  have hI : ∀ w', Le w w' → Inv l.toArray (openOf g) w (Array.replicate l.toArray.size false) a w' := fun w' hl => ⟨hl, fun k o d R _ hk => by
    exfalso
    rw [getD_replicate_false] at hk
    cases hk⟩
  have inv0 : HeadInv .any l.toArray m (Array.replicate l.toArray.size false) :=
    ⟨by simp, fun j oj _ hl => (by rw [getD_replicate_false] at hl; cases hl), fun t _ ht => getD_in (by simpa using ht) (getD_replicate_false _ _)⟩
  have H := wpAnyH_lex (md := .any) (g := l.toArray.size - m) hF hsel hs hc hn' nt hd' (l.take m) 0 _ a (fun _ => True) (fun j hj => by
    have hj' : j < m := by rw [htl] at hj; exact hj
    simp [hj']) (by simpa using htl) inv0 (by rw [htl]; exact hlex) hn ⟨_, hI w (Le.refl w)⟩ (fun _ _ => trivial) h
  refine wp_region_any hm ?_
  have := wpAny_of_H2 (Q := Q) (g := l.toArray.size - m) d8 d9 hd ob hA hF (fun listed a' w' hL hw h2 => by
    have := wpAny_of_seq (md := .any) (Q' := Q) (l.drop m) m listed a' w' (fun j => by simp [List.getElem?_drop]) (by rw [hdl]; exact hL.1) (hL.2 w' hw h2)
    rwa [hdl] at this) _ _ _ _ (hI { w with drawn := w.drawn + 1 } ((Below.refl _ _).drew)) (h2 _) H
  rw [htl, show m + (l.toArray.size - m) = l.toArray.size by omega] at this
  exact this
end Go.Proofs.Ytfoppjgjljellaa
